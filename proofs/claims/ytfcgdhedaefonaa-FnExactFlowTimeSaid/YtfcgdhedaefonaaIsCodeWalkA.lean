/-
  The walk of the model spec.IsCode: it answers codeB.
-/
import Derived.Test.YtfcgdhedaefonaaRows
import Derived.Test.YtfcgdhedaefonaaIsCodeLib
import Derived.WalkKit
import Derived.WalkSpells
import Derived.Lib.Hide
namespace Go.Proofs.Ytfcgdhedaefonaa.isCode
open Go.RowKit

set_option maxRecDepth 100000 in
set_option maxHeartbeats 400000 in
theorem spec_walk (s : ByteArray) (w : World) (hs : s.size ≤ maxLen) :
    Calls Try.prog 50 #[.string s] w fun e w' => e = .returned (.bool (codeB s)) ∧ w' = w := by
  unfold maxLen at hs
  go_enter Try.func50, Try.ntmps50
  go_wp2
  go_loop [3] (fun i => ∃ k : Nat, k ≤ s.size ∧ i = .int .i64 k ∧ okTo s k) (fun i => s.size - (intOf i).toNat)
  case atStart => exact ⟨0, Nat.zero_le _, rfl, okTo_zero s⟩
  case round =>
    obtain ⟨k, hk, rfl, hok⟩ := hrel
    by_cases hlt : k < s.size
    · have hb := byte_lt s k hlt
      rcases classes k (s[k]'hlt).toNat with ⟨h1, h2⟩ | (⟨h0, h1⟩ | ⟨h0, h1⟩) | ⟨h0, h1, h2⟩ | ⟨h0, h1, h2⟩ | (⟨h0, h1⟩ | ⟨h0, h1, h2⟩ | ⟨h0, h1, h2⟩ | ⟨h0, h1⟩)
      · have hn := okTo_succ hok hlt (okB_cap h1 h2)
        go_wp2
        go_round
        case rel => exact ⟨k + 1, by omega, by go_num, hn⟩
        case measure => simp [intOf]; omega
      iterate 2
        · have HN := Lib.hid (codeB_no k hlt (okB_zero (by omega) (by omega)))
          have e0 : ((k : Int) == 0) = true := beq_iff_eq.2 (by omega)
          try have d1 : decide (((s[k]'hlt).toNat : Int) ≤ 90) = false := decide_eq_false (by omega)
          go_wp2
          go_ret
          exact ⟨ret_bool HN.out.symm, rfl⟩
      · have hn := okTo_succ hok hlt (okB_dig (by omega) h1 h2)
        have e0 : ((k : Int) == 0) = false := beq_eq_false_iff_ne.2 (by omega)
        go_wp2
        go_round
        case rel => exact ⟨k + 1, by omega, by go_num, hn⟩
        case measure => simp [intOf]; omega
      · have hn := okTo_succ hok hlt (okB_dash (by omega) (by omega))
        have e0 : ((k : Int) == 0) = false := beq_eq_false_iff_ne.2 (by omega)
        have e1 : (((s[k]'hlt).toNat : Int) != 45) = false := by rw [bne_eq_false_iff_eq]; omega
        go_wp2
        go_round
        case rel => exact ⟨k + 1, by omega, by go_num, hn⟩
        case measure => simp [intOf]; omega
      iterate 4
        · have HN := Lib.hid (codeB_no k hlt (okB_other (by omega) (by omega) (by omega)))
          have e0 : ((k : Int) == 0) = false := beq_eq_false_iff_ne.2 (by omega)
          have e1 : (((s[k]'hlt).toNat : Int) != 45) = true := by rw [bne_iff_ne]; omega
          try have d1 : decide (((s[k]'hlt).toNat : Int) ≤ 90) = false := decide_eq_false (by omega)
          go_wp2
          go_ret
          exact ⟨ret_bool HN.out.symm, rfl⟩
    · have hall := okTo_all hok (Nat.le_of_not_lt hlt)
      by_cases h1 : 1 ≤ s.size
      · by_cases h8 : s.size ≤ 8
        · have HN := Lib.hid (codeB_yes h1 h8 hall)
          have d8 : decide ((s.size : Int) ≤ 8) = true := decide_eq_true (by omega)
          clear hall hok
          go_wp2
          go_ret
          exact ⟨ret_bool HN.out.symm, rfl⟩
        · have HN := Lib.hid (codeB_len (s := s) (by omega))
          have d8 : decide ((s.size : Int) ≤ 8) = false := decide_eq_false (by omega)
          clear hall hok
          go_wp2
          go_ret
          exact ⟨ret_bool HN.out.symm, rfl⟩
      · have HN := Lib.hid (codeB_len (s := s) (by omega))
        clear hall hok
        go_wp2
        go_ret
        exact ⟨ret_bool HN.out.symm, rfl⟩
end Go.Proofs.Ytfcgdhedaefonaa.isCode
