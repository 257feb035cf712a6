/-
  The walk of the program's IsCode: it answers codeB, and leaves behind it only the block of its range over the string.
-/
import Derived.Test.YtfcgdhedaefonaaRows
import Derived.Test.YtfcgdhedaefonaaIsCodeLib
import Derived.WalkKit
import Derived.WalkSpells
import Derived.Lib.Hide
namespace Go.Proofs.Ytfcgdhedaefonaa.isCode
open Go.RowKit

/-- The post of the walk. -/
def Iters (s : ByteArray) (w : World) (e : Ending) (w' : World) : Prop := e = .returned (.bool (codeB s)) ∧ (w' = w ∨ ∃ pos, w' = w.iter s pos)

/-- The rune that the range gives at a byte beyond ASCII is beyond ASCII. -/
theorem high (s : ByteArray) (k : Nat) (h : k < s.size) (ha : 128 ≤ (s[k]'h).toNat) : 128 ≤ (Utf8.decode s k).1 := (decode_high s k h ha).1

set_option maxRecDepth 100000 in
set_option maxHeartbeats 400000 in
theorem impl_walk (s : ByteArray) (w : World) (hs : s.size ≤ maxLen) :
    Calls Try.prog 51 #[.string s] w (Iters s w) := by
  unfold maxLen at hs
  by_cases hl : 1 ≤ s.size ∧ s.size ≤ 8
  · obtain ⟨h1, h8⟩ := hl
    go_enter Try.func51, Try.ntmps51
    go_wp2
    go_loopw [3, 4] (fun _ _ w' => ∃ k : Nat, k ≤ s.size ∧ w' = w.iter s k ∧ okTo s k) (fun _ _ w' => s.size - w'.iterPos w.heap.size)
    case atStart => exact ⟨0, Nat.zero_le _, rfl, okTo_zero s⟩
    case round =>
      obtain ⟨k, hk, rfl, hok⟩ := hrel
      by_cases hlt : k < s.size
      · have hb := byte_lt s k hlt
        by_cases ha : (s[k]'hlt).toNat < 128
        · have hnx : ∀ ty, (Instr.next (.pointer (some ⟨w.heap.size, 0, none⟩)) true ty).run Try.prog (w.iter s k) = _ := fun ty => run_next_ascii w s k ty hlt ha
          rcases classes k (s[k]'hlt).toNat with ⟨h1, h2⟩ | (⟨h0, h1⟩ | ⟨h0, h1⟩) | ⟨h0, h1, h2⟩ | ⟨h0, h1, h2⟩ | (⟨h0, h1⟩ | ⟨h0, h1, h2⟩ | ⟨h0, h1, h2⟩ | ⟨h0, h1⟩)
          · have hn := okTo_succ hok hlt (okB_cap h1 h2)
            go_wp2
            go_roundw
            case rel => exact ⟨k + 1, by omega, rfl, hn⟩
            case measure => simp; omega
          iterate 2
            · have HN := Lib.hid (codeB_no k hlt (okB_zero (by omega) (by omega)))
              have e0 : ((k : Int) == 0) = true := beq_iff_eq.2 (by omega)
              try have d1 : decide (((s[k]'hlt).toNat : Int) ≤ 90) = false := decide_eq_false (by omega)
              go_wp2
              go_ret
              exact ⟨ret_bool HN.out.symm, Or.inr ⟨_, rfl⟩⟩
          · have hn := okTo_succ hok hlt (okB_dig (by omega) h1 h2)
            have e0 : ((k : Int) == 0) = false := beq_eq_false_iff_ne.2 (by omega)
            go_wp2
            go_roundw
            case rel => exact ⟨k + 1, by omega, rfl, hn⟩
            case measure => simp; omega
          · have hn := okTo_succ hok hlt (okB_dash (by omega) (by omega))
            have e0 : ((k : Int) == 0) = false := beq_eq_false_iff_ne.2 (by omega)
            have e1 : (((s[k]'hlt).toNat : Int) != 45) = false := by rw [bne_eq_false_iff_eq]; omega
            go_wp2
            go_roundw
            case rel => exact ⟨k + 1, by omega, rfl, hn⟩
            case measure => simp; omega
          iterate 4
            · have HN := Lib.hid (codeB_no k hlt (okB_other (by omega) (by omega) (by omega)))
              have e0 : ((k : Int) == 0) = false := beq_eq_false_iff_ne.2 (by omega)
              have e1 : (((s[k]'hlt).toNat : Int) != 45) = true := by rw [bne_iff_ne]; omega
              try have d1 : decide (((s[k]'hlt).toNat : Int) ≤ 90) = false := decide_eq_false (by omega)
              try have d2 : decide (((s[k]'hlt).toNat : Int) ≤ 57) = false := decide_eq_false (by omega)
              go_wp2
              go_ret
              exact ⟨ret_bool HN.out.symm, Or.inr ⟨_, rfl⟩⟩
        · have hnx : ∀ ty, (Instr.next (.pointer (some ⟨w.heap.size, 0, none⟩)) true ty).run Try.prog (w.iter s k) = _ := fun ty => run_next_any w s k ty hlt
          have hr := high s k hlt (by omega)
          have e1 : (((Utf8.decode s k).1 : Int) != 45) = true := by rw [bne_iff_ne]; omega
          have d1 : decide (((Utf8.decode s k).1 : Int) ≤ 90) = false := decide_eq_false (by omega)
          have d2 : decide (((Utf8.decode s k).1 : Int) ≤ 57) = false := decide_eq_false (by omega)
          by_cases h0 : k < 1
          · have e0 : ((k : Int) == 0) = true := beq_iff_eq.2 (by omega)
            have HN := Lib.hid (codeB_no k hlt (okB_zero (by omega) (by omega)))
            go_wp2
            go_ret
            exact ⟨ret_bool HN.out.symm, Or.inr ⟨_, rfl⟩⟩
          · have HN := Lib.hid (codeB_no k hlt (okB_other (by omega) (by omega) (by omega)))
            have e0 : ((k : Int) == 0) = false := beq_eq_false_iff_ne.2 (by omega)
            go_wp2
            go_ret
            exact ⟨ret_bool HN.out.symm, Or.inr ⟨_, rfl⟩⟩
      · have hnx : ∀ ty, (Instr.next (.pointer (some ⟨w.heap.size, 0, none⟩)) true ty).run Try.prog (w.iter s k) = _ := fun ty => run_next_end w s k ty hlt
        have HN := Lib.hid (codeB_yes h1 h8 (okTo_all hok (Nat.le_of_not_lt hlt)))
        clear hok
        go_wp2
        go_ret
        exact ⟨ret_bool HN.out.symm, Or.inr ⟨_, rfl⟩⟩
  · have HN := Lib.hid (codeB_len (s := s) (by omega))
    by_cases h1 : 1 ≤ s.size
    · have h9 : 8 < s.size := by omega
      go_enter Try.func51, Try.ntmps51
      go_wp2
      go_ret
      exact ⟨ret_bool HN.out.symm, Or.inl rfl⟩
    · have h9 : s.size < 1 := by omega
      go_enter Try.func51, Try.ntmps51
      go_wp2
      go_ret
      exact ⟨ret_bool HN.out.symm, Or.inl rfl⟩
end Go.Proofs.Ytfcgdhedaefonaa.isCode
