import Derived.WalkKit
import Derived.Test.YtmnncinpepeocaaGreatRows
import Derived.WalkSpells
import Derived.Lib.Hide
import Derived.Test.YtmnncinpepeocaaGreatBuA
namespace Go.Proofs.YtmnncinpepeocaaGreat.isCode

/-- May the byte c stand at place k of a code? -/
def okB (k : Nat) (c : Nat) : Bool := decide ((65 ≤ c ∧ c ≤ 90) ∨ (k ≠ 0 ∧ ((48 ≤ c ∧ c ≤ 57) ∨ c = 45)))

/-- All the bytes of s may stand where they stand. -/
def allOk (s : ByteArray) : Prop := ∀ (j : Nat) (h : j < s.size), okB j (s[j]'h).toNat = true

open Classical in
/-- The answer of IsCode. -/
noncomputable def codeB (s : ByteArray) : Bool := decide (1 ≤ s.size ∧ s.size ≤ 8 ∧ allOk s)

open Classical in
theorem codeB_no {s : ByteArray} (k : Nat) (h : k < s.size) (hk : okB k (s[k]'h).toNat = false) : codeB s = false := by
 unfold codeB
 apply decide_eq_false
 intro ⟨_, _, ha⟩
 have := ha k h
 rw [hk] at this
 exact Bool.noConfusion this

open Classical in
theorem codeB_len {s : ByteArray} (h : ¬ (1 ≤ s.size ∧ s.size ≤ 8)) : codeB s = false := by
 unfold codeB
 apply decide_eq_false
 intro ⟨a, b, _⟩
 exact h ⟨a, b⟩

open Classical in
theorem codeB_yes {s : ByteArray} (h1 : 1 ≤ s.size) (h2 : s.size ≤ 8) (ha : allOk s) : codeB s = true := by
 unfold codeB
 exact decide_eq_true ⟨h1, h2, ha⟩

theorem okB_cap {k c : Nat} (h1 : 65 ≤ c) (h2 : c ≤ 90) : okB k c = true := by unfold okB; exact decide_eq_true (Or.inl ⟨h1, h2⟩)
theorem okB_dig {k c : Nat} (hk : k ≠ 0) (h1 : 48 ≤ c) (h2 : c ≤ 57) : okB k c = true := by unfold okB; exact decide_eq_true (Or.inr ⟨hk, Or.inl ⟨h1, h2⟩⟩)
theorem okB_dash {k c : Nat} (hk : k ≠ 0) (h : c = 45) : okB k c = true := by unfold okB; exact decide_eq_true (Or.inr ⟨hk, Or.inr h⟩)
theorem okB_zero {k c : Nat} (hk : k = 0) (h : ¬ (65 ≤ c ∧ c ≤ 90)) : okB k c = false := by unfold okB; exact decide_eq_false (by omega)
theorem okB_other {k c : Nat} (h : ¬ (65 ≤ c ∧ c ≤ 90)) (h2 : ¬ (48 ≤ c ∧ c ≤ 57)) (h3 : c ≠ 45) : okB k c = false := by unfold okB; exact decide_eq_false (by omega)

/-- What holds of the first k bytes. -/
def okTo (s : ByteArray) (k : Nat) : Prop := ∀ (j : Nat) (h : j < s.size), j < k → okB j (s[j]'h).toNat = true

theorem okTo_zero (s : ByteArray) : okTo s 0 := fun _ _ h => absurd h (Nat.not_lt_zero _)
theorem okTo_succ {s : ByteArray} {k : Nat} (h : okTo s k) (hk : k < s.size) (hb : okB k (s[k]'hk).toNat = true) : okTo s (k + 1) := by
 intro j hj hlt
 by_cases e : j = k
 · subst e; exact hb
 · exact h j hj (by omega)
theorem okTo_all {s : ByteArray} {k : Nat} (h : okTo s k) (hk : s.size ≤ k) : allOk s := fun j hj => h j hj (by omega)

theorem byte_lt (s : ByteArray) (k : Nat) (h : k < s.size) : (s[k]'h).toNat ≤ 255 := by have := (s[k]'h).toNat_lt; omega

/-- The ways of one byte c at place k, each test decided. -/
theorem classes (k c : Nat) :
 (65 ≤ c ∧ c ≤ 90) ∨ ((k < 1 ∧ c < 65) ∨ (k < 1 ∧ 90 < c)) ∨ (0 < k ∧ 48 ≤ c ∧ c ≤ 57) ∨ (0 < k ∧ 45 ≤ c ∧ c ≤ 45)
  ∨ ((0 < k ∧ c < 45) ∨ (0 < k ∧ 45 < c ∧ c < 48) ∨ (0 < k ∧ 57 < c ∧ c < 65) ∨ (0 < k ∧ 90 < c)) := by omega
theorem ret_bool {a b : Bool} (h : a = b) : Ending.returned (.bool a) = .returned (.bool b) := by rw [h]
end Go.Proofs.YtmnncinpepeocaaGreat.isCode

namespace Go.Proofs.YtmnncinpepeocaaGreat.isCode
open Go.RowKit

set_option maxRecDepth 100000 in
set_option maxHeartbeats 400000 in
theorem spec_walk (s : ByteArray) (w : World) (hs : s.size ≤ maxLen) :
 Calls Tryz.prog 114 #[.string s] w fun e w' => e = .returned (.bool (codeB s)) ∧ w' = w := by
 unfold maxLen at hs
 go_enter Tryz.func114, Tryz.ntmps114
 go_wp2
 go_loop [3] (fun i => ∃ k : Nat, k ≤ s.size ∧ i = .int .i64 k ∧ okTo s k) (fun i => s.size - (intOf i).toNat)
 case atStart => exact ⟨0, Nat.zero_le _, rfl, okTo_zero s⟩
 case round =>
  obtain ⟨k, hk, rfl, hok⟩ := hrel
  by_cases hlt : k < s.size
  · have hb := byte_lt s k hlt
    rcases classes k (s[k]'hlt).toNat with ⟨h1, h2⟩ | (⟨h0, h1⟩ | ⟨h0, h1⟩) | ⟨h0, h1, h2⟩ | ⟨h0, h1, h2⟩ | (⟨h0, h1⟩ | ⟨h0, h1, h2⟩ | ⟨h0, h1, h2⟩ | ⟨h0, h1⟩)
    · have hn := okTo_succ hok hlt (okB_cap h1 h2)
      go_wp2
      go_round
      case rel => exact ⟨k + 1, by omega, by go_num, hn⟩
      case measure => simp [intOf]; omega
    iterate 2
     · have HN := Lib.hid (codeB_no k hlt (okB_zero (by omega) (by omega)))
       have e0 : ((k : Int) == 0) = true := beq_iff_eq.2 (by omega)
       try have d1 : decide (((s[k]'hlt).toNat : Int) ≤ 90) = false := decide_eq_false (by omega)
       go_wp2
       go_ret
       exact ⟨ret_bool HN.out.symm, rfl⟩
    · have hn := okTo_succ hok hlt (okB_dig (by omega) h1 h2)
      have e0 : ((k : Int) == 0) = false := beq_eq_false_iff_ne.2 (by omega)
      go_wp2
      go_round
      case rel => exact ⟨k + 1, by omega, by go_num, hn⟩
      case measure => simp [intOf]; omega
    · have hn := okTo_succ hok hlt (okB_dash (by omega) (by omega))
      have e0 : ((k : Int) == 0) = false := beq_eq_false_iff_ne.2 (by omega)
      have e1 : (((s[k]'hlt).toNat : Int) != 45) = false := by rw [bne_eq_false_iff_eq]; omega
      go_wp2
      go_round
      case rel => exact ⟨k + 1, by omega, by go_num, hn⟩
      case measure => simp [intOf]; omega
    iterate 4
     · have HN := Lib.hid (codeB_no k hlt (okB_other (by omega) (by omega) (by omega)))
       have e0 : ((k : Int) == 0) = false := beq_eq_false_iff_ne.2 (by omega)
       have e1 : (((s[k]'hlt).toNat : Int) != 45) = true := by rw [bne_iff_ne]; omega
       try have d1 : decide (((s[k]'hlt).toNat : Int) ≤ 90) = false := decide_eq_false (by omega)
       go_wp2
       go_ret
       exact ⟨ret_bool HN.out.symm, rfl⟩
  · have hall := okTo_all hok (Nat.le_of_not_lt hlt)
    by_cases h1 : 1 ≤ s.size
    · by_cases h8 : s.size ≤ 8
      · have HN := Lib.hid (codeB_yes h1 h8 hall)
        have d8 : decide ((s.size : Int) ≤ 8) = true := decide_eq_true (by omega)
        clear hall hok
        go_wp2
        go_ret
        exact ⟨ret_bool HN.out.symm, rfl⟩
      · have HN := Lib.hid (codeB_len (s := s) (by omega))
        have d8 : decide ((s.size : Int) ≤ 8) = false := decide_eq_false (by omega)
        clear hall hok
        go_wp2
        go_ret
        exact ⟨ret_bool HN.out.symm, rfl⟩
    · have HN := Lib.hid (codeB_len (s := s) (by omega))
      clear hall hok
      go_wp2
      go_ret
      exact ⟨ret_bool HN.out.symm, rfl⟩
end Go.Proofs.YtmnncinpepeocaaGreat.isCode

namespace Go.Proofs.YtmnncinpepeocaaGreat.isCode
open Go.RowKit

/-- The post of the walk. -/
def Iters (s : ByteArray) (w : World) (e : Ending) (w' : World) : Prop := e = .returned (.bool (codeB s)) ∧ (w' = w ∨ ∃ pos, w' = w.iter s pos)

/-- The rune that the range gives at a byte beyond ASCII is beyond ASCII. -/
theorem high (s : ByteArray) (k : Nat) (h : k < s.size) (ha : 128 ≤ (s[k]'h).toNat) : 128 ≤ (Utf8.decode s k).1 := (decode_high s k h ha).1

set_option maxRecDepth 100000 in
set_option maxHeartbeats 400000 in
theorem impl_walk (s : ByteArray) (w : World) (hs : s.size ≤ maxLen) :
 Calls Tryz.prog 135 #[.string s] w (Iters s w) := by
 unfold maxLen at hs
 by_cases hl : 1 ≤ s.size ∧ s.size ≤ 8
 · obtain ⟨h1, h8⟩ := hl
   go_enter Tryz.func135, Tryz.ntmps135
   go_wp2
   go_loopw [3, 4] (fun _ _ w' => ∃ k : Nat, k ≤ s.size ∧ w' = w.iter s k ∧ okTo s k) (fun _ _ w' => s.size - w'.iterPos w.heap.size)
   case atStart => exact ⟨0, Nat.zero_le _, rfl, okTo_zero s⟩
   case round =>
    obtain ⟨k, hk, rfl, hok⟩ := hrel
    by_cases hlt : k < s.size
    · have hb := byte_lt s k hlt
      by_cases ha : (s[k]'hlt).toNat < 128
      · have hnx : ∀ ty, (Instr.next (.pointer (some ⟨w.heap.size, 0, none⟩)) true ty).run Tryz.prog (w.iter s k) = _ := fun ty => run_next_ascii w s k ty hlt ha
        rcases classes k (s[k]'hlt).toNat with ⟨h1, h2⟩ | (⟨h0, h1⟩ | ⟨h0, h1⟩) | ⟨h0, h1, h2⟩ | ⟨h0, h1, h2⟩ | (⟨h0, h1⟩ | ⟨h0, h1, h2⟩ | ⟨h0, h1, h2⟩ | ⟨h0, h1⟩)
        · have hn := okTo_succ hok hlt (okB_cap h1 h2)
          go_wp2
          go_roundw
          case rel => exact ⟨k + 1, by omega, rfl, hn⟩
          case measure => simp; omega
        iterate 2
         · have HN := Lib.hid (codeB_no k hlt (okB_zero (by omega) (by omega)))
           have e0 : ((k : Int) == 0) = true := beq_iff_eq.2 (by omega)
           try have d1 : decide (((s[k]'hlt).toNat : Int) ≤ 90) = false := decide_eq_false (by omega)
           go_wp2
           go_ret
           exact ⟨ret_bool HN.out.symm, Or.inr ⟨_, rfl⟩⟩
        · have hn := okTo_succ hok hlt (okB_dig (by omega) h1 h2)
          have e0 : ((k : Int) == 0) = false := beq_eq_false_iff_ne.2 (by omega)
          go_wp2
          go_roundw
          case rel => exact ⟨k + 1, by omega, rfl, hn⟩
          case measure => simp; omega
        · have hn := okTo_succ hok hlt (okB_dash (by omega) (by omega))
          have e0 : ((k : Int) == 0) = false := beq_eq_false_iff_ne.2 (by omega)
          have e1 : (((s[k]'hlt).toNat : Int) != 45) = false := by rw [bne_eq_false_iff_eq]; omega
          go_wp2
          go_roundw
          case rel => exact ⟨k + 1, by omega, rfl, hn⟩
          case measure => simp; omega
        iterate 4
         · have HN := Lib.hid (codeB_no k hlt (okB_other (by omega) (by omega) (by omega)))
           have e0 : ((k : Int) == 0) = false := beq_eq_false_iff_ne.2 (by omega)
           have e1 : (((s[k]'hlt).toNat : Int) != 45) = true := by rw [bne_iff_ne]; omega
           try have d1 : decide (((s[k]'hlt).toNat : Int) ≤ 90) = false := decide_eq_false (by omega)
           try have d2 : decide (((s[k]'hlt).toNat : Int) ≤ 57) = false := decide_eq_false (by omega)
           go_wp2
           go_ret
           exact ⟨ret_bool HN.out.symm, Or.inr ⟨_, rfl⟩⟩
      · have hnx : ∀ ty, (Instr.next (.pointer (some ⟨w.heap.size, 0, none⟩)) true ty).run Tryz.prog (w.iter s k) = _ := fun ty => run_next_any w s k ty hlt
        have hr := high s k hlt (by omega)
        have e1 : (((Utf8.decode s k).1 : Int) != 45) = true := by rw [bne_iff_ne]; omega
        have d1 : decide (((Utf8.decode s k).1 : Int) ≤ 90) = false := decide_eq_false (by omega)
        have d2 : decide (((Utf8.decode s k).1 : Int) ≤ 57) = false := decide_eq_false (by omega)
        by_cases h0 : k < 1
        · have e0 : ((k : Int) == 0) = true := beq_iff_eq.2 (by omega)
          have HN := Lib.hid (codeB_no k hlt (okB_zero (by omega) (by omega)))
          go_wp2
          go_ret
          exact ⟨ret_bool HN.out.symm, Or.inr ⟨_, rfl⟩⟩
        · have HN := Lib.hid (codeB_no k hlt (okB_other (by omega) (by omega) (by omega)))
          have e0 : ((k : Int) == 0) = false := beq_eq_false_iff_ne.2 (by omega)
          go_wp2
          go_ret
          exact ⟨ret_bool HN.out.symm, Or.inr ⟨_, rfl⟩⟩
    · have hnx : ∀ ty, (Instr.next (.pointer (some ⟨w.heap.size, 0, none⟩)) true ty).run Tryz.prog (w.iter s k) = _ := fun ty => run_next_end w s k ty hlt
      have HN := Lib.hid (codeB_yes h1 h8 (okTo_all hok (Nat.le_of_not_lt hlt)))
      clear hok
      go_wp2
      go_ret
      exact ⟨ret_bool HN.out.symm, Or.inr ⟨_, rfl⟩⟩
 · have HN := Lib.hid (codeB_len (s := s) (by omega))
   by_cases h1 : 1 ≤ s.size
   · have h9 : 8 < s.size := by omega
     go_enter Tryz.func135, Tryz.ntmps135
     go_wp2
     go_ret
     exact ⟨ret_bool HN.out.symm, Or.inl rfl⟩
   · have h9 : s.size < 1 := by omega
     go_enter Tryz.func135, Tryz.ntmps135
     go_wp2
     go_ret
     exact ⟨ret_bool HN.out.symm, Or.inl rfl⟩
end Go.Proofs.YtmnncinpepeocaaGreat.isCode

namespace Go.Proofs.YtmnncinpepeocaaGreat
open Go.RowKit

theorem code_calls (s : ByteArray) (w : World) (hs : s.size ≤ maxLen) : Calls Tryz.prog 135 #[.string s] w (BoolRes (isCode.codeB s) w) :=
 (isCode.impl_walk s w hs).mono (fun e w' h => by
  obtain ⟨rfl, h⟩ := h
  refine ⟨rfl, ?_⟩
  rcases h with rfl | ⟨pos, rfl⟩
  · exact Below.refl _ _
  · exact (Below.refl _ _).alloc (Nat.le_refl _) _)
end Go.Proofs.YtmnncinpepeocaaGreat
