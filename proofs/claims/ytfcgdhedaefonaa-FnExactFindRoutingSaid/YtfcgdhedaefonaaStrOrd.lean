/-
  Texts in order, as the machine compares them. No program is named here.
-/
import Derived.WalkKit
import Derived.Laws.Cover1
import Derived.Test.YtfcgdhedaefonaaStrQ
namespace Go.Proofs.Ytfcgdhedaefonaa

/-- The one text stands before the other. -/
def strLt (a b : ByteArray) : Prop := Op.bytesLess a.toList b.toList = true
instance (a b : ByteArray) : Decidable (strLt a b) := inferInstanceAs (Decidable (_ = true))
theorem less_no {a b : ByteArray} (h : ¬strLt a b) : Op.bytesLess a.toList b.toList = false := by
  unfold strLt at h
  cases e : Op.bytesLess a.toList b.toList with
  | false => rfl
  | true => exact absurd e h
theorem less_list : ∀ x y : List UInt8, Op.bytesLess x y = true ↔ x < y
  | [], [] => by simp [Op.bytesLess]
  | _ :: _, [] => by simp [Op.bytesLess]
  | [], _ :: _ => by simp [Op.bytesLess]
  | a :: x, b :: y => by
    have h := less_list x y
    simp only [Op.bytesLess, Bool.or_eq_true, Bool.and_eq_true, decide_eq_true_eq, beq_iff_eq, List.cons_lt_cons_iff, h]
theorem strLt_iff {a b : ByteArray} : strLt a b ↔ a.toList < b.toList := by
  unfold strLt
  exact less_list _ _
theorem strLt_irrefl (a : ByteArray) : ¬strLt a a := fun h => by
  rw [strLt_iff] at h
  exact List.lt_irrefl _ h
theorem strLt_trans {a b c : ByteArray} (h : strLt a b) (k : strLt b c) : strLt a c := by
  rw [strLt_iff] at h k ⊢
  exact List.lt_trans h k
theorem strLt_asymm {a b : ByteArray} (h : strLt a b) : ¬strLt b a := fun k => strLt_irrefl a (strLt_trans h k)
theorem strLt_ne {a b : ByteArray} (h : strLt a b) : a ≠ b := fun e => by subst e; exact strLt_irrefl _ h
theorem toList_inj {a b : ByteArray} (h : a.toList = b.toList) : a = b := Classical.byContradiction (fun hn => by
  have := str_ne hn
  rw [h, beq_self_eq_true] at this
  cases this)
theorem strLt_total {a b : ByteArray} (h : a ≠ b) (k : ¬strLt a b) : strLt b a := by
  rw [strLt_iff] at k ⊢
  rcases Std.Trichotomous.rel_or_eq_or_rel_swap (r := (· < · : List UInt8 → List UInt8 → Prop)) (a := a.toList) (b := b.toList) with h1 | h1 | h1
  · exact absurd h1 k
  · exact absurd (toList_inj h1) h
  · exact h1
end Go.Proofs.Ytfcgdhedaefonaa
