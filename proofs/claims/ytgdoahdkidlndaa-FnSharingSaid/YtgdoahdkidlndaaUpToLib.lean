/-
  What the first k weights get together: arithmetic. No program is named here.
-/
import Derived.Test.YtgdoahdkidlndaaShareLib
import Derived.Test.YtgdoahdkidlndaaInts
import Derived.WalkKit
import Derived.Lib.Hide
namespace Go.Proofs.Ytgdoahdkidlndaa
open Go.RowKit

/-- The total can be shared by these weights. -/
def CanS (t : Int) (ws : List Int) : Prop := -1000000000 ≤ t ∧ t ≤ 1000000000 ∧ AreW ws
instance (t : Int) (ws : List Int) : Decidable (CanS t ws) := by unfold CanS; infer_instance
/-- The share of the first k together. -/
def share (t : Int) (ws : List Int) (k : Nat) : Int := (t * sumL (ws.take k)).tdiv (sumL ws)
/-- ShareUpTo can answer. -/
def UpOk (t : Int) (ws : List Int) (k : Int) : Prop := CanS t ws ∧ 0 ≤ k ∧ k ≤ ws.length
instance (t : Int) (ws : List Int) (k : Int) : Decidable (UpOk t ws k) := by unfold UpOk; infer_instance

theorem mulB {a b A B : Int} (h0 : -A ≤ a) (h1 : a ≤ A) (h2 : 0 ≤ b) (h3 : b ≤ B) : -(A * B) ≤ a * b ∧ a * b ≤ A * B := by
  have hA : 0 ≤ A := by omega
  have e1 : a * b ≤ A * b := Int.mul_le_mul_of_nonneg_right h1 h2
  have e2 : A * b ≤ A * B := Int.mul_le_mul_of_nonneg_left h3 hA
  have e3 : -A * b ≤ a * b := Int.mul_le_mul_of_nonneg_right h0 h2
  have e4 : -A * b = -(A * b) := Int.neg_mul A b
  omega
theorem CanS.mul {t : Int} {ws : List Int} (h : CanS t ws) {s : Int} (h0 : 0 ≤ s) (h1 : s ≤ 40000000) : -40000000000000000 ≤ t * s ∧ t * s ≤ 40000000000000000 := by
  have := mulB (a := t) (b := s) (A := 1000000000) (B := 40000000) h.1 h.2.1 h0 h1
  omega
theorem tdiv_le {a A b B : Int} (hb : 0 < b) (hbB : b ≤ B) (h0 : -(A * b) ≤ a) (h1 : a ≤ A * b) : -A ≤ a.tdiv b ∧ a.tdiv b ≤ A ∧ b ≤ B := by
  refine ⟨?_, ?_, hbB⟩
  · rcases Int.le_total 0 a with h | h
    · have : 0 ≤ a.tdiv b := Int.tdiv_nonneg h (by omega)
      have hA : 0 ≤ A := by
        by_cases hn : A < 0
        · exfalso; have := Int.mul_neg_of_neg_of_pos hn hb; omega
        · omega
      omega
    · have e : a.tdiv b = -((-a).tdiv b) := by rw [Int.neg_tdiv, Int.neg_neg]
      have h2 : (-a).tdiv b ≤ A := by
        rw [Int.tdiv_eq_ediv_of_nonneg (by omega)]
        exact Int.ediv_le_of_le_mul hb (by omega)
      omega
  · rcases Int.le_total 0 a with h | h
    · rw [Int.tdiv_eq_ediv_of_nonneg h]
      exact Int.ediv_le_of_le_mul hb h1
    · have e : a.tdiv b = -((-a).tdiv b) := by rw [Int.neg_tdiv, Int.neg_neg]
      have : 0 ≤ (-a).tdiv b := Int.tdiv_nonneg (by omega) (by omega)
      have hA : 0 ≤ A := by
        by_cases hn : A < 0
        · exfalso; have := Int.mul_neg_of_neg_of_pos hn hb; omega
        · omega
      omega
theorem share_bound {t : Int} {ws : List Int} (h : CanS t ws) (k : Nat) : -1000000000 ≤ share t ws k ∧ share t ws k ≤ 1000000000 := by
  have hp := h.2.2.part k
  have hl := h.2.2.part_le k
  have ht := h.2.2.total
  have hm := mulB (a := t) (b := sumL (ws.take k)) (A := 1000000000) (B := sumL ws) h.1 h.2.1 hp.1 hl
  have := tdiv_le (a := t * sumL (ws.take k)) (A := 1000000000) (b := sumL ws) (B := 40000000) ht.1 ht.2 hm.1 hm.2
  exact ⟨this.1, this.2.1⟩
theorem share_zero (t : Int) (ws : List Int) : share t ws 0 = 0 := by simp [share, sumL]
theorem share_all {t : Int} {ws : List Int} (h : AreW ws) {k : Nat} (hk : ws.length ≤ k) : share t ws k = t := by
  unfold share
  rw [sumL_all hk]
  exact Int.mul_tdiv_cancel _ (by have := h.2.2; omega)
theorem not_upOk_can {t : Int} {ws : List Int} {k : Int} (h : ¬CanS t ws) : ¬UpOk t ws k := fun hu => h hu.1

/-- A first part of a slice. -/
theorem ints_take {w : World} {b o c : Nat} {xs : List Int} (h : CellsI w b o xs) (k : Nat) (hk : k ≤ xs.length) (hc : xs.length ≤ c) : Ints w (.slice (some ⟨b, o, none⟩) k c) (xs.take k) := by
  by_cases h0 : k = 0
  · subst h0
    exact Or.inl ⟨by simp, _, _, rfl⟩
  · have hl : (xs.take k).length = k := by rw [List.length_take]; omega
    refine Or.inr ⟨by intro e; rw [e] at hl; simp at hl; omega, b, o, c, by rw [hl], by omega, h.1, fun j x hx => h.2 j x ?_⟩
    have hj : j < k := by have := (List.getElem?_eq_some_iff.1 hx).1; omega
    rwa [List.getElem?_take_of_lt hj] at hx
theorem sumOk_take {xs : List Int} (h : SumOk xs) (k : Nat) : SumOk (xs.take k) := by
  intro j
  rw [List.take_take]
  exact h _
end Go.Proofs.Ytgdoahdkidlndaa
