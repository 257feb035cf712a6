/-
  Sharing amounts, as arithmetic on lists: what weights are, sums, and their bounds. No program is named here.
-/
import Derived.WalkKit
import Derived.Lib.Hide
namespace Go.Proofs.Ytfcgdhedaefonaa

/-- The sum of a list. -/
def sumL : List Int → Int
  | [] => 0
  | x :: xs => x + sumL xs

theorem sumL_append (a b : List Int) : sumL (a ++ b) = sumL a + sumL b := by
  induction a with
  | nil => simp [sumL]
  | cons x xs ih => simp only [List.cons_append, sumL, ih]; omega
theorem sumL_take_succ {xs : List Int} {k : Nat} (h : k < xs.length) : sumL (xs.take (k + 1)) = sumL (xs.take k) + xs[k]'h := by
  rw [List.take_succ_eq_append_getElem h, sumL_append]
  simp [sumL]
theorem sumL_all {xs : List Int} {k : Nat} (h : xs.length ≤ k) : sumL (xs.take k) = sumL xs := by rw [List.take_of_length_le h]

/-- No first part of it is out of reach. -/
def SumOk (xs : List Int) : Prop := ∀ k, -4611686018427387904 ≤ sumL (xs.take k) ∧ sumL (xs.take k) ≤ 4611686018427387904

theorem sumL_bound {xs : List Int} {B : Int} (hx : ∀ x ∈ xs, -B ≤ x ∧ x ≤ B) : -(B * xs.length) ≤ sumL xs ∧ sumL xs ≤ B * xs.length := by
  induction xs with
  | nil => simp [sumL]
  | cons x xs ih =>
    have h1 := hx x (by simp)
    have h2 := ih (fun y hy => hx y (by simp [hy]))
    simp only [sumL, List.length_cons]
    rw [show (B * ((xs.length + 1 : Nat) : Int)) = B * (xs.length : Int) + B from by push_cast; rw [Int.mul_add, Int.mul_one]]
    omega
theorem sumOk_small {xs : List Int} (hl : xs.length ≤ 1000) (hx : ∀ x ∈ xs, -100000000000 ≤ x ∧ x ≤ 100000000000) : SumOk xs := by
  intro k
  have h1 := sumL_bound (xs := xs.take k) (B := 100000000000) (fun x h => hx x (List.mem_of_mem_take h))
  have h2 : (xs.take k).length ≤ 1000 := by rw [List.length_take]; omega
  omega

/-- These are weights. -/
def AreW (ws : List Int) : Prop := ws.length ≤ 40 ∧ (∀ w ∈ ws, 0 ≤ w ∧ w ≤ 1000000) ∧ 0 < sumL ws
instance (ws : List Int) : Decidable (AreW ws) := by unfold AreW; infer_instance

theorem AreW.ok {ws : List Int} (h : ws.length ≤ 40) (h1 : ∀ w ∈ ws, 0 ≤ w ∧ w ≤ 1000000) : SumOk ws :=
  sumOk_small (by omega) (fun x hx => by have := h1 x hx; omega)
theorem AreW.part {ws : List Int} (h : AreW ws) (k : Nat) : 0 ≤ sumL (ws.take k) ∧ sumL (ws.take k) ≤ 40000000 := by
  have h2 : (ws.take k).length ≤ 40 := by rw [List.length_take]; have := h.1; omega
  have h3 : ∀ xs : List Int, (∀ w ∈ xs, 0 ≤ w ∧ w ≤ 1000000) → 0 ≤ sumL xs ∧ sumL xs ≤ 1000000 * xs.length := by
    intro xs
    induction xs with
    | nil => intro _; simp [sumL]
    | cons x xs ih =>
      intro hx
      have a := hx x (by simp)
      have b := ih (fun y hy => hx y (by simp [hy]))
      simp only [sumL, List.length_cons]
      omega
  have := h3 (ws.take k) (fun w hw => h.2.1 w (List.mem_of_mem_take hw))
  omega
theorem AreW.total {ws : List Int} (h : AreW ws) : 0 < sumL ws ∧ sumL ws ≤ 40000000 := by
  have := h.part ws.length
  rw [List.take_length] at this
  exact ⟨h.2.2, this.2⟩
theorem AreW.at {ws : List Int} (h : AreW ws) {k : Nat} (hk : k < ws.length) : 0 ≤ ws[k]'hk ∧ ws[k]'hk ≤ 1000000 := h.2.1 _ (List.getElem_mem hk)
theorem AreW.part_le {ws : List Int} (h : AreW ws) (k : Nat) : sumL (ws.take k) ≤ sumL ws := by
  have e := sumL_append (ws.take k) (ws.drop k)
  rw [List.take_append_drop] at e
  have h3 : ∀ xs : List Int, (∀ w ∈ xs, 0 ≤ w ∧ w ≤ 1000000) → 0 ≤ sumL xs := by
    intro xs
    induction xs with
    | nil => intro _; simp [sumL]
    | cons x xs ih =>
      intro hx
      have a := hx x (by simp)
      have b := ih (fun y hy => hx y (by simp [hy]))
      simp only [sumL]
      omega
  have := h3 (ws.drop k) (fun w hw => h.2.1 w (List.mem_of_mem_drop hw))
  omega
/-- Where k of them have been looked at and are in bounds. -/
def FirstW (ws : List Int) (k : Nat) : Prop := ∀ w ∈ ws.take k, 0 ≤ w ∧ w ≤ 1000000
theorem firstW_zero (ws : List Int) : FirstW ws 0 := by intro w hw; simp at hw
theorem firstW_succ {ws : List Int} {k : Nat} (h : FirstW ws k) (hk : k < ws.length) (h1 : 0 ≤ ws[k]'hk) (h2 : ws[k]'hk ≤ 1000000) : FirstW ws (k + 1) := by
  intro w hw
  rw [List.take_succ_eq_append_getElem hk, List.mem_append] at hw
  rcases hw with hw | hw
  · exact h w hw
  · simp at hw; subst hw; exact ⟨h1, h2⟩
theorem firstW_all {ws : List Int} {k : Nat} (h : FirstW ws k) (hk : ws.length ≤ k) : ∀ w ∈ ws, 0 ≤ w ∧ w ≤ 1000000 := by
  intro w hw
  exact h w (by rw [List.take_of_length_le hk]; exact hw)
theorem not_areW_at {ws : List Int} {k : Nat} (hk : k < ws.length) (h : ws[k]'hk < 0 ∨ 1000000 < ws[k]'hk) : decide (AreW ws) = false :=
  decide_eq_false (fun hw => by have := hw.at hk; omega)
theorem not_areW_len {ws : List Int} (h : 40 < ws.length) : decide (AreW ws) = false := decide_eq_false (fun hw => by have := hw.1; omega)
theorem areW_iff {ws : List Int} (h : ws.length ≤ 40) (h1 : ∀ w ∈ ws, 0 ≤ w ∧ w ≤ 1000000) : decide (AreW ws) = decide (0 < sumL ws) := by
  by_cases hs : 0 < sumL ws
  · rw [decide_eq_true hs]; exact decide_eq_true ⟨h, h1, hs⟩
  · rw [decide_eq_false hs]; exact decide_eq_false (fun hw => hs hw.2.2)
theorem areW_nil : decide (AreW []) = false := by decide
end Go.Proofs.Ytfcgdhedaefonaa
