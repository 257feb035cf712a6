/-
  The plain part of the proof that IsCode answers as its model: what a code is, said of bytes as numbers. No program is named here.
-/
import Derived.WalkKit
namespace Go.Proofs.Ytfcgdhedaefonaa.isCode

/-- May the byte c stand at place k of a code? -/
def okB (k : Nat) (c : Nat) : Bool := decide ((65 ≤ c ∧ c ≤ 90) ∨ (k ≠ 0 ∧ ((48 ≤ c ∧ c ≤ 57) ∨ c = 45)))

/-- All the bytes of s may stand where they stand. -/
def allOk (s : ByteArray) : Prop := ∀ (j : Nat) (h : j < s.size), okB j (s[j]'h).toNat = true

open Classical in
/-- The answer of IsCode. -/
noncomputable def codeB (s : ByteArray) : Bool := decide (1 ≤ s.size ∧ s.size ≤ 8 ∧ allOk s)

open Classical in
theorem codeB_no {s : ByteArray} (k : Nat) (h : k < s.size) (hk : okB k (s[k]'h).toNat = false) : codeB s = false := by
  unfold codeB
  apply decide_eq_false
  intro ⟨_, _, ha⟩
  have := ha k h
  rw [hk] at this
  exact Bool.noConfusion this

open Classical in
theorem codeB_len {s : ByteArray} (h : ¬ (1 ≤ s.size ∧ s.size ≤ 8)) : codeB s = false := by
  unfold codeB
  apply decide_eq_false
  intro ⟨a, b, _⟩
  exact h ⟨a, b⟩

open Classical in
theorem codeB_yes {s : ByteArray} (h1 : 1 ≤ s.size) (h2 : s.size ≤ 8) (ha : allOk s) : codeB s = true := by
  unfold codeB
  exact decide_eq_true ⟨h1, h2, ha⟩

theorem okB_cap {k c : Nat} (h1 : 65 ≤ c) (h2 : c ≤ 90) : okB k c = true := by unfold okB; exact decide_eq_true (Or.inl ⟨h1, h2⟩)
theorem okB_dig {k c : Nat} (hk : k ≠ 0) (h1 : 48 ≤ c) (h2 : c ≤ 57) : okB k c = true := by unfold okB; exact decide_eq_true (Or.inr ⟨hk, Or.inl ⟨h1, h2⟩⟩)
theorem okB_dash {k c : Nat} (hk : k ≠ 0) (h : c = 45) : okB k c = true := by unfold okB; exact decide_eq_true (Or.inr ⟨hk, Or.inr h⟩)
theorem okB_zero {k c : Nat} (hk : k = 0) (h : ¬ (65 ≤ c ∧ c ≤ 90)) : okB k c = false := by unfold okB; exact decide_eq_false (by omega)
theorem okB_other {k c : Nat} (h : ¬ (65 ≤ c ∧ c ≤ 90)) (h2 : ¬ (48 ≤ c ∧ c ≤ 57)) (h3 : c ≠ 45) : okB k c = false := by unfold okB; exact decide_eq_false (by omega)

/-- What holds of the first k bytes. -/
def okTo (s : ByteArray) (k : Nat) : Prop := ∀ (j : Nat) (h : j < s.size), j < k → okB j (s[j]'h).toNat = true

theorem okTo_zero (s : ByteArray) : okTo s 0 := fun _ _ h => absurd h (Nat.not_lt_zero _)
theorem okTo_succ {s : ByteArray} {k : Nat} (h : okTo s k) (hk : k < s.size) (hb : okB k (s[k]'hk).toNat = true) : okTo s (k + 1) := by
  intro j hj hlt
  by_cases e : j = k
  · subst e; exact hb
  · exact h j hj (by omega)
theorem okTo_all {s : ByteArray} {k : Nat} (h : okTo s k) (hk : s.size ≤ k) : allOk s := fun j hj => h j hj (by omega)

theorem byte_lt (s : ByteArray) (k : Nat) (h : k < s.size) : (s[k]'h).toNat ≤ 255 := by have := (s[k]'h).toNat_lt; omega

/-- The ways of one byte c at place k, each test decided. -/
theorem classes (k c : Nat) :
    (65 ≤ c ∧ c ≤ 90) ∨ ((k < 1 ∧ c < 65) ∨ (k < 1 ∧ 90 < c)) ∨ (0 < k ∧ 48 ≤ c ∧ c ≤ 57) ∨ (0 < k ∧ 45 ≤ c ∧ c ≤ 45)
      ∨ ((0 < k ∧ c < 45) ∨ (0 < k ∧ 45 < c ∧ c < 48) ∨ (0 < k ∧ 57 < c ∧ c < 65) ∨ (0 < k ∧ 90 < c)) := by omega
theorem ret_bool {a b : Bool} (h : a = b) : Ending.returned (.bool a) = .returned (.bool b) := by rw [h]
end Go.Proofs.Ytfcgdhedaefonaa.isCode
