/-
  How much a list of needs holds. No walk.
-/
import Derived.Test.YteadmanmhgdhoaaLawIn
import Derived.Lib.Hide
namespace Go.Proofs.Yteadmanmhgdhoaa
open Go.RowKit

theorem exZ_len (l : List IT) (xs : List BL) (s : ByteArray) (q day : Int) (ps : List PK) (ph : Bool) : (exZ l xs s q day ps ph).length ≤ l.length := by
  by_cases h : ExYes l xs s q day ps ph
  · rw [exZ_yes h]; exact needP_le _ _ _ _
  · rw [exZ_no h]; exact Nat.zero_le _
theorem exZ_qty {l : List IT} {xs : List BL} {s : ByteArray} {q day : Int} {ps : List PK} {ph : Bool} : ∀ x, x ∈ exZ l xs s q day ps ph → 0 ≤ x.qty ∧ x.qty ≤ 1000000000 := by
  intro x hx
  by_cases h : ExYes l xs s q day ps ph
  · rw [exZ_yes h] at hx
    unfold needP at hx
    obtain ⟨r, hr, rfl⟩ := List.mem_map.1 hx
    obtain ⟨k, hk, rfl⟩ := List.getElem_of_mem (List.mem_filter.1 hr).1
    have h1 := h.2 k hk
    show (0 : Int) ≤ ((exV l xs s q day ps ph (l[k]'hk).code : Nat) : Int) ∧ ((exV l xs s q day ps ph (l[k]'hk).code : Nat) : Int) ≤ 1000000000
    omega
  · rw [exZ_no h] at hx; cases hx
theorem exZ_range {l : List IT} (hl : l.length ≤ 6) (xs : List BL) (s : ByteArray) (q day : Int) (ps : List PK) (ph : Bool) (b : ByteArray) : ∀ k, k ≤ (exZ l xs s q day ps ph).length → 0 ≤ inN ((exZ l xs s q day ps ph).take k) b ∧ inN ((exZ l xs s q day ps ph).take k) b ≤ 6000000000 := by
  intro k hk
  have h1 := inN_range (zs := exZ l xs s q day ps ph) (s := b) exZ_qty k hk
  have h2 := exZ_len l xs s q day ps ph
  refine ⟨h1.1, Int.le_trans h1.2 ?_⟩
  omega
theorem exZ_pos {l : List IT} {xs : List BL} {s : ByteArray} {q day : Int} {ps : List PK} {ph : Bool} (b : ByteArray) : 0 ≤ inN (exZ l xs s q day ps ph) b := by
  have h1 := inN_range (zs := exZ l xs s q day ps ph) (s := b) exZ_qty _ (Nat.le_refl _)
  rw [List.take_length] at h1
  exact h1.1
end Go.Proofs.Yteadmanmhgdhoaa
