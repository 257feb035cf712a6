/-
  Where a text is first found in a list of texts. No program is named here.
-/
import Derived.WalkKit
namespace Go.Proofs.Ytfcgdhedaefonaa

instance decTextC (x : ByteArray) (l : List ByteArray) : Decidable (x ∈ l) := decidable_of_iff (l.any (fun y => decide (y = x)) = true) (by simp)
/-- Where a string is first found, -1 for nowhere. -/
def fndI (ns : List ByteArray) (s : ByteArray) : Int := match ns.findIdx? (fun x => decide (x = s)) with
  | some k => (k : Int)
  | none => -1
theorem fnd_at {ns : List ByteArray} {s : ByteArray} {k : Nat} (hk : k < ns.length) (h : ns[k]'hk = s) (hb : ∀ j, (hj : j < k) → (ns[j]'(by omega)) ≠ s) : fndI ns s = k := by
  have e : ns.findIdx? (fun x => decide (x = s)) = some k := by
    rw [List.findIdx?_eq_some_iff_getElem]
    exact ⟨hk, decide_eq_true h, fun j hj => by simp [hb j hj]⟩
  unfold fndI
  rw [e]
theorem fnd_no {ns : List ByteArray} {s : ByteArray} (hb : ∀ j, (hj : j < ns.length) → (ns[j]'hj) ≠ s) : fndI ns s = -1 := by
  have e : ns.findIdx? (fun x => decide (x = s)) = none := by
    rw [List.findIdx?_eq_none_iff]
    intro x hx
    obtain ⟨j, hj, rfl⟩ := List.getElem_of_mem hx
    exact decide_eq_false (hb j hj)
  unfold fndI
  rw [e]
theorem fnd_cases (ns : List ByteArray) (s : ByteArray) : (∃ k, ∃ hk : k < ns.length, ns[k]'hk = s ∧ fndI ns s = k ∧ ∀ j, (hj : j < k) → (ns[j]'(by omega)) ≠ s) ∨ (fndI ns s = -1 ∧ s ∉ ns) := by
  cases e : ns.findIdx? (fun x => decide (x = s)) with
  | some k =>
    rw [List.findIdx?_eq_some_iff_getElem] at e
    obtain ⟨hk, h1, h2⟩ := e
    have h3 : ∀ j, (hj : j < k) → (ns[j]'(by omega)) ≠ s := fun j hj => by simpa using h2 j hj
    exact Or.inl ⟨k, hk, of_decide_eq_true h1, fnd_at hk (of_decide_eq_true h1) h3, h3⟩
  | none =>
    rw [List.findIdx?_eq_none_iff] at e
    refine Or.inr ⟨fnd_no (fun j hj h => ?_), fun hm => ?_⟩
    · have := e _ (List.getElem_mem hj); simp [h] at this
    · have := e s hm; simp at this
theorem fnd_neg {ns : List ByteArray} {s : ByteArray} : fndI ns s < 0 ↔ s ∉ ns := by
  rcases fnd_cases ns s with ⟨k, hk, h1, h2, _⟩ | ⟨h1, h2⟩
  · rw [h2]
    constructor
    · intro h; omega
    · intro h; exact absurd (h1 ▸ List.getElem_mem hk) h
  · rw [h1]; exact ⟨fun _ => h2, fun _ => by omega⟩

theorem fnd_in {ns : List ByteArray} {s : ByteArray} (h : ¬fndI ns s < 0) : ∃ k, k < ns.length ∧ fndI ns s = (k : Int) := by
  rcases fnd_cases ns s with ⟨k, hk, _, h2, _⟩ | ⟨h1, _⟩
  · exact ⟨k, hk, h2⟩
  · omega
end Go.Proofs.Ytfcgdhedaefonaa
