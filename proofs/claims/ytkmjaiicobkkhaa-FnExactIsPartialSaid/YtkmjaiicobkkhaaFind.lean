/-
  The model's l1Find: where a string is first found in a slice of strings.
-/
import Derived.Test.YtkmjaiicobkkhaaRows
import Derived.Test.YtkmjaiicobkkhaaStrs
import Derived.WalkKit
import Derived.WalkSpells
import Derived.WalkSmall
import Derived.BigQuiet
import Derived.Deep.QuietTactic
import Derived.Lib.Hide
namespace Go.Proofs.Ytkmjaiicobkkhaa
open Go.RowKit

instance decTextC (x : ByteArray) (l : List ByteArray) : Decidable (x ∈ l) := decidable_of_iff (l.any (fun y => decide (y = x)) = true) (by simp)
/-- Where a string is first found, -1 for nowhere. -/
def fndI (ns : List ByteArray) (s : ByteArray) : Int := match ns.findIdx? (fun x => decide (x = s)) with
  | some k => (k : Int)
  | none => -1
theorem fnd_at {ns : List ByteArray} {s : ByteArray} {k : Nat} (hk : k < ns.length) (h : ns[k]'hk = s) (hb : ∀ j, (hj : j < k) → (ns[j]'(by omega)) ≠ s) : fndI ns s = k := by
  have e : ns.findIdx? (fun x => decide (x = s)) = some k := by
    rw [List.findIdx?_eq_some_iff_getElem]
    exact ⟨hk, decide_eq_true h, fun j hj => by simp [hb j hj]⟩
  unfold fndI
  rw [e]
theorem fnd_no {ns : List ByteArray} {s : ByteArray} (hb : ∀ j, (hj : j < ns.length) → (ns[j]'hj) ≠ s) : fndI ns s = -1 := by
  have e : ns.findIdx? (fun x => decide (x = s)) = none := by
    rw [List.findIdx?_eq_none_iff]
    intro x hx
    obtain ⟨j, hj, rfl⟩ := List.getElem_of_mem hx
    exact decide_eq_false (hb j hj)
  unfold fndI
  rw [e]
theorem fnd_cases (ns : List ByteArray) (s : ByteArray) : (∃ k, ∃ hk : k < ns.length, ns[k]'hk = s ∧ fndI ns s = k ∧ ∀ j, (hj : j < k) → (ns[j]'(by omega)) ≠ s) ∨ (fndI ns s = -1 ∧ s ∉ ns) := by
  cases e : ns.findIdx? (fun x => decide (x = s)) with
  | some k =>
    rw [List.findIdx?_eq_some_iff_getElem] at e
    obtain ⟨hk, h1, h2⟩ := e
    have h3 : ∀ j, (hj : j < k) → (ns[j]'(by omega)) ≠ s := fun j hj => by simpa using h2 j hj
    exact Or.inl ⟨k, hk, of_decide_eq_true h1, fnd_at hk (of_decide_eq_true h1) h3, h3⟩
  | none =>
    rw [List.findIdx?_eq_none_iff] at e
    refine Or.inr ⟨fnd_no (fun j hj h => ?_), fun hm => ?_⟩
    · have := e _ (List.getElem_mem hj); simp [h] at this
    · have := e s hm; simp at this
theorem fnd_neg {ns : List ByteArray} {s : ByteArray} : fndI ns s < 0 ↔ s ∉ ns := by
  rcases fnd_cases ns s with ⟨k, hk, h1, h2, _⟩ | ⟨h1, h2⟩
  · rw [h2]
    constructor
    · intro h; omega
    · intro h; exact absurd (h1 ▸ List.getElem_mem hk) h
  · rw [h1]; exact ⟨fun _ => h2, fun _ => by omega⟩

theorem fnd_in {ns : List ByteArray} {s : ByteArray} (h : ¬fndI ns s < 0) : ∃ k, k < ns.length ∧ fndI ns s = (k : Int) := by
  rcases fnd_cases ns s with ⟨k, hk, _, h2, _⟩ | ⟨h1, _⟩
  · exact ⟨k, hk, h2⟩
  · omega
theorem str_ne {x y : ByteArray} (h : x ≠ y) : (x.toList == y.toList) = false := beq_eq_false_iff_ne.2 (fun e => h (by
  rw [ByteArray.toList_eq, ByteArray.toList_eq] at e
  cases x; cases y
  simpa [Array.toList_inj] using e))
theorem str_eq {x y : ByteArray} (h : x = y) : (x.toList == y.toList) = true := by rw [h]; exact beq_self_eq_true _
set_option maxRecDepth 100000 in
set_option maxHeartbeats 400000 in
theorem spec_find (v : Value) (ns : List ByteArray) (s : ByteArray) (w : World) (h : Strs w v ns) (hm : ns.length ≤ 1048577) :
    Calls Try.prog 66 #[v, .string s] w fun e w' => e = .returned (.int .i64 (fndI ns s)) ∧ Below w.heap.size w w' := by
  have HX := Lib.hid h
  obtain ⟨a, c, rfl⟩ : ∃ (a : Option Addr) (c : Nat), v = .slice a ns.length c := by
    rcases h with ⟨rfl, a, c, rfl⟩ | ⟨_, b, o, c, rfl, _⟩
    · exact ⟨a, c, rfl⟩
    · exact ⟨_, c, rfl⟩
  clear h
  go_enter Try.func66, Try.ntmps66
  go_wp2
  go_loopw [5] (fun i wr => ∃ k : Nat, k ≤ ns.length ∧ i = .int .i64 k ∧ Hid (∀ j, (hj : j < ns.length) → j < k → (ns[j]'hj) ≠ s) ∧ Below w.heap.size w wr) (fun i _ => ns.length - (intOf i).toNat)
  case atStart => exact ⟨0, Nat.zero_le _, rfl, Lib.hid (fun j _ h => by omega), Below.refl _ _⟩
  case round =>
    obtain ⟨k, hk, rfl, HN, hb⟩ := hrel
    have HB := Lib.hid hb
    by_cases hlt : k < ns.length
    · obtain ⟨b2, o2, c2, hv2, hcell2⟩ : ∃ b o c : Nat, (Value.slice a ns.length c : Value) = Value.slice a ns.length c ∧ a = some ⟨b, o, none⟩ ∧ CellsS w b o ns := by
        rcases HX.out with ⟨h0, _⟩ | ⟨_, b, o, c', hv, _, hcell⟩
        · rw [h0] at hlt; simp at hlt
        · simp only [Value.slice.injEq] at hv
          exact ⟨b, o, c, rfl, hv.1, hcell⟩
      obtain ⟨rfl, hcell⟩ := hcell2
      have e1 := (hcell.below hb).at k hlt
      by_cases he : (ns[k]'hlt) = s
      · have HF := Lib.hid (fnd_at hlt he (fun j hj => HN.out j (by omega) hj))
        go_wp2
        go_ret
        exact ⟨by rw [HF.out]; rfl, hb⟩
      · have HN2 : Hid (∀ j, (hj : j < ns.length) → j < k + 1 → (ns[j]'hj) ≠ s) := Lib.hid (fun j hj h1 => by
          by_cases e : j = k
          · subst e; exact he
          · exact HN.out j hj (by omega))
        have hbq := str_ne he
        clear he
        generalize ns[k]'hlt = x at *
        go_wp2
        go_roundw
        case rel => exact ⟨k + 1, by omega, by go_num, HN2, hb⟩
        case measure => simp [intOf]; omega
    · have HF := Lib.hid (fnd_no (ns := ns) (s := s) (fun j hj => HN.out j hj (by omega)))
      go_wp2
      go_ret
      exact ⟨by rw [HF.out]; rfl, hb⟩
end Go.Proofs.Ytkmjaiicobkkhaa
