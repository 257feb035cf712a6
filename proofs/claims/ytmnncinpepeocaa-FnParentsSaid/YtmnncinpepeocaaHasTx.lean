/-
  The laws' own search in a list of texts.
-/
import Derived.Test.YtmnncinpepeocaaRows
import Derived.Test.YtmnncinpepeocaaBuA
import Derived.WalkKit
import Derived.WalkSpells
import Derived.WalkSmall
import Derived.BigQuiet
import Derived.Deep.QuietTactic
import Derived.Lib.Hide
namespace Go.Proofs.Ytmnncinpepeocaa
open Go.RowKit

theorem Strs.slice {w : World} {v : Value} {ns : List ByteArray} (h : Strs w v ns) : ∃ (a : Option Addr) (c : Nat), v = .slice a ns.length c := by
  rcases h with ⟨rfl, a, c, rfl⟩ | ⟨_, b, o, c, rfl, _⟩
  · exact ⟨a, c, rfl⟩
  · exact ⟨_, c, rfl⟩
theorem Strs.some {w : World} {v : Value} {ns : List ByteArray} (h : Strs w v ns) (h0 : 0 < ns.length) : ∃ b o c : Nat, v = .slice (some ⟨b, o, none⟩) ns.length c ∧ ns.length ≤ c ∧ CellsS w b o ns := by
  rcases h with ⟨rfl, _⟩ | ⟨_, h⟩
  · simp at h0
  · exact h

set_option maxRecDepth 100000 in
set_option maxHeartbeats 400000 in
theorem laws_has (v : Value) (ns : List ByteArray) (s : ByteArray) (b : Bool) (w : World) (h : Strs w v ns) (hm : ns.length ≤ 1048577) (hb' : b = true ↔ s ∈ ns) :
    Calls Try.prog 14 #[v, .string s] w fun e w' => e = .returned (.bool b) ∧ Below w.heap.size w w' := by
  have HX := Lib.hid h
  obtain ⟨a, c, rfl⟩ := h.slice
  have HBB := Lib.hid hb'
  clear h hb'
  go_enter Try.func14, Try.ntmps14
  go_wp2
  go_loopw [5] (fun i wr => ∃ k : Nat, k ≤ ns.length ∧ i = .int .i64 k ∧ Hid (∀ j, (hj : j < ns.length) → j < k → (ns[j]'hj) ≠ s) ∧ Below w.heap.size w wr) (fun i _ => ns.length - (intOf i).toNat)
  case atStart => exact ⟨0, Nat.zero_le _, rfl, Lib.hid (fun j _ h => by omega), Below.refl _ _⟩
  case round =>
    obtain ⟨k, hk, rfl, HN, hb⟩ := hrel
    by_cases hlt : k < ns.length
    · obtain ⟨b2, o2, c2, hv2, hc2, hcell⟩ := HX.out.some (by omega)
      simp only [Value.slice.injEq] at hv2
      obtain ⟨rfl, hl2, rfl⟩ := hv2
      clear hl2
      have e1 := (hcell.below hb).at k hlt
      by_cases he : (ns[k]'hlt) = s
      · have HF : Hid (b = true) := Lib.hid (HBB.out.2 (he ▸ List.getElem_mem hlt))
        go_wp2
        go_ret
        exact ⟨by rw [HF.out]; rfl, hb⟩
      · have HN2 : Hid (∀ j, (hj : j < ns.length) → j < k + 1 → (ns[j]'hj) ≠ s) := Lib.hid (fun j hj h1 => by
          by_cases e : j = k
          · subst e; exact he
          · exact HN.out j hj (by omega))
        have hbq := str_ne he
        clear he
        generalize ns[k]'hlt = x at *
        go_wp2
        go_roundw
        case rel => exact ⟨k + 1, by omega, by go_num, HN2, hb⟩
        case measure => simp [intOf]; omega
    · have HF : Hid (b = false) := Lib.hid (by
        cases hbb : b with
        | false => rfl
        | true =>
          obtain ⟨j, hj, e⟩ := List.getElem_of_mem (HBB.out.1 hbb)
          exact absurd e (HN.out j hj (by omega)))
      go_wp2
      go_ret
      exact ⟨by rw [HF.out]; rfl, hb⟩

end Go.Proofs.Ytmnncinpepeocaa
