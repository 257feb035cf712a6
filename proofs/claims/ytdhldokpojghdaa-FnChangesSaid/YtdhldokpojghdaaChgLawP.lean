/-
  What the laws on changes need.
-/
import Derived.Test.YtdhldokpojghdaaChgExP
import Derived.Test.YtdhldokpojghdaaSpecApChgs
import Derived.Test.YtdhldokpojghdaaBuOwn
import Derived.Test.YtdhldokpojghdaaSameLn
import Derived.Test.YtdhldokpojghdaaBuDc
import Derived.Test.YtdhldokpojghdaaBuDr
import Derived.WalkKit
import Derived.WalkSpells
import Derived.WalkSmall
import Derived.BigQuiet
import Derived.OneCell
import Derived.Deep.QuietTactic
import Derived.Deep.DeepCutAuto
import Derived.Deep.RegionHeld3
import Derived.Laws.OwnMore
import Derived.Lib.Hide
namespace Go.Proofs.Ytdhldokpojghdaa
open Go.RowKit

theorem aps_sz {l : List IT} {ls : List BL} {cs : List CH} (hs : BX.Sz ls) (hc : ∀ c, c ∈ cs → CH.Sz c) : BX.Sz ((apsO l ls cs).getD []) := by
  by_cases h : BillsOk l ls ∧ cs.length ≤ 8
  · rw [apsO_yes h.1 h.2]
    cases h1 : foldO l cs ls with
    | none => exact ⟨Nat.zero_le _, fun _ hx => by cases hx⟩
    | some zs => exact foldO_sz cs ls zs h.1 hs hc h1
  · rw [apsO_no h]; exact ⟨Nat.zero_le _, fun _ hx => by cases hx⟩
theorem ap_sz {l : List IT} {ls : List BL} {x : CH} (hs : BX.Sz ls) (hx : CH.Sz x) : BX.Sz ((apO l ls x).getD []) := by
  cases h1 : apO l ls x with
  | none => exact ⟨Nat.zero_le _, fun _ hx => by cases hx⟩
  | some zs =>
    obtain ⟨h2, h3⟩ := apO_some h1
    subst h3
    exact chgL_sz hx hs (by have := h2.1.1.2.1; unfold maxLen; omega)
theorem tidyR_sz {l : List IT} {ls : List BL} (hs : BX.Sz ls) : BX.Sz (tidyR l ls) := by
  cases h : billsB l ls with
  | false => rw [tidyR_no h]; exact ⟨Nat.zero_le _, fun _ hx => by cases hx⟩
  | true => rw [tidyR_yes h]; exact tidyL_sz hs
/-- Changes together are the first ones and then the others. -/
theorem joined (l : List IT) (ls : List BL) (cs ds : List CH) (h8 : (cs ++ ds).length ≤ 8) : (apsO l ls cs = none → apsO l ls (cs ++ ds) = none) ∧ (∀ zs, apsO l ls cs = some zs → apsO l zs ds = apsO l ls (cs ++ ds)) := by
  have h1 : cs.length ≤ 8 := by simp at h8; omega
  have h2 : ds.length ≤ 8 := by simp at h8; omega
  by_cases hb : BillsOk l ls
  · rw [apsO_yes hb h1, apsO_yes hb h8, foldO_append]
    refine ⟨fun h => by rw [h], fun zs h => ?_⟩
    rw [h, apsO_yes (foldO_bills l cs ls zs hb h) h2]
  · rw [apsO_no (cs := cs) (fun h => hb h.1), apsO_no (cs := cs ++ ds) (fun h => hb h.1)]
    exact ⟨fun _ => rfl, fun zs h => by cases h⟩
/-- A part of a slice of changes. -/
theorem CH.is_part {W : World} {g q : Nat} {cs ds es : List CH} (h : CH.Is W (.slice (some ⟨g, 0, none⟩) (cs ++ ds ++ es).length q) (cs ++ ds ++ es)) (h0 : 0 < ds.length) (o c : Nat) (ho : o = cs.length * 5) (hc : ds.length ≤ c) : CH.Is W (.slice (some ⟨g, o, none⟩) ds.length c) ds := by
  obtain ⟨b, o2, c2, hv, hc2, hat⟩ := h.some (by simp; omega)
  simp only [Value.slice.injEq, Option.some.injEq, Addr.mk.injEq] at hv
  obtain ⟨⟨rfl, rfl, _⟩, _, rfl⟩ := hv
  refine Or.inr ⟨by intro e; rw [e] at h0; simp at h0, g, o, c, rfl, hc, hat.1, fun j x hx => ?_⟩
  have hj : j < ds.length := (List.getElem?_eq_some_iff.1 hx).1
  have h1 := hat.2 (cs.length + j) x (by rw [List.append_assoc, List.getElem?_append_right (by omega), List.getElem?_append_left (by omega)]; simpa using hx)
  subst ho
  have e1 : 0 + (cs.length + j) * 5 = cs.length * 5 + j * 5 := by rw [Nat.add_mul]; omega
  rw [e1] at h1
  exact h1
theorem CH.is_nil (W : World) (p : Option Addr) (c : Nat) : CH.Is W (.slice p 0 c) [] := Or.inl ⟨rfl, p, c, rfl⟩
end Go.Proofs.Ytdhldokpojghdaa
