/-
  Slices of steps within a span of blocks: copies, equality, size.
-/
import Derived.Test.YtfcgdhedaefonaaRows
import Derived.Test.YtfcgdhedaefonaaNest
import Derived.Test.YtfcgdhedaefonaaNestRes
import Derived.Test.YtfcgdhedaefonaaSTRec
import Derived.Test.YtfcgdhedaefonaaSTTo
import Derived.Test.YtfcgdhedaefonaaSTEq
import Derived.Test.YtfcgdhedaefonaaSTKit
import Derived.Test.YtfcgdhedaefonaaHold
import Derived.Test.YtfcgdhedaefonaaHoldN
import Derived.WalkKit
import Derived.WalkSpells
import Derived.WalkSmall
import Derived.BigQuiet
import Derived.Deep.QuietTactic
import Derived.Lib.Hide
namespace Go.Proofs.Ytfcgdhedaefonaa
open Go.RowKit

/-- Steps, within a span. -/
def StN : RelN ST := fun _ _ _ x cs => cs = x.enc
theorem StN.kept : KeptN StN := ⟨fun _ _ _ _ _ _ _ h => h, fun _ _ _ _ _ _ _ _ _ h => h⟩
abbrev SX := SlN 3 StN
theorem SX.is {lo hi : Nat} {w : World} {v : Value} {xs : List ST} (h : SX lo hi w v xs) : ST.Is w v xs := by
  obtain ⟨a, c, rfl, hc, h⟩ := h
  by_cases h0 : xs = []
  · subst h0
    exact Or.inl ⟨rfl, _, _, rfl⟩
  · have hp : 0 < xs.length := List.length_pos_iff.2 h0
    obtain ⟨b, o, rfl, _, hb, h⟩ := h hp
    refine Or.inr ⟨h0, b, o, c, rfl, hc, hb, fun j x hx => ?_⟩
    have hj : j < xs.length := (List.getElem?_eq_some_iff.1 hx).1
    obtain ⟨cs, h1, h2, h3⟩ := h j hj
    rw [List.getElem?_eq_getElem hj] at hx
    rw [Option.some.inj hx] at h2
    subst h2
    exact ⟨h3 0 (by omega), h3 1 (by omega), h3 2 (by omega)⟩
theorem SX.of_row {base e : Nat} {w : World} {v : Value} {xs : List ST} (h : w.ownsRow base e 3 v xs.length (ST.cells xs)) : SX base w.heap.size w v xs := by
  rcases h.2 with ⟨rfl, hx⟩ | ⟨g, cap, cur, rfl, hb, hg, hnc, hcm, hcs, htake⟩
  · have : xs = [] := List.eq_nil_of_length_eq_zero hx
    subst this
    exact SlN.nil _ _ _ _ _ _ _
  · refine ⟨_, _, rfl, hnc, fun _ => ⟨g, 0, rfl, ⟨(h.lt g rfl).1, (h.lt g rfl).2⟩, (h.lt g rfl).2, fun j hj => ⟨_, rfl, rfl, fun i hi => ?_⟩⟩⟩
    have h4 := ST.cells_at xs j _ (List.getElem?_eq_getElem hj)
    rw [Nat.zero_add, h.cellAt (j * 3 + i) (by omega)]
    match i, hi with
    | 0, _ => exact h4.1
    | 1, _ => exact h4.2.1
    | 2, _ => exact h4.2.2

def SX.Sm (xs : List ST) : Prop := xs.length ≤ 1048576
def SX.Sz (xs : List ST) : Prop := xs.length ≤ maxLen ∧ ∀ s, s ∈ xs → ST.Sz s
theorem SX.to (v : Value) (xs : List ST) (lo hi : Nat) (w : World) (_ : hi ≤ w.heap.size) (h : SX lo hi w v xs) (hm : SX.Sm xs) : Calls Try.prog 54 #[v] w (CpRes SX xs w) :=
  (ST.to_all v xs w h.is hm).mono fun _ _ ⟨v, h1, h2, h3⟩ => ⟨v, h1, SX.of_row h2, h3⟩
theorem SX.eq (v v' : Value) (xs : List ST) (lo hi lo' hi' : Nat) (w : World) (h : SX lo hi w v xs) (h' : SX lo' hi' w v' xs) (hm : SX.Sm xs) : Calls Try.prog 57 #[v, v'] w (YesRes w) :=
  ST.eq_all v v' xs w h.is h'.is (by unfold SX.Sm at hm; omega)
theorem SX.sz (v : Value) (xs : List ST) (left : Int) (lo hi : Nat) (w : World) (h : SX lo hi w v xs) (h0 : 0 ≤ left) (h1 : left ≤ 1048576) (hz : SX.Sz xs) : Calls Try.prog 53 #[v, .int .i64 left] w (SzRes (SX.Sm xs) w) :=
  (ST.sz_all v xs left w h.is h0 h1 hz.1 hz.2).mono fun _ _ ⟨r, h2, h3, h4, h5, h6⟩ => ⟨r, h2, h3, h4, fun h => by have := h5 h; unfold SX.Sm; omega, h6⟩
theorem SX.szT (v : Value) (xs : List ST) (left : Int) (lo hi : Nat) (w : World) (h : SX lo hi w v xs) (h0 : 0 ≤ left) (h1 : left ≤ 1048576) (hz : SX.Sz xs) : Calls Try.prog 53 #[v, .int .i64 left] w (SzResT (SX.Sm xs) xs.length left w) :=
  (ST.sz_all v xs left w h.is h0 h1 hz.1 hz.2).mono fun _ _ ⟨r, h2, h3, h4, h5, h6⟩ => ⟨r, h2, h3, h4, fun h => by have := h5 h; unfold SX.Sm; omega, h6⟩
section
open Go.ChangeShapes Go.WideShapes Go.ChangeAt Go.Joins
theorem SX.opened {H : Type} {enc : TypeId × Value → H} {W : World} {fuel : Nat} {v : Value} {y : DataW H × List MemPlace} (hf : DataW.trod enc Try.prog W 0 (fun _ => true) true fuel 40 [v] = some y) :
    ∃ xs : List ST, SX 0 W.heap.size W v xs ∧ SX.Sz xs := by
  refine slN_open (Q := ST.Sz) Try.underlying40 ST.cellsOf (by decide) (fun n cs z h _ => ?_) hf
  obtain ⟨r, rfl, hz⟩ := ST.opened h
  exact ⟨r, rfl, hz⟩
end
end Go.Proofs.Ytfcgdhedaefonaa
