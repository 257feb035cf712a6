/-
  Slices of nodes within a span of blocks: copies, equality, size.
-/
import Derived.Test.YtkjnmldjgckbcaaRows
import Derived.Test.YtkjnmldjgckbcaaNestRes
import Derived.Test.YtkjnmldjgckbcaaBuRec
import Derived.Test.YtkjnmldjgckbcaaBuA
import Derived.WalkKit
import Derived.WalkSpells
import Derived.WalkSmall
import Derived.BigQuiet
import Derived.Deep.QuietTactic
import Derived.Lib.Hide
namespace Go.Proofs.Ytkjnmldjgckbcaa
open Go.RowKit

theorem CX.to (v : Value) (xs : List CN) (lo hi : Nat) (w : World) (_ : hi ≤ w.heap.size) (h : CX lo hi w v xs) (hm : CX.Sm xs) : Calls Try.prog 89 #[v] w (CpRes CX xs w) :=
  (CN.to_all v xs w h.is hm).mono fun _ _ ⟨v, h1, h2, h3⟩ => ⟨v, h1, CX.of_row h2, h3⟩
theorem CX.eq (v v' : Value) (xs : List CN) (lo hi lo' hi' : Nat) (w : World) (h : CX lo hi w v xs) (h' : CX lo' hi' w v' xs) (hm : CX.Sm xs) : Calls Try.prog 90 #[v, v'] w (YesRes w) :=
  CN.eq_all v v' xs w h.is h'.is (by unfold CX.Sm at hm; omega)
theorem CX.sz (v : Value) (xs : List CN) (left : Int) (lo hi : Nat) (w : World) (h : CX lo hi w v xs) (h0 : 0 ≤ left) (h1 : left ≤ 1048576) (hz : CX.Sz xs) : Calls Try.prog 88 #[v, .int .i64 left] w (SzRes (CX.Sm xs) w) :=
  (CN.sz_all v xs left w h.is h0 h1 hz.1 hz.2).mono fun _ _ ⟨r, h2, h3, h4, h5, h6⟩ => ⟨r, h2, h3, h4, fun h => by have := h5 h; unfold CX.Sm; omega, h6⟩
theorem CX.szT (v : Value) (xs : List CN) (left : Int) (lo hi : Nat) (w : World) (h : CX lo hi w v xs) (h0 : 0 ≤ left) (h1 : left ≤ 1048576) (hz : CX.Sz xs) : Calls Try.prog 88 #[v, .int .i64 left] w (SzResT (CX.Sm xs) xs.length left w) :=
  (CN.sz_all v xs left w h.is h0 h1 hz.1 hz.2).mono fun _ _ ⟨r, h2, h3, h4, h5, h6⟩ => ⟨r, h2, h3, h4, fun h => by have := h5 h; unfold CX.Sm; omega, h6⟩
section
open Go.ChangeShapes Go.WideShapes Go.ChangeAt Go.Joins
theorem CX.opened {H : Type} {enc : TypeId × Value → H} {W : World} {fuel : Nat} {v : Value} {y : DataW H × List MemPlace} (hf : DataW.trod enc Try.prog W 0 (fun _ => true) true fuel 87 [v] = some y) :
    ∃ xs : List CN, CX 0 W.heap.size W v xs ∧ CX.Sz xs := by
  refine slN_open (Q := CN.Sz) Try.underlying87 CN.cellsOf (by decide) (fun n cs z h _ => ?_) hf
  obtain ⟨r, rfl, hz⟩ := CN.opened h
  exact ⟨r, rfl, hz⟩
end
end Go.Proofs.Ytkjnmldjgckbcaa
