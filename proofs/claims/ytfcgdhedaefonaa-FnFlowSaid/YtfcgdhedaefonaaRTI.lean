/-
  Routing by itself: what it reads as, copies, equality, size, an argument.
-/
import Derived.Test.YtfcgdhedaefonaaRTN
import Derived.WalkKit
import Derived.OpenShut
import Derived.Carry
import Derived.Deep.DeepHandedRow
import Derived.Lib.Hide
namespace Go.Proofs.Ytfcgdhedaefonaa
open Go.RowKit

/-- A value that is one. -/
def RT.Is (lo hi : Nat) (w : World) (v : Value) (x : RT) : Prop := ∃ u1, v = .agg #[.string x.item, u1] ∧ SX lo hi w u1 x.steps
theorem RT.Is.same {lo hi : Nat} {w w' : World} {v : Value} {x : RT} (h : RT.Is lo hi w v x) (hs : Same lo hi w w') : RT.Is lo hi w' v x := by
  obtain ⟨u1, rfl, h1⟩ := h
  exact ⟨u1, rfl, h1.same StN.kept hs⟩
theorem RT.Is.below {lo hi : Nat} {w w' : World} {v : Value} {x : RT} (h : RT.Is lo hi w v x) (hb : Below w.heap.size w w') : RT.Is lo hi w' v x := h.same (Same.of_below hb)
theorem RT.Is.mono {lo hi lo' hi' : Nat} {w : World} {v : Value} {x : RT} (h : RT.Is lo hi w v x) (a : lo' ≤ lo) (b : hi ≤ hi') : RT.Is lo' hi' w v x := by
  obtain ⟨u1, rfl, h1⟩ := h
  exact ⟨u1, rfl, h1.mono StN.kept a b⟩

theorem RT.to (v : Value) (x : RT) (lo hi : Nat) (w : World) (hhi : hi ≤ w.heap.size) (h : RT.Is lo hi w v x) (hm : RT.Sm x) : Calls Try.prog 27 #[v] w fun e w' => ∃ v', e = .returned v' ∧ RT.Is w.heap.size w'.heap.size w' v' x ∧ Below w.heap.size w w' := by
  obtain ⟨u1, rfl, h1⟩ := h
  refine (RT.to_one x u1 lo hi w hhi h1 hm).mono ?_
  rintro e w' ⟨v1, rfl, g1, hb⟩
  exact ⟨_, rfl, ⟨v1, rfl, g1⟩, hb⟩
theorem RT.eq (v v' : Value) (x : RT) (lo hi lo' hi' : Nat) (w : World) (h : RT.Is lo hi w v x) (h' : RT.Is lo' hi' w v' x) (hm : RT.Sm x) : Calls Try.prog 29 #[v, v'] w (YesRes w) := by
  obtain ⟨u1, rfl, h1⟩ := h
  obtain ⟨t1, rfl, g1⟩ := h'
  exact RT.eq_one x u1 t1 lo hi lo' hi' w h1 g1 hm
theorem RT.sz (v : Value) (x : RT) (left : Int) (lo hi : Nat) (w : World) (h : RT.Is lo hi w v x) (h0 : 0 ≤ left) (h1 : left ≤ 1048576) (hz : RT.Sz x) : Calls Try.prog 25 #[v, .int .i64 left] w (SzRes (RT.Sm x) w) := by
  obtain ⟨u1, rfl, g1⟩ := h
  exact RT.sz_one x u1 left lo hi w g1 h0 h1 hz
section
open Go.ChangeShapes Go.WideShapes Go.ChangeAt Go.Joins
set_option maxRecDepth 100000 in
theorem RT.args_open {H : Type} {enc : TypeId × Value → H} {W : World} {base : Nat} {v : Value} {d : DataW H} {p : List MemPlace} (hv : Value.okWide Try.prog W .any base 42 v)
    (h0 : DataW.Trod enc Try.prog W 0 (fun _ => true) true 42 v d p) : ∃ x : RT, RT.Is 0 W.heap.size W v x ∧ RT.Sz x := by
  obtain ⟨cs, rfl, _⟩ := okWide_struct Try.underlying42 hv
  obtain ⟨fuel, hf⟩ := h0
  obtain ⟨r, ⟨u1, hcs, h1⟩, hz⟩ := RT.opened hf
  refine ⟨r, ⟨u1, ?_, h1⟩, hz⟩
  have h1 : cs = _ := Array.toList_inj.1 hcs
  rw [h1]
end
end Go.Proofs.Ytfcgdhedaefonaa
