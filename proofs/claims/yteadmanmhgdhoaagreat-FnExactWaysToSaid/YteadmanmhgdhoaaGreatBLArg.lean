/-
 A law's argument of type []laws.BillLine.
-/
import Derived.Test.YteadmanmhgdhoaaGreatBLN
import Derived.WalkKit
import Derived.OpenShut
import Derived.Carry
import Derived.Deep.DeepHandedRow
import Derived.Lib.Hide
namespace Go.Proofs.YteadmanmhgdhoaaGreat
open Go.ChangeShapes Go.WideShapes Go.ChangeAt Go.RowKit Go.Joins
set_option maxRecDepth 100000 in
theorem BX.args_openS {H : Type} {enc : TypeId × Value → H} {W : World} {base : Nat} {v : Value} {d : DataW H} {p : List MemPlace} (hv : Value.okWide Tryz.prog W .any base 44 v)
 (h0 : DataW.Trod enc Tryz.prog W 0 (fun _ => true) true 44 v d p) : ∃ xs : List BL, BX 0 W.heap.size W v xs ∧ BX.Sz xs := by
 obtain ⟨a0, len, cap, rfl⟩ := okWide_slice Tryz.underlying44 hv
 obtain ⟨fuel, hf⟩ := h0
 exact BX.opened hf
end Go.Proofs.YteadmanmhgdhoaaGreat
