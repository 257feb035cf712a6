/-
  A law's argument of type []laws.Routing.
-/
import Derived.Test.YtfcgdhedaefonaaRTN
import Derived.WalkKit
import Derived.OpenShut
import Derived.Carry
import Derived.Deep.DeepHandedRow
import Derived.Lib.Hide
namespace Go.Proofs.Ytfcgdhedaefonaa
open Go.ChangeShapes Go.WideShapes Go.ChangeAt Go.RowKit Go.Joins
set_option maxRecDepth 100000 in
theorem RU.args_openS {H : Type} {enc : TypeId × Value → H} {W : World} {base : Nat} {v : Value} {d : DataW H} {p : List MemPlace} (hv : Value.okWide Try.prog W .any base 48 v)
    (h0 : DataW.Trod enc Try.prog W 0 (fun _ => true) true 48 v d p) : ∃ xs : List RT, RU 0 W.heap.size W v xs ∧ RU.Sz xs := by
  obtain ⟨a0, len, cap, rfl⟩ := okWide_slice Try.underlying48 hv
  obtain ⟨fuel, hf⟩ := h0
  exact RU.opened hf
end Go.Proofs.Ytfcgdhedaefonaa
