/-
  A truth is returned. No program is named here.
-/
import Derived.WalkKit
import Derived.Laws.Rows
namespace Go.Proofs.Ytmoeomeilbinhaa
open Go.RowKit

def BoolRes (y : Bool) (w : World) (e : Ending) (w' : World) : Prop := e = .returned (.bool y) ∧ Below w.heap.size w w'
end Go.Proofs.Ytmoeomeilbinhaa
