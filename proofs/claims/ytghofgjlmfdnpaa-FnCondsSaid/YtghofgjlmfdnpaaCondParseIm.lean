/-
  The program's ParseCond answers as the model.
-/
import Derived.Test.YtghofgjlmfdnpaaCondRd7
import Derived.Test.YtghofgjlmfdnpaaCondSames
import Derived.Test.YtghofgjlmfdnpaaCondParseEx
namespace Go.Proofs.Ytghofgjlmfdnpaa
theorem im_ParseCond : ImplParseCond := fun s w hs => by
  rw [← par_same]
  exact im_ParseCond' s w hs
end Go.Proofs.Ytghofgjlmfdnpaa
