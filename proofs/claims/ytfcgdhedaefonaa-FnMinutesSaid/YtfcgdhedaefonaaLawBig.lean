/-
  The laws' own test for texts that are too large.
-/
import Derived.Test.YtfcgdhedaefonaaRows
import Derived.WalkKit
import Derived.WalkSpells
import Derived.WalkSmall
namespace Go.Proofs.Ytfcgdhedaefonaa
open Go.RowKit

set_option maxRecDepth 100000 in
theorem laws_big (a : Option Addr) (n c : Nat) (w : World) : Calls Try.prog 13 #[.slice a n c] w fun e w' => e = .returned (.bool (decide (1048576 < (n : Int)))) ∧ w' = w := by
  go_enter Try.func13, Try.ntmps13
  go_wp2
  go_ret
  exact ⟨rfl, rfl⟩
end Go.Proofs.Ytfcgdhedaefonaa
