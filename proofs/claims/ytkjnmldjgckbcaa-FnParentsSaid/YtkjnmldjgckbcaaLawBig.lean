/-
  The laws' own test for texts that are too large.
-/
import Derived.Test.YtkjnmldjgckbcaaRows
import Derived.WalkKit
import Derived.WalkSpells
import Derived.WalkSmall
namespace Go.Proofs.Ytkjnmldjgckbcaa
open Go.RowKit

set_option maxRecDepth 100000 in
theorem laws_big (a : Option Addr) (n c : Nat) (w : World) : Calls Try.prog 9 #[.slice a n c] w fun e w' => e = .returned (.bool (decide (1048576 < (n : Int)))) ∧ w' = w := by
  go_enter Try.func9, Try.ntmps9
  go_wp2
  go_ret
  exact ⟨rfl, rfl⟩
end Go.Proofs.Ytkjnmldjgckbcaa
