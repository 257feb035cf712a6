/-
  What the helpers on slices of slices give. No program is named here.
-/
import Derived.Test.YtfcgdhedaefonaaNest
import Derived.WalkKit
import Derived.WalkSpells
import Derived.WalkSmall
import Derived.BigQuiet
import Derived.Deep.QuietTactic
import Derived.Lib.Hide
namespace Go.Proofs.Ytfcgdhedaefonaa
open Go.RowKit

def TX.Sm (xs : List ByteArray) : Prop := xs.length ≤ 1048576
def TX.Sz (xs : List ByteArray) : Prop := xs.length ≤ maxLen ∧ ∀ s, s ∈ xs → s.size ≤ maxLen
def CX.Sm (xs : List CN) : Prop := xs.length ≤ 1048576
def CX.Sz (xs : List CN) : Prop := xs.length ≤ maxLen ∧ ∀ s, s ∈ xs → CN.Sz s
/-- A size is returned. -/
def SzRes (p : Prop) (w : World) (e : Ending) (w' : World) : Prop := ∃ r : Int, e = .returned (.int .i64 r) ∧ -1 ≤ r ∧ r ≤ 1048576 ∧ (0 ≤ r → p) ∧ Below w.heap.size w w'
/-- .. with what is left of it. -/
def SzResT (p : Prop) (c : Nat) (left : Int) (w : World) (e : Ending) (w' : World) : Prop := ∃ r : Int, e = .returned (.int .i64 r) ∧ -1 ≤ r ∧ r ≤ 1048576 ∧ (0 ≤ r → p ∧ r + (c : Int) ≤ left) ∧ Below w.heap.size w w'
/-- A copy within the call's own span is returned. -/
def CpRes {α : Type} (S : Nat → Nat → World → Value → List α → Prop) (xs : List α) (w : World) (e : Ending) (w' : World) : Prop := ∃ v, e = .returned v ∧ S w.heap.size w'.heap.size w' v xs ∧ Below w.heap.size w w'
/-- True is returned. -/
def YesRes (w : World) (e : Ending) (w' : World) : Prop := e = .returned (.bool true) ∧ Below w.heap.size w w'

end Go.Proofs.Ytfcgdhedaefonaa
