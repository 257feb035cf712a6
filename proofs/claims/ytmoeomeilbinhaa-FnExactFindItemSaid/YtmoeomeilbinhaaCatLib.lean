/-
  What a catalog is, and where an item stands in it. No program is named here.
-/
import Derived.Test.YtmoeomeilbinhaaItLib
import Derived.Test.YtmoeomeilbinhaaFndLib
import Derived.Test.YtmoeomeilbinhaaStrOrd
import Derived.WalkKit
import Derived.Lib.Hide
namespace Go.Proofs.Ytmoeomeilbinhaa
open Go.RowKit

/-- The first k items are items with ascending codes. -/
def CatTo (l : List IT) (k : Nat) : Prop := ∀ i (hi : i < l.length), i < k → ItOk (l[i]'hi) ∧ ∀ (_ : 0 < i), strLt (l[i - 1]'(by omega)).code (l[i]'hi).code
def CatOk (l : List IT) : Prop := CatTo l l.length ∧ l.length ≤ 12
open Classical in
noncomputable def catB (l : List IT) : Bool := decide (CatOk l)
open Classical in
theorem catB_yes {l : List IT} (h : CatOk l) : catB l = true := decide_eq_true h
open Classical in
theorem catB_no {l : List IT} (h : ¬CatOk l) : catB l = false := decide_eq_false h
open Classical in
theorem catB_iff {l : List IT} : catB l = true ↔ CatOk l := by unfold catB; exact decide_eq_true_iff
theorem CatTo.zero (l : List IT) : CatTo l 0 := fun _ _ h => absurd h (Nat.not_lt_zero _)
theorem CatTo.succ {l : List IT} {k : Nat} (h : CatTo l k) (hk : k < l.length) (h1 : ItOk (l[k]'hk)) (h2 : ∀ (_ : 0 < k), strLt (l[k - 1]'(by omega)).code (l[k]'hk).code) : CatTo l (k + 1) := by
  intro i hi hlt
  by_cases e : i = k
  · subst e; exact ⟨h1, h2⟩
  · exact h i hi (by omega)
theorem CatTo.all {l : List IT} {k : Nat} (h : CatTo l k) (hk : l.length ≤ k) : CatTo l l.length := fun i hi _ => h i hi (by omega)
theorem CatTo.no1 {l : List IT} {k : Nat} (hk : k < l.length) (h : ¬ItOk (l[k]'hk)) : catB l = false := catB_no (fun h2 => h (h2.1 k hk hk).1)
theorem CatTo.no2 {l : List IT} {k : Nat} (hk : k < l.length) (h0 : 0 < k) (h : ¬strLt (l[k - 1]'(by omega)).code (l[k]'hk).code) : catB l = false := catB_no (fun h2 => h ((h2.1 k hk hk).2 h0))
/-- Where an item is first found, -1 for nowhere. -/
def fiI (l : List IT) (s : ByteArray) : Int := fndI (l.map IT.code) s
theorem fi_at {l : List IT} {s : ByteArray} {k : Nat} (hk : k < l.length) (h : (l[k]'hk).code = s) (hb : ∀ j (hj : j < l.length), j < k → (l[j]'hj).code ≠ s) : fiI l s = k :=
  fnd_at (ns := l.map IT.code) (by simpa using hk) (by simpa using h) (fun j hj => by simpa using hb j (by omega) hj)
theorem fi_no {l : List IT} {s : ByteArray} (hb : ∀ j (hj : j < l.length), (l[j]'hj).code ≠ s) : fiI l s = -1 :=
  fnd_no (ns := l.map IT.code) (fun j hj => by simpa using hb j (by simpa using hj))
/-- A number is returned. -/
def IntRes (z : Int) (w : World) (e : Ending) (w' : World) : Prop := e = .returned (.int .i64 z) ∧ Below w.heap.size w w'
end Go.Proofs.Ytmoeomeilbinhaa
