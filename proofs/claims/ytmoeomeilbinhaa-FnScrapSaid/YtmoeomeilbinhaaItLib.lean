/-
  What an item is. No program is named here.
-/
import Derived.Test.YtmoeomeilbinhaaITRec
import Derived.Test.YtmoeomeilbinhaaIsCodeLib
namespace Go.Proofs.Ytmoeomeilbinhaa

/-- An item is one. -/
def ItOk (x : IT) : Prop := isCode.codeB x.code = true ∧ isCode.codeB x.unt = true ∧ (0 ≤ x.kind ∧ x.kind ≤ 2) ∧ (0 ≤ x.lead ∧ x.lead ≤ 30) ∧ (0 ≤ x.rule ∧ x.rule ≤ 2) ∧ (0 ≤ x.safe ∧ x.safe ≤ 100000) ∧ (0 ≤ x.scr ∧ x.scr ≤ 50) ∧
  ¬(x.kind = 2 ∧ (x.lead ≠ 0 ∨ x.rule ≠ 0 ∨ x.safe ≠ 0 ∨ x.scr ≠ 0)) ∧ ((x.rule = 0 ∧ x.lsz = 0) ∨ (x.rule ≠ 0 ∧ 1 ≤ x.lsz ∧ x.lsz ≤ 1000))
open Classical in
noncomputable def itB (x : IT) : Bool := decide (ItOk x)
open Classical in
theorem itB_yes {x : IT} (h : ItOk x) : itB x = true := decide_eq_true h
open Classical in
theorem itB_no {x : IT} (h : ¬ItOk x) : itB x = false := decide_eq_false h
open Classical in
theorem itB_iff {x : IT} : itB x = true ↔ ItOk x := by unfold itB; exact decide_eq_true_iff
end Go.Proofs.Ytmoeomeilbinhaa
