/-
  No cell of these rows narrows 'for every input' (looked for: loops, veiled, ifaces, maps, wideKeys, modest, calm, conditions, laid).
  DERIVED. THE GIVEN ROWS OF THIS SEAT. 10 by the template 'for every input the law returns true; each argument reads behind the call as it read before'; 0 by the template 'total and deterministic' (their statements: YtfcgdhedaefonaaTotals.lean).
  GIVEN WITH THE SEED: the statements are not yours to turn. If you find one false, say at which input.
  Laid BY PROGRAM, IN A SANDBOX (cutbox-rows.mjs): the forced cells as the released guide's own fill.sh prints them over the translation 091f734b96500e96… (all of the seat's roots in one cut). By AI agents, Wed Nov 11 2026. No macro, syntax, notation, axiom, sorry.
-/
import Derived.Test.YtfcgdhedaefonaaChecked
import GoSem.Claim
import GoSem.ClaimJoined
import GoSem.ClaimMapViews
import Derived.JoinedTies
import Derived.KernelRfl
namespace Go.Proofs.Ytfcgdhedaefonaa
/- THE CELL 'sum', in the pinned program and in every row, IS THE sha256 OF THE DUMP (.gsa) THAT YtfcgdhedaefonaaProg.lean LOADS. Nothing in Lean hashes anything: it is a label: what it is worth is what the hold of that sum in a sandbox is worth. -/
noncomputable def Try.pinned : Pinned := { name := "ytfcgdhedaefonaa", sum := "091f734b96500e96c8691f3d533c844c504132da2e97d8f480ee50a34e15e7e6", checked := Try.checked }
namespace Rows
def none {H : Type} : Left H := { results := [], args := [] }

/-- 'laws.FnMinutes': WHATEVER THE INPUT: true; the input reads as it did. -/
def fnMinutesSpec : ChangeSpec := { name := "fnMinutes", fn := fun _ => fun
  | [d] => { results := [.lit (.bool true)], args := [d] }
  | _ => none }
def fnMinutesRow : OpenClaim := { program := "ytfcgdhedaefonaa", sum := "091f734b96500e96c8691f3d533c844c504132da2e97d8f480ee50a34e15e7e6", func := "loop.example/g03407/laws.FnMinutes", spec := "fnMinutes", unfollowed := true, recurses := true, apart := false }
def FnMinutesSaid : Prop := fnMinutesRow.holds Try.pinned (OpenSpec.ofChange fnMinutesSpec)

/-- ITS FALSE NEIGHBOUR: 'it returns false'. Refute it at one input. -/
def fnMinutesWrong : ChangeSpec := { name := "fnMinutes", fn := fun _ => fun
  | [d] => { results := [.lit (.bool false)], args := [d] }
  | _ => none }
def FnMinutesWrongFalsely : Prop := fnMinutesRow.holds Try.pinned (OpenSpec.ofChange fnMinutesWrong)

/-- 'laws.FnFlow': WHATEVER THE INPUT: true; the input reads as it did. -/
def fnFlowSpec : ChangeSpec := { name := "fnFlow", fn := fun _ => fun
  | [d] => { results := [.lit (.bool true)], args := [d] }
  | _ => none }
def fnFlowRow : OpenClaim := { program := "ytfcgdhedaefonaa", sum := "091f734b96500e96c8691f3d533c844c504132da2e97d8f480ee50a34e15e7e6", func := "loop.example/g03407/laws.FnFlow", spec := "fnFlow", unfollowed := true, recurses := true, apart := false }
def FnFlowSaid : Prop := fnFlowRow.holds Try.pinned (OpenSpec.ofChange fnFlowSpec)

/-- ITS FALSE NEIGHBOUR: 'it returns false'. Refute it at one input. -/
def fnFlowWrong : ChangeSpec := { name := "fnFlow", fn := fun _ => fun
  | [d] => { results := [.lit (.bool false)], args := [d] }
  | _ => none }
def FnFlowWrongFalsely : Prop := fnFlowRow.holds Try.pinned (OpenSpec.ofChange fnFlowWrong)

/-- 'laws.FnExactIsStep': WHATEVER THE INPUT: true; the input reads as it did. -/
def fnExactIsStepSpec : ChangeSpec := { name := "fnExactIsStep", fn := fun _ => fun
  | [d] => { results := [.lit (.bool true)], args := [d] }
  | _ => none }
def fnExactIsStepRow : OpenClaim := { program := "ytfcgdhedaefonaa", sum := "091f734b96500e96c8691f3d533c844c504132da2e97d8f480ee50a34e15e7e6", func := "loop.example/g03407/laws.FnExactIsStep", spec := "fnExactIsStep", apart := false }
def FnExactIsStepSaid : Prop := fnExactIsStepRow.holds Try.pinned (OpenSpec.ofChange fnExactIsStepSpec)

/-- ITS FALSE NEIGHBOUR: 'it returns false'. Refute it at one input. -/
def fnExactIsStepWrong : ChangeSpec := { name := "fnExactIsStep", fn := fun _ => fun
  | [d] => { results := [.lit (.bool false)], args := [d] }
  | _ => none }
def FnExactIsStepWrongFalsely : Prop := fnExactIsStepRow.holds Try.pinned (OpenSpec.ofChange fnExactIsStepWrong)

/-- 'laws.FnExactIsRouting': WHATEVER THE INPUT: true; the input reads as it did. -/
def fnExactIsRoutingSpec : ChangeSpec := { name := "fnExactIsRouting", fn := fun _ => fun
  | [d] => { results := [.lit (.bool true)], args := [d] }
  | _ => none }
def fnExactIsRoutingRow : OpenClaim := { program := "ytfcgdhedaefonaa", sum := "091f734b96500e96c8691f3d533c844c504132da2e97d8f480ee50a34e15e7e6", func := "loop.example/g03407/laws.FnExactIsRouting", spec := "fnExactIsRouting", unfollowed := true, recurses := true, apart := false }
def FnExactIsRoutingSaid : Prop := fnExactIsRoutingRow.holds Try.pinned (OpenSpec.ofChange fnExactIsRoutingSpec)

/-- ITS FALSE NEIGHBOUR: 'it returns false'. Refute it at one input. -/
def fnExactIsRoutingWrong : ChangeSpec := { name := "fnExactIsRouting", fn := fun _ => fun
  | [d] => { results := [.lit (.bool false)], args := [d] }
  | _ => none }
def FnExactIsRoutingWrongFalsely : Prop := fnExactIsRoutingRow.holds Try.pinned (OpenSpec.ofChange fnExactIsRoutingWrong)

/-- 'laws.FnExactAreRoutings': WHATEVER THE INPUT: true; the input reads as it did. -/
def fnExactAreRoutingsSpec : ChangeSpec := { name := "fnExactAreRoutings", fn := fun _ => fun
  | [d] => { results := [.lit (.bool true)], args := [d] }
  | _ => none }
def fnExactAreRoutingsRow : OpenClaim := { program := "ytfcgdhedaefonaa", sum := "091f734b96500e96c8691f3d533c844c504132da2e97d8f480ee50a34e15e7e6", func := "loop.example/g03407/laws.FnExactAreRoutings", spec := "fnExactAreRoutings", unfollowed := true, recurses := true, apart := false }
def FnExactAreRoutingsSaid : Prop := fnExactAreRoutingsRow.holds Try.pinned (OpenSpec.ofChange fnExactAreRoutingsSpec)

/-- ITS FALSE NEIGHBOUR: 'it returns false'. Refute it at one input. -/
def fnExactAreRoutingsWrong : ChangeSpec := { name := "fnExactAreRoutings", fn := fun _ => fun
  | [d] => { results := [.lit (.bool false)], args := [d] }
  | _ => none }
def FnExactAreRoutingsWrongFalsely : Prop := fnExactAreRoutingsRow.holds Try.pinned (OpenSpec.ofChange fnExactAreRoutingsWrong)

/-- 'laws.FnExactFindRouting': WHATEVER THE INPUT: true; the input reads as it did. -/
def fnExactFindRoutingSpec : ChangeSpec := { name := "fnExactFindRouting", fn := fun _ => fun
  | [d1, d2] => { results := [.lit (.bool true)], args := [d1, d2] }
  | _ => none }
def fnExactFindRoutingRow : OpenClaim := { program := "ytfcgdhedaefonaa", sum := "091f734b96500e96c8691f3d533c844c504132da2e97d8f480ee50a34e15e7e6", func := "loop.example/g03407/laws.FnExactFindRouting", spec := "fnExactFindRouting", unfollowed := true, recurses := true, apart := false }
def FnExactFindRoutingSaid : Prop := fnExactFindRoutingRow.holds Try.pinned (OpenSpec.ofChange fnExactFindRoutingSpec)

/-- ITS FALSE NEIGHBOUR: 'it returns false'. Refute it at one input. -/
def fnExactFindRoutingWrong : ChangeSpec := { name := "fnExactFindRouting", fn := fun _ => fun
  | [d1, d2] => { results := [.lit (.bool false)], args := [d1, d2] }
  | _ => none }
def FnExactFindRoutingWrongFalsely : Prop := fnExactFindRoutingRow.holds Try.pinned (OpenSpec.ofChange fnExactFindRoutingWrong)

/-- 'laws.FnExactStepTime': WHATEVER THE INPUT: true; the input reads as it did. -/
def fnExactStepTimeSpec : ChangeSpec := { name := "fnExactStepTime", fn := fun _ => fun
  | [d1, d2] => { results := [.lit (.bool true)], args := [d1, d2] }
  | _ => none }
def fnExactStepTimeRow : OpenClaim := { program := "ytfcgdhedaefonaa", sum := "091f734b96500e96c8691f3d533c844c504132da2e97d8f480ee50a34e15e7e6", func := "loop.example/g03407/laws.FnExactStepTime", spec := "fnExactStepTime", apart := false }
def FnExactStepTimeSaid : Prop := fnExactStepTimeRow.holds Try.pinned (OpenSpec.ofChange fnExactStepTimeSpec)

/-- ITS FALSE NEIGHBOUR: 'it returns false'. Refute it at one input. -/
def fnExactStepTimeWrong : ChangeSpec := { name := "fnExactStepTime", fn := fun _ => fun
  | [d1, d2] => { results := [.lit (.bool false)], args := [d1, d2] }
  | _ => none }
def FnExactStepTimeWrongFalsely : Prop := fnExactStepTimeRow.holds Try.pinned (OpenSpec.ofChange fnExactStepTimeWrong)

/-- 'laws.FnExactRoutingTime': WHATEVER THE INPUT: true; the input reads as it did. -/
def fnExactRoutingTimeSpec : ChangeSpec := { name := "fnExactRoutingTime", fn := fun _ => fun
  | [d1, d2] => { results := [.lit (.bool true)], args := [d1, d2] }
  | _ => none }
def fnExactRoutingTimeRow : OpenClaim := { program := "ytfcgdhedaefonaa", sum := "091f734b96500e96c8691f3d533c844c504132da2e97d8f480ee50a34e15e7e6", func := "loop.example/g03407/laws.FnExactRoutingTime", spec := "fnExactRoutingTime", unfollowed := true, recurses := true, apart := false }
def FnExactRoutingTimeSaid : Prop := fnExactRoutingTimeRow.holds Try.pinned (OpenSpec.ofChange fnExactRoutingTimeSpec)

/-- ITS FALSE NEIGHBOUR: 'it returns false'. Refute it at one input. -/
def fnExactRoutingTimeWrong : ChangeSpec := { name := "fnExactRoutingTime", fn := fun _ => fun
  | [d1, d2] => { results := [.lit (.bool false)], args := [d1, d2] }
  | _ => none }
def FnExactRoutingTimeWrongFalsely : Prop := fnExactRoutingTimeRow.holds Try.pinned (OpenSpec.ofChange fnExactRoutingTimeWrong)

/-- 'laws.FnExactSlowestStep': WHATEVER THE INPUT: true; the input reads as it did. -/
def fnExactSlowestStepSpec : ChangeSpec := { name := "fnExactSlowestStep", fn := fun _ => fun
  | [d1, d2] => { results := [.lit (.bool true)], args := [d1, d2] }
  | _ => none }
def fnExactSlowestStepRow : OpenClaim := { program := "ytfcgdhedaefonaa", sum := "091f734b96500e96c8691f3d533c844c504132da2e97d8f480ee50a34e15e7e6", func := "loop.example/g03407/laws.FnExactSlowestStep", spec := "fnExactSlowestStep", unfollowed := true, recurses := true, apart := false }
def FnExactSlowestStepSaid : Prop := fnExactSlowestStepRow.holds Try.pinned (OpenSpec.ofChange fnExactSlowestStepSpec)

/-- ITS FALSE NEIGHBOUR: 'it returns false'. Refute it at one input. -/
def fnExactSlowestStepWrong : ChangeSpec := { name := "fnExactSlowestStep", fn := fun _ => fun
  | [d1, d2] => { results := [.lit (.bool false)], args := [d1, d2] }
  | _ => none }
def FnExactSlowestStepWrongFalsely : Prop := fnExactSlowestStepRow.holds Try.pinned (OpenSpec.ofChange fnExactSlowestStepWrong)

/-- 'laws.FnExactFlowTime': WHATEVER THE INPUT: true; the input reads as it did. -/
def fnExactFlowTimeSpec : ChangeSpec := { name := "fnExactFlowTime", fn := fun _ => fun
  | [d1, d2] => { results := [.lit (.bool true)], args := [d1, d2] }
  | _ => none }
def fnExactFlowTimeRow : OpenClaim := { program := "ytfcgdhedaefonaa", sum := "091f734b96500e96c8691f3d533c844c504132da2e97d8f480ee50a34e15e7e6", func := "loop.example/g03407/laws.FnExactFlowTime", spec := "fnExactFlowTime", unfollowed := true, recurses := true, apart := false }
def FnExactFlowTimeSaid : Prop := fnExactFlowTimeRow.holds Try.pinned (OpenSpec.ofChange fnExactFlowTimeSpec)

/-- ITS FALSE NEIGHBOUR: 'it returns false'. Refute it at one input. -/
def fnExactFlowTimeWrong : ChangeSpec := { name := "fnExactFlowTime", fn := fun _ => fun
  | [d1, d2] => { results := [.lit (.bool false)], args := [d1, d2] }
  | _ => none }
def FnExactFlowTimeWrongFalsely : Prop := fnExactFlowTimeRow.holds Try.pinned (OpenSpec.ofChange fnExactFlowTimeWrong)

/- THE SECOND FORM. 'bulk': how many values and letters a reading holds, each counted each time it is reached (what is shared counts as often as it is met; a slice's spare places count too). A statement '..UptoSaid' is the law's where the arguments, and the package variables that the reading takes, are together of bulk at most 1048576: NARROWER than '..Said'. Prove '..Said' where nothing that the law and all that it calls make is longer than what came in: it says more and counts as full. Else prove '..UptoSaid'. A law counts once. -/
mutual
def uptoBulk {H : Type} : DataW H → Nat
  | .lit (.string bytes) => bytes.length + 1
  | .lit _ => 1
  | .nil => 1
  | .ptr d => uptoBulk d + 1
  | .slice elems spare => uptoBulkAll elems + uptoBulkAll spare + 1
  | .agg parts => uptoBulkAll parts + 1
  | .iface _ d => uptoBulk d + 1
  | .map entries => uptoBulkEntries entries + 1
  | .held _ => 1
def uptoBulkAll {H : Type} : List (DataW H) → Nat
  | [] => 0
  | d :: r => uptoBulk d + uptoBulkAll r
def uptoBulkEntries {H : Type} : List (Lit × DataW H) → Nat
  | [] => 0
  | x :: r => uptoBulkEntry x + uptoBulkEntries r
def uptoBulkEntry {H : Type} : Lit × DataW H → Nat
  | (.string bytes, d) => bytes.length + uptoBulk d + 1
  | (_, d) => uptoBulk d + 1
 end
def uptoSmall : (H : Type) → List (DataW H) → Bool := fun _ ds => decide (uptoBulkAll ds ≤ 1048576)
def OpenSpec.upto (s : _root_.Go.ChangeSpec) : _root_.Go.OpenSpec := { _root_.Go.OpenSpec.ofChange s with cond := some uptoSmall }

/-- 'laws.FnMinutes', WHERE WHAT IT READS IS OF BULK AT MOST 1048576: true; the input reads as it did. -/
def fnMinutesUptoRow : OpenClaim := { program := "ytfcgdhedaefonaa", sum := "091f734b96500e96c8691f3d533c844c504132da2e97d8f480ee50a34e15e7e6", func := "loop.example/g03407/laws.FnMinutes", spec := "fnMinutes", unfollowed := true, recurses := true, apart := false, narrowed := true }
def FnMinutesUptoSaid : Prop := fnMinutesUptoRow.holds Try.pinned (OpenSpec.upto fnMinutesSpec)

/-- 'laws.FnFlow', WHERE WHAT IT READS IS OF BULK AT MOST 1048576: true; the input reads as it did. -/
def fnFlowUptoRow : OpenClaim := { program := "ytfcgdhedaefonaa", sum := "091f734b96500e96c8691f3d533c844c504132da2e97d8f480ee50a34e15e7e6", func := "loop.example/g03407/laws.FnFlow", spec := "fnFlow", unfollowed := true, recurses := true, apart := false, narrowed := true }
def FnFlowUptoSaid : Prop := fnFlowUptoRow.holds Try.pinned (OpenSpec.upto fnFlowSpec)

/-- 'laws.FnExactIsStep', WHERE WHAT IT READS IS OF BULK AT MOST 1048576: true; the input reads as it did. -/
def fnExactIsStepUptoRow : OpenClaim := { program := "ytfcgdhedaefonaa", sum := "091f734b96500e96c8691f3d533c844c504132da2e97d8f480ee50a34e15e7e6", func := "loop.example/g03407/laws.FnExactIsStep", spec := "fnExactIsStep", apart := false, narrowed := true }
def FnExactIsStepUptoSaid : Prop := fnExactIsStepUptoRow.holds Try.pinned (OpenSpec.upto fnExactIsStepSpec)

/-- 'laws.FnExactIsRouting', WHERE WHAT IT READS IS OF BULK AT MOST 1048576: true; the input reads as it did. -/
def fnExactIsRoutingUptoRow : OpenClaim := { program := "ytfcgdhedaefonaa", sum := "091f734b96500e96c8691f3d533c844c504132da2e97d8f480ee50a34e15e7e6", func := "loop.example/g03407/laws.FnExactIsRouting", spec := "fnExactIsRouting", unfollowed := true, recurses := true, apart := false, narrowed := true }
def FnExactIsRoutingUptoSaid : Prop := fnExactIsRoutingUptoRow.holds Try.pinned (OpenSpec.upto fnExactIsRoutingSpec)

/-- 'laws.FnExactAreRoutings', WHERE WHAT IT READS IS OF BULK AT MOST 1048576: true; the input reads as it did. -/
def fnExactAreRoutingsUptoRow : OpenClaim := { program := "ytfcgdhedaefonaa", sum := "091f734b96500e96c8691f3d533c844c504132da2e97d8f480ee50a34e15e7e6", func := "loop.example/g03407/laws.FnExactAreRoutings", spec := "fnExactAreRoutings", unfollowed := true, recurses := true, apart := false, narrowed := true }
def FnExactAreRoutingsUptoSaid : Prop := fnExactAreRoutingsUptoRow.holds Try.pinned (OpenSpec.upto fnExactAreRoutingsSpec)

/-- 'laws.FnExactFindRouting', WHERE WHAT IT READS IS OF BULK AT MOST 1048576: true; the input reads as it did. -/
def fnExactFindRoutingUptoRow : OpenClaim := { program := "ytfcgdhedaefonaa", sum := "091f734b96500e96c8691f3d533c844c504132da2e97d8f480ee50a34e15e7e6", func := "loop.example/g03407/laws.FnExactFindRouting", spec := "fnExactFindRouting", unfollowed := true, recurses := true, apart := false, narrowed := true }
def FnExactFindRoutingUptoSaid : Prop := fnExactFindRoutingUptoRow.holds Try.pinned (OpenSpec.upto fnExactFindRoutingSpec)

/-- 'laws.FnExactStepTime', WHERE WHAT IT READS IS OF BULK AT MOST 1048576: true; the input reads as it did. -/
def fnExactStepTimeUptoRow : OpenClaim := { program := "ytfcgdhedaefonaa", sum := "091f734b96500e96c8691f3d533c844c504132da2e97d8f480ee50a34e15e7e6", func := "loop.example/g03407/laws.FnExactStepTime", spec := "fnExactStepTime", apart := false, narrowed := true }
def FnExactStepTimeUptoSaid : Prop := fnExactStepTimeUptoRow.holds Try.pinned (OpenSpec.upto fnExactStepTimeSpec)

/-- 'laws.FnExactRoutingTime', WHERE WHAT IT READS IS OF BULK AT MOST 1048576: true; the input reads as it did. -/
def fnExactRoutingTimeUptoRow : OpenClaim := { program := "ytfcgdhedaefonaa", sum := "091f734b96500e96c8691f3d533c844c504132da2e97d8f480ee50a34e15e7e6", func := "loop.example/g03407/laws.FnExactRoutingTime", spec := "fnExactRoutingTime", unfollowed := true, recurses := true, apart := false, narrowed := true }
def FnExactRoutingTimeUptoSaid : Prop := fnExactRoutingTimeUptoRow.holds Try.pinned (OpenSpec.upto fnExactRoutingTimeSpec)

/-- 'laws.FnExactSlowestStep', WHERE WHAT IT READS IS OF BULK AT MOST 1048576: true; the input reads as it did. -/
def fnExactSlowestStepUptoRow : OpenClaim := { program := "ytfcgdhedaefonaa", sum := "091f734b96500e96c8691f3d533c844c504132da2e97d8f480ee50a34e15e7e6", func := "loop.example/g03407/laws.FnExactSlowestStep", spec := "fnExactSlowestStep", unfollowed := true, recurses := true, apart := false, narrowed := true }
def FnExactSlowestStepUptoSaid : Prop := fnExactSlowestStepUptoRow.holds Try.pinned (OpenSpec.upto fnExactSlowestStepSpec)

/-- 'laws.FnExactFlowTime', WHERE WHAT IT READS IS OF BULK AT MOST 1048576: true; the input reads as it did. -/
def fnExactFlowTimeUptoRow : OpenClaim := { program := "ytfcgdhedaefonaa", sum := "091f734b96500e96c8691f3d533c844c504132da2e97d8f480ee50a34e15e7e6", func := "loop.example/g03407/laws.FnExactFlowTime", spec := "fnExactFlowTime", unfollowed := true, recurses := true, apart := false, narrowed := true }
def FnExactFlowTimeUptoSaid : Prop := fnExactFlowTimeUptoRow.holds Try.pinned (OpenSpec.upto fnExactFlowTimeSpec)

end Rows
end Go.Proofs.Ytfcgdhedaefonaa
