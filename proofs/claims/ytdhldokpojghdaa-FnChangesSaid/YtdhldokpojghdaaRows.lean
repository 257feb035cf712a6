/-
  No cell of these rows narrows 'for every input' (looked for: loops, veiled, ifaces, maps, wideKeys, modest, calm, conditions, laid).
  DERIVED. THE GIVEN ROWS OF THIS SEAT. 8 by the template 'for every input the law returns true; each argument reads behind the call as it read before'; 0 by the template 'total and deterministic' (their statements: YtdhldokpojghdaaTotals.lean).
  GIVEN WITH THE SEED: the statements are not yours to turn. If you find one false, say at which input.
  Laid BY PROGRAM, IN A SANDBOX (cutbox-rows.mjs): the forced cells as the released guide's own fill.sh prints them over the translation 82189645f3143518… (all of the seat's roots in one cut). By AI agents, Wed Nov 11 2026. No macro, syntax, notation, axiom, sorry.
-/
import Derived.Test.YtdhldokpojghdaaChecked
import GoSem.Claim
import GoSem.ClaimJoined
import GoSem.ClaimMapViews
import Derived.JoinedTies
import Derived.KernelRfl
namespace Go.Proofs.Ytdhldokpojghdaa
/- THE CELL 'sum', in the pinned program and in every row, IS THE sha256 OF THE DUMP (.gsa) THAT YtdhldokpojghdaaProg.lean LOADS. Nothing in Lean hashes anything: it is a label: what it is worth is what the hold of that sum in a sandbox is worth. -/
noncomputable def Try.pinned : Pinned := { name := "ytdhldokpojghdaa", sum := "82189645f3143518f427c110ab27111424ad320efdfd9044227c8ffbc4ea7a76", checked := Try.checked }
namespace Rows
def none {H : Type} : Left H := { results := [], args := [] }

/-- 'laws.FnChanges': WHATEVER THE INPUT: true; the input reads as it did. -/
def fnChangesSpec : ChangeSpec := { name := "fnChanges", fn := fun _ => fun
  | [d] => { results := [.lit (.bool true)], args := [d] }
  | _ => none }
def fnChangesRow : OpenClaim := { program := "ytdhldokpojghdaa", sum := "82189645f3143518f427c110ab27111424ad320efdfd9044227c8ffbc4ea7a76", func := "loop.example/g03407/laws.FnChanges", spec := "fnChanges", unfollowed := true, recurses := true, apart := false }
def FnChangesSaid : Prop := fnChangesRow.holds Try.pinned (OpenSpec.ofChange fnChangesSpec)

/-- ITS FALSE NEIGHBOUR: 'it returns false'. Refute it at one input. -/
def fnChangesWrong : ChangeSpec := { name := "fnChanges", fn := fun _ => fun
  | [d] => { results := [.lit (.bool false)], args := [d] }
  | _ => none }
def FnChangesWrongFalsely : Prop := fnChangesRow.holds Try.pinned (OpenSpec.ofChange fnChangesWrong)

/-- 'laws.FnTidy': WHATEVER THE INPUT: true; the input reads as it did. -/
def fnTidySpec : ChangeSpec := { name := "fnTidy", fn := fun _ => fun
  | [d] => { results := [.lit (.bool true)], args := [d] }
  | _ => none }
def fnTidyRow : OpenClaim := { program := "ytdhldokpojghdaa", sum := "82189645f3143518f427c110ab27111424ad320efdfd9044227c8ffbc4ea7a76", func := "loop.example/g03407/laws.FnTidy", spec := "fnTidy", unfollowed := true, recurses := true, apart := false }
def FnTidySaid : Prop := fnTidyRow.holds Try.pinned (OpenSpec.ofChange fnTidySpec)

/-- ITS FALSE NEIGHBOUR: 'it returns false'. Refute it at one input. -/
def fnTidyWrong : ChangeSpec := { name := "fnTidy", fn := fun _ => fun
  | [d] => { results := [.lit (.bool false)], args := [d] }
  | _ => none }
def FnTidyWrongFalsely : Prop := fnTidyRow.holds Try.pinned (OpenSpec.ofChange fnTidyWrong)

/-- 'laws.FnChangesJoined': WHATEVER THE INPUT: true; the input reads as it did. -/
def fnChangesJoinedSpec : ChangeSpec := { name := "fnChangesJoined", fn := fun _ => fun
  | [d] => { results := [.lit (.bool true)], args := [d] }
  | _ => none }
def fnChangesJoinedRow : OpenClaim := { program := "ytdhldokpojghdaa", sum := "82189645f3143518f427c110ab27111424ad320efdfd9044227c8ffbc4ea7a76", func := "loop.example/g03407/laws.FnChangesJoined", spec := "fnChangesJoined", unfollowed := true, recurses := true, apart := false }
def FnChangesJoinedSaid : Prop := fnChangesJoinedRow.holds Try.pinned (OpenSpec.ofChange fnChangesJoinedSpec)

/-- ITS FALSE NEIGHBOUR: 'it returns false'. Refute it at one input. -/
def fnChangesJoinedWrong : ChangeSpec := { name := "fnChangesJoined", fn := fun _ => fun
  | [d] => { results := [.lit (.bool false)], args := [d] }
  | _ => none }
def FnChangesJoinedWrongFalsely : Prop := fnChangesJoinedRow.holds Try.pinned (OpenSpec.ofChange fnChangesJoinedWrong)

/-- 'laws.FnExactIsChange': WHATEVER THE INPUT: true; the input reads as it did. -/
def fnExactIsChangeSpec : ChangeSpec := { name := "fnExactIsChange", fn := fun _ => fun
  | [d1, d2] => { results := [.lit (.bool true)], args := [d1, d2] }
  | _ => none }
def fnExactIsChangeRow : OpenClaim := { program := "ytdhldokpojghdaa", sum := "82189645f3143518f427c110ab27111424ad320efdfd9044227c8ffbc4ea7a76", func := "loop.example/g03407/laws.FnExactIsChange", spec := "fnExactIsChange", unfollowed := true, recurses := true, apart := false }
def FnExactIsChangeSaid : Prop := fnExactIsChangeRow.holds Try.pinned (OpenSpec.ofChange fnExactIsChangeSpec)

/-- ITS FALSE NEIGHBOUR: 'it returns false'. Refute it at one input. -/
def fnExactIsChangeWrong : ChangeSpec := { name := "fnExactIsChange", fn := fun _ => fun
  | [d1, d2] => { results := [.lit (.bool false)], args := [d1, d2] }
  | _ => none }
def FnExactIsChangeWrongFalsely : Prop := fnExactIsChangeRow.holds Try.pinned (OpenSpec.ofChange fnExactIsChangeWrong)

/-- 'laws.FnExactApplyChange': WHATEVER THE INPUT: true; the input reads as it did. -/
def fnExactApplyChangeSpec : ChangeSpec := { name := "fnExactApplyChange", fn := fun _ => fun
  | [d1, d2, d3] => { results := [.lit (.bool true)], args := [d1, d2, d3] }
  | _ => none }
def fnExactApplyChangeRow : OpenClaim := { program := "ytdhldokpojghdaa", sum := "82189645f3143518f427c110ab27111424ad320efdfd9044227c8ffbc4ea7a76", func := "loop.example/g03407/laws.FnExactApplyChange", spec := "fnExactApplyChange", unfollowed := true, recurses := true, apart := false }
def FnExactApplyChangeSaid : Prop := fnExactApplyChangeRow.holds Try.pinned (OpenSpec.ofChange fnExactApplyChangeSpec)

/-- ITS FALSE NEIGHBOUR: 'it returns false'. Refute it at one input. -/
def fnExactApplyChangeWrong : ChangeSpec := { name := "fnExactApplyChange", fn := fun _ => fun
  | [d1, d2, d3] => { results := [.lit (.bool false)], args := [d1, d2, d3] }
  | _ => none }
def FnExactApplyChangeWrongFalsely : Prop := fnExactApplyChangeRow.holds Try.pinned (OpenSpec.ofChange fnExactApplyChangeWrong)

/-- 'laws.FnExactApplyChanges': WHATEVER THE INPUT: true; the input reads as it did. -/
def fnExactApplyChangesSpec : ChangeSpec := { name := "fnExactApplyChanges", fn := fun _ => fun
  | [d1, d2, d3] => { results := [.lit (.bool true)], args := [d1, d2, d3] }
  | _ => none }
def fnExactApplyChangesRow : OpenClaim := { program := "ytdhldokpojghdaa", sum := "82189645f3143518f427c110ab27111424ad320efdfd9044227c8ffbc4ea7a76", func := "loop.example/g03407/laws.FnExactApplyChanges", spec := "fnExactApplyChanges", unfollowed := true, recurses := true, apart := false }
def FnExactApplyChangesSaid : Prop := fnExactApplyChangesRow.holds Try.pinned (OpenSpec.ofChange fnExactApplyChangesSpec)

/-- ITS FALSE NEIGHBOUR: 'it returns false'. Refute it at one input. -/
def fnExactApplyChangesWrong : ChangeSpec := { name := "fnExactApplyChanges", fn := fun _ => fun
  | [d1, d2, d3] => { results := [.lit (.bool false)], args := [d1, d2, d3] }
  | _ => none }
def FnExactApplyChangesWrongFalsely : Prop := fnExactApplyChangesRow.holds Try.pinned (OpenSpec.ofChange fnExactApplyChangesWrong)

/-- 'laws.FnExactBillsOn': WHATEVER THE INPUT: true; the input reads as it did. -/
def fnExactBillsOnSpec : ChangeSpec := { name := "fnExactBillsOn", fn := fun _ => fun
  | [d1, d2, d3] => { results := [.lit (.bool true)], args := [d1, d2, d3] }
  | _ => none }
def fnExactBillsOnRow : OpenClaim := { program := "ytdhldokpojghdaa", sum := "82189645f3143518f427c110ab27111424ad320efdfd9044227c8ffbc4ea7a76", func := "loop.example/g03407/laws.FnExactBillsOn", spec := "fnExactBillsOn", unfollowed := true, recurses := true, apart := false }
def FnExactBillsOnSaid : Prop := fnExactBillsOnRow.holds Try.pinned (OpenSpec.ofChange fnExactBillsOnSpec)

/-- ITS FALSE NEIGHBOUR: 'it returns false'. Refute it at one input. -/
def fnExactBillsOnWrong : ChangeSpec := { name := "fnExactBillsOn", fn := fun _ => fun
  | [d1, d2, d3] => { results := [.lit (.bool false)], args := [d1, d2, d3] }
  | _ => none }
def FnExactBillsOnWrongFalsely : Prop := fnExactBillsOnRow.holds Try.pinned (OpenSpec.ofChange fnExactBillsOnWrong)

/-- 'laws.FnExactTidyLines': WHATEVER THE INPUT: true; the input reads as it did. -/
def fnExactTidyLinesSpec : ChangeSpec := { name := "fnExactTidyLines", fn := fun _ => fun
  | [d1, d2] => { results := [.lit (.bool true)], args := [d1, d2] }
  | _ => none }
def fnExactTidyLinesRow : OpenClaim := { program := "ytdhldokpojghdaa", sum := "82189645f3143518f427c110ab27111424ad320efdfd9044227c8ffbc4ea7a76", func := "loop.example/g03407/laws.FnExactTidyLines", spec := "fnExactTidyLines", unfollowed := true, recurses := true, apart := false }
def FnExactTidyLinesSaid : Prop := fnExactTidyLinesRow.holds Try.pinned (OpenSpec.ofChange fnExactTidyLinesSpec)

/-- ITS FALSE NEIGHBOUR: 'it returns false'. Refute it at one input. -/
def fnExactTidyLinesWrong : ChangeSpec := { name := "fnExactTidyLines", fn := fun _ => fun
  | [d1, d2] => { results := [.lit (.bool false)], args := [d1, d2] }
  | _ => none }
def FnExactTidyLinesWrongFalsely : Prop := fnExactTidyLinesRow.holds Try.pinned (OpenSpec.ofChange fnExactTidyLinesWrong)

/- THE SECOND FORM. 'bulk': how many values and letters a reading holds, each counted each time it is reached (what is shared counts as often as it is met; a slice's spare places count too). A statement '..UptoSaid' is the law's where the arguments, and the package variables that the reading takes, are together of bulk at most 1048576: NARROWER than '..Said'. Prove '..Said' where nothing that the law and all that it calls make is longer than what came in: it says more and counts as full. Else prove '..UptoSaid'. A law counts once. -/
mutual
def uptoBulk {H : Type} : DataW H → Nat
  | .lit (.string bytes) => bytes.length + 1
  | .lit _ => 1
  | .nil => 1
  | .ptr d => uptoBulk d + 1
  | .slice elems spare => uptoBulkAll elems + uptoBulkAll spare + 1
  | .agg parts => uptoBulkAll parts + 1
  | .iface _ d => uptoBulk d + 1
  | .map entries => uptoBulkEntries entries + 1
  | .held _ => 1
def uptoBulkAll {H : Type} : List (DataW H) → Nat
  | [] => 0
  | d :: r => uptoBulk d + uptoBulkAll r
def uptoBulkEntries {H : Type} : List (Lit × DataW H) → Nat
  | [] => 0
  | x :: r => uptoBulkEntry x + uptoBulkEntries r
def uptoBulkEntry {H : Type} : Lit × DataW H → Nat
  | (.string bytes, d) => bytes.length + uptoBulk d + 1
  | (_, d) => uptoBulk d + 1
 end
def uptoSmall : (H : Type) → List (DataW H) → Bool := fun _ ds => decide (uptoBulkAll ds ≤ 1048576)
def OpenSpec.upto (s : _root_.Go.ChangeSpec) : _root_.Go.OpenSpec := { _root_.Go.OpenSpec.ofChange s with cond := some uptoSmall }

/-- 'laws.FnChanges', WHERE WHAT IT READS IS OF BULK AT MOST 1048576: true; the input reads as it did. -/
def fnChangesUptoRow : OpenClaim := { program := "ytdhldokpojghdaa", sum := "82189645f3143518f427c110ab27111424ad320efdfd9044227c8ffbc4ea7a76", func := "loop.example/g03407/laws.FnChanges", spec := "fnChanges", unfollowed := true, recurses := true, apart := false, narrowed := true }
def FnChangesUptoSaid : Prop := fnChangesUptoRow.holds Try.pinned (OpenSpec.upto fnChangesSpec)

/-- 'laws.FnTidy', WHERE WHAT IT READS IS OF BULK AT MOST 1048576: true; the input reads as it did. -/
def fnTidyUptoRow : OpenClaim := { program := "ytdhldokpojghdaa", sum := "82189645f3143518f427c110ab27111424ad320efdfd9044227c8ffbc4ea7a76", func := "loop.example/g03407/laws.FnTidy", spec := "fnTidy", unfollowed := true, recurses := true, apart := false, narrowed := true }
def FnTidyUptoSaid : Prop := fnTidyUptoRow.holds Try.pinned (OpenSpec.upto fnTidySpec)

/-- 'laws.FnChangesJoined', WHERE WHAT IT READS IS OF BULK AT MOST 1048576: true; the input reads as it did. -/
def fnChangesJoinedUptoRow : OpenClaim := { program := "ytdhldokpojghdaa", sum := "82189645f3143518f427c110ab27111424ad320efdfd9044227c8ffbc4ea7a76", func := "loop.example/g03407/laws.FnChangesJoined", spec := "fnChangesJoined", unfollowed := true, recurses := true, apart := false, narrowed := true }
def FnChangesJoinedUptoSaid : Prop := fnChangesJoinedUptoRow.holds Try.pinned (OpenSpec.upto fnChangesJoinedSpec)

/-- 'laws.FnExactIsChange', WHERE WHAT IT READS IS OF BULK AT MOST 1048576: true; the input reads as it did. -/
def fnExactIsChangeUptoRow : OpenClaim := { program := "ytdhldokpojghdaa", sum := "82189645f3143518f427c110ab27111424ad320efdfd9044227c8ffbc4ea7a76", func := "loop.example/g03407/laws.FnExactIsChange", spec := "fnExactIsChange", unfollowed := true, recurses := true, apart := false, narrowed := true }
def FnExactIsChangeUptoSaid : Prop := fnExactIsChangeUptoRow.holds Try.pinned (OpenSpec.upto fnExactIsChangeSpec)

/-- 'laws.FnExactApplyChange', WHERE WHAT IT READS IS OF BULK AT MOST 1048576: true; the input reads as it did. -/
def fnExactApplyChangeUptoRow : OpenClaim := { program := "ytdhldokpojghdaa", sum := "82189645f3143518f427c110ab27111424ad320efdfd9044227c8ffbc4ea7a76", func := "loop.example/g03407/laws.FnExactApplyChange", spec := "fnExactApplyChange", unfollowed := true, recurses := true, apart := false, narrowed := true }
def FnExactApplyChangeUptoSaid : Prop := fnExactApplyChangeUptoRow.holds Try.pinned (OpenSpec.upto fnExactApplyChangeSpec)

/-- 'laws.FnExactApplyChanges', WHERE WHAT IT READS IS OF BULK AT MOST 1048576: true; the input reads as it did. -/
def fnExactApplyChangesUptoRow : OpenClaim := { program := "ytdhldokpojghdaa", sum := "82189645f3143518f427c110ab27111424ad320efdfd9044227c8ffbc4ea7a76", func := "loop.example/g03407/laws.FnExactApplyChanges", spec := "fnExactApplyChanges", unfollowed := true, recurses := true, apart := false, narrowed := true }
def FnExactApplyChangesUptoSaid : Prop := fnExactApplyChangesUptoRow.holds Try.pinned (OpenSpec.upto fnExactApplyChangesSpec)

/-- 'laws.FnExactBillsOn', WHERE WHAT IT READS IS OF BULK AT MOST 1048576: true; the input reads as it did. -/
def fnExactBillsOnUptoRow : OpenClaim := { program := "ytdhldokpojghdaa", sum := "82189645f3143518f427c110ab27111424ad320efdfd9044227c8ffbc4ea7a76", func := "loop.example/g03407/laws.FnExactBillsOn", spec := "fnExactBillsOn", unfollowed := true, recurses := true, apart := false, narrowed := true }
def FnExactBillsOnUptoSaid : Prop := fnExactBillsOnUptoRow.holds Try.pinned (OpenSpec.upto fnExactBillsOnSpec)

/-- 'laws.FnExactTidyLines', WHERE WHAT IT READS IS OF BULK AT MOST 1048576: true; the input reads as it did. -/
def fnExactTidyLinesUptoRow : OpenClaim := { program := "ytdhldokpojghdaa", sum := "82189645f3143518f427c110ab27111424ad320efdfd9044227c8ffbc4ea7a76", func := "loop.example/g03407/laws.FnExactTidyLines", spec := "fnExactTidyLines", unfollowed := true, recurses := true, apart := false, narrowed := true }
def FnExactTidyLinesUptoSaid : Prop := fnExactTidyLinesUptoRow.holds Try.pinned (OpenSpec.upto fnExactTidyLinesSpec)

end Rows
end Go.Proofs.Ytdhldokpojghdaa
