/-
  No cell of these rows narrows 'for every input' (looked for: loops, veiled, ifaces, maps, wideKeys, modest, calm, conditions, laid).
  DERIVED. THE GIVEN ROWS OF THIS SEAT. 10 by the template 'for every input the law returns true; each argument reads behind the call as it read before'; 0 by the template 'total and deterministic' (their statements: YtkmjaiicobkkhaaTotals.lean).
  GIVEN WITH THE SEED: the statements are not yours to turn. If you find one false, say at which input.
  Laid BY PROGRAM, IN A SANDBOX (cutbox-rows.mjs): the forced cells as the released guide's own fill.sh prints them over the translation 0b3ca08389bc0c96… (all of the seat's roots in one cut). By AI agents, Wed Nov 11 2026. No macro, syntax, notation, axiom, sorry.
-/
import Derived.Test.YtkmjaiicobkkhaaChecked
import GoSem.Claim
import GoSem.ClaimJoined
import GoSem.ClaimMapViews
import Derived.JoinedTies
import Derived.KernelRfl
namespace Go.Proofs.Ytkmjaiicobkkhaa
/- THE CELL 'sum', in the pinned program and in every row, IS THE sha256 OF THE DUMP (.gsa) THAT YtkmjaiicobkkhaaProg.lean LOADS. Nothing in Lean hashes anything: it is a label: what it is worth is what the hold of that sum in a sandbox is worth. -/
noncomputable def Try.pinned : Pinned := { name := "ytkmjaiicobkkhaa", sum := "0b3ca08389bc0c96eb63746a78d9787bba8e77f846defe3709de554942ce98a1", checked := Try.checked }
namespace Rows
def none {H : Type} : Left H := { results := [], args := [] }

/-- 'laws.FnChoices': WHATEVER THE INPUT: true; the input reads as it did. -/
def fnChoicesSpec : ChangeSpec := { name := "fnChoices", fn := fun _ => fun
  | [d] => { results := [.lit (.bool true)], args := [d] }
  | _ => none }
def fnChoicesRow : OpenClaim := { program := "ytkmjaiicobkkhaa", sum := "0b3ca08389bc0c96eb63746a78d9787bba8e77f846defe3709de554942ce98a1", func := "loop.example/g03407/laws.FnChoices", spec := "fnChoices", unfollowed := true, recurses := true, leaving := true, apart := false }
def FnChoicesSaid : Prop := fnChoicesRow.holds Try.pinned (OpenSpec.ofChange fnChoicesSpec)

/-- ITS FALSE NEIGHBOUR: 'it returns false'. Refute it at one input. -/
def fnChoicesWrong : ChangeSpec := { name := "fnChoices", fn := fun _ => fun
  | [d] => { results := [.lit (.bool false)], args := [d] }
  | _ => none }
def FnChoicesWrongFalsely : Prop := fnChoicesRow.holds Try.pinned (OpenSpec.ofChange fnChoicesWrong)

/-- 'laws.FnOpen': WHATEVER THE INPUT: true; the input reads as it did. -/
def fnOpenSpec : ChangeSpec := { name := "fnOpen", fn := fun _ => fun
  | [d] => { results := [.lit (.bool true)], args := [d] }
  | _ => none }
def fnOpenRow : OpenClaim := { program := "ytkmjaiicobkkhaa", sum := "0b3ca08389bc0c96eb63746a78d9787bba8e77f846defe3709de554942ce98a1", func := "loop.example/g03407/laws.FnOpen", spec := "fnOpen", unfollowed := true, recurses := true, leaving := true, apart := false }
def FnOpenSaid : Prop := fnOpenRow.holds Try.pinned (OpenSpec.ofChange fnOpenSpec)

/-- ITS FALSE NEIGHBOUR: 'it returns false'. Refute it at one input. -/
def fnOpenWrong : ChangeSpec := { name := "fnOpen", fn := fun _ => fun
  | [d] => { results := [.lit (.bool false)], args := [d] }
  | _ => none }
def FnOpenWrongFalsely : Prop := fnOpenRow.holds Try.pinned (OpenSpec.ofChange fnOpenWrong)

/-- 'laws.FnConflicts': WHATEVER THE INPUT: true; the input reads as it did. -/
def fnConflictsSpec : ChangeSpec := { name := "fnConflicts", fn := fun _ => fun
  | [d] => { results := [.lit (.bool true)], args := [d] }
  | _ => none }
def fnConflictsRow : OpenClaim := { program := "ytkmjaiicobkkhaa", sum := "0b3ca08389bc0c96eb63746a78d9787bba8e77f846defe3709de554942ce98a1", func := "loop.example/g03407/laws.FnConflicts", spec := "fnConflicts", unfollowed := true, recurses := true, leaving := true, apart := false }
def FnConflictsSaid : Prop := fnConflictsRow.holds Try.pinned (OpenSpec.ofChange fnConflictsSpec)

/-- ITS FALSE NEIGHBOUR: 'it returns false'. Refute it at one input. -/
def fnConflictsWrong : ChangeSpec := { name := "fnConflicts", fn := fun _ => fun
  | [d] => { results := [.lit (.bool false)], args := [d] }
  | _ => none }
def FnConflictsWrongFalsely : Prop := fnConflictsRow.holds Try.pinned (OpenSpec.ofChange fnConflictsWrong)

/-- 'laws.FnExactIsModel': WHATEVER THE INPUT: true; the input reads as it did. -/
def fnExactIsModelSpec : ChangeSpec := { name := "fnExactIsModel", fn := fun _ => fun
  | [d] => { results := [.lit (.bool true)], args := [d] }
  | _ => none }
def fnExactIsModelRow : OpenClaim := { program := "ytkmjaiicobkkhaa", sum := "0b3ca08389bc0c96eb63746a78d9787bba8e77f846defe3709de554942ce98a1", func := "loop.example/g03407/laws.FnExactIsModel", spec := "fnExactIsModel", apart := false }
def FnExactIsModelSaid : Prop := fnExactIsModelRow.holds Try.pinned (OpenSpec.ofChange fnExactIsModelSpec)

/-- ITS FALSE NEIGHBOUR: 'it returns false'. Refute it at one input. -/
def fnExactIsModelWrong : ChangeSpec := { name := "fnExactIsModel", fn := fun _ => fun
  | [d] => { results := [.lit (.bool false)], args := [d] }
  | _ => none }
def FnExactIsModelWrongFalsely : Prop := fnExactIsModelRow.holds Try.pinned (OpenSpec.ofChange fnExactIsModelWrong)

/-- 'laws.FnExactIsPartial': WHATEVER THE INPUT: true; the input reads as it did. -/
def fnExactIsPartialSpec : ChangeSpec := { name := "fnExactIsPartial", fn := fun _ => fun
  | [d1, d2] => { results := [.lit (.bool true)], args := [d1, d2] }
  | _ => none }
def fnExactIsPartialRow : OpenClaim := { program := "ytkmjaiicobkkhaa", sum := "0b3ca08389bc0c96eb63746a78d9787bba8e77f846defe3709de554942ce98a1", func := "loop.example/g03407/laws.FnExactIsPartial", spec := "fnExactIsPartial", unfollowed := true, recurses := true, leaving := true, apart := false }
def FnExactIsPartialSaid : Prop := fnExactIsPartialRow.holds Try.pinned (OpenSpec.ofChange fnExactIsPartialSpec)

/-- ITS FALSE NEIGHBOUR: 'it returns false'. Refute it at one input. -/
def fnExactIsPartialWrong : ChangeSpec := { name := "fnExactIsPartial", fn := fun _ => fun
  | [d1, d2] => { results := [.lit (.bool false)], args := [d1, d2] }
  | _ => none }
def FnExactIsPartialWrongFalsely : Prop := fnExactIsPartialRow.holds Try.pinned (OpenSpec.ofChange fnExactIsPartialWrong)

/-- 'laws.FnExactChoicesOf': WHATEVER THE INPUT: true; the input reads as it did. -/
def fnExactChoicesOfSpec : ChangeSpec := { name := "fnExactChoicesOf", fn := fun _ => fun
  | [d] => { results := [.lit (.bool true)], args := [d] }
  | _ => none }
def fnExactChoicesOfRow : OpenClaim := { program := "ytkmjaiicobkkhaa", sum := "0b3ca08389bc0c96eb63746a78d9787bba8e77f846defe3709de554942ce98a1", func := "loop.example/g03407/laws.FnExactChoicesOf", spec := "fnExactChoicesOf", unfollowed := true, recurses := true, leaving := true, apart := false }
def FnExactChoicesOfSaid : Prop := fnExactChoicesOfRow.holds Try.pinned (OpenSpec.ofChange fnExactChoicesOfSpec)

/-- ITS FALSE NEIGHBOUR: 'it returns false'. Refute it at one input. -/
def fnExactChoicesOfWrong : ChangeSpec := { name := "fnExactChoicesOf", fn := fun _ => fun
  | [d] => { results := [.lit (.bool false)], args := [d] }
  | _ => none }
def FnExactChoicesOfWrongFalsely : Prop := fnExactChoicesOfRow.holds Try.pinned (OpenSpec.ofChange fnExactChoicesOfWrong)

/-- 'laws.FnExactIsChoice': WHATEVER THE INPUT: true; the input reads as it did. -/
def fnExactIsChoiceSpec : ChangeSpec := { name := "fnExactIsChoice", fn := fun _ => fun
  | [d1, d2] => { results := [.lit (.bool true)], args := [d1, d2] }
  | _ => none }
def fnExactIsChoiceRow : OpenClaim := { program := "ytkmjaiicobkkhaa", sum := "0b3ca08389bc0c96eb63746a78d9787bba8e77f846defe3709de554942ce98a1", func := "loop.example/g03407/laws.FnExactIsChoice", spec := "fnExactIsChoice", unfollowed := true, recurses := true, leaving := true, apart := false }
def FnExactIsChoiceSaid : Prop := fnExactIsChoiceRow.holds Try.pinned (OpenSpec.ofChange fnExactIsChoiceSpec)

/-- ITS FALSE NEIGHBOUR: 'it returns false'. Refute it at one input. -/
def fnExactIsChoiceWrong : ChangeSpec := { name := "fnExactIsChoice", fn := fun _ => fun
  | [d1, d2] => { results := [.lit (.bool false)], args := [d1, d2] }
  | _ => none }
def FnExactIsChoiceWrongFalsely : Prop := fnExactIsChoiceRow.holds Try.pinned (OpenSpec.ofChange fnExactIsChoiceWrong)

/-- 'laws.FnExactCompleteChoice': WHATEVER THE INPUT: true; the input reads as it did. -/
def fnExactCompleteChoiceSpec : ChangeSpec := { name := "fnExactCompleteChoice", fn := fun _ => fun
  | [d1, d2] => { results := [.lit (.bool true)], args := [d1, d2] }
  | _ => none }
def fnExactCompleteChoiceRow : OpenClaim := { program := "ytkmjaiicobkkhaa", sum := "0b3ca08389bc0c96eb63746a78d9787bba8e77f846defe3709de554942ce98a1", func := "loop.example/g03407/laws.FnExactCompleteChoice", spec := "fnExactCompleteChoice", unfollowed := true, recurses := true, leaving := true, apart := false }
def FnExactCompleteChoiceSaid : Prop := fnExactCompleteChoiceRow.holds Try.pinned (OpenSpec.ofChange fnExactCompleteChoiceSpec)

/-- ITS FALSE NEIGHBOUR: 'it returns false'. Refute it at one input. -/
def fnExactCompleteChoiceWrong : ChangeSpec := { name := "fnExactCompleteChoice", fn := fun _ => fun
  | [d1, d2] => { results := [.lit (.bool false)], args := [d1, d2] }
  | _ => none }
def FnExactCompleteChoiceWrongFalsely : Prop := fnExactCompleteChoiceRow.holds Try.pinned (OpenSpec.ofChange fnExactCompleteChoiceWrong)

/-- 'laws.FnExactOpenValues': WHATEVER THE INPUT: true; the input reads as it did. -/
def fnExactOpenValuesSpec : ChangeSpec := { name := "fnExactOpenValues", fn := fun _ => fun
  | [d1, d2, d3] => { results := [.lit (.bool true)], args := [d1, d2, d3] }
  | _ => none }
def fnExactOpenValuesRow : OpenClaim := { program := "ytkmjaiicobkkhaa", sum := "0b3ca08389bc0c96eb63746a78d9787bba8e77f846defe3709de554942ce98a1", func := "loop.example/g03407/laws.FnExactOpenValues", spec := "fnExactOpenValues", unfollowed := true, recurses := true, leaving := true, apart := false }
def FnExactOpenValuesSaid : Prop := fnExactOpenValuesRow.holds Try.pinned (OpenSpec.ofChange fnExactOpenValuesSpec)

/-- ITS FALSE NEIGHBOUR: 'it returns false'. Refute it at one input. -/
def fnExactOpenValuesWrong : ChangeSpec := { name := "fnExactOpenValues", fn := fun _ => fun
  | [d1, d2, d3] => { results := [.lit (.bool false)], args := [d1, d2, d3] }
  | _ => none }
def FnExactOpenValuesWrongFalsely : Prop := fnExactOpenValuesRow.holds Try.pinned (OpenSpec.ofChange fnExactOpenValuesWrong)

/-- 'laws.FnExactConflictOf': WHATEVER THE INPUT: true; the input reads as it did. -/
def fnExactConflictOfSpec : ChangeSpec := { name := "fnExactConflictOf", fn := fun _ => fun
  | [d1, d2] => { results := [.lit (.bool true)], args := [d1, d2] }
  | _ => none }
def fnExactConflictOfRow : OpenClaim := { program := "ytkmjaiicobkkhaa", sum := "0b3ca08389bc0c96eb63746a78d9787bba8e77f846defe3709de554942ce98a1", func := "loop.example/g03407/laws.FnExactConflictOf", spec := "fnExactConflictOf", unfollowed := true, recurses := true, leaving := true, apart := false }
def FnExactConflictOfSaid : Prop := fnExactConflictOfRow.holds Try.pinned (OpenSpec.ofChange fnExactConflictOfSpec)

/-- ITS FALSE NEIGHBOUR: 'it returns false'. Refute it at one input. -/
def fnExactConflictOfWrong : ChangeSpec := { name := "fnExactConflictOf", fn := fun _ => fun
  | [d1, d2] => { results := [.lit (.bool false)], args := [d1, d2] }
  | _ => none }
def FnExactConflictOfWrongFalsely : Prop := fnExactConflictOfRow.holds Try.pinned (OpenSpec.ofChange fnExactConflictOfWrong)

/- THE SECOND FORM. 'bulk': how many values and letters a reading holds, each counted each time it is reached (what is shared counts as often as it is met; a slice's spare places count too). A statement '..UptoSaid' is the law's where the arguments, and the package variables that the reading takes, are together of bulk at most 1048576: NARROWER than '..Said'. Prove '..Said' where nothing that the law and all that it calls make is longer than what came in: it says more and counts as full. Else prove '..UptoSaid'. A law counts once. -/
mutual
def uptoBulk {H : Type} : DataW H → Nat
  | .lit (.string bytes) => bytes.length + 1
  | .lit _ => 1
  | .nil => 1
  | .ptr d => uptoBulk d + 1
  | .slice elems spare => uptoBulkAll elems + uptoBulkAll spare + 1
  | .agg parts => uptoBulkAll parts + 1
  | .iface _ d => uptoBulk d + 1
  | .map entries => uptoBulkEntries entries + 1
  | .held _ => 1
def uptoBulkAll {H : Type} : List (DataW H) → Nat
  | [] => 0
  | d :: r => uptoBulk d + uptoBulkAll r
def uptoBulkEntries {H : Type} : List (Lit × DataW H) → Nat
  | [] => 0
  | x :: r => uptoBulkEntry x + uptoBulkEntries r
def uptoBulkEntry {H : Type} : Lit × DataW H → Nat
  | (.string bytes, d) => bytes.length + uptoBulk d + 1
  | (_, d) => uptoBulk d + 1
 end
def uptoSmall : (H : Type) → List (DataW H) → Bool := fun _ ds => decide (uptoBulkAll ds ≤ 1048576)
def OpenSpec.upto (s : _root_.Go.ChangeSpec) : _root_.Go.OpenSpec := { _root_.Go.OpenSpec.ofChange s with cond := some uptoSmall }

/-- 'laws.FnChoices', WHERE WHAT IT READS IS OF BULK AT MOST 1048576: true; the input reads as it did. -/
def fnChoicesUptoRow : OpenClaim := { program := "ytkmjaiicobkkhaa", sum := "0b3ca08389bc0c96eb63746a78d9787bba8e77f846defe3709de554942ce98a1", func := "loop.example/g03407/laws.FnChoices", spec := "fnChoices", unfollowed := true, recurses := true, leaving := true, apart := false, narrowed := true }
def FnChoicesUptoSaid : Prop := fnChoicesUptoRow.holds Try.pinned (OpenSpec.upto fnChoicesSpec)

/-- 'laws.FnOpen', WHERE WHAT IT READS IS OF BULK AT MOST 1048576: true; the input reads as it did. -/
def fnOpenUptoRow : OpenClaim := { program := "ytkmjaiicobkkhaa", sum := "0b3ca08389bc0c96eb63746a78d9787bba8e77f846defe3709de554942ce98a1", func := "loop.example/g03407/laws.FnOpen", spec := "fnOpen", unfollowed := true, recurses := true, leaving := true, apart := false, narrowed := true }
def FnOpenUptoSaid : Prop := fnOpenUptoRow.holds Try.pinned (OpenSpec.upto fnOpenSpec)

/-- 'laws.FnConflicts', WHERE WHAT IT READS IS OF BULK AT MOST 1048576: true; the input reads as it did. -/
def fnConflictsUptoRow : OpenClaim := { program := "ytkmjaiicobkkhaa", sum := "0b3ca08389bc0c96eb63746a78d9787bba8e77f846defe3709de554942ce98a1", func := "loop.example/g03407/laws.FnConflicts", spec := "fnConflicts", unfollowed := true, recurses := true, leaving := true, apart := false, narrowed := true }
def FnConflictsUptoSaid : Prop := fnConflictsUptoRow.holds Try.pinned (OpenSpec.upto fnConflictsSpec)

/-- 'laws.FnExactIsModel', WHERE WHAT IT READS IS OF BULK AT MOST 1048576: true; the input reads as it did. -/
def fnExactIsModelUptoRow : OpenClaim := { program := "ytkmjaiicobkkhaa", sum := "0b3ca08389bc0c96eb63746a78d9787bba8e77f846defe3709de554942ce98a1", func := "loop.example/g03407/laws.FnExactIsModel", spec := "fnExactIsModel", apart := false, narrowed := true }
def FnExactIsModelUptoSaid : Prop := fnExactIsModelUptoRow.holds Try.pinned (OpenSpec.upto fnExactIsModelSpec)

/-- 'laws.FnExactIsPartial', WHERE WHAT IT READS IS OF BULK AT MOST 1048576: true; the input reads as it did. -/
def fnExactIsPartialUptoRow : OpenClaim := { program := "ytkmjaiicobkkhaa", sum := "0b3ca08389bc0c96eb63746a78d9787bba8e77f846defe3709de554942ce98a1", func := "loop.example/g03407/laws.FnExactIsPartial", spec := "fnExactIsPartial", unfollowed := true, recurses := true, leaving := true, apart := false, narrowed := true }
def FnExactIsPartialUptoSaid : Prop := fnExactIsPartialUptoRow.holds Try.pinned (OpenSpec.upto fnExactIsPartialSpec)

/-- 'laws.FnExactChoicesOf', WHERE WHAT IT READS IS OF BULK AT MOST 1048576: true; the input reads as it did. -/
def fnExactChoicesOfUptoRow : OpenClaim := { program := "ytkmjaiicobkkhaa", sum := "0b3ca08389bc0c96eb63746a78d9787bba8e77f846defe3709de554942ce98a1", func := "loop.example/g03407/laws.FnExactChoicesOf", spec := "fnExactChoicesOf", unfollowed := true, recurses := true, leaving := true, apart := false, narrowed := true }
def FnExactChoicesOfUptoSaid : Prop := fnExactChoicesOfUptoRow.holds Try.pinned (OpenSpec.upto fnExactChoicesOfSpec)

/-- 'laws.FnExactIsChoice', WHERE WHAT IT READS IS OF BULK AT MOST 1048576: true; the input reads as it did. -/
def fnExactIsChoiceUptoRow : OpenClaim := { program := "ytkmjaiicobkkhaa", sum := "0b3ca08389bc0c96eb63746a78d9787bba8e77f846defe3709de554942ce98a1", func := "loop.example/g03407/laws.FnExactIsChoice", spec := "fnExactIsChoice", unfollowed := true, recurses := true, leaving := true, apart := false, narrowed := true }
def FnExactIsChoiceUptoSaid : Prop := fnExactIsChoiceUptoRow.holds Try.pinned (OpenSpec.upto fnExactIsChoiceSpec)

/-- 'laws.FnExactCompleteChoice', WHERE WHAT IT READS IS OF BULK AT MOST 1048576: true; the input reads as it did. -/
def fnExactCompleteChoiceUptoRow : OpenClaim := { program := "ytkmjaiicobkkhaa", sum := "0b3ca08389bc0c96eb63746a78d9787bba8e77f846defe3709de554942ce98a1", func := "loop.example/g03407/laws.FnExactCompleteChoice", spec := "fnExactCompleteChoice", unfollowed := true, recurses := true, leaving := true, apart := false, narrowed := true }
def FnExactCompleteChoiceUptoSaid : Prop := fnExactCompleteChoiceUptoRow.holds Try.pinned (OpenSpec.upto fnExactCompleteChoiceSpec)

/-- 'laws.FnExactOpenValues', WHERE WHAT IT READS IS OF BULK AT MOST 1048576: true; the input reads as it did. -/
def fnExactOpenValuesUptoRow : OpenClaim := { program := "ytkmjaiicobkkhaa", sum := "0b3ca08389bc0c96eb63746a78d9787bba8e77f846defe3709de554942ce98a1", func := "loop.example/g03407/laws.FnExactOpenValues", spec := "fnExactOpenValues", unfollowed := true, recurses := true, leaving := true, apart := false, narrowed := true }
def FnExactOpenValuesUptoSaid : Prop := fnExactOpenValuesUptoRow.holds Try.pinned (OpenSpec.upto fnExactOpenValuesSpec)

/-- 'laws.FnExactConflictOf', WHERE WHAT IT READS IS OF BULK AT MOST 1048576: true; the input reads as it did. -/
def fnExactConflictOfUptoRow : OpenClaim := { program := "ytkmjaiicobkkhaa", sum := "0b3ca08389bc0c96eb63746a78d9787bba8e77f846defe3709de554942ce98a1", func := "loop.example/g03407/laws.FnExactConflictOf", spec := "fnExactConflictOf", unfollowed := true, recurses := true, leaving := true, apart := false, narrowed := true }
def FnExactConflictOfUptoSaid : Prop := fnExactConflictOfUptoRow.holds Try.pinned (OpenSpec.upto fnExactConflictOfSpec)

end Rows
end Go.Proofs.Ytkmjaiicobkkhaa
