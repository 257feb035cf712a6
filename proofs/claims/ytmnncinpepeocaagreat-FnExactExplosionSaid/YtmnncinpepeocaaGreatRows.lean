/-
  No cell of these rows narrows 'for every input' (looked for: loops, veiled, ifaces, maps, wideKeys, modest, calm, conditions, laid).
  DERIVED. THE GIVEN ROWS OF THIS SEAT. 5 by the template 'for every input the law returns true; each argument reads behind the call as it read before'; 0 by the template 'total and deterministic' (their statements: YtmnncinpepeocaaGreatTotals.lean).
  GIVEN WITH THE SEED: the statements are not yours to turn. If you find one false, say at which input.
  Laid BY PROGRAM, IN A SANDBOX (cutbox-rows.mjs): the forced cells as the released guide's own fill.sh prints them over the translation 8aa6f294c9e9123a… (all of the seat's roots in one cut). By AI agents, Wed Nov 11 2026. No macro, syntax, notation, axiom, sorry.
-/
import Derived.Test.YtmnncinpepeocaaGreatChecked
import GoSem.Claim
import GoSem.ClaimJoined
import GoSem.ClaimMapViews
import Derived.JoinedTies
import Derived.KernelRfl
namespace Go.Proofs.YtmnncinpepeocaaGreat
/- THE CELL 'sum', in the pinned program and in every row, IS THE sha256 OF THE DUMP (.gsa) THAT YtmnncinpepeocaaGreatProg.lean LOADS. Nothing in Lean hashes anything: it is a label: what it is worth is what the hold of that sum in a sandbox is worth. -/
noncomputable def Tryz.pinned : Pinned := { name := "ytmnncinpepeocaagreat", sum := "8aa6f294c9e9123a45c4efe8ebc01d0a68523c842e82617e14ed68833737e68d", checked := Tryz.checked }
namespace Rows
def none {H : Type} : Left H := { results := [], args := [] }

/-- 'laws.FnExplosion': WHATEVER THE INPUT: true; the input reads as it did. -/
def fnExplosionSpec : ChangeSpec := { name := "fnExplosion", fn := fun _ => fun
  | [d] => { results := [.lit (.bool true)], args := [d] }
  | _ => none }
def fnExplosionRow : OpenClaim := { program := "ytmnncinpepeocaagreat", sum := "8aa6f294c9e9123a45c4efe8ebc01d0a68523c842e82617e14ed68833737e68d", func := "loop.example/g03407/laws.FnExplosion", spec := "fnExplosion", unfollowed := true, recurses := true, apart := false }
def FnExplosionSaid : Prop := fnExplosionRow.holds Tryz.pinned (OpenSpec.ofChange fnExplosionSpec)

/-- ITS FALSE NEIGHBOUR: 'it returns false'. Refute it at one input. -/
def fnExplosionWrong : ChangeSpec := { name := "fnExplosion", fn := fun _ => fun
  | [d] => { results := [.lit (.bool false)], args := [d] }
  | _ => none }
def FnExplosionWrongFalsely : Prop := fnExplosionRow.holds Tryz.pinned (OpenSpec.ofChange fnExplosionWrong)

/-- 'laws.FnPhantoms': WHATEVER THE INPUT: true; the input reads as it did. -/
def fnPhantomsSpec : ChangeSpec := { name := "fnPhantoms", fn := fun _ => fun
  | [d] => { results := [.lit (.bool true)], args := [d] }
  | _ => none }
def fnPhantomsRow : OpenClaim := { program := "ytmnncinpepeocaagreat", sum := "8aa6f294c9e9123a45c4efe8ebc01d0a68523c842e82617e14ed68833737e68d", func := "loop.example/g03407/laws.FnPhantoms", spec := "fnPhantoms", unfollowed := true, recurses := true, apart := false }
def FnPhantomsSaid : Prop := fnPhantomsRow.holds Tryz.pinned (OpenSpec.ofChange fnPhantomsSpec)

/-- ITS FALSE NEIGHBOUR: 'it returns false'. Refute it at one input. -/
def fnPhantomsWrong : ChangeSpec := { name := "fnPhantoms", fn := fun _ => fun
  | [d] => { results := [.lit (.bool false)], args := [d] }
  | _ => none }
def FnPhantomsWrongFalsely : Prop := fnPhantomsRow.holds Tryz.pinned (OpenSpec.ofChange fnPhantomsWrong)

/-- 'laws.FnExactPartsOf': WHATEVER THE INPUT: true; the input reads as it did. -/
def fnExactPartsOfSpec : ChangeSpec := { name := "fnExactPartsOf", fn := fun _ => fun
  | [d1, d2, d3, d4, d5, d6] => { results := [.lit (.bool true)], args := [d1, d2, d3, d4, d5, d6] }
  | _ => none }
def fnExactPartsOfRow : OpenClaim := { program := "ytmnncinpepeocaagreat", sum := "8aa6f294c9e9123a45c4efe8ebc01d0a68523c842e82617e14ed68833737e68d", func := "loop.example/g03407/laws.FnExactPartsOf", spec := "fnExactPartsOf", unfollowed := true, recurses := true, apart := false }
def FnExactPartsOfSaid : Prop := fnExactPartsOfRow.holds Tryz.pinned (OpenSpec.ofChange fnExactPartsOfSpec)

/-- ITS FALSE NEIGHBOUR: 'it returns false'. Refute it at one input. -/
def fnExactPartsOfWrong : ChangeSpec := { name := "fnExactPartsOf", fn := fun _ => fun
  | [d1, d2, d3, d4, d5, d6] => { results := [.lit (.bool false)], args := [d1, d2, d3, d4, d5, d6] }
  | _ => none }
def FnExactPartsOfWrongFalsely : Prop := fnExactPartsOfRow.holds Tryz.pinned (OpenSpec.ofChange fnExactPartsOfWrong)

/-- 'laws.FnExactExplosion': WHATEVER THE INPUT: true; the input reads as it did. -/
def fnExactExplosionSpec : ChangeSpec := { name := "fnExactExplosion", fn := fun _ => fun
  | [d1, d2, d3, d4, d5, d6] => { results := [.lit (.bool true)], args := [d1, d2, d3, d4, d5, d6] }
  | _ => none }
def fnExactExplosionRow : OpenClaim := { program := "ytmnncinpepeocaagreat", sum := "8aa6f294c9e9123a45c4efe8ebc01d0a68523c842e82617e14ed68833737e68d", func := "loop.example/g03407/laws.FnExactExplosion", spec := "fnExactExplosion", unfollowed := true, recurses := true, apart := false }
def FnExactExplosionSaid : Prop := fnExactExplosionRow.holds Tryz.pinned (OpenSpec.ofChange fnExactExplosionSpec)

/-- ITS FALSE NEIGHBOUR: 'it returns false'. Refute it at one input. -/
def fnExactExplosionWrong : ChangeSpec := { name := "fnExactExplosion", fn := fun _ => fun
  | [d1, d2, d3, d4, d5, d6] => { results := [.lit (.bool false)], args := [d1, d2, d3, d4, d5, d6] }
  | _ => none }
def FnExactExplosionWrongFalsely : Prop := fnExactExplosionRow.holds Tryz.pinned (OpenSpec.ofChange fnExactExplosionWrong)

/-- 'laws.FnExactWaysTo': WHATEVER THE INPUT: true; the input reads as it did. -/
def fnExactWaysToSpec : ChangeSpec := { name := "fnExactWaysTo", fn := fun _ => fun
  | [d1, d2, d3, d4, d5, d6] => { results := [.lit (.bool true)], args := [d1, d2, d3, d4, d5, d6] }
  | _ => none }
def fnExactWaysToRow : OpenClaim := { program := "ytmnncinpepeocaagreat", sum := "8aa6f294c9e9123a45c4efe8ebc01d0a68523c842e82617e14ed68833737e68d", func := "loop.example/g03407/laws.FnExactWaysTo", spec := "fnExactWaysTo", unfollowed := true, recurses := true, apart := false }
def FnExactWaysToSaid : Prop := fnExactWaysToRow.holds Tryz.pinned (OpenSpec.ofChange fnExactWaysToSpec)

/-- ITS FALSE NEIGHBOUR: 'it returns false'. Refute it at one input. -/
def fnExactWaysToWrong : ChangeSpec := { name := "fnExactWaysTo", fn := fun _ => fun
  | [d1, d2, d3, d4, d5, d6] => { results := [.lit (.bool false)], args := [d1, d2, d3, d4, d5, d6] }
  | _ => none }
def FnExactWaysToWrongFalsely : Prop := fnExactWaysToRow.holds Tryz.pinned (OpenSpec.ofChange fnExactWaysToWrong)

/- THE SECOND FORM. 'bulk': how many values and letters a reading holds, each counted each time it is reached (what is shared counts as often as it is met; a slice's spare places count too). A statement '..UptoSaid' is the law's where the arguments, and the package variables that the reading takes, are together of bulk at most 1048576: NARROWER than '..Said'. Prove '..Said' where nothing that the law and all that it calls make is longer than what came in: it says more and counts as full. Else prove '..UptoSaid'. A law counts once. -/
mutual
def uptoBulk {H : Type} : DataW H → Nat
  | .lit (.string bytes) => bytes.length + 1
  | .lit _ => 1
  | .nil => 1
  | .ptr d => uptoBulk d + 1
  | .slice elems spare => uptoBulkAll elems + uptoBulkAll spare + 1
  | .agg parts => uptoBulkAll parts + 1
  | .iface _ d => uptoBulk d + 1
  | .map entries => uptoBulkEntries entries + 1
  | .held _ => 1
def uptoBulkAll {H : Type} : List (DataW H) → Nat
  | [] => 0
  | d :: r => uptoBulk d + uptoBulkAll r
def uptoBulkEntries {H : Type} : List (Lit × DataW H) → Nat
  | [] => 0
  | x :: r => uptoBulkEntry x + uptoBulkEntries r
def uptoBulkEntry {H : Type} : Lit × DataW H → Nat
  | (.string bytes, d) => bytes.length + uptoBulk d + 1
  | (_, d) => uptoBulk d + 1
 end
def uptoSmall : (H : Type) → List (DataW H) → Bool := fun _ ds => decide (uptoBulkAll ds ≤ 1048576)
def OpenSpec.upto (s : _root_.Go.ChangeSpec) : _root_.Go.OpenSpec := { _root_.Go.OpenSpec.ofChange s with cond := some uptoSmall }

/-- 'laws.FnExplosion', WHERE WHAT IT READS IS OF BULK AT MOST 1048576: true; the input reads as it did. -/
def fnExplosionUptoRow : OpenClaim := { program := "ytmnncinpepeocaagreat", sum := "8aa6f294c9e9123a45c4efe8ebc01d0a68523c842e82617e14ed68833737e68d", func := "loop.example/g03407/laws.FnExplosion", spec := "fnExplosion", unfollowed := true, recurses := true, apart := false, narrowed := true }
def FnExplosionUptoSaid : Prop := fnExplosionUptoRow.holds Tryz.pinned (OpenSpec.upto fnExplosionSpec)

/-- 'laws.FnPhantoms', WHERE WHAT IT READS IS OF BULK AT MOST 1048576: true; the input reads as it did. -/
def fnPhantomsUptoRow : OpenClaim := { program := "ytmnncinpepeocaagreat", sum := "8aa6f294c9e9123a45c4efe8ebc01d0a68523c842e82617e14ed68833737e68d", func := "loop.example/g03407/laws.FnPhantoms", spec := "fnPhantoms", unfollowed := true, recurses := true, apart := false, narrowed := true }
def FnPhantomsUptoSaid : Prop := fnPhantomsUptoRow.holds Tryz.pinned (OpenSpec.upto fnPhantomsSpec)

/-- 'laws.FnExactPartsOf', WHERE WHAT IT READS IS OF BULK AT MOST 1048576: true; the input reads as it did. -/
def fnExactPartsOfUptoRow : OpenClaim := { program := "ytmnncinpepeocaagreat", sum := "8aa6f294c9e9123a45c4efe8ebc01d0a68523c842e82617e14ed68833737e68d", func := "loop.example/g03407/laws.FnExactPartsOf", spec := "fnExactPartsOf", unfollowed := true, recurses := true, apart := false, narrowed := true }
def FnExactPartsOfUptoSaid : Prop := fnExactPartsOfUptoRow.holds Tryz.pinned (OpenSpec.upto fnExactPartsOfSpec)

/-- 'laws.FnExactExplosion', WHERE WHAT IT READS IS OF BULK AT MOST 1048576: true; the input reads as it did. -/
def fnExactExplosionUptoRow : OpenClaim := { program := "ytmnncinpepeocaagreat", sum := "8aa6f294c9e9123a45c4efe8ebc01d0a68523c842e82617e14ed68833737e68d", func := "loop.example/g03407/laws.FnExactExplosion", spec := "fnExactExplosion", unfollowed := true, recurses := true, apart := false, narrowed := true }
def FnExactExplosionUptoSaid : Prop := fnExactExplosionUptoRow.holds Tryz.pinned (OpenSpec.upto fnExactExplosionSpec)

/-- 'laws.FnExactWaysTo', WHERE WHAT IT READS IS OF BULK AT MOST 1048576: true; the input reads as it did. -/
def fnExactWaysToUptoRow : OpenClaim := { program := "ytmnncinpepeocaagreat", sum := "8aa6f294c9e9123a45c4efe8ebc01d0a68523c842e82617e14ed68833737e68d", func := "loop.example/g03407/laws.FnExactWaysTo", spec := "fnExactWaysTo", unfollowed := true, recurses := true, apart := false, narrowed := true }
def FnExactWaysToUptoSaid : Prop := fnExactWaysToUptoRow.holds Tryz.pinned (OpenSpec.upto fnExactWaysToSpec)

end Rows
end Go.Proofs.YtmnncinpepeocaaGreat
