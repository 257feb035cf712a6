/-
  The model's l5Rule: whether a rule between units is one.
-/
import Derived.Test.YtaomjggamamckaaRows
import Derived.Test.YtaomjggamamckaaRules
import Derived.Test.YtaomjggamamckaaFind
import Derived.Test.YtaomjggamamckaaRatM
import Derived.Test.YtaomjggamamckaaIsCodeWalkA
import Derived.Test.YtaomjggamamckaaHold
import Derived.WalkKit
import Derived.WalkSpells
import Derived.WalkSmall
import Derived.BigQuiet
import Derived.Deep.QuietTactic
import Derived.Lib.Hide
namespace Go.Proofs.Ytaomjggamamckaa
open Go.RowKit

/-- A truth is returned. -/
def BRes (y : Bool) (w : World) (e : Ending) (w' : World) : Prop := e = .returned (.bool y) ∧ Below w.heap.size w w'

/-- A rule between units is one. -/
noncomputable def ruleOk (r : UR) : Bool := isCode.codeB r.src && (isCode.codeB r.dst && (decide (r.src ≠ r.dst) && (rat.okB r.num r.den && (decide (1 ≤ r.num ∧ r.num ≤ 1000) && decide (r.den ≤ 1000)))))

set_option maxRecDepth 100000 in
set_option maxHeartbeats 1000000 in
theorem spec_rule (r : UR) (w : World) (h1 : r.src.size ≤ maxLen) (h2 : r.dst.size ≤ maxLen) : Calls Try.prog 50 #[urV r] w (BRes (ruleOk r) w) := by
  obtain ⟨src, dst, num, den⟩ := r
  have HB : Below w.heap.size w (w.alloc (.cells #[.string src, .string dst, .int .i64 num, .int .i64 den] 79)) := (Below.refl _ _).alloc (Nat.le_refl _) _
  have HR := heap_alloc_new w (.cells #[.string src, .string dst, .int .i64 num, .int .i64 den] 79)
  have c0 := cell_of_row _ _ 0 _ _ _ HR
  have c1 := cell_of_row _ _ 1 _ _ _ HR
  have c2 := cell_of_row _ _ 2 _ _ _ HR
  have c3 := cell_of_row _ _ 3 _ _ _ HR
  have S1 := Lib.hid h1
  have S2 := Lib.hid h2
  clear h1 h2
  unfold urV
  rcases Bool.eq_false_or_eq_true (isCode.codeB src) with hA | hA
  rotate_left
  · have HY : Hid (ruleOk ⟨src, dst, num, den⟩ = false) := Lib.hid (by unfold ruleOk; rw [hA]; rfl)
    have HA := Lib.hid hA
    clear hA
    go_enter Try.func50, Try.ntmps50
    go_wp2_with fail
    refine (isCode.spec_walk src _ S1.out).mono ?_
    rintro e w2 ⟨rfl, rfl⟩
    rw [HA.out]
    go_wp2_with fail
    go_ret
    exact ⟨by rw [HY.out]; rfl, HB⟩
  rcases Bool.eq_false_or_eq_true (isCode.codeB dst) with hT | hT
  rotate_left
  · have HY : Hid (ruleOk ⟨src, dst, num, den⟩ = false) := Lib.hid (by unfold ruleOk; rw [hA, hT]; rfl)
    have HA := Lib.hid hA
    have HT := Lib.hid hT
    clear hA hT
    go_enter Try.func50, Try.ntmps50
    go_wp2_with fail
    refine (isCode.spec_walk src _ S1.out).mono ?_
    rintro e w2 ⟨rfl, rfl⟩
    rw [HA.out]
    go_wp2_with fail
    refine (isCode.spec_walk dst _ S2.out).mono ?_
    rintro e w2 ⟨rfl, rfl⟩
    rw [HT.out]
    go_wp2_with fail
    go_ret
    exact ⟨by rw [HY.out]; rfl, HB⟩
  have HA := Lib.hid hA
  have HT := Lib.hid hT
  by_cases hE : src = dst
  · have HY : Hid (ruleOk ⟨src, dst, num, den⟩ = false) := Lib.hid (by unfold ruleOk; rw [hA, hT, decide_eq_false (show ¬(src ≠ dst) from fun h => h hE)]; rfl)
    have bE : (src.toList == dst.toList) = true := str_eq hE
    clear hA hT hE
    go_enter Try.func50, Try.ntmps50
    go_wp2_with fail
    refine (isCode.spec_walk src _ S1.out).mono ?_
    rintro e w2 ⟨rfl, rfl⟩
    rw [HA.out]
    go_wp2_with fail
    refine (isCode.spec_walk dst _ S2.out).mono ?_
    rintro e w2 ⟨rfl, rfl⟩
    rw [HT.out]
    go_wp2_with fail
    go_ret
    exact ⟨by rw [HY.out]; rfl, HB⟩
  have bE : (src.toList == dst.toList) = false := str_ne hE
  rcases Bool.eq_false_or_eq_true (rat.okB num den) with hK | hK
  rotate_left
  · have HY : Hid (ruleOk ⟨src, dst, num, den⟩ = false) := Lib.hid (by unfold ruleOk; rw [hK]; simp)
    have HK := Lib.hid hK
    clear hA hT hE hK
    go_enter Try.func50, Try.ntmps50
    go_wp2_with fail
    refine (isCode.spec_walk src _ S1.out).mono ?_
    rintro e w2 ⟨rfl, rfl⟩
    rw [HA.out]
    go_wp2_with fail
    refine (isCode.spec_walk dst _ S2.out).mono ?_
    rintro e w2 ⟨rfl, rfl⟩
    rw [HT.out]
    go_wp2_with fail
    refine (rat.spec_isRatio num den _).mono ?_
    rintro e w3 ⟨rfl, hb⟩
    rw [HK.out]
    have HB3 := Lib.hid (HB.trans (hb.mono HB.size))
    clear hb
    go_wp2_with fail
    go_ret
    exact ⟨by rw [HY.out]; rfl, HB3.out⟩
  have HK := Lib.hid hK
  by_cases hN : 1 ≤ num ∧ num ≤ 1000
  · have HN := Lib.hid hN
    have HY : Hid (ruleOk ⟨src, dst, num, den⟩ = decide (den ≤ 1000)) := Lib.hid (by unfold ruleOk; rw [hA, hT, decide_eq_true (show src ≠ dst from hE), hK, decide_eq_true (show 1 ≤ num ∧ num ≤ 1000 from hN)]; simp)
    clear hA hT hE hK hN
    go_enter Try.func50, Try.ntmps50
    go_wp2_with fail
    refine (isCode.spec_walk src _ S1.out).mono ?_
    rintro e w2 ⟨rfl, rfl⟩
    rw [HA.out]
    go_wp2_with fail
    refine (isCode.spec_walk dst _ S2.out).mono ?_
    rintro e w2 ⟨rfl, rfl⟩
    rw [HT.out]
    go_wp2_with fail
    refine (rat.spec_isRatio num den _).mono ?_
    rintro e w3 ⟨rfl, hb⟩
    rw [HK.out]
    have HB3 := Lib.hid (HB.trans (hb.mono HB.size))
    have HR3 := blk_below HR hb
    clear hb c0 c1 c2 c3
    have c0 := cell_of_row _ _ 0 _ _ _ HR3
    have c1 := cell_of_row _ _ 1 _ _ _ HR3
    have c2 := cell_of_row _ _ 2 _ _ _ HR3
    have c3 := cell_of_row _ _ 3 _ _ _ HR3
    go_wp2_with fail
    refine (rat.l1_in_yes _ _ _ _ HN.out.1 HN.out.2).mono ?_
    rintro e w4 ⟨rfl, rfl⟩
    go_wp2_with fail
    go_ret
    exact ⟨by rw [HY.out]; rfl, HB3.out⟩
  · have HN := Lib.hid hN
    have HY : Hid (ruleOk ⟨src, dst, num, den⟩ = false) := Lib.hid (by unfold ruleOk; rw [decide_eq_false (show ¬(1 ≤ num ∧ num ≤ 1000) from hN)]; simp)
    clear hA hT hE hK hN
    go_enter Try.func50, Try.ntmps50
    go_wp2_with fail
    refine (isCode.spec_walk src _ S1.out).mono ?_
    rintro e w2 ⟨rfl, rfl⟩
    rw [HA.out]
    go_wp2_with fail
    refine (isCode.spec_walk dst _ S2.out).mono ?_
    rintro e w2 ⟨rfl, rfl⟩
    rw [HT.out]
    go_wp2_with fail
    refine (rat.spec_isRatio num den _).mono ?_
    rintro e w3 ⟨rfl, hb⟩
    rw [HK.out]
    have HB3 := Lib.hid (HB.trans (hb.mono HB.size))
    have HR3 := blk_below HR hb
    clear hb c0 c1 c2 c3
    have c0 := cell_of_row _ _ 0 _ _ _ HR3
    have c1 := cell_of_row _ _ 1 _ _ _ HR3
    have c2 := cell_of_row _ _ 2 _ _ _ HR3
    have c3 := cell_of_row _ _ 3 _ _ _ HR3
    go_wp2_with fail
    refine (rat.l1_in_no _ _ _ _ (by have := HN.out; omega)).mono ?_
    rintro e w4 ⟨rfl, rfl⟩
    go_wp2_with fail
    go_ret
    exact ⟨by rw [HY.out]; rfl, HB3.out⟩
end Go.Proofs.Ytaomjggamamckaa
