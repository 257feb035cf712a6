/-
  The program's rules: whether one is valid, and one turned around.
-/
import Derived.Test.YtaomjggamamckaaUnitHops
import Derived.Test.YtaomjggamamckaaIsCodeWalkB
import Derived.Test.YtaomjggamamckaaRatI
import Derived.Test.YtaomjggamamckaaHold
import Derived.Test.YtaomjggamamckaaResKit
import Derived.WalkKit
import Derived.WalkSpells
import Derived.WalkSmall
import Derived.BigQuiet
import Derived.Deep.QuietTactic
import Derived.Deep.DeepCutAuto
import Derived.Lib.Hide
namespace Go.Proofs.Ytaomjggamamckaa
open Go.RowKit

theorem code_calls (s : ByteArray) (w : World) (hs : s.size ≤ maxLen) : Calls Try.prog 37 #[.string s] w (BRes (isCode.codeB s) w) :=
  (isCode.impl_walk s w hs).mono (fun e w' h => by
    obtain ⟨rfl, h⟩ := h
    refine ⟨rfl, ?_⟩
    rcases h with rfl | ⟨pos, rfl⟩
    · exact Below.refl _ _
    · exact (Below.refl _ _).alloc (Nat.le_refl _) _)

set_option maxRecDepth 100000 in
set_option maxHeartbeats 1000000 in
theorem impl_turned (r : UR) (w : World) : Calls Try.prog 72 #[urV r] w fun e w' => e = .returned (urV (turnU r)) ∧ Below w.heap.size w w' := by
  obtain ⟨src, dst, num, den⟩ := r
  unfold urV turnU
  have HR := heap_alloc_new w (.cells #[.string src, .string dst, .int .i64 num, .int .i64 den] 79)
  have HB : Below w.heap.size w (w.alloc (.cells #[.string src, .string dst, .int .i64 num, .int .i64 den] 79)) := (Below.refl _ _).alloc (Nat.le_refl _) _
  go_enter Try.func72, Try.ntmps72
  go_wp2_with fail
  have HR2 := heap_alloc_new (w.alloc (.cells #[.string src, .string dst, .int .i64 num, .int .i64 den] 79)) (.cells #[.string dst, .string src, .int .i64 den, .int .i64 num] 79)
  rw [show (w.alloc (.cells #[.string src, .string dst, .int .i64 num, .int .i64 den] 79)).heap.size = w.heap.size + 1 from by simp] at HR2
  exact bodyPost_ret (v := .agg #[.string dst, .string src, .int .i64 den, .int .i64 num]) (results_cell_row Try.results72 _ _ _ _ _ _ _ rfl HR2 Try.underlying79 rfl (by kernel_rfl)) rfl ⟨rfl, HB.alloc HB.size _⟩

set_option maxRecDepth 100000 in
set_option maxHeartbeats 1000000 in
theorem impl_rule (r : UR) (w : World) (h1 : r.src.size ≤ maxLen) (h2 : r.dst.size ≤ maxLen) : Calls Try.prog 52 #[urV r] w (BRes (ruleOk r) w) := by
  obtain ⟨src, dst, num, den⟩ := r
  unfold urV
  have HB : Below w.heap.size w (w.alloc (.cells #[.string src, .string dst, .int .i64 num, .int .i64 den] 79)) := (Below.refl _ _).alloc (Nat.le_refl _) _
  have HR := heap_alloc_new w (.cells #[.string src, .string dst, .int .i64 num, .int .i64 den] 79)
  have S1 := Lib.hid h1
  have S2 := Lib.hid h2
  clear h1 h2
  go_enter Try.func52, Try.ntmps52
  go_wp2_with fail
  refine (code_calls src _ S1.out).mono ?_
  rintro e w1 ⟨rfl, hb⟩
  have HR := blk_below HR hb
  have HB := HB.trans (hb.mono HB.size)
  clear hb
  rcases Bool.eq_false_or_eq_true (isCode.codeB src) with hA | hA
  rotate_left
  · have HY : Hid (ruleOk ⟨src, dst, num, den⟩ = false) := Lib.hid (by unfold ruleOk; rw [hA]; rfl)
    rw [hA]
    clear hA
    go_wp2_with fail
    go_ret
    exact ⟨by rw [HY.out]; rfl, HB⟩
  have HA := Lib.hid hA
  rw [hA]
  clear hA
  have c1 := cell_of_row _ _ 1 _ _ _ HR
  go_wp2_with fail
  refine (code_calls dst _ S2.out).mono ?_
  rintro e w2 ⟨rfl, hb⟩
  have HR := blk_below HR hb
  have HB := HB.trans (hb.mono HB.size)
  clear hb c1
  rcases Bool.eq_false_or_eq_true (isCode.codeB dst) with hT | hT
  rotate_left
  · have HY : Hid (ruleOk ⟨src, dst, num, den⟩ = false) := Lib.hid (by unfold ruleOk; rw [HA.out, hT]; rfl)
    rw [hT]
    clear hT
    go_wp2_with fail
    go_ret
    exact ⟨by rw [HY.out]; rfl, HB⟩
  have HT := Lib.hid hT
  rw [hT]
  clear hT
  have c0 := cell_of_row _ _ 0 _ _ _ HR
  have c1 := cell_of_row _ _ 1 _ _ _ HR
  by_cases hE : src = dst
  · have HY : Hid (ruleOk ⟨src, dst, num, den⟩ = false) := Lib.hid (by unfold ruleOk; rw [HA.out, HT.out, decide_eq_false (show ¬(src ≠ dst) from fun h => h hE)]; rfl)
    have bE : (src.toList == dst.toList) = true := str_eq hE
    clear hE
    go_wp2_with fail
    go_ret
    exact ⟨by rw [HY.out]; rfl, HB⟩
  have HE := Lib.hid hE
  have bE : (src.toList == dst.toList) = false := str_ne hE
  have c2 := cell_of_row _ _ 2 _ _ _ HR
  have c3 := cell_of_row _ _ 3 _ _ _ HR
  clear hE
  go_wp2_with fail
  refine (rat.impl_isRatio num den _).mono ?_
  rintro e w3 ⟨rfl, hb⟩
  have HR := blk_below HR hb
  have HB := HB.trans (hb.mono HB.size)
  clear hb c0 c1 c2 c3 bE
  rcases Bool.eq_false_or_eq_true (rat.okB num den) with hK | hK
  rotate_left
  · have HY : Hid (ruleOk ⟨src, dst, num, den⟩ = false) := Lib.hid (by unfold ruleOk; rw [hK]; simp)
    rw [hK]
    clear hK
    go_wp2_with fail
    go_ret
    exact ⟨by rw [HY.out]; rfl, HB⟩
  have HK := Lib.hid hK
  rw [hK]
  clear hK
  have c2 := cell_of_row _ _ 2 _ _ _ HR
  have c3 := cell_of_row _ _ 3 _ _ _ HR
  have HY : Hid (ruleOk ⟨src, dst, num, den⟩ = (decide (1 ≤ num ∧ num ≤ 1000) && decide (den ≤ 1000))) := Lib.hid (by unfold ruleOk; rw [HA.out, HT.out, HK.out, decide_eq_true (show src ≠ dst from HE.out)]; rfl)
  by_cases hn : 1 ≤ num
  rotate_left
  · have HZ : Hid (ruleOk ⟨src, dst, num, den⟩ = false) := Lib.hid (by rw [HY.out, decide_eq_false (show ¬(1 ≤ num ∧ num ≤ 1000) by omega)]; rfl)
    go_wp2_with fail
    go_ret
    exact ⟨by rw [HZ.out]; rfl, HB⟩
  by_cases hn2 : num ≤ 1000
  rotate_left
  · have HZ : Hid (ruleOk ⟨src, dst, num, den⟩ = false) := Lib.hid (by rw [HY.out, decide_eq_false (show ¬(1 ≤ num ∧ num ≤ 1000) by omega)]; rfl)
    go_wp2_with fail
    go_ret
    exact ⟨by rw [HZ.out]; rfl, HB⟩
  have HZ : Hid (ruleOk ⟨src, dst, num, den⟩ = decide (den ≤ 1000)) := Lib.hid (by rw [HY.out, decide_eq_true (show 1 ≤ num ∧ num ≤ 1000 from ⟨hn, hn2⟩)]; rfl)
  go_wp2_with fail
  go_ret
  exact ⟨by rw [HZ.out]; rfl, HB⟩
end Go.Proofs.Ytaomjggamamckaa
