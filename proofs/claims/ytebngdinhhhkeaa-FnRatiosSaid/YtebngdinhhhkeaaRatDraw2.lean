/-
  The draws of one ratio and of two, from a text of bytes.
-/
import Derived.Test.YtebngdinhhhkeaaRows
import Derived.Test.YtebngdinhhhkeaaHold
import Derived.Test.YtebngdinhhhkeaaDraw
import Derived.Test.YtebngdinhhhkeaaDrawInt
import Derived.Test.YtebngdinhhhkeaaDrawMore
import Derived.Test.YtebngdinhhhkeaaCodeKit
import Derived.Test.YtebngdinhhhkeaaResKit
import Derived.Test.YtebngdinhhhkeaaRatLib
import Derived.Test.YtebngdinhhhkeaaRatRed
import Derived.Test.YtebngdinhhhkeaaRatDraw
import Derived.WalkKit
import Derived.WalkSpells
import Derived.Lib.Hide
namespace Go.Proofs.Ytebngdinhhhkeaa.rat
open Go.RowKit

/-- What a draw of one pair, of two pairs, from a text leaves. -/
def DrewR (w : World) (e : Ending) (w' : World) : Prop :=
  ∃ x y : Int, e = .returned (.agg #[.int .i64 x, .int .i64 y]) ∧ (-9223372036854775808 ≤ x ∧ x ≤ 9223372036854775807) ∧ (-9223372036854775808 ≤ y ∧ y ≤ 9223372036854775807) ∧ Below w.heap.size w w'
def Drew2R (w : World) (e : Ending) (w' : World) : Prop :=
  ∃ x y z u : Int, e = .returned (.tuple #[.agg #[.int .i64 x, .int .i64 y], .agg #[.int .i64 z, .int .i64 u]]) ∧ Below w.heap.size w w'

set_option maxRecDepth 100000 in
set_option maxHeartbeats 400000 in
theorem draw_floorRatio (a : Option Addr) (n c : Nat) (w : World) (hn : n ≤ 1048576) (hcode : CodeAt w.heap.size w a n) :
    Calls Try.prog 23 #[.slice a n c] w (DrewR w) := by
  have HC := Lib.hid hcode
  clear hcode
  go_enter Try.func23, Try.ntmps23
  go_wp2_with fail
  refine (l1_new a n c _ hn ((HC.out.alloc (Nat.le_refl _) _).mono (by simp))).mono ?_
  rintro e w1 ⟨b, rfl, hcur, hb⟩
  have HR := Lib.hid (blk_below (heap_alloc_new w (.cells #[.int .i64 0, .int .i64 0] 25)) hb)
  have B1 := Lib.hid (((Below.refl _ _).alloc (Nat.le_refl _) _).trans (hb.mono (by simp)))
  have hz : (w.alloc (.cells #[.int .i64 0, .int .i64 0] 25)).heap.size ≤ w1.heap.size := hb.size
  have HU := Lib.hid hcur
  have hgt : w.heap.size < b := by have := hcur.1; simp at this; omega
  have HC1 := Lib.hid ((HC.out.alloc (Nat.le_refl _) (.cells #[.int .i64 0, .int .i64 0] 25)).below (hb.mono (by simp)))
  clear hb hcur
  go_wp2_with fail
  refine (l2_any w.heap.size b a n c _ hn HC1.out ⟨by omega, HU.out.2⟩ (by simp at hz; omega)).mono ?_
  rintro e w2 ⟨x, y, rfl, hx, hy, hd⟩
  have HR2 := Lib.hid (hd.blk HR.out (by omega))
  have B2 := Lib.hid (B1.out.trans (hd.below B1.out.size))
  clear hd
  have f0 := frozen_of_row _ _ 0 _ _ HR2.out
  have f1 := frozen_of_row _ _ 1 _ _ HR2.out
  have r0 := cell_of_row _ _ 0 _ _ _ HR2.out
  have r1 := cell_of_row _ _ 1 _ _ _ HR2.out
  go_wp2_with fail
  exact bodyPost_ret (v := .agg #[.int .i64 x, .int .i64 y]) (results_cell_row Try.results23 _ _ _ _ _ _ _ rfl (blk_set2 HR2.out) Try.underlying25 rfl (by kernel_rfl)) rfl ⟨_, _, rfl, hx, hy, (B2.out.setCell (by simp) _).setCell (by simp) _⟩

set_option maxRecDepth 100000 in
set_option maxHeartbeats 800000 in
theorem two_ratios (a : Option Addr) (n c : Nat) (w : World) (hn : n ≤ 1048576) (hcode : CodeAt w.heap.size w a n) :
    Calls Try.prog 39 #[.slice a n c] w (Drew2R w) := by
  have HC := Lib.hid hcode
  clear hcode
  go_enter Try.func39, Try.ntmps39
  go_wp2_with fail
  have hcc : CodeAt w.heap.size ((w.alloc (.cells #[.int .i64 0, .int .i64 0] 25)).alloc (.cells #[.int .i64 0, .int .i64 0] 25)) a n := (HC.out.alloc (Nat.le_refl _) _).alloc (by simp) _
  refine (l1_new a n c _ hn (hcc.mono (by simp; omega))).mono ?_
  rintro e w1 ⟨b, rfl, hcur, hb⟩
  have HR := Lib.hid (blk_below (heap_alloc2_old w (.cells #[.int .i64 0, .int .i64 0] 25) (.cells #[.int .i64 0, .int .i64 0] 25)) hb)
  have HS := Lib.hid (blk_below (heap_alloc2_new w (.cells #[.int .i64 0, .int .i64 0] 25) (.cells #[.int .i64 0, .int .i64 0] 25)) hb)
  have B1 := Lib.hid ((((Below.refl _ _).alloc (Nat.le_refl _) _).alloc (by simp) _).trans (hb.mono (by simp; omega)))
  have hz : ((w.alloc (.cells #[.int .i64 0, .int .i64 0] 25)).alloc (.cells #[.int .i64 0, .int .i64 0] 25)).heap.size ≤ w1.heap.size := hb.size
  have HU := Lib.hid hcur
  have hgt : w.heap.size + 1 < b := by have := hcur.1; simp at this; omega
  have HC1 := Lib.hid (hcc.below (hb.mono (by simp; omega)))
  clear hb hcur hcc
  go_wp2_with fail
  refine (l2_any w.heap.size b a n c _ hn HC1.out ⟨by omega, HU.out.2⟩ (by simp at hz; omega)).mono ?_
  rintro e w2 ⟨x, y, rfl, hx, hy, hd⟩
  have HR2 := Lib.hid (hd.blk HR.out (by omega))
  have HS2 := Lib.hid (hd.blk HS.out (by omega))
  have B2 := Lib.hid (B1.out.trans (hd.below B1.out.size))
  have HU2 := Lib.hid hd.cur
  have HC2 := Lib.hid (HC1.out.below (hd.below B1.out.size))
  clear hd
  go_wp2_with fail
  refine (l2_any w.heap.size b a n c _ hn HC2.out HU2.out B2.out.size).mono ?_
  rintro e w3 ⟨z, u, rfl, hz, hu, hd⟩
  have HR3 := Lib.hid (hd.blk HR2.out (by omega))
  have HS3 := Lib.hid (hd.blk HS2.out (by omega))
  have B3 := Lib.hid (B2.out.trans (hd.below B2.out.size))
  clear hd
  have f0 := frozen_of_row _ _ 0 _ _ HR3.out
  have f1 := frozen_of_row _ _ 1 _ _ HR3.out
  have r0 := cell_of_row _ _ 0 _ _ _ HR3.out
  have r1 := cell_of_row _ _ 1 _ _ _ HR3.out
  have f2 := frozen_of_row _ _ 0 _ _ HS3.out
  have f3 := frozen_of_row _ _ 1 _ _ HS3.out
  have r2 := cell_of_row _ _ 0 _ _ _ HS3.out
  have r3 := cell_of_row _ _ 1 _ _ _ HS3.out
  go_wp2_with fail
  have q0 := blk_set2 (x := .int .i64 x) (y := .int .i64 y) HR3.out
  have q1 : (((w3.setCell ⟨w.heap.size, 0, none⟩ (.int .i64 x)).setCell ⟨w.heap.size, 1, none⟩ (.int .i64 y)).heap)[w.heap.size + 1]? = _ := (heap_setCell_other _ _ _ _ (by simp)).trans ((heap_setCell_other _ _ _ _ (by simp)).trans HS3.out)
  have q2 := (heap_setCell_other _ ⟨w.heap.size + 1, 1, none⟩ _ (.int .i64 u) (by simp)).trans ((heap_setCell_other _ ⟨w.heap.size + 1, 0, none⟩ _ (.int .i64 z) (by simp)).trans q0)
  exact bodyPost_ret (v := .tuple #[.agg #[.int .i64 x, .int .i64 y], .agg #[.int .i64 z, .int .i64 u]]) (results_cell_row2 Try.results39 _ _ _ _ _ _ _ _ _ _ _ _ rfl rfl q2 (blk_set2 q1) Try.underlying25 rfl (by kernel_rfl) Try.underlying25 rfl (by kernel_rfl)) rfl ⟨_, _, _, _, rfl, (((B3.out.setCell (by simp) _).setCell (by simp) _).setCell (by simp) _).setCell (by simp) _⟩


set_option maxRecDepth 100000 in
set_option maxHeartbeats 400000 in
theorem draw_addRatios (a : Option Addr) (n c : Nat) (w : World) (hn : n ≤ 1048576) (hcode : CodeAt w.heap.size w a n) :
    Calls Try.prog 15 #[.slice a n c] w (Drew2R w) := by
  have HC := Lib.hid hcode
  clear hcode
  go_enter Try.func15, Try.ntmps15
  go_wp2_with fail
  have hcc : CodeAt w.heap.size ((w.alloc (.cells #[.int .i64 0, .int .i64 0] 25)).alloc (.cells #[.int .i64 0, .int .i64 0] 25)) a n := (HC.out.alloc (Nat.le_refl _) _).alloc (by simp) _
  refine (two_ratios a n c _ hn (hcc.mono (by simp; omega))).mono ?_
  rintro e w1 ⟨x, y, z, u, rfl, hb⟩
  have HR := Lib.hid (blk_below (heap_alloc2_old w (.cells #[.int .i64 0, .int .i64 0] 25) (.cells #[.int .i64 0, .int .i64 0] 25)) hb)
  have HS := Lib.hid (blk_below (heap_alloc2_new w (.cells #[.int .i64 0, .int .i64 0] 25) (.cells #[.int .i64 0, .int .i64 0] 25)) hb)
  have B1 := Lib.hid ((((Below.refl _ _).alloc (Nat.le_refl _) _).alloc (by simp) _).trans (hb.mono (by simp; omega)))
  clear hb hcc
  have f0 := frozen_of_row _ _ 0 _ _ HR.out
  have f1 := frozen_of_row _ _ 1 _ _ HR.out
  have r0 := cell_of_row _ _ 0 _ _ _ HR.out
  have r1 := cell_of_row _ _ 1 _ _ _ HR.out
  have f2 := frozen_of_row _ _ 0 _ _ HS.out
  have f3 := frozen_of_row _ _ 1 _ _ HS.out
  have r2 := cell_of_row _ _ 0 _ _ _ HS.out
  have r3 := cell_of_row _ _ 1 _ _ _ HS.out
  go_wp2_with fail
  have q0 := blk_set2 (x := .int .i64 x) (y := .int .i64 y) HR.out
  have q1 : (((w1.setCell ⟨w.heap.size, 0, none⟩ (.int .i64 x)).setCell ⟨w.heap.size, 1, none⟩ (.int .i64 y)).heap)[w.heap.size + 1]? = _ := (heap_setCell_other _ _ _ _ (by simp)).trans ((heap_setCell_other _ _ _ _ (by simp)).trans HS.out)
  have q2 := (heap_setCell_other _ ⟨w.heap.size + 1, 1, none⟩ _ (.int .i64 u) (by simp)).trans ((heap_setCell_other _ ⟨w.heap.size + 1, 0, none⟩ _ (.int .i64 z) (by simp)).trans q0)
  exact bodyPost_ret (v := .tuple #[.agg #[.int .i64 x, .int .i64 y], .agg #[.int .i64 z, .int .i64 u]]) (results_cell_row2 Try.results15 _ _ _ _ _ _ _ _ _ _ _ _ rfl rfl q2 (blk_set2 q1) Try.underlying25 rfl (by kernel_rfl) Try.underlying25 rfl (by kernel_rfl)) rfl ⟨_, _, _, _, rfl, (((B1.out.setCell (by simp) _).setCell (by simp) _).setCell (by simp) _).setCell (by simp) _⟩

set_option maxRecDepth 100000 in
set_option maxHeartbeats 400000 in
theorem draw_divideRatios (a : Option Addr) (n c : Nat) (w : World) (hn : n ≤ 1048576) (hcode : CodeAt w.heap.size w a n) :
    Calls Try.prog 16 #[.slice a n c] w (Drew2R w) := by
  have HC := Lib.hid hcode
  clear hcode
  go_enter Try.func16, Try.ntmps16
  go_wp2_with fail
  have hcc : CodeAt w.heap.size ((w.alloc (.cells #[.int .i64 0, .int .i64 0] 25)).alloc (.cells #[.int .i64 0, .int .i64 0] 25)) a n := (HC.out.alloc (Nat.le_refl _) _).alloc (by simp) _
  refine (two_ratios a n c _ hn (hcc.mono (by simp; omega))).mono ?_
  rintro e w1 ⟨x, y, z, u, rfl, hb⟩
  have HR := Lib.hid (blk_below (heap_alloc2_old w (.cells #[.int .i64 0, .int .i64 0] 25) (.cells #[.int .i64 0, .int .i64 0] 25)) hb)
  have HS := Lib.hid (blk_below (heap_alloc2_new w (.cells #[.int .i64 0, .int .i64 0] 25) (.cells #[.int .i64 0, .int .i64 0] 25)) hb)
  have B1 := Lib.hid ((((Below.refl _ _).alloc (Nat.le_refl _) _).alloc (by simp) _).trans (hb.mono (by simp; omega)))
  clear hb hcc
  have f0 := frozen_of_row _ _ 0 _ _ HR.out
  have f1 := frozen_of_row _ _ 1 _ _ HR.out
  have r0 := cell_of_row _ _ 0 _ _ _ HR.out
  have r1 := cell_of_row _ _ 1 _ _ _ HR.out
  have f2 := frozen_of_row _ _ 0 _ _ HS.out
  have f3 := frozen_of_row _ _ 1 _ _ HS.out
  have r2 := cell_of_row _ _ 0 _ _ _ HS.out
  have r3 := cell_of_row _ _ 1 _ _ _ HS.out
  go_wp2_with fail
  have q0 := blk_set2 (x := .int .i64 x) (y := .int .i64 y) HR.out
  have q1 : (((w1.setCell ⟨w.heap.size, 0, none⟩ (.int .i64 x)).setCell ⟨w.heap.size, 1, none⟩ (.int .i64 y)).heap)[w.heap.size + 1]? = _ := (heap_setCell_other _ _ _ _ (by simp)).trans ((heap_setCell_other _ _ _ _ (by simp)).trans HS.out)
  have q2 := (heap_setCell_other _ ⟨w.heap.size + 1, 1, none⟩ _ (.int .i64 u) (by simp)).trans ((heap_setCell_other _ ⟨w.heap.size + 1, 0, none⟩ _ (.int .i64 z) (by simp)).trans q0)
  exact bodyPost_ret (v := .tuple #[.agg #[.int .i64 x, .int .i64 y], .agg #[.int .i64 z, .int .i64 u]]) (results_cell_row2 Try.results16 _ _ _ _ _ _ _ _ _ _ _ _ rfl rfl q2 (blk_set2 q1) Try.underlying25 rfl (by kernel_rfl) Try.underlying25 rfl (by kernel_rfl)) rfl ⟨_, _, _, _, rfl, (((B1.out.setCell (by simp) _).setCell (by simp) _).setCell (by simp) _).setCell (by simp) _⟩
end Go.Proofs.Ytebngdinhhhkeaa.rat
