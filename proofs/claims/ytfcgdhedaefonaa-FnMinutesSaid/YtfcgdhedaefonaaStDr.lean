/-
  The draw of a step: l12Step.
-/
import Derived.Test.YtfcgdhedaefonaaDrawKeep
import Derived.Test.YtfcgdhedaefonaaCodeDr
import Derived.Test.YtfcgdhedaefonaaSTRec
import Derived.Test.YtfcgdhedaefonaaResKit
import Derived.WalkKit
import Derived.WalkSpells
import Derived.WalkSmall
import Derived.BigQuiet
import Derived.Deep.QuietTactic
import Derived.Deep.DeepCutAuto
import Derived.Deep.RegionHeld3
import Derived.Lib.Hide
namespace Go.Proofs.Ytfcgdhedaefonaa
open Go.RowKit

theorem blk3_c0 {w1 : World} {g : Nat} {z0 z1 z2 y : Value} {t : TypeId} (h : w1.heap[g]? = some (.cells #[z0, z1, z2] t (0, 0))) : (w1.setCell ⟨g, 0, none⟩ y).heap[g]? = some (.cells #[y, z1, z2] t (0, 0)) := heap_setCell_same w1 g 0 #[z0, z1, z2] t y h
theorem blk3_c1 {w1 : World} {g : Nat} {z0 z1 z2 y : Value} {t : TypeId} (h : w1.heap[g]? = some (.cells #[z0, z1, z2] t (0, 0))) : (w1.setCell ⟨g, 1, none⟩ y).heap[g]? = some (.cells #[z0, y, z2] t (0, 0)) := heap_setCell_same w1 g 1 #[z0, z1, z2] t y h
theorem blk3_c2 {w1 : World} {g : Nat} {z0 z1 z2 y : Value} {t : TypeId} (h : w1.heap[g]? = some (.cells #[z0, z1, z2] t (0, 0))) : (w1.setCell ⟨g, 2, none⟩ y).heap[g]? = some (.cells #[z0, z1, y] t (0, 0)) := heap_setCell_same w1 g 2 #[z0, z1, z2] t y h
/-- All 3 cells of a block stored. -/
theorem blk_set3r {w1 : World} {g : Nat} {z0 z1 z2 y0 y1 y2 : Value} {t : TypeId} (h : w1.heap[g]? = some (.cells #[z0, z1, z2] t (0, 0))) : (((w1.setCell ⟨g, 0, none⟩ y0).setCell ⟨g, 1, none⟩ y1).setCell ⟨g, 2, none⟩ y2).heap[g]? = some (.cells #[y0, y1, y2] t (0, 0)) :=
  (blk3_c2 (blk3_c1 (blk3_c0 h)))
theorem Drawn.set3r {B b : Nat} {a : Option Addr} {n c : Nat} {w w1 : World} {g : Nat} {y0 y1 y2 : Value} (h : Drawn B b a n c w w1) (hb : b < w.heap.size) (hg : w.heap.size ≤ g) : Drawn B b a n c w (((w1.setCell ⟨g, 0, none⟩ y0).setCell ⟨g, 1, none⟩ y1).setCell ⟨g, 2, none⟩ y2) :=
  (((h.set1 hb hg).set1 hb hg).set1 hb hg)
theorem blk_oth3r {w1 : World} {g k : Nat} {y0 y1 y2 : Value} {o : Obj} (h : w1.heap[k]? = some o) (hne : k ≠ g) : (((w1.setCell ⟨g, 0, none⟩ y0).setCell ⟨g, 1, none⟩ y1).setCell ⟨g, 2, none⟩ y2).heap[k]? = some o :=
  ((heap_setCell_other _ _ _ _ hne).trans ((heap_setCell_other _ _ _ _ hne).trans ((heap_setCell_other _ _ _ _ hne).trans h)))
/-- A step drawn. -/
def DrewS (B b : Nat) (a : Option Addr) (n c : Nat) (w : World) (e : Ending) (w' : World) : Prop := ∃ x : ST, e = .returned (ST.val x) ∧ x.cen.size ≤ 1000 ∧ Drawn B b a n c w w'

set_option maxRecDepth 100000 in
set_option maxHeartbeats 4000000 in
theorem l12_step (B b : Nat) (a : Option Addr) (n c : Nat) (w : World) (hn : n ≤ 1048576) (hcode : CodeAt B w a n) (hcur : CurAt B w b a n c) (hBw : B ≤ w.heap.size) :
    Calls Try.prog 70 #[.pointer (some ⟨b, 0, none⟩)] w (DrewS B b a n c w) := by
  have hlt := hcur.lt
  have hBb := hcur.1
  have HC0 := Lib.hid hcode
  have HD_0 : Hid (Drawn B b a n c w w) := Lib.hid ⟨hcur, rfl, rfl, rfl, Nat.le_refl _, fun _ _ _ => rfl⟩
  have hs_0 : w.heap.size ≤ w.heap.size := Nat.le_refl _
  clear hcode hcur
  go_enter Try.func70, Try.ntmps70
  go_wp2_with fail
  have hal_R : (w.alloc (.cells #[.string { data := #[] }, .int .i64 0, .int .i64 0] 34)).heap.size = w.heap.size + 1 := by simp
  have HD_1 : Hid (Drawn B b a n c w (w.alloc (.cells #[.string { data := #[] }, .int .i64 0, .int .i64 0] 34))) := Lib.hid (HD_0.out.al hlt _)
  have HR_1 : ((w.alloc (.cells #[.string { data := #[] }, .int .i64 0, .int .i64 0] 34))).heap[w.heap.size]? = some (.cells #[.string { data := #[] }, .int .i64 0, .int .i64 0] 34 (0, 0)) := heap_alloc_new _ _
  have hs_1 := HD_1.out.grown.size
  generalize hw_1 : (w.alloc (.cells #[.string { data := #[] }, .int .i64 0, .int .i64 0] 34)) = w_1 at *
  clear hw_1
  have hi_2 := texts_new w_1 9 [{ data := #[83, 65, 87] }, { data := #[77, 73, 76, 76] }, { data := #[80, 65, 73, 78, 84] }] (by intro z hz; simp only [List.mem_cons, List.mem_nil_iff, or_false] at hz; rcases hz with rfl | rfl | rfl <;> exact Nat.le_of_ble_eq_true rfl)
  have hz_2 : TextsAt (w_1.alloc (.cells #[.string { data := #[83, 65, 87] }, .string { data := #[77, 73, 76, 76] }, .string { data := #[80, 65, 73, 78, 84] }] 9)) (w.heap.size + 1) 3 := (by rw [← hal_R]; exact hi_2)
  clear hi_2
  have hg_2 : w.heap.size + 1 ≠ b := by omega
  have HD_3 : Hid (Drawn B b a n c w (w_1.alloc (.cells #[.string { data := #[83, 65, 87] }, .string { data := #[77, 73, 76, 76] }, .string { data := #[80, 65, 73, 78, 84] }] 9))) := Lib.hid (HD_1.out.al hlt _)
  have HR_3 : ((w_1.alloc (.cells #[.string { data := #[83, 65, 87] }, .string { data := #[77, 73, 76, 76] }, .string { data := #[80, 65, 73, 78, 84] }] 9))).heap[w.heap.size]? = some (.cells #[.string { data := #[] }, .int .i64 0, .int .i64 0] 34 (0, 0)) := blk_alloc HR_1 _
  have hs_3 := HD_3.out.grown.size
  refine (l1_pick B b (w.heap.size + 1) 3 a n c _ hn (HC0.out.below (HD_3.out.below hBw)) HD_3.out.cur (by omega) (by omega) (by omega) hg_2 hz_2).mono ?_
  rintro e w_4 ⟨cen, rfl, hcen, hd⟩
  have HD_4 := Lib.hid (HD_3.out.trans hd)
  have HR_4 := Drawn.blk hd HR_3 (by omega)
  have hs_4 := HD_4.out.grown.size
  have hp_4 : w_1.heap.size ≤ w_4.heap.size := by have h := hd.grown.size; first | exact h | (simp at h; omega)
  clear hd HR_3 HD_3
  clear hz_2 hg_2
  go_wp2_with fail
  refine (l1_below B b a n c 40 _ hn (HC0.out.below (HD_4.out.below hBw)) HD_4.out.cur (by omega) (by omega) (by omega)).mono ?_
  rintro e w_5 ⟨stu, rfl, hstu0, hstu1, hd⟩
  have HD_5 := Lib.hid (HD_4.out.trans hd)
  have HR_5 := Drawn.blk hd HR_4 (by omega)
  have hs_5 := HD_5.out.grown.size
  have hp_5 : w_4.heap.size ≤ w_5.heap.size := by have h := hd.grown.size; first | exact h | (simp at h; omega)
  clear hd HR_4 HD_4
  go_wp2_with fail
  refine (l1_below B b a n c 12 _ hn (HC0.out.below (HD_5.out.below hBw)) HD_5.out.cur (by omega) (by omega) (by omega)).mono ?_
  rintro e w_6 ⟨run, rfl, hrun0, hrun1, hd⟩
  have HD_6 := Lib.hid (HD_5.out.trans hd)
  have HR_6 := Drawn.blk hd HR_5 (by omega)
  have hs_6 := HD_6.out.grown.size
  have hp_6 : w_5.heap.size ≤ w_6.heap.size := by have h := hd.grown.size; first | exact h | (simp at h; omega)
  clear hd HR_5 HD_5
  go_upto_region 2 with fail
  have hal_X : (w_6.alloc (.cells #[.string cen, .int .i64 stu, .int .i64 run] 34)).heap.size = w_6.heap.size + 1 := by simp
  have HD_7 : Hid (Drawn B b a n c w (w_6.alloc (.cells #[.string cen, .int .i64 stu, .int .i64 run] 34))) := Lib.hid (HD_6.out.al hlt _)
  have HR_7 : ((w_6.alloc (.cells #[.string cen, .int .i64 stu, .int .i64 run] 34))).heap[w.heap.size]? = some (.cells #[.string { data := #[] }, .int .i64 0, .int .i64 0] 34 (0, 0)) := blk_alloc HR_6 _
  have HX_7 : ((w_6.alloc (.cells #[.string cen, .int .i64 stu, .int .i64 run] 34))).heap[w_6.heap.size]? = some (.cells #[.string cen, .int .i64 stu, .int .i64 run] 34 (0, 0)) := heap_alloc_new _ _
  have hs_7 := HD_7.out.grown.size
  generalize hw_7 : (w_6.alloc (.cells #[.string cen, .int .i64 stu, .int .i64 run] 34)) = w_7 at *
  clear hw_7
  go_wp2_with fail
  refine (l1_below B b a n c 24 _ hn (HC0.out.below (HD_7.out.below hBw)) HD_7.out.cur (by omega) (by omega) (by omega)).mono ?_
  rintro e w_8 ⟨z, rfl, hz0, hz1, hd⟩
  have HD_8 := Lib.hid (HD_7.out.trans hd)
  have HR_8 := Drawn.blk hd HR_7 (by omega)
  have HX_8 := Drawn.blk hd HX_7 (by omega)
  have hs_8 := HD_8.out.grown.size
  have hp_8 : w_7.heap.size ≤ w_8.heap.size := by have h := hd.grown.size; first | exact h | (simp at h; omega)
  clear hd HR_7 HX_7 HD_7
  by_cases e0 : z = 0
  · have b0 : (z == 0) = true := beq_iff_eq.2 e0
    clear e0
    go_wp2_with fail
    have hi_9 := ints_new w_8 3 [-1, 1000, 1001] (by intro z hz; simp only [List.mem_cons, List.mem_nil_iff, or_false] at hz; omega)
    have hz_9 : IntsAt (w_8.alloc (.cells #[.int .i64 (-1), .int .i64 1000, .int .i64 1001] 3)) (w_8.heap.size) 3 := hi_9
    clear hi_9
    have hg_9 : w_8.heap.size ≠ b := by omega
    have HD_10 : Hid (Drawn B b a n c w (w_8.alloc (.cells #[.int .i64 (-1), .int .i64 1000, .int .i64 1001] 3))) := Lib.hid (HD_8.out.al hlt _)
    have HR_10 : ((w_8.alloc (.cells #[.int .i64 (-1), .int .i64 1000, .int .i64 1001] 3))).heap[w.heap.size]? = some (.cells #[.string { data := #[] }, .int .i64 0, .int .i64 0] 34 (0, 0)) := blk_alloc HR_8 _
    have HX_10 : ((w_8.alloc (.cells #[.int .i64 (-1), .int .i64 1000, .int .i64 1001] 3))).heap[w_6.heap.size]? = some (.cells #[.string cen, .int .i64 stu, .int .i64 run] 34 (0, 0)) := blk_alloc HX_8 _
    have hs_10 := HD_10.out.grown.size
    refine (l1_pickInt B b (w_8.heap.size) 3 a n c _ hn (HC0.out.below (HD_10.out.below hBw)) HD_10.out.cur (by omega) (by omega) (by omega) hg_9 hz_9).mono ?_
    rintro e w_11 ⟨y, rfl, hy0, hy1, hd⟩
    have HD_11 := Lib.hid (HD_10.out.trans hd)
    have HR_11 := Drawn.blk hd HR_10 (by omega)
    have HX_11 := Drawn.blk hd HX_10 (by omega)
    have hs_11 := HD_11.out.grown.size
    have hp_11 : w_8.heap.size ≤ w_11.heap.size := by have h := hd.grown.size; first | exact h | (simp at h; omega)
    clear hd HR_10 HX_10 HD_10
    clear hz_9 hg_9
    have qX1 := cell_of_row _ _ 1 _ _ _ HX_11
    have fX1 := frozen_of_row _ _ 1 _ _ HX_11
    go_upto_region 9 with fail
    clear qX1 fX1
    have HD_12 : Hid (Drawn B b a n c w (w_11.setCell ⟨w_6.heap.size, 1, none⟩ (.int .i64 y))) := Lib.hid (HD_11.out.set1 hlt (by omega))
    have HR_12 : ((w_11.setCell ⟨w_6.heap.size, 1, none⟩ (.int .i64 y))).heap[w.heap.size]? = some (.cells #[.string { data := #[] }, .int .i64 0, .int .i64 0] 34 (0, 0)) := (heap_setCell_other _ _ _ _ (by simp only []; omega)).trans HR_11
    have HX_12 : ((w_11.setCell ⟨w_6.heap.size, 1, none⟩ (.int .i64 y))).heap[w_6.heap.size]? = some (.cells #[.string cen, .int .i64 y, .int .i64 run] 34 (0, 0)) := heap_setCell_same _ _ _ _ _ _ HX_11
    have hs_12 := HD_12.out.grown.size
    have hq_12 : (w_11.setCell ⟨w_6.heap.size, 1, none⟩ (.int .i64 y)).heap.size = w_11.heap.size := by simp
    generalize hw_12 : (w_11.setCell ⟨w_6.heap.size, 1, none⟩ (.int .i64 y)) = w_12 at *
    clear hw_12
    have qX0 := cell_of_row _ _ 0 _ _ _ HX_12
    have qX1 := cell_of_row _ _ 1 _ _ _ HX_12
    have qX2 := cell_of_row _ _ 2 _ _ _ HX_12
    have qR0 := cell_of_row _ _ 0 _ _ _ HR_12
    have fR0 := frozen_of_row _ _ 0 _ _ HR_12
    have qR1 := cell_of_row _ _ 1 _ _ _ HR_12
    have fR1 := frozen_of_row _ _ 1 _ _ HR_12
    have qR2 := cell_of_row _ _ 2 _ _ _ HR_12
    have fR2 := frozen_of_row _ _ 2 _ _ HR_12
    go_wp2_with fail
    exact bodyPost_ret (v := .agg #[.string cen, .int .i64 y, .int .i64 run]) (results_cell_row Try.results70 _ _ _ _ _ _ _ rfl (blk_set3r HR_12) Try.underlying34 rfl (by kernel_rfl)) rfl ⟨⟨cen, y, run⟩, rfl, hcen, HD_12.out.set3r hlt (by omega)⟩
  have b0 : (z == 0) = false := beq_eq_false_iff_ne.2 e0
  clear e0
  by_cases e1 : z = 1
  · have b1 : (z == 1) = true := beq_iff_eq.2 e1
    clear e1
    go_wp2_with fail
    have hi_13 := ints_new w_8 3 [-1, 1000, 1001] (by intro z hz; simp only [List.mem_cons, List.mem_nil_iff, or_false] at hz; omega)
    have hz_13 : IntsAt (w_8.alloc (.cells #[.int .i64 (-1), .int .i64 1000, .int .i64 1001] 3)) (w_8.heap.size) 3 := hi_13
    clear hi_13
    have hg_13 : w_8.heap.size ≠ b := by omega
    have HD_14 : Hid (Drawn B b a n c w (w_8.alloc (.cells #[.int .i64 (-1), .int .i64 1000, .int .i64 1001] 3))) := Lib.hid (HD_8.out.al hlt _)
    have HR_14 : ((w_8.alloc (.cells #[.int .i64 (-1), .int .i64 1000, .int .i64 1001] 3))).heap[w.heap.size]? = some (.cells #[.string { data := #[] }, .int .i64 0, .int .i64 0] 34 (0, 0)) := blk_alloc HR_8 _
    have HX_14 : ((w_8.alloc (.cells #[.int .i64 (-1), .int .i64 1000, .int .i64 1001] 3))).heap[w_6.heap.size]? = some (.cells #[.string cen, .int .i64 stu, .int .i64 run] 34 (0, 0)) := blk_alloc HX_8 _
    have hs_14 := HD_14.out.grown.size
    refine (l1_pickInt B b (w_8.heap.size) 3 a n c _ hn (HC0.out.below (HD_14.out.below hBw)) HD_14.out.cur (by omega) (by omega) (by omega) hg_13 hz_13).mono ?_
    rintro e w_15 ⟨y, rfl, hy0, hy1, hd⟩
    have HD_15 := Lib.hid (HD_14.out.trans hd)
    have HR_15 := Drawn.blk hd HR_14 (by omega)
    have HX_15 := Drawn.blk hd HX_14 (by omega)
    have hs_15 := HD_15.out.grown.size
    have hp_15 : w_8.heap.size ≤ w_15.heap.size := by have h := hd.grown.size; first | exact h | (simp at h; omega)
    clear hd HR_14 HX_14 HD_14
    clear hz_13 hg_13
    have qX2 := cell_of_row _ _ 2 _ _ _ HX_15
    have fX2 := frozen_of_row _ _ 2 _ _ HX_15
    go_upto_region 9 with fail
    clear qX2 fX2
    have HD_16 : Hid (Drawn B b a n c w (w_15.setCell ⟨w_6.heap.size, 2, none⟩ (.int .i64 y))) := Lib.hid (HD_15.out.set1 hlt (by omega))
    have HR_16 : ((w_15.setCell ⟨w_6.heap.size, 2, none⟩ (.int .i64 y))).heap[w.heap.size]? = some (.cells #[.string { data := #[] }, .int .i64 0, .int .i64 0] 34 (0, 0)) := (heap_setCell_other _ _ _ _ (by simp only []; omega)).trans HR_15
    have HX_16 : ((w_15.setCell ⟨w_6.heap.size, 2, none⟩ (.int .i64 y))).heap[w_6.heap.size]? = some (.cells #[.string cen, .int .i64 stu, .int .i64 y] 34 (0, 0)) := heap_setCell_same _ _ _ _ _ _ HX_15
    have hs_16 := HD_16.out.grown.size
    have hq_16 : (w_15.setCell ⟨w_6.heap.size, 2, none⟩ (.int .i64 y)).heap.size = w_15.heap.size := by simp
    generalize hw_16 : (w_15.setCell ⟨w_6.heap.size, 2, none⟩ (.int .i64 y)) = w_16 at *
    clear hw_16
    have qX0 := cell_of_row _ _ 0 _ _ _ HX_16
    have qX1 := cell_of_row _ _ 1 _ _ _ HX_16
    have qX2 := cell_of_row _ _ 2 _ _ _ HX_16
    have qR0 := cell_of_row _ _ 0 _ _ _ HR_16
    have fR0 := frozen_of_row _ _ 0 _ _ HR_16
    have qR1 := cell_of_row _ _ 1 _ _ _ HR_16
    have fR1 := frozen_of_row _ _ 1 _ _ HR_16
    have qR2 := cell_of_row _ _ 2 _ _ _ HR_16
    have fR2 := frozen_of_row _ _ 2 _ _ HR_16
    go_wp2_with fail
    exact bodyPost_ret (v := .agg #[.string cen, .int .i64 stu, .int .i64 y]) (results_cell_row Try.results70 _ _ _ _ _ _ _ rfl (blk_set3r HR_16) Try.underlying34 rfl (by kernel_rfl)) rfl ⟨⟨cen, stu, y⟩, rfl, hcen, HD_16.out.set3r hlt (by omega)⟩
  have b1 : (z == 1) = false := beq_eq_false_iff_ne.2 e1
  clear e1
  by_cases e2 : z = 2
  · have b2 : (z == 2) = true := beq_iff_eq.2 e2
    clear e2
    go_wp2_with fail
    refine (l1_code B b a n c _ hn (HC0.out.below (HD_8.out.below hBw)) HD_8.out.cur (by omega)).mono ?_
    rintro e w_17 ⟨s, rfl, hs, hd⟩
    have HD_17 := Lib.hid (HD_8.out.trans hd)
    have HR_17 := Drawn.blk hd HR_8 (by omega)
    have HX_17 := Drawn.blk hd HX_8 (by omega)
    have hs_17 := HD_17.out.grown.size
    have hp_17 : w_8.heap.size ≤ w_17.heap.size := by have h := hd.grown.size; first | exact h | (simp at h; omega)
    clear hd HR_8 HX_8 HD_8
    have qX0 := cell_of_row _ _ 0 _ _ _ HX_17
    have fX0 := frozen_of_row _ _ 0 _ _ HX_17
    go_upto_region 9 with fail
    clear qX0 fX0
    have HD_18 : Hid (Drawn B b a n c w (w_17.setCell ⟨w_6.heap.size, 0, none⟩ (.string s))) := Lib.hid (HD_17.out.set1 hlt (by omega))
    have HR_18 : ((w_17.setCell ⟨w_6.heap.size, 0, none⟩ (.string s))).heap[w.heap.size]? = some (.cells #[.string { data := #[] }, .int .i64 0, .int .i64 0] 34 (0, 0)) := (heap_setCell_other _ _ _ _ (by simp only []; omega)).trans HR_17
    have HX_18 : ((w_17.setCell ⟨w_6.heap.size, 0, none⟩ (.string s))).heap[w_6.heap.size]? = some (.cells #[.string s, .int .i64 stu, .int .i64 run] 34 (0, 0)) := heap_setCell_same _ _ _ _ _ _ HX_17
    have hs_18 := HD_18.out.grown.size
    have hq_18 : (w_17.setCell ⟨w_6.heap.size, 0, none⟩ (.string s)).heap.size = w_17.heap.size := by simp
    generalize hw_18 : (w_17.setCell ⟨w_6.heap.size, 0, none⟩ (.string s)) = w_18 at *
    clear hw_18
    have qX0 := cell_of_row _ _ 0 _ _ _ HX_18
    have qX1 := cell_of_row _ _ 1 _ _ _ HX_18
    have qX2 := cell_of_row _ _ 2 _ _ _ HX_18
    have qR0 := cell_of_row _ _ 0 _ _ _ HR_18
    have fR0 := frozen_of_row _ _ 0 _ _ HR_18
    have qR1 := cell_of_row _ _ 1 _ _ _ HR_18
    have fR1 := frozen_of_row _ _ 1 _ _ HR_18
    have qR2 := cell_of_row _ _ 2 _ _ _ HR_18
    have fR2 := frozen_of_row _ _ 2 _ _ HR_18
    go_wp2_with fail
    exact bodyPost_ret (v := .agg #[.string s, .int .i64 stu, .int .i64 run]) (results_cell_row Try.results70 _ _ _ _ _ _ _ rfl (blk_set3r HR_18) Try.underlying34 rfl (by kernel_rfl)) rfl ⟨⟨s, stu, run⟩, rfl, hs, HD_18.out.set3r hlt (by omega)⟩
  have b2 : (z == 2) = false := beq_eq_false_iff_ne.2 e2
  clear e2
  go_upto_region 9 with fail
  have qX0 := cell_of_row _ _ 0 _ _ _ HX_8
  have qX1 := cell_of_row _ _ 1 _ _ _ HX_8
  have qX2 := cell_of_row _ _ 2 _ _ _ HX_8
  have qR0 := cell_of_row _ _ 0 _ _ _ HR_8
  have fR0 := frozen_of_row _ _ 0 _ _ HR_8
  have qR1 := cell_of_row _ _ 1 _ _ _ HR_8
  have fR1 := frozen_of_row _ _ 1 _ _ HR_8
  have qR2 := cell_of_row _ _ 2 _ _ _ HR_8
  have fR2 := frozen_of_row _ _ 2 _ _ HR_8
  go_wp2_with fail
  exact bodyPost_ret (v := .agg #[.string cen, .int .i64 stu, .int .i64 run]) (results_cell_row Try.results70 _ _ _ _ _ _ _ rfl (blk_set3r HR_8) Try.underlying34 rfl (by kernel_rfl)) rfl ⟨⟨cen, stu, run⟩, rfl, hcen, HD_8.out.set3r hlt (by omega)⟩
end Go.Proofs.Ytfcgdhedaefonaa
