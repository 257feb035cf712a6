import Derived.Test.YtdhldokpojghdaaBuDr
import Derived.Test.YtdhldokpojghdaaDayDraw
import Derived.Test.YtdhldokpojghdaaCatDraw
import Derived.Test.YtdhldokpojghdaaBuRec
import Derived.Test.YtdhldokpojghdaaCondSpec
import Derived.Test.YtdhldokpojghdaaBuA
import Derived.WalkKit
import Derived.WalkSpells
import Derived.WalkSmall
import Derived.BigQuiet
import Derived.Deep.QuietTactic
import Derived.Deep.DeepCutAuto
import Derived.Deep.RegionHeld3
import Derived.Lib.Hide
import Derived.Test.YtdhldokpojghdaaBillDraw
import Derived.Test.YtdhldokpojghdaaSzDraw
import Derived.Test.YtdhldokpojghdaaBuOwn
import Derived.Test.YtdhldokpojghdaaSpecApChg
import Derived.OneCell
import Derived.Laws.AppendOwn
import Derived.Laws.OwnMore
namespace Go.Proofs.Ytdhldokpojghdaa
open Go.RowKit

theorem blk5_c0 {w1 : World} {g : Nat} {z0 z1 z2 z3 z4 y : Value} {t : TypeId} (h : w1.heap[g]? = some (.cells #[z0, z1, z2, z3, z4] t (0, 0))) : (w1.setCell ⟨g, 0, none⟩ y).heap[g]? = some (.cells #[y, z1, z2, z3, z4] t (0, 0)) := heap_setCell_same w1 g 0 #[z0, z1, z2, z3, z4] t y h
theorem blk5_c1 {w1 : World} {g : Nat} {z0 z1 z2 z3 z4 y : Value} {t : TypeId} (h : w1.heap[g]? = some (.cells #[z0, z1, z2, z3, z4] t (0, 0))) : (w1.setCell ⟨g, 1, none⟩ y).heap[g]? = some (.cells #[z0, y, z2, z3, z4] t (0, 0)) := heap_setCell_same w1 g 1 #[z0, z1, z2, z3, z4] t y h
theorem blk5_c2 {w1 : World} {g : Nat} {z0 z1 z2 z3 z4 y : Value} {t : TypeId} (h : w1.heap[g]? = some (.cells #[z0, z1, z2, z3, z4] t (0, 0))) : (w1.setCell ⟨g, 2, none⟩ y).heap[g]? = some (.cells #[z0, z1, y, z3, z4] t (0, 0)) := heap_setCell_same w1 g 2 #[z0, z1, z2, z3, z4] t y h
theorem blk5_c3 {w1 : World} {g : Nat} {z0 z1 z2 z3 z4 y : Value} {t : TypeId} (h : w1.heap[g]? = some (.cells #[z0, z1, z2, z3, z4] t (0, 0))) : (w1.setCell ⟨g, 3, none⟩ y).heap[g]? = some (.cells #[z0, z1, z2, y, z4] t (0, 0)) := heap_setCell_same w1 g 3 #[z0, z1, z2, z3, z4] t y h
theorem blk5_c4 {w1 : World} {g : Nat} {z0 z1 z2 z3 z4 y : Value} {t : TypeId} (h : w1.heap[g]? = some (.cells #[z0, z1, z2, z3, z4] t (0, 0))) : (w1.setCell ⟨g, 4, none⟩ y).heap[g]? = some (.cells #[z0, z1, z2, z3, y] t (0, 0)) := heap_setCell_same w1 g 4 #[z0, z1, z2, z3, z4] t y h
/-- All 5 cells of a block stored. -/
theorem blk_set5r {w1 : World} {g : Nat} {z0 z1 z2 z3 z4 y0 y1 y2 y3 y4 : Value} {t : TypeId} (h : w1.heap[g]? = some (.cells #[z0, z1, z2, z3, z4] t (0, 0))) : (((((w1.setCell ⟨g, 0, none⟩ y0).setCell ⟨g, 1, none⟩ y1).setCell ⟨g, 2, none⟩ y2).setCell ⟨g, 3, none⟩ y3).setCell ⟨g, 4, none⟩ y4).heap[g]? = some (.cells #[y0, y1, y2, y3, y4] t (0, 0)) :=
  (blk5_c4 (blk5_c3 (blk5_c2 (blk5_c1 (blk5_c0 h)))))
theorem Drawn.set5r {B b : Nat} {a : Option Addr} {n c : Nat} {w w1 : World} {g : Nat} {y0 y1 y2 y3 y4 : Value} (h : Drawn B b a n c w w1) (hb : b < w.heap.size) (hg : w.heap.size ≤ g) : Drawn B b a n c w (((((w1.setCell ⟨g, 0, none⟩ y0).setCell ⟨g, 1, none⟩ y1).setCell ⟨g, 2, none⟩ y2).setCell ⟨g, 3, none⟩ y3).setCell ⟨g, 4, none⟩ y4) :=
  (((((h.set1 hb hg).set1 hb hg).set1 hb hg).set1 hb hg).set1 hb hg)
theorem blk_oth5r {w1 : World} {g k : Nat} {y0 y1 y2 y3 y4 : Value} {o : Obj} (h : w1.heap[k]? = some o) (hne : k ≠ g) : (((((w1.setCell ⟨g, 0, none⟩ y0).setCell ⟨g, 1, none⟩ y1).setCell ⟨g, 2, none⟩ y2).setCell ⟨g, 3, none⟩ y3).setCell ⟨g, 4, none⟩ y4).heap[k]? = some o :=
  ((heap_setCell_other _ _ _ _ hne).trans ((heap_setCell_other _ _ _ _ hne).trans ((heap_setCell_other _ _ _ _ hne).trans ((heap_setCell_other _ _ _ _ hne).trans ((heap_setCell_other _ _ _ _ hne).trans h)))))
/-- A change drawn. -/
def DrewC (B b : Nat) (a : Option Addr) (n c : Nat) (w : World) (e : Ending) (w' : World) : Prop := ∃ x : CH, e = .returned (CH.val x) ∧ (x.pa.size ≤ 1000 ∧ x.ou.size ≤ 1000 ∧ x.inn.size ≤ 1000) ∧ Drawn B b a n c w w'

set_option maxRecDepth 100000 in
set_option maxHeartbeats 4000000 in
theorem l11_change (B b : Nat) (a : Option Addr) (n c : Nat) (w : World) (hn : n ≤ 1048576) (hcode : CodeAt B w a n) (hcur : CurAt B w b a n c) (hBw : B ≤ w.heap.size) :
    Calls Try.prog 45 #[.pointer (some ⟨b, 0, none⟩)] w (DrewC B b a n c w) := by
  have hlt := hcur.lt
  have hBb := hcur.1
  have HC0 := Lib.hid hcode
  have HD_0 : Hid (Drawn B b a n c w w) := Lib.hid ⟨hcur, rfl, rfl, rfl, Nat.le_refl _, fun _ _ _ => rfl⟩
  have hs_0 : w.heap.size ≤ w.heap.size := Nat.le_refl _
  clear hcode hcur
  go_enter Try.func45, Try.ntmps45
  go_wp2_with fail
  have hal_R : (w.alloc (.cells #[.int .i64 0, .string { data := #[] }, .string { data := #[] }, .string { data := #[] }, .int .i64 0] 27)).heap.size = w.heap.size + 1 := by simp
  have HD_1 : Hid (Drawn B b a n c w (w.alloc (.cells #[.int .i64 0, .string { data := #[] }, .string { data := #[] }, .string { data := #[] }, .int .i64 0] 27))) := Lib.hid (HD_0.out.al hlt _)
  have HR_1 : ((w.alloc (.cells #[.int .i64 0, .string { data := #[] }, .string { data := #[] }, .string { data := #[] }, .int .i64 0] 27))).heap[w.heap.size]? = some (.cells #[.int .i64 0, .string { data := #[] }, .string { data := #[] }, .string { data := #[] }, .int .i64 0] 27 (0, 0)) := heap_alloc_new _ _
  have hs_1 := HD_1.out.grown.size
  generalize hw_1 : (w.alloc (.cells #[.int .i64 0, .string { data := #[] }, .string { data := #[] }, .string { data := #[] }, .int .i64 0] 27)) = w_1 at *
  clear hw_1
  refine (l4_day B b a n c _ hn (HC0.out.below (HD_1.out.below hBw)) HD_1.out.cur (by omega)).mono ?_
  rintro e w_2 ⟨dy, rfl, hdy0, hdy1, hd⟩
  have HD_2 := Lib.hid (HD_1.out.trans hd)
  have HR_2 := Drawn.blk hd HR_1 (by omega)
  have hs_2 := HD_2.out.grown.size
  have hp_2 : w_1.heap.size ≤ w_2.heap.size := by have h := hd.grown.size; first | exact h | (simp at h; omega)
  clear hd HR_1 HD_1
  go_wp2_with fail
  have hi_3 := texts_new w_2 9 [{ data := #[65] }, { data := #[65] }, { data := #[66] }, { data := #[67] }] (by intro z hz; simp only [List.mem_cons, List.mem_nil_iff, or_false] at hz; rcases hz with rfl | rfl | rfl | rfl <;> exact Nat.le_of_ble_eq_true rfl)
  have hz_3 : TextsAt (w_2.alloc (.cells #[.string { data := #[65] }, .string { data := #[65] }, .string { data := #[66] }, .string { data := #[67] }] 9)) (w_2.heap.size) 4 := hi_3
  clear hi_3
  have hg_3 : w_2.heap.size ≠ b := by omega
  have HD_4 : Hid (Drawn B b a n c w (w_2.alloc (.cells #[.string { data := #[65] }, .string { data := #[65] }, .string { data := #[66] }, .string { data := #[67] }] 9))) := Lib.hid (HD_2.out.al hlt _)
  have HR_4 : ((w_2.alloc (.cells #[.string { data := #[65] }, .string { data := #[65] }, .string { data := #[66] }, .string { data := #[67] }] 9))).heap[w.heap.size]? = some (.cells #[.int .i64 0, .string { data := #[] }, .string { data := #[] }, .string { data := #[] }, .int .i64 0] 27 (0, 0)) := blk_alloc HR_2 _
  have hs_4 := HD_4.out.grown.size
  refine (l1_pick B b (w_2.heap.size) 4 a n c _ hn (HC0.out.below (HD_4.out.below hBw)) HD_4.out.cur (by omega) (by omega) (by omega) hg_3 hz_3).mono ?_
  rintro e w_5 ⟨pa, rfl, hpa, hd⟩
  have HD_5 := Lib.hid (HD_4.out.trans hd)
  have HR_5 := Drawn.blk hd HR_4 (by omega)
  have hs_5 := HD_5.out.grown.size
  have hp_5 : w_2.heap.size ≤ w_5.heap.size := by have h := hd.grown.size; first | exact h | (simp at h; omega)
  clear hd HR_4 HD_4
  clear hz_3 hg_3
  go_wp2_with fail
  have hi_6 := texts_new w_5 9 [{ data := #[66] }, { data := #[67] }, { data := #[68] }, { data := #[69] }] (by intro z hz; simp only [List.mem_cons, List.mem_nil_iff, or_false] at hz; rcases hz with rfl | rfl | rfl | rfl <;> exact Nat.le_of_ble_eq_true rfl)
  have hz_6 : TextsAt (w_5.alloc (.cells #[.string { data := #[66] }, .string { data := #[67] }, .string { data := #[68] }, .string { data := #[69] }] 9)) (w_5.heap.size) 4 := hi_6
  clear hi_6
  have hg_6 : w_5.heap.size ≠ b := by omega
  have HD_7 : Hid (Drawn B b a n c w (w_5.alloc (.cells #[.string { data := #[66] }, .string { data := #[67] }, .string { data := #[68] }, .string { data := #[69] }] 9))) := Lib.hid (HD_5.out.al hlt _)
  have HR_7 : ((w_5.alloc (.cells #[.string { data := #[66] }, .string { data := #[67] }, .string { data := #[68] }, .string { data := #[69] }] 9))).heap[w.heap.size]? = some (.cells #[.int .i64 0, .string { data := #[] }, .string { data := #[] }, .string { data := #[] }, .int .i64 0] 27 (0, 0)) := blk_alloc HR_5 _
  have hs_7 := HD_7.out.grown.size
  refine (l1_pick B b (w_5.heap.size) 4 a n c _ hn (HC0.out.below (HD_7.out.below hBw)) HD_7.out.cur (by omega) (by omega) (by omega) hg_6 hz_6).mono ?_
  rintro e w_8 ⟨ou, rfl, hou, hd⟩
  have HD_8 := Lib.hid (HD_7.out.trans hd)
  have HR_8 := Drawn.blk hd HR_7 (by omega)
  have hs_8 := HD_8.out.grown.size
  have hp_8 : w_5.heap.size ≤ w_8.heap.size := by have h := hd.grown.size; first | exact h | (simp at h; omega)
  clear hd HR_7 HD_7
  clear hz_6 hg_6
  go_wp2_with fail
  have hi_9 := texts_new w_8 9 [{ data := #[] }, { data := #[68] }, { data := #[69] }, { data := #[70] }, { data := #[67] }] (by intro z hz; simp only [List.mem_cons, List.mem_nil_iff, or_false] at hz; rcases hz with rfl | rfl | rfl | rfl | rfl <;> exact Nat.le_of_ble_eq_true rfl)
  have hz_9 : TextsAt (w_8.alloc (.cells #[.string { data := #[] }, .string { data := #[68] }, .string { data := #[69] }, .string { data := #[70] }, .string { data := #[67] }] 9)) (w_8.heap.size) 5 := hi_9
  clear hi_9
  have hg_9 : w_8.heap.size ≠ b := by omega
  have HD_10 : Hid (Drawn B b a n c w (w_8.alloc (.cells #[.string { data := #[] }, .string { data := #[68] }, .string { data := #[69] }, .string { data := #[70] }, .string { data := #[67] }] 9))) := Lib.hid (HD_8.out.al hlt _)
  have HR_10 : ((w_8.alloc (.cells #[.string { data := #[] }, .string { data := #[68] }, .string { data := #[69] }, .string { data := #[70] }, .string { data := #[67] }] 9))).heap[w.heap.size]? = some (.cells #[.int .i64 0, .string { data := #[] }, .string { data := #[] }, .string { data := #[] }, .int .i64 0] 27 (0, 0)) := blk_alloc HR_8 _
  have hs_10 := HD_10.out.grown.size
  refine (l1_pick B b (w_8.heap.size) 5 a n c _ hn (HC0.out.below (HD_10.out.below hBw)) HD_10.out.cur (by omega) (by omega) (by omega) hg_9 hz_9).mono ?_
  rintro e w_11 ⟨inn, rfl, hinn, hd⟩
  have HD_11 := Lib.hid (HD_10.out.trans hd)
  have HR_11 := Drawn.blk hd HR_10 (by omega)
  have hs_11 := HD_11.out.grown.size
  have hp_11 : w_8.heap.size ≤ w_11.heap.size := by have h := hd.grown.size; first | exact h | (simp at h; omega)
  clear hd HR_10 HD_10
  clear hz_9 hg_9
  go_wp2_with fail
  refine (l1_below B b a n c 4 _ hn (HC0.out.below (HD_11.out.below hBw)) HD_11.out.cur (by omega) (by omega) (by omega)).mono ?_
  rintro e w_12 ⟨q, rfl, hq0, hq1, hd⟩
  have HD_12 := Lib.hid (HD_11.out.trans hd)
  have HR_12 := Drawn.blk hd HR_11 (by omega)
  have hs_12 := HD_12.out.grown.size
  have hp_12 : w_11.heap.size ≤ w_12.heap.size := by have h := hd.grown.size; first | exact h | (simp at h; omega)
  clear hd HR_11 HD_11
  go_upto_region 2 with fail
  have hal_X : (w_12.alloc (.cells #[.int .i64 dy, .string pa, .string ou, .string inn, .int .i64 q] 27)).heap.size = w_12.heap.size + 1 := by simp
  have HD_13 : Hid (Drawn B b a n c w (w_12.alloc (.cells #[.int .i64 dy, .string pa, .string ou, .string inn, .int .i64 q] 27))) := Lib.hid (HD_12.out.al hlt _)
  have HR_13 : ((w_12.alloc (.cells #[.int .i64 dy, .string pa, .string ou, .string inn, .int .i64 q] 27))).heap[w.heap.size]? = some (.cells #[.int .i64 0, .string { data := #[] }, .string { data := #[] }, .string { data := #[] }, .int .i64 0] 27 (0, 0)) := blk_alloc HR_12 _
  have HX_13 : ((w_12.alloc (.cells #[.int .i64 dy, .string pa, .string ou, .string inn, .int .i64 q] 27))).heap[w_12.heap.size]? = some (.cells #[.int .i64 dy, .string pa, .string ou, .string inn, .int .i64 q] 27 (0, 0)) := heap_alloc_new _ _
  have hs_13 := HD_13.out.grown.size
  generalize hw_13 : (w_12.alloc (.cells #[.int .i64 dy, .string pa, .string ou, .string inn, .int .i64 q] 27)) = w_13 at *
  clear hw_13
  by_cases he : inn = ByteArray.empty
  · have he1 : inn.toList.isEmpty = true := by rw [he, ByteArray.toList_eq]; rfl
    clear he
    have qX3 := cell_of_row _ _ 3 _ _ _ HX_13
    go_wp2_with fail
    refine (l1_once B b a n c 10 _ hn (HC0.out.below (HD_13.out.below hBw)) HD_13.out.cur (by omega) (by omega) (by omega)).mono ?_
    rintro e w_14 ⟨y, rfl, hd⟩
    have HD_14 := Lib.hid (HD_13.out.trans hd)
    have HR_14 := Drawn.blk hd HR_13 (by omega)
    have HX_14 := Drawn.blk hd HX_13 (by omega)
    have hs_14 := HD_14.out.grown.size
    have hp_14 : w_13.heap.size ≤ w_14.heap.size := by have h := hd.grown.size; first | exact h | (simp at h; omega)
    clear hd HR_13 HX_13 HD_13
    clear qX3
    cases y with
    | true =>
      go_upto_region 4 with fail
      go_wp2_with fail
      refine (l1_once B b a n c 20 _ hn (HC0.out.below (HD_14.out.below hBw)) HD_14.out.cur (by omega) (by omega) (by omega)).mono ?_
      rintro e w_15 ⟨z, rfl, hd⟩
      have HD_15 := Lib.hid (HD_14.out.trans hd)
      have HR_15 := Drawn.blk hd HR_14 (by omega)
      have HX_15 := Drawn.blk hd HX_14 (by omega)
      have hs_15 := HD_15.out.grown.size
      have hp_15 : w_14.heap.size ≤ w_15.heap.size := by have h := hd.grown.size; first | exact h | (simp at h; omega)
      clear hd HR_14 HX_14 HD_14
      cases z with
      | false =>
        have qX0 := cell_of_row _ _ 0 _ _ _ HX_15
        have qX1 := cell_of_row _ _ 1 _ _ _ HX_15
        have qX2 := cell_of_row _ _ 2 _ _ _ HX_15
        have qX3 := cell_of_row _ _ 3 _ _ _ HX_15
        have qX4 := cell_of_row _ _ 4 _ _ _ HX_15
        have qR0 := cell_of_row _ _ 0 _ _ _ HR_15
        have fR0 := frozen_of_row _ _ 0 _ _ HR_15
        have qR1 := cell_of_row _ _ 1 _ _ _ HR_15
        have fR1 := frozen_of_row _ _ 1 _ _ HR_15
        have qR2 := cell_of_row _ _ 2 _ _ _ HR_15
        have fR2 := frozen_of_row _ _ 2 _ _ HR_15
        have qR3 := cell_of_row _ _ 3 _ _ _ HR_15
        have fR3 := frozen_of_row _ _ 3 _ _ HR_15
        have qR4 := cell_of_row _ _ 4 _ _ _ HR_15
        have fR4 := frozen_of_row _ _ 4 _ _ HR_15
        go_wp2_with fail
        exact bodyPost_ret (v := .agg #[.int .i64 dy, .string pa, .string ou, .string inn, .int .i64 q]) (results_cell_row Try.results45 _ _ _ _ _ _ _ rfl (blk_set5r HR_15) Try.underlying27 rfl (by kernel_rfl)) rfl ⟨⟨dy, pa, ou, inn, q⟩, rfl, ⟨hpa, hou, hinn⟩, HD_15.out.set5r hlt (by omega)⟩
      | true =>
        go_wp2_with fail
        refine (l1_code B b a n c _ hn (HC0.out.below (HD_15.out.below hBw)) HD_15.out.cur (by omega)).mono ?_
        rintro e w_16 ⟨s, rfl, hs, hd⟩
        have HD_16 := Lib.hid (HD_15.out.trans hd)
        have HR_16 := Drawn.blk hd HR_15 (by omega)
        have HX_16 := Drawn.blk hd HX_15 (by omega)
        have hs_16 := HD_16.out.grown.size
        have hp_16 : w_15.heap.size ≤ w_16.heap.size := by have h := hd.grown.size; first | exact h | (simp at h; omega)
        clear hd HR_15 HX_15 HD_15
        have qX2 := cell_of_row _ _ 2 _ _ _ HX_16
        have fX2 := frozen_of_row _ _ 2 _ _ HX_16
        go_upto_region 6 with fail
        clear qX2 fX2
        have HD_17 : Hid (Drawn B b a n c w (w_16.setCell ⟨w_12.heap.size, 2, none⟩ (.string s))) := Lib.hid (HD_16.out.set1 hlt (by omega))
        have HR_17 : ((w_16.setCell ⟨w_12.heap.size, 2, none⟩ (.string s))).heap[w.heap.size]? = some (.cells #[.int .i64 0, .string { data := #[] }, .string { data := #[] }, .string { data := #[] }, .int .i64 0] 27 (0, 0)) := (heap_setCell_other _ _ _ _ (by simp only []; omega)).trans HR_16
        have HX_17 : ((w_16.setCell ⟨w_12.heap.size, 2, none⟩ (.string s))).heap[w_12.heap.size]? = some (.cells #[.int .i64 dy, .string pa, .string s, .string inn, .int .i64 q] 27 (0, 0)) := heap_setCell_same _ _ _ _ _ _ HX_16
        have hs_17 := HD_17.out.grown.size
        have hq_17 : (w_16.setCell ⟨w_12.heap.size, 2, none⟩ (.string s)).heap.size = w_16.heap.size := by simp
        generalize hw_17 : (w_16.setCell ⟨w_12.heap.size, 2, none⟩ (.string s)) = w_17 at *
        clear hw_17
        have qX0 := cell_of_row _ _ 0 _ _ _ HX_17
        have qX1 := cell_of_row _ _ 1 _ _ _ HX_17
        have qX2 := cell_of_row _ _ 2 _ _ _ HX_17
        have qX3 := cell_of_row _ _ 3 _ _ _ HX_17
        have qX4 := cell_of_row _ _ 4 _ _ _ HX_17
        have qR0 := cell_of_row _ _ 0 _ _ _ HR_17
        have fR0 := frozen_of_row _ _ 0 _ _ HR_17
        have qR1 := cell_of_row _ _ 1 _ _ _ HR_17
        have fR1 := frozen_of_row _ _ 1 _ _ HR_17
        have qR2 := cell_of_row _ _ 2 _ _ _ HR_17
        have fR2 := frozen_of_row _ _ 2 _ _ HR_17
        have qR3 := cell_of_row _ _ 3 _ _ _ HR_17
        have fR3 := frozen_of_row _ _ 3 _ _ HR_17
        have qR4 := cell_of_row _ _ 4 _ _ _ HR_17
        have fR4 := frozen_of_row _ _ 4 _ _ HR_17
        go_wp2_with fail
        exact bodyPost_ret (v := .agg #[.int .i64 dy, .string pa, .string s, .string inn, .int .i64 q]) (results_cell_row Try.results45 _ _ _ _ _ _ _ rfl (blk_set5r HR_17) Try.underlying27 rfl (by kernel_rfl)) rfl ⟨⟨dy, pa, s, inn, q⟩, rfl, ⟨hpa, hs, hinn⟩, HD_17.out.set5r hlt (by omega)⟩
    | false =>
      have qX4 := cell_of_row _ _ 4 _ _ _ HX_14
      have fX4 := frozen_of_row _ _ 4 _ _ HX_14
      go_upto_region 4 with fail
      clear qX4 fX4
      have HD_18 : Hid (Drawn B b a n c w (w_14.setCell ⟨w_12.heap.size, 4, none⟩ (.int .i64 0))) := Lib.hid (HD_14.out.set1 hlt (by omega))
      have HR_18 : ((w_14.setCell ⟨w_12.heap.size, 4, none⟩ (.int .i64 0))).heap[w.heap.size]? = some (.cells #[.int .i64 0, .string { data := #[] }, .string { data := #[] }, .string { data := #[] }, .int .i64 0] 27 (0, 0)) := (heap_setCell_other _ _ _ _ (by simp only []; omega)).trans HR_14
      have HX_18 : ((w_14.setCell ⟨w_12.heap.size, 4, none⟩ (.int .i64 0))).heap[w_12.heap.size]? = some (.cells #[.int .i64 dy, .string pa, .string ou, .string inn, .int .i64 0] 27 (0, 0)) := heap_setCell_same _ _ _ _ _ _ HX_14
      have hs_18 := HD_18.out.grown.size
      have hq_18 : (w_14.setCell ⟨w_12.heap.size, 4, none⟩ (.int .i64 0)).heap.size = w_14.heap.size := by simp
      generalize hw_18 : (w_14.setCell ⟨w_12.heap.size, 4, none⟩ (.int .i64 0)) = w_18 at *
      clear hw_18
      go_wp2_with fail
      refine (l1_once B b a n c 20 _ hn (HC0.out.below (HD_18.out.below hBw)) HD_18.out.cur (by omega) (by omega) (by omega)).mono ?_
      rintro e w_19 ⟨z, rfl, hd⟩
      have HD_19 := Lib.hid (HD_18.out.trans hd)
      have HR_19 := Drawn.blk hd HR_18 (by omega)
      have HX_19 := Drawn.blk hd HX_18 (by omega)
      have hs_19 := HD_19.out.grown.size
      have hp_19 : w_18.heap.size ≤ w_19.heap.size := by have h := hd.grown.size; first | exact h | (simp at h; omega)
      clear hd HR_18 HX_18 HD_18
      cases z with
      | false =>
        have qX0 := cell_of_row _ _ 0 _ _ _ HX_19
        have qX1 := cell_of_row _ _ 1 _ _ _ HX_19
        have qX2 := cell_of_row _ _ 2 _ _ _ HX_19
        have qX3 := cell_of_row _ _ 3 _ _ _ HX_19
        have qX4 := cell_of_row _ _ 4 _ _ _ HX_19
        have qR0 := cell_of_row _ _ 0 _ _ _ HR_19
        have fR0 := frozen_of_row _ _ 0 _ _ HR_19
        have qR1 := cell_of_row _ _ 1 _ _ _ HR_19
        have fR1 := frozen_of_row _ _ 1 _ _ HR_19
        have qR2 := cell_of_row _ _ 2 _ _ _ HR_19
        have fR2 := frozen_of_row _ _ 2 _ _ HR_19
        have qR3 := cell_of_row _ _ 3 _ _ _ HR_19
        have fR3 := frozen_of_row _ _ 3 _ _ HR_19
        have qR4 := cell_of_row _ _ 4 _ _ _ HR_19
        have fR4 := frozen_of_row _ _ 4 _ _ HR_19
        go_wp2_with fail
        exact bodyPost_ret (v := .agg #[.int .i64 dy, .string pa, .string ou, .string inn, .int .i64 0]) (results_cell_row Try.results45 _ _ _ _ _ _ _ rfl (blk_set5r HR_19) Try.underlying27 rfl (by kernel_rfl)) rfl ⟨⟨dy, pa, ou, inn, 0⟩, rfl, ⟨hpa, hou, hinn⟩, HD_19.out.set5r hlt (by omega)⟩
      | true =>
        go_wp2_with fail
        refine (l1_code B b a n c _ hn (HC0.out.below (HD_19.out.below hBw)) HD_19.out.cur (by omega)).mono ?_
        rintro e w_20 ⟨s, rfl, hs, hd⟩
        have HD_20 := Lib.hid (HD_19.out.trans hd)
        have HR_20 := Drawn.blk hd HR_19 (by omega)
        have HX_20 := Drawn.blk hd HX_19 (by omega)
        have hs_20 := HD_20.out.grown.size
        have hp_20 : w_19.heap.size ≤ w_20.heap.size := by have h := hd.grown.size; first | exact h | (simp at h; omega)
        clear hd HR_19 HX_19 HD_19
        have qX2 := cell_of_row _ _ 2 _ _ _ HX_20
        have fX2 := frozen_of_row _ _ 2 _ _ HX_20
        go_upto_region 6 with fail
        clear qX2 fX2
        have HD_21 : Hid (Drawn B b a n c w (w_20.setCell ⟨w_12.heap.size, 2, none⟩ (.string s))) := Lib.hid (HD_20.out.set1 hlt (by omega))
        have HR_21 : ((w_20.setCell ⟨w_12.heap.size, 2, none⟩ (.string s))).heap[w.heap.size]? = some (.cells #[.int .i64 0, .string { data := #[] }, .string { data := #[] }, .string { data := #[] }, .int .i64 0] 27 (0, 0)) := (heap_setCell_other _ _ _ _ (by simp only []; omega)).trans HR_20
        have HX_21 : ((w_20.setCell ⟨w_12.heap.size, 2, none⟩ (.string s))).heap[w_12.heap.size]? = some (.cells #[.int .i64 dy, .string pa, .string s, .string inn, .int .i64 0] 27 (0, 0)) := heap_setCell_same _ _ _ _ _ _ HX_20
        have hs_21 := HD_21.out.grown.size
        have hq_21 : (w_20.setCell ⟨w_12.heap.size, 2, none⟩ (.string s)).heap.size = w_20.heap.size := by simp
        generalize hw_21 : (w_20.setCell ⟨w_12.heap.size, 2, none⟩ (.string s)) = w_21 at *
        clear hw_21
        have qX0 := cell_of_row _ _ 0 _ _ _ HX_21
        have qX1 := cell_of_row _ _ 1 _ _ _ HX_21
        have qX2 := cell_of_row _ _ 2 _ _ _ HX_21
        have qX3 := cell_of_row _ _ 3 _ _ _ HX_21
        have qX4 := cell_of_row _ _ 4 _ _ _ HX_21
        have qR0 := cell_of_row _ _ 0 _ _ _ HR_21
        have fR0 := frozen_of_row _ _ 0 _ _ HR_21
        have qR1 := cell_of_row _ _ 1 _ _ _ HR_21
        have fR1 := frozen_of_row _ _ 1 _ _ HR_21
        have qR2 := cell_of_row _ _ 2 _ _ _ HR_21
        have fR2 := frozen_of_row _ _ 2 _ _ HR_21
        have qR3 := cell_of_row _ _ 3 _ _ _ HR_21
        have fR3 := frozen_of_row _ _ 3 _ _ HR_21
        have qR4 := cell_of_row _ _ 4 _ _ _ HR_21
        have fR4 := frozen_of_row _ _ 4 _ _ HR_21
        go_wp2_with fail
        exact bodyPost_ret (v := .agg #[.int .i64 dy, .string pa, .string s, .string inn, .int .i64 0]) (results_cell_row Try.results45 _ _ _ _ _ _ _ rfl (blk_set5r HR_21) Try.underlying27 rfl (by kernel_rfl)) rfl ⟨⟨dy, pa, s, inn, 0⟩, rfl, ⟨hpa, hs, hinn⟩, HD_21.out.set5r hlt (by omega)⟩
  have he1 := txt_ne he
  clear he
  have qX3 := cell_of_row _ _ 3 _ _ _ HX_13
  go_upto_region 4 with fail
  clear qX3
  go_wp2_with fail
  refine (l1_once B b a n c 20 _ hn (HC0.out.below (HD_13.out.below hBw)) HD_13.out.cur (by omega) (by omega) (by omega)).mono ?_
  rintro e w_22 ⟨z, rfl, hd⟩
  have HD_22 := Lib.hid (HD_13.out.trans hd)
  have HR_22 := Drawn.blk hd HR_13 (by omega)
  have HX_22 := Drawn.blk hd HX_13 (by omega)
  have hs_22 := HD_22.out.grown.size
  have hp_22 : w_13.heap.size ≤ w_22.heap.size := by have h := hd.grown.size; first | exact h | (simp at h; omega)
  clear hd HR_13 HX_13 HD_13
  cases z with
  | false =>
    have qX0 := cell_of_row _ _ 0 _ _ _ HX_22
    have qX1 := cell_of_row _ _ 1 _ _ _ HX_22
    have qX2 := cell_of_row _ _ 2 _ _ _ HX_22
    have qX3 := cell_of_row _ _ 3 _ _ _ HX_22
    have qX4 := cell_of_row _ _ 4 _ _ _ HX_22
    have qR0 := cell_of_row _ _ 0 _ _ _ HR_22
    have fR0 := frozen_of_row _ _ 0 _ _ HR_22
    have qR1 := cell_of_row _ _ 1 _ _ _ HR_22
    have fR1 := frozen_of_row _ _ 1 _ _ HR_22
    have qR2 := cell_of_row _ _ 2 _ _ _ HR_22
    have fR2 := frozen_of_row _ _ 2 _ _ HR_22
    have qR3 := cell_of_row _ _ 3 _ _ _ HR_22
    have fR3 := frozen_of_row _ _ 3 _ _ HR_22
    have qR4 := cell_of_row _ _ 4 _ _ _ HR_22
    have fR4 := frozen_of_row _ _ 4 _ _ HR_22
    go_wp2_with fail
    exact bodyPost_ret (v := .agg #[.int .i64 dy, .string pa, .string ou, .string inn, .int .i64 q]) (results_cell_row Try.results45 _ _ _ _ _ _ _ rfl (blk_set5r HR_22) Try.underlying27 rfl (by kernel_rfl)) rfl ⟨⟨dy, pa, ou, inn, q⟩, rfl, ⟨hpa, hou, hinn⟩, HD_22.out.set5r hlt (by omega)⟩
  | true =>
    go_wp2_with fail
    refine (l1_code B b a n c _ hn (HC0.out.below (HD_22.out.below hBw)) HD_22.out.cur (by omega)).mono ?_
    rintro e w_23 ⟨s, rfl, hs, hd⟩
    have HD_23 := Lib.hid (HD_22.out.trans hd)
    have HR_23 := Drawn.blk hd HR_22 (by omega)
    have HX_23 := Drawn.blk hd HX_22 (by omega)
    have hs_23 := HD_23.out.grown.size
    have hp_23 : w_22.heap.size ≤ w_23.heap.size := by have h := hd.grown.size; first | exact h | (simp at h; omega)
    clear hd HR_22 HX_22 HD_22
    have qX2 := cell_of_row _ _ 2 _ _ _ HX_23
    have fX2 := frozen_of_row _ _ 2 _ _ HX_23
    go_upto_region 6 with fail
    clear qX2 fX2
    have HD_24 : Hid (Drawn B b a n c w (w_23.setCell ⟨w_12.heap.size, 2, none⟩ (.string s))) := Lib.hid (HD_23.out.set1 hlt (by omega))
    have HR_24 : ((w_23.setCell ⟨w_12.heap.size, 2, none⟩ (.string s))).heap[w.heap.size]? = some (.cells #[.int .i64 0, .string { data := #[] }, .string { data := #[] }, .string { data := #[] }, .int .i64 0] 27 (0, 0)) := (heap_setCell_other _ _ _ _ (by simp only []; omega)).trans HR_23
    have HX_24 : ((w_23.setCell ⟨w_12.heap.size, 2, none⟩ (.string s))).heap[w_12.heap.size]? = some (.cells #[.int .i64 dy, .string pa, .string s, .string inn, .int .i64 q] 27 (0, 0)) := heap_setCell_same _ _ _ _ _ _ HX_23
    have hs_24 := HD_24.out.grown.size
    have hq_24 : (w_23.setCell ⟨w_12.heap.size, 2, none⟩ (.string s)).heap.size = w_23.heap.size := by simp
    generalize hw_24 : (w_23.setCell ⟨w_12.heap.size, 2, none⟩ (.string s)) = w_24 at *
    clear hw_24
    have qX0 := cell_of_row _ _ 0 _ _ _ HX_24
    have qX1 := cell_of_row _ _ 1 _ _ _ HX_24
    have qX2 := cell_of_row _ _ 2 _ _ _ HX_24
    have qX3 := cell_of_row _ _ 3 _ _ _ HX_24
    have qX4 := cell_of_row _ _ 4 _ _ _ HX_24
    have qR0 := cell_of_row _ _ 0 _ _ _ HR_24
    have fR0 := frozen_of_row _ _ 0 _ _ HR_24
    have qR1 := cell_of_row _ _ 1 _ _ _ HR_24
    have fR1 := frozen_of_row _ _ 1 _ _ HR_24
    have qR2 := cell_of_row _ _ 2 _ _ _ HR_24
    have fR2 := frozen_of_row _ _ 2 _ _ HR_24
    have qR3 := cell_of_row _ _ 3 _ _ _ HR_24
    have fR3 := frozen_of_row _ _ 3 _ _ HR_24
    have qR4 := cell_of_row _ _ 4 _ _ _ HR_24
    have fR4 := frozen_of_row _ _ 4 _ _ HR_24
    go_wp2_with fail
    exact bodyPost_ret (v := .agg #[.int .i64 dy, .string pa, .string s, .string inn, .int .i64 q]) (results_cell_row Try.results45 _ _ _ _ _ _ _ rfl (blk_set5r HR_24) Try.underlying27 rfl (by kernel_rfl)) rfl ⟨⟨dy, pa, s, inn, q⟩, rfl, ⟨hpa, hs, hinn⟩, HD_24.out.set5r hlt (by omega)⟩
end Go.Proofs.Ytdhldokpojghdaa

namespace Go.Proofs.Ytdhldokpojghdaa
open Go.RowKit

theorem cc_up {B B' : Nat} {w : World} {a : Option Addr} {n : Nat} (h : CodeAt B w a n) (hle : B ≤ B') : CodeAt B' w a n := by
  rcases h with h | ⟨b, o, ha, hlt, hc⟩
  · exact Or.inl h
  · exact Or.inr ⟨b, o, ha, by omega, hc⟩
theorem cc_down {B B' b : Nat} {w : World} {a : Option Addr} {n c : Nat} (h : CurAt B w b a n c) (hle : B' ≤ B) : CurAt B' w b a n c := ⟨Nat.le_trans hle h.1, h.2⟩
/-- Two results in slots, one in memory. -/
theorem results_ssc {P : Program} {fn : Func} {p q r : Tmp} {ty : TypeId} (h : fn.results = #[.tmp p, .tmp q, .cell r ty]) (tmps : Array Value) (w : World) (g : Nat) (t : TypeId) (cs : Array Value) (fr : Nat × Nat) (d : TypeDesc) (v u : Value)
    (hp : tmps.getD p undef = v) (hq : tmps.getD q undef = u) (hr : tmps.getD r undef = .pointer (some ⟨g, 0, none⟩)) (hg : w.heap[g]? = some (.cells cs t fr))
    (hu : P.underlying ty = some d) (hd : (match d with | .struct _ | .array _ _ => true | _ => false) = true) (hi : (P.info? ty).map (·.size) = some cs.size) :
    (results fn tmps).run P w = .ok (.tuple #[v, u, .agg cs]) w := by
  have hp' : tmps[p]?.getD undef = v := by simpa using hp
  have hq' : tmps[q]?.getD undef = u := by simpa using hq
  have hr' : tmps[r]?.getD undef = .pointer (some ⟨g, 0, none⟩) := by simpa using hr
  simp [results, h, hp', hq', hr', asAddr, run_loadVar_row w g t ty cs fr d hg hu hd hi]
theorem set5chg {w : World} {g : Nat} (y0 y1 y2 y3 y4 : Value) : ChgIn g (g + 1) w (((((w.setCell ⟨g, 0, none⟩ y0).setCell ⟨g, 1, none⟩ y1).setCell ⟨g, 2, none⟩ y2).setCell ⟨g, 3, none⟩ y3).setCell ⟨g, 4, none⟩ y4) :=
  ((((ChgIn.set (Nat.le_refl _) (Nat.lt_succ_self _)).trans (ChgIn.set (Nat.le_refl _) (Nat.lt_succ_self _))).trans (ChgIn.set (Nat.le_refl _) (Nat.lt_succ_self _))).trans (ChgIn.set (Nat.le_refl _) (Nat.lt_succ_self _))).trans (ChgIn.set (Nat.le_refl _) (Nat.lt_succ_self _))
theorem ch_sz {x : CH} (h : x.pa.size ≤ 1000 ∧ x.ou.size ≤ 1000 ∧ x.inn.size ≤ 1000) : CH.Sz x := by
  unfold CH.Sz maxLen; omega
/-- A catalog, lines and a change, drawn. -/
def DrewAC (w : World) (e : Ending) (w' : World) : Prop := ∃ (p : Option Addr) (q : Nat) (l : List IT) (p2 : Option Addr) (q2 : Nat) (ls : List BL) (x : CH), e = .returned (.tuple #[.slice p l.length q, .slice p2 ls.length q2, CH.val x]) ∧ Hid (l.length ≤ 6) ∧ Hid (ls.length ≤ 9) ∧ Hid (∀ r, r ∈ l → IT.Sz r) ∧ Hid (BX.Sz ls) ∧ Hid (CH.Sz x) ∧ Hid (IT.Is w' (.slice p l.length q) l) ∧ Hid (∃ lo hi, BX lo hi w' (.slice p2 ls.length q2) ls) ∧ Hid (Below w.heap.size w w')
/-- A catalog, lines and changes, drawn. -/
def DrewACS (w : World) (e : Ending) (w' : World) : Prop := ∃ (p : Option Addr) (q : Nat) (l : List IT) (p2 : Option Addr) (q2 : Nat) (ls : List BL) (g3 q3 : Nat) (cs : List CH), e = .returned (.tuple #[.slice p l.length q, .slice p2 ls.length q2, .slice (some ⟨g3, 0, none⟩) cs.length q3]) ∧ Hid (l.length ≤ 6) ∧ Hid (ls.length ≤ 9) ∧ Hid (cs.length ≤ 3) ∧ Hid (∀ r, r ∈ l → IT.Sz r) ∧ Hid (BX.Sz ls) ∧ Hid (∀ r, r ∈ cs → CH.Sz r) ∧ Hid (IT.Is w' (.slice p l.length q) l) ∧ Hid (∃ lo hi, BX lo hi w' (.slice p2 ls.length q2) ls) ∧ Hid (w'.ownsRow w.heap.size 27 5 (.slice (some ⟨g3, 0, none⟩) cs.length q3) cs.length (CH.cells cs)) ∧ Hid (Below w.heap.size w w')
/-- A catalog and lines, drawn. -/
def DrewTL (w : World) (e : Ending) (w' : World) : Prop := ∃ (p : Option Addr) (q : Nat) (l : List IT) (p2 : Option Addr) (q2 : Nat) (ls : List BL), e = .returned (.tuple #[.slice p l.length q, .slice p2 ls.length q2]) ∧ Hid (l.length ≤ 6) ∧ Hid (ls.length ≤ 24) ∧ Hid (∀ r, r ∈ l → IT.Sz r) ∧ Hid (BX.Sz ls) ∧ Hid (IT.Is w' (.slice p l.length q) l) ∧ Hid (∃ lo hi, BX lo hi w' (.slice p2 ls.length q2) ls) ∧ Hid (Below w.heap.size w w')

set_option maxRecDepth 100000 in
set_option maxHeartbeats 4000000 in
theorem draw_applyChange (a : Option Addr) (n c : Nat) (w : World) (hn : n ≤ 1048576) (hcode : CodeAt w.heap.size w a n) :
    Calls Try.prog 12 #[.slice a n c] w (DrewAC w) := by
  have HB0 : Hid (Below w.heap.size w (w.alloc (.cells #[.int .i64 0, .string { data := #[] }, .string { data := #[] }, .string { data := #[] }, .int .i64 0] 27))) := Lib.hid ((Below.refl _ _).alloc (Nat.le_refl _) _)
  have HR0 := Lib.hid (heap_alloc_new w (.cells #[.int .i64 0, .string { data := #[] }, .string { data := #[] }, .string { data := #[] }, .int .i64 0] 27))
  have hs0 : w.heap.size < (w.alloc (.cells #[.int .i64 0, .string { data := #[] }, .string { data := #[] }, .string { data := #[] }, .int .i64 0] 27)).heap.size := by simp
  have HC0 := Lib.hid (cc_up (hcode.below HB0.out) (show w.heap.size ≤ (w.alloc (.cells #[.int .i64 0, .string { data := #[] }, .string { data := #[] }, .string { data := #[] }, .int .i64 0] 27)).heap.size by omega))
  clear hcode
  go_enter Try.func12, Try.ntmps12
  go_upto_region 1 with fail
  generalize w.alloc (.cells #[.int .i64 0, .string { data := #[] }, .string { data := #[] }, .string { data := #[] }, .int .i64 0] 27) = w0 at *
  go_wp2_with fail
  refine (l1_new a n c _ hn HC0.out).mono ?_
  rintro e w1 ⟨b, rfl, hcur, hb⟩
  have HC1 := Lib.hid (HC0.out.below hb)
  have HB1 := Lib.hid (HB0.out.trans (hb.mono HB0.out.size))
  have HR1 := Lib.hid (blk_below HR0.out hb)
  have HU := Lib.hid hcur
  have hs1 := hb.size
  have hlt := hcur.lt
  have hbw := hcur.1
  clear hb hcur HC0 HB0 HR0
  go_wp2_with fail
  refine (l8_catalog w0.heap.size b a n c w1 hn HC1.out HU.out hs1).mono ?_
  rintro e w2 ⟨p, q, l, rfl, ⟨hl6, hl0⟩, HZ, HO, HD⟩
  have HC2 := Lib.hid (HC1.out.below (HD.out.below hs1))
  have hs2 := HD.out.grown.size
  go_wp2_with fail
  refine (l9_bills w0.heap.size b a n c w2 (.slice p l.length q) l w1.heap.size hn HC2.out HD.out.cur (by omega) HO.out hlt hl6 HZ.out).mono ?_
  rintro e w3 ⟨p2, q2, ls, rfl, hl9, HZ2, HL3, HD2⟩
  have HO3 := Lib.hid (own_hdC HO.out HD2.out.grown hlt)
  have HD3 := Lib.hid (HD.out.trans HD2.out)
  have HC3 := Lib.hid (HC1.out.below (HD3.out.below hs1))
  have hs3 := HD2.out.grown.size
  have hb2 : b < w2.heap.size := by omega
  clear HO HD HD2 HC2
  go_wp2_with fail
  refine (l11_change w0.heap.size b a n c w3 hn HC3.out HD3.out.cur (by omega)).mono ?_
  rintro e w4 ⟨x, rfl, hx, hd⟩
  have HX := Lib.hid hx
  have HO4 := Lib.hid (own_hdC HO3.out hd.grown hlt)
  have HL4 := Lib.hid (HL3.out.drawn hd.grown hb2)
  have HOLT : Hid (∀ b, (Value.slice p l.length q).ownBlock = some b → b < w4.heap.size) := Lib.hid (fun b hb => (HO4.out.lt b hb).2)
  have HD4 := Lib.hid (HD3.out.trans hd)
  have HC4 := Lib.hid (HC1.out.below (HD4.out.below hs1))
  have hs4 := hd.grown.size
  clear hd hx HO3 HL3 HD3 HC3
  obtain ⟨dy, pa, ou, inn, qy⟩ := x
  unfold CH.val
  obtain ⟨W5, hW5⟩ : ∃ W, w4.alloc (.cells #[.int .i64 dy, .string pa, .string ou, .string inn, .int .i64 qy] 27) = W := ⟨_, rfl⟩
  have HW5 := Lib.hid hW5
  have HK5 : Hid (W5.heap[w4.heap.size]? = some (.cells #[.int .i64 dy, .string pa, .string ou, .string inn, .int .i64 qy] 27)) := Lib.hid (by rw [← hW5]; exact heap_alloc_new _ _)
  have HA5 : Hid (Below w4.heap.size w4 W5) := Lib.hid (by rw [← hW5]; exact (Below.refl _ _).alloc (Nat.le_refl _) _)
  have hs5 := HA5.out.size
  have HD5 : Hid (Drawn w0.heap.size b a n c w1 W5) := Lib.hid (by rw [← hW5]; exact HD4.out.al hlt _)
  have HO5 := Lib.hid (own_keepL HO4.out HA5.out)
  have HL5 := Lib.hid (HL4.out.below HA5.out)
  have HC5 := Lib.hid (HC1.out.below (HD5.out.below hs1))
  clear hW5 HD4 HO4 HL4 HC4
  go_upto_region 5 with fail
  rw [HW5.out]
  clear HW5
  by_cases h0 : 0 < ls.length
  rotate_left
  · have hd0 : decide ((0 : Int) < (ls.length : Int)) = false := decide_eq_false (by omega)
    have k0 := cell_of_row _ _ 0 _ _ _ HK5.out
    have k1 := cell_of_row _ _ 1 _ _ _ HK5.out
    have k2 := cell_of_row _ _ 2 _ _ _ HK5.out
    have k3 := cell_of_row _ _ 3 _ _ _ HK5.out
    have k4 := cell_of_row _ _ 4 _ _ _ HK5.out
    have HRF := Lib.hid ((HD5.out.blk HR1.out (by omega)))
    have r0 := cell_of_row _ _ 0 _ _ _ HRF.out
    have rf0 := frozen_of_row _ _ 0 _ _ HRF.out
    have r1 := cell_of_row _ _ 1 _ _ _ HRF.out
    have rf1 := frozen_of_row _ _ 1 _ _ HRF.out
    have r2 := cell_of_row _ _ 2 _ _ _ HRF.out
    have rf2 := frozen_of_row _ _ 2 _ _ HRF.out
    have r3 := cell_of_row _ _ 3 _ _ _ HRF.out
    have rf3 := frozen_of_row _ _ 3 _ _ HRF.out
    have r4 := cell_of_row _ _ 4 _ _ _ HRF.out
    have rf4 := frozen_of_row _ _ 4 _ _ HRF.out
    go_upto_region 8 with fail
    go_region
    all_goals
      go_wp2
      have HCH : ChgIn w.heap.size (w.heap.size + 1) W5 _ := (set5chg (.int .i64 dy) (.string pa) (.string ou) (.string inn) (.int .i64 qy)).trans (ChgIn.of_below (Below.refl _ _).drew)
      exact bodyPost_ret (v := .tuple #[.slice p l.length q, .slice p2 ls.length q2, .agg #[.int .i64 dy, .string pa, .string ou, .string inn, .int .i64 qy]]) (results_ssc rfl _ _ w.heap.size _ _ _ _ _ _ rfl rfl rfl (blk_set5r HRF.out) Try.underlying27 rfl (by kernel_rfl)) rfl ⟨p, q, l, p2, q2, ls, ⟨dy, pa, ou, inn, qy⟩, rfl, Lib.hid hl6, Lib.hid hl9, Lib.hid (sz_items HZ.out), Lib.hid (sz_lines HZ2.out hl9), Lib.hid (ch_sz HX.out), Lib.hid (IT.is_of_row (ChgIn.row HO5.out HCH (fun b hb => by have := (HO5.out.lt b hb).1; omega))), Lib.hid ⟨_, _, (HL5.out.far HCH (Or.inr (by omega))).sl⟩, Lib.hid (ChgIn.below (HB1.out.trans ((HD5.out.below hs1).mono (by omega))) HCH (Nat.le_refl _))⟩
  have hd0 : decide ((0 : Int) < (ls.length : Int)) = true := decide_eq_true (by omega)
  have hi0 : (0 : Int) < (ls.length : Int) := by omega
  go_wp2_with fail
  refine (l1_once w0.heap.size b a n c 2 W5 hn HC5.out HD5.out.cur (by omega) (by omega) (by omega)).mono ?_
  rintro e w6 ⟨y, rfl, hd⟩
  have HO6 := Lib.hid (own_hdC HO5.out hd.grown hlt)
  have HL6 := Lib.hid (HL5.out.drawn hd.grown hb2)
  have HK6 := Lib.hid (hd.blk HK5.out (by omega))
  have HD6 := Lib.hid (HD5.out.trans hd)
  have hs6 := hd.grown.size
  clear hd HO5 HL5 HD5 HK5 HC5
  cases y with
  | false =>
    have k0 := cell_of_row _ _ 0 _ _ _ HK6.out
    have k1 := cell_of_row _ _ 1 _ _ _ HK6.out
    have k2 := cell_of_row _ _ 2 _ _ _ HK6.out
    have k3 := cell_of_row _ _ 3 _ _ _ HK6.out
    have k4 := cell_of_row _ _ 4 _ _ _ HK6.out
    have HRF := Lib.hid ((HD6.out.blk HR1.out (by omega)))
    have r0 := cell_of_row _ _ 0 _ _ _ HRF.out
    have rf0 := frozen_of_row _ _ 0 _ _ HRF.out
    have r1 := cell_of_row _ _ 1 _ _ _ HRF.out
    have rf1 := frozen_of_row _ _ 1 _ _ HRF.out
    have r2 := cell_of_row _ _ 2 _ _ _ HRF.out
    have rf2 := frozen_of_row _ _ 2 _ _ HRF.out
    have r3 := cell_of_row _ _ 3 _ _ _ HRF.out
    have rf3 := frozen_of_row _ _ 3 _ _ HRF.out
    have r4 := cell_of_row _ _ 4 _ _ _ HRF.out
    have rf4 := frozen_of_row _ _ 4 _ _ HRF.out
    go_upto_region 8 with fail
    go_region
    all_goals
      go_wp2
      have HCH : ChgIn w.heap.size (w.heap.size + 1) w6 _ := (set5chg (.int .i64 dy) (.string pa) (.string ou) (.string inn) (.int .i64 qy)).trans (ChgIn.of_below (Below.refl _ _).drew)
      exact bodyPost_ret (v := .tuple #[.slice p l.length q, .slice p2 ls.length q2, .agg #[.int .i64 dy, .string pa, .string ou, .string inn, .int .i64 qy]]) (results_ssc rfl _ _ w.heap.size _ _ _ _ _ _ rfl rfl rfl (blk_set5r HRF.out) Try.underlying27 rfl (by kernel_rfl)) rfl ⟨p, q, l, p2, q2, ls, ⟨dy, pa, ou, inn, qy⟩, rfl, Lib.hid hl6, Lib.hid hl9, Lib.hid (sz_items HZ.out), Lib.hid (sz_lines HZ2.out hl9), Lib.hid (ch_sz HX.out), Lib.hid (IT.is_of_row (ChgIn.row HO6.out HCH (fun b hb => by have := (HO6.out.lt b hb).1; omega))), Lib.hid ⟨_, _, (HL6.out.far HCH (Or.inr (by omega))).sl⟩, Lib.hid (ChgIn.below (HB1.out.trans ((HD6.out.below hs1).mono (by omega))) HCH (Nat.le_refl _))⟩
  | true =>
    obtain ⟨b3, o3, c3, cl, hv3, hc3, hb3, hcl, hr3, hcell⟩ := HL6.out.sl.get 0 h0
    simp only [Value.slice.injEq] at hv3
    obtain ⟨rfl, _, rfl⟩ := hv3
    obtain ⟨u5, rfl, h5⟩ := hr3
    have e0 := hcell 0 (by omega)
    simp only [List.getElem?_cons_zero, Nat.add_zero, Nat.zero_mul] at e0
    have HYS := Lib.hid (HZ2.out _ (List.getElem_mem h0))
    clear hcell h5 hc3 hcl hb3
    generalize hy : ls[0]'h0 = y at *
    have HYE := Lib.hid hy
    clear hy
    have k1 := cell_of_row _ _ 1 _ _ _ HK6.out
    have kf1 := frozen_of_row _ _ 1 _ _ HK6.out
    obtain ⟨W7, hW7⟩ : ∃ W, w6.setCell ⟨w4.heap.size, 1, none⟩ (.string y.par) = W := ⟨_, rfl⟩
    have HW7 := Lib.hid hW7
    have HK7 : Hid (W7.heap[w4.heap.size]? = some (.cells #[.int .i64 dy, .string y.par, .string ou, .string inn, .int .i64 qy] 27)) := Lib.hid (by rw [← hW7]; exact heap_setCell_same _ _ 1 _ _ _ HK6.out)
    have HD7 := Lib.hid (HD6.out.set1 (g := w4.heap.size) (i := 1) (x := .string y.par) hlt (by omega))
    have HCH7 : Hid (ChgIn w4.heap.size (w4.heap.size + 1) w6 (w6.setCell ⟨w4.heap.size, 1, none⟩ (.string y.par))) := Lib.hid (ChgIn.set (Nat.le_refl _) (Nat.lt_succ_self _))
    rw [hW7] at HD7 HCH7
    clear hW7
    have hs7 := HCH7.out.size
    have HO7 := Lib.hid (ChgIn.row HO6.out HCH7.out (fun b hb => Or.inl (by have h1 := HOLT.out b hb; omega)))
    have HL7 := Lib.hid (HL6.out.far HCH7.out (Or.inl (by omega)))
    obtain ⟨b4, o4, c4, cl, hv4, hc4, hb4, hcl, hr4, hcell⟩ := HL7.out.sl.get 0 h0
    simp only [Value.slice.injEq] at hv4
    obtain ⟨hv4, _, rfl⟩ := hv4
    simp only [Option.some.injEq, Addr.mk.injEq, and_true] at hv4
    obtain ⟨rfl, rfl⟩ := hv4
    obtain ⟨u6, rfl, h6⟩ := hr4
    have g1 := hcell 1 (by omega)
    simp only [List.getElem?_cons_zero, List.getElem?_cons_succ, Nat.zero_mul, Nat.add_zero] at g1
    rw [HYE.out] at g1
    clear hcell h6 hc4 hcl hb4 HO6 HL6 HD6 HK6
    go_upto_region 7 with fail
    rw [HW7.out]
    clear HW7 e0 k1 kf1
    have k2 := cell_of_row _ _ 2 _ _ _ HK7.out
    have kf2 := frozen_of_row _ _ 2 _ _ HK7.out
    obtain ⟨W8, hW8⟩ : ∃ W, W7.setCell ⟨w4.heap.size, 2, none⟩ (.string y.prt) = W := ⟨_, rfl⟩
    have HW8 := Lib.hid hW8
    have HK8 : Hid (W8.heap[w4.heap.size]? = some (.cells #[.int .i64 dy, .string y.par, .string y.prt, .string inn, .int .i64 qy] 27)) := Lib.hid (by rw [← hW8]; exact heap_setCell_same _ _ 2 _ _ _ HK7.out)
    have HD8 := Lib.hid (HD7.out.set1 (g := w4.heap.size) (i := 2) (x := .string y.prt) hlt (by omega))
    have HCH8 : Hid (ChgIn w4.heap.size (w4.heap.size + 1) W7 (W7.setCell ⟨w4.heap.size, 2, none⟩ (.string y.prt))) := Lib.hid (ChgIn.set (Nat.le_refl _) (Nat.lt_succ_self _))
    rw [hW8] at HD8 HCH8
    clear hW8
    have hs8 := HCH8.out.size
    have HO8 := Lib.hid (ChgIn.row HO7.out HCH8.out (fun b hb => Or.inl (by have h1 := HOLT.out b hb; omega)))
    have HL8 := Lib.hid (HL7.out.far HCH8.out (Or.inl (by omega)))
    clear HO7 HL7 HD7 HK7
    go_upto_region 8 with fail
    rw [HW8.out]
    clear HW8 g1 k2 kf2
    have k0 := cell_of_row _ _ 0 _ _ _ HK8.out
    have k1 := cell_of_row _ _ 1 _ _ _ HK8.out
    have k2 := cell_of_row _ _ 2 _ _ _ HK8.out
    have k3 := cell_of_row _ _ 3 _ _ _ HK8.out
    have k4 := cell_of_row _ _ 4 _ _ _ HK8.out
    have HRF := Lib.hid ((HD8.out.blk HR1.out (by omega)))
    have r0 := cell_of_row _ _ 0 _ _ _ HRF.out
    have rf0 := frozen_of_row _ _ 0 _ _ HRF.out
    have r1 := cell_of_row _ _ 1 _ _ _ HRF.out
    have rf1 := frozen_of_row _ _ 1 _ _ HRF.out
    have r2 := cell_of_row _ _ 2 _ _ _ HRF.out
    have rf2 := frozen_of_row _ _ 2 _ _ HRF.out
    have r3 := cell_of_row _ _ 3 _ _ _ HRF.out
    have rf3 := frozen_of_row _ _ 3 _ _ HRF.out
    have r4 := cell_of_row _ _ 4 _ _ _ HRF.out
    have rf4 := frozen_of_row _ _ 4 _ _ HRF.out
    go_region
    all_goals
      go_wp2
      have HCH : ChgIn w.heap.size (w.heap.size + 1) W8 _ := (set5chg (.int .i64 dy) (.string y.par) (.string y.prt) (.string inn) (.int .i64 qy)).trans (ChgIn.of_below (Below.refl _ _).drew)
      exact bodyPost_ret (v := .tuple #[.slice p l.length q, .slice (some ⟨b3, o3, none⟩) ls.length q2, .agg #[.int .i64 dy, .string y.par, .string y.prt, .string inn, .int .i64 qy]]) (results_ssc rfl _ _ w.heap.size _ _ _ _ _ _ rfl rfl rfl (blk_set5r HRF.out) Try.underlying27 rfl (by kernel_rfl)) rfl ⟨p, q, l, some ⟨b3, o3, none⟩, q2, ls, ⟨dy, y.par, y.prt, inn, qy⟩, rfl, Lib.hid hl6, Lib.hid hl9, Lib.hid (sz_items HZ.out), Lib.hid (sz_lines HZ2.out hl9), Lib.hid (ch_sz ⟨HYS.out.1, HYS.out.2.1, HX.out.2.2⟩), Lib.hid (IT.is_of_row (ChgIn.row HO8.out HCH (fun b hb => by have := (HO8.out.lt b hb).1; omega))), Lib.hid ⟨_, _, (HL8.out.far HCH (Or.inr (by omega))).sl⟩, Lib.hid (ChgIn.below (HB1.out.trans ((HD8.out.below hs1).mono (by omega))) HCH (Nat.le_refl _))⟩

end Go.Proofs.Ytdhldokpojghdaa

namespace Go.Proofs.Ytdhldokpojghdaa
open Go.RowKit

theorem new_5c (W : World) (x0 x1 x2 x3 x4 : Value) (T : TypeId) : ∀ (j : Nat) (u : Value), [x0, x1, x2, x3, x4][j]? = some u → (W.alloc (.cells #[x0, x1, x2, x3, x4] T)).cell? ((⟨W.heap.size, 0, none⟩ : Addr).add j) = some u := by
  intro j u hu
  match j, hu with
  | 0, hu => simp at hu; subst hu; exact cell_of_row _ _ 0 _ _ _ (heap_alloc_new _ _)
  | 1, hu => simp at hu; subst hu; exact cell_of_row _ _ 1 _ _ _ (heap_alloc_new _ _)
  | 2, hu => simp at hu; subst hu; exact cell_of_row _ _ 2 _ _ _ (heap_alloc_new _ _)
  | 3, hu => simp at hu; subst hu; exact cell_of_row _ _ 3 _ _ _ (heap_alloc_new _ _)
  | 4, hu => simp at hu; subst hu; exact cell_of_row _ _ 4 _ _ _ (heap_alloc_new _ _)
theorem own_blkC {w : World} {base e K : Nat} {p : Option Addr} {n q : Nat} {xs : List Value} (h : w.ownsRow base e K (.slice p n q) n xs) (hp : ∃ g : Nat, p = some ⟨g, 0, none⟩) : ∃ g : Nat, p = some ⟨g, 0, none⟩ ∧ base ≤ g ∧ g < w.heap.size := by
  obtain ⟨g, rfl⟩ := hp
  have := h.lt g rfl
  exact ⟨g, rfl, this.1, this.2⟩

set_option maxRecDepth 100000 in
set_option maxHeartbeats 4000000 in
theorem draw_applyChanges (a : Option Addr) (n c : Nat) (w : World) (hn : n ≤ 1048576) (hcode : CodeAt w.heap.size w a n) :
    Calls Try.prog 21 #[.slice a n c] w (DrewACS w) := by
  obtain ⟨i0, hi0, hz0, hz1, hz2⟩ := info_parts CH.info
  have HC := Lib.hid hcode
  clear hcode
  go_enter Try.func21, Try.ntmps21
  go_wp2_with fail
  refine (l1_new a n c _ hn HC.out).mono ?_
  rintro e w1 ⟨b, rfl, hcur, hb⟩
  have HC1 := Lib.hid (HC.out.below hb)
  have HB1 := Lib.hid hb
  have HU := Lib.hid hcur
  have hs1 := hb.size
  have hlt := hcur.lt
  clear hb hcur HC
  go_wp2_with fail
  refine (l8_catalog w.heap.size b a n c w1 hn HC1.out HU.out hs1).mono ?_
  rintro e w2 ⟨p, q, l, rfl, ⟨hl6, hl0⟩, HZ, HO, HD⟩
  have HC2 := Lib.hid (HC1.out.below (HD.out.below hs1))
  have hs2 := HD.out.grown.size
  go_wp2_with fail
  refine (l9_bills w.heap.size b a n c w2 (.slice p l.length q) l w1.heap.size hn HC2.out HD.out.cur (by omega) HO.out hlt hl6 HZ.out).mono ?_
  rintro e w3 ⟨p2, q2, ls, rfl, hl9, HZ2, HL3, HD2⟩
  have HO3 := Lib.hid (own_hdC HO.out HD2.out.grown hlt)
  have HOLT : Hid (∀ b, (Value.slice p l.length q).ownBlock = some b → b < w3.heap.size) := Lib.hid (fun b hb => (HO3.out.lt b hb).2)
  have HD3 := Lib.hid (HD.out.trans HD2.out)
  have hs3 := HD2.out.grown.size
  have hb2 : b < w2.heap.size := by omega
  clear HO HD HD2 HC2
  have HQ0 : Hid ((w3.alloc (.cells #[] 27)).ownsRow w3.heap.size 27 5 (.slice (some ⟨w3.heap.size, 0, none⟩) 0 0) 0 (CH.cells [])) := Lib.hid (World.ownsRow_lit w3 #[] 0 (Nat.le_refl _) (Nat.zero_le _) rfl (e := 27) (size := 5))
  have HA0 : Hid (Below w3.heap.size w3 (w3.alloc (.cells #[] 27))) := Lib.hid ((Below.refl _ _).alloc (Nat.le_refl _) _)
  have hsa := HA0.out.size
  have HO4 := Lib.hid (own_keepL HO3.out HA0.out)
  have HL4 := Lib.hid (HL3.out.below HA0.out)
  have HD4 := Lib.hid (HD3.out.al hlt (.cells #[] 27))
  have HC4 := Lib.hid (HC1.out.below (HD4.out.below hs1))
  clear HO3 HL3 HD3 HA0
  go_upto_region 5 with fail
  generalize w3.alloc (.cells #[] 27) = w4 at *
  go_wp2_with fail
  refine (l1_below w.heap.size b a n c 4 w4 hn HC4.out HD4.out.cur (by omega) (by omega) (by omega)).mono ?_
  rintro e w5 ⟨mz, rfl, hm0, hm1, hd⟩
  obtain ⟨m, rfl⟩ := Int.eq_ofNat_of_zero_le hm0
  have hm4 : m < 4 := by omega
  have HO5 := Lib.hid (own_hdC HO4.out hd.grown hlt)
  have HL5 := Lib.hid (HL4.out.drawn hd.grown hb2)
  have HQ5 := Lib.hid (own_hdC HQ0.out hd.grown (by omega))
  have HD5 := Lib.hid (HD4.out.trans hd)
  clear hd HO4 HL4 HQ0 HD4 HC4 hm0 hm1
  go_wp2_with fail
  go_loopw [8, 9] (fun s i wr => ∃ (k : Nat) (cs : List CH) (g : Nat) (qc : Nat), k ≤ 3 ∧ i = .int .i64 k ∧ s = .slice (some ⟨g, 0, none⟩) cs.length qc ∧ Hid (cs.length + k ≤ 3) ∧ Hid (∀ r, r ∈ cs → CH.Sz r) ∧ Hid (wr.ownsRow w3.heap.size 27 5 (.slice (some ⟨g, 0, none⟩) cs.length qc) cs.length (CH.cells cs)) ∧ Hid (wr.ownsRow w1.heap.size 83 8 (.slice p l.length q) l.length (IT.cells l)) ∧ Hid (BX.Own w2.heap.size w3.heap.size wr (.slice p2 ls.length q2) ls) ∧ Hid (Drawn w.heap.size b a n c w1 wr)) (fun _ i _ => (intOf i).toNat)
  case atStart => exact ⟨m, [], _, _, by omega, rfl, rfl, Lib.hid (by simp; omega), Lib.hid (fun r hr => by cases hr), HQ5, HO5, HL5, HD5⟩
  case round =>
    clear HQ5 HO5 HL5 HD5
    obtain ⟨k, cs, g, qc, hk, rfl, rfl, HLN, HCZ, HQ, HO, HL, HD⟩ := hrel
    have hsr := HD.out.grown.size
    have hgl := HQ.out.lt g rfl
    by_cases hk0 : 0 < k
    rotate_left
    · have HIF := Lib.hid (IT.is_of_row HO.out)
      have HDF := Lib.hid (HB1.out.trans (HD.out.below hs1))
      have HQF := Lib.hid (own_lowerN HQ.out (show w.heap.size ≤ w3.heap.size by omega))
      have hc3 : cs.length ≤ 3 := by have := HLN.out; omega
      have hk1 : decide ((0 : Int) < (k : Int)) = false := decide_eq_false (by omega)
      go_wp2_with fail
      go_ret3
      exact ⟨p, q, l, p2, q2, ls, g, qc, cs, rfl, Lib.hid hl6, Lib.hid hl9, Lib.hid hc3, Lib.hid (sz_items HZ.out), Lib.hid (sz_lines HZ2.out hl9), HCZ, HIF, Lib.hid ⟨_, _, HL.out.sl⟩, HQF, HDF⟩
    have hk1 : decide ((0 : Int) < (k : Int)) = true := decide_eq_true (by omega)
    have HK0 := Lib.hid hk0
    have HC := Lib.hid (HC1.out.below (HD.out.below hs1))
    have hc2 : cs.length ≤ 2 := by have := HLN.out; omega
    go_wp2_with fail
    refine (l11_change w.heap.size b a n c wr hn HC.out HD.out.cur (by omega)).mono ?_
    rintro e w6 ⟨x, rfl, hx, hd⟩
    have HX := Lib.hid (ch_sz hx)
    have HQ6 := Lib.hid (own_hdC HQ.out hd.grown (by omega))
    have HO6 := Lib.hid (own_hdC HO.out hd.grown hlt)
    have HL6 := Lib.hid (HL.out.drawn hd.grown hb2)
    have HD6 := Lib.hid (HD.out.trans hd)
    have hs6 := hd.grown.size
    clear hd hx HQ HO HL HD HC
    obtain ⟨dy, pa, ou, inn, qy⟩ := x
    unfold CH.val
    go_wp2_with (at_builtin; refine wpList_append_own _ rfl _ _ 42 rfl w3.heap.size 27 i0 (.agg #[.int .i64 0, .string ByteArray.empty, .string ByteArray.empty, .string ByteArray.empty, .int .i64 0]) 5 64 Try.underlying42 hi0 hz0 hz1 hz2 rfl (by decide) _ cs.length (CH.cells cs) rfl (HQ6.out.alloc _) ⟨w6.heap.size, 0, none⟩ 1 1 [.int .i64 dy, .string pa, .string ou, .string inn, .int .i64 qy] rfl rfl (new_5c _ _ _ _ _ _ _) (by intro u hu; simp at hu; rcases hu with rfl | rfl | rfl | rfl | rfl <;> rfl) (by unfold maxLen; omega) (by omega) (by simp; omega) ?_)
    intro v4 w7 ho hg hnil
    have hsome : ∃ g2 : Nat, ∃ q4, v4 = .slice (some ⟨g2, 0, none⟩) (cs.length + 1) q4 := by
      rcases ho.2 with ⟨h1, _⟩ | ⟨g2, q4, cur, h1, _⟩
      · exact (hnil h1).elim
      · exact ⟨g2, q4, h1⟩
    obtain ⟨g2, q4, rfl⟩ := hsome
    have HCG := Lib.hid (ChgIn.of_grown (lo := w3.heap.size) (hi := w6.heap.size + 1) hg (fun j hj => by have := HQ6.out.lt j hj; omega))
    have HQ7 : Hid (w7.ownsRow w3.heap.size 27 5 (.slice (some ⟨g2, 0, none⟩) (cs.length + 1) q4) (cs.length + 1) (CH.cells (cs ++ [⟨dy, pa, ou, inn, qy⟩]))) := Lib.hid (by rw [← CH.cells_push]; exact ho)
    have HO7 := Lib.hid (ChgIn.row (HO6.out.alloc _) HCG.out (fun j hj => Or.inl (HOLT.out j hj)))
    have HL7 := Lib.hid ((HL6.out.below ((Below.refl _ _).alloc (Nat.le_refl _) _)).far HCG.out (Or.inl (Nat.le_refl _)))
    have HD7 := Lib.hid ((HD6.out.al hlt _).row hlt hg (fun j hj => by have := (HQ6.out.lt j hj).1; omega))
    have HCZ7 : Hid (∀ r, r ∈ cs ++ [⟨dy, pa, ou, inn, qy⟩] → CH.Sz r) := Lib.hid (fun r hr => by
      rcases List.mem_append.1 hr with h | h
      · exact HCZ.out r h
      · obtain rfl := List.mem_singleton.1 h; exact HX.out)
    clear ho hg hnil HCG HQ6 HO6 HL6 HD6
    obtain ⟨j, rfl⟩ : ∃ j, k = j + 1 := ⟨k - 1, by omega⟩
    go_wp2_with fail
    go_roundw
    case rel => exact ⟨j, cs ++ [⟨dy, pa, ou, inn, qy⟩], g2, q4, by omega, by go_num, by simp, Lib.hid (by have := HLN.out; simp; omega), HCZ7, by simpa using HQ7, HO7, HL7, HD7⟩
    case measure => simp [intOf]

set_option maxRecDepth 100000 in
set_option maxHeartbeats 4000000 in
theorem draw_tidy (a : Option Addr) (n c : Nat) (w : World) (hn : n ≤ 1048576) (hcode : CodeAt w.heap.size w a n) :
    Calls Try.prog 19 #[.slice a n c] w (DrewTL w) := by
  have HC := Lib.hid hcode
  clear hcode
  go_enter Try.func19, Try.ntmps19
  go_wp2_with fail
  refine (draw_applyChange a n c _ hn HC.out).mono ?_
  rintro e w1 ⟨p, q, l, p2, q2, ls, x, rfl, HL6, HL9, HZ, HZ2, HX, HI, HB2, HB⟩
  obtain ⟨dy, pa, ou, inn, qy⟩ := x
  obtain ⟨lo, hi, hbx⟩ := HB2.out
  have HBX := Lib.hid hbx
  clear hbx HB2
  unfold CH.val
  obtain ⟨W2, hW2⟩ : ∃ W, w1.alloc (.cells #[.int .i64 dy, .string pa, .string ou, .string inn, .int .i64 qy] 27) = W := ⟨_, rfl⟩
  have HW2 := Lib.hid hW2
  have HK2 : Hid (W2.heap[w1.heap.size]? = some (.cells #[.int .i64 dy, .string pa, .string ou, .string inn, .int .i64 qy] 27)) := Lib.hid (by rw [← hW2]; exact heap_alloc_new _ _)
  have HA2 : Hid (Below w1.heap.size w1 W2) := Lib.hid (by rw [← hW2]; exact (Below.refl _ _).alloc (Nat.le_refl _) _)
  clear hW2
  go_upto_region 2 with fail
  rw [HW2.out]
  clear HW2
  have k2 := cell_of_row _ _ 2 _ _ _ HK2.out
  have k3 := cell_of_row _ _ 3 _ _ _ HK2.out
  have kf3 := frozen_of_row _ _ 3 _ _ HK2.out
  obtain ⟨W3, hW3⟩ : ∃ W, W2.setCell ⟨w1.heap.size, 3, none⟩ (.string ou) = W := ⟨_, rfl⟩
  have HW3 := Lib.hid hW3
  have HK3 : Hid (W3.heap[w1.heap.size]? = some (.cells #[.int .i64 dy, .string pa, .string ou, .string ou, .int .i64 qy] 27)) := Lib.hid (by rw [← hW3]; exact heap_setCell_same _ _ 3 _ _ _ HK2.out)
  have HA3 := Lib.hid (HA2.out.setCell (p := ⟨w1.heap.size, 3, none⟩) (Nat.le_refl _) (.string ou))
  rw [hW3] at HA3
  clear hW3
  go_upto_region 3 with fail
  rw [HW3.out]
  clear HW3 k2 k3 kf3
  have k4 := cell_of_row _ _ 4 _ _ _ HK3.out
  have kf4 := frozen_of_row _ _ 4 _ _ HK3.out
  obtain ⟨W4, hW4⟩ : ∃ W, W3.setCell ⟨w1.heap.size, 4, none⟩ (.int .i64 0) = W := ⟨_, rfl⟩
  have HW4 := Lib.hid hW4
  have HK4 : Hid (W4.heap[w1.heap.size]? = some (.cells #[.int .i64 dy, .string pa, .string ou, .string ou, .int .i64 0] 27)) := Lib.hid (by rw [← hW4]; exact heap_setCell_same _ _ 4 _ _ _ HK3.out)
  have HA4 := Lib.hid (HA3.out.setCell (p := ⟨w1.heap.size, 4, none⟩) (Nat.le_refl _) (.int .i64 0))
  rw [hW4] at HA4
  clear hW4
  go_upto_region 4 with fail
  rw [HW4.out]
  clear HW4 k4 kf4
  have k0 := cell_of_row _ _ 0 _ _ _ HK4.out
  have k1 := cell_of_row _ _ 1 _ _ _ HK4.out
  have k2 := cell_of_row _ _ 2 _ _ _ HK4.out
  have k3 := cell_of_row _ _ 3 _ _ _ HK4.out
  have k4 := cell_of_row _ _ 4 _ _ _ HK4.out
  have HB4 := Lib.hid (HB.out.trans (HA4.out.mono HB.out.size))
  have HI4 := Lib.hid (HI.out.below HA4.out)
  have HBX4 := Lib.hid (HBX.out.below BLN.kept HA4.out)
  have hl9 := HL9.out
  have HSX : Hid (CH.Sz ⟨dy, pa, ou, ou, 0⟩) := Lib.hid ⟨HX.out.1, HX.out.2.1, HX.out.2.1⟩
  have HAP := Lib.hid (spec_applyChange _ _ l ls ⟨dy, pa, ou, ou, 0⟩ lo hi W4 HI4.out HBX4.out (by have := HL6.out; unfold maxLen; omega) HZ.out HZ2.out HSX.out)
  unfold CH.val at HAP
  go_wp2_with fail
  refine HAP.out.mono ?_
  rintro e w5 ⟨v5, rfl, HO5, HB5⟩
  have HBF := Lib.hid (HB4.out.trans (HB5.out.mono HB4.out.size))
  have HIF := Lib.hid (HI4.out.below HB5.out)
  have HBXF := Lib.hid (HBX4.out.below BLN.kept HB5.out)
  clear HAP k0 k1 k2 k3 k4
  cases hap : apO l ls ⟨dy, pa, ou, ou, 0⟩ with
  | none =>
    clear HO5
    go_wp2_with fail
    go_ret2
    exact ⟨p, q, l, p2, q2, ls, rfl, HL6, Lib.hid (by omega), HZ, HZ2, HIF, Lib.hid ⟨_, _, HBXF.out⟩, HBF⟩
  | some us =>
    rw [hap] at HO5
    obtain ⟨h1, h2⟩ := apO_some hap
    obtain ⟨p4, q4, rfl⟩ := HO5.out.slice
    have HL24 : Hid (us.length ≤ 24) := Lib.hid (by rw [h2]; exact h1.2.2.1.2.1)
    have HSU : Hid (BX.Sz us) := Lib.hid (by rw [h2]; exact chgL_sz HSX.out HZ2.out (by unfold maxLen; omega))
    clear h1 h2
    go_wp2_with fail
    go_ret2
    exact ⟨p, q, l, p4, q4, us, rfl, HL6, HL24, HZ, HSU, HIF, Lib.hid ⟨_, _, HO5.out.sl⟩, HBF⟩

end Go.Proofs.Ytdhldokpojghdaa
