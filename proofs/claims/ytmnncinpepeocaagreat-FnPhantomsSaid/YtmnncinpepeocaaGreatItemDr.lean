/-
 The draws of the laws on items: l8Item, l8Bad.
-/
import Derived.Test.YtmnncinpepeocaaGreatBuDr
import Derived.Test.YtmnncinpepeocaaGreatBuRec
import Derived.Test.YtmnncinpepeocaaGreatBuA
import Derived.WalkKit
import Derived.WalkSpells
import Derived.WalkSmall
import Derived.BigQuiet
import Derived.Deep.QuietTactic
import Derived.Deep.DeepCutAuto
import Derived.Deep.RegionHeld3
import Derived.Lib.Hide
namespace Go.Proofs.YtmnncinpepeocaaGreat
open Go.RowKit

/-- An item drawn. -/
def DrewI (B b : Nat) (a : Option Addr) (n c : Nat) (w : World) (e : Ending) (w' : World) : Prop := ∃ x : IT, e = .returned (IT.val x) ∧ x.code.size ≤ 1000 ∧ x.unt.size ≤ 1000 ∧ Drawn B b a n c w w'

set_option maxRecDepth 100000 in
set_option maxHeartbeats 1000000 in
theorem l8_item (B b : Nat) (a : Option Addr) (n c : Nat) (code : ByteArray) (w : World) (hn : n ≤ 1048576) (hcode : CodeAt B w a n) (hcur : CurAt B w b a n c) (hBw : B ≤ w.heap.size) (hz : code.size ≤ 1000) :
 Calls Tryz.prog 103 #[.pointer (some ⟨b, 0, none⟩), .string code] w (DrewI B b a n c w) := by
 have hlt := hcur.lt
 have hBb := hcur.1
 have HC0 := Lib.hid hcode
 have HD_0 : Hid (Drawn B b a n c w w) := Lib.hid ⟨hcur, rfl, rfl, rfl, Nat.le_refl _, fun _ _ _ => rfl⟩
 have hs_0 : w.heap.size ≤ w.heap.size := Nat.le_refl _
 clear hcode hcur
 go_enter Tryz.func103, Tryz.ntmps103
 go_wp2_with fail
 have hal_R : (w.alloc (.cells #[.string { data := #[] }, .string { data := #[] }, .int .i64 0, .int .i64 0, .int .i64 0, .int .i64 0, .int .i64 0, .int .i64 0] 33)).heap.size = w.heap.size + 1 := by simp
 have HD_1 : Hid (Drawn B b a n c w (w.alloc (.cells #[.string { data := #[] }, .string { data := #[] }, .int .i64 0, .int .i64 0, .int .i64 0, .int .i64 0, .int .i64 0, .int .i64 0] 33))) := Lib.hid (HD_0.out.al hlt _)
 have HR_1 : ((w.alloc (.cells #[.string { data := #[] }, .string { data := #[] }, .int .i64 0, .int .i64 0, .int .i64 0, .int .i64 0, .int .i64 0, .int .i64 0] 33))).heap[w.heap.size]? = some (.cells #[.string { data := #[] }, .string { data := #[] }, .int .i64 0, .int .i64 0, .int .i64 0, .int .i64 0, .int .i64 0, .int .i64 0] 33 (0, 0)) := heap_alloc_new _ _
 have hs_1 := HD_1.out.grown.size
 generalize hw_1 : (w.alloc (.cells #[.string { data := #[] }, .string { data := #[] }, .int .i64 0, .int .i64 0, .int .i64 0, .int .i64 0, .int .i64 0, .int .i64 0] 33)) = w_1 at *
 clear hw_1
 have hi_2 := ints_new w_1 3 [0, 1, 1, 2] (by intro z hz; simp only [List.mem_cons, List.mem_nil_iff, or_false] at hz; omega)
 have hz_2 : IntsAt (w_1.alloc (.cells #[.int .i64 0, .int .i64 1, .int .i64 1, .int .i64 2] 3)) (w.heap.size + 1) 4 := (by rw [← hal_R]; exact hi_2)
 clear hi_2
 have hg_2 : w.heap.size + 1 ≠ b := by omega
 have HD_3 : Hid (Drawn B b a n c w (w_1.alloc (.cells #[.int .i64 0, .int .i64 1, .int .i64 1, .int .i64 2] 3))) := Lib.hid (HD_1.out.al hlt _)
 have HR_3 : ((w_1.alloc (.cells #[.int .i64 0, .int .i64 1, .int .i64 1, .int .i64 2] 3))).heap[w.heap.size]? = some (.cells #[.string { data := #[] }, .string { data := #[] }, .int .i64 0, .int .i64 0, .int .i64 0, .int .i64 0, .int .i64 0, .int .i64 0] 33 (0, 0)) := blk_alloc HR_1 _
 have hs_3 := HD_3.out.grown.size
 refine (l1_pickInt B b (w.heap.size + 1) 4 a n c _ hn (HC0.out.below (HD_3.out.below hBw)) HD_3.out.cur (by omega) (by omega) (by omega) hg_2 hz_2).mono ?_
 rintro e w_4 ⟨k, rfl, hk0, hk1, hd⟩
 have HD_4 := Lib.hid (HD_3.out.trans hd)
 have HR_4 := Drawn.blk hd HR_3 (by omega)
 have hs_4 := HD_4.out.grown.size
 have hp_4 : w_1.heap.size ≤ w_4.heap.size := by have h := hd.grown.size; first | exact h | (simp at h; omega)
 clear hd HR_3 HD_3
 clear hz_2 hg_2
 go_wp2_with fail
 refine (l1_below B b a n c 4 _ hn (HC0.out.below (HD_4.out.below hBw)) HD_4.out.cur (by omega) (by omega) (by omega)).mono ?_
 rintro e w_5 ⟨ld, rfl, hld0, hld1, hd⟩
 have HD_5 := Lib.hid (HD_4.out.trans hd)
 have HR_5 := Drawn.blk hd HR_4 (by omega)
 have hs_5 := HD_5.out.grown.size
 have hp_5 : w_4.heap.size ≤ w_5.heap.size := by have h := hd.grown.size; first | exact h | (simp at h; omega)
 clear hd HR_4 HD_4
 go_wp2_with fail
 have hi_6 := ints_new w_5 3 [0, 0, 0, 5] (by intro z hz; simp only [List.mem_cons, List.mem_nil_iff, or_false] at hz; omega)
 have hz_6 : IntsAt (w_5.alloc (.cells #[.int .i64 0, .int .i64 0, .int .i64 0, .int .i64 5] 3)) (w_5.heap.size) 4 := hi_6
 clear hi_6
 have hg_6 : w_5.heap.size ≠ b := by omega
 have HD_7 : Hid (Drawn B b a n c w (w_5.alloc (.cells #[.int .i64 0, .int .i64 0, .int .i64 0, .int .i64 5] 3))) := Lib.hid (HD_5.out.al hlt _)
 have HR_7 : ((w_5.alloc (.cells #[.int .i64 0, .int .i64 0, .int .i64 0, .int .i64 5] 3))).heap[w.heap.size]? = some (.cells #[.string { data := #[] }, .string { data := #[] }, .int .i64 0, .int .i64 0, .int .i64 0, .int .i64 0, .int .i64 0, .int .i64 0] 33 (0, 0)) := blk_alloc HR_5 _
 have hs_7 := HD_7.out.grown.size
 refine (l1_pickInt B b (w_5.heap.size) 4 a n c _ hn (HC0.out.below (HD_7.out.below hBw)) HD_7.out.cur (by omega) (by omega) (by omega) hg_6 hz_6).mono ?_
 rintro e w_8 ⟨sf, rfl, hsf0, hsf1, hd⟩
 have HD_8 := Lib.hid (HD_7.out.trans hd)
 have HR_8 := Drawn.blk hd HR_7 (by omega)
 have hs_8 := HD_8.out.grown.size
 have hp_8 : w_5.heap.size ≤ w_8.heap.size := by have h := hd.grown.size; first | exact h | (simp at h; omega)
 clear hd HR_7 HD_7
 clear hz_6 hg_6
 go_wp2_with fail
 have hi_9 := ints_new w_8 3 [0, 0, 0, 10, 50] (by intro z hz; simp only [List.mem_cons, List.mem_nil_iff, or_false] at hz; omega)
 have hz_9 : IntsAt (w_8.alloc (.cells #[.int .i64 0, .int .i64 0, .int .i64 0, .int .i64 10, .int .i64 50] 3)) (w_8.heap.size) 5 := hi_9
 clear hi_9
 have hg_9 : w_8.heap.size ≠ b := by omega
 have HD_10 : Hid (Drawn B b a n c w (w_8.alloc (.cells #[.int .i64 0, .int .i64 0, .int .i64 0, .int .i64 10, .int .i64 50] 3))) := Lib.hid (HD_8.out.al hlt _)
 have HR_10 : ((w_8.alloc (.cells #[.int .i64 0, .int .i64 0, .int .i64 0, .int .i64 10, .int .i64 50] 3))).heap[w.heap.size]? = some (.cells #[.string { data := #[] }, .string { data := #[] }, .int .i64 0, .int .i64 0, .int .i64 0, .int .i64 0, .int .i64 0, .int .i64 0] 33 (0, 0)) := blk_alloc HR_8 _
 have hs_10 := HD_10.out.grown.size
 refine (l1_pickInt B b (w_8.heap.size) 5 a n c _ hn (HC0.out.below (HD_10.out.below hBw)) HD_10.out.cur (by omega) (by omega) (by omega) hg_9 hz_9).mono ?_
 rintro e w_11 ⟨sc, rfl, hsc0, hsc1, hd⟩
 have HD_11 := Lib.hid (HD_10.out.trans hd)
 have HR_11 := Drawn.blk hd HR_10 (by omega)
 have hs_11 := HD_11.out.grown.size
 have hp_11 : w_8.heap.size ≤ w_11.heap.size := by have h := hd.grown.size; first | exact h | (simp at h; omega)
 clear hd HR_10 HD_10
 clear hz_9 hg_9
 go_wp2_with fail
 have hal_X : (w_11.alloc (.cells #[.string code, .string { data := #[80, 67] }, .int .i64 k, .int .i64 ld, .int .i64 0, .int .i64 0, .int .i64 sf, .int .i64 sc] 33)).heap.size = w_11.heap.size + 1 := by simp
 have HD_12 : Hid (Drawn B b a n c w (w_11.alloc (.cells #[.string code, .string { data := #[80, 67] }, .int .i64 k, .int .i64 ld, .int .i64 0, .int .i64 0, .int .i64 sf, .int .i64 sc] 33))) := Lib.hid (HD_11.out.al hlt _)
 have HR_12 : ((w_11.alloc (.cells #[.string code, .string { data := #[80, 67] }, .int .i64 k, .int .i64 ld, .int .i64 0, .int .i64 0, .int .i64 sf, .int .i64 sc] 33))).heap[w.heap.size]? = some (.cells #[.string { data := #[] }, .string { data := #[] }, .int .i64 0, .int .i64 0, .int .i64 0, .int .i64 0, .int .i64 0, .int .i64 0] 33 (0, 0)) := blk_alloc HR_11 _
 have HX_12 : ((w_11.alloc (.cells #[.string code, .string { data := #[80, 67] }, .int .i64 k, .int .i64 ld, .int .i64 0, .int .i64 0, .int .i64 sf, .int .i64 sc] 33))).heap[w_11.heap.size]? = some (.cells #[.string code, .string { data := #[80, 67] }, .int .i64 k, .int .i64 ld, .int .i64 0, .int .i64 0, .int .i64 sf, .int .i64 sc] 33 (0, 0)) := heap_alloc_new _ _
 have hs_12 := HD_12.out.grown.size
 generalize hw_12 : (w_11.alloc (.cells #[.string code, .string { data := #[80, 67] }, .int .i64 k, .int .i64 ld, .int .i64 0, .int .i64 0, .int .i64 sf, .int .i64 sc] 33)) = w_12 at *
 clear hw_12
 refine (l1_once B b a n c 3 _ hn (HC0.out.below (HD_12.out.below hBw)) HD_12.out.cur (by omega) (by omega) (by omega)).mono ?_
 rintro e w_13 ⟨y, rfl, hd⟩
 have HD_13 := Lib.hid (HD_12.out.trans hd)
 have HR_13 := Drawn.blk hd HR_12 (by omega)
 have HX_13 := Drawn.blk hd HX_12 (by omega)
 have hs_13 := HD_13.out.grown.size
 have hp_13 : w_12.heap.size ≤ w_13.heap.size := by have h := hd.grown.size; first | exact h | (simp at h; omega)
 clear hd HR_12 HX_12 HD_12
 cases y with
 | false =>
  by_cases hk2 : k = 2
  · have b0 : (k == 2) = true := beq_iff_eq.2 hk2
    clear hk2
    have qX0 := cell_of_row _ _ 0 _ _ _ HX_13
    have fX0 := frozen_of_row _ _ 0 _ _ HX_13
    have qX1 := cell_of_row _ _ 1 _ _ _ HX_13
    have fX1 := frozen_of_row _ _ 1 _ _ HX_13
    have qX2 := cell_of_row _ _ 2 _ _ _ HX_13
    have fX2 := frozen_of_row _ _ 2 _ _ HX_13
    have qX3 := cell_of_row _ _ 3 _ _ _ HX_13
    have fX3 := frozen_of_row _ _ 3 _ _ HX_13
    have qX4 := cell_of_row _ _ 4 _ _ _ HX_13
    have fX4 := frozen_of_row _ _ 4 _ _ HX_13
    have qX5 := cell_of_row _ _ 5 _ _ _ HX_13
    have fX5 := frozen_of_row _ _ 5 _ _ HX_13
    have qX6 := cell_of_row _ _ 6 _ _ _ HX_13
    have fX6 := frozen_of_row _ _ 6 _ _ HX_13
    have qX7 := cell_of_row _ _ 7 _ _ _ HX_13
    have fX7 := frozen_of_row _ _ 7 _ _ HX_13
    go_upto_region 7 with fail
    have HD_14 := Lib.hid (HD_13.out.set8r (y0 := (.string code)) (y1 := (.string { data := #[80, 67] })) (y2 := (.int .i64 2)) (y3 := (.int .i64 0)) (y4 := (.int .i64 0)) (y5 := (.int .i64 0)) (y6 := (.int .i64 0)) (y7 := (.int .i64 0)) hlt (show w.heap.size ≤ w_11.heap.size by omega))
    have HX_14 : ((((((((w_13.setCell ⟨w_11.heap.size, 0, none⟩ (.string code)).setCell ⟨w_11.heap.size, 1, none⟩ (.string { data := #[80, 67] })).setCell ⟨w_11.heap.size, 2, none⟩ (.int .i64 2)).setCell ⟨w_11.heap.size, 3, none⟩ (.int .i64 0)).setCell ⟨w_11.heap.size, 4, none⟩ (.int .i64 0)).setCell ⟨w_11.heap.size, 5, none⟩ (.int .i64 0)).setCell ⟨w_11.heap.size, 6, none⟩ (.int .i64 0)).setCell ⟨w_11.heap.size, 7, none⟩ (.int .i64 0)).heap[w_11.heap.size]? = some (.cells #[.string code, .string { data := #[80, 67] }, .int .i64 2, .int .i64 0, .int .i64 0, .int .i64 0, .int .i64 0, .int .i64 0] 33 (0, 0)) := blk_set8r HX_13
    have HR_14 : ((((((((w_13.setCell ⟨w_11.heap.size, 0, none⟩ (.string code)).setCell ⟨w_11.heap.size, 1, none⟩ (.string { data := #[80, 67] })).setCell ⟨w_11.heap.size, 2, none⟩ (.int .i64 2)).setCell ⟨w_11.heap.size, 3, none⟩ (.int .i64 0)).setCell ⟨w_11.heap.size, 4, none⟩ (.int .i64 0)).setCell ⟨w_11.heap.size, 5, none⟩ (.int .i64 0)).setCell ⟨w_11.heap.size, 6, none⟩ (.int .i64 0)).setCell ⟨w_11.heap.size, 7, none⟩ (.int .i64 0)).heap[w.heap.size]? = some (.cells #[.string { data := #[] }, .string { data := #[] }, .int .i64 0, .int .i64 0, .int .i64 0, .int .i64 0, .int .i64 0, .int .i64 0] 33 (0, 0)) := blk_oth8r HR_13 (by omega)
    have hs_14 := HD_14.out.grown.size
    clear qX0 fX0 qX1 fX1 qX2 fX2 qX3 fX3 qX4 fX4 qX5 fX5 qX6 fX6 qX7 fX7
    generalize hw_14 : ((((((((w_13.setCell ⟨w_11.heap.size, 0, none⟩ (.string code)).setCell ⟨w_11.heap.size, 1, none⟩ (.string { data := #[80, 67] })).setCell ⟨w_11.heap.size, 2, none⟩ (.int .i64 2)).setCell ⟨w_11.heap.size, 3, none⟩ (.int .i64 0)).setCell ⟨w_11.heap.size, 4, none⟩ (.int .i64 0)).setCell ⟨w_11.heap.size, 5, none⟩ (.int .i64 0)).setCell ⟨w_11.heap.size, 6, none⟩ (.int .i64 0)).setCell ⟨w_11.heap.size, 7, none⟩ (.int .i64 0)) = w_14 at *
    clear hw_14
    have qX0 := cell_of_row _ _ 0 _ _ _ HX_14
    have qX1 := cell_of_row _ _ 1 _ _ _ HX_14
    have qX2 := cell_of_row _ _ 2 _ _ _ HX_14
    have qX3 := cell_of_row _ _ 3 _ _ _ HX_14
    have qX4 := cell_of_row _ _ 4 _ _ _ HX_14
    have qX5 := cell_of_row _ _ 5 _ _ _ HX_14
    have qX6 := cell_of_row _ _ 6 _ _ _ HX_14
    have qX7 := cell_of_row _ _ 7 _ _ _ HX_14
    have qR0 := cell_of_row _ _ 0 _ _ _ HR_14
    have fR0 := frozen_of_row _ _ 0 _ _ HR_14
    have qR1 := cell_of_row _ _ 1 _ _ _ HR_14
    have fR1 := frozen_of_row _ _ 1 _ _ HR_14
    have qR2 := cell_of_row _ _ 2 _ _ _ HR_14
    have fR2 := frozen_of_row _ _ 2 _ _ HR_14
    have qR3 := cell_of_row _ _ 3 _ _ _ HR_14
    have fR3 := frozen_of_row _ _ 3 _ _ HR_14
    have qR4 := cell_of_row _ _ 4 _ _ _ HR_14
    have fR4 := frozen_of_row _ _ 4 _ _ HR_14
    have qR5 := cell_of_row _ _ 5 _ _ _ HR_14
    have fR5 := frozen_of_row _ _ 5 _ _ HR_14
    have qR6 := cell_of_row _ _ 6 _ _ _ HR_14
    have fR6 := frozen_of_row _ _ 6 _ _ HR_14
    have qR7 := cell_of_row _ _ 7 _ _ _ HR_14
    have fR7 := frozen_of_row _ _ 7 _ _ HR_14
    go_wp2_with fail
    exact bodyPost_ret (v := .agg #[.string code, .string { data := #[80, 67] }, .int .i64 2, .int .i64 0, .int .i64 0, .int .i64 0, .int .i64 0, .int .i64 0]) (results_cell_row Tryz.results103 _ _ _ _ _ _ _ rfl (blk_set8r HR_14) Tryz.underlying33 rfl (by kernel_rfl)) rfl ⟨⟨code, { data := #[80, 67] }, 2, 0, 0, 0, 0, 0⟩, rfl, hz, Nat.le_of_ble_eq_true rfl, HD_14.out.set8r hlt (by omega)⟩
  · have b0 : (k == 2) = false := beq_eq_false_iff_ne.2 hk2
    clear hk2
    have qX0 := cell_of_row _ _ 0 _ _ _ HX_13
    have qX1 := cell_of_row _ _ 1 _ _ _ HX_13
    have qX2 := cell_of_row _ _ 2 _ _ _ HX_13
    have qX3 := cell_of_row _ _ 3 _ _ _ HX_13
    have qX4 := cell_of_row _ _ 4 _ _ _ HX_13
    have qX5 := cell_of_row _ _ 5 _ _ _ HX_13
    have qX6 := cell_of_row _ _ 6 _ _ _ HX_13
    have qX7 := cell_of_row _ _ 7 _ _ _ HX_13
    have qR0 := cell_of_row _ _ 0 _ _ _ HR_13
    have fR0 := frozen_of_row _ _ 0 _ _ HR_13
    have qR1 := cell_of_row _ _ 1 _ _ _ HR_13
    have fR1 := frozen_of_row _ _ 1 _ _ HR_13
    have qR2 := cell_of_row _ _ 2 _ _ _ HR_13
    have fR2 := frozen_of_row _ _ 2 _ _ HR_13
    have qR3 := cell_of_row _ _ 3 _ _ _ HR_13
    have fR3 := frozen_of_row _ _ 3 _ _ HR_13
    have qR4 := cell_of_row _ _ 4 _ _ _ HR_13
    have fR4 := frozen_of_row _ _ 4 _ _ HR_13
    have qR5 := cell_of_row _ _ 5 _ _ _ HR_13
    have fR5 := frozen_of_row _ _ 5 _ _ HR_13
    have qR6 := cell_of_row _ _ 6 _ _ _ HR_13
    have fR6 := frozen_of_row _ _ 6 _ _ HR_13
    have qR7 := cell_of_row _ _ 7 _ _ _ HR_13
    have fR7 := frozen_of_row _ _ 7 _ _ HR_13
    go_wp2_with fail
    exact bodyPost_ret (v := .agg #[.string code, .string { data := #[80, 67] }, .int .i64 k, .int .i64 ld, .int .i64 0, .int .i64 0, .int .i64 sf, .int .i64 sc]) (results_cell_row Tryz.results103 _ _ _ _ _ _ _ rfl (blk_set8r HR_13) Tryz.underlying33 rfl (by kernel_rfl)) rfl ⟨⟨code, { data := #[80, 67] }, k, ld, 0, 0, sf, sc⟩, rfl, hz, Nat.le_of_ble_eq_true rfl, HD_13.out.set8r hlt (by omega)⟩
 | true =>
  have qX2 := cell_of_row _ _ 2 _ _ _ HX_13
  clear qX2
  go_wp2_with fail
  refine (l1_below B b a n c 2 _ hn (HC0.out.below (HD_13.out.below hBw)) HD_13.out.cur (by omega) (by omega) (by omega)).mono ?_
  rintro e w_15 ⟨ru, rfl, hru0, hru1, hd⟩
  have HD_15 := Lib.hid (HD_13.out.trans hd)
  have HR_15 := Drawn.blk hd HR_13 (by omega)
  have HX_15 := Drawn.blk hd HX_13 (by omega)
  have hs_15 := HD_15.out.grown.size
  have hp_15 : w_13.heap.size ≤ w_15.heap.size := by have h := hd.grown.size; first | exact h | (simp at h; omega)
  clear hd HR_13 HX_13 HD_13
  have qX2 := cell_of_row _ _ 2 _ _ _ HX_15
  have fX2 := frozen_of_row _ _ 2 _ _ HX_15
  have qX4 := cell_of_row _ _ 4 _ _ _ HX_15
  have fX4 := frozen_of_row _ _ 4 _ _ HX_15
  go_upto_region 4 with fail
  clear qX2 fX2 qX4 fX4
  have HD_16 : Hid (Drawn B b a n c w (w_15.setCell ⟨w_11.heap.size, 4, none⟩ (.int .i64 (1 + ru)))) := Lib.hid (HD_15.out.set1 hlt (by omega))
  have HR_16 : ((w_15.setCell ⟨w_11.heap.size, 4, none⟩ (.int .i64 (1 + ru)))).heap[w.heap.size]? = some (.cells #[.string { data := #[] }, .string { data := #[] }, .int .i64 0, .int .i64 0, .int .i64 0, .int .i64 0, .int .i64 0, .int .i64 0] 33 (0, 0)) := (heap_setCell_other _ _ _ _ (by simp only []; omega)).trans HR_15
  have HX_16 : ((w_15.setCell ⟨w_11.heap.size, 4, none⟩ (.int .i64 (1 + ru)))).heap[w_11.heap.size]? = some (.cells #[.string code, .string { data := #[80, 67] }, .int .i64 k, .int .i64 ld, .int .i64 (1 + ru), .int .i64 0, .int .i64 sf, .int .i64 sc] 33 (0, 0)) := heap_setCell_same _ _ _ _ _ _ HX_15
  have hs_16 := HD_16.out.grown.size
  have hq_16 : (w_15.setCell ⟨w_11.heap.size, 4, none⟩ (.int .i64 (1 + ru))).heap.size = w_15.heap.size := by simp
  generalize hw_16 : (w_15.setCell ⟨w_11.heap.size, 4, none⟩ (.int .i64 (1 + ru))) = w_16 at *
  clear hw_16
  go_wp2_with fail
  refine (l1_below B b a n c 12 _ hn (HC0.out.below (HD_16.out.below hBw)) HD_16.out.cur (by omega) (by omega) (by omega)).mono ?_
  rintro e w_17 ⟨si, rfl, hsi0, hsi1, hd⟩
  have HD_17 := Lib.hid (HD_16.out.trans hd)
  have HR_17 := Drawn.blk hd HR_16 (by omega)
  have HX_17 := Drawn.blk hd HX_16 (by omega)
  have hs_17 := HD_17.out.grown.size
  have hp_17 : w_16.heap.size ≤ w_17.heap.size := by have h := hd.grown.size; first | exact h | (simp at h; omega)
  clear hd HR_16 HX_16 HD_16
  have qX2 := cell_of_row _ _ 2 _ _ _ HX_17
  have fX2 := frozen_of_row _ _ 2 _ _ HX_17
  have qX5 := cell_of_row _ _ 5 _ _ _ HX_17
  have fX5 := frozen_of_row _ _ 5 _ _ HX_17
  go_upto_region 5 with fail
  clear qX2 fX2 qX5 fX5
  have HD_18 : Hid (Drawn B b a n c w (w_17.setCell ⟨w_11.heap.size, 5, none⟩ (.int .i64 (1 + si)))) := Lib.hid (HD_17.out.set1 hlt (by omega))
  have HR_18 : ((w_17.setCell ⟨w_11.heap.size, 5, none⟩ (.int .i64 (1 + si)))).heap[w.heap.size]? = some (.cells #[.string { data := #[] }, .string { data := #[] }, .int .i64 0, .int .i64 0, .int .i64 0, .int .i64 0, .int .i64 0, .int .i64 0] 33 (0, 0)) := (heap_setCell_other _ _ _ _ (by simp only []; omega)).trans HR_17
  have HX_18 : ((w_17.setCell ⟨w_11.heap.size, 5, none⟩ (.int .i64 (1 + si)))).heap[w_11.heap.size]? = some (.cells #[.string code, .string { data := #[80, 67] }, .int .i64 k, .int .i64 ld, .int .i64 (1 + ru), .int .i64 (1 + si), .int .i64 sf, .int .i64 sc] 33 (0, 0)) := heap_setCell_same _ _ _ _ _ _ HX_17
  have hs_18 := HD_18.out.grown.size
  have hq_18 : (w_17.setCell ⟨w_11.heap.size, 5, none⟩ (.int .i64 (1 + si))).heap.size = w_17.heap.size := by simp
  generalize hw_18 : (w_17.setCell ⟨w_11.heap.size, 5, none⟩ (.int .i64 (1 + si))) = w_18 at *
  clear hw_18
  have qX2 := cell_of_row _ _ 2 _ _ _ HX_18
  by_cases hk2 : k = 2
  · have b0 : (k == 2) = true := beq_iff_eq.2 hk2
    clear hk2
    have qX0 := cell_of_row _ _ 0 _ _ _ HX_18
    have fX0 := frozen_of_row _ _ 0 _ _ HX_18
    have qX1 := cell_of_row _ _ 1 _ _ _ HX_18
    have fX1 := frozen_of_row _ _ 1 _ _ HX_18
    have qX2 := cell_of_row _ _ 2 _ _ _ HX_18
    have fX2 := frozen_of_row _ _ 2 _ _ HX_18
    have qX3 := cell_of_row _ _ 3 _ _ _ HX_18
    have fX3 := frozen_of_row _ _ 3 _ _ HX_18
    have qX4 := cell_of_row _ _ 4 _ _ _ HX_18
    have fX4 := frozen_of_row _ _ 4 _ _ HX_18
    have qX5 := cell_of_row _ _ 5 _ _ _ HX_18
    have fX5 := frozen_of_row _ _ 5 _ _ HX_18
    have qX6 := cell_of_row _ _ 6 _ _ _ HX_18
    have fX6 := frozen_of_row _ _ 6 _ _ HX_18
    have qX7 := cell_of_row _ _ 7 _ _ _ HX_18
    have fX7 := frozen_of_row _ _ 7 _ _ HX_18
    go_upto_region 7 with fail
    have HD_19 := Lib.hid (HD_18.out.set8r (y0 := (.string code)) (y1 := (.string { data := #[80, 67] })) (y2 := (.int .i64 2)) (y3 := (.int .i64 0)) (y4 := (.int .i64 0)) (y5 := (.int .i64 0)) (y6 := (.int .i64 0)) (y7 := (.int .i64 0)) hlt (show w.heap.size ≤ w_11.heap.size by omega))
    have HX_19 : ((((((((w_18.setCell ⟨w_11.heap.size, 0, none⟩ (.string code)).setCell ⟨w_11.heap.size, 1, none⟩ (.string { data := #[80, 67] })).setCell ⟨w_11.heap.size, 2, none⟩ (.int .i64 2)).setCell ⟨w_11.heap.size, 3, none⟩ (.int .i64 0)).setCell ⟨w_11.heap.size, 4, none⟩ (.int .i64 0)).setCell ⟨w_11.heap.size, 5, none⟩ (.int .i64 0)).setCell ⟨w_11.heap.size, 6, none⟩ (.int .i64 0)).setCell ⟨w_11.heap.size, 7, none⟩ (.int .i64 0)).heap[w_11.heap.size]? = some (.cells #[.string code, .string { data := #[80, 67] }, .int .i64 2, .int .i64 0, .int .i64 0, .int .i64 0, .int .i64 0, .int .i64 0] 33 (0, 0)) := blk_set8r HX_18
    have HR_19 : ((((((((w_18.setCell ⟨w_11.heap.size, 0, none⟩ (.string code)).setCell ⟨w_11.heap.size, 1, none⟩ (.string { data := #[80, 67] })).setCell ⟨w_11.heap.size, 2, none⟩ (.int .i64 2)).setCell ⟨w_11.heap.size, 3, none⟩ (.int .i64 0)).setCell ⟨w_11.heap.size, 4, none⟩ (.int .i64 0)).setCell ⟨w_11.heap.size, 5, none⟩ (.int .i64 0)).setCell ⟨w_11.heap.size, 6, none⟩ (.int .i64 0)).setCell ⟨w_11.heap.size, 7, none⟩ (.int .i64 0)).heap[w.heap.size]? = some (.cells #[.string { data := #[] }, .string { data := #[] }, .int .i64 0, .int .i64 0, .int .i64 0, .int .i64 0, .int .i64 0, .int .i64 0] 33 (0, 0)) := blk_oth8r HR_18 (by omega)
    have hs_19 := HD_19.out.grown.size
    clear qX0 fX0 qX1 fX1 qX2 fX2 qX3 fX3 qX4 fX4 qX5 fX5 qX6 fX6 qX7 fX7
    generalize hw_19 : ((((((((w_18.setCell ⟨w_11.heap.size, 0, none⟩ (.string code)).setCell ⟨w_11.heap.size, 1, none⟩ (.string { data := #[80, 67] })).setCell ⟨w_11.heap.size, 2, none⟩ (.int .i64 2)).setCell ⟨w_11.heap.size, 3, none⟩ (.int .i64 0)).setCell ⟨w_11.heap.size, 4, none⟩ (.int .i64 0)).setCell ⟨w_11.heap.size, 5, none⟩ (.int .i64 0)).setCell ⟨w_11.heap.size, 6, none⟩ (.int .i64 0)).setCell ⟨w_11.heap.size, 7, none⟩ (.int .i64 0)) = w_19 at *
    clear hw_19
    have qX0 := cell_of_row _ _ 0 _ _ _ HX_19
    have qX1 := cell_of_row _ _ 1 _ _ _ HX_19
    have qX2 := cell_of_row _ _ 2 _ _ _ HX_19
    have qX3 := cell_of_row _ _ 3 _ _ _ HX_19
    have qX4 := cell_of_row _ _ 4 _ _ _ HX_19
    have qX5 := cell_of_row _ _ 5 _ _ _ HX_19
    have qX6 := cell_of_row _ _ 6 _ _ _ HX_19
    have qX7 := cell_of_row _ _ 7 _ _ _ HX_19
    have qR0 := cell_of_row _ _ 0 _ _ _ HR_19
    have fR0 := frozen_of_row _ _ 0 _ _ HR_19
    have qR1 := cell_of_row _ _ 1 _ _ _ HR_19
    have fR1 := frozen_of_row _ _ 1 _ _ HR_19
    have qR2 := cell_of_row _ _ 2 _ _ _ HR_19
    have fR2 := frozen_of_row _ _ 2 _ _ HR_19
    have qR3 := cell_of_row _ _ 3 _ _ _ HR_19
    have fR3 := frozen_of_row _ _ 3 _ _ HR_19
    have qR4 := cell_of_row _ _ 4 _ _ _ HR_19
    have fR4 := frozen_of_row _ _ 4 _ _ HR_19
    have qR5 := cell_of_row _ _ 5 _ _ _ HR_19
    have fR5 := frozen_of_row _ _ 5 _ _ HR_19
    have qR6 := cell_of_row _ _ 6 _ _ _ HR_19
    have fR6 := frozen_of_row _ _ 6 _ _ HR_19
    have qR7 := cell_of_row _ _ 7 _ _ _ HR_19
    have fR7 := frozen_of_row _ _ 7 _ _ HR_19
    go_wp2_with fail
    exact bodyPost_ret (v := .agg #[.string code, .string { data := #[80, 67] }, .int .i64 2, .int .i64 0, .int .i64 0, .int .i64 0, .int .i64 0, .int .i64 0]) (results_cell_row Tryz.results103 _ _ _ _ _ _ _ rfl (blk_set8r HR_19) Tryz.underlying33 rfl (by kernel_rfl)) rfl ⟨⟨code, { data := #[80, 67] }, 2, 0, 0, 0, 0, 0⟩, rfl, hz, Nat.le_of_ble_eq_true rfl, HD_19.out.set8r hlt (by omega)⟩
  · have b0 : (k == 2) = false := beq_eq_false_iff_ne.2 hk2
    clear hk2
    have qX0 := cell_of_row _ _ 0 _ _ _ HX_18
    have qX1 := cell_of_row _ _ 1 _ _ _ HX_18
    have qX2 := cell_of_row _ _ 2 _ _ _ HX_18
    have qX3 := cell_of_row _ _ 3 _ _ _ HX_18
    have qX4 := cell_of_row _ _ 4 _ _ _ HX_18
    have qX5 := cell_of_row _ _ 5 _ _ _ HX_18
    have qX6 := cell_of_row _ _ 6 _ _ _ HX_18
    have qX7 := cell_of_row _ _ 7 _ _ _ HX_18
    have qR0 := cell_of_row _ _ 0 _ _ _ HR_18
    have fR0 := frozen_of_row _ _ 0 _ _ HR_18
    have qR1 := cell_of_row _ _ 1 _ _ _ HR_18
    have fR1 := frozen_of_row _ _ 1 _ _ HR_18
    have qR2 := cell_of_row _ _ 2 _ _ _ HR_18
    have fR2 := frozen_of_row _ _ 2 _ _ HR_18
    have qR3 := cell_of_row _ _ 3 _ _ _ HR_18
    have fR3 := frozen_of_row _ _ 3 _ _ HR_18
    have qR4 := cell_of_row _ _ 4 _ _ _ HR_18
    have fR4 := frozen_of_row _ _ 4 _ _ HR_18
    have qR5 := cell_of_row _ _ 5 _ _ _ HR_18
    have fR5 := frozen_of_row _ _ 5 _ _ HR_18
    have qR6 := cell_of_row _ _ 6 _ _ _ HR_18
    have fR6 := frozen_of_row _ _ 6 _ _ HR_18
    have qR7 := cell_of_row _ _ 7 _ _ _ HR_18
    have fR7 := frozen_of_row _ _ 7 _ _ HR_18
    go_wp2_with fail
    exact bodyPost_ret (v := .agg #[.string code, .string { data := #[80, 67] }, .int .i64 k, .int .i64 ld, .int .i64 (1 + ru), .int .i64 (1 + si), .int .i64 sf, .int .i64 sc]) (results_cell_row Tryz.results103 _ _ _ _ _ _ _ rfl (blk_set8r HR_18) Tryz.underlying33 rfl (by kernel_rfl)) rfl ⟨⟨code, { data := #[80, 67] }, k, ld, (1 + ru), (1 + si), sf, sc⟩, rfl, hz, Nat.le_of_ble_eq_true rfl, HD_18.out.set8r hlt (by omega)⟩

set_option maxRecDepth 100000 in
set_option maxHeartbeats 1000000 in
theorem l8_bad (B b : Nat) (a : Option Addr) (n c : Nat) (x : IT) (w : World) (hn : n ≤ 1048576) (hcode : CodeAt B w a n) (hcur : CurAt B w b a n c) (hBw : B ≤ w.heap.size) (hz0 : x.code.size ≤ 1000) (hz1 : x.unt.size ≤ 1000) :
 Calls Tryz.prog 104 #[.pointer (some ⟨b, 0, none⟩), .agg #[.string x.code, .string x.unt, .int .i64 x.kind, .int .i64 x.lead, .int .i64 x.rule, .int .i64 x.lsz, .int .i64 x.safe, .int .i64 x.scr]] w (DrewI B b a n c w) := by
 have hlt := hcur.lt
 have hBb := hcur.1
 have HC0 := Lib.hid hcode
 have HD_0 : Hid (Drawn B b a n c w w) := Lib.hid ⟨hcur, rfl, rfl, rfl, Nat.le_refl _, fun _ _ _ => rfl⟩
 have hs_0 : w.heap.size ≤ w.heap.size := Nat.le_refl _
 clear hcode hcur
 go_enter Tryz.func104, Tryz.ntmps104
 go_wp2_with fail
 have hal_X : (w.alloc (.cells #[.string x.code, .string x.unt, .int .i64 x.kind, .int .i64 x.lead, .int .i64 x.rule, .int .i64 x.lsz, .int .i64 x.safe, .int .i64 x.scr] 33)).heap.size = w.heap.size + 1 := by simp
 have HD_1 : Hid (Drawn B b a n c w (w.alloc (.cells #[.string x.code, .string x.unt, .int .i64 x.kind, .int .i64 x.lead, .int .i64 x.rule, .int .i64 x.lsz, .int .i64 x.safe, .int .i64 x.scr] 33))) := Lib.hid (HD_0.out.al hlt _)
 have HX_1 : ((w.alloc (.cells #[.string x.code, .string x.unt, .int .i64 x.kind, .int .i64 x.lead, .int .i64 x.rule, .int .i64 x.lsz, .int .i64 x.safe, .int .i64 x.scr] 33))).heap[w.heap.size]? = some (.cells #[.string x.code, .string x.unt, .int .i64 x.kind, .int .i64 x.lead, .int .i64 x.rule, .int .i64 x.lsz, .int .i64 x.safe, .int .i64 x.scr] 33 (0, 0)) := heap_alloc_new _ _
 have hs_1 := HD_1.out.grown.size
 generalize hw_1 : (w.alloc (.cells #[.string x.code, .string x.unt, .int .i64 x.kind, .int .i64 x.lead, .int .i64 x.rule, .int .i64 x.lsz, .int .i64 x.safe, .int .i64 x.scr] 33)) = w_1 at *
 clear hw_1
 have hal_R : (w_1.alloc (.cells #[.string { data := #[] }, .string { data := #[] }, .int .i64 0, .int .i64 0, .int .i64 0, .int .i64 0, .int .i64 0, .int .i64 0] 33)).heap.size = w.heap.size + 1 + 1 := by simp [hal_X]
 have HD_2 : Hid (Drawn B b a n c w (w_1.alloc (.cells #[.string { data := #[] }, .string { data := #[] }, .int .i64 0, .int .i64 0, .int .i64 0, .int .i64 0, .int .i64 0, .int .i64 0] 33))) := Lib.hid (HD_1.out.al hlt _)
 have HX_2 : ((w_1.alloc (.cells #[.string { data := #[] }, .string { data := #[] }, .int .i64 0, .int .i64 0, .int .i64 0, .int .i64 0, .int .i64 0, .int .i64 0] 33))).heap[w.heap.size]? = some (.cells #[.string x.code, .string x.unt, .int .i64 x.kind, .int .i64 x.lead, .int .i64 x.rule, .int .i64 x.lsz, .int .i64 x.safe, .int .i64 x.scr] 33 (0, 0)) := blk_alloc HX_1 _
 have HR_2 : ((w_1.alloc (.cells #[.string { data := #[] }, .string { data := #[] }, .int .i64 0, .int .i64 0, .int .i64 0, .int .i64 0, .int .i64 0, .int .i64 0] 33))).heap[w.heap.size + 1]? = some (.cells #[.string { data := #[] }, .string { data := #[] }, .int .i64 0, .int .i64 0, .int .i64 0, .int .i64 0, .int .i64 0, .int .i64 0] 33 (0, 0)) := (by have h := heap_alloc_new w_1 (.cells #[.string { data := #[] }, .string { data := #[] }, .int .i64 0, .int .i64 0, .int .i64 0, .int .i64 0, .int .i64 0, .int .i64 0] 33); rw [hal_X] at h; exact h)
 have hs_2 := HD_2.out.grown.size
 generalize hw_2 : (w_1.alloc (.cells #[.string { data := #[] }, .string { data := #[] }, .int .i64 0, .int .i64 0, .int .i64 0, .int .i64 0, .int .i64 0, .int .i64 0] 33)) = w_2 at *
 clear hw_2
 refine (l1_below B b a n c 8 _ hn (HC0.out.below (HD_2.out.below hBw)) HD_2.out.cur (by omega) (by omega) (by omega)).mono ?_
 rintro e w_3 ⟨y, rfl, hy0, hy1, hd⟩
 have HD_3 := Lib.hid (HD_2.out.trans hd)
 have HX_3 := Drawn.blk hd HX_2 (by omega)
 have HR_3 := Drawn.blk hd HR_2 (by omega)
 have hs_3 := HD_3.out.grown.size
 have hp_3 : w_2.heap.size ≤ w_3.heap.size := by have h := hd.grown.size; first | exact h | (simp at h; omega)
 clear hd HX_2 HR_2 HD_2
 by_cases e0 : y = 0
 · have b0 : (y == 0) = true := beq_iff_eq.2 e0
   clear e0
   go_wp2_with fail
   have hi_4 := ints_new w_3 3 [-1, 51] (by intro z hz; simp only [List.mem_cons, List.mem_nil_iff, or_false] at hz; omega)
   have hz_4 : IntsAt (w_3.alloc (.cells #[.int .i64 (-1), .int .i64 51] 3)) (w_3.heap.size) 2 := hi_4
   clear hi_4
   have hg_4 : w_3.heap.size ≠ b := by omega
   have HD_5 : Hid (Drawn B b a n c w (w_3.alloc (.cells #[.int .i64 (-1), .int .i64 51] 3))) := Lib.hid (HD_3.out.al hlt _)
   have HX_5 : ((w_3.alloc (.cells #[.int .i64 (-1), .int .i64 51] 3))).heap[w.heap.size]? = some (.cells #[.string x.code, .string x.unt, .int .i64 x.kind, .int .i64 x.lead, .int .i64 x.rule, .int .i64 x.lsz, .int .i64 x.safe, .int .i64 x.scr] 33 (0, 0)) := blk_alloc HX_3 _
   have HR_5 : ((w_3.alloc (.cells #[.int .i64 (-1), .int .i64 51] 3))).heap[w.heap.size + 1]? = some (.cells #[.string { data := #[] }, .string { data := #[] }, .int .i64 0, .int .i64 0, .int .i64 0, .int .i64 0, .int .i64 0, .int .i64 0] 33 (0, 0)) := blk_alloc HR_3 _
   have hs_5 := HD_5.out.grown.size
   refine (l1_pickInt B b (w_3.heap.size) 2 a n c _ hn (HC0.out.below (HD_5.out.below hBw)) HD_5.out.cur (by omega) (by omega) (by omega) hg_4 hz_4).mono ?_
   rintro e w_6 ⟨zz, rfl, hzz0, hzz1, hd⟩
   have HD_6 := Lib.hid (HD_5.out.trans hd)
   have HX_6 := Drawn.blk hd HX_5 (by omega)
   have HR_6 := Drawn.blk hd HR_5 (by omega)
   have hs_6 := HD_6.out.grown.size
   have hp_6 : w_3.heap.size ≤ w_6.heap.size := by have h := hd.grown.size; first | exact h | (simp at h; omega)
   clear hd HX_5 HR_5 HD_5
   clear hz_4 hg_4
   have qX7 := cell_of_row _ _ 7 _ _ _ HX_6
   have fX7 := frozen_of_row _ _ 7 _ _ HX_6
   go_upto_region 14 with fail
   clear qX7 fX7
   have HD_7 : Hid (Drawn B b a n c w (w_6.setCell ⟨w.heap.size, 7, none⟩ (.int .i64 zz))) := Lib.hid (HD_6.out.set1 hlt (by omega))
   have HX_7 : ((w_6.setCell ⟨w.heap.size, 7, none⟩ (.int .i64 zz))).heap[w.heap.size]? = some (.cells #[.string x.code, .string x.unt, .int .i64 x.kind, .int .i64 x.lead, .int .i64 x.rule, .int .i64 x.lsz, .int .i64 x.safe, .int .i64 zz] 33 (0, 0)) := heap_setCell_same _ _ _ _ _ _ HX_6
   have HR_7 : ((w_6.setCell ⟨w.heap.size, 7, none⟩ (.int .i64 zz))).heap[w.heap.size + 1]? = some (.cells #[.string { data := #[] }, .string { data := #[] }, .int .i64 0, .int .i64 0, .int .i64 0, .int .i64 0, .int .i64 0, .int .i64 0] 33 (0, 0)) := (heap_setCell_other _ _ _ _ (by simp only []; omega)).trans HR_6
   have hs_7 := HD_7.out.grown.size
   have hq_7 : (w_6.setCell ⟨w.heap.size, 7, none⟩ (.int .i64 zz)).heap.size = w_6.heap.size := by simp
   generalize hw_7 : (w_6.setCell ⟨w.heap.size, 7, none⟩ (.int .i64 zz)) = w_7 at *
   clear hw_7
   have qX0 := cell_of_row _ _ 0 _ _ _ HX_7
   have qX1 := cell_of_row _ _ 1 _ _ _ HX_7
   have qX2 := cell_of_row _ _ 2 _ _ _ HX_7
   have qX3 := cell_of_row _ _ 3 _ _ _ HX_7
   have qX4 := cell_of_row _ _ 4 _ _ _ HX_7
   have qX5 := cell_of_row _ _ 5 _ _ _ HX_7
   have qX6 := cell_of_row _ _ 6 _ _ _ HX_7
   have qX7 := cell_of_row _ _ 7 _ _ _ HX_7
   have qR0 := cell_of_row _ _ 0 _ _ _ HR_7
   have fR0 := frozen_of_row _ _ 0 _ _ HR_7
   have qR1 := cell_of_row _ _ 1 _ _ _ HR_7
   have fR1 := frozen_of_row _ _ 1 _ _ HR_7
   have qR2 := cell_of_row _ _ 2 _ _ _ HR_7
   have fR2 := frozen_of_row _ _ 2 _ _ HR_7
   have qR3 := cell_of_row _ _ 3 _ _ _ HR_7
   have fR3 := frozen_of_row _ _ 3 _ _ HR_7
   have qR4 := cell_of_row _ _ 4 _ _ _ HR_7
   have fR4 := frozen_of_row _ _ 4 _ _ HR_7
   have qR5 := cell_of_row _ _ 5 _ _ _ HR_7
   have fR5 := frozen_of_row _ _ 5 _ _ HR_7
   have qR6 := cell_of_row _ _ 6 _ _ _ HR_7
   have fR6 := frozen_of_row _ _ 6 _ _ HR_7
   have qR7 := cell_of_row _ _ 7 _ _ _ HR_7
   have fR7 := frozen_of_row _ _ 7 _ _ HR_7
   go_wp2_with fail
   exact bodyPost_ret (v := .agg #[.string x.code, .string x.unt, .int .i64 x.kind, .int .i64 x.lead, .int .i64 x.rule, .int .i64 x.lsz, .int .i64 x.safe, .int .i64 zz]) (results_cell_row Tryz.results104 _ _ _ _ _ _ _ rfl (blk_set8r HR_7) Tryz.underlying33 rfl (by kernel_rfl)) rfl ⟨⟨x.code, x.unt, x.kind, x.lead, x.rule, x.lsz, x.safe, zz⟩, rfl, hz0, hz1, HD_7.out.set8r hlt (by omega)⟩
 have b0 : (y == 0) = false := beq_eq_false_iff_ne.2 e0
 clear e0
 by_cases e1 : y = 1
 · have b1 : (y == 1) = true := beq_iff_eq.2 e1
   clear e1
   have qX2 := cell_of_row _ _ 2 _ _ _ HX_3
   have fX2 := frozen_of_row _ _ 2 _ _ HX_3
   go_upto_region 14 with fail
   clear qX2 fX2
   have HD_8 : Hid (Drawn B b a n c w (w_3.setCell ⟨w.heap.size, 2, none⟩ (.int .i64 3))) := Lib.hid (HD_3.out.set1 hlt (by omega))
   have HX_8 : ((w_3.setCell ⟨w.heap.size, 2, none⟩ (.int .i64 3))).heap[w.heap.size]? = some (.cells #[.string x.code, .string x.unt, .int .i64 3, .int .i64 x.lead, .int .i64 x.rule, .int .i64 x.lsz, .int .i64 x.safe, .int .i64 x.scr] 33 (0, 0)) := heap_setCell_same _ _ _ _ _ _ HX_3
   have HR_8 : ((w_3.setCell ⟨w.heap.size, 2, none⟩ (.int .i64 3))).heap[w.heap.size + 1]? = some (.cells #[.string { data := #[] }, .string { data := #[] }, .int .i64 0, .int .i64 0, .int .i64 0, .int .i64 0, .int .i64 0, .int .i64 0] 33 (0, 0)) := (heap_setCell_other _ _ _ _ (by simp only []; omega)).trans HR_3
   have hs_8 := HD_8.out.grown.size
   have hq_8 : (w_3.setCell ⟨w.heap.size, 2, none⟩ (.int .i64 3)).heap.size = w_3.heap.size := by simp
   generalize hw_8 : (w_3.setCell ⟨w.heap.size, 2, none⟩ (.int .i64 3)) = w_8 at *
   clear hw_8
   have qX0 := cell_of_row _ _ 0 _ _ _ HX_8
   have qX1 := cell_of_row _ _ 1 _ _ _ HX_8
   have qX2 := cell_of_row _ _ 2 _ _ _ HX_8
   have qX3 := cell_of_row _ _ 3 _ _ _ HX_8
   have qX4 := cell_of_row _ _ 4 _ _ _ HX_8
   have qX5 := cell_of_row _ _ 5 _ _ _ HX_8
   have qX6 := cell_of_row _ _ 6 _ _ _ HX_8
   have qX7 := cell_of_row _ _ 7 _ _ _ HX_8
   have qR0 := cell_of_row _ _ 0 _ _ _ HR_8
   have fR0 := frozen_of_row _ _ 0 _ _ HR_8
   have qR1 := cell_of_row _ _ 1 _ _ _ HR_8
   have fR1 := frozen_of_row _ _ 1 _ _ HR_8
   have qR2 := cell_of_row _ _ 2 _ _ _ HR_8
   have fR2 := frozen_of_row _ _ 2 _ _ HR_8
   have qR3 := cell_of_row _ _ 3 _ _ _ HR_8
   have fR3 := frozen_of_row _ _ 3 _ _ HR_8
   have qR4 := cell_of_row _ _ 4 _ _ _ HR_8
   have fR4 := frozen_of_row _ _ 4 _ _ HR_8
   have qR5 := cell_of_row _ _ 5 _ _ _ HR_8
   have fR5 := frozen_of_row _ _ 5 _ _ HR_8
   have qR6 := cell_of_row _ _ 6 _ _ _ HR_8
   have fR6 := frozen_of_row _ _ 6 _ _ HR_8
   have qR7 := cell_of_row _ _ 7 _ _ _ HR_8
   have fR7 := frozen_of_row _ _ 7 _ _ HR_8
   go_wp2_with fail
   exact bodyPost_ret (v := .agg #[.string x.code, .string x.unt, .int .i64 3, .int .i64 x.lead, .int .i64 x.rule, .int .i64 x.lsz, .int .i64 x.safe, .int .i64 x.scr]) (results_cell_row Tryz.results104 _ _ _ _ _ _ _ rfl (blk_set8r HR_8) Tryz.underlying33 rfl (by kernel_rfl)) rfl ⟨⟨x.code, x.unt, 3, x.lead, x.rule, x.lsz, x.safe, x.scr⟩, rfl, hz0, hz1, HD_8.out.set8r hlt (by omega)⟩
 have b1 : (y == 1) = false := beq_eq_false_iff_ne.2 e1
 clear e1
 by_cases e2 : y = 2
 · have b2 : (y == 2) = true := beq_iff_eq.2 e2
   clear e2
   go_wp2_with fail
   have hi_9 := ints_new w_3 3 [-1, 31] (by intro z hz; simp only [List.mem_cons, List.mem_nil_iff, or_false] at hz; omega)
   have hz_9 : IntsAt (w_3.alloc (.cells #[.int .i64 (-1), .int .i64 31] 3)) (w_3.heap.size) 2 := hi_9
   clear hi_9
   have hg_9 : w_3.heap.size ≠ b := by omega
   have HD_10 : Hid (Drawn B b a n c w (w_3.alloc (.cells #[.int .i64 (-1), .int .i64 31] 3))) := Lib.hid (HD_3.out.al hlt _)
   have HX_10 : ((w_3.alloc (.cells #[.int .i64 (-1), .int .i64 31] 3))).heap[w.heap.size]? = some (.cells #[.string x.code, .string x.unt, .int .i64 x.kind, .int .i64 x.lead, .int .i64 x.rule, .int .i64 x.lsz, .int .i64 x.safe, .int .i64 x.scr] 33 (0, 0)) := blk_alloc HX_3 _
   have HR_10 : ((w_3.alloc (.cells #[.int .i64 (-1), .int .i64 31] 3))).heap[w.heap.size + 1]? = some (.cells #[.string { data := #[] }, .string { data := #[] }, .int .i64 0, .int .i64 0, .int .i64 0, .int .i64 0, .int .i64 0, .int .i64 0] 33 (0, 0)) := blk_alloc HR_3 _
   have hs_10 := HD_10.out.grown.size
   refine (l1_pickInt B b (w_3.heap.size) 2 a n c _ hn (HC0.out.below (HD_10.out.below hBw)) HD_10.out.cur (by omega) (by omega) (by omega) hg_9 hz_9).mono ?_
   rintro e w_11 ⟨zz, rfl, hzz0, hzz1, hd⟩
   have HD_11 := Lib.hid (HD_10.out.trans hd)
   have HX_11 := Drawn.blk hd HX_10 (by omega)
   have HR_11 := Drawn.blk hd HR_10 (by omega)
   have hs_11 := HD_11.out.grown.size
   have hp_11 : w_3.heap.size ≤ w_11.heap.size := by have h := hd.grown.size; first | exact h | (simp at h; omega)
   clear hd HX_10 HR_10 HD_10
   clear hz_9 hg_9
   have qX3 := cell_of_row _ _ 3 _ _ _ HX_11
   have fX3 := frozen_of_row _ _ 3 _ _ HX_11
   go_upto_region 14 with fail
   clear qX3 fX3
   have HD_12 : Hid (Drawn B b a n c w (w_11.setCell ⟨w.heap.size, 3, none⟩ (.int .i64 zz))) := Lib.hid (HD_11.out.set1 hlt (by omega))
   have HX_12 : ((w_11.setCell ⟨w.heap.size, 3, none⟩ (.int .i64 zz))).heap[w.heap.size]? = some (.cells #[.string x.code, .string x.unt, .int .i64 x.kind, .int .i64 zz, .int .i64 x.rule, .int .i64 x.lsz, .int .i64 x.safe, .int .i64 x.scr] 33 (0, 0)) := heap_setCell_same _ _ _ _ _ _ HX_11
   have HR_12 : ((w_11.setCell ⟨w.heap.size, 3, none⟩ (.int .i64 zz))).heap[w.heap.size + 1]? = some (.cells #[.string { data := #[] }, .string { data := #[] }, .int .i64 0, .int .i64 0, .int .i64 0, .int .i64 0, .int .i64 0, .int .i64 0] 33 (0, 0)) := (heap_setCell_other _ _ _ _ (by simp only []; omega)).trans HR_11
   have hs_12 := HD_12.out.grown.size
   have hq_12 : (w_11.setCell ⟨w.heap.size, 3, none⟩ (.int .i64 zz)).heap.size = w_11.heap.size := by simp
   generalize hw_12 : (w_11.setCell ⟨w.heap.size, 3, none⟩ (.int .i64 zz)) = w_12 at *
   clear hw_12
   have qX0 := cell_of_row _ _ 0 _ _ _ HX_12
   have qX1 := cell_of_row _ _ 1 _ _ _ HX_12
   have qX2 := cell_of_row _ _ 2 _ _ _ HX_12
   have qX3 := cell_of_row _ _ 3 _ _ _ HX_12
   have qX4 := cell_of_row _ _ 4 _ _ _ HX_12
   have qX5 := cell_of_row _ _ 5 _ _ _ HX_12
   have qX6 := cell_of_row _ _ 6 _ _ _ HX_12
   have qX7 := cell_of_row _ _ 7 _ _ _ HX_12
   have qR0 := cell_of_row _ _ 0 _ _ _ HR_12
   have fR0 := frozen_of_row _ _ 0 _ _ HR_12
   have qR1 := cell_of_row _ _ 1 _ _ _ HR_12
   have fR1 := frozen_of_row _ _ 1 _ _ HR_12
   have qR2 := cell_of_row _ _ 2 _ _ _ HR_12
   have fR2 := frozen_of_row _ _ 2 _ _ HR_12
   have qR3 := cell_of_row _ _ 3 _ _ _ HR_12
   have fR3 := frozen_of_row _ _ 3 _ _ HR_12
   have qR4 := cell_of_row _ _ 4 _ _ _ HR_12
   have fR4 := frozen_of_row _ _ 4 _ _ HR_12
   have qR5 := cell_of_row _ _ 5 _ _ _ HR_12
   have fR5 := frozen_of_row _ _ 5 _ _ HR_12
   have qR6 := cell_of_row _ _ 6 _ _ _ HR_12
   have fR6 := frozen_of_row _ _ 6 _ _ HR_12
   have qR7 := cell_of_row _ _ 7 _ _ _ HR_12
   have fR7 := frozen_of_row _ _ 7 _ _ HR_12
   go_wp2_with fail
   exact bodyPost_ret (v := .agg #[.string x.code, .string x.unt, .int .i64 x.kind, .int .i64 zz, .int .i64 x.rule, .int .i64 x.lsz, .int .i64 x.safe, .int .i64 x.scr]) (results_cell_row Tryz.results104 _ _ _ _ _ _ _ rfl (blk_set8r HR_12) Tryz.underlying33 rfl (by kernel_rfl)) rfl ⟨⟨x.code, x.unt, x.kind, zz, x.rule, x.lsz, x.safe, x.scr⟩, rfl, hz0, hz1, HD_12.out.set8r hlt (by omega)⟩
 have b2 : (y == 2) = false := beq_eq_false_iff_ne.2 e2
 clear e2
 by_cases e3 : y = 3
 · have b3 : (y == 3) = true := beq_iff_eq.2 e3
   clear e3
   have qX5 := cell_of_row _ _ 5 _ _ _ HX_3
   have fX5 := frozen_of_row _ _ 5 _ _ HX_3
   go_upto_region 14 with fail
   clear qX5 fX5
   have HD_13 : Hid (Drawn B b a n c w (w_3.setCell ⟨w.heap.size, 5, none⟩ (.int .i64 1001))) := Lib.hid (HD_3.out.set1 hlt (by omega))
   have HX_13 : ((w_3.setCell ⟨w.heap.size, 5, none⟩ (.int .i64 1001))).heap[w.heap.size]? = some (.cells #[.string x.code, .string x.unt, .int .i64 x.kind, .int .i64 x.lead, .int .i64 x.rule, .int .i64 1001, .int .i64 x.safe, .int .i64 x.scr] 33 (0, 0)) := heap_setCell_same _ _ _ _ _ _ HX_3
   have HR_13 : ((w_3.setCell ⟨w.heap.size, 5, none⟩ (.int .i64 1001))).heap[w.heap.size + 1]? = some (.cells #[.string { data := #[] }, .string { data := #[] }, .int .i64 0, .int .i64 0, .int .i64 0, .int .i64 0, .int .i64 0, .int .i64 0] 33 (0, 0)) := (heap_setCell_other _ _ _ _ (by simp only []; omega)).trans HR_3
   have hs_13 := HD_13.out.grown.size
   have hq_13 : (w_3.setCell ⟨w.heap.size, 5, none⟩ (.int .i64 1001)).heap.size = w_3.heap.size := by simp
   generalize hw_13 : (w_3.setCell ⟨w.heap.size, 5, none⟩ (.int .i64 1001)) = w_13 at *
   clear hw_13
   have qX0 := cell_of_row _ _ 0 _ _ _ HX_13
   have qX1 := cell_of_row _ _ 1 _ _ _ HX_13
   have qX2 := cell_of_row _ _ 2 _ _ _ HX_13
   have qX3 := cell_of_row _ _ 3 _ _ _ HX_13
   have qX4 := cell_of_row _ _ 4 _ _ _ HX_13
   have qX5 := cell_of_row _ _ 5 _ _ _ HX_13
   have qX6 := cell_of_row _ _ 6 _ _ _ HX_13
   have qX7 := cell_of_row _ _ 7 _ _ _ HX_13
   have qR0 := cell_of_row _ _ 0 _ _ _ HR_13
   have fR0 := frozen_of_row _ _ 0 _ _ HR_13
   have qR1 := cell_of_row _ _ 1 _ _ _ HR_13
   have fR1 := frozen_of_row _ _ 1 _ _ HR_13
   have qR2 := cell_of_row _ _ 2 _ _ _ HR_13
   have fR2 := frozen_of_row _ _ 2 _ _ HR_13
   have qR3 := cell_of_row _ _ 3 _ _ _ HR_13
   have fR3 := frozen_of_row _ _ 3 _ _ HR_13
   have qR4 := cell_of_row _ _ 4 _ _ _ HR_13
   have fR4 := frozen_of_row _ _ 4 _ _ HR_13
   have qR5 := cell_of_row _ _ 5 _ _ _ HR_13
   have fR5 := frozen_of_row _ _ 5 _ _ HR_13
   have qR6 := cell_of_row _ _ 6 _ _ _ HR_13
   have fR6 := frozen_of_row _ _ 6 _ _ HR_13
   have qR7 := cell_of_row _ _ 7 _ _ _ HR_13
   have fR7 := frozen_of_row _ _ 7 _ _ HR_13
   go_wp2_with fail
   exact bodyPost_ret (v := .agg #[.string x.code, .string x.unt, .int .i64 x.kind, .int .i64 x.lead, .int .i64 x.rule, .int .i64 1001, .int .i64 x.safe, .int .i64 x.scr]) (results_cell_row Tryz.results104 _ _ _ _ _ _ _ rfl (blk_set8r HR_13) Tryz.underlying33 rfl (by kernel_rfl)) rfl ⟨⟨x.code, x.unt, x.kind, x.lead, x.rule, 1001, x.safe, x.scr⟩, rfl, hz0, hz1, HD_13.out.set8r hlt (by omega)⟩
 have b3 : (y == 3) = false := beq_eq_false_iff_ne.2 e3
 clear e3
 by_cases e4 : y = 4
 · have b4 : (y == 4) = true := beq_iff_eq.2 e4
   clear e4
   have qX0 := cell_of_row _ _ 0 _ _ _ HX_3
   have fX0 := frozen_of_row _ _ 0 _ _ HX_3
   go_upto_region 14 with fail
   clear qX0 fX0
   have HD_14 : Hid (Drawn B b a n c w (w_3.setCell ⟨w.heap.size, 0, none⟩ (.string { data := #[97] }))) := Lib.hid (HD_3.out.set1 hlt (by omega))
   have HX_14 : ((w_3.setCell ⟨w.heap.size, 0, none⟩ (.string { data := #[97] }))).heap[w.heap.size]? = some (.cells #[.string { data := #[97] }, .string x.unt, .int .i64 x.kind, .int .i64 x.lead, .int .i64 x.rule, .int .i64 x.lsz, .int .i64 x.safe, .int .i64 x.scr] 33 (0, 0)) := heap_setCell_same _ _ _ _ _ _ HX_3
   have HR_14 : ((w_3.setCell ⟨w.heap.size, 0, none⟩ (.string { data := #[97] }))).heap[w.heap.size + 1]? = some (.cells #[.string { data := #[] }, .string { data := #[] }, .int .i64 0, .int .i64 0, .int .i64 0, .int .i64 0, .int .i64 0, .int .i64 0] 33 (0, 0)) := (heap_setCell_other _ _ _ _ (by simp only []; omega)).trans HR_3
   have hs_14 := HD_14.out.grown.size
   have hq_14 : (w_3.setCell ⟨w.heap.size, 0, none⟩ (.string { data := #[97] })).heap.size = w_3.heap.size := by simp
   generalize hw_14 : (w_3.setCell ⟨w.heap.size, 0, none⟩ (.string { data := #[97] })) = w_14 at *
   clear hw_14
   have qX0 := cell_of_row _ _ 0 _ _ _ HX_14
   have qX1 := cell_of_row _ _ 1 _ _ _ HX_14
   have qX2 := cell_of_row _ _ 2 _ _ _ HX_14
   have qX3 := cell_of_row _ _ 3 _ _ _ HX_14
   have qX4 := cell_of_row _ _ 4 _ _ _ HX_14
   have qX5 := cell_of_row _ _ 5 _ _ _ HX_14
   have qX6 := cell_of_row _ _ 6 _ _ _ HX_14
   have qX7 := cell_of_row _ _ 7 _ _ _ HX_14
   have qR0 := cell_of_row _ _ 0 _ _ _ HR_14
   have fR0 := frozen_of_row _ _ 0 _ _ HR_14
   have qR1 := cell_of_row _ _ 1 _ _ _ HR_14
   have fR1 := frozen_of_row _ _ 1 _ _ HR_14
   have qR2 := cell_of_row _ _ 2 _ _ _ HR_14
   have fR2 := frozen_of_row _ _ 2 _ _ HR_14
   have qR3 := cell_of_row _ _ 3 _ _ _ HR_14
   have fR3 := frozen_of_row _ _ 3 _ _ HR_14
   have qR4 := cell_of_row _ _ 4 _ _ _ HR_14
   have fR4 := frozen_of_row _ _ 4 _ _ HR_14
   have qR5 := cell_of_row _ _ 5 _ _ _ HR_14
   have fR5 := frozen_of_row _ _ 5 _ _ HR_14
   have qR6 := cell_of_row _ _ 6 _ _ _ HR_14
   have fR6 := frozen_of_row _ _ 6 _ _ HR_14
   have qR7 := cell_of_row _ _ 7 _ _ _ HR_14
   have fR7 := frozen_of_row _ _ 7 _ _ HR_14
   go_wp2_with fail
   exact bodyPost_ret (v := .agg #[.string { data := #[97] }, .string x.unt, .int .i64 x.kind, .int .i64 x.lead, .int .i64 x.rule, .int .i64 x.lsz, .int .i64 x.safe, .int .i64 x.scr]) (results_cell_row Tryz.results104 _ _ _ _ _ _ _ rfl (blk_set8r HR_14) Tryz.underlying33 rfl (by kernel_rfl)) rfl ⟨⟨{ data := #[97] }, x.unt, x.kind, x.lead, x.rule, x.lsz, x.safe, x.scr⟩, rfl, Nat.le_of_ble_eq_true rfl, hz1, HD_14.out.set8r hlt (by omega)⟩
 have b4 : (y == 4) = false := beq_eq_false_iff_ne.2 e4
 clear e4
 by_cases e5 : y = 5
 · have b5 : (y == 5) = true := beq_iff_eq.2 e5
   clear e5
   go_wp2_with fail
   refine (l1_odd B b a n c _ hn (HC0.out.below (HD_3.out.below hBw)) HD_3.out.cur (by omega)).mono ?_
   rintro e w_15 ⟨zz, rfl, hzz0, hzz1, hd⟩
   have HD_15 := Lib.hid (HD_3.out.trans hd)
   have HX_15 := Drawn.blk hd HX_3 (by omega)
   have HR_15 := Drawn.blk hd HR_3 (by omega)
   have hs_15 := HD_15.out.grown.size
   have hp_15 : w_3.heap.size ≤ w_15.heap.size := by have h := hd.grown.size; first | exact h | (simp at h; omega)
   clear hd HX_3 HR_3 HD_3
   have qX6 := cell_of_row _ _ 6 _ _ _ HX_15
   have fX6 := frozen_of_row _ _ 6 _ _ HX_15
   go_upto_region 14 with fail
   clear qX6 fX6
   have HD_16 : Hid (Drawn B b a n c w (w_15.setCell ⟨w.heap.size, 6, none⟩ (.int .i64 zz))) := Lib.hid (HD_15.out.set1 hlt (by omega))
   have HX_16 : ((w_15.setCell ⟨w.heap.size, 6, none⟩ (.int .i64 zz))).heap[w.heap.size]? = some (.cells #[.string x.code, .string x.unt, .int .i64 x.kind, .int .i64 x.lead, .int .i64 x.rule, .int .i64 x.lsz, .int .i64 zz, .int .i64 x.scr] 33 (0, 0)) := heap_setCell_same _ _ _ _ _ _ HX_15
   have HR_16 : ((w_15.setCell ⟨w.heap.size, 6, none⟩ (.int .i64 zz))).heap[w.heap.size + 1]? = some (.cells #[.string { data := #[] }, .string { data := #[] }, .int .i64 0, .int .i64 0, .int .i64 0, .int .i64 0, .int .i64 0, .int .i64 0] 33 (0, 0)) := (heap_setCell_other _ _ _ _ (by simp only []; omega)).trans HR_15
   have hs_16 := HD_16.out.grown.size
   have hq_16 : (w_15.setCell ⟨w.heap.size, 6, none⟩ (.int .i64 zz)).heap.size = w_15.heap.size := by simp
   generalize hw_16 : (w_15.setCell ⟨w.heap.size, 6, none⟩ (.int .i64 zz)) = w_16 at *
   clear hw_16
   have qX0 := cell_of_row _ _ 0 _ _ _ HX_16
   have qX1 := cell_of_row _ _ 1 _ _ _ HX_16
   have qX2 := cell_of_row _ _ 2 _ _ _ HX_16
   have qX3 := cell_of_row _ _ 3 _ _ _ HX_16
   have qX4 := cell_of_row _ _ 4 _ _ _ HX_16
   have qX5 := cell_of_row _ _ 5 _ _ _ HX_16
   have qX6 := cell_of_row _ _ 6 _ _ _ HX_16
   have qX7 := cell_of_row _ _ 7 _ _ _ HX_16
   have qR0 := cell_of_row _ _ 0 _ _ _ HR_16
   have fR0 := frozen_of_row _ _ 0 _ _ HR_16
   have qR1 := cell_of_row _ _ 1 _ _ _ HR_16
   have fR1 := frozen_of_row _ _ 1 _ _ HR_16
   have qR2 := cell_of_row _ _ 2 _ _ _ HR_16
   have fR2 := frozen_of_row _ _ 2 _ _ HR_16
   have qR3 := cell_of_row _ _ 3 _ _ _ HR_16
   have fR3 := frozen_of_row _ _ 3 _ _ HR_16
   have qR4 := cell_of_row _ _ 4 _ _ _ HR_16
   have fR4 := frozen_of_row _ _ 4 _ _ HR_16
   have qR5 := cell_of_row _ _ 5 _ _ _ HR_16
   have fR5 := frozen_of_row _ _ 5 _ _ HR_16
   have qR6 := cell_of_row _ _ 6 _ _ _ HR_16
   have fR6 := frozen_of_row _ _ 6 _ _ HR_16
   have qR7 := cell_of_row _ _ 7 _ _ _ HR_16
   have fR7 := frozen_of_row _ _ 7 _ _ HR_16
   go_wp2_with fail
   exact bodyPost_ret (v := .agg #[.string x.code, .string x.unt, .int .i64 x.kind, .int .i64 x.lead, .int .i64 x.rule, .int .i64 x.lsz, .int .i64 zz, .int .i64 x.scr]) (results_cell_row Tryz.results104 _ _ _ _ _ _ _ rfl (blk_set8r HR_16) Tryz.underlying33 rfl (by kernel_rfl)) rfl ⟨⟨x.code, x.unt, x.kind, x.lead, x.rule, x.lsz, zz, x.scr⟩, rfl, hz0, hz1, HD_16.out.set8r hlt (by omega)⟩
 have b5 : (y == 5) = false := beq_eq_false_iff_ne.2 e5
 clear e5
 have qX0 := cell_of_row _ _ 0 _ _ _ HX_3
 have qX1 := cell_of_row _ _ 1 _ _ _ HX_3
 have qX2 := cell_of_row _ _ 2 _ _ _ HX_3
 have qX3 := cell_of_row _ _ 3 _ _ _ HX_3
 have qX4 := cell_of_row _ _ 4 _ _ _ HX_3
 have qX5 := cell_of_row _ _ 5 _ _ _ HX_3
 have qX6 := cell_of_row _ _ 6 _ _ _ HX_3
 have qX7 := cell_of_row _ _ 7 _ _ _ HX_3
 have qR0 := cell_of_row _ _ 0 _ _ _ HR_3
 have fR0 := frozen_of_row _ _ 0 _ _ HR_3
 have qR1 := cell_of_row _ _ 1 _ _ _ HR_3
 have fR1 := frozen_of_row _ _ 1 _ _ HR_3
 have qR2 := cell_of_row _ _ 2 _ _ _ HR_3
 have fR2 := frozen_of_row _ _ 2 _ _ HR_3
 have qR3 := cell_of_row _ _ 3 _ _ _ HR_3
 have fR3 := frozen_of_row _ _ 3 _ _ HR_3
 have qR4 := cell_of_row _ _ 4 _ _ _ HR_3
 have fR4 := frozen_of_row _ _ 4 _ _ HR_3
 have qR5 := cell_of_row _ _ 5 _ _ _ HR_3
 have fR5 := frozen_of_row _ _ 5 _ _ HR_3
 have qR6 := cell_of_row _ _ 6 _ _ _ HR_3
 have fR6 := frozen_of_row _ _ 6 _ _ HR_3
 have qR7 := cell_of_row _ _ 7 _ _ _ HR_3
 have fR7 := frozen_of_row _ _ 7 _ _ HR_3
 go_wp2_with fail
 exact bodyPost_ret (v := .agg #[.string x.code, .string x.unt, .int .i64 x.kind, .int .i64 x.lead, .int .i64 x.rule, .int .i64 x.lsz, .int .i64 x.safe, .int .i64 x.scr]) (results_cell_row Tryz.results104 _ _ _ _ _ _ _ rfl (blk_set8r HR_3) Tryz.underlying33 rfl (by kernel_rfl)) rfl ⟨⟨x.code, x.unt, x.kind, x.lead, x.rule, x.lsz, x.safe, x.scr⟩, rfl, hz0, hz1, HD_3.out.set8r hlt (by omega)⟩

end Go.Proofs.YtmnncinpepeocaaGreat
