/-
  The walks of the exact laws of chapter 12, given what the program owes.
-/
import Derived.Test.YtfcgdhedaefonaaRtImp
import Derived.Test.YtfcgdhedaefonaaRtSpec
import Derived.Test.YtfcgdhedaefonaaRtTime
import Derived.Test.YtfcgdhedaefonaaRtFlow
import Derived.Test.YtfcgdhedaefonaaRTI
import Derived.Test.YtfcgdhedaefonaaSTTo
import Derived.Test.YtfcgdhedaefonaaSTEq
import Derived.Test.YtfcgdhedaefonaaHold
import Derived.WalkKit
import Derived.WalkSpells
import Derived.WalkSmall
import Derived.Deep.DeepCutAuto
import Derived.Deep.RegionHeld3
import Derived.Lib.Hide
namespace Go.Proofs.Ytfcgdhedaefonaa
open Go.RowKit

theorem len_maxR {n : Nat} (h : n ≤ 1048576) : n ≤ maxLen := by unfold maxLen; omega
theorem ST.left_geR (x : ST) : -1 ≤ ST.left x 1048576 := by unfold ST.left; split <;> omega
theorem st_sz (x : ST) (hs : ST.Sz x) (W : World) : Calls Try.prog 21 #[.agg #[.string x.cen, .int .i64 x.stu, .int .i64 x.run], .int .i64 1048576] W fun e w' => e = .returned (.int .i64 (ST.left x 1048576)) ∧ Below W.heap.size W w' := ST.sz_one x 1048576 W (by omega) (by omega) hs
theorem st_to (x : ST) (W : World) : Calls Try.prog 23 #[.agg #[.string x.cen, .int .i64 x.stu, .int .i64 x.run]] W fun e w' => e = .returned (.agg #[.string x.cen, .int .i64 x.stu, .int .i64 x.run]) ∧ Below W.heap.size W w' := ST.to_one x W

set_option maxRecDepth 100000 in
set_option maxHeartbeats 4000000 in
theorem ex_IsStep (x : ST) (w : World) (hs : ST.Sz x) (him : ImplIsStep) :
    Calls Try.prog 5 #[ST.val x] w fun e w' => e = .returned (.bool true) ∧ Below w.heap.size w w' := by
  have HS := Lib.hid hs
  have HR_0 := heap_alloc_new w (.cells #[.string x.cen, .int .i64 x.stu, .int .i64 x.run] 35)
  have HB_0 : Hid (Below w.heap.size w (w.alloc (.cells #[.string x.cen, .int .i64 x.stu, .int .i64 x.run] 35))) := Lib.hid ((Below.refl _ _).alloc (Nat.le_refl _) _)
  clear hs
  have c0 := cell_of_row _ _ 0 _ _ _ HR_0
  have c1 := cell_of_row _ _ 1 _ _ _ HR_0
  have c2 := cell_of_row _ _ 2 _ _ _ HR_0
  unfold ST.val
  go_enter Try.func5, Try.ntmps5
  obtain ⟨y, hy⟩ : ∃ y, stB x = y := ⟨_, rfl⟩
  have HY := Lib.hid hy
  clear hy
  have hnn : (y != y) = false := by simp
  have HIM := Lib.hid (fun W => him x W HS.out)
  clear him
  unfold ST.val at HIM
  go_wp2_with fail
  refine (st_sz x HS.out _).mono ?_
  rintro e w1 ⟨rfl, hb⟩
  have HR_1 := blk_below HR_0 hb
  have HB_1 := Lib.hid (HB_0.out.trans (hb.mono HB_0.out.size))
  clear hb HR_0 HB_0 c0 c1 c2
  have c0 := cell_of_row _ _ 0 _ _ _ HR_1
  have c1 := cell_of_row _ _ 1 _ _ _ HR_1
  have c2 := cell_of_row _ _ 2 _ _ _ HR_1
  obtain ⟨z, hz⟩ : ∃ z, ST.left x 1048576 = z := ⟨_, rfl⟩
  have hzm := ST.left_geR x
  rw [hz] at hzm
  rw [hz]
  clear hz
  by_cases hzn : z < 0
  · go_wp2_with fail
    go_ret
    exact ⟨rfl, HB_1.out⟩
  go_wp2_with fail
  refine (st_to x _).mono ?_
  rintro e w2 ⟨rfl, hb⟩
  have HR_2 := blk_below HR_1 hb
  have HB_2 := Lib.hid (HB_1.out.trans (hb.mono HB_1.out.size))
  clear hb HR_1 HB_1 c0 c1 c2
  have c0 := cell_of_row _ _ 0 _ _ _ HR_2
  have c1 := cell_of_row _ _ 1 _ _ _ HR_2
  have c2 := cell_of_row _ _ 2 _ _ _ HR_2
  go_wp2_with fail
  refine (spec_step x _ HS.out).mono ?_
  rintro e w3 ⟨rfl, hb⟩
  have HR_3 := blk_below HR_2 hb
  have HB_3 := Lib.hid (HB_2.out.trans (hb.mono HB_2.out.size))
  clear hb HR_2 HB_2 c0 c1 c2
  have c0 := cell_of_row _ _ 0 _ _ _ HR_3
  have c1 := cell_of_row _ _ 1 _ _ _ HR_3
  have c2 := cell_of_row _ _ 2 _ _ _ HR_3
  rw [HY.out]
  go_wp2_with fail
  refine (st_to x _).mono ?_
  rintro e w4 ⟨rfl, hb⟩
  have HR_4 := blk_below HR_3 hb
  have HB_4 := Lib.hid (HB_3.out.trans (hb.mono HB_3.out.size))
  clear hb HR_3 HB_3 c0 c1 c2
  have c0 := cell_of_row _ _ 0 _ _ _ HR_4
  have c1 := cell_of_row _ _ 1 _ _ _ HR_4
  have c2 := cell_of_row _ _ 2 _ _ _ HR_4
  go_wp2_with fail
  refine (HIM.out _).mono ?_
  rintro e w5 ⟨rfl, hb⟩
  have HR_5 := blk_below HR_4 hb
  have HB_5 := Lib.hid (HB_4.out.trans (hb.mono HB_4.out.size))
  clear hb HR_4 HB_4 c0 c1 c2
  have c0 := cell_of_row _ _ 0 _ _ _ HR_5
  have c1 := cell_of_row _ _ 1 _ _ _ HR_5
  have c2 := cell_of_row _ _ 2 _ _ _ HR_5
  rw [HY.out]
  go_wp2_with fail
  go_ret
  exact ⟨rfl, HB_5.out⟩

set_option maxRecDepth 100000 in
set_option maxHeartbeats 4000000 in
theorem ex_StepTime (x : ST) (q : Int) (w : World) (hs : ST.Sz x) (him : ImplStepTime) :
    Calls Try.prog 9 #[ST.val x, .int .i64 q] w fun e w' => e = .returned (.bool true) ∧ Below w.heap.size w w' := by
  have HS := Lib.hid hs
  have HR_0 := heap_alloc_new w (.cells #[.string x.cen, .int .i64 x.stu, .int .i64 x.run] 35)
  have HB_0 : Hid (Below w.heap.size w (w.alloc (.cells #[.string x.cen, .int .i64 x.stu, .int .i64 x.run] 35))) := Lib.hid ((Below.refl _ _).alloc (Nat.le_refl _) _)
  clear hs
  have c0 := cell_of_row _ _ 0 _ _ _ HR_0
  have c1 := cell_of_row _ _ 1 _ _ _ HR_0
  have c2 := cell_of_row _ _ 2 _ _ _ HR_0
  unfold ST.val
  go_enter Try.func9, Try.ntmps9
  obtain ⟨z0, hz0⟩ : ∃ z, (stO x q).getD 0 = z := ⟨_, rfl⟩
  have HZ0 := Lib.hid hz0
  obtain ⟨y0, hy0⟩ : ∃ y, (stO x q).isSome = y := ⟨_, rfl⟩
  have HY0 := Lib.hid hy0
  clear hz0 hy0
  have hnn : (y0 != y0) = false := by simp
  have hmm : (z0 != z0) = false := by simp
  have HIM := Lib.hid (fun W => him x q W HS.out)
  clear him
  unfold ST.val at HIM
  go_wp2_with fail
  refine (st_sz x HS.out _).mono ?_
  rintro e w1 ⟨rfl, hb⟩
  have HR_1 := blk_below HR_0 hb
  have HB_1 := Lib.hid (HB_0.out.trans (hb.mono HB_0.out.size))
  clear hb HR_0 HB_0 c0 c1 c2
  have c0 := cell_of_row _ _ 0 _ _ _ HR_1
  have c1 := cell_of_row _ _ 1 _ _ _ HR_1
  have c2 := cell_of_row _ _ 2 _ _ _ HR_1
  obtain ⟨z, hz⟩ : ∃ z, ST.left x 1048576 = z := ⟨_, rfl⟩
  have hzm := ST.left_geR x
  rw [hz] at hzm
  rw [hz]
  clear hz
  by_cases hzn : z < 0
  · go_wp2_with fail
    go_ret
    exact ⟨rfl, HB_1.out⟩
  go_wp2_with fail
  refine (st_to x _).mono ?_
  rintro e w2 ⟨rfl, hb⟩
  have HR_2 := blk_below HR_1 hb
  have HB_2 := Lib.hid (HB_1.out.trans (hb.mono HB_1.out.size))
  clear hb HR_1 HB_1 c0 c1 c2
  have c0 := cell_of_row _ _ 0 _ _ _ HR_2
  have c1 := cell_of_row _ _ 1 _ _ _ HR_2
  have c2 := cell_of_row _ _ 2 _ _ _ HR_2
  go_wp2_with fail
  refine (spec_stepTime x q _ HS.out).mono ?_
  rintro e w3 ⟨rfl, hb⟩
  have HR_3 := blk_below HR_2 hb
  have HB_3 := Lib.hid (HB_2.out.trans (hb.mono HB_2.out.size))
  clear hb HR_2 HB_2 c0 c1 c2
  have c0 := cell_of_row _ _ 0 _ _ _ HR_3
  have c1 := cell_of_row _ _ 1 _ _ _ HR_3
  have c2 := cell_of_row _ _ 2 _ _ _ HR_3
  rw [HZ0.out, HY0.out]
  go_wp2_with fail
  refine (st_to x _).mono ?_
  rintro e w4 ⟨rfl, hb⟩
  have HR_4 := blk_below HR_3 hb
  have HB_4 := Lib.hid (HB_3.out.trans (hb.mono HB_3.out.size))
  clear hb HR_3 HB_3 c0 c1 c2
  have c0 := cell_of_row _ _ 0 _ _ _ HR_4
  have c1 := cell_of_row _ _ 1 _ _ _ HR_4
  have c2 := cell_of_row _ _ 2 _ _ _ HR_4
  go_wp2_with fail
  refine (HIM.out _).mono ?_
  rintro e w5 ⟨rfl, hb⟩
  have HR_5 := blk_below HR_4 hb
  have HB_5 := Lib.hid (HB_4.out.trans (hb.mono HB_4.out.size))
  clear hb HR_4 HB_4 c0 c1 c2
  have c0 := cell_of_row _ _ 0 _ _ _ HR_5
  have c1 := cell_of_row _ _ 1 _ _ _ HR_5
  have c2 := cell_of_row _ _ 2 _ _ _ HR_5
  rw [HZ0.out, HY0.out]
  go_wp2_with fail
  go_ret
  exact ⟨rfl, HB_5.out⟩

set_option maxRecDepth 100000 in
set_option maxHeartbeats 4000000 in
theorem ex_IsRouting (v : Value) (r : RT) (w : World) (h : RT.Is 0 w.heap.size w v r) (hs : RT.Sz r) (him : ImplIsRouting) :
    Calls Try.prog 6 #[v] w fun e w' => e = .returned (.bool true) ∧ Below w.heap.size w w' := by
  obtain ⟨u, rfl, h0⟩ := h
  have HMD : Hid (∀ W, Below w.heap.size w W → RT.Is 0 w.heap.size W (.agg #[.string r.item, u]) r) := Lib.hid (fun W hW => ⟨_, rfl, h0.below StN.kept hW⟩)
  have HS := Lib.hid hs
  have HIM := Lib.hid him
  have HG0 := heap_alloc_new w (.cells #[.string r.item, u] 42)
  have HB0 : Below w.heap.size w (w.alloc (.cells #[.string r.item, u] 42)) := (Below.refl _ _).alloc (Nat.le_refl _) _
  obtain ⟨y, hy⟩ : ∃ y, rtB r = y := ⟨_, rfl⟩
  have HY := Lib.hid hy
  clear hy
  have hnn : (y != y) = false := by simp
  clear h0 hs him
  go_enter Try.func6, Try.ntmps6
  go_wp2_with fail
  generalize w.alloc (.cells #[.string r.item, u] 42) = w0 at *
  refine (RT.sz _ r 1048576 _ _ w0 (HMD.out _ HB0) (by omega) (by omega) HS.out).mono ?_
  rintro e w1 ⟨z, rfl, hz0, hz1, hz2, hb⟩
  have HZ2 := Lib.hid hz2
  have HG := Lib.hid (blk_below HG0 hb)
  have HB := Lib.hid (HB0.trans (hb.mono HB0.size))
  clear hz2 hb HG0 HB0
  by_cases hzn : z < 0
  · go_wp2_with fail
    go_ret
    exact ⟨rfl, HB.out⟩
  have HM := Lib.hid (HZ2.out (by omega))
  have g0 := cell_of_row _ _ 0 _ _ _ HG.out
  have g1 := cell_of_row _ _ 1 _ _ _ HG.out
  clear HZ2
  go_wp2_with fail
  refine (RT.to _ r _ _ w1 HB.out.size (HMD.out _ HB.out) HM.out).mono ?_
  rintro e w2 ⟨vA, rfl, hA, hb⟩
  obtain ⟨uA, rfl, hA⟩ := hA
  have HA := Lib.hid hA
  have HG := Lib.hid (blk_below HG.out hb)
  have HB := Lib.hid (HB.out.trans (hb.mono HB.out.size))
  clear hA hb g0 g1
  go_wp2_with fail
  refine (spec_routing r uA _ _ w2 HA.out HS.out).mono ?_
  rintro e w3 ⟨rfl, hb⟩
  rw [HY.out]
  have HG := Lib.hid (blk_below HG.out hb)
  have HB := Lib.hid (HB.out.trans (hb.mono HB.out.size))
  have g0 := cell_of_row _ _ 0 _ _ _ HG.out
  have g1 := cell_of_row _ _ 1 _ _ _ HG.out
  clear hb HA
  go_wp2_with fail
  refine (RT.to _ r _ _ w3 HB.out.size (HMD.out _ HB.out) HM.out).mono ?_
  rintro e w4 ⟨vX, rfl, hX, hb⟩
  obtain ⟨x1, rfl, hx1⟩ := hX
  obtain ⟨sa1, sc1, rfl⟩ := hx1.slice
  have HG := Lib.hid (blk_below HG.out hb)
  have HB := Lib.hid (HB.out.trans (hb.mono HB.out.size))
  have HMX : Hid (∀ W, Below w4.heap.size w4 W → RT.Is w3.heap.size w4.heap.size W (.agg #[.string r.item, .slice sa1 r.steps.length sc1]) r) := Lib.hid (fun W hW => ⟨_, rfl, hx1.below StN.kept hW⟩)
  have hs4 := HB.out.size
  have hlt4 := lt_of_heap HG.out
  have HX1 := Lib.hid hx1
  clear hb g0 g1 hx1
  obtain ⟨W5, hW5⟩ : ∃ W, w4.alloc (.cells #[.string r.item, .slice sa1 r.steps.length sc1] 26) = W := ⟨_, rfl⟩
  have HW5 := Lib.hid hW5
  have HX5 := Lib.hid (show W5.heap[w4.heap.size]? = some (.cells #[.string r.item, .slice sa1 r.steps.length sc1] 26) by rw [← hW5]; exact heap_alloc_new _ _)
  have HB5 : Hid (Below w4.heap.size w4 W5) := Lib.hid (by rw [← hW5]; exact (Below.refl _ _).alloc (Nat.le_refl _) _)
  clear hW5
  have HCK := Lib.hid (HIM.out r _ _ _ W5 (HX1.out.below StN.kept HB5.out) HS.out)
  go_wp2_with fail
  rw [HW5.out]
  refine HCK.out.mono ?_
  rintro e w6 ⟨rfl, hb⟩
  rw [HY.out]
  have HB6 := Lib.hid (HB5.out.trans (hb.mono HB5.out.size))
  have HX6 := Lib.hid (blk_below HX5.out hb)
  have HG6 := Lib.hid (blk_below HG.out HB6.out)
  have HBW := Lib.hid (HB.out.trans (HB6.out.mono HB.out.size))
  clear hb HCK HW5 HX5 HB5 HG HX1
  have g0 := cell_of_row _ _ 0 _ _ _ HG6.out
  have g1 := cell_of_row _ _ 1 _ _ _ HG6.out
  have q0 := cell_of_row _ _ 0 _ _ _ HX6.out
  have q1 := cell_of_row _ _ 1 _ _ _ HX6.out
  have HTO : Hid (∀ W, Below w6.heap.size w6 W → Calls Try.prog 27 #[.agg #[.string r.item, u]] W fun e w' => ∃ v', e = .returned v' ∧ RT.Is W.heap.size w'.heap.size w' v' r ∧ Below W.heap.size W w') := Lib.hid (fun W hW => RT.to _ r _ _ W (HBW.out.trans (hW.mono HBW.out.size)).size (HMD.out _ (HBW.out.trans (hW.mono HBW.out.size))) HM.out)
  have HEQ : Hid (∀ v' lo hi W, RT.Is lo hi W v' r → Below w6.heap.size w6 W → Calls Try.prog 29 #[.agg #[.string r.item, .slice sa1 r.steps.length sc1], v'] W (YesRes W)) := Lib.hid (fun v' lo hi W hv hW => RT.eq _ v' r _ _ lo hi W (HMX.out _ (HB6.out.trans (hW.mono HB6.out.size))) hv HM.out)
  go_upto_region 10 with fail
  go_region_held3 (fun W' => Hid (Below w6.heap.size w6 W') ∧ W'.cell? ⟨w.heap.size, 0, none⟩ = some (.string r.item) ∧ W'.cell? ⟨w.heap.size, 1, none⟩ = some u ∧ W'.cell? ⟨w4.heap.size, 0, none⟩ = some (.string r.item) ∧ W'.cell? ⟨w4.heap.size, 1, none⟩ = some (.slice sa1 r.steps.length sc1))
    (first | assumption | exact hold4 g0 g1 q0 q1 (hold_call (by assumption) (by assumption)) | exact hold4 g0 g1 q0 q1 (Below.refl _ _).drew)
    (first
      | (go_at_call 27; refine (HTO.out _ (by first | exact (by assumption : Hid (Below w6.heap.size w6 _) ∧ _).1.out | exact Below.refl _ _ | exact (Below.refl _ _).drew)).mono ?_; rintro e w' ⟨vC, rfl, hC, hb⟩; have hle := hold_le (by assumption) hb)
      | (go_at_call 29; refine (HEQ.out vC _ _ _ (by first | exact hC | exact hC.below (Below.refl _ _).drew) (by first | exact (by assumption : Hid (Below w6.heap.size w6 _) ∧ _).1.out | exact Below.refl _ _ | exact (Below.refl _ _).drew)).mono ?_; rintro e w' ⟨rfl, hb⟩; have hle := hold_le (by assumption) hb))
  have hS := (by assumption : Hid (Below w6.heap.size w6 _) ∧ _)
  have HBF := Lib.hid (HBW.out.trans (hS.1.out.mono HBW.out.size))
  go_wp2_with fail
  go_ret
  exact ⟨rfl, HBF.out⟩

set_option maxRecDepth 100000 in
set_option maxHeartbeats 4000000 in
theorem ex_RoutingTime (v : Value) (r : RT) (q : Int) (w : World) (h : RT.Is 0 w.heap.size w v r) (hs : RT.Sz r) (him : ImplRoutingTime) :
    Calls Try.prog 10 #[v, .int .i64 q] w fun e w' => e = .returned (.bool true) ∧ Below w.heap.size w w' := by
  obtain ⟨u, rfl, h0⟩ := h
  have HMD : Hid (∀ W, Below w.heap.size w W → RT.Is 0 w.heap.size W (.agg #[.string r.item, u]) r) := Lib.hid (fun W hW => ⟨_, rfl, h0.below StN.kept hW⟩)
  have HS := Lib.hid hs
  have HIM := Lib.hid him
  have HG0 := heap_alloc_new w (.cells #[.string r.item, u] 42)
  have HB0 : Below w.heap.size w (w.alloc (.cells #[.string r.item, u] 42)) := (Below.refl _ _).alloc (Nat.le_refl _) _
  obtain ⟨z0, hz0⟩ : ∃ z, (rtO r q).getD 0 = z := ⟨_, rfl⟩
  have HZ0 := Lib.hid hz0
  obtain ⟨y0, hy0⟩ : ∃ y, (rtO r q).isSome = y := ⟨_, rfl⟩
  have HY0 := Lib.hid hy0
  clear hz0 hy0
  have hnn : (y0 != y0) = false := by simp
  have hmm : (z0 != z0) = false := by simp
  clear h0 hs him
  go_enter Try.func10, Try.ntmps10
  go_wp2_with fail
  generalize w.alloc (.cells #[.string r.item, u] 42) = w0 at *
  refine (RT.sz _ r 1048576 _ _ w0 (HMD.out _ HB0) (by omega) (by omega) HS.out).mono ?_
  rintro e w1 ⟨z, rfl, hz0, hz1, hz2, hb⟩
  have HZ2 := Lib.hid hz2
  have HG := Lib.hid (blk_below HG0 hb)
  have HB := Lib.hid (HB0.trans (hb.mono HB0.size))
  clear hz2 hb HG0 HB0
  by_cases hzn : z < 0
  · go_wp2_with fail
    go_ret
    exact ⟨rfl, HB.out⟩
  have HM := Lib.hid (HZ2.out (by omega))
  have g0 := cell_of_row _ _ 0 _ _ _ HG.out
  have g1 := cell_of_row _ _ 1 _ _ _ HG.out
  clear HZ2
  go_wp2_with fail
  refine (RT.to _ r _ _ w1 HB.out.size (HMD.out _ HB.out) HM.out).mono ?_
  rintro e w2 ⟨vA, rfl, hA, hb⟩
  obtain ⟨uA, rfl, hA⟩ := hA
  have HA := Lib.hid hA
  have HG := Lib.hid (blk_below HG.out hb)
  have HB := Lib.hid (HB.out.trans (hb.mono HB.out.size))
  clear hA hb g0 g1
  go_wp2_with fail
  refine (spec_routingTime r uA q _ _ w2 HA.out HS.out).mono ?_
  rintro e w3 ⟨rfl, hb⟩
  rw [HZ0.out, HY0.out]
  have HG := Lib.hid (blk_below HG.out hb)
  have HB := Lib.hid (HB.out.trans (hb.mono HB.out.size))
  have g0 := cell_of_row _ _ 0 _ _ _ HG.out
  have g1 := cell_of_row _ _ 1 _ _ _ HG.out
  clear hb HA
  go_wp2_with fail
  refine (RT.to _ r _ _ w3 HB.out.size (HMD.out _ HB.out) HM.out).mono ?_
  rintro e w4 ⟨vX, rfl, hX, hb⟩
  obtain ⟨x1, rfl, hx1⟩ := hX
  obtain ⟨sa1, sc1, rfl⟩ := hx1.slice
  have HG := Lib.hid (blk_below HG.out hb)
  have HB := Lib.hid (HB.out.trans (hb.mono HB.out.size))
  have HMX : Hid (∀ W, Below w4.heap.size w4 W → RT.Is w3.heap.size w4.heap.size W (.agg #[.string r.item, .slice sa1 r.steps.length sc1]) r) := Lib.hid (fun W hW => ⟨_, rfl, hx1.below StN.kept hW⟩)
  have hs4 := HB.out.size
  have hlt4 := lt_of_heap HG.out
  have HX1 := Lib.hid hx1
  clear hb g0 g1 hx1
  obtain ⟨W5, hW5⟩ : ∃ W, w4.alloc (.cells #[.string r.item, .slice sa1 r.steps.length sc1] 26) = W := ⟨_, rfl⟩
  have HW5 := Lib.hid hW5
  have HX5 := Lib.hid (show W5.heap[w4.heap.size]? = some (.cells #[.string r.item, .slice sa1 r.steps.length sc1] 26) by rw [← hW5]; exact heap_alloc_new _ _)
  have HB5 : Hid (Below w4.heap.size w4 W5) := Lib.hid (by rw [← hW5]; exact (Below.refl _ _).alloc (Nat.le_refl _) _)
  clear hW5
  have HCK := Lib.hid (HIM.out r _ q _ _ W5 (HX1.out.below StN.kept HB5.out) HS.out)
  go_wp2_with fail
  rw [HW5.out]
  refine HCK.out.mono ?_
  rintro e w6 ⟨rfl, hb⟩
  rw [HZ0.out, HY0.out]
  have HB6 := Lib.hid (HB5.out.trans (hb.mono HB5.out.size))
  have HX6 := Lib.hid (blk_below HX5.out hb)
  have HG6 := Lib.hid (blk_below HG.out HB6.out)
  have HBW := Lib.hid (HB.out.trans (HB6.out.mono HB.out.size))
  clear hb HCK HW5 HX5 HB5 HG HX1
  have g0 := cell_of_row _ _ 0 _ _ _ HG6.out
  have g1 := cell_of_row _ _ 1 _ _ _ HG6.out
  have q0 := cell_of_row _ _ 0 _ _ _ HX6.out
  have q1 := cell_of_row _ _ 1 _ _ _ HX6.out
  have HTO : Hid (∀ W, Below w6.heap.size w6 W → Calls Try.prog 27 #[.agg #[.string r.item, u]] W fun e w' => ∃ v', e = .returned v' ∧ RT.Is W.heap.size w'.heap.size w' v' r ∧ Below W.heap.size W w') := Lib.hid (fun W hW => RT.to _ r _ _ W (HBW.out.trans (hW.mono HBW.out.size)).size (HMD.out _ (HBW.out.trans (hW.mono HBW.out.size))) HM.out)
  have HEQ : Hid (∀ v' lo hi W, RT.Is lo hi W v' r → Below w6.heap.size w6 W → Calls Try.prog 29 #[.agg #[.string r.item, .slice sa1 r.steps.length sc1], v'] W (YesRes W)) := Lib.hid (fun v' lo hi W hv hW => RT.eq _ v' r _ _ lo hi W (HMX.out _ (HB6.out.trans (hW.mono HB6.out.size))) hv HM.out)
  go_upto_region 10 with fail
  go_region_held3 (fun W' => Hid (Below w6.heap.size w6 W') ∧ W'.cell? ⟨w.heap.size, 0, none⟩ = some (.string r.item) ∧ W'.cell? ⟨w.heap.size, 1, none⟩ = some u ∧ W'.cell? ⟨w4.heap.size, 0, none⟩ = some (.string r.item) ∧ W'.cell? ⟨w4.heap.size, 1, none⟩ = some (.slice sa1 r.steps.length sc1))
    (first | assumption | exact hold4 g0 g1 q0 q1 (hold_call (by assumption) (by assumption)) | exact hold4 g0 g1 q0 q1 (Below.refl _ _).drew)
    (first
      | (go_at_call 27; refine (HTO.out _ (by first | exact (by assumption : Hid (Below w6.heap.size w6 _) ∧ _).1.out | exact Below.refl _ _ | exact (Below.refl _ _).drew)).mono ?_; rintro e w' ⟨vC, rfl, hC, hb⟩; have hle := hold_le (by assumption) hb)
      | (go_at_call 29; refine (HEQ.out vC _ _ _ (by first | exact hC | exact hC.below (Below.refl _ _).drew) (by first | exact (by assumption : Hid (Below w6.heap.size w6 _) ∧ _).1.out | exact Below.refl _ _ | exact (Below.refl _ _).drew)).mono ?_; rintro e w' ⟨rfl, hb⟩; have hle := hold_le (by assumption) hb))
  have hS := (by assumption : Hid (Below w6.heap.size w6 _) ∧ _)
  have HBF := Lib.hid (HBW.out.trans (hS.1.out.mono HBW.out.size))
  go_wp2_with fail
  go_ret
  exact ⟨rfl, HBF.out⟩

set_option maxRecDepth 100000 in
set_option maxHeartbeats 4000000 in
theorem ex_SlowestStep (v : Value) (r : RT) (q : Int) (w : World) (h : RT.Is 0 w.heap.size w v r) (hs : RT.Sz r) (him : ImplSlowestStep) :
    Calls Try.prog 11 #[v, .int .i64 q] w fun e w' => e = .returned (.bool true) ∧ Below w.heap.size w w' := by
  obtain ⟨u, rfl, h0⟩ := h
  have HMD : Hid (∀ W, Below w.heap.size w W → RT.Is 0 w.heap.size W (.agg #[.string r.item, u]) r) := Lib.hid (fun W hW => ⟨_, rfl, h0.below StN.kept hW⟩)
  have HS := Lib.hid hs
  have HIM := Lib.hid him
  have HG0 := heap_alloc_new w (.cells #[.string r.item, u] 42)
  have HB0 : Below w.heap.size w (w.alloc (.cells #[.string r.item, u] 42)) := (Below.refl _ _).alloc (Nat.le_refl _) _
  obtain ⟨y, hy⟩ : ∃ y, slowI r q = y := ⟨_, rfl⟩
  have HY := Lib.hid hy
  clear hy
  have hnn : (y != y) = false := by simp
  clear h0 hs him
  go_enter Try.func11, Try.ntmps11
  go_wp2_with fail
  generalize w.alloc (.cells #[.string r.item, u] 42) = w0 at *
  refine (RT.sz _ r 1048576 _ _ w0 (HMD.out _ HB0) (by omega) (by omega) HS.out).mono ?_
  rintro e w1 ⟨z, rfl, hz0, hz1, hz2, hb⟩
  have HZ2 := Lib.hid hz2
  have HG := Lib.hid (blk_below HG0 hb)
  have HB := Lib.hid (HB0.trans (hb.mono HB0.size))
  clear hz2 hb HG0 HB0
  by_cases hzn : z < 0
  · go_wp2_with fail
    go_ret
    exact ⟨rfl, HB.out⟩
  have HM := Lib.hid (HZ2.out (by omega))
  have g0 := cell_of_row _ _ 0 _ _ _ HG.out
  have g1 := cell_of_row _ _ 1 _ _ _ HG.out
  clear HZ2
  go_wp2_with fail
  refine (RT.to _ r _ _ w1 HB.out.size (HMD.out _ HB.out) HM.out).mono ?_
  rintro e w2 ⟨vA, rfl, hA, hb⟩
  obtain ⟨uA, rfl, hA⟩ := hA
  have HA := Lib.hid hA
  have HG := Lib.hid (blk_below HG.out hb)
  have HB := Lib.hid (HB.out.trans (hb.mono HB.out.size))
  clear hA hb g0 g1
  go_wp2_with fail
  refine (spec_slowest r uA q _ _ w2 HA.out HS.out).mono ?_
  rintro e w3 ⟨rfl, hb⟩
  rw [HY.out]
  have HG := Lib.hid (blk_below HG.out hb)
  have HB := Lib.hid (HB.out.trans (hb.mono HB.out.size))
  have g0 := cell_of_row _ _ 0 _ _ _ HG.out
  have g1 := cell_of_row _ _ 1 _ _ _ HG.out
  clear hb HA
  go_wp2_with fail
  refine (RT.to _ r _ _ w3 HB.out.size (HMD.out _ HB.out) HM.out).mono ?_
  rintro e w4 ⟨vX, rfl, hX, hb⟩
  obtain ⟨x1, rfl, hx1⟩ := hX
  obtain ⟨sa1, sc1, rfl⟩ := hx1.slice
  have HG := Lib.hid (blk_below HG.out hb)
  have HB := Lib.hid (HB.out.trans (hb.mono HB.out.size))
  have HMX : Hid (∀ W, Below w4.heap.size w4 W → RT.Is w3.heap.size w4.heap.size W (.agg #[.string r.item, .slice sa1 r.steps.length sc1]) r) := Lib.hid (fun W hW => ⟨_, rfl, hx1.below StN.kept hW⟩)
  have hs4 := HB.out.size
  have hlt4 := lt_of_heap HG.out
  have HX1 := Lib.hid hx1
  clear hb g0 g1 hx1
  obtain ⟨W5, hW5⟩ : ∃ W, w4.alloc (.cells #[.string r.item, .slice sa1 r.steps.length sc1] 26) = W := ⟨_, rfl⟩
  have HW5 := Lib.hid hW5
  have HX5 := Lib.hid (show W5.heap[w4.heap.size]? = some (.cells #[.string r.item, .slice sa1 r.steps.length sc1] 26) by rw [← hW5]; exact heap_alloc_new _ _)
  have HB5 : Hid (Below w4.heap.size w4 W5) := Lib.hid (by rw [← hW5]; exact (Below.refl _ _).alloc (Nat.le_refl _) _)
  clear hW5
  have HCK := Lib.hid (HIM.out r _ q _ _ W5 (HX1.out.below StN.kept HB5.out) HS.out)
  go_wp2_with fail
  rw [HW5.out]
  refine HCK.out.mono ?_
  rintro e w6 ⟨rfl, hb⟩
  rw [HY.out]
  have HB6 := Lib.hid (HB5.out.trans (hb.mono HB5.out.size))
  have HX6 := Lib.hid (blk_below HX5.out hb)
  have HG6 := Lib.hid (blk_below HG.out HB6.out)
  have HBW := Lib.hid (HB.out.trans (HB6.out.mono HB.out.size))
  clear hb HCK HW5 HX5 HB5 HG HX1
  have g0 := cell_of_row _ _ 0 _ _ _ HG6.out
  have g1 := cell_of_row _ _ 1 _ _ _ HG6.out
  have q0 := cell_of_row _ _ 0 _ _ _ HX6.out
  have q1 := cell_of_row _ _ 1 _ _ _ HX6.out
  have HTO : Hid (∀ W, Below w6.heap.size w6 W → Calls Try.prog 27 #[.agg #[.string r.item, u]] W fun e w' => ∃ v', e = .returned v' ∧ RT.Is W.heap.size w'.heap.size w' v' r ∧ Below W.heap.size W w') := Lib.hid (fun W hW => RT.to _ r _ _ W (HBW.out.trans (hW.mono HBW.out.size)).size (HMD.out _ (HBW.out.trans (hW.mono HBW.out.size))) HM.out)
  have HEQ : Hid (∀ v' lo hi W, RT.Is lo hi W v' r → Below w6.heap.size w6 W → Calls Try.prog 29 #[.agg #[.string r.item, .slice sa1 r.steps.length sc1], v'] W (YesRes W)) := Lib.hid (fun v' lo hi W hv hW => RT.eq _ v' r _ _ lo hi W (HMX.out _ (HB6.out.trans (hW.mono HB6.out.size))) hv HM.out)
  go_upto_region 10 with fail
  go_region_held3 (fun W' => Hid (Below w6.heap.size w6 W') ∧ W'.cell? ⟨w.heap.size, 0, none⟩ = some (.string r.item) ∧ W'.cell? ⟨w.heap.size, 1, none⟩ = some u ∧ W'.cell? ⟨w4.heap.size, 0, none⟩ = some (.string r.item) ∧ W'.cell? ⟨w4.heap.size, 1, none⟩ = some (.slice sa1 r.steps.length sc1))
    (first | assumption | exact hold4 g0 g1 q0 q1 (hold_call (by assumption) (by assumption)) | exact hold4 g0 g1 q0 q1 (Below.refl _ _).drew)
    (first
      | (go_at_call 27; refine (HTO.out _ (by first | exact (by assumption : Hid (Below w6.heap.size w6 _) ∧ _).1.out | exact Below.refl _ _ | exact (Below.refl _ _).drew)).mono ?_; rintro e w' ⟨vC, rfl, hC, hb⟩; have hle := hold_le (by assumption) hb)
      | (go_at_call 29; refine (HEQ.out vC _ _ _ (by first | exact hC | exact hC.below (Below.refl _ _).drew) (by first | exact (by assumption : Hid (Below w6.heap.size w6 _) ∧ _).1.out | exact Below.refl _ _ | exact (Below.refl _ _).drew)).mono ?_; rintro e w' ⟨rfl, hb⟩; have hle := hold_le (by assumption) hb))
  have hS := (by assumption : Hid (Below w6.heap.size w6 _) ∧ _)
  have HBF := Lib.hid (HBW.out.trans (hS.1.out.mono HBW.out.size))
  go_wp2_with fail
  go_ret
  exact ⟨rfl, HBF.out⟩

set_option maxRecDepth 100000 in
set_option maxHeartbeats 4000000 in
theorem ex_FlowTime (v : Value) (r : RT) (q : Int) (w : World) (h : RT.Is 0 w.heap.size w v r) (hs : RT.Sz r) (him : ImplFlowTime) :
    Calls Try.prog 12 #[v, .int .i64 q] w fun e w' => e = .returned (.bool true) ∧ Below w.heap.size w w' := by
  obtain ⟨u, rfl, h0⟩ := h
  have HMD : Hid (∀ W, Below w.heap.size w W → RT.Is 0 w.heap.size W (.agg #[.string r.item, u]) r) := Lib.hid (fun W hW => ⟨_, rfl, h0.below StN.kept hW⟩)
  have HS := Lib.hid hs
  have HIM := Lib.hid him
  have HG0 := heap_alloc_new w (.cells #[.string r.item, u] 42)
  have HB0 : Below w.heap.size w (w.alloc (.cells #[.string r.item, u] 42)) := (Below.refl _ _).alloc (Nat.le_refl _) _
  obtain ⟨z0, hz0⟩ : ∃ z, (flO r q).getD 0 = z := ⟨_, rfl⟩
  have HZ0 := Lib.hid hz0
  obtain ⟨y0, hy0⟩ : ∃ y, (flO r q).isSome = y := ⟨_, rfl⟩
  have HY0 := Lib.hid hy0
  clear hz0 hy0
  have hnn : (y0 != y0) = false := by simp
  have hmm : (z0 != z0) = false := by simp
  clear h0 hs him
  go_enter Try.func12, Try.ntmps12
  go_wp2_with fail
  generalize w.alloc (.cells #[.string r.item, u] 42) = w0 at *
  refine (RT.sz _ r 1048576 _ _ w0 (HMD.out _ HB0) (by omega) (by omega) HS.out).mono ?_
  rintro e w1 ⟨z, rfl, hz0, hz1, hz2, hb⟩
  have HZ2 := Lib.hid hz2
  have HG := Lib.hid (blk_below HG0 hb)
  have HB := Lib.hid (HB0.trans (hb.mono HB0.size))
  clear hz2 hb HG0 HB0
  by_cases hzn : z < 0
  · go_wp2_with fail
    go_ret
    exact ⟨rfl, HB.out⟩
  have HM := Lib.hid (HZ2.out (by omega))
  have g0 := cell_of_row _ _ 0 _ _ _ HG.out
  have g1 := cell_of_row _ _ 1 _ _ _ HG.out
  clear HZ2
  go_wp2_with fail
  refine (RT.to _ r _ _ w1 HB.out.size (HMD.out _ HB.out) HM.out).mono ?_
  rintro e w2 ⟨vA, rfl, hA, hb⟩
  obtain ⟨uA, rfl, hA⟩ := hA
  have HA := Lib.hid hA
  have HG := Lib.hid (blk_below HG.out hb)
  have HB := Lib.hid (HB.out.trans (hb.mono HB.out.size))
  clear hA hb g0 g1
  go_wp2_with fail
  refine (spec_flow r uA q _ _ w2 HA.out HS.out).mono ?_
  rintro e w3 ⟨rfl, hb⟩
  rw [HZ0.out, HY0.out]
  have HG := Lib.hid (blk_below HG.out hb)
  have HB := Lib.hid (HB.out.trans (hb.mono HB.out.size))
  have g0 := cell_of_row _ _ 0 _ _ _ HG.out
  have g1 := cell_of_row _ _ 1 _ _ _ HG.out
  clear hb HA
  go_wp2_with fail
  refine (RT.to _ r _ _ w3 HB.out.size (HMD.out _ HB.out) HM.out).mono ?_
  rintro e w4 ⟨vX, rfl, hX, hb⟩
  obtain ⟨x1, rfl, hx1⟩ := hX
  obtain ⟨sa1, sc1, rfl⟩ := hx1.slice
  have HG := Lib.hid (blk_below HG.out hb)
  have HB := Lib.hid (HB.out.trans (hb.mono HB.out.size))
  have HMX : Hid (∀ W, Below w4.heap.size w4 W → RT.Is w3.heap.size w4.heap.size W (.agg #[.string r.item, .slice sa1 r.steps.length sc1]) r) := Lib.hid (fun W hW => ⟨_, rfl, hx1.below StN.kept hW⟩)
  have hs4 := HB.out.size
  have hlt4 := lt_of_heap HG.out
  have HX1 := Lib.hid hx1
  clear hb g0 g1 hx1
  obtain ⟨W5, hW5⟩ : ∃ W, w4.alloc (.cells #[.string r.item, .slice sa1 r.steps.length sc1] 26) = W := ⟨_, rfl⟩
  have HW5 := Lib.hid hW5
  have HX5 := Lib.hid (show W5.heap[w4.heap.size]? = some (.cells #[.string r.item, .slice sa1 r.steps.length sc1] 26) by rw [← hW5]; exact heap_alloc_new _ _)
  have HB5 : Hid (Below w4.heap.size w4 W5) := Lib.hid (by rw [← hW5]; exact (Below.refl _ _).alloc (Nat.le_refl _) _)
  clear hW5
  have HCK := Lib.hid (HIM.out r _ q _ _ W5 (HX1.out.below StN.kept HB5.out) HS.out)
  go_wp2_with fail
  rw [HW5.out]
  refine HCK.out.mono ?_
  rintro e w6 ⟨rfl, hb⟩
  rw [HZ0.out, HY0.out]
  have HB6 := Lib.hid (HB5.out.trans (hb.mono HB5.out.size))
  have HX6 := Lib.hid (blk_below HX5.out hb)
  have HG6 := Lib.hid (blk_below HG.out HB6.out)
  have HBW := Lib.hid (HB.out.trans (HB6.out.mono HB.out.size))
  clear hb HCK HW5 HX5 HB5 HG HX1
  have g0 := cell_of_row _ _ 0 _ _ _ HG6.out
  have g1 := cell_of_row _ _ 1 _ _ _ HG6.out
  have q0 := cell_of_row _ _ 0 _ _ _ HX6.out
  have q1 := cell_of_row _ _ 1 _ _ _ HX6.out
  have HTO : Hid (∀ W, Below w6.heap.size w6 W → Calls Try.prog 27 #[.agg #[.string r.item, u]] W fun e w' => ∃ v', e = .returned v' ∧ RT.Is W.heap.size w'.heap.size w' v' r ∧ Below W.heap.size W w') := Lib.hid (fun W hW => RT.to _ r _ _ W (HBW.out.trans (hW.mono HBW.out.size)).size (HMD.out _ (HBW.out.trans (hW.mono HBW.out.size))) HM.out)
  have HEQ : Hid (∀ v' lo hi W, RT.Is lo hi W v' r → Below w6.heap.size w6 W → Calls Try.prog 29 #[.agg #[.string r.item, .slice sa1 r.steps.length sc1], v'] W (YesRes W)) := Lib.hid (fun v' lo hi W hv hW => RT.eq _ v' r _ _ lo hi W (HMX.out _ (HB6.out.trans (hW.mono HB6.out.size))) hv HM.out)
  go_upto_region 10 with fail
  go_region_held3 (fun W' => Hid (Below w6.heap.size w6 W') ∧ W'.cell? ⟨w.heap.size, 0, none⟩ = some (.string r.item) ∧ W'.cell? ⟨w.heap.size, 1, none⟩ = some u ∧ W'.cell? ⟨w4.heap.size, 0, none⟩ = some (.string r.item) ∧ W'.cell? ⟨w4.heap.size, 1, none⟩ = some (.slice sa1 r.steps.length sc1))
    (first | assumption | exact hold4 g0 g1 q0 q1 (hold_call (by assumption) (by assumption)) | exact hold4 g0 g1 q0 q1 (Below.refl _ _).drew)
    (first
      | (go_at_call 27; refine (HTO.out _ (by first | exact (by assumption : Hid (Below w6.heap.size w6 _) ∧ _).1.out | exact Below.refl _ _ | exact (Below.refl _ _).drew)).mono ?_; rintro e w' ⟨vC, rfl, hC, hb⟩; have hle := hold_le (by assumption) hb)
      | (go_at_call 29; refine (HEQ.out vC _ _ _ (by first | exact hC | exact hC.below (Below.refl _ _).drew) (by first | exact (by assumption : Hid (Below w6.heap.size w6 _) ∧ _).1.out | exact Below.refl _ _ | exact (Below.refl _ _).drew)).mono ?_; rintro e w' ⟨rfl, hb⟩; have hle := hold_le (by assumption) hb))
  have hS := (by assumption : Hid (Below w6.heap.size w6 _) ∧ _)
  have HBF := Lib.hid (HBW.out.trans (hS.1.out.mono HBW.out.size))
  go_wp2_with fail
  go_ret
  exact ⟨rfl, HBF.out⟩

set_option maxRecDepth 100000 in
set_option maxHeartbeats 4000000 in
theorem ex_AreRoutings (v : Value) (l : List RT) (w : World) (h : RU 0 w.heap.size w v l) (hs : RU.Sz l) (him : ImplAreRoutings) :
    Calls Try.prog 7 #[v] w fun e w' => e = .returned (.bool true) ∧ Below w.heap.size w w' := by
  have HX := Lib.hid h
  have HS := Lib.hid hs
  have HIM := Lib.hid him
  obtain ⟨a1, c1, rfl⟩ := h.slice
  obtain ⟨y, hy⟩ : ∃ y, rtsB l = y := ⟨_, rfl⟩
  have HY := Lib.hid hy
  clear hy
  have hnn : (y != y) = false := by simp
  clear h hs him
  go_enter Try.func7, Try.ntmps7
  go_wp2_with fail
  refine (RU.sz _ l 1048576 _ _ w HX.out (by omega) (by omega) HS.out).mono ?_
  rintro e w1 ⟨z, rfl, hz0, hz1, hz2, hb⟩
  have HZ2 := Lib.hid hz2
  have HB := Lib.hid hb
  clear hz2 hb
  by_cases hzn : z < 0
  · go_wp2_with fail
    go_ret
    exact ⟨rfl, HB.out⟩
  have HM := Lib.hid (HZ2.out (by omega))
  clear HZ2
  go_wp2_with fail
  refine (RU.to _ l _ _ w1 HB.out.size (HX.out.below RTN.kept HB.out) HM.out).mono ?_
  rintro e w2 ⟨vA, rfl, hoA, hb⟩
  have HA := Lib.hid hoA
  have HB := Lib.hid (HB.out.trans (hb.mono HB.out.size))
  obtain ⟨pA, qA, rfl⟩ := hoA.slice
  clear hb hoA
  go_wp2_with fail
  refine (spec_routings _ l _ _ w2 HA.out HS.out).mono ?_
  rintro e w3 ⟨rfl, hb⟩
  rw [HY.out]
  have HB := Lib.hid (HB.out.trans (hb.mono HB.out.size))
  clear hb HA
  go_wp2_with fail
  refine (RU.to _ l _ _ w3 HB.out.size (HX.out.below RTN.kept HB.out) HM.out).mono ?_
  rintro e w4 ⟨vX, rfl, hoX, hb⟩
  have HXX := Lib.hid hoX
  have HB := Lib.hid (HB.out.trans (hb.mono HB.out.size))
  obtain ⟨pX, qX, rfl⟩ := hoX.slice
  clear hb hoX
  go_wp2_with fail
  refine (HIM.out _ l _ _ w4 HXX.out HS.out).mono ?_
  rintro e w5 ⟨rfl, hb⟩
  rw [HY.out]
  have HB := Lib.hid (HB.out.trans (hb.mono HB.out.size))
  have HX5 := Lib.hid (HXX.out.below RTN.kept hb)
  clear hb HXX
  go_wp2_with fail
  refine (RU.to _ l _ _ w5 HB.out.size (HX.out.below RTN.kept HB.out) HM.out).mono ?_
  rintro e w6 ⟨vC, rfl, hoC, hb⟩
  have HC := Lib.hid hoC
  have HB := Lib.hid (HB.out.trans (hb.mono HB.out.size))
  obtain ⟨pC, qC, rfl⟩ := hoC.slice
  have hbC := hb
  clear hb hoC
  have HX6 := Lib.hid (HX5.out.below RTN.kept hbC)
  go_wp2_with fail
  refine (RU.eq _ _ l _ _ _ _ w6 HX6.out HC.out HM.out).mono ?_
  rintro e w7 ⟨rfl, hb⟩
  have HB := Lib.hid (HB.out.trans (hb.mono HB.out.size))
  clear hb
  go_wp2_with fail
  go_ret
  exact ⟨rfl, HB.out⟩

set_option maxRecDepth 100000 in
set_option maxHeartbeats 4000000 in
theorem ex_FindRouting (v : Value) (l : List RT) (s : ByteArray) (w : World) (h : RU 0 w.heap.size w v l) (hs : RU.Sz l) (ht : s.size ≤ maxLen) (him : ImplFindRouting) :
    Calls Try.prog 8 #[v, .string s] w fun e w' => e = .returned (.bool true) ∧ Below w.heap.size w w' := by
  have HX := Lib.hid h
  have HS := Lib.hid hs
  have HIM := Lib.hid him
  obtain ⟨a1, c1, rfl⟩ := h.slice
  obtain ⟨y, hy⟩ : ∃ y, fiR l s = y := ⟨_, rfl⟩
  have HY := Lib.hid hy
  clear hy
  have hnn : (y != y) = false := by simp
  unfold maxLen at ht
  clear h hs him
  by_cases hbig : 1048576 < s.size
  · go_enter Try.func8, Try.ntmps8
    go_wp2_with fail
    go_ret
    exact ⟨rfl, Below.refl _ _⟩
  go_enter Try.func8, Try.ntmps8
  go_wp2_with fail
  refine (RU.sz _ l 1048576 _ _ w HX.out (by omega) (by omega) HS.out).mono ?_
  rintro e w1 ⟨z, rfl, hz0, hz1, hz2, hb⟩
  have HZ2 := Lib.hid hz2
  have HB := Lib.hid hb
  clear hz2 hb
  by_cases hzn : z < 0
  · go_wp2_with fail
    go_ret
    exact ⟨rfl, HB.out⟩
  have HM := Lib.hid (HZ2.out (by omega))
  clear HZ2
  go_wp2_with fail
  refine (RU.to _ l _ _ w1 HB.out.size (HX.out.below RTN.kept HB.out) HM.out).mono ?_
  rintro e w2 ⟨vA, rfl, hoA, hb⟩
  have HA := Lib.hid hoA
  have HB := Lib.hid (HB.out.trans (hb.mono HB.out.size))
  obtain ⟨pA, qA, rfl⟩ := hoA.slice
  clear hb hoA
  go_wp2_with fail
  refine (spec_findRouting _ l s _ _ w2 HA.out HS.out).mono ?_
  rintro e w3 ⟨rfl, hb⟩
  rw [HY.out]
  have HB := Lib.hid (HB.out.trans (hb.mono HB.out.size))
  clear hb HA
  go_wp2_with fail
  refine (RU.to _ l _ _ w3 HB.out.size (HX.out.below RTN.kept HB.out) HM.out).mono ?_
  rintro e w4 ⟨vX, rfl, hoX, hb⟩
  have HXX := Lib.hid hoX
  have HB := Lib.hid (HB.out.trans (hb.mono HB.out.size))
  obtain ⟨pX, qX, rfl⟩ := hoX.slice
  clear hb hoX
  go_wp2_with fail
  refine (HIM.out _ l s _ _ w4 HXX.out HS.out).mono ?_
  rintro e w5 ⟨rfl, hb⟩
  rw [HY.out]
  have HB := Lib.hid (HB.out.trans (hb.mono HB.out.size))
  have HX5 := Lib.hid (HXX.out.below RTN.kept hb)
  clear hb HXX
  go_wp2_with fail
  refine (RU.to _ l _ _ w5 HB.out.size (HX.out.below RTN.kept HB.out) HM.out).mono ?_
  rintro e w6 ⟨vC, rfl, hoC, hb⟩
  have HC := Lib.hid hoC
  have HB := Lib.hid (HB.out.trans (hb.mono HB.out.size))
  obtain ⟨pC, qC, rfl⟩ := hoC.slice
  have hbC := hb
  clear hb hoC
  have HX6 := Lib.hid (HX5.out.below RTN.kept hbC)
  go_wp2_with fail
  refine (RU.eq _ _ l _ _ _ _ w6 HX6.out HC.out HM.out).mono ?_
  rintro e w7 ⟨rfl, hb⟩
  have HB := Lib.hid (HB.out.trans (hb.mono HB.out.size))
  clear hb
  go_wp2_with fail
  go_ret
  exact ⟨rfl, HB.out⟩

end Go.Proofs.Ytfcgdhedaefonaa
