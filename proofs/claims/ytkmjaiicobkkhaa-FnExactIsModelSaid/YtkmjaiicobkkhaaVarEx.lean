/-
  The walks of the exact laws of IsModel and IsPartial.
-/
import Derived.Test.YtkmjaiicobkkhaaVarPart
import Derived.Test.YtkmjaiicobkkhaaVarPartI
import Derived.Test.YtkmjaiicobkkhaaPKTo
import Derived.Test.YtkmjaiicobkkhaaPKEq
import Derived.Test.YtkmjaiicobkkhaaHold
import Derived.WalkKit
import Derived.WalkSpells
import Derived.WalkSmall
import Derived.Deep.DeepCutAuto
import Derived.Deep.RegionHeld3
import Derived.Lib.Hide
namespace Go.Proofs.Ytkmjaiicobkkhaa
open Go.RowKit

set_option maxRecDepth 100000 in
set_option maxHeartbeats 4000000 in
theorem ex_IsModel (v : Value) (m : MD) (w : World) (h : MD.Is 0 w.heap.size w v m) (hs : MD.Sz m) :
    Calls Try.prog 6 #[v] w fun e w' => e = .returned (.bool true) ∧ Below w.heap.size w w' := by
  obtain ⟨u0, u1, rfl, h0, h1⟩ := h
  have HMD : Hid (∀ W, Below w.heap.size w W → MD.Is 0 w.heap.size W (.agg #[u0, u1]) m) := Lib.hid (fun W hW => ⟨_, _, rfl, h0.below OPN.kept hW, h1.below RXN.kept hW⟩)
  have HS := Lib.hid hs
  have HG0 := heap_alloc_new w (.cells #[u0, u1] 51)
  have HB0 : Below w.heap.size w (w.alloc (.cells #[u0, u1] 51)) := (Below.refl _ _).alloc (Nat.le_refl _) _
  obtain ⟨y, hy⟩ : ∃ y, modelB m = y := ⟨_, rfl⟩
  have HY := Lib.hid hy
  have hnn : (y != y) = false := by simp
  clear h0 h1 hs hy
  go_enter Try.func6, Try.ntmps6
  go_wp2_with fail
  generalize w.alloc (.cells #[u0, u1] 51) = w0 at *
  refine (MD.sz _ m 1048576 _ _ w0 (HMD.out _ HB0) (by omega) (by omega) HS.out).mono ?_
  rintro e w1 ⟨z, rfl, hz0, hz1, hz2, hb⟩
  have HZ2 := Lib.hid hz2
  have HG := Lib.hid (blk_below HG0 hb)
  have HB := Lib.hid (HB0.trans (hb.mono HB0.size))
  clear hz2 hb HG0 HB0
  by_cases hzn : z < 0
  · go_wp2_with fail
    go_ret
    exact ⟨rfl, HB.out⟩
  have HM := Lib.hid (HZ2.out (by omega))
  have g0 := cell_of_row _ _ 0 _ _ _ HG.out
  have g1 := cell_of_row _ _ 1 _ _ _ HG.out
  clear HZ2
  go_wp2_with fail
  refine (MD.to _ m _ _ w1 HB.out.size (HMD.out _ HB.out) HM.out).mono ?_
  rintro e w2 ⟨vA, rfl, hA, hb⟩
  have HA := Lib.hid hA
  have HG := Lib.hid (blk_below HG.out hb)
  have HB := Lib.hid (HB.out.trans (hb.mono HB.out.size))
  clear hA hb g0 g1
  go_wp2_with fail
  refine (spec_isModel vA m _ _ w2 HA.out HM.out HS.out).mono ?_
  rintro e w3 ⟨rfl, hb⟩
  rw [HY.out]
  have HG := Lib.hid (blk_below HG.out hb)
  have HB := Lib.hid (HB.out.trans (hb.mono HB.out.size))
  have g0 := cell_of_row _ _ 0 _ _ _ HG.out
  have g1 := cell_of_row _ _ 1 _ _ _ HG.out
  clear hb HA
  go_wp2_with fail
  refine (MD.to _ m _ _ w3 HB.out.size (HMD.out _ HB.out) HM.out).mono ?_
  rintro e w4 ⟨vX, rfl, hX, hb⟩
  obtain ⟨x0, x1, rfl, hx0, hx1⟩ := hX
  obtain ⟨sa0, sc0, rfl⟩ := hx0.slice
  obtain ⟨sa1, sc1, rfl⟩ := hx1.slice
  have HG := Lib.hid (blk_below HG.out hb)
  have HB := Lib.hid (HB.out.trans (hb.mono HB.out.size))
  have HMX : Hid (∀ W, Below w4.heap.size w4 W → MD.Is w3.heap.size w4.heap.size W (.agg #[.slice sa0 m.opts.length sc0, .slice sa1 m.rules.length sc1]) m) := Lib.hid (fun W hW => ⟨_, _, rfl, hx0.below OPN.kept hW, hx1.below RXN.kept hW⟩)
  have hs4 := HB.out.size
  have hlt4 := lt_of_heap HG.out
  clear hb g0 g1 hx0 hx1
  obtain ⟨W5, hW5⟩ : ∃ W, w4.alloc (.cells #[.slice sa0 m.opts.length sc0, .slice sa1 m.rules.length sc1] 27) = W := ⟨_, rfl⟩
  have HW5 := Lib.hid hW5
  have HX5 := Lib.hid (show W5.heap[w4.heap.size]? = some (.cells #[.slice sa0 m.opts.length sc0, .slice sa1 m.rules.length sc1] 27) by rw [← hW5]; exact heap_alloc_new _ _)
  have HB5 : Hid (Below w4.heap.size w4 W5) := Lib.hid (by rw [← hW5]; exact (Below.refl _ _).alloc (Nat.le_refl _) _)
  clear hW5
  have HCK := Lib.hid (im_isModel _ m _ _ W5 (HMX.out _ HB5.out) HM.out HS.out)
  go_wp2_with fail
  rw [HW5.out]
  refine HCK.out.mono ?_
  rintro e w6 ⟨rfl, hb⟩
  rw [HY.out]
  have HB6 := Lib.hid (HB5.out.trans (hb.mono HB5.out.size))
  have HX6 := Lib.hid (blk_below HX5.out hb)
  have HG6 := Lib.hid (blk_below HG.out HB6.out)
  have HBW := Lib.hid (HB.out.trans (HB6.out.mono HB.out.size))
  clear hb HCK HW5 HX5 HB5 HG
  have g0 := cell_of_row _ _ 0 _ _ _ HG6.out
  have g1 := cell_of_row _ _ 1 _ _ _ HG6.out
  have q0 := cell_of_row _ _ 0 _ _ _ HX6.out
  have q1 := cell_of_row _ _ 1 _ _ _ HX6.out
  have HTO : Hid (∀ W, Below w6.heap.size w6 W → Calls Try.prog 32 #[.agg #[u0, u1]] W fun e w' => ∃ v', e = .returned v' ∧ MD.Is W.heap.size w'.heap.size w' v' m ∧ Below W.heap.size W w') := Lib.hid (fun W hW => MD.to _ m _ _ W (HBW.out.trans (hW.mono HBW.out.size)).size (HMD.out _ (HBW.out.trans (hW.mono HBW.out.size))) HM.out)
  have HEQ : Hid (∀ v' lo hi W, MD.Is lo hi W v' m → Below w6.heap.size w6 W → Calls Try.prog 34 #[.agg #[.slice sa0 m.opts.length sc0, .slice sa1 m.rules.length sc1], v'] W (YesRes W)) := Lib.hid (fun v' lo hi W hv hW => MD.eq _ v' m _ _ lo hi W (HMX.out _ (HB6.out.trans (hW.mono HB6.out.size))) hv HM.out)
  go_upto_region 10 with fail
  go_region_held3 (fun W' => Hid (Below w6.heap.size w6 W') ∧ W'.cell? ⟨w.heap.size, 0, none⟩ = some u0 ∧ W'.cell? ⟨w.heap.size, 1, none⟩ = some u1 ∧ W'.cell? ⟨w4.heap.size, 0, none⟩ = some (.slice sa0 m.opts.length sc0) ∧ W'.cell? ⟨w4.heap.size, 1, none⟩ = some (.slice sa1 m.rules.length sc1))
    (first | assumption | exact hold4 g0 g1 q0 q1 (hold_call (by assumption) (by assumption)) | exact hold4 g0 g1 q0 q1 (Below.refl _ _).drew)
    (first
      | (go_at_call 32; refine (HTO.out _ (by first | exact (by assumption : Hid (Below w6.heap.size w6 _) ∧ _).1.out | exact Below.refl _ _ | exact (Below.refl _ _).drew)).mono ?_; rintro e w' ⟨vC, rfl, hC, hb⟩; have hle := hold_le (by assumption) hb)
      | (go_at_call 34; refine (HEQ.out vC _ _ _ (by first | exact hC | exact hC.below (Below.refl _ _).drew) (by first | exact (by assumption : Hid (Below w6.heap.size w6 _) ∧ _).1.out | exact Below.refl _ _ | exact (Below.refl _ _).drew)).mono ?_; rintro e w' ⟨rfl, hb⟩; have hle := hold_le (by assumption) hb))
  have hS := (by assumption : Hid (Below w6.heap.size w6 _) ∧ _)
  have HBF := Lib.hid (HBW.out.trans (hS.1.out.mono HBW.out.size))
  go_wp2_with fail
  go_ret
  exact ⟨rfl, HBF.out⟩

set_option maxRecDepth 100000 in
set_option maxHeartbeats 4000000 in
theorem ex_IsPartial (v : Value) (m : MD) (v2 : Value) (ps : List PK) (w : World) (h : MD.Is 0 w.heap.size w v m) (hs : MD.Sz m) (h2 : PK.Is w v2 ps) (hm2 : ps.length ≤ maxLen) (hs2 : ∀ r, r ∈ ps → PK.Sz r) :
    Calls Try.prog 7 #[v, v2] w fun e w' => e = .returned (.bool true) ∧ Below w.heap.size w w' := by
  obtain ⟨u0, u1, rfl, h0, h1⟩ := h
  have HMD : Hid (∀ W, Below w.heap.size w W → MD.Is 0 w.heap.size W (.agg #[u0, u1]) m) := Lib.hid (fun W hW => ⟨_, _, rfl, h0.below OPN.kept hW, h1.below RXN.kept hW⟩)
  have HS := Lib.hid hs
  have HP := Lib.hid h2
  have HS2 := Lib.hid hs2
  have HM2 := Lib.hid hm2
  obtain ⟨pa, pc, rfl⟩ := h2.slice
  have HG0 := heap_alloc_new w (.cells #[u0, u1] 51)
  have HB0 : Below w.heap.size w (w.alloc (.cells #[u0, u1] 51)) := (Below.refl _ _).alloc (Nat.le_refl _) _
  obtain ⟨y, hy⟩ : ∃ y, partB m ps = y := ⟨_, rfl⟩
  have HY := Lib.hid hy
  have hnn : (y != y) = false := by simp
  clear h0 h1 hs hy h2 hs2 hm2
  go_enter Try.func7, Try.ntmps7
  go_wp2_with fail
  generalize w.alloc (.cells #[u0, u1] 51) = w0 at *
  refine (MD.sz _ m 1048576 _ _ w0 (HMD.out _ HB0) (by omega) (by omega) HS.out).mono ?_
  rintro e w1 ⟨z, rfl, hz0, hz1, hz2, hb⟩
  have HZ2 := Lib.hid hz2
  have HG := Lib.hid (blk_below HG0 hb)
  have HB := Lib.hid (HB0.trans (hb.mono HB0.size))
  clear hz2 hb HG0 HB0
  by_cases hzn : z < 0
  · go_wp2_with fail
    go_ret
    exact ⟨rfl, HB.out⟩
  have HM := Lib.hid (HZ2.out (by omega))
  clear HZ2
  go_wp2_with fail
  refine (PK.sz_all _ ps z w1 (HP.out.below HB.out) (by omega) (by omega) HM2.out HS2.out).mono ?_
  rintro e w2 ⟨z2, rfl, hy0, hy1, hy2, hb⟩
  have HZ3 := Lib.hid hy2
  have HG := Lib.hid (blk_below HG.out hb)
  have HB := Lib.hid (HB.out.trans (hb.mono HB.out.size))
  clear hy2 hb
  by_cases hzm : z2 < 0
  · go_wp2_with fail
    go_ret
    exact ⟨rfl, HB.out⟩
  have HL2 : Hid (ps.length ≤ 1048576) := Lib.hid (by have := HZ3.out (by omega); omega)
  have g0 := cell_of_row _ _ 0 _ _ _ HG.out
  have g1 := cell_of_row _ _ 1 _ _ _ HG.out
  clear HZ3 HM2
  go_wp2_with fail
  refine (MD.to _ m _ _ w2 HB.out.size (HMD.out _ HB.out) HM.out).mono ?_
  rintro e w3 ⟨vA, rfl, hA, hb⟩
  have HA := Lib.hid hA
  have HG := Lib.hid (blk_below HG.out hb)
  have HB := Lib.hid (HB.out.trans (hb.mono HB.out.size))
  clear hA hb g0 g1
  go_wp2_with fail
  refine (PK.to_all _ ps w3 (HP.out.below HB.out) HL2.out).mono ?_
  rintro e w4 ⟨vB, rfl, hB, hb⟩
  have HA := Lib.hid (HA.out.below hb)
  have HPB := Lib.hid (PK.is_of_row hB)
  have HG := Lib.hid (blk_below HG.out hb)
  have HB := Lib.hid (HB.out.trans (hb.mono HB.out.size))
  clear hB hb
  go_wp2_with fail
  refine (spec_isPartial vA vB m ps _ _ w4 HA.out HM.out HS.out HPB.out HL2.out).mono ?_
  rintro e w5 ⟨rfl, hb⟩
  rw [HY.out]
  have HG := Lib.hid (blk_below HG.out hb)
  have HB := Lib.hid (HB.out.trans (hb.mono HB.out.size))
  have g0 := cell_of_row _ _ 0 _ _ _ HG.out
  have g1 := cell_of_row _ _ 1 _ _ _ HG.out
  clear hb HA HPB
  go_wp2_with fail
  refine (MD.to _ m _ _ w5 HB.out.size (HMD.out _ HB.out) HM.out).mono ?_
  rintro e w6 ⟨vX, rfl, hX, hb⟩
  obtain ⟨x0, x1, rfl, hx0, hx1⟩ := hX
  obtain ⟨sa0, sc0, rfl⟩ := hx0.slice
  obtain ⟨sa1, sc1, rfl⟩ := hx1.slice
  have HG := Lib.hid (blk_below HG.out hb)
  have HB := Lib.hid (HB.out.trans (hb.mono HB.out.size))
  have HMX : Hid (∀ W, Below w6.heap.size w6 W → MD.Is w5.heap.size w6.heap.size W (.agg #[.slice sa0 m.opts.length sc0, .slice sa1 m.rules.length sc1]) m) := Lib.hid (fun W hW => ⟨_, _, rfl, hx0.below OPN.kept hW, hx1.below RXN.kept hW⟩)
  have hs4 := HB.out.size
  have hlt4 := lt_of_heap HG.out
  clear hb g0 g1 hx0 hx1
  obtain ⟨W5, hW5⟩ : ∃ W, w6.alloc (.cells #[.slice sa0 m.opts.length sc0, .slice sa1 m.rules.length sc1] 27) = W := ⟨_, rfl⟩
  have HW5 := Lib.hid hW5
  have HX5 := Lib.hid (show W5.heap[w6.heap.size]? = some (.cells #[.slice sa0 m.opts.length sc0, .slice sa1 m.rules.length sc1] 27) by rw [← hW5]; exact heap_alloc_new _ _)
  have HB5 : Hid (Below w6.heap.size w6 W5) := Lib.hid (by rw [← hW5]; exact (Below.refl _ _).alloc (Nat.le_refl _) _)
  clear hW5
  have HCK := Lib.hid (PK.to_all (.slice pa ps.length pc) ps W5 (HP.out.below (HB.out.trans (HB5.out.mono HB.out.size))) HL2.out)
  go_wp2_with fail
  rw [HW5.out]
  refine HCK.out.mono ?_
  rintro e w7 ⟨vY, rfl, hYr, hb⟩
  have HYP := Lib.hid (PK.is_of_row hYr)
  have HB7 := Lib.hid (HB5.out.trans (hb.mono HB5.out.size))
  have HX7 := Lib.hid (blk_below HX5.out hb)
  have q0 := cell_of_row _ _ 0 _ _ _ HX7.out
  have q1 := cell_of_row _ _ 1 _ _ _ HX7.out
  clear hb hYr HCK HW5 HX5 HB5
  have HCK := Lib.hid (im_isPartial _ vY m ps _ _ w7 (HMX.out _ HB7.out) HM.out HS.out HYP.out HL2.out)
  go_wp2_with fail
  refine HCK.out.mono ?_
  rintro e w8 ⟨rfl, hb⟩
  rw [HY.out]
  have HYP := Lib.hid (HYP.out.below hb)
  have HB8 := Lib.hid (HB7.out.trans (hb.mono HB7.out.size))
  have HX8 := Lib.hid (blk_below HX7.out hb)
  have HG8 := Lib.hid (blk_below HG.out HB8.out)
  have HBW := Lib.hid (HB.out.trans (HB8.out.mono HB.out.size))
  clear hb HCK HB7 HX7 HG q0 q1
  have g0 := cell_of_row _ _ 0 _ _ _ HG8.out
  have g1 := cell_of_row _ _ 1 _ _ _ HG8.out
  have q0 := cell_of_row _ _ 0 _ _ _ HX8.out
  have q1 := cell_of_row _ _ 1 _ _ _ HX8.out
  have HTO : Hid (∀ W, Below w8.heap.size w8 W → Calls Try.prog 32 #[.agg #[u0, u1]] W fun e w' => ∃ v', e = .returned v' ∧ MD.Is W.heap.size w'.heap.size w' v' m ∧ Below W.heap.size W w') := Lib.hid (fun W hW => MD.to _ m _ _ W (HBW.out.trans (hW.mono HBW.out.size)).size (HMD.out _ (HBW.out.trans (hW.mono HBW.out.size))) HM.out)
  have HEQ : Hid (∀ v' lo hi W, MD.Is lo hi W v' m → Below w8.heap.size w8 W → Calls Try.prog 34 #[.agg #[.slice sa0 m.opts.length sc0, .slice sa1 m.rules.length sc1], v'] W (YesRes W)) := Lib.hid (fun v' lo hi W hv hW => MD.eq _ v' m _ _ lo hi W (HMX.out _ (HB8.out.trans (hW.mono HB8.out.size))) hv HM.out)
  go_upto_region 14 with fail
  go_region_held3 (fun W' => Hid (Below w8.heap.size w8 W') ∧ W'.cell? ⟨w.heap.size, 0, none⟩ = some u0 ∧ W'.cell? ⟨w.heap.size, 1, none⟩ = some u1 ∧ W'.cell? ⟨w6.heap.size, 0, none⟩ = some (.slice sa0 m.opts.length sc0) ∧ W'.cell? ⟨w6.heap.size, 1, none⟩ = some (.slice sa1 m.rules.length sc1))
    (first | assumption | exact hold4 g0 g1 q0 q1 (hold_call (by assumption) (by assumption)) | exact hold4 g0 g1 q0 q1 (Below.refl _ _).drew)
    (first
      | (go_at_call 32; refine (HTO.out _ (by first | exact (by assumption : Hid (Below w8.heap.size w8 _) ∧ _).1.out | exact Below.refl _ _ | exact (Below.refl _ _).drew)).mono ?_; rintro e w' ⟨vC, rfl, hC, hb⟩; have hle := hold_le (by assumption) hb)
      | (go_at_call 34; refine (HEQ.out vC _ _ _ (by first | exact hC | exact hC.below (Below.refl _ _).drew) (by first | exact (by assumption : Hid (Below w8.heap.size w8 _) ∧ _).1.out | exact Below.refl _ _ | exact (Below.refl _ _).drew)).mono ?_; rintro e w' ⟨rfl, hb⟩; have hle := hold_le (by assumption) hb))
  have hS := (by assumption : Hid (Below w8.heap.size w8 w') ∧ _)
  have HBF := Lib.hid (HBW.out.trans (hS.1.out.mono HBW.out.size))
  have HYP9 := Lib.hid (HYP.out.below hS.1.out)
  go_wp2_with fail
  refine (PK.to_all _ ps _ (HP.out.below HBF.out) HL2.out).mono ?_
  rintro e w10 ⟨vD, rfl, hD, hb⟩
  have HDP := Lib.hid (PK.is_of_row hD)
  have HYP10 := Lib.hid (HYP9.out.below hb)
  have HBF := Lib.hid (HBF.out.trans (hb.mono HBF.out.size))
  clear hb hD
  go_wp2_with fail
  refine (PK.eq_all _ _ ps w10 HYP10.out HDP.out (by have := HL2.out; omega)).mono ?_
  rintro e w11 ⟨rfl, hb⟩
  have HBF := Lib.hid (HBF.out.trans (hb.mono HBF.out.size))
  clear hb
  go_wp2_with fail
  go_ret
  exact ⟨rfl, HBF.out⟩
end Go.Proofs.Ytkmjaiicobkkhaa
