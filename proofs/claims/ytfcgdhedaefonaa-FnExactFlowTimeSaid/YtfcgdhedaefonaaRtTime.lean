/-
  The model's StepTime, RoutingTime, SlowestStep and FlowTime.
-/
import Derived.Test.YtfcgdhedaefonaaRtSpec
import Derived.WalkKit
import Derived.WalkSpells
import Derived.WalkSmall
import Derived.BigQuiet
import Derived.OwnWalk
import Derived.Deep.QuietTactic
import Derived.Deep.DeepCutAuto
import Derived.Deep.RegionHeld3
import Derived.Laws.OwnMore
import Derived.Lib.Hide
namespace Go.Proofs.Ytfcgdhedaefonaa
open Go.RowKit

set_option maxRecDepth 100000 in
set_option maxHeartbeats 2000000 in
theorem spec_stepTime (x : ST) (q : Int) (w : World) (hs : ST.Sz x) : Calls Try.prog 37 #[ST.val x, .int .i64 q] w (NumR (stO x q) w) := by
  have HIS := Lib.hid (fun W => spec_step x W hs)
  clear hs
  have HN : Hid (¬(StOk x ∧ QOk q) → stO x q = none) := Lib.hid stO_no
  have HYS : Hid (StOk x → QOk q → stO x q = some (stT x q)) := Lib.hid stO_yes
  generalize stO x q = o at *
  unfold ST.val at HIS ⊢
  have HA0 := Lib.hid (heap_alloc_new w (.cells #[.string x.cen, .int .i64 x.stu, .int .i64 x.run] 34))
  have HB0 : Hid (Below w.heap.size w (w.alloc (.cells #[.string x.cen, .int .i64 x.stu, .int .i64 x.run] 34))) := Lib.hid ((Below.refl _ _).alloc (Nat.le_refl _) _)
  go_enter Try.func37, Try.ntmps37
  go_upto_region 1 with fail
  generalize w.alloc (.cells #[.string x.cen, .int .i64 x.stu, .int .i64 x.run] 34) = w1 at *
  have c0 := cell_of_row _ _ 0 _ _ _ HA0.out
  have c1 := cell_of_row _ _ 1 _ _ _ HA0.out
  have c2 := cell_of_row _ _ 2 _ _ _ HA0.out
  go_wp2_with fail
  refine (HIS.out _).mono ?_
  rintro e w2 ⟨rfl, hb⟩
  have HA := Lib.hid (blk_below HA0.out hb)
  have HB := Lib.hid (HB0.out.trans (hb.mono HB0.out.size))
  clear hb HA0 HB0 c0 c1 c2
  rcases Bool.eq_false_or_eq_true (stB x) with hc | hc
  rotate_left
  · have HY := Lib.hid (HN.out (fun h => by rw [stB_yes h.1] at hc; cases hc))
    rw [hc]
    clear hc
    go_wp2_with fail
    go_ret2
    exact ⟨by rw [HY.out]; rfl, HB.out⟩
  have HS := Lib.hid (stB_iff.1 hc)
  rw [hc]
  clear hc
  go_wp2_with fail
  by_cases hq : 1 ≤ q ∧ q ≤ 100000
  rotate_left
  · have HY := Lib.hid (HN.out (fun h => hq h.2))
    refine (spec_in_is q 1 100000 false _ (inB_no (by omega))).mono ?_
    rintro e w3 ⟨rfl, rfl⟩
    clear hq
    go_wp2_with fail
    go_ret2
    exact ⟨by rw [HY.out]; rfl, HB.out⟩
  have HQ : Hid (QOk q) := Lib.hid hq
  have HY := Lib.hid (HYS.out HS.out HQ.out)
  refine (spec_in_is q 1 100000 true _ (inB_yes hq.1 hq.2)).mono ?_
  rintro e w3 ⟨rfl, rfl⟩
  have hr := run_hi HS.out HQ.out
  have hst := HS.out.2.1
  have hw1 : IntKind.i64.wrap (x.run * q) = x.run * q := (IntKind.wrap_i64 _).trans (by omega)
  have hw2 : IntKind.i64.wrap (x.stu + x.run * q) = x.stu + x.run * q := (IntKind.wrap_i64 _).trans (by omega)
  clear hq hr hst
  have c1 := cell_of_row _ _ 1 _ _ _ HA.out
  have c2 := cell_of_row _ _ 2 _ _ _ HA.out
  go_wp2_with fail
  go_ret2
  exact ⟨by rw [HY.out]; rfl, HB.out⟩

set_option maxRecDepth 100000 in
set_option maxHeartbeats 4000000 in
theorem spec_routingTime (r : RT) (u : Value) (q : Int) (lo hi : Nat) (w : World) (h : SX lo hi w u r.steps) (hs : RT.Sz r) : Calls Try.prog 38 #[.agg #[.string r.item, u], .int .i64 q] w (NumR (rtO r q) w) := by
  obtain ⟨item, steps⟩ := r
  simp only at h
  have SS : Hid (∀ x, x ∈ steps → ST.Sz x) := Lib.hid hs.2.2
  have hm := hs.2.1
  simp only at hm
  unfold maxLen at hm
  obtain ⟨a, c, rfl⟩ := h.slice
  simp only
  have HA0 := Lib.hid (heap_alloc_new w (.cells #[.string item, .slice a steps.length c] 26))
  have HB0 : Hid (Below w.heap.size w (w.alloc (.cells #[.string item, .slice a steps.length c] 26))) := Lib.hid ((Below.refl _ _).alloc (Nat.le_refl _) _)
  have HIR := Lib.hid (spec_routing ⟨item, steps⟩ _ lo hi _ (h.below StN.kept HB0.out) hs)
  have HX := Lib.hid ((SX.is h).below HB0.out)
  have HN : Hid (¬(RtOk ⟨item, steps⟩ ∧ QOk q) → rtO ⟨item, steps⟩ q = none) := Lib.hid rtO_no
  have HYS : Hid (RtOk ⟨item, steps⟩ → QOk q → rtO ⟨item, steps⟩ q = some (sumT steps q steps.length)) := Lib.hid rtO_yes
  generalize rtO ⟨item, steps⟩ q = o at *
  clear h hs
  go_enter Try.func38, Try.ntmps38
  go_upto_region 1 with fail
  generalize w.alloc (.cells #[.string item, .slice a steps.length c] 26) = w1 at *
  have c0 := cell_of_row _ _ 0 _ _ _ HA0.out
  have c1 := cell_of_row _ _ 1 _ _ _ HA0.out
  go_wp2_with fail
  refine HIR.out.mono ?_
  rintro e w2 ⟨rfl, hb⟩
  have HA2 := Lib.hid (blk_below HA0.out hb)
  have HB2 := Lib.hid (HB0.out.trans (hb.mono HB0.out.size))
  have HX2 := Lib.hid (HX.out.below hb)
  clear hb HA0 HB0 HX HIR c0 c1
  rcases Bool.eq_false_or_eq_true (rtB ⟨item, steps⟩) with hc | hc
  rotate_left
  · have HY := Lib.hid (HN.out (fun h => by rw [rtB_yes h.1] at hc; cases hc))
    rw [hc]
    clear hc
    go_wp2_with fail
    go_ret2
    exact ⟨by rw [HY.out]; rfl, HB2.out⟩
  have HR := Lib.hid (rtB_iff.1 hc)
  have hn1 := HR.out.2.1.1
  have hn6 := HR.out.2.1.2
  simp only at hn1 hn6
  rw [hc]
  clear hc
  go_wp2_with fail
  by_cases hq : 1 ≤ q ∧ q ≤ 100000
  rotate_left
  · have HY := Lib.hid (HN.out (fun h => hq h.2))
    refine (spec_in_is q 1 100000 false _ (inB_no (by omega))).mono ?_
    rintro e w3 ⟨rfl, rfl⟩
    clear hq
    go_wp2_with fail
    go_ret2
    exact ⟨by rw [HY.out]; rfl, HB2.out⟩
  have HQ : Hid (QOk q) := Lib.hid hq
  have HY := Lib.hid (HYS.out HR.out HQ.out)
  have HST : Hid (StTo steps steps.length) := Lib.hid HR.out.2.2
  refine (spec_in_is q 1 100000 true _ (inB_yes hq.1 hq.2)).mono ?_
  rintro e w3 ⟨rfl, rfl⟩
  clear HN HYS
  clear hq
  go_wp2_with fail
  go_loopw [6, 7] (fun s i wr => ∃ k : Nat, k ≤ steps.length ∧ i = .int .i64 k ∧ s = .int .i64 (sumT steps q k) ∧ Hid (Below w3.heap.size w3 wr)) (fun _ i _ => steps.length - (intOf i).toNat)
  case atStart => exact ⟨0, Nat.zero_le _, rfl, rfl, Lib.hid (Below.refl _ _)⟩
  case round =>
    obtain ⟨k, hk, rfl, rfl, HB⟩ := hrel
    have HA := Lib.hid (blk_below HA2.out HB.out)
    have HBW := Lib.hid (HB2.out.trans (HB.out.mono HB2.out.size))
    have c1 := cell_of_row _ _ 1 _ _ _ HA.out
    by_cases hlt : k < steps.length
    rotate_left
    · have hkk : k = steps.length := by omega
      subst hkk
      go_wp2_with fail
      go_ret2
      exact ⟨by rw [HY.out]; rfl, HBW.out⟩
    have HLT := Lib.hid hlt
    obtain ⟨b2, o2, c2, hv2, hc2, hcell2⟩ := HX2.out.some (by omega)
    simp only [Value.slice.injEq] at hv2
    obtain ⟨rfl, _, rfl⟩ := hv2
    have HAT := Lib.hid (hcell2.below HB.out)
    obtain ⟨e0, e1, e2⟩ := HAT.out.at k hlt
    clear hcell2 hc2
    have HSU := Lib.hid (sumT_succ (q := q) hlt)
    have HSO := Lib.hid (HST.out k hlt hlt)
    have hsb := sumT_bound HST.out HQ.out k hk
    have HTI := Lib.hid (fun W => spec_stepTime (steps[k]'hlt) q W (SS.out _ (List.getElem_mem hlt)))
    unfold ST.val at HTI
    generalize steps[k]'hlt = x at *
    rw [stO_yes HSO.out HQ.out] at HTI
    have h1 := stT_lo HSO.out HQ.out
    have h2 := stT_hi HSO.out HQ.out
    have hw : IntKind.i64.wrap (sumT steps q k + stT x q) = sumT steps q k + stT x q := (IntKind.wrap_i64 _).trans (by omega)
    rw [← HSU.out] at hw
    go_wp2_with fail
    refine (HTI.out _).mono ?_
    rintro e w4 ⟨rfl, hb⟩
    have HBF := Lib.hid (HB.out.trans (hb.mono HB.out.size))
    clear hb e0 e1 e2 c1
    simp only [Option.getD_some, Option.isSome_some]
    rw [HSU.out] at hw
    go_wp2_with fail
    go_roundw
    case rel => exact ⟨k + 1, by have := HLT.out; omega, by go_num, by rw [HSU.out], HBF⟩
    case measure => have := HLT.out; simp [intOf]; omega

set_option maxRecDepth 100000 in
set_option maxHeartbeats 4000000 in
theorem spec_slowest (r : RT) (u : Value) (q : Int) (lo hi : Nat) (w : World) (h : SX lo hi w u r.steps) (hs : RT.Sz r) : Calls Try.prog 39 #[.agg #[.string r.item, u], .int .i64 q] w (IntR (slowI r q) w) := by
  obtain ⟨item, steps⟩ := r
  simp only at h
  have SS : Hid (∀ x, x ∈ steps → ST.Sz x) := Lib.hid hs.2.2
  have hm := hs.2.1
  simp only at hm
  unfold maxLen at hm
  obtain ⟨a, c, rfl⟩ := h.slice
  simp only
  have HA0 := Lib.hid (heap_alloc_new w (.cells #[.string item, .slice a steps.length c] 26))
  have HB0 : Hid (Below w.heap.size w (w.alloc (.cells #[.string item, .slice a steps.length c] 26))) := Lib.hid ((Below.refl _ _).alloc (Nat.le_refl _) _)
  have HIR := Lib.hid (spec_routing ⟨item, steps⟩ _ lo hi _ (h.below StN.kept HB0.out) hs)
  have HX := Lib.hid ((SX.is h).below HB0.out)
  have HN : Hid (¬(RtOk ⟨item, steps⟩ ∧ QOk q) → slowI ⟨item, steps⟩ q = -1) := Lib.hid slowI_no
  have HYS : Hid (RtOk ⟨item, steps⟩ → QOk q → slowI ⟨item, steps⟩ q = (bestI steps q steps.length : Int)) := Lib.hid slowI_yes
  generalize slowI ⟨item, steps⟩ q = o at *
  clear h hs
  go_enter Try.func39, Try.ntmps39
  go_upto_region 1 with fail
  generalize w.alloc (.cells #[.string item, .slice a steps.length c] 26) = w1 at *
  have c0 := cell_of_row _ _ 0 _ _ _ HA0.out
  have c1 := cell_of_row _ _ 1 _ _ _ HA0.out
  go_wp2_with fail
  refine HIR.out.mono ?_
  rintro e w2 ⟨rfl, hb⟩
  have HA2 := Lib.hid (blk_below HA0.out hb)
  have HB2 := Lib.hid (HB0.out.trans (hb.mono HB0.out.size))
  have HX2 := Lib.hid (HX.out.below hb)
  clear hb HA0 HB0 HX HIR c0 c1
  rcases Bool.eq_false_or_eq_true (rtB ⟨item, steps⟩) with hc | hc
  rotate_left
  · have HY := Lib.hid (HN.out (fun h => by rw [rtB_yes h.1] at hc; cases hc))
    rw [hc]
    clear hc
    go_wp2_with fail
    go_ret
    exact ⟨by rw [HY.out]; rfl, HB2.out⟩
  have HR := Lib.hid (rtB_iff.1 hc)
  have hn1 := HR.out.2.1.1
  have hn6 := HR.out.2.1.2
  simp only at hn1 hn6
  rw [hc]
  clear hc
  go_wp2_with fail
  by_cases hq : 1 ≤ q ∧ q ≤ 100000
  rotate_left
  · have HY := Lib.hid (HN.out (fun h => hq h.2))
    refine (spec_in_is q 1 100000 false _ (inB_no (by omega))).mono ?_
    rintro e w3 ⟨rfl, rfl⟩
    clear hq
    go_wp2_with fail
    go_ret
    exact ⟨by rw [HY.out]; rfl, HB2.out⟩
  have HQ : Hid (QOk q) := Lib.hid hq
  have HY := Lib.hid (HYS.out HR.out HQ.out)
  have HST : Hid (StTo steps steps.length) := Lib.hid HR.out.2.2
  refine (spec_in_is q 1 100000 true _ (inB_yes hq.1 hq.2)).mono ?_
  rintro e w3 ⟨rfl, rfl⟩
  clear HN HYS
  clear hq
  go_wp2_with fail
  go_loopw [5, 6] (fun s i wr => ∃ k : Nat, 1 ≤ k ∧ k ≤ steps.length ∧ i = .int .i64 k ∧ s = .int .i64 (bestI steps q k : Int) ∧ Hid (Below w3.heap.size w3 wr)) (fun _ i _ => steps.length - (intOf i).toNat)
  case atStart => exact ⟨1, Nat.le_refl _, hn1, rfl, by rw [bestI_one]; rfl, Lib.hid (Below.refl _ _)⟩
  case round =>
    obtain ⟨k, hk1, hk, rfl, rfl, HB⟩ := hrel
    have HA := Lib.hid (blk_below HA2.out HB.out)
    have HBW := Lib.hid (HB2.out.trans (HB.out.mono HB2.out.size))
    have c1 := cell_of_row _ _ 1 _ _ _ HA.out
    by_cases hlt : k < steps.length
    rotate_left
    · have hkk : k = steps.length := by omega
      subst hkk
      go_wp2_with fail
      go_ret
      exact ⟨by rw [HY.out]; rfl, HBW.out⟩
    have HLT := Lib.hid hlt
    obtain ⟨b2, o2, c2, hv2, hc2, hcell2⟩ := HX2.out.some (by omega)
    simp only [Value.slice.injEq] at hv2
    obtain ⟨rfl, _, rfl⟩ := hv2
    have HAT := Lib.hid (hcell2.below HB.out)
    obtain ⟨e0, e1, e2⟩ := HAT.out.at k hlt
    clear hcell2 hc2
    have hbl := bestI_lt (xs := steps) (q := q) k hk1
    have HSU := Lib.hid (bestI_succ steps q k)
    obtain ⟨b, hb⟩ : ∃ b, bestI steps q k = b := ⟨_, rfl⟩
    rw [hb] at hbl HSU ⊢
    clear hb
    have hbn : b < steps.length := by omega
    obtain ⟨f0, f1, f2⟩ := HAT.out.at b hbn
    have HSO := Lib.hid (HST.out k hlt hlt)
    have HSP := Lib.hid (HST.out b hbn hbn)
    have HTI := Lib.hid (fun W => spec_stepTime (steps[k]'hlt) q W (SS.out _ (List.getElem_mem hlt)))
    have HTJ := Lib.hid (fun W => spec_stepTime (steps[b]'hbn) q W (SS.out _ (List.getElem_mem hbn)))
    rw [stO_yes HSO.out HQ.out] at HTI
    rw [stO_yes HSP.out HQ.out] at HTJ
    rw [tAt_get hlt, tAt_get hbn] at HSU
    unfold ST.val at HTI HTJ
    have hbi : (b : Int) < (steps.length : Int) := by omega
    have hb0 : (0 : Int) ≤ (b : Int) := by omega
    generalize steps[k]'hlt = x at *
    generalize steps[b]'hbn = y at *
    go_wp2_with fail
    refine (HTI.out _).mono ?_
    rintro e w4 ⟨rfl, hb⟩
    have HBF := Lib.hid (HB.out.trans (hb.mono HB.out.size))
    have HA4 := Lib.hid (blk_below HA.out hb)
    replace f0 := hold_c f0 hb
    replace f1 := hold_c f1 hb
    replace f2 := hold_c f2 hb
    clear hb e0 e1 e2 c1
    have c1 := cell_of_row _ _ 1 _ _ _ HA4.out
    simp only [Option.getD_some, Option.isSome_some]
    go_wp2_with fail
    refine (HTJ.out _).mono ?_
    rintro e w5 ⟨rfl, hb⟩
    have HBG := Lib.hid (HBF.out.trans (hb.mono HBF.out.size))
    clear hb f0 f1 f2 c1
    simp only [Option.getD_some, Option.isSome_some]
    by_cases hc : stT y q < stT x q
    · have HN2 : Hid (bestI steps q (k + 1) = k) := Lib.hid (by rw [HSU.out, if_pos hc])
      have hd : decide (stT y q < stT x q) = true := decide_eq_true hc
      clear hc
      go_wp2_with fail
      go_roundw
      case rel => exact ⟨k + 1, by omega, by have := HLT.out; omega, by go_num, by rw [HN2.out], HBG⟩
      case measure => have := HLT.out; simp [intOf]; omega
    · have HN2 : Hid (bestI steps q (k + 1) = b) := Lib.hid (by rw [HSU.out, if_neg hc])
      have hd : decide (stT y q < stT x q) = false := decide_eq_false hc
      clear hc
      go_wp2_with fail
      go_roundw
      case rel => exact ⟨k + 1, by omega, by have := HLT.out; omega, by go_num, by rw [HN2.out], HBG⟩
      case measure => have := HLT.out; simp [intOf]; omega
end Go.Proofs.Ytfcgdhedaefonaa
