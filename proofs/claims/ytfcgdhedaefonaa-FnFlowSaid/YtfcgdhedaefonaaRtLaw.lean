/-
  The walks of the laws FnMinutes and FnFlow, given what the program owes.
-/
import Derived.Test.YtfcgdhedaefonaaRtImp
import Derived.Test.YtfcgdhedaefonaaRtDraws
import Derived.Test.YtfcgdhedaefonaaRtFlow
import Derived.Test.YtfcgdhedaefonaaLawBig
import Derived.WalkKit
import Derived.WalkSpells
import Derived.WalkSmall
import Derived.BigQuiet
import Derived.OneCell
import Derived.OwnWalk
import Derived.Deep.QuietTactic
import Derived.Deep.DeepCutAuto
import Derived.Deep.RegionHeld3
import Derived.Laws.OwnMore
import Derived.Lib.Hide
namespace Go.Proofs.Ytfcgdhedaefonaa
open Go.RowKit

/-- Two lots against one. -/
theorem lots_two {r : RT} {q a : Int} (h : RtOk r) (hq : QOk q) (ha : a = q / 2) :
    (rtO r a).isSome = true → (rtO r a).getD 0 + (rtO r (q - a)).getD 0 = sumT r.steps q r.steps.length + setups r.steps r.steps.length := by
  intro hs
  have h1 := hq.1
  have h2 := hq.2
  by_cases hA : QOk a
  · have hB : QOk (q - a) := by unfold QOk at hA ⊢; omega
    rw [rtO_yes h hA, rtO_yes h hB]
    have := sumT_joined r.steps a (q - a)
    rw [show a + (q - a) = q by omega] at this
    exact this
  · rw [rtO_no (fun h => hA h.2)] at hs; cases hs
theorem rtO_bound {r : RT} {q : Int} : 0 ≤ (rtO r q).getD 0 ∧ (rtO r q).getD 0 ≤ 700000000 := by
  by_cases h : RtOk r ∧ QOk q
  · rw [rtO_yes h.1 h.2]
    have := sumT_bound h.1.2.2 h.2 r.steps.length (Nat.le_refl _)
    have := h.1.2.1.2
    simp only [Option.getD_some]
    omega
  · rw [rtO_no h]; simp

set_option maxRecDepth 100000 in
set_option maxHeartbeats 8000000 in
theorem walk_FnMinutes (hir : ImplRoutingTime) (hil : ImplSlowestStep) (hit : ImplStepTime) (a : Option Addr) (n c : Nat) (w : World) (hm : n ≤ maxLen) (hcode : CodeAt w.heap.size w a n) :
    Calls Try.prog 3 #[.slice a n c] w fun e w' => e = .returned (.bool true) ∧ Below w.heap.size w w' := by
  unfold maxLen at hm
  have HIR := Lib.hid hir
  have HIL := Lib.hid hil
  have HIT := Lib.hid hit
  have HCO := Lib.hid hcode
  clear hcode hir hil hit
  by_cases hbig : 1048576 < n
  · have e0 : decide ((1048576 : Int) < (n : Int)) = true := decide_eq_true (by omega)
    go_enter Try.func3, Try.ntmps3
    go_wp2_with fail
    refine (laws_big a n c _).mono ?_
    rintro e w1 ⟨rfl, rfl⟩
    go_wp2
    go_ret
    exact ⟨rfl, Below.refl _ _⟩
  have e0 : decide ((1048576 : Int) < (n : Int)) = false := decide_eq_false (by omega)
  go_enter Try.func3, Try.ntmps3
  go_wp2_with fail
  refine (laws_big a n c _).mono ?_
  rintro e w1 ⟨rfl, rfl⟩
  go_wp2_with fail
  refine (draw_routingTime a n c _ (by omega) HCO.out).mono ?_
  rintro e w2 ⟨r, p, kk, q, rfl, hq64, HZ, H7, HO, HB2⟩
  obtain ⟨base, hbase, ho⟩ := HO.out
  have HX2 := Lib.hid ((SX.of_row ho).below StN.kept ((Below.refl _ _).alloc (Nat.le_refl _) (.cells #[.string r.item, .slice p r.steps.length kk] 26)))
  have HG0 := Lib.hid (heap_alloc_new w2 (.cells #[.string r.item, .slice p r.steps.length kk] 26))
  have HB3 : Hid (Below w1.heap.size w1 (w2.alloc (.cells #[.string r.item, .slice p r.steps.length kk] 26))) := Lib.hid (HB2.out.alloc HB2.out.size _)
  clear ho HO hbase hbig hm e0 HCO
  go_upto_region 4 with fail
  generalize w2.alloc (.cells #[.string r.item, .slice p r.steps.length kk] 26) = w3 at *
  have g0 := cell_of_row _ _ 0 _ _ _ HG0.out
  have g1 := cell_of_row _ _ 1 _ _ _ HG0.out
  obtain ⟨t, ht⟩ : ∃ t, rtO r q = t := ⟨_, rfl⟩
  have HT := Lib.hid ht
  clear ht
  have HC1 := Lib.hid (HIR.out r _ q _ _ w3 HX2.out HZ.out)
  rw [HT.out] at HC1
  go_wp2_with fail
  refine HC1.out.mono ?_
  rintro e w4 ⟨rfl, hb⟩
  have HG4 := Lib.hid (blk_below HG0.out hb)
  have HX4 := Lib.hid (HX2.out.below StN.kept hb)
  have HB4 := Lib.hid (HB3.out.trans (hb.mono HB3.out.size))
  clear hb g0 g1 HG0 HX2 HB3 HC1
  have g0 := cell_of_row _ _ 0 _ _ _ HG4.out
  have g1 := cell_of_row _ _ 1 _ _ _ HG4.out
  obtain ⟨k, hk⟩ : ∃ k, slowI r q = k := ⟨_, rfl⟩
  have HK := Lib.hid hk
  clear hk
  have HC1 := Lib.hid (HIL.out r _ q _ _ w4 HX4.out HZ.out)
  rw [HK.out] at HC1
  go_wp2_with fail
  refine HC1.out.mono ?_
  rintro e w5 ⟨rfl, hb⟩
  have HG := Lib.hid (blk_below HG4.out hb)
  have HX := Lib.hid (HX4.out.below StN.kept hb)
  have HB := Lib.hid (HB4.out.trans (hb.mono HB4.out.size))
  clear hb g0 g1 HG4 HX4 HB4 HC1
  have g0 := cell_of_row _ _ 0 _ _ _ HG.out
  have g1 := cell_of_row _ _ 1 _ _ _ HG.out
  by_cases hok : RtOk r ∧ QOk q
  rotate_left
  · rw [rtO_no hok] at HT
    rw [slowI_no hok] at HK
    have ht := HT.out.symm
    have hk := HK.out.symm
    subst ht hk
    go_wp2_with fail
    go_ret
    exact ⟨rfl, HB.out⟩
  have HR := Lib.hid hok.1
  have HQ := Lib.hid hok.2
  rw [rtO_yes HR.out HQ.out] at HT
  rw [slowI_yes HR.out HQ.out] at HK
  have ht := HT.out.symm
  have hk := HK.out.symm
  subst ht hk
  clear hok HT HK
  have hn1 := HR.out.2.1.1
  have hn6 := HR.out.2.1.2
  have HST : Hid (StTo r.steps r.steps.length) := Lib.hid HR.out.2.2
  have hbl := bestI_lt (xs := r.steps) (q := q) r.steps.length hn1
  obtain ⟨b, hb⟩ : ∃ b, bestI r.steps q r.steps.length = b := ⟨_, rfl⟩
  have HBE := Lib.hid hb
  rw [hb] at hbl ⊢
  clear hb
  have hb0 : decide ((b : Int) < 0) = false := decide_eq_false (by omega)
  have hb1 : decide (r.steps.length ≤ b) = false := decide_eq_false (by omega)
  simp only [Option.getD_some, Option.isSome_some]
  have HSZ : Hid (∀ x, x ∈ r.steps → ST.Sz x) := Lib.hid HZ.out.2.2
  go_wp2_with fail
  go_loopw [8, 9, 10] (fun s u i wr => ∃ k : Nat, k ≤ r.steps.length ∧ i = .int .i64 k ∧ s = .int .i64 (sumT r.steps q k) ∧ u = .int .i64 (setups r.steps k) ∧ Hid (Below w5.heap.size w5 wr)) (fun _ _ i _ => r.steps.length - (intOf i).toNat)
  case atStart => exact ⟨0, Nat.zero_le _, rfl, rfl, rfl, Lib.hid (Below.refl _ _)⟩
  case round =>
    obtain ⟨k, hk, rfl, rfl, rfl, HBR⟩ := hrel
    have HGR := Lib.hid (blk_below HG.out HBR.out)
    have HXR := Lib.hid (HX.out.below StN.kept HBR.out)
    have HBW := Lib.hid (HB.out.trans (HBR.out.mono HB.out.size))
    have g0 := cell_of_row _ _ 0 _ _ _ HGR.out
    have g1 := cell_of_row _ _ 1 _ _ _ HGR.out
    by_cases hlt : k < r.steps.length
    rotate_left
    · have hkk : k = r.steps.length := by omega
      subst hkk
      have htd : q.tdiv 2 = q / 2 := Int.tdiv_eq_ediv_of_nonneg (by have := HQ.out.1; omega)
      obtain ⟨aa, haa⟩ : ∃ aa, q / 2 = aa := ⟨_, rfl⟩
      have HTW := Lib.hid (lots_two HR.out HQ.out haa.symm)
      have ha1 : 0 ≤ aa ∧ aa ≤ q := by have := HQ.out.1; omega
      rw [haa] at htd
      clear haa
      have HC1 := Lib.hid (HIR.out r _ aa _ _ wr HXR.out HZ.out)
      have HP1 := Lib.hid (rtO_bound (r := r) (q := aa))
      have HP2 := Lib.hid (rtO_bound (r := r) (q := q - aa))
      go_wp2_with fail
      refine HC1.out.mono ?_
      rintro e w6 ⟨rfl, hb⟩
      have HGS := Lib.hid (blk_below HGR.out hb)
      have HXS := Lib.hid (HXR.out.below StN.kept hb)
      have HBS := Lib.hid (HBW.out.trans (hb.mono HBW.out.size))
      clear hb g0 g1 HC1
      have g0 := cell_of_row _ _ 0 _ _ _ HGS.out
      have g1 := cell_of_row _ _ 1 _ _ _ HGS.out
      have hw0 : IntKind.i64.wrap (q - aa) = q - aa := (IntKind.wrap_i64 _).trans (by have := HQ.out.2; omega)
      have HC1 := Lib.hid (HIR.out r _ (q - aa) _ _ w6 HXS.out HZ.out)
      go_wp2_with fail
      refine HC1.out.mono ?_
      rintro e w7 ⟨rfl, hb⟩
      have HBT := Lib.hid (HBS.out.trans (hb.mono HBS.out.size))
      clear hb g0 g1 HC1
      have heq : (sumT r.steps q r.steps.length == sumT r.steps q r.steps.length) = true := by simp
      have hp1 := HP1.out
      have hp2 := HP2.out
      have hp3 := sumT_bound HST.out HQ.out r.steps.length (Nat.le_refl _)
      have hp4 := setups_bound HST.out r.steps.length (Nat.le_refl _)
      obtain ⟨o1, ho1⟩ : ∃ o, rtO r aa = o := ⟨_, rfl⟩
      obtain ⟨o2, ho2⟩ : ∃ o, rtO r (q - aa) = o := ⟨_, rfl⟩
      rw [ho1] at hp1 HTW ⊢
      rw [ho2] at hp2 HTW ⊢
      cases o1 with
      | none =>
        simp only [Option.isSome_none]
        go_wp2_with fail
        go_ret
        exact ⟨rfl, HBT.out⟩
      | some z1 =>
        have htw := HTW.out rfl
        simp only [Option.getD_some, Option.isSome_some] at htw hp1 ⊢
        have hw1 : IntKind.i64.wrap (z1 + o2.getD 0) = z1 + o2.getD 0 := (IntKind.wrap_i64 _).trans (by omega)
        have hw2 : IntKind.i64.wrap (sumT r.steps q r.steps.length + setups r.steps r.steps.length) = sumT r.steps q r.steps.length + setups r.steps r.steps.length := (IntKind.wrap_i64 _).trans (by omega)
        have heq2 : (z1 + o2.getD 0 == sumT r.steps q r.steps.length + setups r.steps r.steps.length) = true := by rw [htw]; simp
        clear htw
        go_wp2_with fail
        go_ret
        exact ⟨rfl, HBT.out⟩
    have HLT := Lib.hid hlt
    have hbn : b < r.steps.length := hbl
    have HAT := Lib.hid (SX.is HXR.out)
    obtain ⟨b2, o2, c2, hv2, hc2, hcell2⟩ := HAT.out.some (by omega)
    simp only [Value.slice.injEq] at hv2
    obtain ⟨rfl, _, rfl⟩ := hv2
    obtain ⟨e0, e1, e2⟩ := hcell2.at k hlt
    obtain ⟨f0, f1, f2⟩ := hcell2.at b hbn
    clear hcell2 hc2
    have HSU := Lib.hid (sumT_succ (q := q) hlt)
    have HSV := Lib.hid (setups_succ hlt)
    have hsb := sumT_bound HST.out HQ.out k hk
    have hsv := setups_bound HST.out k hk
    have HSO := Lib.hid (HST.out k hlt hlt)
    have HSP := Lib.hid (HST.out b hbn hbn)
    have HMX := Lib.hid (bestI_max (xs := r.steps) (q := q) r.steps.length k hlt)
    rw [HBE.out, tAt_get hlt, tAt_get hbn] at HMX
    have HTI := Lib.hid (fun W => HIT.out (r.steps[k]'hlt) q W (HSZ.out _ (List.getElem_mem hlt)))
    have HTJ := Lib.hid (fun W => HIT.out (r.steps[b]'hbn) q W (HSZ.out _ (List.getElem_mem hbn)))
    rw [stO_yes HSO.out HQ.out] at HTI
    rw [stO_yes HSP.out HQ.out] at HTJ
    unfold ST.val at HTI HTJ
    have hbi : (b : Int) < (r.steps.length : Int) := by omega
    have hbi0 : (0 : Int) ≤ (b : Int) := by omega
    have h1 := stT_lo HSO.out HQ.out
    have h2 := stT_hi HSO.out HQ.out
    have h3 := HSO.out.2.1
    generalize r.steps[k]'hlt = x at *
    generalize r.steps[b]'hbn = y at *
    have hw1 : IntKind.i64.wrap (sumT r.steps q k + stT x q) = sumT r.steps q k + stT x q := (IntKind.wrap_i64 _).trans (by omega)
    have hw2 : IntKind.i64.wrap (setups r.steps k + x.stu) = setups r.steps k + x.stu := (IntKind.wrap_i64 _).trans (by omega)
    go_wp2_with fail
    refine (HTI.out _).mono ?_
    rintro e w6 ⟨rfl, hb⟩
    have HB6 := Lib.hid (HBR.out.trans (hb.mono HBR.out.size))
    have HG6 := Lib.hid (blk_below HGR.out hb)
    replace e0 := hold_c e0 hb
    replace e1 := hold_c e1 hb
    replace e2 := hold_c e2 hb
    replace f0 := hold_c f0 hb
    replace f1 := hold_c f1 hb
    replace f2 := hold_c f2 hb
    clear hb g0 g1
    have g0 := cell_of_row _ _ 0 _ _ _ HG6.out
    have g1 := cell_of_row _ _ 1 _ _ _ HG6.out
    simp only [Option.getD_some, Option.isSome_some]
    go_wp2_with fail
    refine (HTJ.out _).mono ?_
    rintro e w7 ⟨rfl, hb⟩
    have HB7 := Lib.hid (HB6.out.trans (hb.mono HB6.out.size))
    have HG7 := Lib.hid (blk_below HG6.out hb)
    replace e0 := hold_c e0 hb
    replace e1 := hold_c e1 hb
    replace e2 := hold_c e2 hb
    clear hb g0 g1 f0 f1 f2
    have g0 := cell_of_row _ _ 0 _ _ _ HG7.out
    have g1 := cell_of_row _ _ 1 _ _ _ HG7.out
    simp only [Option.getD_some, Option.isSome_some]
    have hgt : decide (stT y q < stT x q) = false := decide_eq_false (by have := HMX.out.1; omega)
    rcases Nat.lt_or_ge k b with hkb | hkb
    · have hd : decide ((k : Int) < (b : Int)) = true := decide_eq_true (by omega)
      have hne : (stT x q == stT y q) = false := by have := HMX.out.2 hkb; simp; omega
      go_wp2_with fail
      go_roundw
      case rel => exact ⟨k + 1, by have := HLT.out; omega, by go_num, by rw [HSU.out], by rw [HSV.out], HB7⟩
      case measure => have := HLT.out; simp [intOf]; omega
    · have hd : decide ((k : Int) < (b : Int)) = false := decide_eq_false (by omega)
      go_wp2_with fail
      go_roundw
      case rel => exact ⟨k + 1, by have := HLT.out; omega, by go_num, by rw [HSU.out], by rw [HSV.out], HB7⟩
      case measure => have := HLT.out; simp [intOf]; omega

set_option maxRecDepth 100000 in
set_option maxHeartbeats 8000000 in
theorem walk_FnFlow (hif : ImplFlowTime) (a : Option Addr) (n c : Nat) (w : World) (hm : n ≤ maxLen) (hcode : CodeAt w.heap.size w a n) :
    Calls Try.prog 4 #[.slice a n c] w fun e w' => e = .returned (.bool true) ∧ Below w.heap.size w w' := by
  unfold maxLen at hm
  have HIF := Lib.hid hif
  have HCO := Lib.hid hcode
  clear hcode hif
  by_cases hbig : 1048576 < n
  · have e0 : decide ((1048576 : Int) < (n : Int)) = true := decide_eq_true (by omega)
    go_enter Try.func4, Try.ntmps4
    go_wp2_with fail
    refine (laws_big a n c _).mono ?_
    rintro e w1 ⟨rfl, rfl⟩
    go_wp2
    go_ret
    exact ⟨rfl, Below.refl _ _⟩
  have e0 : decide ((1048576 : Int) < (n : Int)) = false := decide_eq_false (by omega)
  go_enter Try.func4, Try.ntmps4
  go_wp2_with fail
  refine (laws_big a n c _).mono ?_
  rintro e w1 ⟨rfl, rfl⟩
  go_wp2_with fail
  refine (draw_flowTime a n c _ (by omega) HCO.out).mono ?_
  rintro e w2 ⟨r, p, kk, q, rfl, hq64, HZ, H7, HO, HB2⟩
  obtain ⟨base, hbase, ho⟩ := HO.out
  have HX2 := Lib.hid ((SX.of_row ho).below StN.kept ((Below.refl _ _).alloc (Nat.le_refl _) (.cells #[.string r.item, .slice p r.steps.length kk] 26)))
  have HG0 := Lib.hid (heap_alloc_new w2 (.cells #[.string r.item, .slice p r.steps.length kk] 26))
  have HB3 : Hid (Below w1.heap.size w1 (w2.alloc (.cells #[.string r.item, .slice p r.steps.length kk] 26))) := Lib.hid (HB2.out.alloc HB2.out.size _)
  clear ho HO hbase hbig hm e0 HCO
  go_upto_region 4 with fail
  generalize w2.alloc (.cells #[.string r.item, .slice p r.steps.length kk] 26) = w3 at *
  have g0 := cell_of_row _ _ 0 _ _ _ HG0.out
  have g1 := cell_of_row _ _ 1 _ _ _ HG0.out
  obtain ⟨t, ht⟩ : ∃ t, flO r q = t := ⟨_, rfl⟩
  have HT := Lib.hid ht
  clear ht
  have HC1 := Lib.hid (HIF.out r _ q _ _ w3 HX2.out HZ.out)
  rw [HT.out] at HC1
  go_wp2_with fail
  refine HC1.out.mono ?_
  rintro e w4 ⟨rfl, hb⟩
  have HG4 := Lib.hid (blk_below HG0.out hb)
  have HX4 := Lib.hid (HX2.out.below StN.kept hb)
  have HB4 := Lib.hid (HB3.out.trans (hb.mono HB3.out.size))
  clear hb g0 g1 HG0 HX2 HB3 HC1
  have g0 := cell_of_row _ _ 0 _ _ _ HG4.out
  have g1 := cell_of_row _ _ 1 _ _ _ HG4.out
  have HC1 := Lib.hid (spec_flow r _ q _ _ w4 HX4.out HZ.out)
  rw [HT.out] at HC1
  go_wp2_with fail
  refine HC1.out.mono ?_
  rintro e w5 ⟨rfl, hb⟩
  have HG := Lib.hid (blk_below HG4.out hb)
  have HX := Lib.hid (HX4.out.below StN.kept hb)
  have HB := Lib.hid (HB4.out.trans (hb.mono HB4.out.size))
  clear hb g0 g1 HG4 HX4 HB4 HC1
  have g0 := cell_of_row _ _ 0 _ _ _ HG.out
  have g1 := cell_of_row _ _ 1 _ _ _ HG.out
  by_cases hok : RtOk r ∧ FOk q
  rotate_left
  · rw [flO_no hok] at HT
    have ht := HT.out.symm
    subst ht
    go_wp2_with fail
    go_ret
    exact ⟨rfl, HB.out⟩
  have HR := Lib.hid hok.1
  have HQ := Lib.hid hok.2
  rw [flO_yes HR.out HQ.out] at HT
  have ht := HT.out.symm
  subst ht
  clear hok HT
  have hn1 := HR.out.2.1.1
  have hn6 := HR.out.2.1.2
  have HST : Hid (StTo r.steps r.steps.length) := Lib.hid HR.out.2.2
  simp only [Option.getD_some, Option.isSome_some]
  go_wp2_with fail
  go_loopw [9, 10, 11] (fun s u i wr => ∃ k : Nat, k ≤ r.steps.length ∧ i = .int .i64 k ∧ s = .int .i64 (preR r.steps k) ∧ u = .int .i64 (maxR r.steps k) ∧ Hid (Below w5.heap.size w5 wr)) (fun _ _ i _ => r.steps.length - (intOf i).toNat)
  case atStart => exact ⟨0, Nat.zero_le _, rfl, rfl, rfl, Lib.hid (Below.refl _ _)⟩
  case round =>
    obtain ⟨k, hk, rfl, rfl, rfl, HBR⟩ := hrel
    have HGR := Lib.hid (blk_below HG.out HBR.out)
    have HXR := Lib.hid (HX.out.below StN.kept HBR.out)
    have HBW := Lib.hid (HB.out.trans (HBR.out.mono HB.out.size))
    have g0 := cell_of_row _ _ 0 _ _ _ HGR.out
    have g1 := cell_of_row _ _ 1 _ _ _ HGR.out
    by_cases hlt : k < r.steps.length
    rotate_left
    · have hkk : k = r.steps.length := by omega
      subst hkk
      have hq1 := HQ.out.1
      have hq2 := HQ.out.2
      have hp := preR_bound HST.out r.steps.length (Nat.le_refl _)
      have hx := maxR_bound HST.out r.steps.length (Nat.le_refl _)
      have hw0 : IntKind.i64.wrap (q - 1) = q - 1 := (IntKind.wrap_i64 _).trans (by omega)
      have hx1 : (q - 1) * maxR r.steps r.steps.length ≤ (q - 1) * 1000 := Int.mul_le_mul_of_nonneg_left hx.2 (by omega)
      have hx0 : 0 ≤ (q - 1) * maxR r.steps r.steps.length := Int.mul_nonneg (by omega) hx.1
      have hw1 : IntKind.i64.wrap ((q - 1) * maxR r.steps r.steps.length) = (q - 1) * maxR r.steps r.steps.length := (IntKind.wrap_i64 _).trans (by omega)
      have hw2 : IntKind.i64.wrap (preR r.steps r.steps.length + (q - 1) * maxR r.steps r.steps.length) = preR r.steps r.steps.length + (q - 1) * maxR r.steps r.steps.length := (IntKind.wrap_i64 _).trans (by omega)
      have heq : (flT r.steps q == preR r.steps r.steps.length + (q - 1) * maxR r.steps r.steps.length) = true := by unfold flT; simp
      go_wp2_with fail
      go_ret
      exact ⟨rfl, HBW.out⟩
    have HLT := Lib.hid hlt
    have HAT := Lib.hid (SX.is HXR.out)
    obtain ⟨b2, o2, c2, hv2, hc2, hcell2⟩ := HAT.out.some (by omega)
    simp only [Value.slice.injEq] at hv2
    obtain ⟨rfl, _, rfl⟩ := hv2
    obtain ⟨e0, e1, e2⟩ := hcell2.at k hlt
    clear hcell2 hc2
    have HSU := Lib.hid (preR_succ hlt)
    have HSV := Lib.hid (maxR_succ hlt)
    have hsb := preR_bound HST.out k hk
    have HSO := Lib.hid (HST.out k hlt hlt)
    have h3 := HSO.out.2.2
    generalize r.steps[k]'hlt = x at *
    have hw1 : IntKind.i64.wrap (preR r.steps k + x.run) = preR r.steps k + x.run := (IntKind.wrap_i64 _).trans (by omega)
    go_wp2_with fail
    go_roundw
    case rel => exact ⟨k + 1, by have := HLT.out; omega, by go_num, by rw [HSU.out], by rw [HSV.out, Int.max_def]; congr 1; split <;> split <;> omega, HBR⟩
    case measure => have := HLT.out; simp [intOf]; omega
end Go.Proofs.Ytfcgdhedaefonaa
