/-
  The walk of the law FnTidy, given what the program owes.
-/
import Derived.Test.YtdhldokpojghdaaChgLawP
import Derived.WalkKit
import Derived.WalkSpells
import Derived.WalkSmall
import Derived.BigQuiet
import Derived.OneCell
import Derived.Deep.QuietTactic
import Derived.Deep.DeepCutAuto
import Derived.Deep.RegionHeld3
import Derived.Laws.OwnMore
import Derived.Lib.Hide
namespace Go.Proofs.Ytdhldokpojghdaa
open Go.RowKit

set_option maxRecDepth 100000 in
set_option maxHeartbeats 8000000 in
theorem walk_FnTidy (him : ImplTidyLines) (hib : ImplBillsOn) (hia : ImplApplyChange) (a : Option Addr) (n c : Nat) (w : World) (hm : n ≤ maxLen) (hcode : CodeAt w.heap.size w a n) :
    Calls Try.prog 4 #[.slice a n c] w fun e w' => e = .returned (.bool true) ∧ Below w.heap.size w w' := by
  unfold maxLen at hm
  have HIM := Lib.hid him
  have HIB := Lib.hid hib
  have HIA := Lib.hid hia
  have HCO := Lib.hid hcode
  clear hcode him hib hia
  by_cases hbig : 1048576 < n
  · have e0 : decide ((1048576 : Int) < (n : Int)) = true := decide_eq_true (by omega)
    go_enter Try.func4, Try.ntmps4
    go_wp2_with fail
    refine (laws_big a n c _).mono ?_
    rintro e w1 ⟨rfl, rfl⟩
    go_wp2
    go_ret
    exact ⟨rfl, Below.refl _ _⟩
  have e0 : decide ((1048576 : Int) < (n : Int)) = false := decide_eq_false (by omega)
  go_enter Try.func4, Try.ntmps4
  go_wp2_with fail
  refine (laws_big a n c _).mono ?_
  rintro e w1 ⟨rfl, rfl⟩
  go_wp2_with fail
  refine (draw_tidy a n c _ (by omega) HCO.out).mono ?_
  rintro e w2 ⟨p, q, l, p2, q2, ls, rfl, HL6, HL24, HZ, HZ2, HI, HBX, HB0⟩
  obtain ⟨lo, hi, hx⟩ := HBX.out
  have HX := Lib.hid hx
  have HLM : Hid (l.length ≤ maxLen) := Lib.hid (by have := HL6.out; unfold maxLen; omega)
  have hl24 := HL24.out
  clear hx HBX HCO hbig hm e0 HL6 HL24
  go_wp2_with fail
  refine (HIM.out _ _ l ls lo hi w2 HI.out HLM.out HZ.out HX.out HZ2.out).mono ?_
  rintro e w3 ⟨v3, rfl, HT3, HB3⟩
  obtain ⟨p4, q4, rfl⟩ := HT3.out.slice
  have HCK := Lib.hid (spec_bills _ _ l ls lo hi w3 (HI.out.below HB3.out) (HX.out.below BLN.kept HB3.out) HLM.out HZ.out HZ2.out)
  have HW3 := Lib.hid (HB0.out.trans (HB3.out.mono HB0.out.size))
  rcases Bool.eq_false_or_eq_true (billsB l ls) with hc | hc
  rotate_left
  · have hte := tidyR_no hc
    rw [hte]
    rw [hc] at HCK
    clear hte hc HT3
    go_wp2_with fail
    refine HCK.out.mono ?_
    rintro e w4 ⟨rfl, hb⟩
    have HW4 := Lib.hid (HW3.out.trans (hb.mono HW3.out.size))
    clear hb
    go_wp2_with fail
    go_ret
    exact ⟨rfl, HW4.out⟩
  have HBT := Lib.hid (billsB_iff.1 hc)
  have HTE := Lib.hid (tidyR_yes hc)
  rw [hc] at HCK
  clear hc
  rw [HTE.out] at HT3
  rw [HTE.out]
  have HTB := Lib.hid (tidy_bills HBT.out)
  have HTT := Lib.hid (tidy_tidy ls)
  have HSAME := Lib.hid (fun (x : CH) h1 h2 h3 => tidy_same (x := x) h1 h2 h3 ls)
  have HON : Hid (∀ d, onD d (tidyL ls) = onD d ls) := Lib.hid (fun d => onD_tidy (bills_fr HBT.out))
  have hlen := tidyL_len ls
  have HZT := Lib.hid (tidyL_sz HZ2.out)
  obtain ⟨ts, hts⟩ : ∃ ts, tidyL ls = ts := ⟨_, rfl⟩
  have HTS := Lib.hid hts
  rw [hts] at HT3 HTB HTT HON hlen HZT
  rw [hts]
  clear hts
  have HFT := Lib.hid (few_bills HTB.out)
  have HFL := Lib.hid (few_bills HBT.out)
  go_wp2_with fail
  refine HCK.out.mono ?_
  rintro e w4 ⟨rfl, hb⟩
  have HW4 := Lib.hid (HW3.out.trans (hb.mono HW3.out.size))
  have H24 := Lib.hid (HB3.out.trans (hb.mono HB3.out.size))
  have HT4 := Lib.hid (HT3.out.sl.below BLN.kept hb)
  have HI4 := Lib.hid (HI.out.below H24.out)
  have HX4 := Lib.hid (HX.out.below BLN.kept H24.out)
  clear hb HCK HT3 HW3 HB3 HI HX H24 HB0
  have hgt : decide ((ls.length : Int) < (ts.length : Int)) = false := decide_eq_false (by omega)
  have hgt2 : decide (ls.length < ts.length) = false := decide_eq_false (by omega)
  go_wp2_with fail
  go_loopw [6] (fun i wr => ∃ d : Nat, d ≤ 40 ∧ i = .int .i64 d ∧ Hid (Below w4.heap.size w4 wr)) (fun i _ => 40 - (intOf i).toNat)
  case atStart => exact ⟨0, by omega, rfl, Lib.hid (Below.refl _ _)⟩
  case round =>
    obtain ⟨d, hd, rfl, HB⟩ := hrel
    by_cases hlt : d < 40
    · have HLT := Lib.hid hlt
      have hdd : decide ((d : Int) < 40) = true := decide_eq_true (by omega)
      have HZS : Hid (billsOnR l ts d = billsOnR l ls d) := Lib.hid (by rw [billsOnR_yes (billsB_yes HTB.out), billsOnR_yes (billsB_yes HBT.out)]; exact HON.out d)
      have HFO := Lib.hid (few_on l ls d)
      clear hlt
      go_wp2_with fail
      refine (spec_billsOn _ _ l ts d _ _ wr (HI4.out.below HB.out) (HT4.out.below BLN.kept HB.out) HLM.out HZ.out HZT.out).mono ?_
      rintro e w5 ⟨v5, rfl, HO5, HB5⟩
      rw [HZS.out] at HO5
      obtain ⟨zs, hzs⟩ : ∃ zs, billsOnR l ls d = zs := ⟨_, rfl⟩
      have HZZ := Lib.hid hzs
      rw [hzs] at HO5 HFO
      clear hzs
      have H5 := Lib.hid (HB.out.trans (HB5.out.mono HB.out.size))
      obtain ⟨p5, q5, rfl⟩ := HO5.out.slice
      go_wp2_with fail
      refine (spec_billsOn _ _ l ls d _ _ w5 (HI4.out.below H5.out) (HX4.out.below BLN.kept H5.out) HLM.out HZ.out HZ2.out).mono ?_
      rintro e w6 ⟨v6, rfl, HO6, HB6⟩
      rw [HZZ.out] at HO6
      have H6 := Lib.hid (H5.out.trans (HB6.out.mono H5.out.size))
      have HO56 := Lib.hid (HO5.out.below HB6.out)
      obtain ⟨p6, q6, rfl⟩ := HO6.out.slice
      clear HO5 HB5 HB6 H5
      go_wp2_with fail
      refine (laws_sameLines _ _ zs _ _ _ _ w6 HO56.out.sl HO6.out.sl HFO.out.sm).mono ?_
      rintro e w7 ⟨rfl, hb⟩
      have H7 := Lib.hid (H6.out.trans (hb.mono H6.out.size))
      clear hb HO56 HO6 H6
      go_wp2_with fail
      refine (HIB.out _ _ l ls d _ _ w7 (HI4.out.below H7.out) HLM.out HZ.out (HX4.out.below BLN.kept H7.out) HZ2.out).mono ?_
      rintro e w8 ⟨v8, rfl, HO8, HB8⟩
      rw [HZZ.out] at HO8
      have H8 := Lib.hid (H7.out.trans (HB8.out.mono H7.out.size))
      obtain ⟨p8, q8, rfl⟩ := HO8.out.slice
      clear HO8 HB8 H7
      go_wp2_with fail
      refine (spec_billsOn _ _ l ls d _ _ w8 (HI4.out.below H8.out) (HX4.out.below BLN.kept H8.out) HLM.out HZ.out HZ2.out).mono ?_
      rintro e w9 ⟨v9, rfl, HO9, HB9⟩
      rw [HZZ.out] at HO9
      have H9 := Lib.hid (H8.out.trans (HB9.out.mono H8.out.size))
      obtain ⟨p9, q9, rfl⟩ := HO9.out.slice
      have hzz : ((zs.length : Int) != (zs.length : Int)) = false := by simp
      clear HO9 HB9 H8
      go_wp2_with fail
      go_roundw
      case rel => exact ⟨d + 1, by have := HLT.out; omega, by go_num, H9⟩
      case measure => have := HLT.out; simp [intOf]; omega
    have hdd : decide ((d : Int) < 40) = false := decide_eq_false (by omega)
    have HTY : Hid (tidyR l ts = ts) := Lib.hid (by rw [tidyR_yes (billsB_yes HTB.out)]; exact HTT.out)
    go_wp2_with fail
    refine (HIM.out _ _ l ts _ _ wr (HI4.out.below HB.out) HLM.out HZ.out (HT4.out.below BLN.kept HB.out) HZT.out).mono ?_
    rintro e w5 ⟨v5, rfl, HO5, HB5⟩
    rw [HTY.out] at HO5
    have H5 := Lib.hid (HB.out.trans (HB5.out.mono HB.out.size))
    obtain ⟨p5, q5, rfl⟩ := HO5.out.slice
    go_wp2_with fail
    refine (laws_sameLines _ _ ts _ _ _ _ w5 HO5.out.sl (HT4.out.below BLN.kept H5.out) HFT.out.sm).mono ?_
    rintro e w6 ⟨rfl, hb⟩
    have H6 := Lib.hid (H5.out.trans (hb.mono H5.out.size))
    clear hb HO5 HB5 H5 HB hdd hlt
    go_wp2_with fail
    go_loopw [7] (fun i wr => ∃ k : Nat, k ≤ ls.length ∧ i = .int .i64 k ∧ Hid (Below w4.heap.size w4 wr)) (fun i _ => ls.length - (intOf i).toNat)
    case atStart => exact ⟨0, Nat.zero_le _, rfl, H6⟩
    case round =>
      clear H6
      obtain ⟨k, hk, rfl, HB⟩ := hrel
      have HWR := Lib.hid (HW4.out.trans (HB.out.mono HW4.out.size))
      by_cases hlt : k < ls.length
      rotate_left
      · go_wp2_with fail
        go_ret
        exact ⟨rfl, HWR.out⟩
      by_cases hk2 : k < 2
      rotate_left
      · have hkk : decide ((k : Int) < 2) = false := decide_eq_false (by omega)
        go_wp2_with fail
        go_ret
        exact ⟨rfl, HWR.out⟩
      have hkk : decide ((k : Int) < 2) = true := decide_eq_true (by omega)
      have HLT := Lib.hid hlt
      have hi0 : (0 : Int) ≤ (k : Int) := by omega
      have hi1 : (k : Int) < (ls.length : Int) := by omega
      obtain ⟨b2, o2, c2, cl, hv2, hc2, hb2, hcl, hr5, hcell⟩ := (HX4.out.below BLN.kept HB.out).get k hlt
      simp only [Value.slice.injEq] at hv2
      obtain ⟨rfl, _, rfl⟩ := hv2
      obtain ⟨u5, rfl, h5⟩ := hr5
      have e0 := hcell 0 (by omega)
      have e1 := hcell 1 (by omega)
      simp only [List.getElem?_cons_zero, List.getElem?_cons_succ, Nat.add_zero] at e0 e1
      have HSZ := Lib.hid (HZ2.out.2 _ (List.getElem_mem hlt))
      have HNE := Lib.hid (line_prt HBT.out.1.1 (mem_bills HBT.out (List.getElem_mem hlt)))
      clear hcell h5 hc2 hcl hb2
      generalize ls[k]'hlt = x at *
      have HSX : Hid (CH.Sz ⟨7, x.par, x.prt, x.prt, 0⟩) := Lib.hid ⟨HSZ.out.1, HSZ.out.2.1, HSZ.out.2.1⟩
      have HTI := Lib.hid (HSAME.out ⟨7, x.par, x.prt, x.prt, 0⟩ rfl rfl HNE.out)
      have HAP : Hid (∀ W, Below wr.heap.size wr W → Calls Try.prog 13 #[.slice p l.length q, .slice (some ⟨b2, o2, none⟩) ls.length q2, .agg #[.int .i64 7, .string x.par, .string x.prt, .string x.prt, .int .i64 0]] W (ApOut (apO l ls ⟨7, x.par, x.prt, x.prt, 0⟩) W)) := Lib.hid (fun W hW => HIA.out _ _ l ls ⟨7, x.par, x.prt, x.prt, 0⟩ lo hi W (HI4.out.below (HB.out.trans (hW.mono HB.out.size))) HLM.out HZ.out (HX4.out.below BLN.kept (HB.out.trans (hW.mono HB.out.size))) HZ2.out HSX.out)
      go_upto_region 17 with fail
      go_region_held3 (fun W' => Hid (Below wr.heap.size wr W') ∧ W'.cell? ⟨b2, o2 + k * 6, none⟩ = some (.string x.par) ∧ W'.cell? ⟨b2, o2 + k * 6 + 1, none⟩ = some (.string x.prt))
        (first | assumption | exact hold2 e0 e1 (hold_call (by assumption) (by assumption)) | exact hold2 e0 e1 (Below.refl _ _).drew)
        (first | (go_at_call 13; refine (HAP.out _ (by first | exact (by assumption : Hid (Below wr.heap.size wr _) ∧ _).1.out | exact Below.refl _ _ | exact (Below.refl _ _).drew)).mono ?_; rintro e wS ⟨vS, rfl, HOS, HBS⟩; have hb := HBS.out; have hle := hold_le (by assumption) hb))
      have hS := (by assumption : Hid (Below wr.heap.size wr _) ∧ _)
      obtain ⟨w8, hw8⟩ : ∃ W, W = worldOf hS := ⟨_, rfl⟩
      simp only [worldOf] at hw8
      have hSX : Below wS.heap.size wS w8 := by rw [hw8]; first | exact Below.refl _ _ | exact (Below.refl _ _).drew | exact (Below.refl _ _).drew.drew
      have H8 : Hid (Below w4.heap.size w4 w8) := Lib.hid (by rw [hw8]; exact HB.out.trans (hS.1.out.mono HB.out.size))
      have HO8 := Lib.hid (HOS.out.below hSX)
      rw [← hw8]
      clear hw8 hS hSX HOS HBS e0 e1 HAP
      cases hap : apO l ls ⟨7, x.par, x.prt, x.prt, 0⟩ with
      | none =>
        clear HO8
        go_wp2_with fail
        go_roundw
        case rel => exact ⟨k + 1, by have := HLT.out; omega, by go_num, H8⟩
        case measure => have := HLT.out; simp [intOf]; omega
      | some us =>
        rw [hap] at HO8
        obtain ⟨h1, h2⟩ := apO_some hap
        have HUT : Hid (tidyR l us = ts) := Lib.hid (by
          rw [h2, tidyR_yes (billsB_yes h1.2.2), HTI.out]; exact HTS.out)
        have HUZ : Hid (BX.Sz us) := Lib.hid (by have := ap_sz (l := l) HZ2.out HSX.out; rw [hap] at this; exact this)
        obtain ⟨p8, q8, rfl⟩ := HO8.out.slice
        clear h1 h2
        simp only [Option.getD_some, Option.isSome_some] at HO8 ⊢
        go_wp2_with fail
        refine (HIM.out _ _ l us _ _ w8 (HI4.out.below H8.out) HLM.out HZ.out HO8.out.sl HUZ.out).mono ?_
        rintro e w9 ⟨v9, rfl, HO9, HB9⟩
        rw [HUT.out] at HO9
        have H9 := Lib.hid (H8.out.trans (HB9.out.mono H8.out.size))
        obtain ⟨p9, q9, rfl⟩ := HO9.out.slice
        go_wp2_with fail
        refine (laws_sameLines _ _ ts _ _ _ _ w9 HO9.out.sl (HT4.out.below BLN.kept H9.out) HFT.out.sm).mono ?_
        rintro e w10 ⟨rfl, hb⟩
        have H10 := Lib.hid (H9.out.trans (hb.mono H9.out.size))
        clear hb HO8 HO9 HB9 H9 H8
        go_wp2_with fail
        go_roundw
        case rel => exact ⟨k + 1, by have := HLT.out; omega, by go_num, H10⟩
        case measure => have := HLT.out; simp [intOf]; omega
end Go.Proofs.Ytdhldokpojghdaa
