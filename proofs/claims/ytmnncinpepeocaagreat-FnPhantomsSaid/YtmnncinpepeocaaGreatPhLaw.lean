/-
 The walk of FnPhantoms.
-/
import Derived.Test.YtmnncinpepeocaaGreatBuDx
import Derived.Test.YtmnncinpepeocaaGreatBuPh
import Derived.Test.YtmnncinpepeocaaGreatPartImpl
import Derived.Test.YtmnncinpepeocaaGreatExpImpl
import Derived.Test.YtmnncinpepeocaaGreatSpecExp
import Derived.Test.YtmnncinpepeocaaGreatSpecQty
import Derived.Test.YtmnncinpepeocaaGreatBuDr
import Derived.Test.YtmnncinpepeocaaGreatBuA
import Derived.WalkKit
import Derived.WalkSpells
import Derived.WalkSmall
import Derived.BigQuiet
import Derived.OneCell
import Derived.Deep.QuietTactic
import Derived.Deep.DeepCutAuto
import Derived.Deep.RegionHeld3
import Derived.Lib.Hide
namespace Go.Proofs.YtmnncinpepeocaaGreat
open Go.RowKit

set_option maxRecDepth 100000 in
set_option maxHeartbeats 4000000 in
theorem walk_FnPhantoms (a : Option Addr) (n c : Nat) (w : World) (hm : n ≤ maxLen) (hcode : CodeAt w.heap.size w a n) :
 Calls Tryz.prog 4 #[.slice a n c] w fun e w' => e = .returned (.bool true) ∧ Below w.heap.size w w' := by
 unfold maxLen at hm
 have HCO := Lib.hid hcode
 clear hcode
 by_cases hbig : 1048576 < n
 · have e0 : decide ((1048576 : Int) < (n : Int)) = true := decide_eq_true (by omega)
   go_enter Tryz.func4, Tryz.ntmps4
   go_wp2_with fail
   refine (laws_big a n c _).mono ?_
   rintro e w1 ⟨rfl, rfl⟩
   go_wp2
   go_ret
   exact ⟨rfl, Below.refl _ _⟩
 have e0 : decide ((1048576 : Int) < (n : Int)) = false := decide_eq_false (by omega)
 go_enter Tryz.func4, Tryz.ntmps4
 go_wp2_with fail
 refine (laws_big a n c _).mono ?_
 rintro e w1 ⟨rfl, rfl⟩
 go_wp2_with fail
 refine (draw_partsOf a n c _ (by omega) HCO.out).mono ?_
 rintro e w2 ⟨p, q, l, p2, q2, ls, s, z, d, g3, q3, ps, rfl, HL6, HL9, HP3, HSZ, HXZ, HZ, HI, HXX, HPK, HB0⟩
 obtain ⟨lo, hi, hx⟩ := HXX.out
 have HX := Lib.hid hx
 have HLM : Hid (l.length ≤ maxLen ∧ ps.length ≤ maxLen) := Lib.hid (by have h1 := HL6.out; have h2 := HP3.out; unfold maxLen; omega)
 have HIM := Lib.hid (im_explosion _ _ _ l ls s z d ps lo hi w2 HI.out HX.out HPK.out HLM.out.1 HSZ.out HXZ.out HLM.out.2)
 have HPM : Hid (∀ (W : World), Below w2.heap.size w2 W → Calls Tryz.prog 17 #[.slice p l.length q, .slice p2 ls.length q2, .string s, .int .i64 z, .int .i64 d, .slice (some ⟨g3, 0, none⟩) ps.length q3] W (NeOut (exB l ls s z d ps true) (exZ l ls s z d ps true) W)) := Lib.hid (fun W hW => im_partsOf _ _ _ l ls s z d ps lo hi W (HI.out.below hW) (HX.out.below BLN.kept hW) (HPK.out.below hW) HLM.out.1 HSZ.out HXZ.out HLM.out.2)
 have HSM : Hid (∀ W, Below w2.heap.size w2 W → Calls Tryz.prog 11 #[.slice p l.length q, .slice p2 ls.length q2, .string s, .int .i64 z, .int .i64 d, .slice (some ⟨g3, 0, none⟩) ps.length q3] W (NeOut (exB l ls s z d ps false) (exZ l ls s z d ps false) W)) := Lib.hid (fun W hW => spec_explosion _ _ _ l ls s z d ps lo hi W (HI.out.below hW) (HX.out.below BLN.kept hW) (HPK.out.below hW) HLM.out.1 HSZ.out HXZ.out HLM.out.2)
 have HQM : Hid (∀ (t b : ByteArray) (W : World), Below w2.heap.size w2 W → Calls Tryz.prog 18 #[.slice p l.length q, .slice p2 ls.length q2, .string t, .string b, .int .i64 d, .slice (some ⟨g3, 0, none⟩) ps.length q3] W (NumOut (quB l ls t b d ps) (quN l ls t b d ps) W)) := Lib.hid (fun t b W hW => spec_quantityIn _ _ _ l ls t b d ps lo hi W (HI.out.below hW) (HX.out.below BLN.kept hW) (HPK.out.below hW) HLM.out.1 HSZ.out HXZ.out HLM.out.2)
 have HLR : Hid (∀ (ph : Bool) (v : Value) (b : ByteArray) (W : World), NE.Is W v (exZ l ls s z d ps ph) → Calls Tryz.prog 13 #[v, .string b] W fun e w' => e = .returned (.int .i64 (inN (exZ l ls s z d ps ph) b)) ∧ Hid (Below W.heap.size W w')) := Lib.hid (fun ph v b W hv => laws_in v _ b W hv (by have h1 := exZ_len l ls s z d ps ph; have h2 := HL6.out; omega) (fun k hk => by have h1 := exZ_range HL6.out ls s z d ps ph b k hk; omega))
 have HZL : Hid ((exZ l ls s z d ps true).length ≤ 6) := Lib.hid (by have h1 := exZ_len l ls s z d ps true; have h2 := HL6.out; omega)
 have hz1 := HZ.out.1
 have hz2 := HZ.out.2
 clear hx HXX HCO hbig hm e0 HP3 HPK HX HZ
 go_wp2_with fail
 refine HIM.out.mono ?_
 rintro e w3 ⟨v3, rfl, HO3, HB3⟩
 have HN3 := Lib.hid (NE.is_of_row HO3.out)
 obtain ⟨a3, c3, rfl⟩ := HN3.out.slice
 have HS1 := Lib.hid (HSM.out w3 HB3.out)
 clear HIM HSM HO3
 go_wp2_with fail
 refine HS1.out.mono ?_
 rintro e w4 ⟨v4, rfl, _, HB4⟩
 have HBB4 := Lib.hid (HB3.out.trans (HB4.out.mono HB3.out.size))
 have HN4 := Lib.hid (HN3.out.below HB4.out)
 have HP2 := Lib.hid (HPM.out w4 HBB4.out)
 clear HS1 HN3 HB3 HB4 HPM
 rcases Bool.eq_false_or_eq_true (exB l ls s z d ps false) with hc | hc
 rotate_left
 · have hzz : exZ l ls s z d ps false = [] := exZ_no (fun h => by rw [exB_yes h] at hc; cases hc)
   have hz0 : (exZ l ls s z d ps false).length = 0 := by rw [hzz]; rfl
   clear hzz HN4
   rw [hc, hz0]
   go_wp2_with fail
   refine HP2.out.mono ?_
   rintro e w5 ⟨v5, rfl, _, HB5⟩
   have HBB5 := Lib.hid (HBB4.out.trans (HB5.out.mono HBB4.out.size))
   clear HP2 HB5 HBB4
   go_wp2_with fail
   go_ret
   exact ⟨rfl, HB0.out.trans (HBB5.out.mono HB0.out.size)⟩
 have hye := exB_iff.1 hc
 have hbA := exB_yes (ph_yes hye)
 have HPH := Lib.hid (fun k hk => ph_at hye k hk)
 rw [hc]
 rw [hbA] at HP2
 clear hye
 go_wp2_with fail
 refine HP2.out.mono ?_
 rintro e w5 ⟨v5, rfl, HO5, HB5⟩
 have HBB5 := Lib.hid (HBB4.out.trans (HB5.out.mono HBB4.out.size))
 have HN5 := Lib.hid (NE.is_of_row HO5.out)
 obtain ⟨a5, c5, rfl⟩ := HN5.out.slice
 have HLA := Lib.hid (fun (b : ByteArray) (W : World) (hW : Below w5.heap.size w5 W) => HLR.out false (.slice a3 (exZ l ls s z d ps false).length c3) b W ((HN4.out.below HB5.out).below hW))
 have HLP := Lib.hid (fun (b : ByteArray) (W : World) (hW : Below w5.heap.size w5 W) => HLR.out true (.slice a5 (exZ l ls s z d ps true).length c5) b W (HN5.out.below hW))
 have hl6 := HL6.out
 have hzl := HZL.out
 clear HP2 HO5 HBB4 HN4 HB5 hbA hc HLR
 generalize (exZ l ls s z d ps false) = za at *
 generalize (exZ l ls s z d ps true) = zs at *
 clear hz1 hz2
 go_wp2_with fail
 go_loopw [15] (fun i wr => ∃ k : Nat, k ≤ l.length ∧ i = .int .i64 k ∧ Hid (Below w5.heap.size w5 wr)) (fun i _ => l.length - (intOf i).toNat)
 case atStart => exact ⟨0, Nat.zero_le _, rfl, Lib.hid (Below.refl _ _)⟩
 case round =>
  obtain ⟨k, hk, rfl, HB⟩ := hrel
  have HBB := Lib.hid (HBB5.out.trans (HB.out.mono HBB5.out.size))
  by_cases hlt : k < l.length
  rotate_left
  · have hkd : decide ((k : Int) < (l.length : Int)) = false := decide_eq_false (by omega)
    go_wp2_with fail
    go_ret
    exact ⟨rfl, HB0.out.trans (HBB.out.mono HB0.out.size)⟩
  have hkd : decide ((k : Int) < (l.length : Int)) = true := decide_eq_true (by omega)
  obtain ⟨b3, o3, c3', hv3, hc3, hcell3⟩ := HI.out.some (by omega)
  simp only [Value.slice.injEq] at hv3
  obtain ⟨rfl, _, rfl⟩ := hv3
  have HIC : Hid (∀ W, Below w2.heap.size w2 W → W.cell? ⟨b3, o3 + k * 8, none⟩ = some (.string (l[k]'hlt).code)) := Lib.hid (fun W hW => ((hcell3.below hW).at k hlt).1)
  have ic := HIC.out _ HBB.out
  have ik := ((hcell3.below HBB.out).at k hlt).2.2.1
  have hph := HPH.out k hlt
  have HLT := Lib.hid hlt
  have i0' : (0 : Int) ≤ (k : Int) := by omega
  have i1' : (k : Int) < (l.length : Int) := by omega
  clear hcell3 hc3 hk
  generalize l[k]'hlt = it at *
  clear hlt
  by_cases hk2 : it.kind = 2
  · have hin := hph.1 hk2
    have HC1 := Lib.hid (HLP.out it.code)
    rw [hin] at HC1
    have hkk : (it.kind == 2) = true := by rw [hk2]; rfl
    clear hph hin hk2
    go_wp2_with fail
    refine (HC1.out _ HB.out).mono ?_
    rintro e w6 ⟨rfl, HB6⟩
    have HB7 := Lib.hid (HB.out.trans (HB6.out.mono HB.out.size))
    clear ic ik
    go_wp2_with fail
    go_roundw
    case rel => exact ⟨k + 1, HLT.out, by go_num, HB7⟩
    case measure => have := HLT.out; simp [intOf]; omega
  obtain ⟨hF1, hF2, hF3⟩ := hph.2 hk2
  have HF1 := Lib.hid hF1
  have HF2 := Lib.hid hF2
  have HF3 := Lib.hid hF3
  have HC1 := Lib.hid (HLP.out it.code)
  have HC2 := Lib.hid (HLA.out it.code)
  have hkk : (it.kind == 2) = false := beq_eq_false_iff_ne.2 hk2
  clear hph hk2 hF1 hF2 hF3
  go_wp2_with fail
  refine (HC1.out _ HB.out).mono ?_
  rintro e w6 ⟨rfl, HB6⟩
  have HB7 := Lib.hid (HB.out.trans (HB6.out.mono HB.out.size))
  have HBB7 := Lib.hid (HBB.out.trans (HB6.out.mono HBB.out.size))
  rw [← phA_zero l ls d ps it.code zs]
  clear ic ik HC1 HB6 HBB HB
  go_wp2_with fail
  go_loopw [16, 17] (fun y j wx => ∃ m : Nat, m ≤ zs.length ∧ j = .int .i64 m ∧ y = .int .i64 (phA l ls d ps it.code zs m) ∧ Hid (Below w6.heap.size w6 wx)) (fun _ j _ => zs.length - (intOf j).toNat)
  case atStart => exact ⟨0, Nat.zero_le _, rfl, rfl, Lib.hid (Below.refl _ _)⟩
  case round =>
   obtain ⟨m, hm, rfl, rfl, HBX⟩ := hrel
   have HBM := Lib.hid (HB7.out.trans (HBX.out.mono HB7.out.size))
   have HBBM := Lib.hid (HBB7.out.trans (HBX.out.mono HBB7.out.size))
   have ic := HIC.out _ HBBM.out
   by_cases hlm : m < zs.length
   rotate_left
   · have hme : m = zs.length := by omega
     have hmd : decide ((m : Int) < (zs.length : Int)) = false := decide_eq_false (by omega)
     by_cases hs : it.code = s
     · have hq := str_eq hs
       have hqn : (it.code.toList != s.toList) = false := by rw [bne, hq]; rfl
       clear hs HF3 hme
       go_wp2_with fail
       go_roundw
       case rel => exact ⟨k + 1, HLT.out, by go_num, HBM⟩
       case measure => have := HLT.out; simp [intOf]; omega
     · have hq := str_ne hs
       have hqn : (it.code.toList != s.toList) = true := by rw [bne, hq]; rfl
       have h3 := HF3.out hs
       rw [← hme] at h3
       rw [h3]
       have hee : (inN za it.code != inN za it.code) = false := by simp
       clear hs HF3 hme h3
       go_wp2_with fail
       refine (HC2.out _ HBM.out).mono ?_
       rintro e w8 ⟨rfl, HB8⟩
       have HB9 := Lib.hid (HBM.out.trans (HB8.out.mono HBM.out.size))
       go_wp2_with fail
       go_roundw
       case rel => exact ⟨k + 1, HLT.out, by go_num, HB9⟩
       case measure => have := HLT.out; simp [intOf]; omega
   have hmd : decide ((m : Int) < (zs.length : Int)) = true := decide_eq_true (by omega)
   have HLM2 := Lib.hid hlm
   obtain ⟨b2, o2, c2', hv2, hc2, hcell2⟩ := (HN5.out.below HBM.out).some (by omega)
   simp only [Value.slice.injEq] at hv2
   obtain ⟨rfl, _, rfl⟩ := hv2
   obtain ⟨x0, x1⟩ := hcell2.at m hlm
   have HSU := Lib.hid (phA_succ (l := l) (xs := ls) (day := d) (ps := ps) (b := it.code) hlm)
   have hfx := HF1.out _ (List.getElem_mem hlm)
   obtain ⟨y0, y1⟩ := HF2.out m (by omega)
   have j0' : (0 : Int) ≤ (m : Int) := by omega
   have j1' : (m : Int) < (zs.length : Int) := by omega
   clear hcell2 hc2 hm
   generalize zs[m]'hlm = x at *
   clear hlm
   generalize phA l ls d ps it.code zs m = y at *
   by_cases he : x.code = it.code
   · have hq := str_eq he
     have hqn : (x.code.toList != it.code.toList) = false := by rw [bne, hq]; rfl
     have hnx : phA l ls d ps it.code zs (m + 1) = y := by rw [HSU.out]; unfold phT; rw [if_pos he, Int.add_zero]
     have HNX := Lib.hid hnx
     clear he hfx hnx HSU
     go_upto_region 21 with fail
     refine wp_region_held_drew (S := (fun W' => Hid (Below wr.heap.size wr W') ∧ W'.cell? ⟨b2, o2 + m * 2, none⟩ = some (.string x.code) ∧ W'.cell? ⟨b3, o3 + k * 8, none⟩ = some (.string it.code))) (by kernel_rfl) (hold2 x0 ic (Below.refl _ _).drew) (fun hHeld => ?_)
     refine wpAnyH_take (i := 0) (oi := { dst := some 102, op := Op.move (Operand.tmp 13), type := 29, pos := _, after := #[], guard := none }) (v := ?vr1x1) rfl (by kernel_rfl) (by kernel_rfl) (by kernel_rfl) (fun _ _ _ h => h) (Or.inl ⟨by rfl, ?yr1x1⟩) (by assumption) ?rr1x1
     case yr1x1 => (intro w' hSw; (try dsimp only at hSw); go_simp; (try with_reducible rfl))
     refine wpAnyH_take (i := 1) (oi := { dst := some 103, op := Op.move (Operand.tmp 17), type := 3, pos := _, after := #[], guard := none }) (v := ?vr1x2) rfl (by kernel_rfl) (by kernel_rfl) (by kernel_rfl) (fun _ _ _ h => h) (Or.inl ⟨by rfl, ?yr1x2⟩) (by assumption) ?rr1x2
     case yr1x2 => (intro w' hSw; (try dsimp only at hSw); go_simp; (try with_reducible rfl))
     refine wpAnyH_take (i := 2) (oi := { dst := some 104, op := Op.indexAddr 29 (Operand.tmp 102) (Operand.tmp 103), type := 0, pos := _, after := #[{ on := 0, ground := Ground.data }, { on := 1, ground := Ground.data }], guard := none }) (v := ?vr1x3) rfl (by kernel_rfl) (by kernel_rfl) (by kernel_rfl) (fun _ _ _ h => h) (Or.inl ⟨by rfl, ?yr1x3⟩) (by assumption) ?rr1x3
     case yr1x3 => (intro w' hSw; (try dsimp only at hSw); go_simp; (try with_reducible rfl))
     (try simp only [Act.put, List.setIfInBounds_toArray, List.set_cons_zero, List.set_cons_succ])
     refine wpAnyH_take (i := 3) (oi := { dst := some 105, op := Op.fieldAddr 42 (Operand.tmp 104) 0, type := 0, pos := _, after := #[{ on := 2, ground := Ground.data }], guard := none }) (v := ?vr1x4) rfl (by kernel_rfl) (by kernel_rfl) (by kernel_rfl) (fun _ _ _ h => h) (Or.inl ⟨by rfl, ?yr1x4⟩) (by assumption) ?rr1x4
     case yr1x4 => (intro w' hSw; (try dsimp only at hSw); go_simp; (try with_reducible rfl))
     refine wpAnyH_take (i := 4) (oi := { dst := some 106, op := Op.load 9 (Operand.tmp 105), type := 9, pos := _, after := #[{ on := 3, ground := Ground.data }], guard := none }) (v := ?vr1x5) rfl (by kernel_rfl) (by kernel_rfl) (by kernel_rfl) (fun _ _ _ h => h) (Or.inl ⟨by rfl, ?yr1x5⟩) (by assumption) ?rr1x5
     case yr1x5 => (intro w' hSw; (try dsimp only at hSw); go_simp; (try with_reducible rfl))
     refine wpAnyH_take (i := 5) (oi := { dst := some 107, op := Op.move (Operand.tmp 3), type := 24, pos := _, after := #[], guard := none }) (v := ?vr1x6) rfl (by kernel_rfl) (by kernel_rfl) (by kernel_rfl) (fun _ _ _ h => h) (Or.inl ⟨by rfl, ?yr1x6⟩) (by assumption) ?rr1x6
     case yr1x6 => (intro w' hSw; (try dsimp only at hSw); go_simp; (try with_reducible rfl))
     (try simp only [Act.put, List.setIfInBounds_toArray, List.set_cons_zero, List.set_cons_succ])
     refine wpAnyH_take (i := 6) (oi := { dst := some 108, op := Op.move (Operand.tmp 15), type := 3, pos := _, after := #[], guard := none }) (v := ?vr1x7) rfl (by kernel_rfl) (by kernel_rfl) (by kernel_rfl) (fun _ _ _ h => h) (Or.inl ⟨by rfl, ?yr1x7⟩) (by assumption) ?rr1x7
     case yr1x7 => (intro w' hSw; (try dsimp only at hSw); go_simp; (try with_reducible rfl))
     refine wpAnyH_take (i := 7) (oi := { dst := some 109, op := Op.indexAddr 24 (Operand.tmp 107) (Operand.tmp 108), type := 0, pos := _, after := #[{ on := 5, ground := Ground.data }, { on := 6, ground := Ground.data }], guard := none }) (v := ?vr1x8) rfl (by kernel_rfl) (by kernel_rfl) (by kernel_rfl) (fun _ _ _ h => h) (Or.inl ⟨by rfl, ?yr1x8⟩) (by assumption) ?rr1x8
     case yr1x8 => (intro w' hSw; (try dsimp only at hSw); go_simp; (try with_reducible rfl))
     refine wpAnyH_take (i := 8) (oi := { dst := some 110, op := Op.fieldAddr 33 (Operand.tmp 109) 0, type := 0, pos := _, after := #[{ on := 7, ground := Ground.data }], guard := none }) (v := ?vr1x9) rfl (by kernel_rfl) (by kernel_rfl) (by kernel_rfl) (fun _ _ _ h => h) (Or.inl ⟨by rfl, ?yr1x9⟩) (by assumption) ?rr1x9
     case yr1x9 => (intro w' hSw; (try dsimp only at hSw); go_simp; (try with_reducible rfl))
     (try simp only [Act.put, List.setIfInBounds_toArray, List.set_cons_zero, List.set_cons_succ])
     refine wpAnyH_take (i := 9) (oi := { dst := some 111, op := Op.load 9 (Operand.tmp 110), type := 9, pos := _, after := #[{ on := 8, ground := Ground.data }], guard := none }) (v := ?vr1x10) rfl (by kernel_rfl) (by kernel_rfl) (by kernel_rfl) (fun _ _ _ h => h) (Or.inl ⟨by rfl, ?yr1x10⟩) (by assumption) ?rr1x10
     case yr1x10 => (intro w' hSw; (try dsimp only at hSw); go_simp; (try with_reducible rfl))
     refine wpAnyH_take (i := 10) (oi := { dst := some 112, op := Op.binOp BinOp.neq 9 (Operand.tmp 106) (Operand.tmp 111) 9, type := 4, pos := _, after := #[{ on := 4, ground := Ground.data }, { on := 9, ground := Ground.data }], guard := none }) (v := ?vr1x11) rfl (by kernel_rfl) (by kernel_rfl) (by kernel_rfl) (fun _ _ _ h => h) (Or.inl ⟨by rfl, ?yr1x11⟩) (by assumption) ?rr1x11
     case yr1x11 => (intro w' hSw; (try dsimp only at hSw); go_simp; (try with_reducible rfl))
     (try simp only [Act.put, List.setIfInBounds_toArray, List.set_cons_zero, List.set_cons_succ])
     refine wpAnyH_done (by kernel_rfl) ?_ _
     have hS := (by assumption : Hid (Below wr.heap.size wr _) ∧ _)
     have HB9 := Lib.hid (HBX.out.trans (hS.1.out.mono HBX.out.size))
     go_wp2_with fail
     go_roundw
     case rel => exact ⟨m + 1, HLM2.out, by go_num, by rw [HNX.out], HB9⟩
     case measure => have := HLM2.out; simp [intOf]; omega
   · have hq := str_ne he
     have hqn : (x.code.toList != it.code.toList) = true := by rw [bne, hq]; rfl
     obtain ⟨f1, f2, f3, f4, f5⟩ := hfx he
     have hnx : phA l ls d ps it.code zs (m + 1) = y + quN l ls x.code it.code d ps * x.qty := by rw [HSU.out]; unfold phT; rw [if_neg he]
     have HNX := Lib.hid hnx
     have HQC := Lib.hid (fun W hW => HQM.out x.code it.code W hW)
     rw [f1] at HQC
     generalize quN l ls x.code it.code d ps = qm at *
     have hw1 : IntKind.i64.wrap (qm * x.qty) = qm * x.qty := (IntKind.wrap_i64 _).trans (by omega)
     have hw2 : IntKind.i64.wrap (y + qm * x.qty) = y + qm * x.qty := (IntKind.wrap_i64 _).trans (by omega)
     clear he hnx HSU f1
     go_upto_region 21 with fail
     refine wp_region_held_drew (S := (fun W' => Hid (Below wr.heap.size wr W') ∧ W'.cell? ⟨b2, o2 + m * 2, none⟩ = some (.string x.code) ∧ W'.cell? ⟨b3, o3 + k * 8, none⟩ = some (.string it.code))) (by kernel_rfl) (hold2 x0 ic (Below.refl _ _).drew) (fun hHeld => ?_)
     refine wpAnyH_take (i := 0) (oi := { dst := some 102, op := Op.move (Operand.tmp 13), type := 29, pos := _, after := #[], guard := none }) (v := ?vr2x1) rfl (by kernel_rfl) (by kernel_rfl) (by kernel_rfl) (fun _ _ _ h => h) (Or.inl ⟨by rfl, ?yr2x1⟩) (by assumption) ?rr2x1
     case yr2x1 => (intro w' hSw; (try dsimp only at hSw); go_simp; (try with_reducible rfl))
     refine wpAnyH_take (i := 1) (oi := { dst := some 103, op := Op.move (Operand.tmp 17), type := 3, pos := _, after := #[], guard := none }) (v := ?vr2x2) rfl (by kernel_rfl) (by kernel_rfl) (by kernel_rfl) (fun _ _ _ h => h) (Or.inl ⟨by rfl, ?yr2x2⟩) (by assumption) ?rr2x2
     case yr2x2 => (intro w' hSw; (try dsimp only at hSw); go_simp; (try with_reducible rfl))
     refine wpAnyH_take (i := 2) (oi := { dst := some 104, op := Op.indexAddr 29 (Operand.tmp 102) (Operand.tmp 103), type := 0, pos := _, after := #[{ on := 0, ground := Ground.data }, { on := 1, ground := Ground.data }], guard := none }) (v := ?vr2x3) rfl (by kernel_rfl) (by kernel_rfl) (by kernel_rfl) (fun _ _ _ h => h) (Or.inl ⟨by rfl, ?yr2x3⟩) (by assumption) ?rr2x3
     case yr2x3 => (intro w' hSw; (try dsimp only at hSw); go_simp; (try with_reducible rfl))
     (try simp only [Act.put, List.setIfInBounds_toArray, List.set_cons_zero, List.set_cons_succ])
     refine wpAnyH_take (i := 3) (oi := { dst := some 105, op := Op.fieldAddr 42 (Operand.tmp 104) 0, type := 0, pos := _, after := #[{ on := 2, ground := Ground.data }], guard := none }) (v := ?vr2x4) rfl (by kernel_rfl) (by kernel_rfl) (by kernel_rfl) (fun _ _ _ h => h) (Or.inl ⟨by rfl, ?yr2x4⟩) (by assumption) ?rr2x4
     case yr2x4 => (intro w' hSw; (try dsimp only at hSw); go_simp; (try with_reducible rfl))
     refine wpAnyH_take (i := 4) (oi := { dst := some 106, op := Op.load 9 (Operand.tmp 105), type := 9, pos := _, after := #[{ on := 3, ground := Ground.data }], guard := none }) (v := ?vr2x5) rfl (by kernel_rfl) (by kernel_rfl) (by kernel_rfl) (fun _ _ _ h => h) (Or.inl ⟨by rfl, ?yr2x5⟩) (by assumption) ?rr2x5
     case yr2x5 => (intro w' hSw; (try dsimp only at hSw); go_simp; (try with_reducible rfl))
     refine wpAnyH_take (i := 5) (oi := { dst := some 107, op := Op.move (Operand.tmp 3), type := 24, pos := _, after := #[], guard := none }) (v := ?vr2x6) rfl (by kernel_rfl) (by kernel_rfl) (by kernel_rfl) (fun _ _ _ h => h) (Or.inl ⟨by rfl, ?yr2x6⟩) (by assumption) ?rr2x6
     case yr2x6 => (intro w' hSw; (try dsimp only at hSw); go_simp; (try with_reducible rfl))
     (try simp only [Act.put, List.setIfInBounds_toArray, List.set_cons_zero, List.set_cons_succ])
     refine wpAnyH_take (i := 6) (oi := { dst := some 108, op := Op.move (Operand.tmp 15), type := 3, pos := _, after := #[], guard := none }) (v := ?vr2x7) rfl (by kernel_rfl) (by kernel_rfl) (by kernel_rfl) (fun _ _ _ h => h) (Or.inl ⟨by rfl, ?yr2x7⟩) (by assumption) ?rr2x7
     case yr2x7 => (intro w' hSw; (try dsimp only at hSw); go_simp; (try with_reducible rfl))
     refine wpAnyH_take (i := 7) (oi := { dst := some 109, op := Op.indexAddr 24 (Operand.tmp 107) (Operand.tmp 108), type := 0, pos := _, after := #[{ on := 5, ground := Ground.data }, { on := 6, ground := Ground.data }], guard := none }) (v := ?vr2x8) rfl (by kernel_rfl) (by kernel_rfl) (by kernel_rfl) (fun _ _ _ h => h) (Or.inl ⟨by rfl, ?yr2x8⟩) (by assumption) ?rr2x8
     case yr2x8 => (intro w' hSw; (try dsimp only at hSw); go_simp; (try with_reducible rfl))
     refine wpAnyH_take (i := 8) (oi := { dst := some 110, op := Op.fieldAddr 33 (Operand.tmp 109) 0, type := 0, pos := _, after := #[{ on := 7, ground := Ground.data }], guard := none }) (v := ?vr2x9) rfl (by kernel_rfl) (by kernel_rfl) (by kernel_rfl) (fun _ _ _ h => h) (Or.inl ⟨by rfl, ?yr2x9⟩) (by assumption) ?rr2x9
     case yr2x9 => (intro w' hSw; (try dsimp only at hSw); go_simp; (try with_reducible rfl))
     (try simp only [Act.put, List.setIfInBounds_toArray, List.set_cons_zero, List.set_cons_succ])
     refine wpAnyH_take (i := 9) (oi := { dst := some 111, op := Op.load 9 (Operand.tmp 110), type := 9, pos := _, after := #[{ on := 8, ground := Ground.data }], guard := none }) (v := ?vr2x10) rfl (by kernel_rfl) (by kernel_rfl) (by kernel_rfl) (fun _ _ _ h => h) (Or.inl ⟨by rfl, ?yr2x10⟩) (by assumption) ?rr2x10
     case yr2x10 => (intro w' hSw; (try dsimp only at hSw); go_simp; (try with_reducible rfl))
     refine wpAnyH_take (i := 10) (oi := { dst := some 112, op := Op.binOp BinOp.neq 9 (Operand.tmp 106) (Operand.tmp 111) 9, type := 4, pos := _, after := #[{ on := 4, ground := Ground.data }, { on := 9, ground := Ground.data }], guard := none }) (v := ?vr2x11) rfl (by kernel_rfl) (by kernel_rfl) (by kernel_rfl) (fun _ _ _ h => h) (Or.inl ⟨by rfl, ?yr2x11⟩) (by assumption) ?rr2x11
     case yr2x11 => (intro w' hSw; (try dsimp only at hSw); go_simp; (try with_reducible rfl))
     (try simp only [Act.put, List.setIfInBounds_toArray, List.set_cons_zero, List.set_cons_succ])
     refine wpAnyH_done (by kernel_rfl) ?_ _
     have hS := (by assumption : Hid (Below wr.heap.size wr _) ∧ _)
     have HB9 := Lib.hid hS.1.out
     go_upto_region 22 with fail
     refine wp_region_held_drew (S := (fun W' => Hid (Below wr.heap.size wr W') ∧ W'.cell? ⟨b2, o2 + m * 2, none⟩ = some (.string x.code) ∧ W'.cell? ⟨b3, o3 + k * 8, none⟩ = some (.string it.code))) (by kernel_rfl) (hold2 x0 ic HB9.out.drew) (fun hHeld => ?_)
     refine wpAnyH_take (i := 0) (oi := { dst := some 114, op := Op.move (Operand.tmp 3), type := 24, pos := _, after := #[], guard := none }) (v := ?vr3x1) rfl (by kernel_rfl) (by kernel_rfl) (by kernel_rfl) (fun _ _ _ h => h) (Or.inl ⟨by rfl, ?yr3x1⟩) (by assumption) ?rr3x1
     case yr3x1 => (intro w' hSw; (try dsimp only at hSw); go_simp; (try with_reducible rfl))
     refine wpAnyH_take (i := 1) (oi := { dst := some 115, op := Op.move (Operand.tmp 4), type := 25, pos := _, after := #[], guard := none }) (v := ?vr3x2) rfl (by kernel_rfl) (by kernel_rfl) (by kernel_rfl) (fun _ _ _ h => h) (Or.inl ⟨by rfl, ?yr3x2⟩) (by assumption) ?rr3x2
     case yr3x2 => (intro w' hSw; (try dsimp only at hSw); go_simp; (try with_reducible rfl))
     refine wpAnyH_take (i := 2) (oi := { dst := some 116, op := Op.move (Operand.tmp 13), type := 29, pos := _, after := #[], guard := none }) (v := ?vr3x3) rfl (by kernel_rfl) (by kernel_rfl) (by kernel_rfl) (fun _ _ _ h => h) (Or.inl ⟨by rfl, ?yr3x3⟩) (by assumption) ?rr3x3
     case yr3x3 => (intro w' hSw; (try dsimp only at hSw); go_simp; (try with_reducible rfl))
     (try simp only [Act.put, List.setIfInBounds_toArray, List.set_cons_zero, List.set_cons_succ])
     refine wpAnyH_take (i := 3) (oi := { dst := some 117, op := Op.move (Operand.tmp 17), type := 3, pos := _, after := #[], guard := none }) (v := ?vr3x4) rfl (by kernel_rfl) (by kernel_rfl) (by kernel_rfl) (fun _ _ _ h => h) (Or.inl ⟨by rfl, ?yr3x4⟩) (by assumption) ?rr3x4
     case yr3x4 => (intro w' hSw; (try dsimp only at hSw); go_simp; (try with_reducible rfl))
     refine wpAnyH_take (i := 4) (oi := { dst := some 118, op := Op.indexAddr 29 (Operand.tmp 116) (Operand.tmp 117), type := 0, pos := _, after := #[{ on := 2, ground := Ground.data }, { on := 3, ground := Ground.data }], guard := none }) (v := ?vr3x5) rfl (by kernel_rfl) (by kernel_rfl) (by kernel_rfl) (fun _ _ _ h => h) (Or.inl ⟨by rfl, ?yr3x5⟩) (by assumption) ?rr3x5
     case yr3x5 => (intro w' hSw; (try dsimp only at hSw); go_simp; (try with_reducible rfl))
     refine wpAnyH_take (i := 5) (oi := { dst := some 119, op := Op.fieldAddr 42 (Operand.tmp 118) 0, type := 0, pos := _, after := #[{ on := 4, ground := Ground.data }], guard := none }) (v := ?vr3x6) rfl (by kernel_rfl) (by kernel_rfl) (by kernel_rfl) (fun _ _ _ h => h) (Or.inl ⟨by rfl, ?yr3x6⟩) (by assumption) ?rr3x6
     case yr3x6 => (intro w' hSw; (try dsimp only at hSw); go_simp; (try with_reducible rfl))
     (try simp only [Act.put, List.setIfInBounds_toArray, List.set_cons_zero, List.set_cons_succ])
     refine wpAnyH_take (i := 6) (oi := { dst := some 120, op := Op.load 9 (Operand.tmp 119), type := 9, pos := _, after := #[{ on := 5, ground := Ground.data }], guard := none }) (v := ?vr3x7) rfl (by kernel_rfl) (by kernel_rfl) (by kernel_rfl) (fun _ _ _ h => h) (Or.inl ⟨by rfl, ?yr3x7⟩) (by assumption) ?rr3x7
     case yr3x7 => (intro w' hSw; (try dsimp only at hSw); go_simp; (try with_reducible rfl))
     refine wpAnyH_take (i := 7) (oi := { dst := some 121, op := Op.move (Operand.tmp 3), type := 24, pos := _, after := #[], guard := none }) (v := ?vr3x8) rfl (by kernel_rfl) (by kernel_rfl) (by kernel_rfl) (fun _ _ _ h => h) (Or.inl ⟨by rfl, ?yr3x8⟩) (by assumption) ?rr3x8
     case yr3x8 => (intro w' hSw; (try dsimp only at hSw); go_simp; (try with_reducible rfl))
     refine wpAnyH_take (i := 8) (oi := { dst := some 122, op := Op.move (Operand.tmp 15), type := 3, pos := _, after := #[], guard := none }) (v := ?vr3x9) rfl (by kernel_rfl) (by kernel_rfl) (by kernel_rfl) (fun _ _ _ h => h) (Or.inl ⟨by rfl, ?yr3x9⟩) (by assumption) ?rr3x9
     case yr3x9 => (intro w' hSw; (try dsimp only at hSw); go_simp; (try with_reducible rfl))
     (try simp only [Act.put, List.setIfInBounds_toArray, List.set_cons_zero, List.set_cons_succ])
     refine wpAnyH_take (i := 9) (oi := { dst := some 123, op := Op.indexAddr 24 (Operand.tmp 121) (Operand.tmp 122), type := 0, pos := _, after := #[{ on := 7, ground := Ground.data }, { on := 8, ground := Ground.data }], guard := none }) (v := ?vr3x10) rfl (by kernel_rfl) (by kernel_rfl) (by kernel_rfl) (fun _ _ _ h => h) (Or.inl ⟨by rfl, ?yr3x10⟩) (by assumption) ?rr3x10
     case yr3x10 => (intro w' hSw; (try dsimp only at hSw); go_simp; (try with_reducible rfl))
     refine wpAnyH_take (i := 10) (oi := { dst := some 124, op := Op.fieldAddr 33 (Operand.tmp 123) 0, type := 0, pos := _, after := #[{ on := 9, ground := Ground.data }], guard := none }) (v := ?vr3x11) rfl (by kernel_rfl) (by kernel_rfl) (by kernel_rfl) (fun _ _ _ h => h) (Or.inl ⟨by rfl, ?yr3x11⟩) (by assumption) ?rr3x11
     case yr3x11 => (intro w' hSw; (try dsimp only at hSw); go_simp; (try with_reducible rfl))
     refine wpAnyH_take (i := 11) (oi := { dst := some 125, op := Op.load 9 (Operand.tmp 124), type := 9, pos := _, after := #[{ on := 10, ground := Ground.data }], guard := none }) (v := ?vr3x12) rfl (by kernel_rfl) (by kernel_rfl) (by kernel_rfl) (fun _ _ _ h => h) (Or.inl ⟨by rfl, ?yr3x12⟩) (by assumption) ?rr3x12
     case yr3x12 => (intro w' hSw; (try dsimp only at hSw); go_simp; (try with_reducible rfl))
     (try simp only [Act.put, List.setIfInBounds_toArray, List.set_cons_zero, List.set_cons_succ])
     refine wpAnyH_take (i := 12) (oi := { dst := some 126, op := Op.move (Operand.tmp 7), type := 3, pos := _, after := #[], guard := none }) (v := ?vr3x13) rfl (by kernel_rfl) (by kernel_rfl) (by kernel_rfl) (fun _ _ _ h => h) (Or.inl ⟨by rfl, ?yr3x13⟩) (by assumption) ?rr3x13
     case yr3x13 => (intro w' hSw; (try dsimp only at hSw); go_simp; (try with_reducible rfl))
     refine wpAnyH_take (i := 13) (oi := { dst := some 127, op := Op.move (Operand.tmp 8), type := 26, pos := _, after := #[], guard := none }) (v := ?vr3x14) rfl (by kernel_rfl) (by kernel_rfl) (by kernel_rfl) (fun _ _ _ h => h) (Or.inl ⟨by rfl, ?yr3x14⟩) (by assumption) ?rr3x14
     case yr3x14 => (intro w' hSw; (try dsimp only at hSw); go_simp; (try with_reducible rfl))
     (try simp only [Act.put, List.setIfInBounds_toArray, List.set_cons_zero, List.set_cons_succ])
     refine wpAnyH_ready (rs := [14]) (by kernel_rfl) (by simp) ?_
     refine AllReadyH.cons (o := { dst := some 128, op := Op.call { callee := Callee.value (Operand.func 18), args := #[Operand.tmp 114, Operand.tmp 115, Operand.tmp 120, Operand.tmp 125, Operand.tmp 126, Operand.tmp 127], argTypes := #[24, 25, 9, 9, 3, 26] }, type := 34, pos := _, after := #[{ on := 0, ground := Ground.data }, { on := 1, ground := Ground.data }, { on := 6, ground := Ground.data }, { on := 11, ground := Ground.data }, { on := 12, ground := Ground.data }, { on := 13, ground := Ground.data }], guard := none }) rfl (fun K hK => ?_) AllReadyH.nil
     go_simp
     refine (HQC.out _ (HBBM.out.trans (Below.mono (by exact (by assumption : Hid (Below wr.heap.size wr _) ∧ _).1.out) HBBM.out.size))).mono ?_; rintro e w' ⟨rfl, hb'⟩; have hb := hb'.out; have hle := hold_le (by assumption) hb
     (try go_wp2_with fail)
     refine hK.out _ _ ?_ (fun hHeld => ?_)
     · (try dsimp only); first | assumption | exact hold2 x0 ic (hold_call (by assumption) (by assumption))
     clear hK K
     (try simp only [Act.put, List.setIfInBounds_toArray, List.set_cons_zero, List.set_cons_succ])
     refine wpAnyH_take (i := 15) (oi := { dst := some 113, op := Op.move (Operand.tmp 128), type := 34, pos := _, after := #[{ on := 14, ground := Ground.data }], guard := none }) (v := ?vr3x15) rfl (by kernel_rfl) (by kernel_rfl) (by kernel_rfl) (fun _ _ _ h => h) (Or.inl ⟨by rfl, ?yr3x15⟩) (by assumption) ?rr3x15
     case yr3x15 => (intro w' hSw; (try dsimp only at hSw); go_simp; (try with_reducible rfl))
     refine wpAnyH_take (i := 16) (oi := { dst := some 129, op := Op.extract (Operand.tmp 113) 0, type := 3, pos := _, after := #[{ on := 15, ground := Ground.data }], guard := none }) (v := ?vr3x16) rfl (by kernel_rfl) (by kernel_rfl) (by kernel_rfl) (fun _ _ _ h => h) (Or.inl ⟨by rfl, ?yr3x16⟩) (by assumption) ?rr3x16
     case yr3x16 => (intro w' hSw; (try dsimp only at hSw); go_simp; (try with_reducible rfl))
     refine wpAnyH_take (i := 17) (oi := { dst := some 130, op := Op.extract (Operand.tmp 113) 1, type := 4, pos := _, after := #[{ on := 15, ground := Ground.data }, { on := 18, ground := Ground.gcOnly Departure.lateStores }], guard := none }) (v := ?vr3x17) rfl (by kernel_rfl) (by kernel_rfl) (by kernel_rfl) (fun _ _ _ h => h) (Or.inl ⟨by rfl, ?yr3x17⟩) (by assumption) ?rr3x17
     case yr3x17 => (intro w' hSw; (try dsimp only at hSw); go_simp; (try with_reducible rfl))
     (try simp only [Act.put, List.setIfInBounds_toArray, List.set_cons_zero, List.set_cons_succ])
     refine wpAnyH_take (i := 18) (oi := { dst := some 18, op := Op.assign (Operand.tmp 129), type := 3, pos := _, after := #[{ on := 16, ground := Ground.data }, { on := 14, ground := Ground.chain }, { on := 0, ground := Ground.phase }, { on := 1, ground := Ground.phase }, { on := 2, ground := Ground.phase }, { on := 3, ground := Ground.phase }, { on := 4, ground := Ground.phase }, { on := 5, ground := Ground.phase }, { on := 6, ground := Ground.phase }, { on := 7, ground := Ground.phase }, { on := 8, ground := Ground.phase }, { on := 9, ground := Ground.phase }, { on := 10, ground := Ground.phase }, { on := 11, ground := Ground.phase }, { on := 12, ground := Ground.phase }, { on := 13, ground := Ground.phase }, { on := 14, ground := Ground.phase }, { on := 15, ground := Ground.phase }, { on := 16, ground := Ground.phase }, { on := 17, ground := Ground.textOnly Departure.lateStores }], guard := none }) (v := ?vr3x18) rfl (by kernel_rfl) (by kernel_rfl) (by kernel_rfl) (fun _ _ _ h => h) (Or.inl ⟨by rfl, ?yr3x18⟩) (by assumption) ?rr3x18
     case yr3x18 => (intro w' hSw; (try dsimp only at hSw); go_simp; (try with_reducible rfl))
     refine wpAnyH_take (i := 19) (oi := { dst := some 19, op := Op.assign (Operand.tmp 130), type := 4, pos := _, after := #[{ on := 17, ground := Ground.data }, { on := 18, ground := Ground.chain }, { on := 0, ground := Ground.phase }, { on := 1, ground := Ground.phase }, { on := 2, ground := Ground.phase }, { on := 3, ground := Ground.phase }, { on := 4, ground := Ground.phase }, { on := 5, ground := Ground.phase }, { on := 6, ground := Ground.phase }, { on := 7, ground := Ground.phase }, { on := 8, ground := Ground.phase }, { on := 9, ground := Ground.phase }, { on := 10, ground := Ground.phase }, { on := 11, ground := Ground.phase }, { on := 12, ground := Ground.phase }, { on := 13, ground := Ground.phase }, { on := 14, ground := Ground.phase }, { on := 15, ground := Ground.phase }, { on := 16, ground := Ground.phase }, { on := 17, ground := Ground.phase }, { on := 18, ground := Ground.phase }], guard := none }) (v := ?vr3x19) rfl (by kernel_rfl) (by kernel_rfl) (by kernel_rfl) (fun _ _ _ h => h) (Or.inl ⟨by rfl, ?yr3x19⟩) (by assumption) ?rr3x19
     case yr3x19 => (intro w' hSw; (try dsimp only at hSw); go_simp; (try with_reducible rfl))
     (try simp only [Act.put, List.setIfInBounds_toArray, List.set_cons_zero, List.set_cons_succ])
     refine wpAnyH_done (by kernel_rfl) ?_ _
     have hS2 := (by assumption : Hid (Below wr.heap.size wr _) ∧ _)
     have HB10 := Lib.hid (HBX.out.trans (hS2.1.out.mono HBX.out.size))
     have x2 := hold_c x1 hS2.1.out
     clear ic x0 x1
     go_wp2_with fail
     go_roundw
     case rel => exact ⟨m + 1, HLM2.out, by go_num, by rw [HNX.out], HB10⟩
     case measure => have := HLM2.out; simp [intOf]; omega
end Go.Proofs.YtmnncinpepeocaaGreat
