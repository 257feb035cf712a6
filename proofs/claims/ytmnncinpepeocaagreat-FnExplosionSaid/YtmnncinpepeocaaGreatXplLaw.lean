/-
 The walk of FnExplosion.
-/
import Derived.Test.YtmnncinpepeocaaGreatBuDx
import Derived.Test.YtmnncinpepeocaaGreatBuPh
import Derived.Test.YtmnncinpepeocaaGreatWaysImpl
import Derived.Test.YtmnncinpepeocaaGreatQtyImpl
import Derived.Test.YtmnncinpepeocaaGreatExpImpl
import Derived.Test.YtmnncinpepeocaaGreatSpecExp
import Derived.Test.YtmnncinpepeocaaGreatBuSum
import Derived.Test.YtmnncinpepeocaaGreatBuDr
import Derived.Test.YtmnncinpepeocaaGreatBuA
import Derived.WalkKit
import Derived.WalkSpells
import Derived.WalkSmall
import Derived.BigQuiet
import Derived.OneCell
import Derived.Deep.QuietTactic
import Derived.Deep.DeepCutAuto
import Derived.Lib.Hide
namespace Go.Proofs.YtmnncinpepeocaaGreat
open Go.RowKit

theorem sumL_nat : ∀ ws : List Nat, sumL (ws.map (fun n => ((n : Nat) : Int))) = ((ws.sum : Nat) : Int)
 | [] => rfl
 | x :: ws => by
  rw [List.map_cons, List.sum_cons, Int.natCast_add, ← sumL_nat ws]
  rfl
theorem sum_take_nat (ws : List Nat) (k : Nat) : (ws.take k).sum ≤ ws.sum := by
 have h : ws.sum = (ws.take k).sum + (ws.drop k).sum := by rw [← List.sum_append, List.take_append_drop]
 omega
theorem sumOk_nat {ws : List Nat} (h : ws.sum ≤ 1000000000) : SumOk (ws.map (fun n => ((n : Nat) : Int))) := by
 intro k
 rw [← List.map_take, sumL_nat]
 have := sum_take_nat ws k
 omega
/-- What FnExplosion asks of a code. -/
theorem xl_one {l : List IT} {xs : List BL} {s : ByteArray} {q day : Int} {ps : List PK} (h : ExYes l xs s q day ps false) (hq : 0 < q) {b : ByteArray} (hb : b ∈ l.map IT.code) (hne : b ≠ s) :
 quB l xs s b day ps = true ∧ inN (exZ l xs s q day ps false) b = quN l xs s b day ps * q ∧ 0 ≤ quN l xs s b day ps * q ∧ quN l xs s b day ps * q ≤ 1000000000 := by
 obtain ⟨n, rfl⟩ : ∃ n : Nat, q = (n : Int) := ⟨q.toNat, by omega⟩
 have hn : 1 ≤ n := by omega
 obtain ⟨r, hr, hrb⟩ := List.mem_map.1 hb
 obtain ⟨k, hk, hkr⟩ := List.getElem_of_mem hr
 have h1 := h.2 k hk
 rw [exV_off, hkr, hrb, Int.toNat_natCast] at h1
 have h2 : wAll xs day ps s b ≤ n * wAll xs day ps s b := Nat.le_mul_of_pos_left _ hn
 obtain ⟨k0, _, hf⟩ := mem_fi h.1.1.1.1 hb
 have hy : QuYes l xs s b day ps := ⟨⟨h.1.1, h.1.2.1, by rw [hf]; exact Int.natCast_nonneg _⟩, by rw [quV_all]; omega⟩
 rw [(qu_yes hy).2, quV_all, exZ_yes h, inN_need _ _ _ _ (cat_codes h.1.1.1.1), if_pos ⟨hb, hne, fun h => by cases h.1⟩, exV_off, Int.toNat_natCast]
 have e : ((wAll xs day ps s b : Nat) : Int) * ((n : Nat) : Int) = ((n * wAll xs day ps s b : Nat) : Int) := by rw [Int.natCast_mul, Int.mul_comm]
 rw [e]
 exact ⟨(qu_yes hy).1, rfl, Int.natCast_nonneg _, Int.ofNat_le.2 h1⟩
theorem xl_two {l : List IT} {xs : List BL} {s b : ByteArray} {day : Int} {ps : List PK} (h1 : wyB l xs s b day ps = true) (h2 : quB l xs s b day ps = true) :
 SumOk (wyZ l xs s b day ps) ∧ sumL (wyZ l xs s b day ps) = quN l xs s b day ps := by
 have hw := wy_iff.1 h1
 have hq := qu_iff.1 h2
 obtain ⟨lv, hl1, hl2⟩ := on_acy hq.1.1 day ps
 have e : (wW (onX xs day ps) b s).sum = wAll xs day ps s b := wyl_sum hl1 hl2 b 12 s (by omega)
 have hle : wAll xs day ps s b ≤ 1000000000 := by have := hq.2; rwa [quV_all] at this
 rw [(wy_yes hw).2, (qu_yes hq).2, quV_all, ← e]
 exact ⟨sumOk_nat (by omega), sumL_nat _⟩
theorem quN_range (l : List IT) (xs : List BL) (s b : ByteArray) (day : Int) (ps : List PK) : 0 ≤ quN l xs s b day ps ∧ quN l xs s b day ps ≤ 1000000000 := by
 by_cases h : QuYes l xs s b day ps
 · rw [(qu_yes h).2]
   have := h.2
   omega
 · rw [(qu_no h).2]; omega

set_option maxRecDepth 100000 in
set_option maxHeartbeats 4000000 in
theorem walk_FnExplosion (a : Option Addr) (n c : Nat) (w : World) (hm : n ≤ maxLen) (hcode : CodeAt w.heap.size w a n) :
 Calls Tryz.prog 3 #[.slice a n c] w fun e w' => e = .returned (.bool true) ∧ Below w.heap.size w w' := by
 unfold maxLen at hm
 have HCO := Lib.hid hcode
 clear hcode
 by_cases hbig : 1048576 < n
 · have e0 : decide ((1048576 : Int) < (n : Int)) = true := decide_eq_true (by omega)
   go_enter Tryz.func3, Tryz.ntmps3
   go_wp2_with fail
   refine (laws_big a n c _).mono ?_
   rintro e w1 ⟨rfl, rfl⟩
   go_wp2
   go_ret
   exact ⟨rfl, Below.refl _ _⟩
 have e0 : decide ((1048576 : Int) < (n : Int)) = false := decide_eq_false (by omega)
 go_enter Tryz.func3, Tryz.ntmps3
 go_wp2_with fail
 refine (laws_big a n c _).mono ?_
 rintro e w1 ⟨rfl, rfl⟩
 go_wp2_with fail
 refine (draw_explosion a n c _ (by omega) HCO.out).mono ?_
 rintro e w2 ⟨p, q, l, p2, q2, ls, s, z, d, g3, q3, ps, rfl, HL6, HL9, HP3, HSZ, HXZ, HZ, HI, HXX, HPK, HB0⟩
 obtain ⟨lo, hi, hx⟩ := HXX.out
 have HX := Lib.hid hx
 have HLM : Hid (l.length ≤ maxLen ∧ ps.length ≤ maxLen) := Lib.hid (by have h1 := HL6.out; have h2 := HP3.out; unfold maxLen; omega)
 have HIM := Lib.hid (im_explosion _ _ _ l ls s z d ps lo hi w2 HI.out HX.out HPK.out HLM.out.1 HSZ.out HXZ.out HLM.out.2)
 have HSM : Hid (∀ W, Below w2.heap.size w2 W → Calls Tryz.prog 11 #[.slice p l.length q, .slice p2 ls.length q2, .string s, .int .i64 z, .int .i64 d, .slice (some ⟨g3, 0, none⟩) ps.length q3] W (NeOut (exB l ls s z d ps false) (exZ l ls s z d ps false) W)) := Lib.hid (fun W hW => spec_explosion _ _ _ l ls s z d ps lo hi W (HI.out.below hW) (HX.out.below BLN.kept hW) (HPK.out.below hW) HLM.out.1 HSZ.out HXZ.out HLM.out.2)
 have HQM : Hid (∀ (b : ByteArray) (W : World), Below w2.heap.size w2 W → Calls Tryz.prog 12 #[.slice p l.length q, .slice p2 ls.length q2, .string s, .string b, .int .i64 d, .slice (some ⟨g3, 0, none⟩) ps.length q3] W (NumOut (quB l ls s b d ps) (quN l ls s b d ps) W)) := Lib.hid (fun b W hW => im_quantityIn _ _ _ l ls s b d ps lo hi W (HI.out.below hW) (HX.out.below BLN.kept hW) (HPK.out.below hW) HLM.out.1 HSZ.out HXZ.out HLM.out.2)
 have HWM : Hid (∀ (b : ByteArray) (W : World), Below w2.heap.size w2 W → Calls Tryz.prog 14 #[.slice p l.length q, .slice p2 ls.length q2, .string s, .string b, .int .i64 d, .slice (some ⟨g3, 0, none⟩) ps.length q3] W (WyOut (wyB l ls s b d ps) (wyZ l ls s b d ps) W)) := Lib.hid (fun b W hW => im_waysTo _ _ _ l ls s b d ps lo hi W (HI.out.below hW) (HX.out.below BLN.kept hW) (HPK.out.below hW) HLM.out.1 HSZ.out HXZ.out HLM.out.2)
 have HLR : Hid (∀ (v : Value) (b : ByteArray) (W : World), NE.Is W v (exZ l ls s z d ps false) → Calls Tryz.prog 13 #[v, .string b] W fun e w' => e = .returned (.int .i64 (inN (exZ l ls s z d ps false) b)) ∧ Hid (Below W.heap.size W w')) := Lib.hid (fun v b W hv => laws_in v _ b W hv (by have h1 := exZ_len l ls s z d ps false; have h2 := HL6.out; omega) (fun k hk => by have h1 := exZ_range HL6.out ls s z d ps false b k hk; omega))
 have HWL : Hid (∀ b, (wyZ l ls s b d ps).length ≤ 200) := Lib.hid (fun b => wyZ_len l ls s b d ps)
 have HNR : Hid (∀ b, 0 ≤ quN l ls s b d ps ∧ quN l ls s b d ps ≤ 1000000000) := Lib.hid (fun b => quN_range l ls s b d ps)
 have HX2 : Hid (∀ b, wyB l ls s b d ps = true → quB l ls s b d ps = true → SumOk (wyZ l ls s b d ps) ∧ sumL (wyZ l ls s b d ps) = quN l ls s b d ps) := Lib.hid (fun b h1 h2 => xl_two h1 h2)
 have hz1 := HZ.out.1
 have hz2 := HZ.out.2
 clear hx HXX HCO hbig hm e0 HP3 HPK HX HZ
 go_wp2_with fail
 refine HIM.out.mono ?_
 rintro e w3 ⟨v3, rfl, HO3, HB3⟩
 have HN3 := Lib.hid (NE.is_of_row HO3.out)
 obtain ⟨a3, c3, rfl⟩ := HN3.out.slice
 have HS1 := Lib.hid (HSM.out w3 HB3.out)
 clear HIM HSM HO3
 go_wp2_with fail
 refine HS1.out.mono ?_
 rintro e w4 ⟨v4, rfl, _, HB4⟩
 have HBB4 := Lib.hid (HB3.out.trans (HB4.out.mono HB3.out.size))
 have HN4 := Lib.hid (HN3.out.below HB4.out)
 clear HS1 HN3 HB3 HB4
 rcases Bool.eq_false_or_eq_true (exB l ls s z d ps false) with hc | hc
 rotate_left
 · have hzz : exZ l ls s z d ps false = [] := exZ_no (fun h => by rw [exB_yes h] at hc; cases hc)
   have hz0 : (exZ l ls s z d ps false).length = 0 := by rw [hzz]; rfl
   clear hzz HN4
   rw [hc, hz0]
   go_wp2_with fail
   go_ret
   exact ⟨rfl, HB0.out.trans (HBB4.out.mono HB0.out.size)⟩
 have hye := exB_iff.1 hc
 have HX1 := Lib.hid (fun (hq : 0 < z) (k : Nat) (hk : k < l.length) (hne : (l[k]'hk).code ≠ s) => xl_one hye hq (List.mem_map.2 ⟨_, List.getElem_mem hk, rfl⟩) hne)
 have HZQ : Hid (z ≤ 100000) := Lib.hid hye.1.2.2.2
 rw [hc]
 have HLA := Lib.hid (fun (b : ByteArray) (W : World) (hW : Below w4.heap.size w4 W) => HLR.out (.slice a3 (exZ l ls s z d ps false).length c3) b W (HN4.out.below hW))
 have hl6 := HL6.out
 clear HN4 hc HLR hye
 generalize (exZ l ls s z d ps false) = za at *
 go_wp2_with fail
 go_loopw [13] (fun i wr => ∃ k : Nat, k ≤ l.length ∧ i = .int .i64 k ∧ Hid (Below w4.heap.size w4 wr)) (fun i _ => l.length - (intOf i).toNat)
 case atStart => exact ⟨0, Nat.zero_le _, rfl, Lib.hid (Below.refl _ _)⟩
 case round =>
  obtain ⟨k, hk, rfl, HB⟩ := hrel
  have HBB := Lib.hid (HBB4.out.trans (HB.out.mono HBB4.out.size))
  by_cases hlt : k < l.length
  rotate_left
  · have hkd : decide ((k : Int) < (l.length : Int)) = false := decide_eq_false (by omega)
    go_wp2_with fail
    go_ret
    exact ⟨rfl, HB0.out.trans (HBB.out.mono HB0.out.size)⟩
  have hkd : decide ((k : Int) < (l.length : Int)) = true := decide_eq_true (by omega)
  obtain ⟨b3, o3, c3', hv3, hc3, hcell3⟩ := HI.out.some (by omega)
  simp only [Value.slice.injEq] at hv3
  obtain ⟨rfl, _, rfl⟩ := hv3
  have HIC : Hid (∀ W, Below w2.heap.size w2 W → W.cell? ⟨b3, o3 + k * 8, none⟩ = some (.string (l[k]'hlt).code)) := Lib.hid (fun W hW => ((hcell3.below hW).at k hlt).1)
  have ic := HIC.out _ HBB.out
  have HF1 := Lib.hid (fun hq hne => HX1.out hq k hlt hne)
  have HLT := Lib.hid hlt
  have i0' : (0 : Int) ≤ (k : Int) := by omega
  have i1' : (k : Int) < (l.length : Int) := by omega
  clear hcell3 hc3 hk
  generalize (l[k]'hlt).code = b at *
  clear hlt
  by_cases hs : b = s
  · have hq := str_eq hs
    clear hs
    go_wp2_with fail
    go_roundw
    case rel => exact ⟨k + 1, HLT.out, by go_num, HB⟩
    case measure => have := HLT.out; simp [intOf]; omega
  have hq := str_ne hs
  have HQC := Lib.hid (HQM.out b wr HBB.out)
  have HF2 := Lib.hid (HX2.out b)
  have HWB := Lib.hid (HWM.out b)
  have HZB := Lib.hid (HWL.out b)
  have HF1B := Lib.hid (fun hq => HF1.out hq hs)
  obtain ⟨nq0, nq1⟩ := HNR.out b
  clear hs HF1
  generalize quN l ls s b d ps = nq at *
  generalize quB l ls s b d ps = yq at *
  generalize wyB l ls s b d ps = yw at *
  generalize wyZ l ls s b d ps = zw at *
  go_wp2_with fail
  refine HQC.out.mono ?_
  rintro e w5 ⟨rfl, HB5⟩
  have HB6 := Lib.hid (HB.out.trans (HB5.out.mono HB.out.size))
  have HBB6 := Lib.hid (HBB.out.trans (HB5.out.mono HBB.out.size))
  have ic := HIC.out _ HBB6.out
  clear HQC HB5 HBB HB
  by_cases hzp : 0 < z
  · obtain ⟨f1, f2, f3, f4⟩ := HF1B.out hzp
    subst f1
    have HC1 := Lib.hid (HLA.out b w5 HB6.out)
    rw [f2] at HC1
    have hdz : decide (0 < z) = true := decide_eq_true hzp
    have hw1 : IntKind.i64.wrap (nq * z) = nq * z := (IntKind.wrap_i64 _).trans (by omega)
    have hnn : (nq * z != nq * z) = false := by simp
    clear hzp f2
    go_wp2_with fail
    refine HC1.out.mono ?_
    rintro e w6 ⟨rfl, HB7⟩
    have HB8 := Lib.hid (HB6.out.trans (HB7.out.mono HB6.out.size))
    have HBB8 := Lib.hid (HBB6.out.trans (HB7.out.mono HBB6.out.size))
    have ic := HIC.out _ HBB8.out
    have HWC := Lib.hid (HWB.out w6 HBB8.out)
    clear HC1 HB7 HB6 HBB6
    go_wp2_with fail
    refine HWC.out.mono ?_
    rintro e w8 ⟨v8, rfl, HO9, HB9⟩
    have HB10 := Lib.hid (HB8.out.trans (HB9.out.mono HB8.out.size))
    have HIN := Lib.hid (ints_of_row (xs := zw) rfl HO9.out)
    obtain ⟨a8, c8, rfl⟩ := own_sliceN HO9.out
    clear HWC HB9 HO9
    cases yw with
    | false =>
     go_wp2_with fail
     go_roundw
     case rel => exact ⟨k + 1, HLT.out, by go_num, HB10⟩
     case measure => have := HLT.out; simp [intOf]; omega
    | true =>
     obtain ⟨g1, g2⟩ := HF2.out (by trivial) (by trivial)
     have HSQ := Lib.hid (laws_sumQ _ zw w8 HIN.out (by have := HZB.out; omega) g1)
     rw [g2] at HSQ
     have hee : (nq != nq) = false := by simp
     clear g1 g2
     go_wp2_with fail
     refine HSQ.out.mono ?_
     rintro e w9 ⟨rfl, rfl⟩
     go_wp2_with fail
     go_roundw
     case rel => exact ⟨k + 1, HLT.out, by go_num, HB10⟩
     case measure => have := HLT.out; simp [intOf]; omega
  · have hdz : decide (0 < z) = false := decide_eq_false hzp
    have HWC := Lib.hid (HWB.out w5 HBB6.out)
    have HB8 := HB6
    clear hzp HB6 HBB6
    go_wp2_with fail
    refine HWC.out.mono ?_
    rintro e w8 ⟨v8, rfl, HO9, HB9⟩
    have HB10 := Lib.hid (HB8.out.trans (HB9.out.mono HB8.out.size))
    have HIN := Lib.hid (ints_of_row (xs := zw) rfl HO9.out)
    obtain ⟨a8, c8, rfl⟩ := own_sliceN HO9.out
    clear HWC HB9 HO9
    cases yw with
    | false =>
     go_wp2_with fail
     go_roundw
     case rel => exact ⟨k + 1, HLT.out, by go_num, HB10⟩
     case measure => have := HLT.out; simp [intOf]; omega
    | true =>
     cases yq with
     | false =>
      go_wp2_with fail
      go_roundw
      case rel => exact ⟨k + 1, HLT.out, by go_num, HB10⟩
      case measure => have := HLT.out; simp [intOf]; omega
     | true =>
      obtain ⟨g1, g2⟩ := HF2.out (by trivial) (by trivial)
      have HSQ := Lib.hid (laws_sumQ _ zw w8 HIN.out (by have := HZB.out; omega) g1)
      rw [g2] at HSQ
      have hee : (nq != nq) = false := by simp
      clear g1 g2
      go_wp2_with fail
      refine HSQ.out.mono ?_
      rintro e w9 ⟨rfl, rfl⟩
      go_wp2_with fail
      go_roundw
      case rel => exact ⟨k + 1, HLT.out, by go_num, HB10⟩
      case measure => have := HLT.out; simp [intOf]; omega
end Go.Proofs.YtmnncinpepeocaaGreat
