/-
 The program's isBillLine and areBillLines.
-/
import Derived.Test.YtmnncinpepeocaaGreatBillLib
import Derived.Test.YtmnncinpepeocaaGreatBuCat
import Derived.Test.YtmnncinpepeocaaGreatBuCI
import Derived.Test.YtmnncinpepeocaaGreatBuA
import Derived.WalkKit
import Derived.WalkSpells
import Derived.WalkSmall
import Derived.BigQuiet
import Derived.OneCell
import Derived.Deep.QuietTactic
import Derived.Deep.DeepCutAuto
import Derived.Lib.Hide
namespace Go.Proofs.YtmnncinpepeocaaGreat
open Go.RowKit

theorem LinesOk.no {l : List IT} {xs : List BL} {k : Nat} (hk : k < xs.length) (h : lineB l (xs[k]'hk) = false) : linesB l xs = false := linesB_no (fun h2 => by rw [lineB_yes (h2.2.2 k hk hk)] at h; cases h)

set_option maxRecDepth 100000 in
set_option maxHeartbeats 2000000 in
theorem im_line (v : Value) (l : List IT) (x : BL) (u5 : Value) (lo hi : Nat) (w : World) (h : IT.Is w v l) (h5 : CX lo hi w u5 x.whn) (hm : l.length ≤ maxLen) (hs : BL.Sz x) :
 Calls Tryz.prog 129 #[v, .agg #[.string x.par, .string x.prt, .int .i64 x.qty, .int .i64 x.fr, .int .i64 x.un, u5]] w (BoolRes (lineB l x) w) := by
 have HM := Lib.hid hm
 have HS := Lib.hid hs
 obtain ⟨a, c, rfl⟩ := h.slice
 obtain ⟨a5, c5, rfl⟩ := h5.slice
 have HN : Hid (¬LineOk l x → lineB l x = false) := Lib.hid (fun h => lineB_no h)
 have HYS : Hid (LineOk l x → lineB l x = true) := Lib.hid (fun h => lineB_yes h)
 obtain ⟨W1, hW1⟩ : ∃ W, w.alloc (.cells #[.string x.par, .string x.prt, .int .i64 x.qty, .int .i64 x.fr, .int .i64 x.un, .slice a5 x.whn.length c5] 94) = W := ⟨_, rfl⟩
 have HA : Hid (W1.heap[w.heap.size]? = some (.cells #[.string x.par, .string x.prt, .int .i64 x.qty, .int .i64 x.fr, .int .i64 x.un, .slice a5 x.whn.length c5] 94)) := Lib.hid (by rw [← hW1]; exact heap_alloc_new _ _)
 have HB : Hid (Below w.heap.size w W1) := Lib.hid (by rw [← hW1]; exact (Below.refl _ _).alloc (Nat.le_refl _) _)
 have HI := Lib.hid (h.below HB.out)
 have H5 := Lib.hid (h5.is.below HB.out)
 have HW1 := Lib.hid hW1
 clear h h5 hs hm hW1
 go_enter Tryz.func129, Tryz.ntmps129
 go_upto_region 1 with fail
 rw [HW1.out]
 have q0 := cell_of_row _ _ 0 _ _ _ HA.out
 clear HW1
 go_wp2_with fail
 refine (im_findItem _ l x.par W1 HI.out HM.out).mono ?_
 rintro e W2 ⟨rfl, hb⟩
 have HA := Lib.hid (blk_below HA.out hb)
 have HB := Lib.hid (HB.out.trans (hb.mono HB.out.size))
 have HI := Lib.hid (HI.out.below hb)
 have H5 := Lib.hid (H5.out.below hb)
 clear hb q0
 rcases fi_cases l x.par with ⟨pa, hpa, hfa⟩ | hfa
 rotate_left
 · have HY := Lib.hid (HN.out (fun h => by have := h.1; omega))
   rw [hfa]
   go_wp2_with fail
   go_ret
   exact ⟨by rw [HY.out]; rfl, HB.out⟩
 have HFA := Lib.hid hfa
 rw [hfa]
 clear hfa
 have hd1 : decide ((pa : Int) < 0) = false := decide_eq_false (by omega)
 have hp1 : (pa : Int) < (l.length : Int) := by omega
 have hp0 : (0 : Int) ≤ (pa : Int) := by omega
 obtain ⟨b3, o3, c3, hv3, hc3, hcell3⟩ := HI.out.some (by omega)
 simp only [Value.slice.injEq] at hv3
 obtain ⟨rfl, _, rfl⟩ := hv3
 obtain ⟨_, _, p2, _, _, _, _, _⟩ := hcell3.at pa hpa
 have HKA : Hid (kindAt l (fiI l x.par).toNat = (l[pa]'hpa).kind) := Lib.hid (by rw [HFA.out, Int.toNat_natCast, kindAt_get hpa])
 generalize l[pa]'hpa = it at *
 have q1 := cell_of_row _ _ 1 _ _ _ HA.out
 clear hcell3 hc3
 by_cases hk0 : it.kind = 0
 · have HY := Lib.hid (HN.out (fun h => h.2.2.1 (by rw [HKA.out]; exact hk0)))
   have hq : (it.kind == 0) = true := beq_iff_eq.2 hk0
   clear hk0
   go_wp2_with fail
   go_ret
   exact ⟨by rw [HY.out]; rfl, HB.out⟩
 have HK0 : Hid (¬kindAt l (fiI l x.par).toNat = 0) := Lib.hid (by rw [HKA.out]; exact hk0)
 have hq : (it.kind == 0) = false := beq_eq_false_iff_ne.2 hk0
 clear hk0 HKA
 go_wp2_with fail
 refine (im_findItem _ l x.prt W2 HI.out HM.out).mono ?_
 rintro e W3 ⟨rfl, hb⟩
 have HA := Lib.hid (blk_below HA.out hb)
 have HB := Lib.hid (HB.out.trans (hb.mono HB.out.size))
 have H5 := Lib.hid (H5.out.below hb)
 clear hb q1 p2 hq hd1 HI
 rcases fi_cases l x.prt with ⟨pb, hpb, hfb⟩ | hfb
 rotate_left
 · have HY := Lib.hid (HN.out (fun h => by have := h.2.1; omega))
   rw [hfb]
   go_wp2_with fail
   go_ret
   exact ⟨by rw [HY.out]; rfl, HB.out⟩
 have HFB := Lib.hid hfb
 rw [hfb]
 clear hfb
 have hd2 : decide ((pb : Int) < 0) = false := decide_eq_false (by omega)
 have q2 := cell_of_row _ _ 2 _ _ _ HA.out
 have q4 := cell_of_row _ _ 4 _ _ _ HA.out
 by_cases h1 : x.qty < 1
 · have HY := Lib.hid (HN.out (fun h => by have := h.2.2.2.1; omega))
   have hd3 : decide (x.qty < 1) = true := decide_eq_true h1
   clear h1
   go_wp2_with fail
   go_ret
   exact ⟨by rw [HY.out]; rfl, HB.out⟩
 have hd3 : decide (x.qty < 1) = false := decide_eq_false h1
 have H1 := Lib.hid h1
 clear h1
 by_cases h2 : 1000 < x.qty
 · have HY := Lib.hid (HN.out (fun h => by have := h.2.2.2.2.1; omega))
   have hd4 : decide (1000 < x.qty) = true := decide_eq_true h2
   clear h2
   go_wp2_with fail
   go_ret
   exact ⟨by rw [HY.out]; rfl, HB.out⟩
 have hd4 : decide (1000 < x.qty) = false := decide_eq_false h2
 have H2 := Lib.hid h2
 clear h2
 go_wp2_with fail
 by_cases h3 : 0 ≤ x.un ∧ x.un ≤ 999
 rotate_left
 · have HY := Lib.hid (HN.out (fun h => by have := h.2.2.2.2.2; omega))
   refine (im_upTo x.un 999 false _ (inB_no (by omega))).mono ?_
   rintro e W4 ⟨rfl, rfl⟩
   go_wp2_with fail
   go_ret
   exact ⟨by rw [HY.out]; rfl, HB.out⟩
 refine (im_upTo x.un 999 true _ (inB_yes h3.1 h3.2)).mono ?_
 rintro e W4 ⟨rfl, rfl⟩
 have H3 := Lib.hid h3
 clear h3
 have q3 := cell_of_row _ _ 3 _ _ _ HA.out
 have q5 := cell_of_row _ _ 5 _ _ _ HA.out
 go_wp2_with fail
 by_cases h4 : 0 ≤ x.fr ∧ x.fr ≤ x.un
 rotate_left
 · have HY := Lib.hid (HN.out (fun h => by have := h.2.2.2.2.2; omega))
   refine (im_upTo x.fr x.un false _ (inB_no (by omega))).mono ?_
   rintro e W4 ⟨rfl, rfl⟩
   go_wp2_with fail
   go_ret
   exact ⟨by rw [HY.out]; rfl, HB.out⟩
 refine (im_upTo x.fr x.un true _ (inB_yes h4.1 h4.2)).mono ?_
 rintro e W4 ⟨rfl, rfl⟩
 have H4 := Lib.hid h4
 clear h4
 go_wp2_with fail
 refine (im_isCondC _ x.whn _ H5.out HS.out.2.2.2 HS.out.2.2.1).mono ?_
 rintro e W5 ⟨rfl, hb⟩
 have HBF := Lib.hid (HB.out.trans (hb.mono HB.out.size))
 clear hb
 rcases Bool.eq_false_or_eq_true (condB x.whn) with hcd | hcd
 · have HY := Lib.hid (HYS.out ⟨by have := HFA.out; omega, by have := HFB.out; omega, HK0.out, by have := H1.out; omega, by have := H2.out; omega, H4.out.1, H4.out.2, H3.out.2, hcd⟩)
   rw [hcd]
   go_wp2_with fail
   go_ret
   exact ⟨by rw [HY.out]; rfl, HBF.out⟩
 · have HY := Lib.hid (HN.out (fun h => by have := h.2.2.2.2.2.2.2.2; rw [hcd] at this; cases this))
   rw [hcd]
   go_wp2_with fail
   go_ret
   exact ⟨by rw [HY.out]; rfl, HBF.out⟩

set_option maxRecDepth 100000 in
set_option maxHeartbeats 2000000 in
theorem im_lines (v v2 : Value) (l : List IT) (xs : List BL) (lo hi : Nat) (w : World) (h : IT.Is w v l) (h2 : BX lo hi w v2 xs) (hm : l.length ≤ maxLen) (hs : ∀ r, r ∈ l → IT.Sz r) (hs2 : BX.Sz xs) :
 Calls Tryz.prog 123 #[v, v2] w (BoolRes (linesB l xs) w) := by
 have HI := Lib.hid h
 have HX := Lib.hid h2
 have HS2 := Lib.hid hs2
 have hm2 := hs2.1
 have HCT := Lib.hid (im_catalog v l w h hm hs)
 have HM := Lib.hid hm
 unfold maxLen at hm hm2
 obtain ⟨a, c, rfl⟩ := h.slice
 obtain ⟨a2, c2, rfl⟩ := h2.slice
 clear h h2 hs hs2
 rcases Bool.eq_false_or_eq_true (catB l) with hc | hc
 rotate_left
 · have HY : Hid (linesB l xs = false) := Lib.hid (linesB_no (fun h => by rw [catB_yes h.1] at hc; cases hc))
   rw [hc] at HCT
   clear hc
   go_enter Tryz.func123, Tryz.ntmps123
   go_wp2_with fail
   refine HCT.out.mono ?_
   rintro e w1 ⟨rfl, hb⟩
   have HB := Lib.hid hb
   clear hb
   go_wp2_with fail
   go_ret
   exact ⟨by rw [HY.out]; rfl, HB.out⟩
 have HOK := Lib.hid (catB_iff.1 hc)
 rw [hc] at HCT
 clear hc
 by_cases h24 : xs.length ≤ 24
 rotate_left
 · have HY : Hid (linesB l xs = false) := Lib.hid (linesB_no (fun h => h24 h.2.1))
   have hd : decide ((24 : Int) < (xs.length : Int)) = true := decide_eq_true (by omega)
   go_enter Tryz.func123, Tryz.ntmps123
   go_wp2_with fail
   refine HCT.out.mono ?_
   rintro e w1 ⟨rfl, hb⟩
   have HB := Lib.hid hb
   clear hb
   go_wp2_with fail
   go_ret
   exact ⟨by rw [HY.out]; rfl, HB.out⟩
 have hd : decide ((24 : Int) < (xs.length : Int)) = false := decide_eq_false (by omega)
 go_enter Tryz.func123, Tryz.ntmps123
 go_wp2_with fail
 refine HCT.out.mono ?_
 rintro e w1 ⟨rfl, hb⟩
 have HB1 := Lib.hid hb
 clear hb HCT
 go_wp2_with fail
 go_loopw [17] (fun i wr => ∃ k : Nat, k ≤ xs.length ∧ i = .int .i64 k ∧ Hid (LinesTo l xs k) ∧ Hid (Below w.heap.size w wr)) (fun i _ => xs.length - (intOf i).toNat)
 case atStart => exact ⟨0, Nat.zero_le _, rfl, Lib.hid (LinesTo.zero l xs), HB1⟩
 case round =>
  clear HB1
  obtain ⟨k, hk, rfl, HC, HB⟩ := hrel
  by_cases hlt : k < xs.length
  rotate_left
  · have hkn : k = xs.length := by omega
    have HY : Hid (linesB l xs = true) := Lib.hid (linesB_yes ⟨HOK.out, h24, by rw [hkn] at HC; exact HC.out⟩)
    go_wp2_with fail
    go_ret
    exact ⟨by rw [HY.out]; rfl, HB.out⟩
  have HLT := Lib.hid hlt
  have HN : Hid (lineB l (xs[k]'hlt) = false → linesB l xs = false) := Lib.hid (fun h => LinesOk.no hlt h)
  have HSU : Hid (lineB l (xs[k]'hlt) = true → LinesTo l xs (k + 1)) := Lib.hid (fun h => HC.out.succ hlt (lineB_iff.1 h))
  obtain ⟨b2, o2, c2', cs, hv2, hc2, hb2, hcl, hr5, hcell⟩ := (HX.out.below BLN.kept HB.out).get k hlt
  simp only [Value.slice.injEq] at hv2
  obtain ⟨rfl, _, rfl⟩ := hv2
  obtain ⟨u5, rfl, h5⟩ := hr5
  obtain ⟨sa5, sc5, rfl⟩ := h5.slice
  have e0 := hcell 0 (by omega)
  have e1 := hcell 1 (by omega)
  have e2 := hcell 2 (by omega)
  have e3 := hcell 3 (by omega)
  have e4 := hcell 4 (by omega)
  have e5 := hcell 5 (by omega)
  simp only [List.getElem?_cons_zero, List.getElem?_cons_succ, Nat.add_zero] at e0 e1 e2 e3 e4 e5
  have HSZ := Lib.hid (HS2.out.2 _ (List.getElem_mem hlt))
  have H5 := Lib.hid h5
  clear hcell h5 hc2 hb2 hcl
  generalize xs[k]'hlt = x at *
  obtain ⟨W1, hW1⟩ : ∃ W, wr.alloc (.cells #[.string x.par, .string x.prt, .int .i64 x.qty, .int .i64 x.fr, .int .i64 x.un, .slice sa5 x.whn.length sc5] 94) = W := ⟨_, rfl⟩
  have HW1 := Lib.hid hW1
  have HA : W1.heap[wr.heap.size]? = some (.cells #[.string x.par, .string x.prt, .int .i64 x.qty, .int .i64 x.fr, .int .i64 x.un, .slice sa5 x.whn.length sc5] 94) := by rw [← hW1]; exact heap_alloc_new _ _
  have hBA : Below wr.heap.size wr W1 := by rw [← hW1]; exact (Below.refl _ _).alloc (Nat.le_refl _) _
  have HBW := Lib.hid (HB.out.trans (hBA.mono HB.out.size))
  have HLN := Lib.hid (im_line _ l x _ lo hi W1 (HI.out.below HBW.out) (H5.out.below CnN.kept hBA) HM.out HSZ.out)
  clear hW1 hBA
  go_upto_region 6 with fail
  rw [HW1.out]
  have q0 := cell_of_row _ _ 0 _ _ _ HA
  have q1 := cell_of_row _ _ 1 _ _ _ HA
  have q2 := cell_of_row _ _ 2 _ _ _ HA
  have q3 := cell_of_row _ _ 3 _ _ _ HA
  have q4 := cell_of_row _ _ 4 _ _ _ HA
  have q5 := cell_of_row _ _ 5 _ _ _ HA
  clear HW1 e0 e1 e2 e3 e4 e5
  go_wp2_with fail
  refine HLN.out.mono ?_
  rintro e w2 ⟨rfl, hb⟩
  have HBF := Lib.hid (HBW.out.trans (hb.mono HBW.out.size))
  clear hb
  rcases Bool.eq_false_or_eq_true (lineB l x) with hcd | hcd
  · have HS2 := Lib.hid (HSU.out hcd)
    rw [hcd]
    go_wp2_with fail
    go_roundw
    case rel => exact ⟨k + 1, by have := HLT.out; omega, by go_num, HS2, HBF⟩
    case measure => have := HLT.out; simp [intOf]; omega
  · have HY := Lib.hid (HN.out hcd)
    rw [hcd]
    go_wp2_with fail
    go_ret
    exact ⟨by rw [HY.out]; rfl, HBF.out⟩
end Go.Proofs.YtmnncinpepeocaaGreat
