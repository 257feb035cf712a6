/-
 The model's IsBills and LevelsOf.
-/
import Derived.Test.YtmnncinpepeocaaGreatLevSpec
import Derived.Test.YtmnncinpepeocaaGreatBuA
import Derived.Test.YtmnncinpepeocaaGreatCondSpec
import Derived.WalkKit
import Derived.WalkSpells
import Derived.WalkSmall
import Derived.BigQuiet
import Derived.OneCell
import Derived.Deep.QuietTactic
import Derived.Deep.DeepCutAuto
import Derived.Lib.Hide
namespace Go.Proofs.YtmnncinpepeocaaGreat
open Go.RowKit

theorem own_lower {w : World} {base base' e K : Nat} {v : Value} {n : Nat} {xs : List Value} (h : w.ownsRow base e K v n xs) (hle : base' ≤ base) : w.ownsRow base' e K v n xs := by
 rcases h with ⟨h1, h | ⟨g, cap, cur, a, b, r⟩⟩
 · exact ⟨h1, Or.inl h⟩
 · exact ⟨h1, Or.inr ⟨g, cap, cur, a, Nat.le_trans hle b, r⟩⟩
/-- An own row is a slice of its length. -/
theorem own_slice {w : World} {base e K : Nat} {v : Value} {n : Nat} {xs : List Value} (h : w.ownsRow base e K v n xs) : ∃ (a : Option Addr) (c : Nat), v = .slice a n c := by
 rcases h.2 with ⟨rfl, rfl⟩ | ⟨g, cap, cur, rfl, -⟩
 · exact ⟨_, _, rfl⟩
 · exact ⟨_, _, rfl⟩
theorem LinesOk.no1 {l : List IT} {xs : List BL} {k : Nat} (hk : k < xs.length) (h : ¬LineOk l (xs[k]'hk)) : linesB l xs = false := linesB_no (fun h2 => h (h2.2.2 k hk hk))
theorem bills_no {l : List IT} {xs : List BL} (h : linesB l xs = false) : billsB l xs = false := billsB_no (fun h2 => by rw [linesB_yes h2.1] at h; cases h)
theorem no_sol_pos {l : List IT} {xs : List BL} (hok : LinesOk l xs) (h : ¬∃ u, Sol (pairs l xs) u) : 0 < l.length := by
 rcases Nat.eq_zero_or_pos l.length with h0 | h0
 · exfalso
   refine h ⟨fun _ => 0, fun p hp => ?_⟩
   have := (hok.inb p hp).1
   omega
 · exact h0

set_option maxRecDepth 100000 in
set_option maxHeartbeats 2000000 in
theorem spec_bills (v v2 : Value) (l : List IT) (xs : List BL) (lo hi : Nat) (w : World) (h : IT.Is w v l) (h2 : BX lo hi w v2 xs) (hm : l.length ≤ maxLen) (hs : ∀ r, r ∈ l → IT.Sz r) (hs2 : BX.Sz xs) :
 Calls Tryz.prog 49 #[v, v2] w (BoolRes (billsB l xs) w) := by
 have HI := Lib.hid h
 have HX := Lib.hid h2
 have HS2 := Lib.hid hs2
 have hm2 := hs2.1
 have HCT := Lib.hid (spec_catalog v l w h hm hs)
 have HM := Lib.hid hm
 unfold maxLen at hm hm2
 obtain ⟨a, c, rfl⟩ := h.slice
 obtain ⟨a2, c2, rfl⟩ := h2.slice
 clear h h2 hs hs2
 rcases Bool.eq_false_or_eq_true (catB l) with hc | hc
 rotate_left
 · have HY : Hid (billsB l xs = false) := Lib.hid (bills_no (linesB_no (fun h => by rw [catB_yes h.1] at hc; cases hc)))
   rw [hc] at HCT
   clear hc
   go_enter Tryz.func49, Tryz.ntmps49
   go_wp2_with fail
   refine HCT.out.mono ?_
   rintro e w1 ⟨rfl, hb⟩
   have HB := Lib.hid hb
   clear hb
   go_wp2_with fail
   go_ret
   exact ⟨by rw [HY.out]; rfl, HB.out⟩
 have HOK := Lib.hid (catB_iff.1 hc)
 rw [hc] at HCT
 clear hc
 by_cases h24 : xs.length ≤ 24
 rotate_left
 · have HY : Hid (billsB l xs = false) := Lib.hid (bills_no (linesB_no (fun h => h24 h.2.1)))
   have hd : decide ((24 : Int) < (xs.length : Int)) = true := decide_eq_true (by omega)
   go_enter Tryz.func49, Tryz.ntmps49
   go_wp2_with fail
   refine HCT.out.mono ?_
   rintro e w1 ⟨rfl, hb⟩
   have HB := Lib.hid hb
   clear hb
   go_wp2_with fail
   go_ret
   exact ⟨by rw [HY.out]; rfl, HB.out⟩
 have hd : decide ((24 : Int) < (xs.length : Int)) = false := decide_eq_false (by omega)
 go_enter Tryz.func49, Tryz.ntmps49
 go_wp2_with fail
 refine HCT.out.mono ?_
 rintro e w1 ⟨rfl, hb⟩
 have HB1 := Lib.hid hb
 clear hb HCT
 go_wp2_with fail
 go_loopw [5] (fun i wr => ∃ k : Nat, k ≤ xs.length ∧ i = .int .i64 k ∧ Hid (LinesTo l xs k) ∧ Hid (Below w.heap.size w wr)) (fun i _ => xs.length - (intOf i).toNat)
 case atStart => exact ⟨0, Nat.zero_le _, rfl, Lib.hid (LinesTo.zero l xs), HB1⟩
 case round =>
  clear HB1
  obtain ⟨k, hk, rfl, HC, HB⟩ := hrel
  by_cases hlt : k < xs.length
  rotate_left
  · have hkn : k = xs.length := by omega
    have HLO : Hid (LinesOk l xs) := Lib.hid ⟨HOK.out, h24, by rw [hkn] at HC; exact HC.out⟩
    have HLV := Lib.hid (spec_levels _ _ l xs lo hi wr (HI.out.below HB.out) (HX.out.below BLN.kept HB.out) HOK.out.2 h24 HLO.out.2.2 HLO.out.inb)
    go_wp2_with fail
    refine HLV.out.mono ?_
    rintro e w2 ⟨v', vs, rfl, HV, HO, HB2⟩
    have HBF := Lib.hid (HB.out.trans (HB2.out.mono HB.out.size))
    obtain ⟨a3, c3, rfl⟩ := own_slice HO.out
    clear HLV HO HB2
    rcases HV.out with hv | ⟨hv, rfl⟩
    · have HY : Hid (billsB l xs = true) := Lib.hid (billsB_yes ⟨HLO.out, _, hv.2.1⟩)
      have hlen := hv.1
      clear hv HV
      have hq : ((vs.length : Int) == (l.length : Int)) = true := beq_iff_eq.2 (by omega)
      go_wp2_with fail
      go_ret
      exact ⟨by rw [HY.out]; rfl, HBF.out⟩
    · have HY : Hid (billsB l xs = false) := Lib.hid (billsB_no (fun h => hv h.2))
      have hp := no_sol_pos HLO.out hv
      clear hv HV
      have hq : ((0 : Int) == (l.length : Int)) = false := beq_eq_false_iff_ne.2 (by omega)
      go_wp2_with fail
      go_ret
      exact ⟨by rw [HY.out]; rfl, HBF.out⟩
  have HLT := Lib.hid hlt
  have HN : Hid (¬LineOk l (xs[k]'hlt) → billsB l xs = false) := Lib.hid (fun h => bills_no (LinesOk.no1 hlt h))
  have HSU : Hid (LineOk l (xs[k]'hlt) → LinesTo l xs (k + 1)) := Lib.hid (fun h => HC.out.succ hlt h)
  obtain ⟨b2, o2, c2', cs, hv2, hc2, hb2, hcl, hr5, hcell⟩ := (HX.out.below BLN.kept HB.out).get k hlt
  simp only [Value.slice.injEq] at hv2
  obtain ⟨rfl, _, rfl⟩ := hv2
  obtain ⟨u5, rfl, h5⟩ := hr5
  obtain ⟨sa5, sc5, rfl⟩ := h5.slice
  have e0 := hcell 0 (by omega)
  have e1 := hcell 1 (by omega)
  have e2 := hcell 2 (by omega)
  have e3 := hcell 3 (by omega)
  have e4 := hcell 4 (by omega)
  have e5 := hcell 5 (by omega)
  simp only [List.getElem?_cons_zero, List.getElem?_cons_succ, Nat.add_zero] at e0 e1 e2 e3 e4 e5
  have HSZ := Lib.hid (HS2.out.2 _ (List.getElem_mem hlt))
  have H5 := Lib.hid h5.is
  clear hcell h5 hc2 hb2 hcl
  generalize xs[k]'hlt = x at *
  obtain ⟨W1, hW1⟩ : ∃ W, wr.alloc (.cells #[.string x.par, .string x.prt, .int .i64 x.qty, .int .i64 x.fr, .int .i64 x.un, .slice sa5 x.whn.length sc5] 94) = W := ⟨_, rfl⟩
  have HW1 := Lib.hid hW1
  have HA : W1.heap[wr.heap.size]? = some (.cells #[.string x.par, .string x.prt, .int .i64 x.qty, .int .i64 x.fr, .int .i64 x.un, .slice sa5 x.whn.length sc5] 94) := by rw [← hW1]; exact heap_alloc_new _ _
  have hBA : Below wr.heap.size wr W1 := by rw [← hW1]; exact (Below.refl _ _).alloc (Nat.le_refl _) _
  have HBW := Lib.hid (HB.out.trans (hBA.mono HB.out.size))
  have HI1 := Lib.hid (HI.out.below HBW.out)
  have H51 := Lib.hid (H5.out.below hBA)
  clear hW1 hBA
  go_upto_region 7 with fail
  rw [HW1.out]
  have q0 := cell_of_row _ _ 0 _ _ _ HA
  have q1 := cell_of_row _ _ 1 _ _ _ HA
  have q2 := cell_of_row _ _ 2 _ _ _ HA
  have q3 := cell_of_row _ _ 3 _ _ _ HA
  have q4 := cell_of_row _ _ 4 _ _ _ HA
  have q5 := cell_of_row _ _ 5 _ _ _ HA
  clear HW1 e0 e1 e2 e3 e4 e5
  go_wp2_with fail
  refine (spec_findItem _ l x.par W1 HI1.out HM.out).mono ?_
  rintro e w2 ⟨rfl, rfl⟩
  go_wp2_with fail
  refine (spec_findItem _ l x.prt W1 HI1.out HM.out).mono ?_
  rintro e w2 ⟨rfl, rfl⟩
  rcases fi_cases l x.par with ⟨pa, hpa, hfa⟩ | hfa
  rotate_left
  · have HY := Lib.hid (HN.out (fun h => by have := h.1; omega))
    rw [hfa]
    go_wp2_with fail
    go_ret
    exact ⟨by rw [HY.out]; rfl, HBW.out⟩
  have HFA := Lib.hid hfa
  rw [hfa]
  clear hfa
  rcases fi_cases l x.prt with ⟨pb, hpb, hfb⟩ | hfb
  rotate_left
  · have HY := Lib.hid (HN.out (fun h => by have := h.2.1; omega))
    rw [hfb]
    have hd1 : decide ((pa : Int) < 0) = false := decide_eq_false (by omega)
    go_wp2_with fail
    go_ret
    exact ⟨by rw [HY.out]; rfl, HBW.out⟩
  have HFB := Lib.hid hfb
  rw [hfb]
  clear hfb
  have hd1 : decide ((pa : Int) < 0) = false := decide_eq_false (by omega)
  have hd2 : decide ((pb : Int) < 0) = false := decide_eq_false (by omega)
  have hp1 : (pa : Int) < (l.length : Int) := by omega
  have hp0 : (0 : Int) ≤ (pa : Int) := by omega
  obtain ⟨b3, o3, c3, hv3, hc3, hcell3⟩ := HI1.out.some (by omega)
  simp only [Value.slice.injEq] at hv3
  obtain ⟨rfl, _, rfl⟩ := hv3
  obtain ⟨_, _, p2, _, _, _, _, _⟩ := hcell3.at pa hpa
  have HKA : Hid (kindAt l (fiI l x.par).toNat = (l[pa]'hpa).kind) := Lib.hid (by rw [HFA.out, Int.toNat_natCast, kindAt_get hpa])
  generalize l[pa]'hpa = it at *
  clear hcell3 hc3
  by_cases hk0 : it.kind = 0
  · have HY := Lib.hid (HN.out (fun h => h.2.2.1 (by rw [HKA.out]; exact hk0)))
    have hq : (it.kind == 0) = true := beq_iff_eq.2 hk0
    clear hk0
    go_wp2_with fail
    go_ret
    exact ⟨by rw [HY.out]; rfl, HBW.out⟩
  have HK0 : Hid (¬kindAt l (fiI l x.par).toNat = 0) := Lib.hid (by rw [HKA.out]; exact hk0)
  have hq : (it.kind == 0) = false := beq_eq_false_iff_ne.2 hk0
  clear hk0
  go_wp2_with fail
  refine (spec_in x.qty 1 1000 W1).mono ?_
  rintro e w2 ⟨rfl, rfl⟩
  by_cases h1 : 1 ≤ x.qty ∧ x.qty ≤ 1000
  rotate_left
  · have HY := Lib.hid (HN.out (fun h => h1 ⟨h.2.2.2.1, h.2.2.2.2.1⟩))
    rw [inB_no (by omega)]
    go_wp2_with fail
    go_ret
    exact ⟨by rw [HY.out]; rfl, HBW.out⟩
  have H1 := Lib.hid h1
  rw [inB_yes h1.1 h1.2]
  clear h1
  go_wp2_with fail
  refine (spec_in x.fr 0 999 _).mono ?_
  rintro e w2 ⟨rfl, rfl⟩
  by_cases h2 : 0 ≤ x.fr ∧ x.fr ≤ 999
  rotate_left
  · have HY := Lib.hid (HN.out (fun h => by have := h.2.2.2.2.2; omega))
    rw [inB_no (by omega)]
    go_wp2_with fail
    go_ret
    exact ⟨by rw [HY.out]; rfl, HBW.out⟩
  have H2 := Lib.hid h2
  rw [inB_yes h2.1 h2.2]
  clear h2
  go_wp2_with fail
  refine (spec_in x.un x.fr 999 _).mono ?_
  rintro e w2 ⟨rfl, rfl⟩
  by_cases h3 : x.fr ≤ x.un ∧ x.un ≤ 999
  rotate_left
  · have HY := Lib.hid (HN.out (fun h => by have := h.2.2.2.2.2; omega))
    rw [inB_no (by omega)]
    go_wp2_with fail
    go_ret
    exact ⟨by rw [HY.out]; rfl, HBW.out⟩
  have H3 := Lib.hid h3
  rw [inB_yes h3.1 h3.2]
  clear h3
  go_wp2_with fail
  refine (spec_isCond _ x.whn _ H51.out HSZ.out.2.2.2 HSZ.out.2.2.1).mono ?_
  rintro e w2 ⟨rfl, hb⟩
  have HBF := Lib.hid (HBW.out.trans (hb.mono HBW.out.size))
  clear hb
  rcases Bool.eq_false_or_eq_true (condB x.whn) with hcd | hcd
  · have HS2 := Lib.hid (HSU.out ⟨by have := HFA.out; omega, by have := HFB.out; omega, HK0.out, H1.out.1, H1.out.2, H2.out.1, H3.out.1, H3.out.2, hcd⟩)
    rw [hcd]
    go_wp2_with fail
    go_roundw
    case rel => exact ⟨k + 1, by have := HLT.out; omega, by go_num, HS2, HBF⟩
    case measure => have := HLT.out; simp [intOf]; omega
  · have HY := Lib.hid (HN.out (fun h => by have := h.2.2.2.2.2.2.2.2; rw [hcd] at this; cases this))
    rw [hcd]
    go_wp2_with fail
    go_ret
    exact ⟨by rw [HY.out]; rfl, HBF.out⟩

/-- What LevelsOf gives. -/
def LvRes (l : List IT) (xs : List BL) (w : World) (e : Ending) (w' : World) : Prop := ∃ (v' : Value) (vs : List Nat), e = .returned v' ∧ Hid (LevOut l xs vs) ∧ Hid (w'.ownsRow w.heap.size 3 1 v' vs.length (cellsLv vs)) ∧ Hid (Below w.heap.size w w')
end Go.Proofs.YtmnncinpepeocaaGreat
