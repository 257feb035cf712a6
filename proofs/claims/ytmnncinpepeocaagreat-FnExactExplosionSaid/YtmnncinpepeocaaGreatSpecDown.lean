/-
 The model's l10Down: what an item takes, down the levels.
-/
import Derived.Test.YtmnncinpepeocaaGreatSpecOrd
import Derived.Test.YtmnncinpepeocaaGreatBuWay
import Derived.Test.YtmnncinpepeocaaGreatBillOn
import Derived.Test.YtmnncinpepeocaaGreatBuCat
import Derived.Test.YtmnncinpepeocaaGreatBuA
import Derived.WalkKit
import Derived.WalkSpells
import Derived.WalkSmall
import Derived.BigQuiet
import Derived.OneCell
import Derived.Deep.QuietTactic
import Derived.Deep.DeepCutAuto
import Derived.Deep.RegionHeld3
import Derived.StillTailTactics
import Derived.Laws.OwnMore
import Derived.Lib.Hide
namespace Go.Proofs.YtmnncinpepeocaaGreat
open Go.RowKit

theorem cap0 : (0 : Int) = capI 0 := (capI_yes (n := 0) (by omega)).symm
/-- What l10Down gives. -/
def DnRes (l : List IT) (V : Nat → Nat) (w : World) (e : Ending) (w' : World) : Prop :=
 ∃ (v' : Value) (S : List Nat), e = .returned v' ∧ Hid (S.length = l.length ∧ ∀ i, i < l.length → lv S i = V i) ∧ Hid (w'.ownsRow w.heap.size 3 1 v' l.length (cellsCap S)) ∧ Hid (Below w.heap.size w w')

set_option maxRecDepth 100000 in
set_option maxHeartbeats 8000000 in
theorem spec_down (v v2 vc : Value) (l : List IT) (xs : List BL) (ia q : Nat) (day : Int) (ps : List PK) (ph : Bool) (lo hi : Nat) (w : World) (h : IT.Is w v l) (h2 : BX lo hi w v2 xs) (h3 : PK.Is w vc ps)
 (hok : BillsOk l xs) (ha : ia < l.length) (hq : q ≤ 100000) (hm3 : ps.length ≤ maxLen) :
 Calls Tryz.prog 52 #[v, v2, .int .i64 (ia : Int), .int .i64 (q : Int), .int .i64 day, vc, .bool ph] w (DnRes l (dnV l xs day ps ia ph q) w) := by
 obtain ⟨i0, hif, hz0, hz1, hz2⟩ := info_parts infoN
 have HI := Lib.hid h
 have HX := Lib.hid h2
 have HPK := Lib.hid h3
 have HOK := Lib.hid hok
 have hl12 := hok.1.1.2
 have hx24 := hok.1.2.1
 obtain ⟨a, c, rfl⟩ := h.slice
 obtain ⟨a2, c2, rfl⟩ := h2.slice
 obtain ⟨a3, c3, rfl⟩ := h3.slice
 have hia0 : (0 : Int) ≤ (ia : Int) := by omega
 have hia1 : (ia : Int) < (l.length : Int) := by omega
 clear h h2 h3 hok
 go_enter Tryz.func52, Tryz.ntmps52
 go_wp2_with (at_make; refine wpList_make_full _ rfl _ _ 37 rfl w.heap.size 3 i0 (.int .i64 0) 1 Tryz.underlying37 hif hz0 hz1 _ _ _ _ l.length rfl rfl rfl rfl (by rw [hz2]; omega) (by unfold maxLen; omega) (Nat.le_refl _) ?_)
 intro w0 hown0 hgrow0
 have HB0 := Lib.hid ((Below.refl _ _).grown hgrow0 (Nat.le_refl _) (fun k h => by cases h))
 have HO0 : Hid (w0.ownsRow w.heap.size 3 1 (.slice (some ⟨w.heap.size, 0, none⟩) l.length l.length) l.length (cellsCap (List.replicate l.length 0))) := Lib.hid (by
  have h := hown0
  rw [← cellsCap_zeros]
  simpa [toList_madeCells_one, Value.cells] using h)
 have hg0 : w.heap.size < w0.heap.size := (hown0.lt w.heap.size rfl).2
 clear hown0 hgrow0
 obtain ⟨⟨u0, qa⟩, fa⟩ := own_cellw HO0.out ia (by omega)
 go_upto_region 3 with fail
 have HO1 : Hid ((w0.setCell ⟨w.heap.size, ia, none⟩ (.int .i64 (q : Int))).ownsRow w.heap.size 3 1 (.slice (some ⟨w.heap.size, 0, none⟩) l.length l.length) l.length (cellsCap (dnF l xs day ps ia ph q [] 0))) := Lib.hid (by
  have h := (HO0.out.stored ia (.int .i64 (q : Int))).1
  rw [show ((q : Nat) : Int) = capI q from (capI_yes (by omega)).symm, cellsCap_set] at h
  rw [show ((q : Nat) : Int) = capI q from (capI_yes (by omega)).symm]
  exact h)
 have HB1 : Hid (Below w.heap.size w (w0.setCell ⟨w.heap.size, ia, none⟩ (.int .i64 (q : Int)))) := Lib.hid (HB0.out.setCell (Nat.le_refl _) _)
 have hz1 : (w0.setCell ⟨w.heap.size, ia, none⟩ (.int .i64 (q : Int))).heap.size = w0.heap.size := by simp
 generalize w0.setCell ⟨w.heap.size, ia, none⟩ (.int .i64 (q : Int)) = w1 at *
 clear HO0 HB0 qa fa
 go_wp2_with fail
 refine (spec_levels _ _ l xs lo hi w1 (HI.out.below HB1.out) (HX.out.below BLN.kept HB1.out) hl12 hx24 HOK.out.1.2.2 HOK.out.1.inb).mono ?_
 rintro e w2 ⟨vl, vs, rfl, HV, HOL, HB2⟩
 have HLV : Hid (LevOk l.length (pairs l xs) vs) := Lib.hid (by
  rcases HV.out with hv | ⟨hv, _⟩
  · exact hv
  · exact absurd HOK.out.2 hv)
 have hvl : vs.length = l.length := HLV.out.1
 have HBW2 : Hid (Below w.heap.size w w2) := Lib.hid (HB1.out.trans (HB2.out.mono HB1.out.size))
 have HO2 := Lib.hid (own_keepL HO1.out HB2.out)
 have hs2 : w.heap.size < w2.heap.size := Nat.lt_of_lt_of_le (by omega) HB2.out.size
 obtain ⟨al, cl, rfl⟩ := own_sliceN HOL.out
 have HORD := Lib.hid (spec_order w1.heap.size _ vs w2 HOL.out (by omega))
 rw [hvl] at HORD
 clear HV HO1 HB1 HB2 HOL
 go_wp2_with fail
 refine HORD.out.mono ?_
 rintro e w3 ⟨vo, rfl, HOO, HB3⟩
 have HOR : Hid (Ord l.length vs (ordL vs l.length l.length)) := Lib.hid (ord_all (fun j hj => HLV.out.lt HOK.out.1.inb j hj))
 have hln := ordL_len vs l.length l.length
 have hll : l.length * l.length ≤ 12 * 12 := Nat.mul_le_mul hl12 hl12
 generalize ordL vs l.length l.length = O at *
 have HBW3 : Hid (Below w.heap.size w w3) := Lib.hid (HBW2.out.trans (HB3.out.mono HBW2.out.size))
 have HO3 : Hid (w3.ownsRow w.heap.size 3 1 (.slice (some ⟨w.heap.size, 0, none⟩) l.length l.length) l.length (cellsCap (dnF l xs day ps ia ph q O 0))) := Lib.hid (own_keepL HO2.out HB3.out)
 obtain ⟨ao, co, rfl⟩ := own_sliceN HOO.out
 clear HORD HO2 HB3 HBW2
 go_wp2_with fail
 go_loopw [17] (fun i wr => ∃ k : Nat, k ≤ O.length ∧ i = .int .i64 k ∧ Hid (wr.ownsRow w.heap.size 3 1 (.slice (some ⟨w.heap.size, 0, none⟩) l.length l.length) l.length (cellsCap (dnF l xs day ps ia ph q O k))) ∧ Hid (wr.ownsRow w2.heap.size 3 1 (.slice ao O.length co) O.length (cellsLv O)) ∧ Hid (Below w.heap.size w wr)) (fun i _ => O.length - (intOf i).toNat)
 case atStart => exact ⟨0, Nat.zero_le _, rfl, HO3, HOO, HBW3⟩
 case round =>
  clear HO3 HBW3 HOO
  obtain ⟨k, hk, rfl, HN, HOO, HBr⟩ := hrel
  by_cases hlt : k < O.length
  rotate_left
  · have hke : k = O.length := by omega
    subst hke
    obtain ⟨⟨u1, qa⟩, fa⟩ := own_cellw HN.out ia (by omega)
    have HOF := Lib.hid ((HN.out.stored ia (.int .i64 (0 : Int))).1)
    rw [show (0 : Int) = capI 0 from cap0, cellsCap_set] at HOF
    have HDN := Lib.hid (fun i hi => dn_done (day := day) (ps := ps) (ph := ph) (q := q) HOK.out HLV.out HOR.out ha (i := i) hi)
    have HDL := Lib.hid (dnF_length l xs day ps ia ph q O O.length (Nat.le_refl _))
    have HBF := Lib.hid (HBr.out.setCell (p := ⟨w.heap.size, ia, none⟩) (Nat.le_refl _) (.int .i64 (capI 0)))
    clear HN HOO
    go_wp2_with fail
    go_ret
    refine ⟨_, (dnF l xs day ps ia ph q O O.length).set ia 0, rfl, Lib.hid ⟨by rw [List.length_set]; exact HDL.out, HDN.out⟩, ?_, ?_⟩
    · rw [show (0 : Int) = capI 0 from cap0]; exact HOF
    · rw [show (0 : Int) = capI 0 from cap0]; exact HBF
  have HLT := Lib.hid hlt
  obtain ⟨g2, cg, hvg, hg1, hg2⟩ := own_pos HOO.out (by omega)
  simp only [Value.slice.injEq] at hvg
  obtain ⟨rfl, _, rfl⟩ := hvg
  have hcell : wr.cell? ⟨g2, k, none⟩ = some (.int .i64 ((lv O k : Nat) : Int)) := by
   rw [HOO.out.cellAt k (by omega)]
   exact cellsLv_get hlt
  rw [lv_get hlt] at hcell
  have HSUC : Hid (dnF l xs day ps ia ph q O (k + 1) = outS l xs day ps ia ph (dnF l xs day ps ia ph q O k) (O[k]'hlt)) := Lib.hid (dnF_succ hlt)
  have HDL := Lib.hid (dnF_length l xs day ps ia ph q O k hk)
  have hpn := (HOR.out.at hlt).1
  generalize O[k]'hlt = p at *
  generalize dnF l xs day ps ia ph q O k = S at *
  have hp0 : (0 : Int) ≤ (p : Int) := by omega
  have hp1 : (p : Int) < (l.length : Int) := by omega
  obtain ⟨bI, oI, cI, hvI, hcI, hatI⟩ := HI.out.some (show 0 < l.length by omega)
  simp only [Value.slice.injEq] at hvI
  obtain ⟨rfl, _, rfl⟩ := hvI
  have hatp := (hatI.below HBr.out).at p hpn
  have kc := hatp.2.2.1
  rw [← kindAt_get hpn] at kc
  have HCI : Hid (w.cell? ⟨bI, oI + p * 8, none⟩ = some (.string (codeAt l p))) := Lib.hid (by rw [codeAt_get hpn]; exact (hatI.at p hpn).1)
  have HBI : Hid (bI < w.heap.size) := Lib.hid hatI.1
  clear hatI hatp hcI
  obtain ⟨sk, hsk⟩ : ∃ sk, decide (ph = true ∧ p ≠ ia ∧ kindAt l p ≠ 2) = sk := ⟨_, rfl⟩
  have HSK := Lib.hid hsk
  clear hsk
  go_upto_region 8 with fail
  go_cut [55] (fun x wx => x = .bool sk ∧ wx = wr)
  case first =>
   cases ph with
   | false =>
    have HE : Hid (sk = false) := Lib.hid (by rw [← HSK.out]; simp)
    go_wp2_with fail
    go_meet
    first | exact ⟨by rw [HE.out], rfl⟩ | exact ⟨by rw [HE.out]; simp_all, rfl⟩
   | true =>
    by_cases hpa : p = ia
    · have HE : Hid (sk = false) := Lib.hid (by rw [← HSK.out]; simp [hpa])
      subst hpa
      go_wp2_with fail
      go_meet
      first | exact ⟨by rw [HE.out], rfl⟩ | exact ⟨by rw [HE.out]; simp_all, rfl⟩
    · have hd : ((p : Int) == (ia : Int)) = false := beq_eq_false_iff_ne.2 (by omega)
      by_cases hk2 : kindAt l p = 2
      · have HE : Hid (sk = false) := Lib.hid (by rw [← HSK.out]; simp [hk2])
        rw [hk2] at kc
        go_wp2_with fail
        go_meet
        first | exact ⟨by rw [HE.out], rfl⟩ | exact ⟨by rw [HE.out]; simp_all, rfl⟩
      · have HE : Hid (sk = true) := Lib.hid (by rw [← HSK.out]; simp [hpa, hk2])
        have hd3 : (kindAt l p == 2) = false := beq_eq_false_iff_ne.2 hk2
        go_wp2_with fail
        go_meet
        exact ⟨by rw [HE.out, bne, hd, bne, hd3]; rfl, rfl⟩
  case rest =>
   obtain ⟨rfl, rfl⟩ := hcut
   clear kc
   cases sk with
   | true =>
    have HE : Hid (dnF l xs day ps ia ph q O (k + 1) = S) := Lib.hid (by rw [HSUC.out]; unfold outS; rw [if_pos (of_decide_eq_true HSK.out)])
    go_wp2_with fail
    go_roundw
    case rel => exact ⟨k + 1, HLT.out, by go_num, by rw [HE.out]; exact HN, HOO, HBr⟩
    case measure => have := HLT.out; simp [intOf]; omega
   | false =>
    have hns : ¬(ph = true ∧ p ≠ ia ∧ kindAt l p ≠ 2) := of_decide_eq_false HSK.out
    have HSU : Hid (dnF l xs day ps ia ph q O (k + 1) = if ph = true ∧ p ≠ ia ∧ 0 < capI (lv (innS l day ps p xs S) p) then (innS l day ps p xs S).set p 0 else innS l day ps p xs S) := Lib.hid (by rw [HSUC.out]; unfold outS; rw [if_neg hns])
    clear hns HSUC HSK
    go_wp2_with fail
    go_loopw [19] (fun i wx => ∃ j : Nat, j ≤ xs.length ∧ i = .int .i64 j ∧ Hid (wx.ownsRow w.heap.size 3 1 (.slice (some ⟨w.heap.size, 0, none⟩) l.length l.length) l.length (cellsCap (innS l day ps p (xs.take j) S))) ∧ Hid (wx.ownsRow w2.heap.size 3 1 (.slice (some ⟨g2, 0, none⟩) O.length co) O.length (cellsLv O)) ∧ Hid (Below w.heap.size w wx)) (fun i _ => xs.length - (intOf i).toNat)
    case atStart => exact ⟨0, Nat.zero_le _, rfl, HN, HOO, HBr⟩
    case round =>
     clear HN HOO HBr
     obtain ⟨j, hj, rfl, HN, HOO, HBr⟩ := hrel
     by_cases hjl : j < xs.length
     rotate_left
     · have hje : j = xs.length := by omega
       subst hje
       rw [List.take_length] at HN
       have HIL : Hid ((innS l day ps p xs S).length = l.length) := Lib.hid (by rw [innS_length]; exact HDL.out)
       generalize innS l day ps p xs S = S1 at *
       have qp : wr.cell? ⟨w.heap.size, p, none⟩ = some (.int .i64 (capI (lv S1 p))) := by
        rw [HN.out.cellAt p (by omega)]; exact cellsCap_get (by rw [HIL.out]; exact hpn)
       have fp := HN.out.frozenAt p
       have HZ := Lib.hid ((HN.out.stored p (.int .i64 (capI 0))).1)
       rw [cellsCap_set] at HZ
       have HOZ := Lib.hid (own_setlow HOO.out w.heap.size p (.int .i64 (capI 0)) hs2)
       have HBZ := Lib.hid (HBr.out.setCell (p := ⟨w.heap.size, p, none⟩) (Nat.le_refl _) (.int .i64 (capI 0)))
       rw [← cap0] at HZ HOZ HBZ
       have hrg := capI_range (lv S1 p)
       cases ph with
       | false =>
        have HE : Hid (dnF l xs day ps ia false q O (k + 1) = S1) := Lib.hid (by rw [HSU.out, if_neg (by simp)])
        clear HZ HOZ HBZ qp fp
        go_wp2_with fail
        go_roundw
        case rel => exact ⟨k + 1, HLT.out, by go_num, by rw [HE.out]; exact HN, HOO, HBr⟩
        case measure => have := HLT.out; simp [intOf]; omega
       | true =>
        by_cases hpa : p = ia
        · have HE : Hid (dnF l xs day ps ia true q O (k + 1) = S1) := Lib.hid (by rw [HSU.out, if_neg (fun h => h.2.1 hpa)])
          subst hpa
          clear HZ HOZ HBZ qp fp
          go_wp2_with fail
          go_roundw
          case rel => exact ⟨k + 1, HLT.out, by go_num, by rw [HE.out]; exact HN, HOO, HBr⟩
          case measure => have := HLT.out; simp [intOf]; omega
        · have hd : ((p : Int) == (ia : Int)) = false := beq_eq_false_iff_ne.2 (by omega)
          have hdn : ((p : Int) != (ia : Int)) = true := by rw [bne, hd]; rfl
          by_cases hz : 0 < capI (lv S1 p)
          · have HE : Hid (dnF l xs day ps ia true q O (k + 1) = S1.set p 0) := Lib.hid (by rw [HSU.out, if_pos ⟨rfl, hpa, hz⟩])
            have hdz : decide (0 < capI (lv S1 p)) = true := decide_eq_true hz
            clear hpa hz
            go_wp2_with fail
            go_roundw
            case rel => exact ⟨k + 1, HLT.out, by go_num, by rw [HE.out]; exact HZ, HOZ, HBZ⟩
            case measure => have := HLT.out; simp [intOf]; omega
          · have HE : Hid (dnF l xs day ps ia true q O (k + 1) = S1) := Lib.hid (by rw [HSU.out, if_neg (fun h => hz h.2.2)])
            have hdz : decide (0 < capI (lv S1 p)) = false := decide_eq_false hz
            clear HZ HOZ HBZ fp hpa hz
            go_wp2_with fail
            go_roundw
            case rel => exact ⟨k + 1, HLT.out, by go_num, by rw [HE.out]; exact HN, HOO, HBr⟩
            case measure => have := HLT.out; simp [intOf]; omega
     have HJL := Lib.hid hjl
     obtain ⟨b2, o2, c2', cs, hv2, hc2, hb2, hcl, hr5, hcell⟩ := HX.out.get j hjl
     simp only [Value.slice.injEq] at hv2
     obtain ⟨rfl, _, rfl⟩ := hv2
     obtain ⟨u5, rfl, h5⟩ := hr5
     obtain ⟨sa5, sc5, rfl⟩ := h5.slice
     have HC := Lib.hid hcell
     have HB2 := Lib.hid hb2
     have e0 := (HBr.out.cell (p := ⟨b2, o2 + j * 6, none⟩) hb2).trans (hcell 0 (by omega))
     have e1 := (HBr.out.cell (p := ⟨b2, o2 + j * 6 + 1, none⟩) hb2).trans (hcell 1 (by omega))
     have e2 := (HBr.out.cell (p := ⟨b2, o2 + j * 6 + 2, none⟩) hb2).trans (hcell 2 (by omega))
     have e3 := (HBr.out.cell (p := ⟨b2, o2 + j * 6 + 3, none⟩) hb2).trans (hcell 3 (by omega))
     have e4 := (HBr.out.cell (p := ⟨b2, o2 + j * 6 + 4, none⟩) hb2).trans (hcell 4 (by omega))
     have e5 := (HBr.out.cell (p := ⟨b2, o2 + j * 6 + 5, none⟩) hb2).trans (hcell 5 (by omega))
     simp only [List.getElem?_cons_zero, List.getElem?_cons_succ] at e0 e1 e2 e3 e4 e5
     have hlo := HOK.out.1.mem (List.getElem_mem hjl)
     have HTK : Hid (innS l day ps p (xs.take (j + 1)) S = stepS l day ps p (innS l day ps p (xs.take j) S) (xs[j]'hjl)) := Lib.hid (innS_take hjl)
     have HL1 : Hid ((innS l day ps p (xs.take j) S).length = l.length) := Lib.hid (by rw [innS_length]; exact HDL.out)
     have hlvx : lv vs (fiI l (xs[j]'hjl).par).toNat < lv vs (fiI l (xs[j]'hjl).prt).toNat := (bills_lvl HOK.out.1 HLV.out).1 _ (List.mem_map.2 ⟨_, List.getElem_mem hjl, rfl⟩)
     have hbp : (fiI l (xs[j]'hjl).prt).toNat < l.length := hlo.inb.2
     have hbf : fiI l (xs[j]'hjl).prt = (((fiI l (xs[j]'hjl).prt).toNat : Nat) : Int) := hlo.fi.2
     have hqt : 1 ≤ (xs[j]'hjl).qty ∧ (xs[j]'hjl).qty ≤ 1000 := ⟨hlo.2.2.2.1, hlo.2.2.2.2.1⟩
     have HON : Hid (∀ W, Below wr.heap.size wr W → Calls Tryz.prog 62 #[.agg #[.string (xs[j]'hjl).par, .string (xs[j]'hjl).prt, .int .i64 (xs[j]'hjl).qty, .int .i64 (xs[j]'hjl).fr, .int .i64 (xs[j]'hjl).un, .slice sa5 (xs[j]'hjl).whn.length sc5], .int .i64 day, .slice a3 ps.length c3] W (BoolRes (onB (xs[j]'hjl) day ps) W)) := Lib.hid (fun W hW => spec_on _ _ _ day ps lo hi W (h5.below CnN.kept (HBr.out.trans (hW.mono HBr.out.size))) hlo.2.2.2.2.2.2.2.2 (HPK.out.below (HBr.out.trans (hW.mono HBr.out.size))) hm3)
     have HPI : Hid ((xs[j]'hjl).par = codeAt l p → (fiI l (xs[j]'hjl).par).toNat = p) := Lib.hid (fun e => by rw [e, cat_fi HOK.out.1.1 hpn]; rfl)
     generalize innS l day ps p (xs.take j) S = S1 at *
     clear hcell h5 hc2 hb2 hcl hlo
     generalize xs[j]'hjl = x at *
     have np : wr.cell? ⟨w.heap.size, p, none⟩ = some (.int .i64 (capI (lv S1 p))) := by
      rw [HN.out.cellAt p (by omega)]; exact cellsCap_get (by rw [HL1.out]; exact hpn)
     have ci : wr.cell? ⟨bI, oI + p * 8, none⟩ = some (.string (codeAt l p)) := (HBr.out.cell (p := ⟨bI, oI + p * 8, none⟩) HBI.out).trans HCI.out
     obtain ⟨y, hy⟩ : ∃ y, onB x day ps = y := ⟨_, rfl⟩
     rw [hy] at HON
     have HY := Lib.hid hy
     obtain ⟨tk, htk⟩ : ∃ tk, decide (x.par = codeAt l p ∧ y = true ∧ lv S1 p ≠ 0) = tk := ⟨_, rfl⟩
     have HTKB := Lib.hid htk
     obtain ⟨z, hz⟩ : ∃ z, capI (lv S1 p) = z := ⟨_, rfl⟩
     have HZ : Hid (z = 0 ↔ lv S1 p = 0) := Lib.hid (by rw [← hz]; exact capI_zero)
     have HZE := Lib.hid hz
     rw [hz] at np
     have hj0 : (0 : Int) ≤ (j : Int) := by omega
     have hj1 : (j : Int) < (xs.length : Int) := by omega
     clear hy htk hz
     go_upto_region 12 with fail
     go_cut [88] (fun v wx => v = .bool tk ∧ Hid (Below wr.heap.size wr wx))
     case first =>
      by_cases hp1 : x.par = codeAt l p
      rotate_left
      · have HE : Hid (tk = false) := Lib.hid (by rw [← HTKB.out]; exact decide_eq_false (fun h => hp1 h.1))
        have hn1 := str_ne hp1
        clear hp1
        refine wp_region_held_drew (S := (fun W' => Hid (Below wr.heap.size wr W') ∧ W'.cell? ⟨b2, o2 + j * 6, none⟩ = some (.string x.par) ∧ W'.cell? ⟨bI, oI + p * 8, none⟩ = some (.string (codeAt l p)))) (by kernel_rfl) (hold2 e0 ci (Below.refl _ _).drew) (fun hHeld => ?_)
        refine wpAnyH_take (i := 0) (oi := { dst := some 62, op := Op.move (Operand.tmp 1), type := 25, pos := _, after := #[], guard := none }) (v := ?vr1x1) rfl (by kernel_rfl) (by kernel_rfl) (by kernel_rfl) (fun _ _ _ h => h) (Or.inl ⟨by rfl, ?yr1x1⟩) (by assumption) ?rr1x1
        case yr1x1 => (intro w' hSw; (try dsimp only at hSw); go_simp; (try with_reducible rfl))
        refine wpAnyH_take (i := 1) (oi := { dst := some 63, op := Op.move (Operand.tmp 19), type := 3, pos := _, after := #[], guard := none }) (v := ?vr1x2) rfl (by kernel_rfl) (by kernel_rfl) (by kernel_rfl) (fun _ _ _ h => h) (Or.inl ⟨by rfl, ?yr1x2⟩) (by assumption) ?rr1x2
        case yr1x2 => (intro w' hSw; (try dsimp only at hSw); go_simp; (try with_reducible rfl))
        refine wpAnyH_take (i := 2) (oi := { dst := some 64, op := Op.indexAddr 25 (Operand.tmp 62) (Operand.tmp 63), type := 0, pos := _, after := #[{ on := 0, ground := Ground.data }, { on := 1, ground := Ground.data }], guard := none }) (v := ?vr1x3) rfl (by kernel_rfl) (by kernel_rfl) (by kernel_rfl) (fun _ _ _ h => h) (Or.inl ⟨by rfl, ?yr1x3⟩) (by assumption) ?rr1x3
        case yr1x3 => (intro w' hSw; (try dsimp only at hSw); go_simp; (try with_reducible rfl))
        (try simp only [Act.put, List.setIfInBounds_toArray, List.set_cons_zero, List.set_cons_succ])
        refine wpAnyH_take (i := 3) (oi := { dst := some 65, op := Op.fieldAddr 94 (Operand.tmp 64) 0, type := 0, pos := _, after := #[{ on := 2, ground := Ground.data }], guard := none }) (v := ?vr1x4) rfl (by kernel_rfl) (by kernel_rfl) (by kernel_rfl) (fun _ _ _ h => h) (Or.inl ⟨by rfl, ?yr1x4⟩) (by assumption) ?rr1x4
        case yr1x4 => (intro w' hSw; (try dsimp only at hSw); go_simp; (try with_reducible rfl))
        refine wpAnyH_take (i := 4) (oi := { dst := some 66, op := Op.load 9 (Operand.tmp 65), type := 9, pos := _, after := #[{ on := 3, ground := Ground.data }], guard := none }) (v := ?vr1x5) rfl (by kernel_rfl) (by kernel_rfl) (by kernel_rfl) (fun _ _ _ h => h) (Or.inl ⟨by rfl, ?yr1x5⟩) (by assumption) ?rr1x5
        case yr1x5 => (intro w' hSw; (try dsimp only at hSw); go_simp; (try with_reducible rfl))
        refine wpAnyH_take (i := 5) (oi := { dst := some 67, op := Op.move (Operand.tmp 0), type := 24, pos := _, after := #[], guard := none }) (v := ?vr1x6) rfl (by kernel_rfl) (by kernel_rfl) (by kernel_rfl) (fun _ _ _ h => h) (Or.inl ⟨by rfl, ?yr1x6⟩) (by assumption) ?rr1x6
        case yr1x6 => (intro w' hSw; (try dsimp only at hSw); go_simp; (try with_reducible rfl))
        (try simp only [Act.put, List.setIfInBounds_toArray, List.set_cons_zero, List.set_cons_succ])
        refine wpAnyH_take (i := 6) (oi := { dst := some 68, op := Op.move (Operand.tmp 18), type := 3, pos := _, after := #[], guard := none }) (v := ?vr1x7) rfl (by kernel_rfl) (by kernel_rfl) (by kernel_rfl) (fun _ _ _ h => h) (Or.inl ⟨by rfl, ?yr1x7⟩) (by assumption) ?rr1x7
        case yr1x7 => (intro w' hSw; (try dsimp only at hSw); go_simp; (try with_reducible rfl))
        refine wpAnyH_take (i := 7) (oi := { dst := some 69, op := Op.indexAddr 24 (Operand.tmp 67) (Operand.tmp 68), type := 0, pos := _, after := #[{ on := 5, ground := Ground.data }, { on := 6, ground := Ground.data }], guard := none }) (v := ?vr1x8) rfl (by kernel_rfl) (by kernel_rfl) (by kernel_rfl) (fun _ _ _ h => h) (Or.inl ⟨by rfl, ?yr1x8⟩) (by assumption) ?rr1x8
        case yr1x8 => (intro w' hSw; (try dsimp only at hSw); go_simp; (try with_reducible rfl))
        refine wpAnyH_take (i := 8) (oi := { dst := some 70, op := Op.fieldAddr 33 (Operand.tmp 69) 0, type := 0, pos := _, after := #[{ on := 7, ground := Ground.data }], guard := none }) (v := ?vr1x9) rfl (by kernel_rfl) (by kernel_rfl) (by kernel_rfl) (fun _ _ _ h => h) (Or.inl ⟨by rfl, ?yr1x9⟩) (by assumption) ?rr1x9
        case yr1x9 => (intro w' hSw; (try dsimp only at hSw); go_simp; (try with_reducible rfl))
        (try simp only [Act.put, List.setIfInBounds_toArray, List.set_cons_zero, List.set_cons_succ])
        refine wpAnyH_take (i := 9) (oi := { dst := some 71, op := Op.load 9 (Operand.tmp 70), type := 9, pos := _, after := #[{ on := 8, ground := Ground.data }], guard := none }) (v := ?vr1x10) rfl (by kernel_rfl) (by kernel_rfl) (by kernel_rfl) (fun _ _ _ h => h) (Or.inl ⟨by rfl, ?yr1x10⟩) (by assumption) ?rr1x10
        case yr1x10 => (intro w' hSw; (try dsimp only at hSw); go_simp; (try with_reducible rfl))
        refine wpAnyH_take (i := 10) (oi := { dst := some 72, op := Op.binOp BinOp.eql 9 (Operand.tmp 66) (Operand.tmp 71) 9, type := 4, pos := _, after := #[{ on := 4, ground := Ground.data }, { on := 9, ground := Ground.data }], guard := none }) (v := ?vr1x11) rfl (by kernel_rfl) (by kernel_rfl) (by kernel_rfl) (fun _ _ _ h => h) (Or.inl ⟨by rfl, ?yr1x11⟩) (by assumption) ?rr1x11
        case yr1x11 => (intro w' hSw; (try dsimp only at hSw); go_simp; (try with_reducible rfl))
        refine wpAnyH_take (i := 11) (oi := { dst := some 73, op := Op.move (Operand.tmp 72), type := 4, pos := _, after := #[{ on := 10, ground := Ground.data }], guard := none }) (v := ?vr1x12) rfl (by kernel_rfl) (by kernel_rfl) (by kernel_rfl) (fun _ _ _ h => h) (Or.inl ⟨by rfl, ?yr1x12⟩) (by assumption) ?rr1x12
        case yr1x12 => (intro w' hSw; (try dsimp only at hSw); go_simp; (try with_reducible rfl))
        (try simp only [Act.put, List.setIfInBounds_toArray, List.set_cons_zero, List.set_cons_succ])
        refine wpAnyH_take (i := 12) (oi := { dst := some 74, op := Op.move (Operand.tmp 1), type := 25, pos := _, after := #[{ on := 11, ground := Ground.guard }], guard := some (11, true) }) (v := undef) rfl (by kernel_rfl) (by kernel_rfl) (by kernel_rfl) (fun _ _ _ h => h) (Or.inr ⟨by rfl, rfl⟩) (by assumption) ?_
        refine wpAnyH_take (i := 13) (oi := { dst := some 75, op := Op.move (Operand.tmp 19), type := 3, pos := _, after := #[{ on := 11, ground := Ground.guard }], guard := some (11, true) }) (v := undef) rfl (by kernel_rfl) (by kernel_rfl) (by kernel_rfl) (fun _ _ _ h => h) (Or.inr ⟨by rfl, rfl⟩) (by assumption) ?_
        refine wpAnyH_take (i := 14) (oi := { dst := some 76, op := Op.indexAddr 25 (Operand.tmp 74) (Operand.tmp 75), type := 0, pos := _, after := #[{ on := 12, ground := Ground.data }, { on := 13, ground := Ground.data }, { on := 11, ground := Ground.guard }], guard := some (11, true) }) (v := undef) rfl (by kernel_rfl) (by kernel_rfl) (by kernel_rfl) (fun _ _ _ h => h) (Or.inr ⟨by rfl, rfl⟩) (by assumption) ?_
        (try simp only [Act.put, List.setIfInBounds_toArray, List.set_cons_zero, List.set_cons_succ])
        refine wpAnyH_take (i := 15) (oi := { dst := some 77, op := Op.load 94 (Operand.tmp 76), type := 94, pos := _, after := #[{ on := 14, ground := Ground.data }, { on := 11, ground := Ground.guard }], guard := some (11, true) }) (v := undef) rfl (by kernel_rfl) (by kernel_rfl) (by kernel_rfl) (fun _ _ _ h => h) (Or.inr ⟨by rfl, rfl⟩) (by assumption) ?_
        refine wpAnyH_take (i := 16) (oi := { dst := some 78, op := Op.move (Operand.tmp 4), type := 3, pos := _, after := #[{ on := 11, ground := Ground.guard }], guard := some (11, true) }) (v := undef) rfl (by kernel_rfl) (by kernel_rfl) (by kernel_rfl) (fun _ _ _ h => h) (Or.inr ⟨by rfl, rfl⟩) (by assumption) ?_
        refine wpAnyH_take (i := 17) (oi := { dst := some 79, op := Op.move (Operand.tmp 5), type := 26, pos := _, after := #[{ on := 11, ground := Ground.guard }], guard := some (11, true) }) (v := undef) rfl (by kernel_rfl) (by kernel_rfl) (by kernel_rfl) (fun _ _ _ h => h) (Or.inr ⟨by rfl, rfl⟩) (by assumption) ?_
        (try simp only [Act.put, List.setIfInBounds_toArray, List.set_cons_zero, List.set_cons_succ])
        refine wpAnyH_take (i := 18) (oi := { dst := some 80, op := Op.call { callee := Callee.value (Operand.func 62), args := #[Operand.tmp 77, Operand.tmp 78, Operand.tmp 79], argTypes := #[94, 3, 26] }, type := 4, pos := _, after := #[{ on := 15, ground := Ground.data }, { on := 16, ground := Ground.data }, { on := 17, ground := Ground.data }, { on := 11, ground := Ground.chain }, { on := 11, ground := Ground.guard }], guard := some (11, true) }) (v := undef) rfl (by kernel_rfl) (by kernel_rfl) (by kernel_rfl) (fun _ _ _ h => h) (Or.inr ⟨by rfl, rfl⟩) (by assumption) ?_
        refine wpAnyH_take (i := 19) (oi := { dst := some 81, op := Op.pick (Operand.tmp 73) (Operand.tmp 80) (Operand.const (Value.bool false)), type := 4, pos := _, after := #[{ on := 11, ground := Ground.data }, { on := 18, ground := Ground.data }], guard := none }) (v := ?vr1x13) rfl (by kernel_rfl) (by kernel_rfl) (by kernel_rfl) (fun _ _ _ h => h) (Or.inl ⟨by rfl, ?yr1x13⟩) (by assumption) ?rr1x13
        case yr1x13 => (intro w' hSw; (try dsimp only at hSw); go_simp; (try with_reducible rfl))
        refine wpAnyH_take (i := 20) (oi := { dst := some 82, op := Op.move (Operand.tmp 81), type := 4, pos := _, after := #[{ on := 19, ground := Ground.data }, { on := 18, ground := Ground.chain }], guard := none }) (v := ?vr1x14) rfl (by kernel_rfl) (by kernel_rfl) (by kernel_rfl) (fun _ _ _ h => h) (Or.inl ⟨by rfl, ?yr1x14⟩) (by assumption) ?rr1x14
        case yr1x14 => (intro w' hSw; (try dsimp only at hSw); go_simp; (try with_reducible rfl))
        (try simp only [Act.put, List.setIfInBounds_toArray, List.set_cons_zero, List.set_cons_succ])
        refine wpAnyH_take (i := 21) (oi := { dst := some 83, op := Op.move (Operand.tmp 15), type := 37, pos := _, after := #[{ on := 20, ground := Ground.guard }], guard := some (20, true) }) (v := undef) rfl (by kernel_rfl) (by kernel_rfl) (by kernel_rfl) (fun _ _ _ h => h) (Or.inr ⟨by rfl, rfl⟩) (by assumption) ?_
        refine wpAnyH_take (i := 22) (oi := { dst := some 84, op := Op.move (Operand.tmp 18), type := 3, pos := _, after := #[{ on := 20, ground := Ground.guard }], guard := some (20, true) }) (v := undef) rfl (by kernel_rfl) (by kernel_rfl) (by kernel_rfl) (fun _ _ _ h => h) (Or.inr ⟨by rfl, rfl⟩) (by assumption) ?_
        refine wpAnyH_take (i := 23) (oi := { dst := some 85, op := Op.indexAddr 37 (Operand.tmp 83) (Operand.tmp 84), type := 0, pos := _, after := #[{ on := 21, ground := Ground.data }, { on := 22, ground := Ground.data }, { on := 20, ground := Ground.guard }], guard := some (20, true) }) (v := undef) rfl (by kernel_rfl) (by kernel_rfl) (by kernel_rfl) (fun _ _ _ h => h) (Or.inr ⟨by rfl, rfl⟩) (by assumption) ?_
        (try simp only [Act.put, List.setIfInBounds_toArray, List.set_cons_zero, List.set_cons_succ])
        refine wpAnyH_take (i := 24) (oi := { dst := some 86, op := Op.load 3 (Operand.tmp 85), type := 3, pos := _, after := #[{ on := 23, ground := Ground.data }, { on := 20, ground := Ground.guard }], guard := some (20, true) }) (v := undef) rfl (by kernel_rfl) (by kernel_rfl) (by kernel_rfl) (fun _ _ _ h => h) (Or.inr ⟨by rfl, rfl⟩) (by assumption) ?_
        refine wpAnyH_take (i := 25) (oi := { dst := some 87, op := Op.binOp BinOp.neq 3 (Operand.tmp 86) (Operand.const (Value.int IntKind.i64 0)) 3, type := 4, pos := _, after := #[{ on := 24, ground := Ground.data }, { on := 20, ground := Ground.guard }], guard := some (20, true) }) (v := undef) rfl (by kernel_rfl) (by kernel_rfl) (by kernel_rfl) (fun _ _ _ h => h) (Or.inr ⟨by rfl, rfl⟩) (by assumption) ?_
        refine wpAnyH_take (i := 26) (oi := { dst := some 88, op := Op.pick (Operand.tmp 82) (Operand.tmp 87) (Operand.const (Value.bool false)), type := 4, pos := _, after := #[{ on := 20, ground := Ground.data }, { on := 25, ground := Ground.data }], guard := none }) (v := ?vr1x15) rfl (by kernel_rfl) (by kernel_rfl) (by kernel_rfl) (fun _ _ _ h => h) (Or.inl ⟨by rfl, ?yr1x15⟩) (by assumption) ?rr1x15
        case yr1x15 => (intro w' hSw; (try dsimp only at hSw); go_simp; (try with_reducible rfl))
        (try simp only [Act.put, List.setIfInBounds_toArray, List.set_cons_zero, List.set_cons_succ])
        refine wpAnyH_done (by kernel_rfl) ?_ _
        have hS := (by assumption : Hid (Below wr.heap.size wr _) ∧ _)
        have HB9 := Lib.hid hS.1.out
        go_wp2_with fail
        go_meet
        exact ⟨by rw [HE.out], HB9⟩
      have hy1 := str_eq hp1
      cases y with
      | false =>
       have HE : Hid (tk = false) := Lib.hid (by rw [← HTKB.out]; simp)
       clear hp1
       refine wp_region_held_drew (S := (fun W' => Hid (Below wr.heap.size wr W') ∧ W'.cell? ⟨b2, o2 + j * 6, none⟩ = some (.string x.par) ∧ W'.cell? ⟨b2, o2 + j * 6 + 1, none⟩ = some (.string x.prt) ∧ W'.cell? ⟨b2, o2 + j * 6 + 2, none⟩ = some (.int .i64 x.qty) ∧ W'.cell? ⟨b2, o2 + j * 6 + 3, none⟩ = some (.int .i64 x.fr) ∧ W'.cell? ⟨b2, o2 + j * 6 + 4, none⟩ = some (.int .i64 x.un) ∧ W'.cell? ⟨b2, o2 + j * 6 + 5, none⟩ = some (.slice sa5 x.whn.length sc5) ∧ W'.cell? ⟨bI, oI + p * 8, none⟩ = some (.string (codeAt l p)))) (by kernel_rfl) (hold7 e0 e1 e2 e3 e4 e5 ci (Below.refl _ _).drew) (fun hHeld => ?_)
       refine wpAnyH_take (i := 0) (oi := { dst := some 62, op := Op.move (Operand.tmp 1), type := 25, pos := _, after := #[], guard := none }) (v := ?vr2x1) rfl (by kernel_rfl) (by kernel_rfl) (by kernel_rfl) (fun _ _ _ h => h) (Or.inl ⟨by rfl, ?yr2x1⟩) (by assumption) ?rr2x1
       case yr2x1 => (intro w' hSw; (try dsimp only at hSw); go_simp; (try with_reducible rfl))
       refine wpAnyH_take (i := 1) (oi := { dst := some 63, op := Op.move (Operand.tmp 19), type := 3, pos := _, after := #[], guard := none }) (v := ?vr2x2) rfl (by kernel_rfl) (by kernel_rfl) (by kernel_rfl) (fun _ _ _ h => h) (Or.inl ⟨by rfl, ?yr2x2⟩) (by assumption) ?rr2x2
       case yr2x2 => (intro w' hSw; (try dsimp only at hSw); go_simp; (try with_reducible rfl))
       refine wpAnyH_take (i := 2) (oi := { dst := some 64, op := Op.indexAddr 25 (Operand.tmp 62) (Operand.tmp 63), type := 0, pos := _, after := #[{ on := 0, ground := Ground.data }, { on := 1, ground := Ground.data }], guard := none }) (v := ?vr2x3) rfl (by kernel_rfl) (by kernel_rfl) (by kernel_rfl) (fun _ _ _ h => h) (Or.inl ⟨by rfl, ?yr2x3⟩) (by assumption) ?rr2x3
       case yr2x3 => (intro w' hSw; (try dsimp only at hSw); go_simp; (try with_reducible rfl))
       (try simp only [Act.put, List.setIfInBounds_toArray, List.set_cons_zero, List.set_cons_succ])
       refine wpAnyH_take (i := 3) (oi := { dst := some 65, op := Op.fieldAddr 94 (Operand.tmp 64) 0, type := 0, pos := _, after := #[{ on := 2, ground := Ground.data }], guard := none }) (v := ?vr2x4) rfl (by kernel_rfl) (by kernel_rfl) (by kernel_rfl) (fun _ _ _ h => h) (Or.inl ⟨by rfl, ?yr2x4⟩) (by assumption) ?rr2x4
       case yr2x4 => (intro w' hSw; (try dsimp only at hSw); go_simp; (try with_reducible rfl))
       refine wpAnyH_take (i := 4) (oi := { dst := some 66, op := Op.load 9 (Operand.tmp 65), type := 9, pos := _, after := #[{ on := 3, ground := Ground.data }], guard := none }) (v := ?vr2x5) rfl (by kernel_rfl) (by kernel_rfl) (by kernel_rfl) (fun _ _ _ h => h) (Or.inl ⟨by rfl, ?yr2x5⟩) (by assumption) ?rr2x5
       case yr2x5 => (intro w' hSw; (try dsimp only at hSw); go_simp; (try with_reducible rfl))
       refine wpAnyH_take (i := 5) (oi := { dst := some 67, op := Op.move (Operand.tmp 0), type := 24, pos := _, after := #[], guard := none }) (v := ?vr2x6) rfl (by kernel_rfl) (by kernel_rfl) (by kernel_rfl) (fun _ _ _ h => h) (Or.inl ⟨by rfl, ?yr2x6⟩) (by assumption) ?rr2x6
       case yr2x6 => (intro w' hSw; (try dsimp only at hSw); go_simp; (try with_reducible rfl))
       (try simp only [Act.put, List.setIfInBounds_toArray, List.set_cons_zero, List.set_cons_succ])
       refine wpAnyH_take (i := 6) (oi := { dst := some 68, op := Op.move (Operand.tmp 18), type := 3, pos := _, after := #[], guard := none }) (v := ?vr2x7) rfl (by kernel_rfl) (by kernel_rfl) (by kernel_rfl) (fun _ _ _ h => h) (Or.inl ⟨by rfl, ?yr2x7⟩) (by assumption) ?rr2x7
       case yr2x7 => (intro w' hSw; (try dsimp only at hSw); go_simp; (try with_reducible rfl))
       refine wpAnyH_take (i := 7) (oi := { dst := some 69, op := Op.indexAddr 24 (Operand.tmp 67) (Operand.tmp 68), type := 0, pos := _, after := #[{ on := 5, ground := Ground.data }, { on := 6, ground := Ground.data }], guard := none }) (v := ?vr2x8) rfl (by kernel_rfl) (by kernel_rfl) (by kernel_rfl) (fun _ _ _ h => h) (Or.inl ⟨by rfl, ?yr2x8⟩) (by assumption) ?rr2x8
       case yr2x8 => (intro w' hSw; (try dsimp only at hSw); go_simp; (try with_reducible rfl))
       refine wpAnyH_take (i := 8) (oi := { dst := some 70, op := Op.fieldAddr 33 (Operand.tmp 69) 0, type := 0, pos := _, after := #[{ on := 7, ground := Ground.data }], guard := none }) (v := ?vr2x9) rfl (by kernel_rfl) (by kernel_rfl) (by kernel_rfl) (fun _ _ _ h => h) (Or.inl ⟨by rfl, ?yr2x9⟩) (by assumption) ?rr2x9
       case yr2x9 => (intro w' hSw; (try dsimp only at hSw); go_simp; (try with_reducible rfl))
       (try simp only [Act.put, List.setIfInBounds_toArray, List.set_cons_zero, List.set_cons_succ])
       refine wpAnyH_take (i := 9) (oi := { dst := some 71, op := Op.load 9 (Operand.tmp 70), type := 9, pos := _, after := #[{ on := 8, ground := Ground.data }], guard := none }) (v := ?vr2x10) rfl (by kernel_rfl) (by kernel_rfl) (by kernel_rfl) (fun _ _ _ h => h) (Or.inl ⟨by rfl, ?yr2x10⟩) (by assumption) ?rr2x10
       case yr2x10 => (intro w' hSw; (try dsimp only at hSw); go_simp; (try with_reducible rfl))
       refine wpAnyH_take (i := 10) (oi := { dst := some 72, op := Op.binOp BinOp.eql 9 (Operand.tmp 66) (Operand.tmp 71) 9, type := 4, pos := _, after := #[{ on := 4, ground := Ground.data }, { on := 9, ground := Ground.data }], guard := none }) (v := ?vr2x11) rfl (by kernel_rfl) (by kernel_rfl) (by kernel_rfl) (fun _ _ _ h => h) (Or.inl ⟨by rfl, ?yr2x11⟩) (by assumption) ?rr2x11
       case yr2x11 => (intro w' hSw; (try dsimp only at hSw); go_simp; (try with_reducible rfl))
       refine wpAnyH_take (i := 11) (oi := { dst := some 73, op := Op.move (Operand.tmp 72), type := 4, pos := _, after := #[{ on := 10, ground := Ground.data }], guard := none }) (v := ?vr2x12) rfl (by kernel_rfl) (by kernel_rfl) (by kernel_rfl) (fun _ _ _ h => h) (Or.inl ⟨by rfl, ?yr2x12⟩) (by assumption) ?rr2x12
       case yr2x12 => (intro w' hSw; (try dsimp only at hSw); go_simp; (try with_reducible rfl))
       (try simp only [Act.put, List.setIfInBounds_toArray, List.set_cons_zero, List.set_cons_succ])
       refine wpAnyH_take (i := 12) (oi := { dst := some 74, op := Op.move (Operand.tmp 1), type := 25, pos := _, after := #[{ on := 11, ground := Ground.guard }], guard := some (11, true) }) (v := ?vr2x13) rfl (by kernel_rfl) (by kernel_rfl) (by kernel_rfl) (fun _ _ _ h => h) (Or.inl ⟨by rfl, ?yr2x13⟩) (by assumption) ?rr2x13
       case yr2x13 => (intro w' hSw; (try dsimp only at hSw); go_simp; (try with_reducible rfl))
       refine wpAnyH_take (i := 13) (oi := { dst := some 75, op := Op.move (Operand.tmp 19), type := 3, pos := _, after := #[{ on := 11, ground := Ground.guard }], guard := some (11, true) }) (v := ?vr2x14) rfl (by kernel_rfl) (by kernel_rfl) (by kernel_rfl) (fun _ _ _ h => h) (Or.inl ⟨by rfl, ?yr2x14⟩) (by assumption) ?rr2x14
       case yr2x14 => (intro w' hSw; (try dsimp only at hSw); go_simp; (try with_reducible rfl))
       refine wpAnyH_take (i := 14) (oi := { dst := some 76, op := Op.indexAddr 25 (Operand.tmp 74) (Operand.tmp 75), type := 0, pos := _, after := #[{ on := 12, ground := Ground.data }, { on := 13, ground := Ground.data }, { on := 11, ground := Ground.guard }], guard := some (11, true) }) (v := ?vr2x15) rfl (by kernel_rfl) (by kernel_rfl) (by kernel_rfl) (fun _ _ _ h => h) (Or.inl ⟨by rfl, ?yr2x15⟩) (by assumption) ?rr2x15
       case yr2x15 => (intro w' hSw; (try dsimp only at hSw); go_simp; (try with_reducible rfl))
       (try simp only [Act.put, List.setIfInBounds_toArray, List.set_cons_zero, List.set_cons_succ])
       refine wpAnyH_take (i := 15) (oi := { dst := some 77, op := Op.load 94 (Operand.tmp 76), type := 94, pos := _, after := #[{ on := 14, ground := Ground.data }, { on := 11, ground := Ground.guard }], guard := some (11, true) }) (v := ?vr2x16) rfl (by kernel_rfl) (by kernel_rfl) (by kernel_rfl) (fun _ _ _ h => h) (Or.inl ⟨by rfl, ?yr2x16⟩) (by assumption) ?rr2x16
       case yr2x16 => (intro w' hSw; (try dsimp only at hSw); go_simp; (try with_reducible rfl))
       refine wpAnyH_take (i := 16) (oi := { dst := some 78, op := Op.move (Operand.tmp 4), type := 3, pos := _, after := #[{ on := 11, ground := Ground.guard }], guard := some (11, true) }) (v := ?vr2x17) rfl (by kernel_rfl) (by kernel_rfl) (by kernel_rfl) (fun _ _ _ h => h) (Or.inl ⟨by rfl, ?yr2x17⟩) (by assumption) ?rr2x17
       case yr2x17 => (intro w' hSw; (try dsimp only at hSw); go_simp; (try with_reducible rfl))
       refine wpAnyH_take (i := 17) (oi := { dst := some 79, op := Op.move (Operand.tmp 5), type := 26, pos := _, after := #[{ on := 11, ground := Ground.guard }], guard := some (11, true) }) (v := ?vr2x18) rfl (by kernel_rfl) (by kernel_rfl) (by kernel_rfl) (fun _ _ _ h => h) (Or.inl ⟨by rfl, ?yr2x18⟩) (by assumption) ?rr2x18
       case yr2x18 => (intro w' hSw; (try dsimp only at hSw); go_simp; (try with_reducible rfl))
       (try simp only [Act.put, List.setIfInBounds_toArray, List.set_cons_zero, List.set_cons_succ])
       refine wpAnyH_ready (rs := [18]) (by kernel_rfl) (by simp) ?_
       refine AllReadyH.cons (o := { dst := some 80, op := Op.call { callee := Callee.value (Operand.func 62), args := #[Operand.tmp 77, Operand.tmp 78, Operand.tmp 79], argTypes := #[94, 3, 26] }, type := 4, pos := _, after := #[{ on := 15, ground := Ground.data }, { on := 16, ground := Ground.data }, { on := 17, ground := Ground.data }, { on := 11, ground := Ground.chain }, { on := 11, ground := Ground.guard }], guard := some (11, true) }) rfl (fun K hK => ?_) AllReadyH.nil
       go_simp
       refine (HON.out _ (by first | exact (by assumption : Hid (Below wr.heap.size wr _) ∧ _).1.out | exact Below.refl _ _ | exact (Below.refl _ _).drew)).mono ?_; rintro e w' ⟨rfl, hb⟩; have hb2 : Below _ _ w' := hb
       (try go_wp2_with fail)
       refine hK.out _ _ ?_ (fun hHeld => ?_)
       · (try dsimp only); first | assumption | exact hold7 e0 e1 e2 e3 e4 e5 ci (hold_call (by assumption) (by assumption))
       clear hK K
       (try simp only [Act.put, List.setIfInBounds_toArray, List.set_cons_zero, List.set_cons_succ])
       refine wpAnyH_take (i := 19) (oi := { dst := some 81, op := Op.pick (Operand.tmp 73) (Operand.tmp 80) (Operand.const (Value.bool false)), type := 4, pos := _, after := #[{ on := 11, ground := Ground.data }, { on := 18, ground := Ground.data }], guard := none }) (v := ?vr2x19) rfl (by kernel_rfl) (by kernel_rfl) (by kernel_rfl) (fun _ _ _ h => h) (Or.inl ⟨by rfl, ?yr2x19⟩) (by assumption) ?rr2x19
       case yr2x19 => (intro w' hSw; (try dsimp only at hSw); go_simp; (try with_reducible rfl))
       refine wpAnyH_take (i := 20) (oi := { dst := some 82, op := Op.move (Operand.tmp 81), type := 4, pos := _, after := #[{ on := 19, ground := Ground.data }, { on := 18, ground := Ground.chain }], guard := none }) (v := ?vr2x20) rfl (by kernel_rfl) (by kernel_rfl) (by kernel_rfl) (fun _ _ _ h => h) (Or.inl ⟨by rfl, ?yr2x20⟩) (by assumption) ?rr2x20
       case yr2x20 => (intro w' hSw; (try dsimp only at hSw); go_simp; (try with_reducible rfl))
       refine wpAnyH_take (i := 21) (oi := { dst := some 83, op := Op.move (Operand.tmp 15), type := 37, pos := _, after := #[{ on := 20, ground := Ground.guard }], guard := some (20, true) }) (v := undef) rfl (by kernel_rfl) (by kernel_rfl) (by kernel_rfl) (fun _ _ _ h => h) (Or.inr ⟨by rfl, rfl⟩) (by assumption) ?_
       (try simp only [Act.put, List.setIfInBounds_toArray, List.set_cons_zero, List.set_cons_succ])
       refine wpAnyH_take (i := 22) (oi := { dst := some 84, op := Op.move (Operand.tmp 18), type := 3, pos := _, after := #[{ on := 20, ground := Ground.guard }], guard := some (20, true) }) (v := undef) rfl (by kernel_rfl) (by kernel_rfl) (by kernel_rfl) (fun _ _ _ h => h) (Or.inr ⟨by rfl, rfl⟩) (by assumption) ?_
       refine wpAnyH_take (i := 23) (oi := { dst := some 85, op := Op.indexAddr 37 (Operand.tmp 83) (Operand.tmp 84), type := 0, pos := _, after := #[{ on := 21, ground := Ground.data }, { on := 22, ground := Ground.data }, { on := 20, ground := Ground.guard }], guard := some (20, true) }) (v := undef) rfl (by kernel_rfl) (by kernel_rfl) (by kernel_rfl) (fun _ _ _ h => h) (Or.inr ⟨by rfl, rfl⟩) (by assumption) ?_
       refine wpAnyH_take (i := 24) (oi := { dst := some 86, op := Op.load 3 (Operand.tmp 85), type := 3, pos := _, after := #[{ on := 23, ground := Ground.data }, { on := 20, ground := Ground.guard }], guard := some (20, true) }) (v := undef) rfl (by kernel_rfl) (by kernel_rfl) (by kernel_rfl) (fun _ _ _ h => h) (Or.inr ⟨by rfl, rfl⟩) (by assumption) ?_
       (try simp only [Act.put, List.setIfInBounds_toArray, List.set_cons_zero, List.set_cons_succ])
       refine wpAnyH_take (i := 25) (oi := { dst := some 87, op := Op.binOp BinOp.neq 3 (Operand.tmp 86) (Operand.const (Value.int IntKind.i64 0)) 3, type := 4, pos := _, after := #[{ on := 24, ground := Ground.data }, { on := 20, ground := Ground.guard }], guard := some (20, true) }) (v := undef) rfl (by kernel_rfl) (by kernel_rfl) (by kernel_rfl) (fun _ _ _ h => h) (Or.inr ⟨by rfl, rfl⟩) (by assumption) ?_
       refine wpAnyH_take (i := 26) (oi := { dst := some 88, op := Op.pick (Operand.tmp 82) (Operand.tmp 87) (Operand.const (Value.bool false)), type := 4, pos := _, after := #[{ on := 20, ground := Ground.data }, { on := 25, ground := Ground.data }], guard := none }) (v := ?vr2x21) rfl (by kernel_rfl) (by kernel_rfl) (by kernel_rfl) (fun _ _ _ h => h) (Or.inl ⟨by rfl, ?yr2x21⟩) (by assumption) ?rr2x21
       case yr2x21 => (intro w' hSw; (try dsimp only at hSw); go_simp; (try with_reducible rfl))
       (try simp only [Act.put, List.setIfInBounds_toArray, List.set_cons_zero, List.set_cons_succ])
       refine wpAnyH_done (by kernel_rfl) ?_ _
       have hS := (by assumption : Hid (Below wr.heap.size wr _) ∧ _)
       have HB9 := Lib.hid hS.1.out
       go_wp2_with fail
       go_meet
       exact ⟨by rw [HE.out], HB9⟩
      | true =>
       by_cases hz0 : z = 0
       · have HE : Hid (tk = false) := Lib.hid (by rw [← HTKB.out]; exact decide_eq_false (fun h => h.2.2 (HZ.out.1 hz0)))
         rw [hz0] at np
         clear hp1 hz0
         refine wp_region_held_drew (S := (fun W' => Hid (Below wr.heap.size wr W') ∧ W'.cell? ⟨b2, o2 + j * 6, none⟩ = some (.string x.par) ∧ W'.cell? ⟨b2, o2 + j * 6 + 1, none⟩ = some (.string x.prt) ∧ W'.cell? ⟨b2, o2 + j * 6 + 2, none⟩ = some (.int .i64 x.qty) ∧ W'.cell? ⟨b2, o2 + j * 6 + 3, none⟩ = some (.int .i64 x.fr) ∧ W'.cell? ⟨b2, o2 + j * 6 + 4, none⟩ = some (.int .i64 x.un) ∧ W'.cell? ⟨b2, o2 + j * 6 + 5, none⟩ = some (.slice sa5 x.whn.length sc5) ∧ W'.cell? ⟨bI, oI + p * 8, none⟩ = some (.string (codeAt l p)) ∧ W'.cell? ⟨w.heap.size, p, none⟩ = some (.int .i64 0))) (by kernel_rfl) (hold8 e0 e1 e2 e3 e4 e5 ci np (Below.refl _ _).drew) (fun hHeld => ?_)
         refine wpAnyH_take (i := 0) (oi := { dst := some 62, op := Op.move (Operand.tmp 1), type := 25, pos := _, after := #[], guard := none }) (v := ?vr3x1) rfl (by kernel_rfl) (by kernel_rfl) (by kernel_rfl) (fun _ _ _ h => h) (Or.inl ⟨by rfl, ?yr3x1⟩) (by assumption) ?rr3x1
         case yr3x1 => (intro w' hSw; (try dsimp only at hSw); go_simp; (try with_reducible rfl))
         refine wpAnyH_take (i := 1) (oi := { dst := some 63, op := Op.move (Operand.tmp 19), type := 3, pos := _, after := #[], guard := none }) (v := ?vr3x2) rfl (by kernel_rfl) (by kernel_rfl) (by kernel_rfl) (fun _ _ _ h => h) (Or.inl ⟨by rfl, ?yr3x2⟩) (by assumption) ?rr3x2
         case yr3x2 => (intro w' hSw; (try dsimp only at hSw); go_simp; (try with_reducible rfl))
         refine wpAnyH_take (i := 2) (oi := { dst := some 64, op := Op.indexAddr 25 (Operand.tmp 62) (Operand.tmp 63), type := 0, pos := _, after := #[{ on := 0, ground := Ground.data }, { on := 1, ground := Ground.data }], guard := none }) (v := ?vr3x3) rfl (by kernel_rfl) (by kernel_rfl) (by kernel_rfl) (fun _ _ _ h => h) (Or.inl ⟨by rfl, ?yr3x3⟩) (by assumption) ?rr3x3
         case yr3x3 => (intro w' hSw; (try dsimp only at hSw); go_simp; (try with_reducible rfl))
         (try simp only [Act.put, List.setIfInBounds_toArray, List.set_cons_zero, List.set_cons_succ])
         refine wpAnyH_take (i := 3) (oi := { dst := some 65, op := Op.fieldAddr 94 (Operand.tmp 64) 0, type := 0, pos := _, after := #[{ on := 2, ground := Ground.data }], guard := none }) (v := ?vr3x4) rfl (by kernel_rfl) (by kernel_rfl) (by kernel_rfl) (fun _ _ _ h => h) (Or.inl ⟨by rfl, ?yr3x4⟩) (by assumption) ?rr3x4
         case yr3x4 => (intro w' hSw; (try dsimp only at hSw); go_simp; (try with_reducible rfl))
         refine wpAnyH_take (i := 4) (oi := { dst := some 66, op := Op.load 9 (Operand.tmp 65), type := 9, pos := _, after := #[{ on := 3, ground := Ground.data }], guard := none }) (v := ?vr3x5) rfl (by kernel_rfl) (by kernel_rfl) (by kernel_rfl) (fun _ _ _ h => h) (Or.inl ⟨by rfl, ?yr3x5⟩) (by assumption) ?rr3x5
         case yr3x5 => (intro w' hSw; (try dsimp only at hSw); go_simp; (try with_reducible rfl))
         refine wpAnyH_take (i := 5) (oi := { dst := some 67, op := Op.move (Operand.tmp 0), type := 24, pos := _, after := #[], guard := none }) (v := ?vr3x6) rfl (by kernel_rfl) (by kernel_rfl) (by kernel_rfl) (fun _ _ _ h => h) (Or.inl ⟨by rfl, ?yr3x6⟩) (by assumption) ?rr3x6
         case yr3x6 => (intro w' hSw; (try dsimp only at hSw); go_simp; (try with_reducible rfl))
         (try simp only [Act.put, List.setIfInBounds_toArray, List.set_cons_zero, List.set_cons_succ])
         refine wpAnyH_take (i := 6) (oi := { dst := some 68, op := Op.move (Operand.tmp 18), type := 3, pos := _, after := #[], guard := none }) (v := ?vr3x7) rfl (by kernel_rfl) (by kernel_rfl) (by kernel_rfl) (fun _ _ _ h => h) (Or.inl ⟨by rfl, ?yr3x7⟩) (by assumption) ?rr3x7
         case yr3x7 => (intro w' hSw; (try dsimp only at hSw); go_simp; (try with_reducible rfl))
         refine wpAnyH_take (i := 7) (oi := { dst := some 69, op := Op.indexAddr 24 (Operand.tmp 67) (Operand.tmp 68), type := 0, pos := _, after := #[{ on := 5, ground := Ground.data }, { on := 6, ground := Ground.data }], guard := none }) (v := ?vr3x8) rfl (by kernel_rfl) (by kernel_rfl) (by kernel_rfl) (fun _ _ _ h => h) (Or.inl ⟨by rfl, ?yr3x8⟩) (by assumption) ?rr3x8
         case yr3x8 => (intro w' hSw; (try dsimp only at hSw); go_simp; (try with_reducible rfl))
         refine wpAnyH_take (i := 8) (oi := { dst := some 70, op := Op.fieldAddr 33 (Operand.tmp 69) 0, type := 0, pos := _, after := #[{ on := 7, ground := Ground.data }], guard := none }) (v := ?vr3x9) rfl (by kernel_rfl) (by kernel_rfl) (by kernel_rfl) (fun _ _ _ h => h) (Or.inl ⟨by rfl, ?yr3x9⟩) (by assumption) ?rr3x9
         case yr3x9 => (intro w' hSw; (try dsimp only at hSw); go_simp; (try with_reducible rfl))
         (try simp only [Act.put, List.setIfInBounds_toArray, List.set_cons_zero, List.set_cons_succ])
         refine wpAnyH_take (i := 9) (oi := { dst := some 71, op := Op.load 9 (Operand.tmp 70), type := 9, pos := _, after := #[{ on := 8, ground := Ground.data }], guard := none }) (v := ?vr3x10) rfl (by kernel_rfl) (by kernel_rfl) (by kernel_rfl) (fun _ _ _ h => h) (Or.inl ⟨by rfl, ?yr3x10⟩) (by assumption) ?rr3x10
         case yr3x10 => (intro w' hSw; (try dsimp only at hSw); go_simp; (try with_reducible rfl))
         refine wpAnyH_take (i := 10) (oi := { dst := some 72, op := Op.binOp BinOp.eql 9 (Operand.tmp 66) (Operand.tmp 71) 9, type := 4, pos := _, after := #[{ on := 4, ground := Ground.data }, { on := 9, ground := Ground.data }], guard := none }) (v := ?vr3x11) rfl (by kernel_rfl) (by kernel_rfl) (by kernel_rfl) (fun _ _ _ h => h) (Or.inl ⟨by rfl, ?yr3x11⟩) (by assumption) ?rr3x11
         case yr3x11 => (intro w' hSw; (try dsimp only at hSw); go_simp; (try with_reducible rfl))
         refine wpAnyH_take (i := 11) (oi := { dst := some 73, op := Op.move (Operand.tmp 72), type := 4, pos := _, after := #[{ on := 10, ground := Ground.data }], guard := none }) (v := ?vr3x12) rfl (by kernel_rfl) (by kernel_rfl) (by kernel_rfl) (fun _ _ _ h => h) (Or.inl ⟨by rfl, ?yr3x12⟩) (by assumption) ?rr3x12
         case yr3x12 => (intro w' hSw; (try dsimp only at hSw); go_simp; (try with_reducible rfl))
         (try simp only [Act.put, List.setIfInBounds_toArray, List.set_cons_zero, List.set_cons_succ])
         refine wpAnyH_take (i := 12) (oi := { dst := some 74, op := Op.move (Operand.tmp 1), type := 25, pos := _, after := #[{ on := 11, ground := Ground.guard }], guard := some (11, true) }) (v := ?vr3x13) rfl (by kernel_rfl) (by kernel_rfl) (by kernel_rfl) (fun _ _ _ h => h) (Or.inl ⟨by rfl, ?yr3x13⟩) (by assumption) ?rr3x13
         case yr3x13 => (intro w' hSw; (try dsimp only at hSw); go_simp; (try with_reducible rfl))
         refine wpAnyH_take (i := 13) (oi := { dst := some 75, op := Op.move (Operand.tmp 19), type := 3, pos := _, after := #[{ on := 11, ground := Ground.guard }], guard := some (11, true) }) (v := ?vr3x14) rfl (by kernel_rfl) (by kernel_rfl) (by kernel_rfl) (fun _ _ _ h => h) (Or.inl ⟨by rfl, ?yr3x14⟩) (by assumption) ?rr3x14
         case yr3x14 => (intro w' hSw; (try dsimp only at hSw); go_simp; (try with_reducible rfl))
         refine wpAnyH_take (i := 14) (oi := { dst := some 76, op := Op.indexAddr 25 (Operand.tmp 74) (Operand.tmp 75), type := 0, pos := _, after := #[{ on := 12, ground := Ground.data }, { on := 13, ground := Ground.data }, { on := 11, ground := Ground.guard }], guard := some (11, true) }) (v := ?vr3x15) rfl (by kernel_rfl) (by kernel_rfl) (by kernel_rfl) (fun _ _ _ h => h) (Or.inl ⟨by rfl, ?yr3x15⟩) (by assumption) ?rr3x15
         case yr3x15 => (intro w' hSw; (try dsimp only at hSw); go_simp; (try with_reducible rfl))
         (try simp only [Act.put, List.setIfInBounds_toArray, List.set_cons_zero, List.set_cons_succ])
         refine wpAnyH_take (i := 15) (oi := { dst := some 77, op := Op.load 94 (Operand.tmp 76), type := 94, pos := _, after := #[{ on := 14, ground := Ground.data }, { on := 11, ground := Ground.guard }], guard := some (11, true) }) (v := ?vr3x16) rfl (by kernel_rfl) (by kernel_rfl) (by kernel_rfl) (fun _ _ _ h => h) (Or.inl ⟨by rfl, ?yr3x16⟩) (by assumption) ?rr3x16
         case yr3x16 => (intro w' hSw; (try dsimp only at hSw); go_simp; (try with_reducible rfl))
         refine wpAnyH_take (i := 16) (oi := { dst := some 78, op := Op.move (Operand.tmp 4), type := 3, pos := _, after := #[{ on := 11, ground := Ground.guard }], guard := some (11, true) }) (v := ?vr3x17) rfl (by kernel_rfl) (by kernel_rfl) (by kernel_rfl) (fun _ _ _ h => h) (Or.inl ⟨by rfl, ?yr3x17⟩) (by assumption) ?rr3x17
         case yr3x17 => (intro w' hSw; (try dsimp only at hSw); go_simp; (try with_reducible rfl))
         refine wpAnyH_take (i := 17) (oi := { dst := some 79, op := Op.move (Operand.tmp 5), type := 26, pos := _, after := #[{ on := 11, ground := Ground.guard }], guard := some (11, true) }) (v := ?vr3x18) rfl (by kernel_rfl) (by kernel_rfl) (by kernel_rfl) (fun _ _ _ h => h) (Or.inl ⟨by rfl, ?yr3x18⟩) (by assumption) ?rr3x18
         case yr3x18 => (intro w' hSw; (try dsimp only at hSw); go_simp; (try with_reducible rfl))
         (try simp only [Act.put, List.setIfInBounds_toArray, List.set_cons_zero, List.set_cons_succ])
         refine wpAnyH_ready (rs := [18]) (by kernel_rfl) (by simp) ?_
         refine AllReadyH.cons (o := { dst := some 80, op := Op.call { callee := Callee.value (Operand.func 62), args := #[Operand.tmp 77, Operand.tmp 78, Operand.tmp 79], argTypes := #[94, 3, 26] }, type := 4, pos := _, after := #[{ on := 15, ground := Ground.data }, { on := 16, ground := Ground.data }, { on := 17, ground := Ground.data }, { on := 11, ground := Ground.chain }, { on := 11, ground := Ground.guard }], guard := some (11, true) }) rfl (fun K hK => ?_) AllReadyH.nil
         go_simp
         refine (HON.out _ (by first | exact (by assumption : Hid (Below wr.heap.size wr _) ∧ _).1.out | exact Below.refl _ _ | exact (Below.refl _ _).drew)).mono ?_; rintro e w' ⟨rfl, hb⟩; have hb2 : Below _ _ w' := hb
         (try go_wp2_with fail)
         refine hK.out _ _ ?_ (fun hHeld => ?_)
         · (try dsimp only); first | assumption | exact hold8 e0 e1 e2 e3 e4 e5 ci np (hold_call (by assumption) (by assumption))
         clear hK K
         (try simp only [Act.put, List.setIfInBounds_toArray, List.set_cons_zero, List.set_cons_succ])
         refine wpAnyH_take (i := 19) (oi := { dst := some 81, op := Op.pick (Operand.tmp 73) (Operand.tmp 80) (Operand.const (Value.bool false)), type := 4, pos := _, after := #[{ on := 11, ground := Ground.data }, { on := 18, ground := Ground.data }], guard := none }) (v := ?vr3x19) rfl (by kernel_rfl) (by kernel_rfl) (by kernel_rfl) (fun _ _ _ h => h) (Or.inl ⟨by rfl, ?yr3x19⟩) (by assumption) ?rr3x19
         case yr3x19 => (intro w' hSw; (try dsimp only at hSw); go_simp; (try with_reducible rfl))
         refine wpAnyH_take (i := 20) (oi := { dst := some 82, op := Op.move (Operand.tmp 81), type := 4, pos := _, after := #[{ on := 19, ground := Ground.data }, { on := 18, ground := Ground.chain }], guard := none }) (v := ?vr3x20) rfl (by kernel_rfl) (by kernel_rfl) (by kernel_rfl) (fun _ _ _ h => h) (Or.inl ⟨by rfl, ?yr3x20⟩) (by assumption) ?rr3x20
         case yr3x20 => (intro w' hSw; (try dsimp only at hSw); go_simp; (try with_reducible rfl))
         refine wpAnyH_take (i := 21) (oi := { dst := some 83, op := Op.move (Operand.tmp 15), type := 37, pos := _, after := #[{ on := 20, ground := Ground.guard }], guard := some (20, true) }) (v := ?vr3x21) rfl (by kernel_rfl) (by kernel_rfl) (by kernel_rfl) (fun _ _ _ h => h) (Or.inl ⟨by rfl, ?yr3x21⟩) (by assumption) ?rr3x21
         case yr3x21 => (intro w' hSw; (try dsimp only at hSw); go_simp; (try with_reducible rfl))
         (try simp only [Act.put, List.setIfInBounds_toArray, List.set_cons_zero, List.set_cons_succ])
         refine wpAnyH_take (i := 22) (oi := { dst := some 84, op := Op.move (Operand.tmp 18), type := 3, pos := _, after := #[{ on := 20, ground := Ground.guard }], guard := some (20, true) }) (v := ?vr3x22) rfl (by kernel_rfl) (by kernel_rfl) (by kernel_rfl) (fun _ _ _ h => h) (Or.inl ⟨by rfl, ?yr3x22⟩) (by assumption) ?rr3x22
         case yr3x22 => (intro w' hSw; (try dsimp only at hSw); go_simp; (try with_reducible rfl))
         refine wpAnyH_take (i := 23) (oi := { dst := some 85, op := Op.indexAddr 37 (Operand.tmp 83) (Operand.tmp 84), type := 0, pos := _, after := #[{ on := 21, ground := Ground.data }, { on := 22, ground := Ground.data }, { on := 20, ground := Ground.guard }], guard := some (20, true) }) (v := ?vr3x23) rfl (by kernel_rfl) (by kernel_rfl) (by kernel_rfl) (fun _ _ _ h => h) (Or.inl ⟨by rfl, ?yr3x23⟩) (by assumption) ?rr3x23
         case yr3x23 => (intro w' hSw; (try dsimp only at hSw); go_simp; (try with_reducible rfl))
         refine wpAnyH_take (i := 24) (oi := { dst := some 86, op := Op.load 3 (Operand.tmp 85), type := 3, pos := _, after := #[{ on := 23, ground := Ground.data }, { on := 20, ground := Ground.guard }], guard := some (20, true) }) (v := ?vr3x24) rfl (by kernel_rfl) (by kernel_rfl) (by kernel_rfl) (fun _ _ _ h => h) (Or.inl ⟨by rfl, ?yr3x24⟩) (by assumption) ?rr3x24
         case yr3x24 => (intro w' hSw; (try dsimp only at hSw); go_simp; (try with_reducible rfl))
         (try simp only [Act.put, List.setIfInBounds_toArray, List.set_cons_zero, List.set_cons_succ])
         refine wpAnyH_take (i := 25) (oi := { dst := some 87, op := Op.binOp BinOp.neq 3 (Operand.tmp 86) (Operand.const (Value.int IntKind.i64 0)) 3, type := 4, pos := _, after := #[{ on := 24, ground := Ground.data }, { on := 20, ground := Ground.guard }], guard := some (20, true) }) (v := ?vr3x25) rfl (by kernel_rfl) (by kernel_rfl) (by kernel_rfl) (fun _ _ _ h => h) (Or.inl ⟨by rfl, ?yr3x25⟩) (by assumption) ?rr3x25
         case yr3x25 => (intro w' hSw; (try dsimp only at hSw); go_simp; (try with_reducible rfl))
         refine wpAnyH_take (i := 26) (oi := { dst := some 88, op := Op.pick (Operand.tmp 82) (Operand.tmp 87) (Operand.const (Value.bool false)), type := 4, pos := _, after := #[{ on := 20, ground := Ground.data }, { on := 25, ground := Ground.data }], guard := none }) (v := ?vr3x26) rfl (by kernel_rfl) (by kernel_rfl) (by kernel_rfl) (fun _ _ _ h => h) (Or.inl ⟨by rfl, ?yr3x26⟩) (by assumption) ?rr3x26
         case yr3x26 => (intro w' hSw; (try dsimp only at hSw); go_simp; (try with_reducible rfl))
         (try simp only [Act.put, List.setIfInBounds_toArray, List.set_cons_zero, List.set_cons_succ])
         refine wpAnyH_done (by kernel_rfl) ?_ _
         have hS := (by assumption : Hid (Below wr.heap.size wr _) ∧ _)
         have HB9 := Lib.hid hS.1.out
         go_wp2_with fail
         go_meet
         exact ⟨by rw [HE.out], HB9⟩
       · have HE : Hid (tk = true) := Lib.hid (by rw [← HTKB.out]; exact decide_eq_true ⟨hp1, rfl, fun h => hz0 (HZ.out.2 h)⟩)
         have hzb : (z == 0) = false := beq_eq_false_iff_ne.2 hz0
         have hzn : (z != 0) = true := by rw [bne, hzb]; rfl
         clear hp1
         refine wp_region_held_drew (S := (fun W' => Hid (Below wr.heap.size wr W') ∧ W'.cell? ⟨b2, o2 + j * 6, none⟩ = some (.string x.par) ∧ W'.cell? ⟨b2, o2 + j * 6 + 1, none⟩ = some (.string x.prt) ∧ W'.cell? ⟨b2, o2 + j * 6 + 2, none⟩ = some (.int .i64 x.qty) ∧ W'.cell? ⟨b2, o2 + j * 6 + 3, none⟩ = some (.int .i64 x.fr) ∧ W'.cell? ⟨b2, o2 + j * 6 + 4, none⟩ = some (.int .i64 x.un) ∧ W'.cell? ⟨b2, o2 + j * 6 + 5, none⟩ = some (.slice sa5 x.whn.length sc5) ∧ W'.cell? ⟨bI, oI + p * 8, none⟩ = some (.string (codeAt l p)) ∧ W'.cell? ⟨w.heap.size, p, none⟩ = some (.int .i64 z))) (by kernel_rfl) (hold8 e0 e1 e2 e3 e4 e5 ci np (Below.refl _ _).drew) (fun hHeld => ?_)
         refine wpAnyH_take (i := 0) (oi := { dst := some 62, op := Op.move (Operand.tmp 1), type := 25, pos := _, after := #[], guard := none }) (v := ?vr4x1) rfl (by kernel_rfl) (by kernel_rfl) (by kernel_rfl) (fun _ _ _ h => h) (Or.inl ⟨by rfl, ?yr4x1⟩) (by assumption) ?rr4x1
         case yr4x1 => (intro w' hSw; (try dsimp only at hSw); go_simp; (try with_reducible rfl))
         refine wpAnyH_take (i := 1) (oi := { dst := some 63, op := Op.move (Operand.tmp 19), type := 3, pos := _, after := #[], guard := none }) (v := ?vr4x2) rfl (by kernel_rfl) (by kernel_rfl) (by kernel_rfl) (fun _ _ _ h => h) (Or.inl ⟨by rfl, ?yr4x2⟩) (by assumption) ?rr4x2
         case yr4x2 => (intro w' hSw; (try dsimp only at hSw); go_simp; (try with_reducible rfl))
         refine wpAnyH_take (i := 2) (oi := { dst := some 64, op := Op.indexAddr 25 (Operand.tmp 62) (Operand.tmp 63), type := 0, pos := _, after := #[{ on := 0, ground := Ground.data }, { on := 1, ground := Ground.data }], guard := none }) (v := ?vr4x3) rfl (by kernel_rfl) (by kernel_rfl) (by kernel_rfl) (fun _ _ _ h => h) (Or.inl ⟨by rfl, ?yr4x3⟩) (by assumption) ?rr4x3
         case yr4x3 => (intro w' hSw; (try dsimp only at hSw); go_simp; (try with_reducible rfl))
         (try simp only [Act.put, List.setIfInBounds_toArray, List.set_cons_zero, List.set_cons_succ])
         refine wpAnyH_take (i := 3) (oi := { dst := some 65, op := Op.fieldAddr 94 (Operand.tmp 64) 0, type := 0, pos := _, after := #[{ on := 2, ground := Ground.data }], guard := none }) (v := ?vr4x4) rfl (by kernel_rfl) (by kernel_rfl) (by kernel_rfl) (fun _ _ _ h => h) (Or.inl ⟨by rfl, ?yr4x4⟩) (by assumption) ?rr4x4
         case yr4x4 => (intro w' hSw; (try dsimp only at hSw); go_simp; (try with_reducible rfl))
         refine wpAnyH_take (i := 4) (oi := { dst := some 66, op := Op.load 9 (Operand.tmp 65), type := 9, pos := _, after := #[{ on := 3, ground := Ground.data }], guard := none }) (v := ?vr4x5) rfl (by kernel_rfl) (by kernel_rfl) (by kernel_rfl) (fun _ _ _ h => h) (Or.inl ⟨by rfl, ?yr4x5⟩) (by assumption) ?rr4x5
         case yr4x5 => (intro w' hSw; (try dsimp only at hSw); go_simp; (try with_reducible rfl))
         refine wpAnyH_take (i := 5) (oi := { dst := some 67, op := Op.move (Operand.tmp 0), type := 24, pos := _, after := #[], guard := none }) (v := ?vr4x6) rfl (by kernel_rfl) (by kernel_rfl) (by kernel_rfl) (fun _ _ _ h => h) (Or.inl ⟨by rfl, ?yr4x6⟩) (by assumption) ?rr4x6
         case yr4x6 => (intro w' hSw; (try dsimp only at hSw); go_simp; (try with_reducible rfl))
         (try simp only [Act.put, List.setIfInBounds_toArray, List.set_cons_zero, List.set_cons_succ])
         refine wpAnyH_take (i := 6) (oi := { dst := some 68, op := Op.move (Operand.tmp 18), type := 3, pos := _, after := #[], guard := none }) (v := ?vr4x7) rfl (by kernel_rfl) (by kernel_rfl) (by kernel_rfl) (fun _ _ _ h => h) (Or.inl ⟨by rfl, ?yr4x7⟩) (by assumption) ?rr4x7
         case yr4x7 => (intro w' hSw; (try dsimp only at hSw); go_simp; (try with_reducible rfl))
         refine wpAnyH_take (i := 7) (oi := { dst := some 69, op := Op.indexAddr 24 (Operand.tmp 67) (Operand.tmp 68), type := 0, pos := _, after := #[{ on := 5, ground := Ground.data }, { on := 6, ground := Ground.data }], guard := none }) (v := ?vr4x8) rfl (by kernel_rfl) (by kernel_rfl) (by kernel_rfl) (fun _ _ _ h => h) (Or.inl ⟨by rfl, ?yr4x8⟩) (by assumption) ?rr4x8
         case yr4x8 => (intro w' hSw; (try dsimp only at hSw); go_simp; (try with_reducible rfl))
         refine wpAnyH_take (i := 8) (oi := { dst := some 70, op := Op.fieldAddr 33 (Operand.tmp 69) 0, type := 0, pos := _, after := #[{ on := 7, ground := Ground.data }], guard := none }) (v := ?vr4x9) rfl (by kernel_rfl) (by kernel_rfl) (by kernel_rfl) (fun _ _ _ h => h) (Or.inl ⟨by rfl, ?yr4x9⟩) (by assumption) ?rr4x9
         case yr4x9 => (intro w' hSw; (try dsimp only at hSw); go_simp; (try with_reducible rfl))
         (try simp only [Act.put, List.setIfInBounds_toArray, List.set_cons_zero, List.set_cons_succ])
         refine wpAnyH_take (i := 9) (oi := { dst := some 71, op := Op.load 9 (Operand.tmp 70), type := 9, pos := _, after := #[{ on := 8, ground := Ground.data }], guard := none }) (v := ?vr4x10) rfl (by kernel_rfl) (by kernel_rfl) (by kernel_rfl) (fun _ _ _ h => h) (Or.inl ⟨by rfl, ?yr4x10⟩) (by assumption) ?rr4x10
         case yr4x10 => (intro w' hSw; (try dsimp only at hSw); go_simp; (try with_reducible rfl))
         refine wpAnyH_take (i := 10) (oi := { dst := some 72, op := Op.binOp BinOp.eql 9 (Operand.tmp 66) (Operand.tmp 71) 9, type := 4, pos := _, after := #[{ on := 4, ground := Ground.data }, { on := 9, ground := Ground.data }], guard := none }) (v := ?vr4x11) rfl (by kernel_rfl) (by kernel_rfl) (by kernel_rfl) (fun _ _ _ h => h) (Or.inl ⟨by rfl, ?yr4x11⟩) (by assumption) ?rr4x11
         case yr4x11 => (intro w' hSw; (try dsimp only at hSw); go_simp; (try with_reducible rfl))
         refine wpAnyH_take (i := 11) (oi := { dst := some 73, op := Op.move (Operand.tmp 72), type := 4, pos := _, after := #[{ on := 10, ground := Ground.data }], guard := none }) (v := ?vr4x12) rfl (by kernel_rfl) (by kernel_rfl) (by kernel_rfl) (fun _ _ _ h => h) (Or.inl ⟨by rfl, ?yr4x12⟩) (by assumption) ?rr4x12
         case yr4x12 => (intro w' hSw; (try dsimp only at hSw); go_simp; (try with_reducible rfl))
         (try simp only [Act.put, List.setIfInBounds_toArray, List.set_cons_zero, List.set_cons_succ])
         refine wpAnyH_take (i := 12) (oi := { dst := some 74, op := Op.move (Operand.tmp 1), type := 25, pos := _, after := #[{ on := 11, ground := Ground.guard }], guard := some (11, true) }) (v := ?vr4x13) rfl (by kernel_rfl) (by kernel_rfl) (by kernel_rfl) (fun _ _ _ h => h) (Or.inl ⟨by rfl, ?yr4x13⟩) (by assumption) ?rr4x13
         case yr4x13 => (intro w' hSw; (try dsimp only at hSw); go_simp; (try with_reducible rfl))
         refine wpAnyH_take (i := 13) (oi := { dst := some 75, op := Op.move (Operand.tmp 19), type := 3, pos := _, after := #[{ on := 11, ground := Ground.guard }], guard := some (11, true) }) (v := ?vr4x14) rfl (by kernel_rfl) (by kernel_rfl) (by kernel_rfl) (fun _ _ _ h => h) (Or.inl ⟨by rfl, ?yr4x14⟩) (by assumption) ?rr4x14
         case yr4x14 => (intro w' hSw; (try dsimp only at hSw); go_simp; (try with_reducible rfl))
         refine wpAnyH_take (i := 14) (oi := { dst := some 76, op := Op.indexAddr 25 (Operand.tmp 74) (Operand.tmp 75), type := 0, pos := _, after := #[{ on := 12, ground := Ground.data }, { on := 13, ground := Ground.data }, { on := 11, ground := Ground.guard }], guard := some (11, true) }) (v := ?vr4x15) rfl (by kernel_rfl) (by kernel_rfl) (by kernel_rfl) (fun _ _ _ h => h) (Or.inl ⟨by rfl, ?yr4x15⟩) (by assumption) ?rr4x15
         case yr4x15 => (intro w' hSw; (try dsimp only at hSw); go_simp; (try with_reducible rfl))
         (try simp only [Act.put, List.setIfInBounds_toArray, List.set_cons_zero, List.set_cons_succ])
         refine wpAnyH_take (i := 15) (oi := { dst := some 77, op := Op.load 94 (Operand.tmp 76), type := 94, pos := _, after := #[{ on := 14, ground := Ground.data }, { on := 11, ground := Ground.guard }], guard := some (11, true) }) (v := ?vr4x16) rfl (by kernel_rfl) (by kernel_rfl) (by kernel_rfl) (fun _ _ _ h => h) (Or.inl ⟨by rfl, ?yr4x16⟩) (by assumption) ?rr4x16
         case yr4x16 => (intro w' hSw; (try dsimp only at hSw); go_simp; (try with_reducible rfl))
         refine wpAnyH_take (i := 16) (oi := { dst := some 78, op := Op.move (Operand.tmp 4), type := 3, pos := _, after := #[{ on := 11, ground := Ground.guard }], guard := some (11, true) }) (v := ?vr4x17) rfl (by kernel_rfl) (by kernel_rfl) (by kernel_rfl) (fun _ _ _ h => h) (Or.inl ⟨by rfl, ?yr4x17⟩) (by assumption) ?rr4x17
         case yr4x17 => (intro w' hSw; (try dsimp only at hSw); go_simp; (try with_reducible rfl))
         refine wpAnyH_take (i := 17) (oi := { dst := some 79, op := Op.move (Operand.tmp 5), type := 26, pos := _, after := #[{ on := 11, ground := Ground.guard }], guard := some (11, true) }) (v := ?vr4x18) rfl (by kernel_rfl) (by kernel_rfl) (by kernel_rfl) (fun _ _ _ h => h) (Or.inl ⟨by rfl, ?yr4x18⟩) (by assumption) ?rr4x18
         case yr4x18 => (intro w' hSw; (try dsimp only at hSw); go_simp; (try with_reducible rfl))
         (try simp only [Act.put, List.setIfInBounds_toArray, List.set_cons_zero, List.set_cons_succ])
         refine wpAnyH_ready (rs := [18]) (by kernel_rfl) (by simp) ?_
         refine AllReadyH.cons (o := { dst := some 80, op := Op.call { callee := Callee.value (Operand.func 62), args := #[Operand.tmp 77, Operand.tmp 78, Operand.tmp 79], argTypes := #[94, 3, 26] }, type := 4, pos := _, after := #[{ on := 15, ground := Ground.data }, { on := 16, ground := Ground.data }, { on := 17, ground := Ground.data }, { on := 11, ground := Ground.chain }, { on := 11, ground := Ground.guard }], guard := some (11, true) }) rfl (fun K hK => ?_) AllReadyH.nil
         go_simp
         refine (HON.out _ (by first | exact (by assumption : Hid (Below wr.heap.size wr _) ∧ _).1.out | exact Below.refl _ _ | exact (Below.refl _ _).drew)).mono ?_; rintro e w' ⟨rfl, hb⟩; have hb2 : Below _ _ w' := hb
         (try go_wp2_with fail)
         refine hK.out _ _ ?_ (fun hHeld => ?_)
         · (try dsimp only); first | assumption | exact hold8 e0 e1 e2 e3 e4 e5 ci np (hold_call (by assumption) (by assumption))
         clear hK K
         (try simp only [Act.put, List.setIfInBounds_toArray, List.set_cons_zero, List.set_cons_succ])
         refine wpAnyH_take (i := 19) (oi := { dst := some 81, op := Op.pick (Operand.tmp 73) (Operand.tmp 80) (Operand.const (Value.bool false)), type := 4, pos := _, after := #[{ on := 11, ground := Ground.data }, { on := 18, ground := Ground.data }], guard := none }) (v := ?vr4x19) rfl (by kernel_rfl) (by kernel_rfl) (by kernel_rfl) (fun _ _ _ h => h) (Or.inl ⟨by rfl, ?yr4x19⟩) (by assumption) ?rr4x19
         case yr4x19 => (intro w' hSw; (try dsimp only at hSw); go_simp; (try with_reducible rfl))
         refine wpAnyH_take (i := 20) (oi := { dst := some 82, op := Op.move (Operand.tmp 81), type := 4, pos := _, after := #[{ on := 19, ground := Ground.data }, { on := 18, ground := Ground.chain }], guard := none }) (v := ?vr4x20) rfl (by kernel_rfl) (by kernel_rfl) (by kernel_rfl) (fun _ _ _ h => h) (Or.inl ⟨by rfl, ?yr4x20⟩) (by assumption) ?rr4x20
         case yr4x20 => (intro w' hSw; (try dsimp only at hSw); go_simp; (try with_reducible rfl))
         refine wpAnyH_take (i := 21) (oi := { dst := some 83, op := Op.move (Operand.tmp 15), type := 37, pos := _, after := #[{ on := 20, ground := Ground.guard }], guard := some (20, true) }) (v := ?vr4x21) rfl (by kernel_rfl) (by kernel_rfl) (by kernel_rfl) (fun _ _ _ h => h) (Or.inl ⟨by rfl, ?yr4x21⟩) (by assumption) ?rr4x21
         case yr4x21 => (intro w' hSw; (try dsimp only at hSw); go_simp; (try with_reducible rfl))
         (try simp only [Act.put, List.setIfInBounds_toArray, List.set_cons_zero, List.set_cons_succ])
         refine wpAnyH_take (i := 22) (oi := { dst := some 84, op := Op.move (Operand.tmp 18), type := 3, pos := _, after := #[{ on := 20, ground := Ground.guard }], guard := some (20, true) }) (v := ?vr4x22) rfl (by kernel_rfl) (by kernel_rfl) (by kernel_rfl) (fun _ _ _ h => h) (Or.inl ⟨by rfl, ?yr4x22⟩) (by assumption) ?rr4x22
         case yr4x22 => (intro w' hSw; (try dsimp only at hSw); go_simp; (try with_reducible rfl))
         refine wpAnyH_take (i := 23) (oi := { dst := some 85, op := Op.indexAddr 37 (Operand.tmp 83) (Operand.tmp 84), type := 0, pos := _, after := #[{ on := 21, ground := Ground.data }, { on := 22, ground := Ground.data }, { on := 20, ground := Ground.guard }], guard := some (20, true) }) (v := ?vr4x23) rfl (by kernel_rfl) (by kernel_rfl) (by kernel_rfl) (fun _ _ _ h => h) (Or.inl ⟨by rfl, ?yr4x23⟩) (by assumption) ?rr4x23
         case yr4x23 => (intro w' hSw; (try dsimp only at hSw); go_simp; (try with_reducible rfl))
         refine wpAnyH_take (i := 24) (oi := { dst := some 86, op := Op.load 3 (Operand.tmp 85), type := 3, pos := _, after := #[{ on := 23, ground := Ground.data }, { on := 20, ground := Ground.guard }], guard := some (20, true) }) (v := ?vr4x24) rfl (by kernel_rfl) (by kernel_rfl) (by kernel_rfl) (fun _ _ _ h => h) (Or.inl ⟨by rfl, ?yr4x24⟩) (by assumption) ?rr4x24
         case yr4x24 => (intro w' hSw; (try dsimp only at hSw); go_simp; (try with_reducible rfl))
         (try simp only [Act.put, List.setIfInBounds_toArray, List.set_cons_zero, List.set_cons_succ])
         refine wpAnyH_take (i := 25) (oi := { dst := some 87, op := Op.binOp BinOp.neq 3 (Operand.tmp 86) (Operand.const (Value.int IntKind.i64 0)) 3, type := 4, pos := _, after := #[{ on := 24, ground := Ground.data }, { on := 20, ground := Ground.guard }], guard := some (20, true) }) (v := ?vr4x25) rfl (by kernel_rfl) (by kernel_rfl) (by kernel_rfl) (fun _ _ _ h => h) (Or.inl ⟨by rfl, ?yr4x25⟩) (by assumption) ?rr4x25
         case yr4x25 => (intro w' hSw; (try dsimp only at hSw); go_simp; (try with_reducible rfl))
         refine wpAnyH_take (i := 26) (oi := { dst := some 88, op := Op.pick (Operand.tmp 82) (Operand.tmp 87) (Operand.const (Value.bool false)), type := 4, pos := _, after := #[{ on := 20, ground := Ground.data }, { on := 25, ground := Ground.data }], guard := none }) (v := ?vr4x26) rfl (by kernel_rfl) (by kernel_rfl) (by kernel_rfl) (fun _ _ _ h => h) (Or.inl ⟨by rfl, ?yr4x26⟩) (by assumption) ?rr4x26
         case yr4x26 => (intro w' hSw; (try dsimp only at hSw); go_simp; (try with_reducible rfl))
         (try simp only [Act.put, List.setIfInBounds_toArray, List.set_cons_zero, List.set_cons_succ])
         refine wpAnyH_done (by kernel_rfl) ?_ _
         have hS := (by assumption : Hid (Below wr.heap.size wr _) ∧ _)
         have HB9 := Lib.hid hS.1.out
         go_wp2_with fail
         go_meet
         exact ⟨by rw [HE.out], HB9⟩
     case rest =>
      obtain ⟨rfl, HB9⟩ := hcut
      have HN9 := Lib.hid (own_keepL HN.out HB9.out)
      have HO9 := Lib.hid (own_keepL HOO.out HB9.out)
      have HBW9 := Lib.hid (HBr.out.trans (HB9.out.mono HBr.out.size))
      clear HN HOO HBr HON np ci e0 e1 e2 e3 e4 e5
      cases tk with
      | false =>
       have HE : Hid (innS l day ps p (xs.take (j + 1)) S = S1) := Lib.hid (by rw [HTK.out]; exact stepS_skip (fun h => of_decide_eq_false HTKB.out ⟨h.1, by rw [← HY.out]; exact h.2.1, h.2.2⟩))
       go_wp2_with fail
       go_roundw
       case rel => exact ⟨j + 1, HJL.out, by go_num, by rw [HE.out]; exact HN9, HO9, HBW9⟩
       case measure => have := HJL.out; simp [intOf]; omega
      | true =>
       have htt := of_decide_eq_true HTKB.out
       have HE : Hid (innS l day ps p (xs.take (j + 1)) S = S1.set (fiI l x.prt).toNat (lv S1 (fiI l x.prt).toNat + lv S1 p * x.qty.toNat)) := Lib.hid (by rw [HTK.out]; exact stepS_add ⟨htt.1, by rw [HY.out]; exact htt.2.1, htt.2.2⟩)
       have hne : (fiI l x.prt).toNat ≠ p := fun e => by
        have h1 := HPI.out htt.1
        rw [h1, e] at hlvx
        omega
       have e1 : wc.cell? ⟨b2, o2 + j * 6 + 1, none⟩ = some (.string x.prt) := (HBW9.out.cell (p := ⟨b2, o2 + j * 6 + 1, none⟩) HB2.out).trans (HC.out 1 (by omega))
       have e2 : wc.drew.cell? ⟨b2, o2 + j * 6 + 2, none⟩ = some (.int .i64 x.qty) := (HBW9.out.cell (p := ⟨b2, o2 + j * 6 + 2, none⟩) HB2.out).trans (HC.out 2 (by omega))
       have HFI := Lib.hid (spec_findItem _ l x.prt wc (HI.out.below HBW9.out) (by unfold maxLen; omega))
       rw [hbf] at HFI
       clear htt hlvx hbf HTKB HTK HPI HZ HZE
       generalize (fiI l x.prt).toNat = b at *
       have hb0 : (0 : Int) ≤ (b : Int) := by omega
       have hb1 : (b : Int) < (l.length : Int) := by omega
       have np : wc.drew.cell? ⟨w.heap.size, p, none⟩ = some (.int .i64 (capI (lv S1 p))) := (HN9.out.cellAt p (by omega)).trans (cellsCap_get (by rw [HL1.out]; exact hpn))
       have nb : wc.drew.cell? ⟨w.heap.size, b, none⟩ = some (.int .i64 (capI (lv S1 b))) := (HN9.out.cellAt b (by omega)).trans (cellsCap_get (by rw [HL1.out]; exact hbp))
       have fb : wc.drew.frozen? ⟨w.heap.size, b, none⟩ = false := HN9.out.frozenAt b
       have HBD : Hid (Below w.heap.size w wc.drew) := Lib.hid HBW9.out.drew
       have HND : Hid (wc.drew.ownsRow w.heap.size 3 1 (.slice (some ⟨w.heap.size, 0, none⟩) l.length l.length) l.length (cellsCap S1)) := HN9
       have HOD : Hid (wc.drew.ownsRow w2.heap.size 3 1 (.slice (some ⟨g2, 0, none⟩) O.length co) O.length (cellsLv O)) := HO9
       have hpw : ∀ u, (wc.drew.setCell ⟨w.heap.size, b, none⟩ u).cell? ⟨w.heap.size, p, none⟩ = some (.int .i64 (capI (lv S1 p))) := fun u => by
        rw [((HND.out.stored b u).1).cellAt p (by omega), List.getElem?_set_ne (fun e => hne e)]
        exact cellsCap_get (by rw [HL1.out]; exact hpn)
       have hqw : ∀ u, (wc.drew.setCell ⟨w.heap.size, b, none⟩ u).cell? ⟨b2, o2 + j * 6 + 2, none⟩ = some (.int .i64 x.qty) := fun u => (cell_same (heap_setCell_other _ _ _ _ (by have := HB2.out; simp; omega))).trans e2
       have HPW := Lib.hid hpw
       have HQW := Lib.hid hqw
       clear hpw hqw HN9 HO9 HBW9
       go_wp2_with fail
       refine HFI.out.mono ?_
       rintro e w5 ⟨rfl, rfl⟩
       clear e1 HFI
       go_upto_region 14 with fail
       refine wp_region_held_drew (S := (fun W' => Hid (wc.grownBy W' (some w.heap.size)) ∧ W'.cell? ⟨w.heap.size, p, none⟩ = some (.int .i64 (capI (lv S1 p))) ∧ W'.cell? ⟨b2, o2 + j * 6 + 2, none⟩ = some (.int .i64 x.qty))) (by kernel_rfl) (⟨Lib.hid (grown_of_belowL (Below.refl _ _).drew _), np, e2⟩) (fun hHeld => ?_)
       refine wpAnyH_take (i := 0) (oi := { dst := some 96, op := Op.move (Operand.tmp 15), type := 37, pos := _, after := #[], guard := none }) (v := ?vr5x1) rfl (by kernel_rfl) (by kernel_rfl) (by kernel_rfl) (fun _ _ _ h => h) (Or.inl ⟨by rfl, ?yr5x1⟩) (by assumption) ?rr5x1
       case yr5x1 => (intro w' hSw; (try dsimp only at hSw); go_simp; (try with_reducible rfl))
       refine wpAnyH_take (i := 1) (oi := { dst := some 97, op := Op.move (Operand.tmp 20), type := 3, pos := _, after := #[], guard := none }) (v := ?vr5x2) rfl (by kernel_rfl) (by kernel_rfl) (by kernel_rfl) (fun _ _ _ h => h) (Or.inl ⟨by rfl, ?yr5x2⟩) (by assumption) ?rr5x2
       case yr5x2 => (intro w' hSw; (try dsimp only at hSw); go_simp; (try with_reducible rfl))
       refine wpAnyH_take (i := 2) (oi := { dst := some 98, op := Op.move (Operand.tmp 15), type := 37, pos := _, after := #[], guard := none }) (v := ?vr5x3) rfl (by kernel_rfl) (by kernel_rfl) (by kernel_rfl) (fun _ _ _ h => h) (Or.inl ⟨by rfl, ?yr5x3⟩) (by assumption) ?rr5x3
       case yr5x3 => (intro w' hSw; (try dsimp only at hSw); go_simp; (try with_reducible rfl))
       (try simp only [Act.put, List.setIfInBounds_toArray, List.set_cons_zero, List.set_cons_succ])
       refine wpAnyH_take (i := 3) (oi := { dst := some 99, op := Op.move (Operand.tmp 20), type := 3, pos := _, after := #[], guard := none }) (v := ?vr5x4) rfl (by kernel_rfl) (by kernel_rfl) (by kernel_rfl) (fun _ _ _ h => h) (Or.inl ⟨by rfl, ?yr5x4⟩) (by assumption) ?rr5x4
       case yr5x4 => (intro w' hSw; (try dsimp only at hSw); go_simp; (try with_reducible rfl))
       refine wpAnyH_take (i := 4) (oi := { dst := some 100, op := Op.indexAddr 37 (Operand.tmp 98) (Operand.tmp 99), type := 0, pos := _, after := #[{ on := 2, ground := Ground.data }, { on := 3, ground := Ground.data }], guard := none }) (v := ?vr5x5) rfl (by kernel_rfl) (by kernel_rfl) (by kernel_rfl) (fun _ _ _ h => h) (Or.inl ⟨by rfl, ?yr5x5⟩) (by assumption) ?rr5x5
       case yr5x5 => (intro w' hSw; (try dsimp only at hSw); go_simp; (try with_reducible rfl))
       refine wpAnyH_take (i := 6) (oi := { dst := some 102, op := Op.move (Operand.tmp 15), type := 37, pos := _, after := #[], guard := none }) (v := ?vr5x6) rfl (by kernel_rfl) (by kernel_rfl) (by kernel_rfl) (fun _ _ _ h => h) (Or.inl ⟨by rfl, ?yr5x6⟩) (by assumption) ?rr5x6
       case yr5x6 => (intro w' hSw; (try dsimp only at hSw); go_simp; (try with_reducible rfl))
       (try simp only [Act.put, List.setIfInBounds_toArray, List.set_cons_zero, List.set_cons_succ])
       refine wpAnyH_take (i := 7) (oi := { dst := some 103, op := Op.move (Operand.tmp 18), type := 3, pos := _, after := #[], guard := none }) (v := ?vr5x7) rfl (by kernel_rfl) (by kernel_rfl) (by kernel_rfl) (fun _ _ _ h => h) (Or.inl ⟨by rfl, ?yr5x7⟩) (by assumption) ?rr5x7
       case yr5x7 => (intro w' hSw; (try dsimp only at hSw); go_simp; (try with_reducible rfl))
       refine wpAnyH_take (i := 8) (oi := { dst := some 104, op := Op.indexAddr 37 (Operand.tmp 102) (Operand.tmp 103), type := 0, pos := _, after := #[{ on := 6, ground := Ground.data }, { on := 7, ground := Ground.data }], guard := none }) (v := ?vr5x8) rfl (by kernel_rfl) (by kernel_rfl) (by kernel_rfl) (fun _ _ _ h => h) (Or.inl ⟨by rfl, ?yr5x8⟩) (by assumption) ?rr5x8
       case yr5x8 => (intro w' hSw; (try dsimp only at hSw); go_simp; (try with_reducible rfl))
       refine wpAnyH_take (i := 9) (oi := { dst := some 105, op := Op.load 3 (Operand.tmp 104), type := 3, pos := _, after := #[{ on := 8, ground := Ground.data }], guard := none }) (v := ?vr5x9) rfl (by kernel_rfl) (by kernel_rfl) (by kernel_rfl) (fun _ _ _ h => h) (Or.inl ⟨by rfl, ?yr5x9⟩) (by assumption) ?rr5x9
       case yr5x9 => (intro w' hSw; (try dsimp only at hSw); go_simp; (try with_reducible rfl))
       (try simp only [Act.put, List.setIfInBounds_toArray, List.set_cons_zero, List.set_cons_succ])
       refine wpAnyH_take (i := 10) (oi := { dst := some 106, op := Op.move (Operand.tmp 1), type := 25, pos := _, after := #[], guard := none }) (v := ?vr5x10) rfl (by kernel_rfl) (by kernel_rfl) (by kernel_rfl) (fun _ _ _ h => h) (Or.inl ⟨by rfl, ?yr5x10⟩) (by assumption) ?rr5x10
       case yr5x10 => (intro w' hSw; (try dsimp only at hSw); go_simp; (try with_reducible rfl))
       refine wpAnyH_take (i := 11) (oi := { dst := some 107, op := Op.move (Operand.tmp 19), type := 3, pos := _, after := #[], guard := none }) (v := ?vr5x11) rfl (by kernel_rfl) (by kernel_rfl) (by kernel_rfl) (fun _ _ _ h => h) (Or.inl ⟨by rfl, ?yr5x11⟩) (by assumption) ?rr5x11
       case yr5x11 => (intro w' hSw; (try dsimp only at hSw); go_simp; (try with_reducible rfl))
       refine wpAnyH_take (i := 12) (oi := { dst := some 108, op := Op.indexAddr 25 (Operand.tmp 106) (Operand.tmp 107), type := 0, pos := _, after := #[{ on := 10, ground := Ground.data }, { on := 11, ground := Ground.data }], guard := none }) (v := ?vr5x12) rfl (by kernel_rfl) (by kernel_rfl) (by kernel_rfl) (fun _ _ _ h => h) (Or.inl ⟨by rfl, ?yr5x12⟩) (by assumption) ?rr5x12
       case yr5x12 => (intro w' hSw; (try dsimp only at hSw); go_simp; (try with_reducible rfl))
       (try simp only [Act.put, List.setIfInBounds_toArray, List.set_cons_zero, List.set_cons_succ])
       refine wpAnyH_take (i := 13) (oi := { dst := some 109, op := Op.fieldAddr 94 (Operand.tmp 108) 2, type := 0, pos := _, after := #[{ on := 12, ground := Ground.data }], guard := none }) (v := ?vr5x13) rfl (by kernel_rfl) (by kernel_rfl) (by kernel_rfl) (fun _ _ _ h => h) (Or.inl ⟨by rfl, ?yr5x13⟩) (by assumption) ?rr5x13
       case yr5x13 => (intro w' hSw; (try dsimp only at hSw); go_simp; (try with_reducible rfl))
       refine wpAnyH_take (i := 14) (oi := { dst := some 110, op := Op.load 3 (Operand.tmp 109), type := 3, pos := _, after := #[{ on := 13, ground := Ground.data }], guard := none }) (v := ?vr5x14) rfl (by kernel_rfl) (by kernel_rfl) (by kernel_rfl) (fun _ _ _ h => h) (Or.inl ⟨by rfl, ?yr5x14⟩) (by assumption) ?rr5x14
       case yr5x14 => (intro w' hSw; (try dsimp only at hSw); go_simp; (try with_reducible rfl))
       (try simp only [Act.put, List.setIfInBounds_toArray, List.set_cons_zero, List.set_cons_succ])
       refine wpAnyH_ready (rs := [5, 15]) (by kernel_rfl) (by simp) ?_
       refine AllReadyH.cons (o := { dst := some 101, op := Op.load 3 (Operand.tmp 100), type := 3, pos := _, after := #[{ on := 4, ground := Ground.data }], guard := none }) rfl (fun K hK => ?_) ?_
       · skip
         go_simp
         (try go_wp2_with fail)
         refine hK.out _ _ ?_ (fun hHeld => ?_)
         · (try dsimp only); first | with_reducible assumption | exact ⟨Lib.hid (World.grownBy.trans (grown_of_belowL (Below.refl wc.heap.size wc).drew _) (grown_setL (World.grownBy.refl _ _))), HPW.out _, HQW.out _⟩
         clear hK K
         (try simp only [Act.put, List.setIfInBounds_toArray, List.set_cons_zero, List.set_cons_succ])
         refine wpAnyH_ready (rs := [15]) (by kernel_rfl) (by simp) ?_
         refine AllReadyH.cons (o := { dst := some 111, op := Op.call { callee := Callee.value (Operand.func 64), args := #[Operand.tmp 105, Operand.tmp 110], argTypes := #[3, 3] }, type := 3, pos := _, after := #[{ on := 9, ground := Ground.data }, { on := 14, ground := Ground.data }], guard := none }) rfl (fun K hK => ?_) AllReadyH.nil
         go_simp
         refine (spec_times (lv S1 p) x.qty _ hqt.1 hqt.2).mono ?_; rintro e w' ⟨rfl, rfl⟩
         (try go_wp2_with fail)
         refine hK.out _ _ ?_ (fun hHeld => ?_)
         · (try dsimp only); first | with_reducible assumption | exact ⟨Lib.hid (World.grownBy.trans (grown_of_belowL (Below.refl wc.heap.size wc).drew _) (grown_setL (World.grownBy.refl _ _))), HPW.out _, HQW.out _⟩
         clear hK K
         (try simp only [Act.put, List.setIfInBounds_toArray, List.set_cons_zero, List.set_cons_succ])
         refine wpAnyH_ready (rs := [16]) (by kernel_rfl) (by simp) ?_
         refine AllReadyH.cons (o := { dst := some 112, op := Op.call { callee := Callee.value (Operand.func 63), args := #[Operand.tmp 101, Operand.tmp 111], argTypes := #[3, 3] }, type := 3, pos := _, after := #[{ on := 5, ground := Ground.data }, { on := 15, ground := Ground.data }, { on := 15, ground := Ground.chain }], guard := none }) rfl (fun K hK => ?_) AllReadyH.nil
         go_simp
         refine (spec_plus (lv S1 b) (lv S1 p * x.qty.toNat) _).mono ?_; rintro e w' ⟨rfl, rfl⟩
         (try go_wp2_with fail)
         refine hK.out _ _ ?_ (fun hHeld => ?_)
         · (try dsimp only); first | with_reducible assumption | exact ⟨Lib.hid (World.grownBy.trans (grown_of_belowL (Below.refl wc.heap.size wc).drew _) (grown_setL (World.grownBy.refl _ _))), HPW.out _, HQW.out _⟩
         clear hK K
         (try simp only [Act.put, List.setIfInBounds_toArray, List.set_cons_zero, List.set_cons_succ])
         refine wpAnyH_take (i := 17) (oi := { dst := some 113, op := Op.indexAddr 37 (Operand.tmp 96) (Operand.tmp 97), type := 0, pos := _, after := #[{ on := 0, ground := Ground.data }, { on := 1, ground := Ground.data }, { on := 0, ground := Ground.phase }, { on := 1, ground := Ground.phase }, { on := 2, ground := Ground.phase }, { on := 3, ground := Ground.phase }, { on := 4, ground := Ground.phase }, { on := 5, ground := Ground.phase }, { on := 6, ground := Ground.phase }, { on := 7, ground := Ground.phase }, { on := 8, ground := Ground.phase }, { on := 9, ground := Ground.phase }, { on := 10, ground := Ground.phase }, { on := 11, ground := Ground.phase }, { on := 12, ground := Ground.phase }, { on := 13, ground := Ground.phase }, { on := 14, ground := Ground.phase }, { on := 15, ground := Ground.phase }, { on := 16, ground := Ground.phase }], guard := none }) (v := ?vr5x15) rfl (by kernel_rfl) (by kernel_rfl) (by kernel_rfl) (fun _ _ _ h => h) (Or.inl ⟨by rfl, ?yr5x15⟩) (by assumption) ?rr5x15
         case yr5x15 => (intro w' hSw; (try dsimp only at hSw); go_simp; (try with_reducible rfl))
         (try simp only [Act.put, List.setIfInBounds_toArray, List.set_cons_zero, List.set_cons_succ])
         refine wpAnyH_ready (rs := [18]) (by kernel_rfl) (by simp) ?_
         refine AllReadyH.cons (o := { dst := none, op := Op.store 3 (Operand.tmp 113) (Operand.tmp 112), type := 0, pos := _, after := #[{ on := 17, ground := Ground.data }, { on := 16, ground := Ground.data }, { on := 16, ground := Ground.chain }, { on := 0, ground := Ground.phase }, { on := 1, ground := Ground.phase }, { on := 2, ground := Ground.phase }, { on := 3, ground := Ground.phase }, { on := 4, ground := Ground.phase }, { on := 5, ground := Ground.phase }, { on := 6, ground := Ground.phase }, { on := 7, ground := Ground.phase }, { on := 8, ground := Ground.phase }, { on := 9, ground := Ground.phase }, { on := 10, ground := Ground.phase }, { on := 11, ground := Ground.phase }, { on := 12, ground := Ground.phase }, { on := 13, ground := Ground.phase }, { on := 14, ground := Ground.phase }, { on := 15, ground := Ground.phase }, { on := 16, ground := Ground.phase }], guard := none }) rfl (fun K hK => ?_) AllReadyH.nil
         go_simp
         (try go_wp2_with fail)
         refine hK.out _ _ ?_ (fun hHeld => ?_)
         · (try dsimp only); first | with_reducible assumption | exact ⟨Lib.hid (World.grownBy.trans (grown_of_belowL (Below.refl wc.heap.size wc).drew _) (grown_setL (World.grownBy.refl _ _))), HPW.out _, HQW.out _⟩
         clear hK K
         (try simp only [Act.put, List.setIfInBounds_toArray, List.set_cons_zero, List.set_cons_succ])
         refine wpAnyH_done (by kernel_rfl) ?_ _
         have HNF := Lib.hid ((HND.out.stored b (.int .i64 (capI (lv S1 b + lv S1 p * x.qty.toNat)))).1)
         rw [cellsCap_set] at HNF
         have HOF := Lib.hid (own_setlow HOD.out w.heap.size b (.int .i64 (capI (lv S1 b + lv S1 p * x.qty.toNat))) hs2)
         have HBF := Lib.hid (HBD.out.setCell (p := ⟨w.heap.size, b, none⟩) (Nat.le_refl _) (.int .i64 (capI (lv S1 b + lv S1 p * x.qty.toNat))))
         go_wp2_with fail
         go_roundw
         case rel => exact ⟨j + 1, HJL.out, by go_num, by rw [HE.out]; exact HNF, HOF, HBF⟩
         case measure => have := HJL.out; simp [intOf]; omega
       refine AllReadyH.cons (o := { dst := some 111, op := Op.call { callee := Callee.value (Operand.func 64), args := #[Operand.tmp 105, Operand.tmp 110], argTypes := #[3, 3] }, type := 3, pos := _, after := #[{ on := 9, ground := Ground.data }, { on := 14, ground := Ground.data }], guard := none }) rfl (fun K hK => ?_) AllReadyH.nil
       go_simp
       refine (spec_times (lv S1 p) x.qty _ hqt.1 hqt.2).mono ?_; rintro e w' ⟨rfl, rfl⟩
       (try go_wp2_with fail)
       refine hK.out _ _ ?_ (fun hHeld => ?_)
       · (try dsimp only); first | with_reducible assumption | exact ⟨Lib.hid (World.grownBy.trans (grown_of_belowL (Below.refl wc.heap.size wc).drew _) (grown_setL (World.grownBy.refl _ _))), HPW.out _, HQW.out _⟩
       clear hK K
       (try simp only [Act.put, List.setIfInBounds_toArray, List.set_cons_zero, List.set_cons_succ])
       refine wpAnyH_ready (rs := [5]) (by kernel_rfl) (by simp) ?_
       refine AllReadyH.cons (o := { dst := some 101, op := Op.load 3 (Operand.tmp 100), type := 3, pos := _, after := #[{ on := 4, ground := Ground.data }], guard := none }) rfl (fun K hK => ?_) AllReadyH.nil
       go_simp
       (try go_wp2_with fail)
       refine hK.out _ _ ?_ (fun hHeld => ?_)
       · (try dsimp only); first | with_reducible assumption | exact ⟨Lib.hid (World.grownBy.trans (grown_of_belowL (Below.refl wc.heap.size wc).drew _) (grown_setL (World.grownBy.refl _ _))), HPW.out _, HQW.out _⟩
       clear hK K
       (try simp only [Act.put, List.setIfInBounds_toArray, List.set_cons_zero, List.set_cons_succ])
       refine wpAnyH_ready (rs := [16]) (by kernel_rfl) (by simp) ?_
       refine AllReadyH.cons (o := { dst := some 112, op := Op.call { callee := Callee.value (Operand.func 63), args := #[Operand.tmp 101, Operand.tmp 111], argTypes := #[3, 3] }, type := 3, pos := _, after := #[{ on := 5, ground := Ground.data }, { on := 15, ground := Ground.data }, { on := 15, ground := Ground.chain }], guard := none }) rfl (fun K hK => ?_) AllReadyH.nil
       go_simp
       refine (spec_plus (lv S1 b) (lv S1 p * x.qty.toNat) _).mono ?_; rintro e w' ⟨rfl, rfl⟩
       (try go_wp2_with fail)
       refine hK.out _ _ ?_ (fun hHeld => ?_)
       · (try dsimp only); first | with_reducible assumption | exact ⟨Lib.hid (World.grownBy.trans (grown_of_belowL (Below.refl wc.heap.size wc).drew _) (grown_setL (World.grownBy.refl _ _))), HPW.out _, HQW.out _⟩
       clear hK K
       (try simp only [Act.put, List.setIfInBounds_toArray, List.set_cons_zero, List.set_cons_succ])
       refine wpAnyH_take (i := 17) (oi := { dst := some 113, op := Op.indexAddr 37 (Operand.tmp 96) (Operand.tmp 97), type := 0, pos := _, after := #[{ on := 0, ground := Ground.data }, { on := 1, ground := Ground.data }, { on := 0, ground := Ground.phase }, { on := 1, ground := Ground.phase }, { on := 2, ground := Ground.phase }, { on := 3, ground := Ground.phase }, { on := 4, ground := Ground.phase }, { on := 5, ground := Ground.phase }, { on := 6, ground := Ground.phase }, { on := 7, ground := Ground.phase }, { on := 8, ground := Ground.phase }, { on := 9, ground := Ground.phase }, { on := 10, ground := Ground.phase }, { on := 11, ground := Ground.phase }, { on := 12, ground := Ground.phase }, { on := 13, ground := Ground.phase }, { on := 14, ground := Ground.phase }, { on := 15, ground := Ground.phase }, { on := 16, ground := Ground.phase }], guard := none }) (v := ?vr5x16) rfl (by kernel_rfl) (by kernel_rfl) (by kernel_rfl) (fun _ _ _ h => h) (Or.inl ⟨by rfl, ?yr5x16⟩) (by assumption) ?rr5x16
       case yr5x16 => (intro w' hSw; (try dsimp only at hSw); go_simp; (try with_reducible rfl))
       (try simp only [Act.put, List.setIfInBounds_toArray, List.set_cons_zero, List.set_cons_succ])
       refine wpAnyH_ready (rs := [18]) (by kernel_rfl) (by simp) ?_
       refine AllReadyH.cons (o := { dst := none, op := Op.store 3 (Operand.tmp 113) (Operand.tmp 112), type := 0, pos := _, after := #[{ on := 17, ground := Ground.data }, { on := 16, ground := Ground.data }, { on := 16, ground := Ground.chain }, { on := 0, ground := Ground.phase }, { on := 1, ground := Ground.phase }, { on := 2, ground := Ground.phase }, { on := 3, ground := Ground.phase }, { on := 4, ground := Ground.phase }, { on := 5, ground := Ground.phase }, { on := 6, ground := Ground.phase }, { on := 7, ground := Ground.phase }, { on := 8, ground := Ground.phase }, { on := 9, ground := Ground.phase }, { on := 10, ground := Ground.phase }, { on := 11, ground := Ground.phase }, { on := 12, ground := Ground.phase }, { on := 13, ground := Ground.phase }, { on := 14, ground := Ground.phase }, { on := 15, ground := Ground.phase }, { on := 16, ground := Ground.phase }], guard := none }) rfl (fun K hK => ?_) AllReadyH.nil
       go_simp
       (try go_wp2_with fail)
       refine hK.out _ _ ?_ (fun hHeld => ?_)
       · (try dsimp only); first | with_reducible assumption | exact ⟨Lib.hid (World.grownBy.trans (grown_of_belowL (Below.refl wc.heap.size wc).drew _) (grown_setL (World.grownBy.refl _ _))), HPW.out _, HQW.out _⟩
       clear hK K
       (try simp only [Act.put, List.setIfInBounds_toArray, List.set_cons_zero, List.set_cons_succ])
       refine wpAnyH_done (by kernel_rfl) ?_ _
       have HNF := Lib.hid ((HND.out.stored b (.int .i64 (capI (lv S1 b + lv S1 p * x.qty.toNat)))).1)
       rw [cellsCap_set] at HNF
       have HOF := Lib.hid (own_setlow HOD.out w.heap.size b (.int .i64 (capI (lv S1 b + lv S1 p * x.qty.toNat))) hs2)
       have HBF := Lib.hid (HBD.out.setCell (p := ⟨w.heap.size, b, none⟩) (Nat.le_refl _) (.int .i64 (capI (lv S1 b + lv S1 p * x.qty.toNat))))
       go_wp2_with fail
       go_roundw
       case rel => exact ⟨j + 1, HJL.out, by go_num, by rw [HE.out]; exact HNF, HOF, HBF⟩
       case measure => have := HJL.out; simp [intOf]; omega
end Go.Proofs.YtmnncinpepeocaaGreat
