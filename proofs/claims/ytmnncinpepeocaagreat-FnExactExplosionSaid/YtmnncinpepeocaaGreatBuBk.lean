import Derived.Test.YtmnncinpepeocaaGreatBLOwn
import Derived.Test.YtmnncinpepeocaaGreatRows
import Derived.Test.YtmnncinpepeocaaGreatOwnN
import Derived.Test.YtmnncinpepeocaaGreatBLN
import Derived.Test.YtmnncinpepeocaaGreatBuA2
import Derived.Test.YtmnncinpepeocaaGreatBuRec2
import Derived.Test.YtmnncinpepeocaaGreatBuRec
import Derived.Test.YtmnncinpepeocaaGreatBuA
import Derived.WalkKit
import Derived.WalkSpells
import Derived.WalkSmall
import Derived.BigQuiet
import Derived.OneCell
import Derived.Deep.QuietTactic
import Derived.Deep.DeepCutAuto
import Derived.Deep.RegionHeld3
import Derived.Laws.OwnMore
import Derived.Lib.Hide
import Derived.OpenShut
import Derived.Carry
import Derived.Deep.DeepHandedRow
namespace Go.Proofs.YtmnncinpepeocaaGreat
open Go.RowKit

/-- A record that bears the marks from q on. -/
def BL.mkd (q : Nat) (r : NR) : NR := (((((r.setc 0 (.string (marks.mText (q + 0)))).setc 1 (.string (marks.mText (q + 1)))).setc 2 (.int .i64 ((q + 2 : Nat) : Int))).setc 3 (.int .i64 ((q + 3 : Nat) : Int))).setc 4 (.int .i64 ((q + 4 : Nat) : Int))).seti (CN.marks (q + 5) r.n)
/-- Where the marks of the record j begin. -/
def BX.pos (k : Nat) (rs : List NR) (j : Nat) : Nat := k + ((rs.take j).map (fun r => 5 + 3 * r.n)).sum
theorem BX.pos_zero (k : Nat) (rs : List NR) : BX.pos k rs 0 = k := by simp [BX.pos]
theorem BX.pos_succ (k : Nat) {rs : List NR} {j : Nat} (hj : j < rs.length) : BX.pos k rs (j + 1) = BX.pos k rs j + 5 + 3 * (rs[j]'hj).n := by
 unfold BX.pos
 rw [List.take_succ_eq_append_getElem hj, List.map_append, List.sum_append]
 simp; omega
theorem BX.pos_le (k : Nat) {rs : List NR} : ∀ (d j : Nat), j + d = rs.length → k ≤ BX.pos k rs j ∧ BX.pos k rs j ≤ BX.pos k rs rs.length
 | 0, j, h => by rw [show j = rs.length by omega]; exact ⟨by unfold BX.pos; omega, Nat.le_refl _⟩
 | d + 1, j, h => by
  have h1 := BX.pos_le k (rs := rs) d (j + 1) (by omega)
  rw [BX.pos_succ k (show j < rs.length by omega)] at h1
  exact ⟨by unfold BX.pos; omega, by omega⟩
theorem BX.pos_tot {xs : List BL} {rs : List NR} (h : BX.RecN xs rs) (k : Nat) : BX.pos k rs rs.length = k + 5 * xs.length + 3 * BX.tot xs := by
 have hr : rs.map (fun r => 5 + 3 * r.n) = xs.map (fun x => 5 + 3 * x.whn.length) := by
  refine List.ext_getElem (by simp [h.1]) (fun i h1 h2 => ?_)
  simp only [List.getElem_map]
  obtain ⟨u, hu⟩ := h.2 i (by simpa using h2) (by simpa using h1)
  rw [hu]; rfl
 unfold BX.pos
 rw [List.take_of_length_le (Nat.le_refl _), hr]
 have : ∀ l : List BL, (l.map (fun x => 5 + 3 * x.whn.length)).sum = 5 * l.length + 3 * BX.tot l := by
  intro l
  induction l with
  | nil => simp [BX.tot]
  | cons x l ih => simp only [List.map_cons, List.sum_cons, ih, List.length_cons, BX.tot]; omega
 rw [this]; omega
/-- All marked, from k on. -/
def BX.IsMk (k : Nat) (rs rs' : List NR) : Prop := rs'.length = rs.length ∧ ∀ i (h1 : i < rs.length) (h2 : i < rs'.length), rs'[i]'h2 = BL.mkd (BX.pos k rs i) (rs[i]'h1)
set_option maxRecDepth 100000 in
set_option maxHeartbeats 2000000 in
theorem BX.markO (base top : Nat) (v : Value) (k : Nat) (rs : List NR) (w : World) (h : OwnN 6 5 3 94 145 (base) (top) w v rs) (hsm : ∀ j (hj : j < rs.length), (rs[j]'hj).n ≤ 1048577) (hn : rs.length ≤ 1048577) (hk0 : 0 < k) (hk1 : BX.pos k rs rs.length ≤ 1000000000) :
 Calls Tryz.prog 31 #[v, .int .i64 (k : Int)] w fun e w' => ∃ rs', e = .returned (.int .i64 ((BX.pos k rs rs.length : Nat) : Int)) ∧ Hid (BX.IsMk k rs rs') ∧ Hid (OwnN 6 5 3 94 145 (base) (top) w' v rs') ∧ Hid (ChgIn base top w w') := by
 have HO0 := Lib.hid h
 have HSM := Lib.hid hsm
 have HK1 := Lib.hid hk1
 obtain ⟨a, c, rfl⟩ := h.slice
 clear h hsm hk1
 go_enter Tryz.func31, Tryz.ntmps31
 go_wp2
 go_loopw [1, 5] (fun q i wr => ∃ (j : Nat) (rs' : List NR), j ≤ rs.length ∧ i = .int .i64 j ∧ q = .int .i64 ((BX.pos k rs j : Nat) : Int) ∧ Hid (rs'.length = rs.length) ∧ Hid (OwnN 6 5 3 94 145 (base) (top) wr (.slice a rs.length c) rs') ∧ Hid (∀ i (h1 : i < rs.length) (h2 : i < rs'.length), (i < j → rs'[i]'h2 = BL.mkd (BX.pos k rs i) (rs[i]'h1)) ∧ (j ≤ i → rs'[i]'h2 = rs[i]'h1)) ∧ Hid (ChgIn base top w wr)) (fun _ i _ => rs.length - (intOf i).toNat)
 case atStart => exact ⟨0, rs, Nat.zero_le _, rfl, by rw [BX.pos_zero], Lib.hid rfl, HO0, Lib.hid (fun i h1 h2 => ⟨fun h => by omega, fun _ => rfl⟩), Lib.hid (ChgIn.refl _ _ _)⟩
 case round =>
  clear HO0
  obtain ⟨j, rs', hj, rfl, rfl, HLN, HO, HR, HC⟩ := hrel
  by_cases hlt : j < rs.length
  · have hl := HLN.out
    obtain ⟨g, cap, hv, hg, hgb, hgt⟩ := HO.out.at0 (by omega)
    simp only [Value.slice.injEq] at hv
    obtain ⟨rfl, hvl, rfl⟩ := hv
    clear hvl
    have HLT := Lib.hid hlt
    have HJ : Hid (j < rs'.length) := Lib.hid (by omega)
    have HEQ : Hid (rs'[j]'(HJ.out) = rs[j]'hlt) := Lib.hid ((HR.out j hlt HJ.out).2 (Nat.le_refl _))
    have HPS := Lib.hid (BX.pos_succ k hlt)
    have hpl := (BX.pos_le k (rs := rs) (rs.length - (j + 1)) (j + 1) (by omega))
    rw [HPS.out] at hpl
    have hpl2 := HK1.out
    have hsmj := HSM.out j hlt
    have hkp : k ≤ BX.pos k rs j := (BX.pos_le k (rs := rs) (rs.length - j) j (by omega)).1
    have HS0 := Lib.hid (HO.out.startK j HJ.out)
    obtain ⟨u, hu, _, _⟩ := HO.out.sub j HJ.out
    rw [HEQ.out] at HS0 hu
    have HPUT : Hid (∀ rs2 : List NR, rs2 = rs'.set j (BL.mkd (BX.pos k rs j) (rs[j]'hlt)) → ∀ i (h1 : i < rs.length) (h2 : i < rs2.length), (i < j + 1 → rs2[i]'h2 = BL.mkd (BX.pos k rs i) (rs[i]'h1)) ∧ (j + 1 ≤ i → rs2[i]'h2 = rs[i]'h1)) := Lib.hid (fun rs2 e i h1 h2 => by
     subst e
     simp only [List.getElem_set]
     refine ⟨fun h => ?_, fun h => ?_⟩
     · split
       · rename_i e2; subst e2; rfl
       · exact (HR.out i h1 (by simpa using h2)).1 (by omega)
     · rw [if_neg (by omega)]
       exact (HR.out i h1 (by simpa using h2)).2 (by omega))
    clear HO HR HEQ hl
    generalize rs[j]'hlt = r at *
    obtain ⟨q, hq⟩ : ∃ q, BX.pos k rs j = q := ⟨_, rfl⟩
    rw [hq] at HPS hpl hkp HPUT
    rw [hq]
    clear hq
    have HC0 := HC
    clear HC
    go_wp2_with fail
    refine (mark_textI _ (q + 0) _ (by push_cast; omega) (by omega) (by omega)).mono ?_
    rintro e w1 ⟨rfl, hb⟩
    obtain ⟨m0, hm0⟩ : ∃ t, marks.mText (q + 0) = t := ⟨_, rfl⟩
    have HM0 := Lib.hid hm0
    rw [hm0]
    clear hm0
    have HS1 := Lib.hid (HS0.out.below hb)
    have HC1 := Lib.hid (HC0.out.trans (ChgIn.of_below hb))
    clear hb HS0 HC0
    obtain ⟨⟨c0, hc0⟩, fc0⟩ : (∃ u, w1.cell? ⟨g, j * 6, none⟩ = some u) ∧ w1.frozen? ⟨g, j * 6, none⟩ = false := HS1.out.cellwK HJ.out 0 (by omega)
    go_wp2_with fail
    refine (mark_textI _ (q + 1) _ (by push_cast; omega) (by omega) (by omega)).mono ?_
    rintro e w2 ⟨rfl, hb⟩
    obtain ⟨m1, hm1⟩ : ∃ t, marks.mText (q + 1) = t := ⟨_, rfl⟩
    have HM1 := Lib.hid hm1
    rw [hm1]
    clear hm1
    have HS2 := Lib.hid ((HS1.out.setcK (by decide) HJ.out 0 (by omega) (by decide) (.string m0)).below hb)
    have HC2 := Lib.hid ((HC1.out.trans (ChgIn.set hgb hgt)).trans (ChgIn.of_below hb))
    clear hc0 fc0
    clear hb HS1 HC1
    obtain ⟨⟨c1, hc1⟩, fc1⟩ : (∃ u, w2.cell? ⟨g, j * 6 + 1, none⟩ = some u) ∧ w2.frozen? ⟨g, j * 6 + 1, none⟩ = false := HS2.out.cellwK HJ.out 1 (by omega)
    obtain ⟨⟨c2, hc2⟩, fc2⟩ : (∃ u, w2.cell? ⟨g, j * 6 + 2, none⟩ = some u) ∧ w2.frozen? ⟨g, j * 6 + 2, none⟩ = false := HS2.out.cellwK HJ.out 2 (by omega)
    obtain ⟨⟨c3, hc3⟩, fc3⟩ : (∃ u, w2.cell? ⟨g, j * 6 + 3, none⟩ = some u) ∧ w2.frozen? ⟨g, j * 6 + 3, none⟩ = false := HS2.out.cellwK HJ.out 3 (by omega)
    obtain ⟨⟨c4, hc4⟩, fc4⟩ : (∃ u, w2.cell? ⟨g, j * 6 + 4, none⟩ = some u) ∧ w2.frozen? ⟨g, j * 6 + 4, none⟩ = false := HS2.out.cellwK HJ.out 4 (by omega)
    have hu5 : r.cs[5]? = some u := hu
    have e5 : w2.cell? ⟨g, j * 6 + 5, none⟩ = some u := (HS2.out.cellK HJ.out 5 (by omega)).trans (by simpa [NR.setc] using hu)
    have HUZ : Hid (((((((r.setc 0 (.string m0)).setc 1 (.string m1)).setc 2 (.int .i64 ((q + 2 : Nat) : Int))).setc 3 (.int .i64 ((q + 3 : Nat) : Int))).setc 4 (.int .i64 ((q + 4 : Nat) : Int)))).cs[5]? = some u) := Lib.hid (by simpa [NR.setc] using hu)
    have HSZ : Hid (OwnN 6 5 3 94 145 (base) (top) ((((w2.setCell ⟨g, j * 6 + 1, none⟩ (.string m1)).setCell ⟨g, j * 6 + 2, none⟩ (.int .i64 ((q + 2 : Nat) : Int))).setCell ⟨g, j * 6 + 3, none⟩ (.int .i64 ((q + 3 : Nat) : Int))).setCell ⟨g, j * 6 + 4, none⟩ (.int .i64 ((q + 4 : Nat) : Int))) (.slice (some ⟨g, 0, none⟩) rs.length c) (rs'.set j (((((r.setc 0 (.string m0)).setc 1 (.string m1)).setc 2 (.int .i64 ((q + 2 : Nat) : Int))).setc 3 (.int .i64 ((q + 3 : Nat) : Int))).setc 4 (.int .i64 ((q + 4 : Nat) : Int))))) := Lib.hid (((((HS2.out.setcK (by decide) HJ.out 1 (by omega) (by decide) (.string m1)).setcK (by decide) HJ.out 2 (by omega) (by decide) (.int .i64 ((q + 2 : Nat) : Int))).setcK (by decide) HJ.out 3 (by omega) (by decide) (.int .i64 ((q + 3 : Nat) : Int))).setcK (by decide) HJ.out 4 (by omega) (by decide) (.int .i64 ((q + 4 : Nat) : Int))))
    have HCZ : Hid (ChgIn base top w ((((w2.setCell ⟨g, j * 6 + 1, none⟩ (.string m1)).setCell ⟨g, j * 6 + 2, none⟩ (.int .i64 ((q + 2 : Nat) : Int))).setCell ⟨g, j * 6 + 3, none⟩ (.int .i64 ((q + 3 : Nat) : Int))).setCell ⟨g, j * 6 + 4, none⟩ (.int .i64 ((q + 4 : Nat) : Int)))) := Lib.hid ((((HC2.out.trans (ChgIn.set hgb hgt)).trans (ChgIn.set hgb hgt)).trans (ChgIn.set hgb hgt)).trans (ChgIn.set hgb hgt))
    obtain ⟨hrow, hsp⟩ := HSZ.out.subK HJ.out HUZ.out
    have HRW := Lib.hid hrow
    have HSPU := Lib.hid hsp
    clear hrow hsp hu hu5
    go_wp2_with fail
    refine (CN.mark_allI base u _ (q + 5) r.n r.ins _ (by push_cast; omega) (by exact HRW.out) hsmj (by omega) (by omega)).mono ?_
    rintro e wz ⟨rfl, ho, hg2⟩
    have HSF := Lib.hid (HSZ.out.setiK (by decide) HJ.out HUZ.out (by exact hg2) (CN.marks (q + 5) r.n) ho)
    have HCF := Lib.hid (HCZ.out.trans (ChgIn.of_grown (by exact hg2) HSPU.out))
    clear hc1 fc1
    clear hc2 fc2
    clear hc3 fc3
    clear hc4 fc4
    clear ho hg2 HSZ HCZ HRW HUZ e5 HS2 HC2
    go_wp2_with fail
    go_roundw
    case rel => exact ⟨j + 1, rs'.set j (BL.mkd q r), by have := HLT.out; omega, by go_num, by rw [HPS.out]; go_num, Lib.hid (by simpa using HLN.out), Lib.hid (by unfold BL.mkd; rw [HM0.out, HM1.out]; exact HSF.out), Lib.hid (HPUT.out _ rfl), HCF⟩
    case measure => have := HLT.out; simp [intOf]; omega
  · have HE : Hid (BX.IsMk k rs rs') := Lib.hid ⟨HLN.out, fun i h1 h2 => (HR.out i h1 h2).1 (by omega)⟩
    have hjn : j = rs.length := by omega
    rw [hjn]
    clear hjn
    go_wp2_with fail
    go_ret
    exact ⟨rs', rfl, HE, HO, HC⟩
end Go.Proofs.YtmnncinpepeocaaGreat

namespace Go.Proofs.YtmnncinpepeocaaGreat
open Go.RowKit

theorem BX.markI (base top : Nat) (v : Value) (x : Int) (k : Nat) (rs : List NR) (w : World) (hx : x = (k : Int)) (h : OwnN 6 5 3 94 145 (base) (top) w v rs) (hsm : ∀ j (hj : j < rs.length), (rs[j]'hj).n ≤ 1048577) (hn : rs.length ≤ 1048577) (hk0 : 0 < k) (hk1 : BX.pos k rs rs.length ≤ 1000000000) :
 Calls Tryz.prog 31 #[v, .int .i64 x] w fun e w' => ∃ rs', e = .returned (.int .i64 ((BX.pos k rs rs.length : Nat) : Int)) ∧ Hid (BX.IsMk k rs rs') ∧ Hid (OwnN 6 5 3 94 145 (base) (top) w' v rs') ∧ Hid (ChgIn base top w w') := by
 subst hx
 exact BX.markO base top v k rs w h hsm hn hk0 hk1
theorem BX.RecN.sm {xs : List BL} {rs : List NR} (h : BX.RecN xs rs) (hm : BX.Sm xs) : rs.length ≤ 1048577 ∧ ∀ j (hj : j < rs.length), (rs[j]'hj).n ≤ 1048577 := by
 refine ⟨by have := hm.1; rw [h.1]; omega, fun j hj => ?_⟩
 have hx : j < xs.length := by rw [← h.1]; exact hj
 obtain ⟨u, hu⟩ := h.2 j hx hj
 rw [hu]
 have h1 : (xs[j]'hx).whn.length ≤ 1048576 := hm.2 _ (List.getElem_mem hx)
 show (xs[j]'hx).whn.length ≤ 1048577
 omega
end Go.Proofs.YtmnncinpepeocaaGreat

namespace Go.Proofs.YtmnncinpepeocaaGreat
open Go.ChangeShapes Go.WideShapes Go.ChangeAt Go.RowKit Go.Joins
set_option maxRecDepth 100000 in
theorem BX.args_openS {H : Type} {enc : TypeId × Value → H} {W : World} {base : Nat} {v : Value} {d : DataW H} {p : List MemPlace} (hv : Value.okWide Tryz.prog W .any base 44 v)
 (h0 : DataW.Trod enc Tryz.prog W 0 (fun _ => true) true 44 v d p) : ∃ xs : List BL, BX 0 W.heap.size W v xs ∧ BX.Sz xs := by
 obtain ⟨a0, len, cap, rfl⟩ := okWide_slice Tryz.underlying44 hv
 obtain ⟨fuel, hf⟩ := h0
 exact BX.opened hf
end Go.Proofs.YtmnncinpepeocaaGreat
