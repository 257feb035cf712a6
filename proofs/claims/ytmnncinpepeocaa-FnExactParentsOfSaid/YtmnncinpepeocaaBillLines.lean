/-
  LinesOf: the model's and the program's.
-/
import Derived.Test.YtmnncinpepeocaaOwnTop
import Derived.Test.YtmnncinpepeocaaBillOn
import Derived.Test.YtmnncinpepeocaaBillCopy
import Derived.Test.YtmnncinpepeocaaBillSpec
import Derived.Test.YtmnncinpepeocaaBillImpl
import Derived.Test.YtmnncinpepeocaaBuA
import Derived.WalkKit
import Derived.WalkSpells
import Derived.WalkSmall
import Derived.BigQuiet
import Derived.OneCell
import Derived.Deep.QuietTactic
import Derived.Deep.DeepCutAuto
import Derived.Laws.OwnMore
import Derived.Lib.Hide
namespace Go.Proofs.Ytmnncinpepeocaa
open Go.RowKit

theorem linesR_yes {l : List IT} {xs : List BL} {par : ByteArray} {day : Int} {ps : List PK} (h : billsB l xs = true) : linesR l xs par day ps = xs.filter (ofB par day ps) := if_pos h
theorem linesR_no {l : List IT} {xs : List BL} {par : ByteArray} {day : Int} {ps : List PK} (h : billsB l xs = false) : linesR l xs par day ps = [] := if_neg (by rw [h]; decide)
theorem bills_cond {l : List IT} {xs : List BL} (h : billsB l xs = true) {k : Nat} (hk : k < xs.length) : condB (xs[k]'hk).whn = true ∧ 0 < (xs[k]'hk).whn.length ∧ (xs[k]'hk).whn.length ≤ 30 := by
  have h1 := ((billsB_iff.1 h).1.2.2 k hk hk).2.2.2.2.2.2.2.2
  obtain ⟨t, _, h3, h4⟩ := cond_tree (condB_iff.1 h1)
  refine ⟨h1, ?_, ?_⟩
  · rw [h3]; exact CT.post_pos t
  · rw [h3]; exact h4
theorem ofB_no1 {par : ByteArray} {day : Int} {ps : List PK} {x : BL} (h : ¬x.par = par) : ofB par day ps x = false := by unfold ofB; rw [decide_eq_false h]; rfl
theorem ofB_is {par : ByteArray} {day : Int} {ps : List PK} {x : BL} (h : x.par = par) : ofB par day ps x = onB x day ps := by unfold ofB; rw [decide_eq_true h]; rfl
/-- Lines of the call's own. -/
def LnRes (ys : List BL) (w : World) (e : Ending) (w' : World) : Prop := ∃ v', e = .returned v' ∧ Hid (BX.Own w.heap.size w'.heap.size w' v' ys) ∧ Hid (Below w.heap.size w w')
theorem infoBL : (Try.prog.info? 37).map (fun i => (i.zero, i.size, i.bytes)) = some (some (.agg #[.string ByteArray.empty, .string ByteArray.empty, .int .i64 0, .int .i64 0, .int .i64 0, .slice none 0 0]), 6, 80) := by kernel_rfl

set_option maxRecDepth 100000 in
set_option maxHeartbeats 4000000 in
theorem spec_linesOf (v v2 : Value) (l : List IT) (xs : List BL) (par : ByteArray) (day : Int) (v3 : Value) (ps : List PK) (lo hi : Nat) (w : World) (h : IT.Is w v l) (h2 : BX lo hi w v2 xs) (h3 : PK.Is w v3 ps) (hm : l.length ≤ maxLen) (hs : ∀ r, r ∈ l → IT.Sz r) (hs2 : BX.Sz xs) (hm3 : ps.length ≤ maxLen) :
    Calls Try.prog 19 #[v, v2, .string par, .int .i64 day, v3] w (LnRes (linesR l xs par day ps) w) := by
  obtain ⟨i0, hi0, hz0, hz1, hz2⟩ := info_parts infoBL
  have HI := Lib.hid h
  have HX := Lib.hid h2
  have HP := Lib.hid h3
  have HS := Lib.hid hs
  have HS2 := Lib.hid hs2
  have HM := Lib.hid hm
  have HM3 := Lib.hid hm3
  have hm2 := hs2.1
  unfold maxLen at hm hm2
  obtain ⟨a, c, rfl⟩ := h.slice
  obtain ⟨a2, c2, rfl⟩ := h2.slice
  have HBI : Hid (∀ W, Below w.heap.size w W → Calls Try.prog 11 #[.slice a l.length c, .slice a2 xs.length c2] W (BoolRes (billsB l xs) W)) := Lib.hid (fun W hW => spec_bills _ _ l xs lo hi W (HI.out.below hW) (HX.out.below BLN.kept hW) HM.out HS.out HS2.out)
  clear h h2 h3 hs hs2
  have HO0 : Hid (BX.Own w.heap.size (w.alloc (.cells #[] 37)).heap.size (w.alloc (.cells #[] 37)) (.slice (some ⟨w.heap.size, 0, none⟩) 0 0) []) := Lib.hid ⟨[], ⟨rfl, fun j hj => by simp at hj⟩, OwnN.empty (Nat.le_refl _)⟩
  have HB0 : Hid (Below w.heap.size w (w.alloc (.cells #[] 37))) := Lib.hid ((Below.refl _ _).alloc (Nat.le_refl _) _)
  go_enter Try.func19, Try.ntmps19
  go_wp2_with fail
  generalize w.alloc (.cells #[] 37) = w0 at *
  go_loopw [11, 12] (fun s i wr => ∃ (k : Nat) (ys : List BL) (p : Option Addr) (q : Nat), k ≤ xs.length ∧ i = .int .i64 k ∧ s = .slice p ys.length q ∧ ys.length ≤ k ∧ Hid (0 < k → billsB l xs = true) ∧ Hid (ys = (xs.take k).filter (ofB par day ps)) ∧ Hid (BX.Own w.heap.size wr.heap.size wr (.slice p ys.length q) ys) ∧ Hid (Below w.heap.size w wr)) (fun _ i _ => xs.length - (intOf i).toNat)
  case atStart => exact ⟨0, [], _, _, Nat.zero_le _, rfl, rfl, Nat.le_refl _, Lib.hid (fun h => by omega), Lib.hid (by simp), HO0, HB0⟩
  case round =>
    clear HO0 HB0
    obtain ⟨k, ys, p, q, hk, rfl, rfl, hyk, HK, HY, HO, HB⟩ := hrel
    by_cases hlt : k < xs.length
    rotate_left
    · have HE : Hid (ys = linesR l xs par day ps) := Lib.hid (by
        have h1 := HY.out
        rw [List.take_of_length_le (by omega)] at h1
        cases hc : billsB l xs with
        | true => rw [linesR_yes hc]; exact h1
        | false =>
          rw [linesR_no hc]
          have h0 : k = 0 := by
            rcases Nat.eq_zero_or_pos k with h | h
            · exact h
            · have := HK.out h; rw [hc] at this; cases this
          have : xs = [] := List.eq_nil_of_length_eq_zero (by omega)
          rw [h1, this]; rfl)
      go_wp2_with fail
      go_ret
      exact ⟨_, rfl, by rw [← HE.out]; exact HO, HB⟩
    have HLT := Lib.hid hlt
    have HCK := Lib.hid (HBI.out wr HB.out)
    rcases Bool.eq_false_or_eq_true (billsB l xs) with hc | hc
    rotate_left
    · have HE : Hid (ys = linesR l xs par day ps) := Lib.hid (by
        have h0 : k = 0 := by
          rcases Nat.eq_zero_or_pos k with h | h
          · exact h
          · have := HK.out h; rw [hc] at this; cases this
        rw [linesR_no hc, HY.out, h0]; rfl)
      rw [hc] at HCK
      clear hc
      go_wp2_with fail
      refine HCK.out.mono ?_
      rintro e w1 ⟨rfl, hb⟩
      have HO1 := Lib.hid ((HO.out.below hb).topw hb.size)
      have HB1 := Lib.hid (HB.out.trans (hb.mono HB.out.size))
      clear hb
      go_wp2_with fail
      go_ret
      exact ⟨_, rfl, by rw [← HE.out]; exact HO1, HB1⟩
    have HBT := Lib.hid hc
    have HCO := Lib.hid (bills_cond hc hlt)
    have HT : Hid ((xs.take (k + 1)).filter (ofB par day ps) = (xs.take k).filter (ofB par day ps) ++ (if ofB par day ps (xs[k]'hlt) then [xs[k]'hlt] else [])) := Lib.hid (filter_take_succ hlt)
    rw [hc] at HCK
    clear hc
    have h24 := (billsB_iff.1 HBT.out).1.2.1
    go_wp2_with fail
    refine HCK.out.mono ?_
    rintro e w1 ⟨rfl, hb⟩
    have HO1 := Lib.hid ((HO.out.below hb).topw hb.size)
    have HB1 := Lib.hid (HB.out.trans (hb.mono HB.out.size))
    clear hb HO HB HCK
    have HO := HO1
    have HB := HB1
    clear HO1 HB1
    obtain ⟨b2, o2, c2', cs, hv2, hc2, hb2, hcl, hr5, hcell⟩ := (HX.out.below BLN.kept HB.out).get k hlt
    simp only [Value.slice.injEq] at hv2
    obtain ⟨rfl, _, rfl⟩ := hv2
    obtain ⟨u5, rfl, h5⟩ := hr5
    obtain ⟨sa5, sc5, rfl⟩ := h5.slice
    have e0 := hcell 0 (by omega)
    have e1 := hcell 1 (by omega)
    have e2 := hcell 2 (by omega)
    have e3 := hcell 3 (by omega)
    have e4 := hcell 4 (by omega)
    have e5 := hcell 5 (by omega)
    simp only [List.getElem?_cons_zero, List.getElem?_cons_succ, Nat.add_zero] at e0 e1 e2 e3 e4 e5
    have HSZ := Lib.hid (HS2.out.2 _ (List.getElem_mem hlt))
    have H5 := Lib.hid h5
    clear hcell h5 hc2 hcl
    have HBB := Lib.hid hb2
    clear hb2
    generalize xs[k]'hlt = x at *
    by_cases hp : x.par = par
    rotate_left
    · have HF := Lib.hid (ofB_no1 (day := day) (ps := ps) hp)
      have HY2 : Hid (ys = (xs.take (k + 1)).filter (ofB par day ps)) := Lib.hid (by rw [HT.out, HF.out, ← HY.out]; simp)
      have hq := str_ne hp
      clear hp
      go_wp2_with fail
      go_roundw
      case rel => exact ⟨k + 1, ys, p, q, by have := HLT.out; omega, by go_num, rfl, by omega, Lib.hid (fun _ => HBT.out), HY2, HO, HB⟩
      case measure => have := HLT.out; simp [intOf]; omega
    have HF := Lib.hid (ofB_is (day := day) (ps := ps) hp)
    have hq := str_eq hp
    have HON := Lib.hid (spec_on x (.slice sa5 x.whn.length sc5) v3 day ps lo hi w1 H5.out HCO.out.1 (HP.out.below HB.out) HM3.out)
    clear hp
    go_wp2_with fail
    refine HON.out.mono ?_
    rintro e w2 ⟨rfl, hb⟩
    have HO2 := Lib.hid ((HO.out.below hb).topw hb.size)
    have HB2 := Lib.hid (HB.out.trans (hb.mono HB.out.size))
    have H52 := Lib.hid (H5.out.below CnN.kept hb)
    have f0 := (hb.cell (p := ⟨b2, o2 + k * 6, none⟩) HBB.out).trans e0
    have f1 := (hb.cell (p := ⟨b2, o2 + k * 6 + 1, none⟩) HBB.out).trans e1
    have f2 := (hb.cell (p := ⟨b2, o2 + k * 6 + 2, none⟩) HBB.out).trans e2
    have f3 := (hb.cell (p := ⟨b2, o2 + k * 6 + 3, none⟩) HBB.out).trans e3
    have f4 := (hb.cell (p := ⟨b2, o2 + k * 6 + 4, none⟩) HBB.out).trans e4
    have f5 := (hb.cell (p := ⟨b2, o2 + k * 6 + 5, none⟩) HBB.out).trans e5
    clear e0 e1 e2 e3 e4 e5
    clear hb HO HB H5 HON
    obtain ⟨z, hz⟩ : ∃ z, onB x day ps = z := ⟨_, rfl⟩
    have HZ := Lib.hid hz
    rw [hz]
    clear hz
    cases z with
    | false =>
      have HY2 : Hid (ys = (xs.take (k + 1)).filter (ofB par day ps)) := Lib.hid (by rw [HT.out, HF.out, HZ.out, ← HY.out]; simp)
      go_wp2_with fail
      go_roundw
      case rel => exact ⟨k + 1, ys, p, q, by have := HLT.out; omega, by go_num, rfl, by omega, Lib.hid (fun _ => HBT.out), HY2, HO2, HB2⟩
      case measure => have := HLT.out; simp [intOf]; omega
    | true =>
      have HY2 : Hid (ys ++ [x] = (xs.take (k + 1)).filter (ofB par day ps)) := Lib.hid (by rw [HT.out, HF.out, HZ.out, ← HY.out]; rfl)
      have HLN := Lib.hid (spec_line x _ lo hi w2 H52.out HCO.out.2.1 HCO.out.2.2)
      go_wp2_with fail
      refine HLN.out.mono ?_
      rintro e w3 ⟨a3, c3, rfl, HOL, HBL⟩
      obtain ⟨rs, hrec, hown⟩ := HO2.out.below HBL.out
      have hrl := hrec.1
      have HRW : Hid (w3.ownsRow w.heap.size 37 6 (.slice p ys.length q) ys.length (flatN rs)) := Lib.hid (by rw [← hrl]; rw [← hrl] at hown; exact hown.row)
      have HREC := Lib.hid hrec
      have HOWN := Lib.hid hown
      have HB3 := Lib.hid (HB2.out.trans (HBL.out.mono HB2.out.size))
      have hsw := HB2.out.size
      have hsw3 := HBL.out.size
      clear hrec hown HLN f0 f1 f2 f3 f4 f5
      go_wp2_with (at_builtin; refine wpList_append_own _ rfl _ _ 25 rfl w.heap.size 37 i0 (.agg #[.string ByteArray.empty, .string ByteArray.empty, .int .i64 0, .int .i64 0, .int .i64 0, .slice none 0 0]) 6 80 Try.underlying25 hi0 hz0 hz1 hz2 rfl (by decide) _ ys.length (flatN rs) rfl (HRW.out.alloc _) ⟨w3.heap.size, 0, none⟩ 1 1 [.string x.par, .string x.prt, .int .i64 x.qty, .int .i64 x.fr, .int .i64 x.un, .slice a3 x.whn.length c3] rfl rfl (new_6 _ _ _ _ _ _ _ _) (by intro u hu; simp at hu; rcases hu with rfl | rfl | rfl | rfl | rfl | rfl <;> rfl) (by unfold maxLen; omega) (by omega) (by simp; omega) ?_)
      intro v4 w5 ho hg _
      obtain ⟨p2, q2, rfl⟩ := own_sliceN ho
      have HO5 : Hid (BX.Own w.heap.size w5.heap.size w5 (.slice p2 (ys.length + 1) q2) (ys ++ [x])) := Lib.hid (BX.ownPush HREC.out (HOWN.out.below ((Below.refl _ _).alloc (Nat.le_refl _) _)) (HOL.out.alloc _) (Nat.le_refl _) hsw (by rw [hrl]; exact ho) hg)
      have HB5 := Lib.hid ((HB3.out.alloc HB3.out.size _).grown hg (by have := HB3.out.size; simp; omega) (fun g hg2 => (HRW.out.lt g hg2).1))
      clear ho hg hrl
      go_wp2_with fail
      go_roundw
      case rel => exact ⟨k + 1, ys ++ [x], p2, q2, by have := HLT.out; omega, by go_num, by simp, by simp; omega, Lib.hid (fun _ => HBT.out), HY2, by simpa using HO5, HB5⟩
      case measure => have := HLT.out; simp [intOf]; omega

set_option maxRecDepth 100000 in
set_option maxHeartbeats 4000000 in
theorem im_linesOf (v v2 : Value) (l : List IT) (xs : List BL) (par : ByteArray) (day : Int) (v3 : Value) (ps : List PK) (lo hi : Nat) (w : World) (h : IT.Is w v l) (h2 : BX lo hi w v2 xs) (h3 : PK.Is w v3 ps) (hm : l.length ≤ maxLen) (hs : ∀ r, r ∈ l → IT.Sz r) (hs2 : BX.Sz xs) (hm3 : ps.length ≤ maxLen) :
    Calls Try.prog 12 #[v, v2, .string par, .int .i64 day, v3] w (LnRes (linesR l xs par day ps) w) := by
  obtain ⟨i0, hi0, hz0, hz1, hz2⟩ := info_parts infoBL
  have HI := Lib.hid h
  have HX := Lib.hid h2
  have HP := Lib.hid h3
  have HS := Lib.hid hs
  have HS2 := Lib.hid hs2
  have HM := Lib.hid hm
  have HM3 := Lib.hid hm3
  have hm2 := hs2.1
  unfold maxLen at hm hm2
  obtain ⟨a, c, rfl⟩ := h.slice
  obtain ⟨a2, c2, rfl⟩ := h2.slice
  have HCK := Lib.hid (im_bills _ _ l xs lo hi w h h2 HM.out hs hs2)
  clear h h2 h3 hs hs2
  rcases Bool.eq_false_or_eq_true (billsB l xs) with hc | hc
  rotate_left
  · have HE : Hid (linesR l xs par day ps = []) := Lib.hid (linesR_no hc)
    rw [hc] at HCK
    clear hc
    go_enter Try.func12, Try.ntmps12
    go_wp2_with fail
    refine HCK.out.mono ?_
    rintro e w1 ⟨rfl, hb⟩
    have HB1 := Lib.hid hb
    clear hb
    go_wp2_with fail
    go_ret
    exact ⟨_, rfl, by rw [HE.out]; exact Lib.hid ⟨[], ⟨rfl, fun j hj => by simp at hj⟩, OwnN.nil _ _ _ _ _ _ _ _⟩, HB1⟩
  have HBT := Lib.hid hc
  have HE : Hid (linesR l xs par day ps = xs.filter (ofB par day ps)) := Lib.hid (linesR_yes hc)
  have h24 := (billsB_iff.1 hc).1.2.1
  rw [hc] at HCK
  clear hc
  go_enter Try.func12, Try.ntmps12
  go_wp2_with fail
  refine HCK.out.mono ?_
  rintro e w0 ⟨rfl, hb⟩
  have HB0 := Lib.hid hb
  clear hb HCK
  have HO0 : Hid (BX.Own w.heap.size w0.heap.size w0 (.slice none 0 0) []) := Lib.hid ⟨[], ⟨rfl, fun j hj => by simp at hj⟩, OwnN.nil _ _ _ _ _ _ _ _⟩
  go_wp2_with fail
  go_loopw [11, 20] (fun s i wr => ∃ (k : Nat) (ys : List BL) (p : Option Addr) (q : Nat), k ≤ xs.length ∧ i = .int .i64 k ∧ s = .slice p ys.length q ∧ ys.length ≤ k ∧ Hid (ys = (xs.take k).filter (ofB par day ps)) ∧ Hid (BX.Own w.heap.size wr.heap.size wr (.slice p ys.length q) ys) ∧ Hid (Below w.heap.size w wr)) (fun _ i _ => xs.length - (intOf i).toNat)
  case atStart => exact ⟨0, [], _, _, Nat.zero_le _, rfl, rfl, Nat.le_refl _, Lib.hid (by simp), HO0, HB0⟩
  case round =>
    clear HO0 HB0
    obtain ⟨k, ys, p, q, hk, rfl, rfl, hyk, HY, HO, HB⟩ := hrel
    by_cases hlt : k < xs.length
    rotate_left
    · have HE2 : Hid (ys = linesR l xs par day ps) := Lib.hid (by
        have h1 := HY.out
        rw [List.take_of_length_le (by omega)] at h1
        rw [HE.out]; exact h1)
      go_wp2_with fail
      go_ret
      exact ⟨_, rfl, by rw [← HE2.out]; exact HO, HB⟩
    have HLT := Lib.hid hlt
    have HCO := Lib.hid (bills_cond HBT.out hlt)
    have HT : Hid ((xs.take (k + 1)).filter (ofB par day ps) = (xs.take k).filter (ofB par day ps) ++ (if ofB par day ps (xs[k]'hlt) then [xs[k]'hlt] else [])) := Lib.hid (filter_take_succ hlt)
    obtain ⟨b2, o2, c2', cs, hv2, hc2, hb2, hcl, hr5, hcell⟩ := (HX.out.below BLN.kept HB.out).get k hlt
    simp only [Value.slice.injEq] at hv2
    obtain ⟨rfl, _, rfl⟩ := hv2
    obtain ⟨u5, rfl, h5⟩ := hr5
    obtain ⟨sa5, sc5, rfl⟩ := h5.slice
    have e0 := hcell 0 (by omega)
    have e1 := hcell 1 (by omega)
    have e2 := hcell 2 (by omega)
    have e3 := hcell 3 (by omega)
    have e4 := hcell 4 (by omega)
    have e5 := hcell 5 (by omega)
    simp only [List.getElem?_cons_zero, List.getElem?_cons_succ, Nat.add_zero] at e0 e1 e2 e3 e4 e5
    have HSZ := Lib.hid (HS2.out.2 _ (List.getElem_mem hlt))
    have H5 := Lib.hid h5
    clear hcell h5 hc2 hb2 hcl
    generalize xs[k]'hlt = x at *
    obtain ⟨W1, hW1⟩ : ∃ W, wr.alloc (.cells #[.string x.par, .string x.prt, .int .i64 x.qty, .int .i64 x.fr, .int .i64 x.un, .slice sa5 x.whn.length sc5] 37) = W := ⟨_, rfl⟩
    have HW1 := Lib.hid hW1
    have HBX : Hid (W1.heap[wr.heap.size]? = some (.cells #[.string x.par, .string x.prt, .int .i64 x.qty, .int .i64 x.fr, .int .i64 x.un, .slice sa5 x.whn.length sc5] 37)) := Lib.hid (by rw [← hW1]; exact heap_alloc_new _ _)
    have hBA : Below wr.heap.size wr W1 := by rw [← hW1]; exact (Below.refl _ _).alloc (Nat.le_refl _) _
    have HO1 := Lib.hid ((HO.out.below hBA).topw hBA.size)
    have HB1 := Lib.hid (HB.out.trans (hBA.mono HB.out.size))
    have H51 := Lib.hid (H5.out.below CnN.kept hBA)
    clear hW1 hBA HO HB H5
    have HO := HO1
    have HB := HB1
    have H5 := H51
    clear HO1 HB1 H51
    go_upto_region 7 with fail
    rw [HW1.out]
    clear HW1 e0 e1 e2 e3 e4 e5
    have q0 := cell_of_row _ _ 0 _ _ _ HBX.out
    have q1 := cell_of_row _ _ 1 _ _ _ HBX.out
    have q2 := cell_of_row _ _ 2 _ _ _ HBX.out
    have q3 := cell_of_row _ _ 3 _ _ _ HBX.out
    have q4 := cell_of_row _ _ 4 _ _ _ HBX.out
    have q5 := cell_of_row _ _ 5 _ _ _ HBX.out
    by_cases hp : x.par = par
    rotate_left
    · have HF := Lib.hid (ofB_no1 (day := day) (ps := ps) hp)
      have HY2 : Hid (ys = (xs.take (k + 1)).filter (ofB par day ps)) := Lib.hid (by rw [HT.out, HF.out, ← HY.out]; simp)
      have hq := str_ne hp
      clear hp
      go_wp2_with fail
      go_roundw
      case rel => exact ⟨k + 1, ys, p, q, by have := HLT.out; omega, by go_num, rfl, by omega, HY2, HO, HB⟩
      case measure => have := HLT.out; simp [intOf]; omega
    have HF := Lib.hid (ofB_is (day := day) (ps := ps) hp)
    have hq := str_eq hp
    have HON := Lib.hid (im_on x (.slice sa5 x.whn.length sc5) v3 day ps lo hi W1 H5.out HSZ.out.2.2 (HP.out.below HB.out) HM3.out)
    clear hp
    go_wp2_with fail
    refine HON.out.mono ?_
    rintro e w2 ⟨rfl, hb⟩
    have HO2 := Lib.hid ((HO.out.below hb).topw hb.size)
    have HB2 := Lib.hid (HB.out.trans (hb.mono HB.out.size))
    have H52 := Lib.hid (H5.out.below CnN.kept hb)
    have HBX2 := Lib.hid (blk_below HBX.out hb)
    have g0 := cell_of_row _ _ 0 _ _ _ HBX2.out
    have g1 := cell_of_row _ _ 1 _ _ _ HBX2.out
    have g2 := cell_of_row _ _ 2 _ _ _ HBX2.out
    have g3 := cell_of_row _ _ 3 _ _ _ HBX2.out
    have g4 := cell_of_row _ _ 4 _ _ _ HBX2.out
    have g5 := cell_of_row _ _ 5 _ _ _ HBX2.out
    clear hb HO HB H5 HON HBX q0 q1 q2 q3 q4 q5
    obtain ⟨z, hz⟩ : ∃ z, onB x day ps = z := ⟨_, rfl⟩
    have HZ := Lib.hid hz
    rw [hz]
    clear hz
    cases z with
    | false =>
      have HY2 : Hid (ys = (xs.take (k + 1)).filter (ofB par day ps)) := Lib.hid (by rw [HT.out, HF.out, HZ.out, ← HY.out]; simp)
      go_wp2_with fail
      go_roundw
      case rel => exact ⟨k + 1, ys, p, q, by have := HLT.out; omega, by go_num, rfl, by omega, HY2, HO2, HB2⟩
      case measure => have := HLT.out; simp [intOf]; omega
    | true =>
      have HY2 : Hid (ys ++ [x] = (xs.take (k + 1)).filter (ofB par day ps)) := Lib.hid (by rw [HT.out, HF.out, HZ.out, ← HY.out]; rfl)
      have HLN := Lib.hid (im_copied x _ lo hi w2 H52.out HCO.out.2.1 HCO.out.2.2)
      go_wp2_with fail
      refine HLN.out.mono ?_
      rintro e w3 ⟨a3, c3, rfl, HOL, HBL⟩
      obtain ⟨rs, hrec, hown⟩ := HO2.out.below HBL.out
      have hrl := hrec.1
      have HRW : Hid (w3.ownsRow w.heap.size 37 6 (.slice p ys.length q) ys.length (flatN rs)) := Lib.hid (by rw [← hrl]; rw [← hrl] at hown; exact hown.row)
      have HREC := Lib.hid hrec
      have HOWN := Lib.hid hown
      have HB3 := Lib.hid (HB2.out.trans (HBL.out.mono HB2.out.size))
      have hsw := HB2.out.size
      have hsw3 := HBL.out.size
      clear hrec hown HLN HBX2 g0 g1 g2 g3 g4 g5
      go_wp2_with (at_builtin; refine wpList_append_own _ rfl _ _ 25 rfl w.heap.size 37 i0 (.agg #[.string ByteArray.empty, .string ByteArray.empty, .int .i64 0, .int .i64 0, .int .i64 0, .slice none 0 0]) 6 80 Try.underlying25 hi0 hz0 hz1 hz2 rfl (by decide) _ ys.length (flatN rs) rfl (HRW.out.alloc _) ⟨w3.heap.size, 0, none⟩ 1 1 [.string x.par, .string x.prt, .int .i64 x.qty, .int .i64 x.fr, .int .i64 x.un, .slice a3 x.whn.length c3] rfl rfl (new_6 _ _ _ _ _ _ _ _) (by intro u hu; simp at hu; rcases hu with rfl | rfl | rfl | rfl | rfl | rfl <;> rfl) (by unfold maxLen; omega) (by omega) (by simp; omega) ?_)
      intro v4 w5 ho hg _
      obtain ⟨p2, q2, rfl⟩ := own_sliceN ho
      have HO5 : Hid (BX.Own w.heap.size w5.heap.size w5 (.slice p2 (ys.length + 1) q2) (ys ++ [x])) := Lib.hid (BX.ownPush HREC.out (HOWN.out.below ((Below.refl _ _).alloc (Nat.le_refl _) _)) (HOL.out.alloc _) (Nat.le_refl _) hsw (by rw [hrl]; exact ho) hg)
      have HB5 := Lib.hid ((HB3.out.alloc HB3.out.size _).grown hg (by have := HB3.out.size; simp; omega) (fun g hg2 => (HRW.out.lt g hg2).1))
      clear ho hg hrl
      go_wp2_with fail
      go_roundw
      case rel => exact ⟨k + 1, ys ++ [x], p2, q2, by have := HLT.out; omega, by go_num, by simp, by simp; omega, HY2, by simpa using HO5, HB5⟩
      case measure => have := HLT.out; simp [intOf]; omega
end Go.Proofs.Ytmnncinpepeocaa
