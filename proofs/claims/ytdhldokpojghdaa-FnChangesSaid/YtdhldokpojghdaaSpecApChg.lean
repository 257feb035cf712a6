/-
  The model's ApplyChange.
-/
import Derived.Test.YtdhldokpojghdaaSpecIsChg
import Derived.Test.YtdhldokpojghdaaBuOwn
import Derived.Test.YtdhldokpojghdaaBillCopy
import Derived.Test.YtdhldokpojghdaaBillSpec
import Derived.Test.YtdhldokpojghdaaBuA
import Derived.WalkKit
import Derived.WalkSpells
import Derived.WalkSmall
import Derived.BigQuiet
import Derived.OneCell
import Derived.Deep.QuietTactic
import Derived.Deep.DeepCutAuto
import Derived.Laws.OwnMore
import Derived.Lib.Hide
namespace Go.Proofs.Ytdhldokpojghdaa
open Go.RowKit

theorem billsB_cond {l : List IT} {xs : List BL} (h : billsB l xs = true) {k : Nat} (hk : k < xs.length) : 0 < (xs[k]'hk).whn.length ∧ (xs[k]'hk).whn.length ≤ 30 := by
  have h1 := ((billsB_iff.1 h).1.2.2 k hk hk).2.2.2.2.2.2.2.2
  obtain ⟨t, _, h3, h4⟩ := cond_tree (condB_iff.1 h1)
  refine ⟨?_, ?_⟩
  · rw [h3]; exact CT.post_pos t
  · rw [h3]; exact h4
theorem own_keptT {w w' : World} {b b' n m K : Nat} {v u : Value} {xs ys : List Value} (h : w.ownsRow b 36 6 v n xs) (hx : w.ownsRow b' 110 K u m ys) (hg : w.grownBy w' v.ownBlock) : w'.ownsRow b' 110 K u m ys :=
  hx.kept hg (by
    cases hv : u.ownBlock with
    | none => exact Or.inl rfl
    | some k => exact Or.inr (fun e2 => apart_type h hx (by decide) k e2.symm hv))
theorem infoBLc : (Try.prog.info? 36).map (fun i => (i.zero, i.size, i.bytes)) = some (some (.agg #[.string ByteArray.empty, .string ByteArray.empty, .int .i64 0, .int .i64 0, .int .i64 0, .slice none 0 0]), 6, 80) := by kernel_rfl
theorem BX.ownNil {base : Nat} {w : World} (h : base ≤ w.heap.size) : BX.Own base (w.alloc (.cells #[] 36)).heap.size (w.alloc (.cells #[] 36)) (.slice (some ⟨w.heap.size, 0, none⟩) 0 0) [] := ⟨[], ⟨rfl, fun j hj => by simp at hj⟩, OwnN.empty h⟩

set_option maxRecDepth 100000 in
set_option maxHeartbeats 8000000 in
theorem spec_applyChange (v v2 : Value) (l : List IT) (xs : List BL) (x0 : CH) (lo hi : Nat) (w : World) (h : IT.Is w v l) (h2 : BX lo hi w v2 xs) (hm : l.length ≤ maxLen) (hs : ∀ r, r ∈ l → IT.Sz r) (hs2 : BX.Sz xs) (hsx : CH.Sz x0) :
    Calls Try.prog 14 #[v, v2, CH.val x0] w (ApOut (apO l xs x0) w) := by
  obtain ⟨i0, hi0, hz0, hz1, hz2⟩ := info_parts infoBLc
  have HI := Lib.hid h
  have HX := Lib.hid h2
  have HS := Lib.hid hs
  have HS2 := Lib.hid hs2
  have HM := Lib.hid hm
  have HSX := Lib.hid hsx
  unfold maxLen at hm
  obtain ⟨a, c, rfl⟩ := h.slice
  obtain ⟨a2, c2, rfl⟩ := h2.slice
  have HN : Hid (¬ApOk l xs x0 → apO l xs x0 = none) := Lib.hid apO_no
  have HYES : Hid (ApOk l xs x0 → apO l xs x0 = some (chgL x0 xs)) := Lib.hid apO_yes
  generalize apO l xs x0 = o at *
  have HCH : Hid (∀ W, Below w.heap.size w W → Calls Try.prog 26 #[.slice a l.length c, CH.val x0] W (BoolRes (chB l x0) W)) := Lib.hid (fun W hW => spec_isChange _ l x0 W (HI.out.below hW) HM.out HS.out)
  have HBI : Hid (∀ W, Below w.heap.size w W → Calls Try.prog 18 #[.slice a l.length c, .slice a2 xs.length c2] W (BoolRes (billsB l xs) W)) := Lib.hid (fun W hW => spec_bills _ _ l xs lo hi W (HI.out.below hW) (HX.out.below BLN.kept hW) HM.out HS.out HS2.out)
  clear h h2 hs hs2 hsx
  obtain ⟨dy, pa, ou, inn, qy⟩ := x0
  unfold CH.val at HCH ⊢
  have HBQ : Hid (Below w.heap.size w (w.alloc (.cells #[.int .i64 dy, .string pa, .string ou, .string inn, .int .i64 qy] 27))) := Lib.hid ((Below.refl _ _).alloc (Nat.le_refl _) _)
  have HXQ := Lib.hid (heap_alloc_new w (.cells #[.int .i64 dy, .string pa, .string ou, .string inn, .int .i64 qy] 27))
  go_enter Try.func14, Try.ntmps14
  go_upto_region 1 with fail
  generalize w.alloc (.cells #[.int .i64 dy, .string pa, .string ou, .string inn, .int .i64 qy] 27) = wq at *
  have HCK := Lib.hid (HBI.out wq HBQ.out)
  go_wp2_with fail
  refine HCK.out.mono ?_
  rintro e w1 ⟨rfl, hb⟩
  have HB1 := Lib.hid (HBQ.out.trans (hb.mono HBQ.out.size))
  have HX1 := Lib.hid (blk_below HXQ.out hb)
  have hs1 := HB1.out.size
  have hgx1 : w.heap.size < w1.heap.size := lt_of_heap HX1.out
  clear hb HXQ HBQ HCK
  rcases Bool.eq_false_or_eq_true (billsB l xs) with hc | hc
  rotate_left
  · have HE := Lib.hid (HN.out (fun h => by rw [billsB_yes h.1] at hc; cases hc))
    rw [hc]
    clear hc
    go_wp2_with fail
    go_ret2
    exact ⟨_, by rw [HE.out]; rfl, by rw [HE.out]; exact Lib.hid (BX.ownNil hs1), Lib.hid (HB1.out.alloc hs1 _)⟩
  have HBT := Lib.hid hc
  have h24 := (billsB_iff.1 hc).1.2.1
  rw [hc]
  clear hc
  have b0 := cell_of_row _ _ 0 _ _ _ HX1.out
  have b1 := cell_of_row _ _ 1 _ _ _ HX1.out
  have b2 := cell_of_row _ _ 2 _ _ _ HX1.out
  have b3 := cell_of_row _ _ 3 _ _ _ HX1.out
  have b4 := cell_of_row _ _ 4 _ _ _ HX1.out
  have HCC := Lib.hid (HCH.out w1 HB1.out)
  go_wp2_with fail
  refine HCC.out.mono ?_
  rintro e w2 ⟨rfl, hb⟩
  have HB2 := Lib.hid (HB1.out.trans (hb.mono HB1.out.size))
  have HX2 := Lib.hid (blk_below HX1.out hb)
  have hs2 := HB2.out.size
  have hgx2 : w.heap.size < w2.heap.size := lt_of_heap HX2.out
  clear hb HX1 HB1 HCC b0 b1 b2 b3 b4 hs1 hgx1
  rcases Bool.eq_false_or_eq_true (chB l ⟨dy, pa, ou, inn, qy⟩) with hc | hc
  rotate_left
  · have HE := Lib.hid (HN.out (fun h => by rw [chB_yes h.2.1] at hc; cases hc))
    rw [hc]
    clear hc
    go_wp2_with fail
    go_ret2
    exact ⟨_, by rw [HE.out]; rfl, by rw [HE.out]; exact Lib.hid (BX.ownNil hs2), Lib.hid (HB2.out.alloc hs2 _)⟩
  have HCT := Lib.hid (chB_iff.1 hc)
  have hdy0 : 0 ≤ dy := HCT.out.2.1.1
  have hdy1 : dy ≤ 999 := HCT.out.2.1.2
  rw [hc]
  clear hc
  have HO0 : Hid (BX.Own w2.heap.size (w2.alloc (.cells #[] 36)).heap.size (w2.alloc (.cells #[] 36)) (.slice (some ⟨w2.heap.size, 0, none⟩) 0 0) []) := Lib.hid (BX.ownNil (Nat.le_refl _))
  have HBE : Hid (Below w2.heap.size w2 (w2.alloc (.cells #[] 36))) := Lib.hid ((Below.refl _ _).alloc (Nat.le_refl _) _)
  go_wp2_with fail
  generalize w2.alloc (.cells #[] 36) = w00 at *
  generalize w2 = w0 at *
  go_loopw [8, 9] (fun s i wr => ∃ (k : Nat) (ys : List BL) (p : Option Addr) (q : Nat), k ≤ xs.length ∧ i = .int .i64 k ∧ s = .slice p ys.length q ∧ ys.length ≤ 2 * k ∧ Hid (ys = chgL ⟨dy, pa, ou, inn, qy⟩ (xs.take k)) ∧ Hid (BX.Own w0.heap.size wr.heap.size wr (.slice p ys.length q) ys) ∧ Hid (Below w0.heap.size w0 wr)) (fun _ i _ => xs.length - (intOf i).toNat)
  case atStart => exact ⟨0, [], _, _, Nat.zero_le _, rfl, rfl, Nat.le_refl _, Lib.hid rfl, HO0, HBE⟩
  case round =>
    clear HO0 HBE
    obtain ⟨k, ys, p, q, hk, rfl, rfl, hyk, HY, HO, HB⟩ := hrel
    have hsr := HB.out.size
    have HBW := Lib.hid (HB2.out.trans (HB.out.mono HB2.out.size))
    by_cases hlt : k < xs.length
    rotate_left
    · have HE2 : Hid (ys = chgL ⟨dy, pa, ou, inn, qy⟩ xs) := Lib.hid (by
        have h1 := HY.out
        rw [List.take_of_length_le (by omega)] at h1
        exact h1)
      have HSY : Hid (BX.Sz ys) := Lib.hid (by rw [HE2.out]; exact chgL_sz HSX.out HS2.out (by unfold maxLen; omega))
      have HCK := Lib.hid (spec_bills _ _ l ys w0.heap.size wr.heap.size wr (HI.out.below HBW.out) HO.out.sl HM.out HS.out HSY.out)
      go_wp2_with fail
      refine HCK.out.mono ?_
      rintro e w9 ⟨rfl, hb⟩
      have HO9 := Lib.hid (((HO.out.below hb).topw hb.size).lower hs2)
      have HB9 := Lib.hid (HBW.out.trans (hb.mono HBW.out.size))
      have hs9 := HB9.out.size
      clear hb HCK
      rcases Bool.eq_false_or_eq_true (billsB l ys) with hc | hc
      rotate_left
      · have HE := Lib.hid (HN.out (fun h => by have h2 := h.2.2; rw [← HE2.out] at h2; rw [billsB_yes h2] at hc; cases hc))
        rw [hc]
        clear hc
        go_wp2_with fail
        go_ret2
        exact ⟨_, by rw [HE.out]; rfl, by rw [HE.out]; exact Lib.hid (BX.ownNil hs9), Lib.hid (HB9.out.alloc hs9 _)⟩
      · have HE := Lib.hid (HYES.out ⟨billsB_iff.1 HBT.out, HCT.out, by rw [← HE2.out]; exact billsB_iff.1 hc⟩)
        rw [hc]
        clear hc
        go_wp2_with fail
        go_ret2
        exact ⟨_, by rw [HE.out]; rfl, by rw [HE.out, ← HE2.out]; exact HO9, HB9⟩
    have HLT := Lib.hid hlt
    have HCO := Lib.hid (billsB_cond HBT.out hlt)
    have HT := Lib.hid (chgL_take (x := ⟨dy, pa, ou, inn, qy⟩) hlt)
    obtain ⟨b2, o2, c2', cs, hv2, hc2, hb2, hcl, hr5, hcell⟩ := (HX.out.below BLN.kept HBW.out).get k hlt
    simp only [Value.slice.injEq] at hv2
    obtain ⟨rfl, _, rfl⟩ := hv2
    obtain ⟨u5, rfl, h5⟩ := hr5
    obtain ⟨sa5, sc5, rfl⟩ := h5.slice
    have e0 := hcell 0 (by omega)
    have e1 := hcell 1 (by omega)
    have e2 := hcell 2 (by omega)
    have e3 := hcell 3 (by omega)
    have e4 := hcell 4 (by omega)
    have e5 := hcell 5 (by omega)
    simp only [List.getElem?_cons_zero, List.getElem?_cons_succ, Nat.add_zero] at e0 e1 e2 e3 e4 e5
    clear hcell hc2 hcl hb2
    generalize xs[k]'hlt = x at *
    have HLN := Lib.hid (spec_line x _ lo hi wr h5 HCO.out.1 HCO.out.2)
    clear h5
    have HXR := Lib.hid (blk_below HX2.out HB.out)
    go_wp2_with fail
    refine HLN.out.mono ?_
    rintro e w3 ⟨a3, c3, rfl, HOL, HBL⟩
    clear HLN e0 e1 e2 e3 e4 e5
    have hs3 := HBL.out.size
    obtain ⟨W4, hW4⟩ : ∃ W, w3.alloc (.cells #[.string x.par, .string x.prt, .int .i64 x.qty, .int .i64 x.fr, .int .i64 x.un, .slice a3 x.whn.length c3] 36) = W := ⟨_, rfl⟩
    have HW4 := Lib.hid hW4
    have HL4 : Hid (Below w3.heap.size w3 W4) := Lib.hid (by rw [← hW4]; exact (Below.refl _ _).alloc (Nat.le_refl _) _)
    have HY4 : Hid (W4.heap[w3.heap.size]? = some (.cells #[.string x.par, .string x.prt, .int .i64 x.qty, .int .i64 x.fr, .int .i64 x.un, .slice a3 x.whn.length c3] 36)) := Lib.hid (by rw [← hW4]; exact heap_alloc_new _ _)
    clear hW4
    have hs4 : w3.heap.size < W4.heap.size := lt_of_heap HY4.out
    have HR4 := Lib.hid (HBL.out.trans (HL4.out.mono HBL.out.size))
    have HB4 := Lib.hid (HB.out.trans (HR4.out.mono HB.out.size))
    have HX4 := Lib.hid (blk_below HXR.out HR4.out)
    have HOL4 := Lib.hid (own_keepL HOL.out HL4.out)
    go_upto_region 8 with fail
    rw [HW4.out]
    clear HW4 HXR
    have q0 := cell_of_row _ _ 0 _ _ _ HY4.out
    have q1 := cell_of_row _ _ 1 _ _ _ HY4.out
    have q2 := cell_of_row _ _ 2 _ _ _ HY4.out
    have q3 := cell_of_row _ _ 3 _ _ _ HY4.out
    have q4 := cell_of_row _ _ 4 _ _ _ HY4.out
    have q5 := cell_of_row _ _ 5 _ _ _ HY4.out
    have b0 := cell_of_row _ _ 0 _ _ _ HX4.out
    have b1 := cell_of_row _ _ 1 _ _ _ HX4.out
    have b2 := cell_of_row _ _ 2 _ _ _ HX4.out
    have b3 := cell_of_row _ _ 3 _ _ _ HX4.out
    have b4 := cell_of_row _ _ 4 _ _ _ HX4.out
    by_cases hp : x.par = pa
    rotate_left
    · have hq1 := str_ne hp
      have HF := Lib.hid (aft_no (x := ⟨dy, pa, ou, inn, qy⟩) (y := x) (fun h => by exact hp h.1))
      obtain ⟨rs, hrec, hrl, hown⟩ := (HO.out.below HR4.out).recs
      have HREC := Lib.hid hrec
      have HRL := Lib.hid hrl
      have HOWN := Lib.hid hown
      clear hrec hrl hown
      have HRW : Hid (W4.ownsRow w0.heap.size 36 6 (.slice p ys.length q) ys.length (flatN rs)) := Lib.hid (by have h1 := HOWN.out.row; rw [HRL.out] at h1; exact h1)
      go_wp2_with (at_builtin; refine wpList_append_own _ rfl _ _ 25 rfl w0.heap.size 36 i0 (.agg #[.string ByteArray.empty, .string ByteArray.empty, .int .i64 0, .int .i64 0, .int .i64 0, .slice none 0 0]) 6 80 Try.underlying25 hi0 hz0 hz1 hz2 rfl (by decide) _ ys.length (flatN rs) rfl (HRW.out.alloc _) ⟨W4.heap.size, 0, none⟩ 1 1 [.string x.par, .string x.prt, .int .i64 x.qty, .int .i64 x.fr, .int .i64 x.un, .slice a3 x.whn.length c3] rfl rfl (new_6 _ _ _ _ _ _ _ _) (by intro u hu; simp at hu; rcases hu with rfl | rfl | rfl | rfl | rfl | rfl <;> rfl) (by unfold maxLen; omega) (by omega) (by simp; omega) ?_)
      intro v4 w10 ho hg _
      obtain ⟨p2, q2, rfl⟩ := own_sliceN ho
      have HOF : Hid (BX.Own w0.heap.size w10.heap.size w10 (.slice p2 (ys.length + 1) q2) (ys ++ [x])) := Lib.hid ⟨_, HREC.out.push (x) _, BX.pushR (HOWN.out.below ((Below.refl _ _).alloc (Nat.le_refl _) _)) (HOL4.out.alloc _) (RowsB.of HOWN.out) (by omega) (by rw [HRL.out]; exact ho) hg⟩
      have HBF := Lib.hid ((HB4.out.alloc HB4.out.size _).grown hg (by simp; omega) (fun g hg2 => (HRW.out.lt g hg2).1))
      clear ho hg
      go_wp2_with fail
      go_roundw
      case rel => exact ⟨k + 1, ys ++ [x], p2, q2, by have := HLT.out; omega, by go_num, by simp, by have := hyk; simp; omega, Lib.hid (by rw [HT.out, ← HY.out, HF.out]), by simpa using HOF, HBF⟩
      case measure => have := HLT.out; simp [intOf]; omega
    have HP := Lib.hid hp
    have hq1 := str_eq hp
    clear hp
    by_cases hp : x.prt = ou
    rotate_left
    · have hq2 := str_ne hp
      have HF := Lib.hid (aft_no (x := ⟨dy, pa, ou, inn, qy⟩) (y := x) (fun h => by exact hp h.2.1))
      obtain ⟨rs, hrec, hrl, hown⟩ := (HO.out.below HR4.out).recs
      have HREC := Lib.hid hrec
      have HRL := Lib.hid hrl
      have HOWN := Lib.hid hown
      clear hrec hrl hown
      have HRW : Hid (W4.ownsRow w0.heap.size 36 6 (.slice p ys.length q) ys.length (flatN rs)) := Lib.hid (by have h1 := HOWN.out.row; rw [HRL.out] at h1; exact h1)
      go_wp2_with (at_builtin; refine wpList_append_own _ rfl _ _ 25 rfl w0.heap.size 36 i0 (.agg #[.string ByteArray.empty, .string ByteArray.empty, .int .i64 0, .int .i64 0, .int .i64 0, .slice none 0 0]) 6 80 Try.underlying25 hi0 hz0 hz1 hz2 rfl (by decide) _ ys.length (flatN rs) rfl (HRW.out.alloc _) ⟨W4.heap.size, 0, none⟩ 1 1 [.string x.par, .string x.prt, .int .i64 x.qty, .int .i64 x.fr, .int .i64 x.un, .slice a3 x.whn.length c3] rfl rfl (new_6 _ _ _ _ _ _ _ _) (by intro u hu; simp at hu; rcases hu with rfl | rfl | rfl | rfl | rfl | rfl <;> rfl) (by unfold maxLen; omega) (by omega) (by simp; omega) ?_)
      intro v4 w10 ho hg _
      obtain ⟨p2, q2, rfl⟩ := own_sliceN ho
      have HOF : Hid (BX.Own w0.heap.size w10.heap.size w10 (.slice p2 (ys.length + 1) q2) (ys ++ [x])) := Lib.hid ⟨_, HREC.out.push (x) _, BX.pushR (HOWN.out.below ((Below.refl _ _).alloc (Nat.le_refl _) _)) (HOL4.out.alloc _) (RowsB.of HOWN.out) (by omega) (by rw [HRL.out]; exact ho) hg⟩
      have HBF := Lib.hid ((HB4.out.alloc HB4.out.size _).grown hg (by simp; omega) (fun g hg2 => (HRW.out.lt g hg2).1))
      clear ho hg
      go_wp2_with fail
      go_roundw
      case rel => exact ⟨k + 1, ys ++ [x], p2, q2, by have := HLT.out; omega, by go_num, by simp, by have := hyk; simp; omega, Lib.hid (by rw [HT.out, ← HY.out, HF.out]), by simpa using HOF, HBF⟩
      case measure => have := HLT.out; simp [intOf]; omega
    have HP2 := Lib.hid hp
    have hq2 := str_eq hp
    clear hp
    by_cases hu : dy ≤ x.un
    rotate_left
    · have hq3 : decide (x.un < dy) = true := decide_eq_true (by omega)
      have HF := Lib.hid (aft_no (x := ⟨dy, pa, ou, inn, qy⟩) (y := x) (fun h => by exact hu h.2.2))
      obtain ⟨rs, hrec, hrl, hown⟩ := (HO.out.below HR4.out).recs
      have HREC := Lib.hid hrec
      have HRL := Lib.hid hrl
      have HOWN := Lib.hid hown
      clear hrec hrl hown
      have HRW : Hid (W4.ownsRow w0.heap.size 36 6 (.slice p ys.length q) ys.length (flatN rs)) := Lib.hid (by have h1 := HOWN.out.row; rw [HRL.out] at h1; exact h1)
      go_wp2_with (at_builtin; refine wpList_append_own _ rfl _ _ 25 rfl w0.heap.size 36 i0 (.agg #[.string ByteArray.empty, .string ByteArray.empty, .int .i64 0, .int .i64 0, .int .i64 0, .slice none 0 0]) 6 80 Try.underlying25 hi0 hz0 hz1 hz2 rfl (by decide) _ ys.length (flatN rs) rfl (HRW.out.alloc _) ⟨W4.heap.size, 0, none⟩ 1 1 [.string x.par, .string x.prt, .int .i64 x.qty, .int .i64 x.fr, .int .i64 x.un, .slice a3 x.whn.length c3] rfl rfl (new_6 _ _ _ _ _ _ _ _) (by intro u hu; simp at hu; rcases hu with rfl | rfl | rfl | rfl | rfl | rfl <;> rfl) (by unfold maxLen; omega) (by omega) (by simp; omega) ?_)
      intro v4 w10 ho hg _
      obtain ⟨p2, q2, rfl⟩ := own_sliceN ho
      have HOF : Hid (BX.Own w0.heap.size w10.heap.size w10 (.slice p2 (ys.length + 1) q2) (ys ++ [x])) := Lib.hid ⟨_, HREC.out.push (x) _, BX.pushR (HOWN.out.below ((Below.refl _ _).alloc (Nat.le_refl _) _)) (HOL4.out.alloc _) (RowsB.of HOWN.out) (by omega) (by rw [HRL.out]; exact ho) hg⟩
      have HBF := Lib.hid ((HB4.out.alloc HB4.out.size _).grown hg (by simp; omega) (fun g hg2 => (HRW.out.lt g hg2).1))
      clear ho hg
      go_wp2_with fail
      go_roundw
      case rel => exact ⟨k + 1, ys ++ [x], p2, q2, by have := HLT.out; omega, by go_num, by simp, by have := hyk; simp; omega, Lib.hid (by rw [HT.out, ← HY.out, HF.out]), by simpa using HOF, HBF⟩
      case measure => have := HLT.out; simp [intOf]; omega
    have hq3 : decide (x.un < dy) = false := decide_eq_false (by omega)
    have HHIT := Lib.hid (aft_yes (x := ⟨dy, pa, ou, inn, qy⟩) (y := x) ⟨HP.out, HP2.out, hu⟩)
    clear hu
    have HLZ := Lib.hid (spec_line x (.slice a3 x.whn.length c3) wr.heap.size W4.heap.size W4 (CX.of_row HOL4.out) HCO.out.1 HCO.out.2)
    go_wp2_with fail
    refine HLZ.out.mono ?_
    rintro e w5 ⟨az, cz, rfl, HOZ, HBZ⟩
    have hs5 := HBZ.out.size
    clear HLZ q0 q1 q2 q3 q4 q5 b0 b1 b2 b3 b4
    obtain ⟨W6, hW6⟩ : ∃ W, w5.alloc (.cells #[.string x.par, .string x.prt, .int .i64 x.qty, .int .i64 x.fr, .int .i64 x.un, .slice az x.whn.length cz] 36) = W := ⟨_, rfl⟩
    have HW6 := Lib.hid hW6
    have HL6 : Hid (Below w5.heap.size w5 W6) := Lib.hid (by rw [← hW6]; exact (Below.refl _ _).alloc (Nat.le_refl _) _)
    have HZ6 : Hid (W6.heap[w5.heap.size]? = some (.cells #[.string x.par, .string x.prt, .int .i64 x.qty, .int .i64 x.fr, .int .i64 x.un, .slice az x.whn.length cz] 36)) := Lib.hid (by rw [← hW6]; exact heap_alloc_new _ _)
    clear hW6
    have hs6 : w5.heap.size < W6.heap.size := lt_of_heap HZ6.out
    have H46 := Lib.hid (HBZ.out.trans (HL6.out.mono HBZ.out.size))
    have HR6 := Lib.hid (HR4.out.trans (H46.out.mono HR4.out.size))
    have HB6 := Lib.hid (HB.out.trans (HR6.out.mono HB.out.size))
    have HX6 := Lib.hid (blk_below HX4.out H46.out)
    have HY6 := Lib.hid (blk_below HY4.out H46.out)
    have H36 := Lib.hid (HL4.out.trans (H46.out.mono HL4.out.size))
    have HOL6 := Lib.hid (own_keepL HOL.out H36.out)
    have HOZ6 := Lib.hid (own_keepL HOZ.out HL6.out)
    have HZLT : Hid (∀ b, (Value.slice az x.whn.length cz).ownBlock = some b → b < w5.heap.size) := Lib.hid (fun b hb => (HOZ.out.lt b hb).2)
    have HLLT : Hid (∀ b, (Value.slice a3 x.whn.length c3).ownBlock = some b → b < W4.heap.size) := Lib.hid (fun b hb => by have := (HOL.out.lt b hb).2; omega)
    go_upto_region 11 with fail
    rw [HW6.out]
    clear HW6 HX4 HY4
    have q3 := cell_of_row _ _ 3 _ _ _ HY6.out
    have q4 := cell_of_row _ _ 4 _ _ _ HY6.out
    have qf4 := frozen_of_row _ _ 4 _ _ HY6.out
    have b0 := cell_of_row _ _ 0 _ _ _ HX6.out
    by_cases hfr : x.fr < dy
    rotate_left
    · have hq4 : decide (x.fr < dy) = false := decide_eq_false hfr
      have HFR : Hid ((if x.fr < dy then dy else x.fr) = x.fr) := Lib.hid (if_neg hfr)
      have HA1 : Hid (aft1 ⟨dy, pa, ou, inn, qy⟩ x = []) := Lib.hid (aft1_no hfr)
      clear hfr
      obtain ⟨rs, hrec, hrl, hown⟩ := (HO.out.below HR6.out).recs
      have HRECc := Lib.hid hrec
      have HRLc := Lib.hid hrl
      have HOWNc := Lib.hid hown
      have RBc := Lib.hid ((RowsB.of hown).mono (show wr.heap.size ≤ W4.heap.size by omega))
      have HNEc : Hid ((Value.slice p ys.length q).ownBlock ≠ some w5.heap.size) := Lib.hid (fun e => by have := hown.sp _ e; omega)
      have HTOP : Hid (wr.heap.size ≤ W6.heap.size) := Lib.hid (by omega)
      have HZc := HZ6
      have HXc := HX6
      have HOZc := HOZ6
      have HBc := HB6
      clear hrec hrl hown HZ6 HX6 HOZ6 HB6 HY6
      go_upto_region 15 with fail
      clear q3 q4 qf4 b0
      have b3 := cell_of_row _ _ 3 _ _ _ HXc.out
      have z1 := cell_of_row _ _ 1 _ _ _ HZc.out
      have zf1 := frozen_of_row _ _ 1 _ _ HZc.out
      obtain ⟨V1, hV1⟩ : ∃ W, W6.setCell ⟨w5.heap.size, 1, none⟩ (.string inn) = W := ⟨_, rfl⟩
      have HV1 := Lib.hid hV1
      have hzV1 : V1.heap.size = W6.heap.size := by rw [← hV1]; simp
      have HSV1 := Lib.hid hzV1
      clear hzV1
      have HZn : Hid (V1.heap[w5.heap.size]? = some (.cells #[.string x.par, .string inn, .int .i64 x.qty, .int .i64 x.fr, .int .i64 x.un, .slice az x.whn.length cz] 36)) := Lib.hid (by rw [← hV1]; exact heap_setCell_same _ _ 1 _ _ _ HZc.out)
      have HXn : Hid (V1.heap[w.heap.size]? = some (.cells #[.int .i64 dy, .string pa, .string ou, .string inn, .int .i64 qy] 27)) := Lib.hid (by rw [← hV1]; exact (heap_setCell_other _ _ _ _ (by simp only []; omega)).trans HXc.out)
      have HOWNn := Lib.hid (OwnN.setx (i := 1) (x := (.string inn)) HOWNc.out HNEc.out (fun q hq y hy e => by have := RBc.out q hq y hy _ e; omega))
      have HOZn : Hid ((W6.setCell ⟨w5.heap.size, 1, none⟩ (.string inn)).ownsRow W4.heap.size 110 3 (.slice az x.whn.length cz) x.whn.length (CN.cells x.whn)) := Lib.hid (ownsRow_setCell_other HOZc.out (fun e => by have := HZLT.out _ e; simp at this) (.string inn))
      have HBn := Lib.hid (HBc.out.setCell (p := ⟨w5.heap.size, 1, none⟩) (by simp only []; omega) (.string inn))
      rw [hV1] at HOWNn HOZn HBn
      clear hV1 HZc HXc HOWNc HOZc HBc
      have HZc := HZn
      have HXc := HXn
      have HOWNc := HOWNn
      have HOZc := HOZn
      have HBc := HBn
      clear HZn HXn HOWNn HOZn HBn
      have hlV1 : W6.heap.size ≤ V1.heap.size := by rw [HSV1.out]; exact Nat.le_refl _
      go_upto_region 16 with fail
      rw [HV1.out]
      clear HV1
      clear b3 z1 zf1
      by_cases hqy : 0 < qy
      · have hqd : decide (0 < qy) = true := decide_eq_true hqy
        have b4 := cell_of_row _ _ 4 _ _ _ HXc.out
        have z2 := cell_of_row _ _ 2 _ _ _ HZc.out
        have zf2 := frozen_of_row _ _ 2 _ _ HZc.out
        have HQ : Hid ((if 0 < qy then qy else x.qty) = qy) := Lib.hid (if_pos hqy)
        clear hqy
        obtain ⟨V2, hV2⟩ : ∃ W, V1.setCell ⟨w5.heap.size, 2, none⟩ (.int .i64 qy) = W := ⟨_, rfl⟩
        have HV2 := Lib.hid hV2
        have hzV2 : V2.heap.size = V1.heap.size := by rw [← hV2]; simp
        have HSV2 := Lib.hid hzV2
        clear hzV2
        have HZn : Hid (V2.heap[w5.heap.size]? = some (.cells #[.string x.par, .string inn, .int .i64 qy, .int .i64 x.fr, .int .i64 x.un, .slice az x.whn.length cz] 36)) := Lib.hid (by rw [← hV2]; exact heap_setCell_same _ _ 2 _ _ _ HZc.out)
        have HXn : Hid (V2.heap[w.heap.size]? = some (.cells #[.int .i64 dy, .string pa, .string ou, .string inn, .int .i64 qy] 27)) := Lib.hid (by rw [← hV2]; exact (heap_setCell_other _ _ _ _ (by simp only []; omega)).trans HXc.out)
        have HOWNn := Lib.hid (OwnN.setx (i := 2) (x := (.int .i64 qy)) HOWNc.out HNEc.out (fun q hq y hy e => by have := RBc.out q hq y hy _ e; omega))
        have HOZn : Hid ((V1.setCell ⟨w5.heap.size, 2, none⟩ (.int .i64 qy)).ownsRow W4.heap.size 110 3 (.slice az x.whn.length cz) x.whn.length (CN.cells x.whn)) := Lib.hid (ownsRow_setCell_other HOZc.out (fun e => by have := HZLT.out _ e; simp at this) (.int .i64 qy))
        have HBn := Lib.hid (HBc.out.setCell (p := ⟨w5.heap.size, 2, none⟩) (by simp only []; omega) (.int .i64 qy))
        rw [hV2] at HOWNn HOZn HBn
        clear hV2 HZc HXc HOWNc HOZc HBc
        have HZc := HZn
        have HXc := HXn
        have HOWNc := HOWNn
        have HOZc := HOZn
        have HBc := HBn
        clear HZn HXn HOWNn HOZn HBn
        have hlV2 : V1.heap.size ≤ V2.heap.size := by rw [HSV2.out]; exact Nat.le_refl _
        go_upto_region 18 with fail
        rw [HV2.out]
        clear HV2
        clear b4 z2 zf2
        have b3 := cell_of_row _ _ 3 _ _ _ HXc.out
        by_cases he : inn = ByteArray.empty
        · have he1 : inn.toList.isEmpty = true := by rw [he, ByteArray.toList_eq]; rfl
          have HF : Hid (aft ⟨dy, pa, ou, inn, qy⟩ x = ([] : List BL)) := Lib.hid (by rw [HHIT.out, aft2_no he, List.append_nil]; exact HA1.out)
          clear he
          have HOF := Lib.hid (show BX.Own w0.heap.size V2.heap.size V2 (.slice p ys.length q) (ys) from ⟨_, HRECc.out, HOWNc.out.top (by have := HTOP.out; omega)⟩)
          go_wp2_with fail
          go_roundw
          case rel => exact ⟨k + 1, ys, p, q, by have := HLT.out; omega, by go_num, by simp, by have := hyk; simp; omega, Lib.hid (by rw [HT.out, ← HY.out, HF.out]; simp), by simpa using HOF, HBc⟩
          case measure => have := HLT.out; simp [intOf]; omega
        have he1 := txt_ne he
        have HF : Hid (aft ⟨dy, pa, ou, inn, qy⟩ x = ([] : List BL) ++ [({ par := x.par, prt := inn, qty := qy, fr := x.fr, un := x.un, whn := x.whn } : BL)]) := Lib.hid (by rw [HHIT.out, aft2_yes he, HA1.out]; unfold aftL; rw [HQ.out, HFR.out])
        clear he
        have z0 := cell_of_row _ _ 0 _ _ _ HZc.out
        have z1 := cell_of_row _ _ 1 _ _ _ HZc.out
        have z2 := cell_of_row _ _ 2 _ _ _ HZc.out
        have z3 := cell_of_row _ _ 3 _ _ _ HZc.out
        have z4 := cell_of_row _ _ 4 _ _ _ HZc.out
        have z5 := cell_of_row _ _ 5 _ _ _ HZc.out
        have HRW : Hid (V2.ownsRow w0.heap.size 36 6 (.slice p ys.length q) ys.length (flatN rs)) := Lib.hid (by have h1 := HOWNc.out.row; rw [HRLc.out] at h1; exact h1)
        go_wp2_with (at_builtin; refine wpList_append_own _ rfl _ _ 25 rfl w0.heap.size 36 i0 (.agg #[.string ByteArray.empty, .string ByteArray.empty, .int .i64 0, .int .i64 0, .int .i64 0, .slice none 0 0]) 6 80 Try.underlying25 hi0 hz0 hz1 hz2 rfl (by decide) _ ys.length (flatN rs) rfl (HRW.out.alloc _) ⟨V2.heap.size, 0, none⟩ 1 1 [.string x.par, .string inn, .int .i64 qy, .int .i64 x.fr, .int .i64 x.un, .slice az x.whn.length cz] rfl rfl (new_6 _ _ _ _ _ _ _ _) (by intro u hu; simp at hu; rcases hu with rfl | rfl | rfl | rfl | rfl | rfl <;> rfl) (by unfold maxLen; omega) (by omega) (by simp; omega) ?_)
        intro v4 w10 ho hg _
        obtain ⟨p2, q2, rfl⟩ := own_sliceN ho
        have HOF : Hid (BX.Own w0.heap.size w10.heap.size w10 (.slice p2 (ys.length + 1) q2) (ys ++ [({ par := x.par, prt := inn, qty := qy, fr := x.fr, un := x.un, whn := x.whn } : BL)])) := Lib.hid ⟨_, HRECc.out.push (({ par := x.par, prt := inn, qty := qy, fr := x.fr, un := x.un, whn := x.whn } : BL)) _, BX.pushR (HOWNc.out.below ((Below.refl _ _).alloc (Nat.le_refl _) _)) (HOZc.out.alloc _) RBc.out (by omega) (by rw [HRLc.out]; exact ho) hg⟩
        have HBF := Lib.hid ((HBc.out.alloc HBc.out.size _).grown hg (by simp; omega) (fun g hg2 => (HRW.out.lt g hg2).1))
        clear ho hg
        go_wp2_with fail
        go_roundw
        case rel => exact ⟨k + 1, (ys) ++ [({ par := x.par, prt := inn, qty := qy, fr := x.fr, un := x.un, whn := x.whn } : BL)], p2, q2, by have := HLT.out; omega, by go_num, by simp, by have := hyk; simp; omega, Lib.hid (by rw [HT.out, ← HY.out, HF.out]; simp), by simpa using HOF, HBF⟩
        case measure => have := HLT.out; simp [intOf]; omega
      · have hqd : decide (0 < qy) = false := decide_eq_false hqy
        have b4 := cell_of_row _ _ 4 _ _ _ HXc.out
        have HQ : Hid ((if 0 < qy then qy else x.qty) = x.qty) := Lib.hid (if_neg hqy)
        clear hqy
        go_upto_region 18 with fail
        clear b4
        have b3 := cell_of_row _ _ 3 _ _ _ HXc.out
        by_cases he : inn = ByteArray.empty
        · have he1 : inn.toList.isEmpty = true := by rw [he, ByteArray.toList_eq]; rfl
          have HF : Hid (aft ⟨dy, pa, ou, inn, qy⟩ x = ([] : List BL)) := Lib.hid (by rw [HHIT.out, aft2_no he, List.append_nil]; exact HA1.out)
          clear he
          have HOF := Lib.hid (show BX.Own w0.heap.size V1.heap.size V1 (.slice p ys.length q) (ys) from ⟨_, HRECc.out, HOWNc.out.top (by have := HTOP.out; omega)⟩)
          go_wp2_with fail
          go_roundw
          case rel => exact ⟨k + 1, ys, p, q, by have := HLT.out; omega, by go_num, by simp, by have := hyk; simp; omega, Lib.hid (by rw [HT.out, ← HY.out, HF.out]; simp), by simpa using HOF, HBc⟩
          case measure => have := HLT.out; simp [intOf]; omega
        have he1 := txt_ne he
        have HF : Hid (aft ⟨dy, pa, ou, inn, qy⟩ x = ([] : List BL) ++ [({ par := x.par, prt := inn, qty := x.qty, fr := x.fr, un := x.un, whn := x.whn } : BL)]) := Lib.hid (by rw [HHIT.out, aft2_yes he, HA1.out]; unfold aftL; rw [HQ.out, HFR.out])
        clear he
        have z0 := cell_of_row _ _ 0 _ _ _ HZc.out
        have z1 := cell_of_row _ _ 1 _ _ _ HZc.out
        have z2 := cell_of_row _ _ 2 _ _ _ HZc.out
        have z3 := cell_of_row _ _ 3 _ _ _ HZc.out
        have z4 := cell_of_row _ _ 4 _ _ _ HZc.out
        have z5 := cell_of_row _ _ 5 _ _ _ HZc.out
        have HRW : Hid (V1.ownsRow w0.heap.size 36 6 (.slice p ys.length q) ys.length (flatN rs)) := Lib.hid (by have h1 := HOWNc.out.row; rw [HRLc.out] at h1; exact h1)
        go_wp2_with (at_builtin; refine wpList_append_own _ rfl _ _ 25 rfl w0.heap.size 36 i0 (.agg #[.string ByteArray.empty, .string ByteArray.empty, .int .i64 0, .int .i64 0, .int .i64 0, .slice none 0 0]) 6 80 Try.underlying25 hi0 hz0 hz1 hz2 rfl (by decide) _ ys.length (flatN rs) rfl (HRW.out.alloc _) ⟨V1.heap.size, 0, none⟩ 1 1 [.string x.par, .string inn, .int .i64 x.qty, .int .i64 x.fr, .int .i64 x.un, .slice az x.whn.length cz] rfl rfl (new_6 _ _ _ _ _ _ _ _) (by intro u hu; simp at hu; rcases hu with rfl | rfl | rfl | rfl | rfl | rfl <;> rfl) (by unfold maxLen; omega) (by omega) (by simp; omega) ?_)
        intro v4 w10 ho hg _
        obtain ⟨p2, q2, rfl⟩ := own_sliceN ho
        have HOF : Hid (BX.Own w0.heap.size w10.heap.size w10 (.slice p2 (ys.length + 1) q2) (ys ++ [({ par := x.par, prt := inn, qty := x.qty, fr := x.fr, un := x.un, whn := x.whn } : BL)])) := Lib.hid ⟨_, HRECc.out.push (({ par := x.par, prt := inn, qty := x.qty, fr := x.fr, un := x.un, whn := x.whn } : BL)) _, BX.pushR (HOWNc.out.below ((Below.refl _ _).alloc (Nat.le_refl _) _)) (HOZc.out.alloc _) RBc.out (by omega) (by rw [HRLc.out]; exact ho) hg⟩
        have HBF := Lib.hid ((HBc.out.alloc HBc.out.size _).grown hg (by simp; omega) (fun g hg2 => (HRW.out.lt g hg2).1))
        clear ho hg
        go_wp2_with fail
        go_roundw
        case rel => exact ⟨k + 1, (ys) ++ [({ par := x.par, prt := inn, qty := x.qty, fr := x.fr, un := x.un, whn := x.whn } : BL)], p2, q2, by have := HLT.out; omega, by go_num, by simp, by have := hyk; simp; omega, Lib.hid (by rw [HT.out, ← HY.out, HF.out]; simp), by simpa using HOF, HBF⟩
        case measure => have := HLT.out; simp [intOf]; omega
    have hq4 : decide (x.fr < dy) = true := decide_eq_true hfr
    have HFR : Hid ((if x.fr < dy then dy else x.fr) = dy) := Lib.hid (if_pos hfr)
    have HA1 : Hid (aft1 ⟨dy, pa, ou, inn, qy⟩ x = [{ x with un := dy - 1 }]) := Lib.hid (aft1_yes hfr)
    clear hfr
    obtain ⟨W7, hW7⟩ : ∃ W, W6.setCell ⟨w3.heap.size, 4, none⟩ (.int .i64 (dy - 1)) = W := ⟨_, rfl⟩
    have HW7 := Lib.hid hW7
    have hz7 : W7.heap.size = W6.heap.size := by rw [← hW7]; simp
    have HS7 := Lib.hid hz7
    clear hz7
    have hl7 : W6.heap.size ≤ W7.heap.size := by rw [HS7.out]; exact Nat.le_refl _
    have HY7 : Hid (W7.heap[w3.heap.size]? = some (.cells #[.string x.par, .string x.prt, .int .i64 x.qty, .int .i64 x.fr, .int .i64 (dy - 1), .slice a3 x.whn.length c3] 36)) := Lib.hid (by rw [← hW7]; exact heap_setCell_same _ _ 4 _ _ _ HY6.out)
    have HZ7 : Hid (W7.heap[w5.heap.size]? = some (.cells #[.string x.par, .string x.prt, .int .i64 x.qty, .int .i64 x.fr, .int .i64 x.un, .slice az x.whn.length cz] 36)) := Lib.hid (by rw [← hW7]; exact (heap_setCell_other _ _ _ _ (by simp only []; omega)).trans HZ6.out)
    have HX7 : Hid (W7.heap[w.heap.size]? = some (.cells #[.int .i64 dy, .string pa, .string ou, .string inn, .int .i64 qy] 27)) := Lib.hid (by rw [← hW7]; exact (heap_setCell_other _ _ _ _ (by simp only []; omega)).trans HX6.out)
    have HR7 := Lib.hid (HR6.out.setCell (p := ⟨w3.heap.size, 4, none⟩) (by simp only []; omega) (.int .i64 (dy - 1)))
    have H37 := Lib.hid (H36.out.setCell (p := ⟨w3.heap.size, 4, none⟩) (Nat.le_refl _) (.int .i64 (dy - 1)))
    have HOZ7 := Lib.hid (own_setlow HOZ6.out w3.heap.size 4 (.int .i64 (dy - 1)) (by omega))
    rw [hW7] at HR7 H37 HOZ7
    clear hW7
    have HB7 := Lib.hid (HB.out.trans (HR7.out.mono HB.out.size))
    have HOL7 := Lib.hid (own_keepL HOL.out H37.out)
    obtain ⟨rs, hrec, hrl, hown⟩ := (HO.out.below HR7.out).recs
    have HREC := Lib.hid hrec
    have HRL := Lib.hid hrl
    have HOWN := Lib.hid hown
    have HSP : Hid (∀ b, (Value.slice p ys.length q).ownBlock = some b → w0.heap.size ≤ b ∧ b < wr.heap.size) := Lib.hid (fun b hb => hown.sp b hb)
    clear hrec hrl hown HZ6 HX6 HOZ6 HB6 HY6
    go_upto_region 13 with fail
    rw [HW7.out]
    clear HW7 q3 q4 qf4 b0
    have q0 := cell_of_row _ _ 0 _ _ _ HY7.out
    have q1 := cell_of_row _ _ 1 _ _ _ HY7.out
    have q2 := cell_of_row _ _ 2 _ _ _ HY7.out
    have q3 := cell_of_row _ _ 3 _ _ _ HY7.out
    have q4 := cell_of_row _ _ 4 _ _ _ HY7.out
    have q5 := cell_of_row _ _ 5 _ _ _ HY7.out
    have HRW : Hid (W7.ownsRow w0.heap.size 36 6 (.slice p ys.length q) ys.length (flatN rs)) := Lib.hid (by have h1 := HOWN.out.row; rw [HRL.out] at h1; exact h1)
    go_upto_region 14 with (at_builtin; refine wpList_append_apt rfl _ _ 25 rfl w0.heap.size 36 i0 (.agg #[.string ByteArray.empty, .string ByteArray.empty, .int .i64 0, .int .i64 0, .int .i64 0, .slice none 0 0]) 6 80 Try.underlying25 hi0 hz0 hz1 hz2 rfl (by decide) _ ys.length (flatN rs) rfl (HRW.out.alloc _) ⟨W7.heap.size, 0, none⟩ 1 1 [.string x.par, .string x.prt, .int .i64 x.qty, .int .i64 x.fr, .int .i64 (dy - 1), .slice a3 x.whn.length c3] (by decide) rfl rfl (new_6 _ _ _ _ _ _ _ _) (by intro u hu; simp at hu; rcases hu with rfl | rfl | rfl | rfl | rfl | rfl <;> rfl) (by omega) (by omega) (by simp; omega) ?_; intro g8 q8 w8 ho hg hsep)
    have HNEc : Hid ((Value.slice (some ⟨g8, 0, none⟩) (ys.length + 1) q8).ownBlock ≠ some w5.heap.size) := Lib.hid (fun e => by
      have e2 : g8 = w5.heap.size := by simpa [Value.ownBlock] using e
      rcases hsep with h1 | h1
      · have := HSP.out _ h1; omega
      · simp at h1; omega)
    have HOWNc : Hid (OwnN 6 5 3 36 110 w0.heap.size w8.heap.size w8 (.slice (some ⟨g8, 0, none⟩) (ys.length + 1) q8) (rs ++ [BL.rec1 ({ x with un := dy - 1 } : BL) (.slice a3 x.whn.length c3)])) := Lib.hid (BX.pushR (x := ({ x with un := dy - 1 } : BL)) (HOWN.out.below ((Below.refl _ _).alloc (Nat.le_refl _) _)) (HOL7.out.alloc _) (RowsB.of HOWN.out) (by omega) (by rw [HRL.out]; exact ho) hg)
    have HRECc : Hid (BX.RecN (ys ++ [({ x with un := dy - 1 } : BL)]) (rs ++ [BL.rec1 ({ x with un := dy - 1 } : BL) (.slice a3 x.whn.length c3)])) := Lib.hid (HREC.out.push _ _)
    have HRLc : Hid ((rs ++ [BL.rec1 ({ x with un := dy - 1 } : BL) (.slice a3 x.whn.length c3)]).length = ys.length + 1) := Lib.hid (by rw [HRECc.out.1]; simp)
    have RBc : Hid (RowsB W4.heap.size (rs ++ [BL.rec1 ({ x with un := dy - 1 } : BL) (.slice a3 x.whn.length c3)])) := Lib.hid (((RowsB.of HOWN.out).mono (show wr.heap.size ≤ W4.heap.size by omega)).push HLLT.out)
    have HZc := Lib.hid ((hg.block w5.heap.size (by simp; omega) (fun e => by have := HSP.out _ e.symm; omega)).trans (blk_alloc HZ7.out _))
    have HXc := Lib.hid ((hg.block w.heap.size (by simp; omega) (fun e => by have := HSP.out _ e.symm; omega)).trans (blk_alloc HX7.out _))
    have HOZc := Lib.hid (own_keptT (HRW.out.alloc _) (HOZ7.out.alloc _) hg)
    have HBc := Lib.hid ((HB7.out.alloc HB7.out.size _).grown hg (by simp; omega) (fun g hg2 => (HRW.out.lt g hg2).1))
    have hs8 : W7.heap.size ≤ w8.heap.size := by have h := hg.size; simp at h; omega
    have HTOP : Hid (w8.heap.size ≤ w8.heap.size) := Lib.hid (Nat.le_refl _)
    clear ho hg hsep HZ7 HX7 HOZ7 HB7 HY7 HR7 H37 HOL7 HRW q0 q1 q2 q3 q4 q5 HREC HRL HOWN
    have HLE1 : Hid ((ys ++ [({ x with un := dy - 1 } : BL)]).length = ys.length + 1) := Lib.hid (by simp)
    have b0 := cell_of_row _ _ 0 _ _ _ HXc.out
    have z3 := cell_of_row _ _ 3 _ _ _ HZc.out
    have zf3 := frozen_of_row _ _ 3 _ _ HZc.out
    obtain ⟨V0, hV0⟩ : ∃ W, w8.setCell ⟨w5.heap.size, 3, none⟩ (.int .i64 dy) = W := ⟨_, rfl⟩
    have HV0 := Lib.hid hV0
    have hzV0 : V0.heap.size = w8.heap.size := by rw [← hV0]; simp
    have HSV0 := Lib.hid hzV0
    clear hzV0
    have HZn : Hid (V0.heap[w5.heap.size]? = some (.cells #[.string x.par, .string x.prt, .int .i64 x.qty, .int .i64 dy, .int .i64 x.un, .slice az x.whn.length cz] 36)) := Lib.hid (by rw [← hV0]; exact heap_setCell_same _ _ 3 _ _ _ HZc.out)
    have HXn : Hid (V0.heap[w.heap.size]? = some (.cells #[.int .i64 dy, .string pa, .string ou, .string inn, .int .i64 qy] 27)) := Lib.hid (by rw [← hV0]; exact (heap_setCell_other _ _ _ _ (by simp only []; omega)).trans HXc.out)
    have HOWNn := Lib.hid (OwnN.setx (i := 3) (x := (.int .i64 dy)) HOWNc.out HNEc.out (fun q hq y hy e => by have := RBc.out q hq y hy _ e; omega))
    have HOZn : Hid ((w8.setCell ⟨w5.heap.size, 3, none⟩ (.int .i64 dy)).ownsRow W4.heap.size 110 3 (.slice az x.whn.length cz) x.whn.length (CN.cells x.whn)) := Lib.hid (ownsRow_setCell_other HOZc.out (fun e => by have := HZLT.out _ e; simp at this) (.int .i64 dy))
    have HBn := Lib.hid (HBc.out.setCell (p := ⟨w5.heap.size, 3, none⟩) (by simp only []; omega) (.int .i64 dy))
    rw [hV0] at HOWNn HOZn HBn
    clear hV0 HZc HXc HOWNc HOZc HBc
    have HZc := HZn
    have HXc := HXn
    have HOWNc := HOWNn
    have HOZc := HOZn
    have HBc := HBn
    clear HZn HXn HOWNn HOZn HBn
    have hlV0 : w8.heap.size ≤ V0.heap.size := by rw [HSV0.out]; exact Nat.le_refl _
    go_upto_region 15 with fail
    rw [HV0.out]
    clear HV0
    clear b0 z3 zf3
    have b3 := cell_of_row _ _ 3 _ _ _ HXc.out
    have z1 := cell_of_row _ _ 1 _ _ _ HZc.out
    have zf1 := frozen_of_row _ _ 1 _ _ HZc.out
    obtain ⟨V1, hV1⟩ : ∃ W, V0.setCell ⟨w5.heap.size, 1, none⟩ (.string inn) = W := ⟨_, rfl⟩
    have HV1 := Lib.hid hV1
    have hzV1 : V1.heap.size = V0.heap.size := by rw [← hV1]; simp
    have HSV1 := Lib.hid hzV1
    clear hzV1
    have HZn : Hid (V1.heap[w5.heap.size]? = some (.cells #[.string x.par, .string inn, .int .i64 x.qty, .int .i64 dy, .int .i64 x.un, .slice az x.whn.length cz] 36)) := Lib.hid (by rw [← hV1]; exact heap_setCell_same _ _ 1 _ _ _ HZc.out)
    have HXn : Hid (V1.heap[w.heap.size]? = some (.cells #[.int .i64 dy, .string pa, .string ou, .string inn, .int .i64 qy] 27)) := Lib.hid (by rw [← hV1]; exact (heap_setCell_other _ _ _ _ (by simp only []; omega)).trans HXc.out)
    have HOWNn := Lib.hid (OwnN.setx (i := 1) (x := (.string inn)) HOWNc.out HNEc.out (fun q hq y hy e => by have := RBc.out q hq y hy _ e; omega))
    have HOZn : Hid ((V0.setCell ⟨w5.heap.size, 1, none⟩ (.string inn)).ownsRow W4.heap.size 110 3 (.slice az x.whn.length cz) x.whn.length (CN.cells x.whn)) := Lib.hid (ownsRow_setCell_other HOZc.out (fun e => by have := HZLT.out _ e; simp at this) (.string inn))
    have HBn := Lib.hid (HBc.out.setCell (p := ⟨w5.heap.size, 1, none⟩) (by simp only []; omega) (.string inn))
    rw [hV1] at HOWNn HOZn HBn
    clear hV1 HZc HXc HOWNc HOZc HBc
    have HZc := HZn
    have HXc := HXn
    have HOWNc := HOWNn
    have HOZc := HOZn
    have HBc := HBn
    clear HZn HXn HOWNn HOZn HBn
    have hlV1 : V0.heap.size ≤ V1.heap.size := by rw [HSV1.out]; exact Nat.le_refl _
    go_upto_region 16 with fail
    rw [HV1.out]
    clear HV1
    clear b3 z1 zf1
    by_cases hqy : 0 < qy
    · have hqd : decide (0 < qy) = true := decide_eq_true hqy
      have b4 := cell_of_row _ _ 4 _ _ _ HXc.out
      have z2 := cell_of_row _ _ 2 _ _ _ HZc.out
      have zf2 := frozen_of_row _ _ 2 _ _ HZc.out
      have HQ : Hid ((if 0 < qy then qy else x.qty) = qy) := Lib.hid (if_pos hqy)
      clear hqy
      obtain ⟨V2, hV2⟩ : ∃ W, V1.setCell ⟨w5.heap.size, 2, none⟩ (.int .i64 qy) = W := ⟨_, rfl⟩
      have HV2 := Lib.hid hV2
      have hzV2 : V2.heap.size = V1.heap.size := by rw [← hV2]; simp
      have HSV2 := Lib.hid hzV2
      clear hzV2
      have HZn : Hid (V2.heap[w5.heap.size]? = some (.cells #[.string x.par, .string inn, .int .i64 qy, .int .i64 dy, .int .i64 x.un, .slice az x.whn.length cz] 36)) := Lib.hid (by rw [← hV2]; exact heap_setCell_same _ _ 2 _ _ _ HZc.out)
      have HXn : Hid (V2.heap[w.heap.size]? = some (.cells #[.int .i64 dy, .string pa, .string ou, .string inn, .int .i64 qy] 27)) := Lib.hid (by rw [← hV2]; exact (heap_setCell_other _ _ _ _ (by simp only []; omega)).trans HXc.out)
      have HOWNn := Lib.hid (OwnN.setx (i := 2) (x := (.int .i64 qy)) HOWNc.out HNEc.out (fun q hq y hy e => by have := RBc.out q hq y hy _ e; omega))
      have HOZn : Hid ((V1.setCell ⟨w5.heap.size, 2, none⟩ (.int .i64 qy)).ownsRow W4.heap.size 110 3 (.slice az x.whn.length cz) x.whn.length (CN.cells x.whn)) := Lib.hid (ownsRow_setCell_other HOZc.out (fun e => by have := HZLT.out _ e; simp at this) (.int .i64 qy))
      have HBn := Lib.hid (HBc.out.setCell (p := ⟨w5.heap.size, 2, none⟩) (by simp only []; omega) (.int .i64 qy))
      rw [hV2] at HOWNn HOZn HBn
      clear hV2 HZc HXc HOWNc HOZc HBc
      have HZc := HZn
      have HXc := HXn
      have HOWNc := HOWNn
      have HOZc := HOZn
      have HBc := HBn
      clear HZn HXn HOWNn HOZn HBn
      have hlV2 : V1.heap.size ≤ V2.heap.size := by rw [HSV2.out]; exact Nat.le_refl _
      go_upto_region 18 with fail
      rw [HV2.out]
      clear HV2
      clear b4 z2 zf2
      have b3 := cell_of_row _ _ 3 _ _ _ HXc.out
      by_cases he : inn = ByteArray.empty
      · have he1 : inn.toList.isEmpty = true := by rw [he, ByteArray.toList_eq]; rfl
        have HF : Hid (aft ⟨dy, pa, ou, inn, qy⟩ x = [({ x with un := dy - 1 } : BL)]) := Lib.hid (by rw [HHIT.out, aft2_no he, List.append_nil]; exact HA1.out)
        clear he
        have HOF := Lib.hid (show BX.Own w0.heap.size V2.heap.size V2 (.slice (some ⟨g8, 0, none⟩) (ys.length + 1) q8) (ys ++ [({ x with un := dy - 1 } : BL)]) from ⟨_, HRECc.out, HOWNc.out.top (by have := HTOP.out; omega)⟩)
        go_wp2_with fail
        go_roundw
        case rel => exact ⟨k + 1, ys ++ [({ x with un := dy - 1 } : BL)], (some ⟨g8, 0, none⟩), q8, by have := HLT.out; omega, by go_num, by simp, by have := hyk; simp; omega, Lib.hid (by rw [HT.out, ← HY.out, HF.out]), by simpa using HOF, HBc⟩
        case measure => have := HLT.out; simp [intOf]; omega
      have he1 := txt_ne he
      have HF : Hid (aft ⟨dy, pa, ou, inn, qy⟩ x = [({ x with un := dy - 1 } : BL)] ++ [({ par := x.par, prt := inn, qty := qy, fr := dy, un := x.un, whn := x.whn } : BL)]) := Lib.hid (by rw [HHIT.out, aft2_yes he, HA1.out]; unfold aftL; rw [HQ.out, HFR.out])
      clear he
      have z0 := cell_of_row _ _ 0 _ _ _ HZc.out
      have z1 := cell_of_row _ _ 1 _ _ _ HZc.out
      have z2 := cell_of_row _ _ 2 _ _ _ HZc.out
      have z3 := cell_of_row _ _ 3 _ _ _ HZc.out
      have z4 := cell_of_row _ _ 4 _ _ _ HZc.out
      have z5 := cell_of_row _ _ 5 _ _ _ HZc.out
      have HRW : Hid (V2.ownsRow w0.heap.size 36 6 (.slice (some ⟨g8, 0, none⟩) (ys.length + 1) q8) (ys.length + 1) (flatN (rs ++ [BL.rec1 ({ x with un := dy - 1 } : BL) (.slice a3 x.whn.length c3)]))) := Lib.hid (by have h1 := HOWNc.out.row; rw [HRLc.out] at h1; exact h1)
      go_wp2_with (at_builtin; refine wpList_append_own _ rfl _ _ 25 rfl w0.heap.size 36 i0 (.agg #[.string ByteArray.empty, .string ByteArray.empty, .int .i64 0, .int .i64 0, .int .i64 0, .slice none 0 0]) 6 80 Try.underlying25 hi0 hz0 hz1 hz2 rfl (by decide) _ (ys.length + 1) (flatN (rs ++ [BL.rec1 ({ x with un := dy - 1 } : BL) (.slice a3 x.whn.length c3)])) rfl (HRW.out.alloc _) ⟨V2.heap.size, 0, none⟩ 1 1 [.string x.par, .string inn, .int .i64 qy, .int .i64 dy, .int .i64 x.un, .slice az x.whn.length cz] rfl rfl (new_6 _ _ _ _ _ _ _ _) (by intro u hu; simp at hu; rcases hu with rfl | rfl | rfl | rfl | rfl | rfl <;> rfl) (by unfold maxLen; omega) (by omega) (by simp; omega) ?_)
      intro v4 w10 ho hg _
      obtain ⟨p2, q2, rfl⟩ := own_sliceN ho
      have HOF : Hid (BX.Own w0.heap.size w10.heap.size w10 (.slice p2 ((ys.length + 1) + 1) q2) ((ys ++ [({ x with un := dy - 1 } : BL)]) ++ [({ par := x.par, prt := inn, qty := qy, fr := dy, un := x.un, whn := x.whn } : BL)])) := Lib.hid ⟨_, HRECc.out.push (({ par := x.par, prt := inn, qty := qy, fr := dy, un := x.un, whn := x.whn } : BL)) _, BX.pushR (HOWNc.out.below ((Below.refl _ _).alloc (Nat.le_refl _) _)) (HOZc.out.alloc _) RBc.out (by omega) (by rw [HRLc.out]; exact ho) hg⟩
      have HBF := Lib.hid ((HBc.out.alloc HBc.out.size _).grown hg (by simp; omega) (fun g hg2 => (HRW.out.lt g hg2).1))
      clear ho hg
      go_wp2_with fail
      go_roundw
      case rel => exact ⟨k + 1, (ys ++ [({ x with un := dy - 1 } : BL)]) ++ [({ par := x.par, prt := inn, qty := qy, fr := dy, un := x.un, whn := x.whn } : BL)], p2, q2, by have := HLT.out; omega, by go_num, by simp, by have := hyk; simp; omega, Lib.hid (by rw [HT.out, ← HY.out, HF.out]; simp), by simpa using HOF, HBF⟩
      case measure => have := HLT.out; simp [intOf]; omega
    · have hqd : decide (0 < qy) = false := decide_eq_false hqy
      have b4 := cell_of_row _ _ 4 _ _ _ HXc.out
      have HQ : Hid ((if 0 < qy then qy else x.qty) = x.qty) := Lib.hid (if_neg hqy)
      clear hqy
      go_upto_region 18 with fail
      clear b4
      have b3 := cell_of_row _ _ 3 _ _ _ HXc.out
      by_cases he : inn = ByteArray.empty
      · have he1 : inn.toList.isEmpty = true := by rw [he, ByteArray.toList_eq]; rfl
        have HF : Hid (aft ⟨dy, pa, ou, inn, qy⟩ x = [({ x with un := dy - 1 } : BL)]) := Lib.hid (by rw [HHIT.out, aft2_no he, List.append_nil]; exact HA1.out)
        clear he
        have HOF := Lib.hid (show BX.Own w0.heap.size V1.heap.size V1 (.slice (some ⟨g8, 0, none⟩) (ys.length + 1) q8) (ys ++ [({ x with un := dy - 1 } : BL)]) from ⟨_, HRECc.out, HOWNc.out.top (by have := HTOP.out; omega)⟩)
        go_wp2_with fail
        go_roundw
        case rel => exact ⟨k + 1, ys ++ [({ x with un := dy - 1 } : BL)], (some ⟨g8, 0, none⟩), q8, by have := HLT.out; omega, by go_num, by simp, by have := hyk; simp; omega, Lib.hid (by rw [HT.out, ← HY.out, HF.out]), by simpa using HOF, HBc⟩
        case measure => have := HLT.out; simp [intOf]; omega
      have he1 := txt_ne he
      have HF : Hid (aft ⟨dy, pa, ou, inn, qy⟩ x = [({ x with un := dy - 1 } : BL)] ++ [({ par := x.par, prt := inn, qty := x.qty, fr := dy, un := x.un, whn := x.whn } : BL)]) := Lib.hid (by rw [HHIT.out, aft2_yes he, HA1.out]; unfold aftL; rw [HQ.out, HFR.out])
      clear he
      have z0 := cell_of_row _ _ 0 _ _ _ HZc.out
      have z1 := cell_of_row _ _ 1 _ _ _ HZc.out
      have z2 := cell_of_row _ _ 2 _ _ _ HZc.out
      have z3 := cell_of_row _ _ 3 _ _ _ HZc.out
      have z4 := cell_of_row _ _ 4 _ _ _ HZc.out
      have z5 := cell_of_row _ _ 5 _ _ _ HZc.out
      have HRW : Hid (V1.ownsRow w0.heap.size 36 6 (.slice (some ⟨g8, 0, none⟩) (ys.length + 1) q8) (ys.length + 1) (flatN (rs ++ [BL.rec1 ({ x with un := dy - 1 } : BL) (.slice a3 x.whn.length c3)]))) := Lib.hid (by have h1 := HOWNc.out.row; rw [HRLc.out] at h1; exact h1)
      go_wp2_with (at_builtin; refine wpList_append_own _ rfl _ _ 25 rfl w0.heap.size 36 i0 (.agg #[.string ByteArray.empty, .string ByteArray.empty, .int .i64 0, .int .i64 0, .int .i64 0, .slice none 0 0]) 6 80 Try.underlying25 hi0 hz0 hz1 hz2 rfl (by decide) _ (ys.length + 1) (flatN (rs ++ [BL.rec1 ({ x with un := dy - 1 } : BL) (.slice a3 x.whn.length c3)])) rfl (HRW.out.alloc _) ⟨V1.heap.size, 0, none⟩ 1 1 [.string x.par, .string inn, .int .i64 x.qty, .int .i64 dy, .int .i64 x.un, .slice az x.whn.length cz] rfl rfl (new_6 _ _ _ _ _ _ _ _) (by intro u hu; simp at hu; rcases hu with rfl | rfl | rfl | rfl | rfl | rfl <;> rfl) (by unfold maxLen; omega) (by omega) (by simp; omega) ?_)
      intro v4 w10 ho hg _
      obtain ⟨p2, q2, rfl⟩ := own_sliceN ho
      have HOF : Hid (BX.Own w0.heap.size w10.heap.size w10 (.slice p2 ((ys.length + 1) + 1) q2) ((ys ++ [({ x with un := dy - 1 } : BL)]) ++ [({ par := x.par, prt := inn, qty := x.qty, fr := dy, un := x.un, whn := x.whn } : BL)])) := Lib.hid ⟨_, HRECc.out.push (({ par := x.par, prt := inn, qty := x.qty, fr := dy, un := x.un, whn := x.whn } : BL)) _, BX.pushR (HOWNc.out.below ((Below.refl _ _).alloc (Nat.le_refl _) _)) (HOZc.out.alloc _) RBc.out (by omega) (by rw [HRLc.out]; exact ho) hg⟩
      have HBF := Lib.hid ((HBc.out.alloc HBc.out.size _).grown hg (by simp; omega) (fun g hg2 => (HRW.out.lt g hg2).1))
      clear ho hg
      go_wp2_with fail
      go_roundw
      case rel => exact ⟨k + 1, (ys ++ [({ x with un := dy - 1 } : BL)]) ++ [({ par := x.par, prt := inn, qty := x.qty, fr := dy, un := x.un, whn := x.whn } : BL)], p2, q2, by have := HLT.out; omega, by go_num, by simp, by have := hyk; simp; omega, Lib.hid (by rw [HT.out, ← HY.out, HF.out]; simp), by simpa using HOF, HBF⟩
      case measure => have := HLT.out; simp [intOf]; omega
end Go.Proofs.Ytdhldokpojghdaa
