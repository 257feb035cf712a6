/-
  The walk of the exact law of ApplyChange, given what the program owes.
-/
import Derived.Test.YtdhldokpojghdaaChgExP
import Derived.WalkKit
import Derived.WalkSpells
import Derived.WalkSmall
import Derived.Deep.DeepCutAuto
import Derived.Deep.RegionHeld3
import Derived.Lib.Hide
namespace Go.Proofs.Ytdhldokpojghdaa
open Go.RowKit

set_option maxRecDepth 100000 in
set_option maxHeartbeats 8000000 in
theorem ex_ApplyChange (v : Value) (xs : List IT) (v2 : Value) (ls : List BL) (x0 : CH) (w : World) (h : IT.Is w v xs) (hm : xs.length ≤ maxLen) (hs : ∀ r, r ∈ xs → IT.Sz r) (h2 : BX 0 w.heap.size w v2 ls) (hs2 : BX.Sz ls) (hsx : CH.Sz x0) (him : ImplApplyChange) :
    Calls Try.prog 7 #[v, v2, CH.val x0] w fun e w' => e = .returned (.bool true) ∧ Below w.heap.size w w' := by
  have HIM := Lib.hid him
  clear him
  have HX := Lib.hid h
  have HS := Lib.hid hs
  have HM := Lib.hid hm
  obtain ⟨a1, c1, rfl⟩ := h.slice
  have HY := Lib.hid h2
  have HS2 := Lib.hid hs2
  obtain ⟨a2, c2, rfl⟩ := h2.slice
  have HSX := Lib.hid hsx
  obtain ⟨dy, pa, ou, inn, qy⟩ := x0
  unfold CH.val
  clear h hs hm h2 hs2 hsx
  have HB_0 : Hid (Below w.heap.size w (w.alloc (.cells #[.int .i64 dy, .string pa, .string ou, .string inn, .int .i64 qy] 47))) := Lib.hid ((Below.refl _ _).alloc (Nat.le_refl _) _)
  have HBX_0 := Lib.hid (heap_alloc_new w (.cells #[.int .i64 dy, .string pa, .string ou, .string inn, .int .i64 qy] 47))
  go_enter Try.func7, Try.ntmps7
  go_upto_region 1 with fail
  generalize w.alloc (.cells #[.int .i64 dy, .string pa, .string ou, .string inn, .int .i64 qy] 47) = wb at *
  have hs_0 : w.heap.size < wb.heap.size := lt_of_heap HBX_0.out
  go_wp2_with fail
  refine (IT.sz_all _ xs 1048576 _ (HX.out.below HB_0.out) (by omega) (by omega) HM.out HS.out).mono ?_
  rintro e w1 ⟨z, rfl, hz0, hz1, hz2, hb⟩
  have HZ2 := Lib.hid hz2
  clear hz2
  have HBX_1 := Lib.hid (blk_below HBX_0.out hb)
  clear HBX_0
  have B_1 := Lib.hid (HB_0.out.trans (hb.mono HB_0.out.size))
  have hs_1 := hb.size
  clear hb
  by_cases hzn : z < 0
  · go_wp2_with fail
    go_ret
    exact ⟨rfl, B_1.out⟩
  have HL : Hid (xs.length ≤ 1048576) := Lib.hid (by have := HZ2.out (by omega); omega)
  clear HZ2
  go_wp2_with fail
  refine (BX.szT _ ls z 0 w.heap.size _ (HY.out.below BLN.kept B_1.out) (by omega) (by omega) HS2.out).mono ?_
  rintro e w2 ⟨z2, rfl, hy0, hy1, hy2, hb⟩
  have HZ3 := Lib.hid hy2
  clear hy2
  have HBX_2 := Lib.hid (blk_below HBX_1.out hb)
  clear HBX_1
  have B_2 := Lib.hid (B_1.out.trans (hb.mono B_1.out.size))
  clear B_1
  have hs_2 := hb.size
  clear hb
  by_cases hzm : z2 < 0
  · go_wp2_with fail
    go_ret
    exact ⟨rfl, B_2.out⟩
  have HSM := Lib.hid (HZ3.out (by omega)).1
  have HTOT : Hid (ls.length + BX.tot ls ≤ 1048576) := Lib.hid (by have := (HZ3.out (by omega)).2; omega)
  clear HZ3
  have kc0 := cell_of_row _ _ 0 _ _ _ HBX_2.out
  have kc1 := cell_of_row _ _ 1 _ _ _ HBX_2.out
  have kc2 := cell_of_row _ _ 2 _ _ _ HBX_2.out
  have kc3 := cell_of_row _ _ 3 _ _ _ HBX_2.out
  have kc4 := cell_of_row _ _ 4 _ _ _ HBX_2.out
  go_wp2_with fail
  refine (ch_szo ⟨dy, pa, ou, inn, qy⟩ z2 _ (by omega) (by omega) HSX.out).mono ?_
  rintro e w3 ⟨rfl, hb⟩
  clear kc0 kc1 kc2 kc3 kc4
  have HBX_3 := Lib.hid (blk_below HBX_2.out hb)
  clear HBX_2
  have B_3 := Lib.hid (B_2.out.trans (hb.mono B_2.out.size))
  clear B_2
  have hs_3 := hb.size
  clear hb
  obtain ⟨z3, hz3⟩ : ∃ r, CH.left (⟨dy, pa, ou, inn, qy⟩ : CH) z2 = r := ⟨_, rfl⟩
  rw [hz3]
  clear hz3
  by_cases hzp : z3 < 0
  · go_wp2_with fail
    go_ret
    exact ⟨rfl, B_3.out⟩
  have HFW := Lib.hid (few_ap xs ls ⟨dy, pa, ou, inn, qy⟩)
  obtain ⟨o, ho⟩ : ∃ o, apO xs ls (⟨dy, pa, ou, inn, qy⟩ : CH) = o := ⟨_, rfl⟩
  have HOO := Lib.hid ho
  rw [ho] at HFW
  clear ho
  obtain ⟨y, hy⟩ : ∃ y, o.isSome = y := ⟨_, rfl⟩
  have HYY := Lib.hid hy
  clear hy
  have hnn : (y != y) = false := by simp
  obtain ⟨zs, hzs⟩ : ∃ zs, o.getD [] = zs := ⟨_, rfl⟩
  have HZS := Lib.hid hzs
  rw [hzs] at HFW
  clear hzs
  have kc0 := cell_of_row _ _ 0 _ _ _ HBX_3.out
  have kc1 := cell_of_row _ _ 1 _ _ _ HBX_3.out
  have kc2 := cell_of_row _ _ 2 _ _ _ HBX_3.out
  have kc3 := cell_of_row _ _ 3 _ _ _ HBX_3.out
  have kc4 := cell_of_row _ _ 4 _ _ _ HBX_3.out
  have HTI : Hid (∀ W, Below w3.heap.size w3 W → Calls Try.prog 27 #[.slice a1 xs.length c1] W fun e w9 => ∃ v9, e = .returned v9 ∧ IT.Is w9 v9 xs ∧ Below W.heap.size W w9) := Lib.hid (fun W hW => toI_at _ xs W (HX.out.below (B_3.out.trans (hW.mono B_3.out.size))) HL.out)
  have HTB : Hid (∀ W, Below w3.heap.size w3 W → Calls Try.prog 32 #[.slice a2 ls.length c2] W fun e w9 => ∃ v9, e = .returned v9 ∧ (∃ lo hi, BX lo hi w9 v9 ls) ∧ Below W.heap.size W w9) := Lib.hid (fun W hW => toB_at _ ls 0 w.heap.size W (B_3.out.trans (hW.mono B_3.out.size)).size (HY.out.below BLN.kept (B_3.out.trans (hW.mono B_3.out.size))) HSM.out)
  have HCON : Hid (∀ (vA vB : Value) W, Below w3.heap.size w3 W → IT.Is W vA xs → (∃ lo hi, BX lo hi W vB ls) → Calls Try.prog 14 #[vA, vB, .agg #[.int .i64 dy, .string pa, .string ou, .string inn, .int .i64 qy]] W fun e w9 => ∃ v9, e = .returned (.tuple #[v9, .bool y]) ∧ BX.Own w3.heap.size w9.heap.size w9 v9 zs ∧ Below W.heap.size W w9) := Lib.hid (fun vA vB W hW hA hB => apOut_at (spec_applyChange vA vB xs ls ⟨dy, pa, ou, inn, qy⟩ _ _ W hA hB.choose_spec.choose_spec (len_maxC HL.out) HS.out HS2.out HSX.out) HOO.out HYY.out HZS.out hW.size)
  go_upto_region 11 with fail
  go_region_held3 (fun W' => Hid (Below w3.heap.size w3 W') ∧ W'.cell? ⟨w.heap.size, 0, none⟩ = some (.int .i64 dy) ∧ W'.cell? ⟨w.heap.size, 1, none⟩ = some (.string pa) ∧ W'.cell? ⟨w.heap.size, 2, none⟩ = some (.string ou) ∧ W'.cell? ⟨w.heap.size, 3, none⟩ = some (.string inn) ∧ W'.cell? ⟨w.heap.size, 4, none⟩ = some (.int .i64 qy))
    (first | assumption | exact hold5 kc0 kc1 kc2 kc3 kc4 (hold_call (by assumption) (by assumption)) | exact hold5 kc0 kc1 kc2 kc3 kc4 (Below.refl _ _).drew)
    (first
      | (go_at_call 27; refine (HTI.out _ (by first | exact (by assumption : Hid (Below w3.heap.size w3 _) ∧ _).1.out | exact Below.refl _ _ | exact (Below.refl _ _).drew)).mono ?_; rintro e wA ⟨vA, rfl, hA, hb⟩; have hle := hold_le (by assumption) hb)
      | (go_at_call 32; refine (HTB.out _ (by first | exact (by assumption : Hid (Below w3.heap.size w3 _) ∧ _).1.out | exact Below.refl _ _ | exact (Below.refl _ _).drew)).mono ?_; rintro e wB ⟨vB, rfl, hB, hb⟩; have hle := hold_le (by assumption) hb; have hA := hA.below (show Below wA.heap.size wA wB from ⟨hb.os, hb.tape, hb.output, hb.size, hb.block⟩))
      | (go_at_call 28; refine (ch_to ⟨dy, pa, ou, inn, qy⟩ _).mono ?_; rintro e wC ⟨rfl, hb⟩; have hle := hold_le (by assumption) hb; have hA := hA.below (show Below wB.heap.size wB wC from ⟨hb.os, hb.tape, hb.output, hb.size, hb.block⟩); have hB : ∃ lo hi, BX lo hi wC vB ls := ⟨_, _, hB.choose_spec.choose_spec.below BLN.kept (show Below wB.heap.size wB wC from ⟨hb.os, hb.tape, hb.output, hb.size, hb.block⟩)⟩)
      | (go_at_call 14; refine (HCON.out vA vB _ (by first | exact (by assumption : Hid (Below w3.heap.size w3 _) ∧ _).1.out | exact Below.refl _ _ | exact (Below.refl _ _).drew) (by first | exact hA | exact hA.below (Below.refl _ _).drew) (by first | exact hB | exact ⟨_, _, hB.choose_spec.choose_spec.below BLN.kept (Below.refl _ _).drew⟩)).mono ?_; rintro e wS ⟨vS, rfl, ho, hb⟩; have hle := hold_le (by assumption) hb))
  have hS := (by assumption : Hid (Below w3.heap.size w3 _) ∧ _)
  obtain ⟨w4, hw4⟩ : ∃ W, W = worldOf hS := ⟨_, rfl⟩
  simp only [worldOf] at hw4
  have hSX : Below wS.heap.size wS w4 := by rw [hw4]; first | exact Below.refl _ _ | exact (Below.refl _ _).drew | exact (Below.refl _ _).drew.drew
  have hb : Below w3.heap.size w3 w4 := by rw [hw4]; exact hS.1.out
  rw [← hw4]
  have hoS := Lib.hid ((ho.below hSX).topw hSX.size)
  clear hw4 hS hSX kc0 kc1 kc2 kc3 kc4 HTI HCON HTB
  have HBX_4 := Lib.hid (blk_below HBX_3.out hb)
  clear HBX_3
  have B_4 := Lib.hid (B_3.out.trans (hb.mono B_3.out.size))
  clear B_3
  have hs_4 := hb.size
  have OS_4 := hoS
  clear hoS
  clear hb
  go_wp2_with fail
  refine (IT.to_all _ xs _ (HX.out.below B_4.out) HL.out).mono ?_
  rintro e w5 ⟨vX, rfl, ho, hb⟩
  have HBX_5 := Lib.hid (blk_below HBX_4.out hb)
  clear HBX_4
  have OS_5 := Lib.hid (OS_4.out.below hb)
  clear OS_4
  have B_5 := Lib.hid (B_4.out.trans (hb.mono B_4.out.size))
  clear B_4
  have hs_5 := hb.size
  have OX_5 := Lib.hid ho
  have SPX : Hid (InSp w4.heap.size w5.heap.size vX) := Lib.hid (fun k hk => OX_5.out.lt k hk)
  clear hb
  clear ho
  go_wp2_with fail
  refine (BX.toO _ ls 0 w.heap.size _ (Nat.le_trans (Nat.le_refl _) B_5.out.size) (HY.out.below BLN.kept B_5.out) HSM.out).mono ?_
  rintro e w6 ⟨vXB, rfl, ho, hbh⟩
  have hb := hbh.out
  clear hbh
  have HBX_6 := Lib.hid (blk_below HBX_5.out hb)
  clear HBX_5
  have OS_6 := Lib.hid (OS_5.out.below hb)
  clear OS_5
  have OX_6 := Lib.hid (own_keepL OX_5.out hb)
  clear OX_5
  have B_6 := Lib.hid (B_5.out.trans (hb.mono B_5.out.size))
  clear B_5
  have hs_6 := hb.size
  have OXB_6 := Lib.hid ho.out
  clear hb
  clear ho
  have kc0 := cell_of_row _ _ 0 _ _ _ HBX_6.out
  have kc1 := cell_of_row _ _ 1 _ _ _ HBX_6.out
  have kc2 := cell_of_row _ _ 2 _ _ _ HBX_6.out
  have kc3 := cell_of_row _ _ 3 _ _ _ HBX_6.out
  have kc4 := cell_of_row _ _ 4 _ _ _ HBX_6.out
  go_wp2_with fail
  refine (ch_to ⟨dy, pa, ou, inn, qy⟩ _).mono ?_
  rintro e w7 ⟨rfl, hb⟩
  clear kc0 kc1 kc2 kc3 kc4
  have HBX_7 := Lib.hid (blk_below HBX_6.out hb)
  clear HBX_6
  have OS_7 := Lib.hid (OS_6.out.below hb)
  clear OS_6
  have OX_7 := Lib.hid (own_keepL OX_6.out hb)
  clear OX_6
  have OXB_7 := Lib.hid (OXB_6.out.below hb)
  clear OXB_6
  have B_7 := Lib.hid (B_6.out.trans (hb.mono B_6.out.size))
  clear B_6
  have hs_7 := hb.size
  clear hb
  go_wp2_with fail
  refine (HIM.out _ _ xs ls ⟨dy, pa, ou, inn, qy⟩ _ _ _ (IT.is_of_row OX_7.out) (len_maxC HL.out) HS.out OXB_7.out.sl HS2.out HSX.out).mono ?_
  rintro e w8 ⟨vG, rfl, ho, hbh⟩
  have hb := hbh.out
  clear hbh
  rw [HOO.out, HZS.out] at ho
  rw [HOO.out, HYY.out]
  have HBX_8 := Lib.hid (blk_below HBX_7.out hb)
  clear HBX_7
  have OS_8 := Lib.hid (OS_7.out.below hb)
  clear OS_7
  have OX_8 := Lib.hid (own_keepL OX_7.out hb)
  clear OX_7
  have OXB_8 := Lib.hid (OXB_7.out.below hb)
  clear OXB_7
  have B_8 := Lib.hid (B_7.out.trans (hb.mono B_7.out.size))
  clear B_7
  have hs_8 := hb.size
  have OG_8 := Lib.hid ho.out
  clear hb
  clear ho
  go_wp2_with fail
  refine (BX.eq _ _ zs _ _ _ _ _ OG_8.out.sl OS_8.out.sl HFW.out.sm).mono ?_
  rintro e w9 ⟨rfl, hb⟩
  have HBX_9 := Lib.hid (blk_below HBX_8.out hb)
  clear HBX_8
  have OS_9 := Lib.hid (OS_8.out.below hb)
  clear OS_8
  have OX_9 := Lib.hid (own_keepL OX_8.out hb)
  clear OX_8
  have OXB_9 := Lib.hid (OXB_8.out.below hb)
  clear OXB_8
  have OG_9 := Lib.hid (OG_8.out.below hb)
  clear OG_8
  have B_9 := Lib.hid (B_8.out.trans (hb.mono B_8.out.size))
  clear B_8
  have hs_9 := hb.size
  clear hb
  go_wp2_with fail
  refine (IT.to_all _ xs _ (HX.out.below B_9.out) HL.out).mono ?_
  rintro e w10 ⟨vC, rfl, ho, hb⟩
  have HBX_10 := Lib.hid (blk_below HBX_9.out hb)
  clear HBX_9
  have OS_10 := Lib.hid (OS_9.out.below hb)
  clear OS_9
  have OX_10 := Lib.hid (own_keepL OX_9.out hb)
  clear OX_9
  have OXB_10 := Lib.hid (OXB_9.out.below hb)
  clear OXB_9
  have OG_10 := Lib.hid (OG_9.out.below hb)
  clear OG_9
  have B_10 := Lib.hid (B_9.out.trans (hb.mono B_9.out.size))
  clear B_9
  have hs_10 := hb.size
  have OC_10 := Lib.hid ho
  have SPC : Hid (InSp w9.heap.size w10.heap.size vC) := Lib.hid (fun k hk => OC_10.out.lt k hk)
  clear hb
  clear ho
  go_wp2_with fail
  refine (IT.eq_all _ _ xs _ (IT.is_of_row OX_10.out) (IT.is_of_row OC_10.out) (by have := HL.out; omega)).mono ?_
  rintro e w11 ⟨rfl, hb⟩
  have HBX_11 := Lib.hid (blk_below HBX_10.out hb)
  clear HBX_10
  have OS_11 := Lib.hid (OS_10.out.below hb)
  clear OS_10
  have OX_11 := Lib.hid (own_keepL OX_10.out hb)
  clear OX_10
  have OXB_11 := Lib.hid (OXB_10.out.below hb)
  clear OXB_10
  have OG_11 := Lib.hid (OG_10.out.below hb)
  clear OG_10
  have OC_11 := Lib.hid (own_keepL OC_10.out hb)
  clear OC_10
  have B_11 := Lib.hid (B_10.out.trans (hb.mono B_10.out.size))
  clear B_10
  have hs_11 := hb.size
  clear hb
  go_wp2_with fail
  refine (BX.toO _ ls 0 w.heap.size _ (Nat.le_trans (Nat.le_refl _) B_11.out.size) (HY.out.below BLN.kept B_11.out) HSM.out).mono ?_
  rintro e w12 ⟨vCB, rfl, ho, hbh⟩
  have hb := hbh.out
  clear hbh
  have HBX_12 := Lib.hid (blk_below HBX_11.out hb)
  clear HBX_11
  have OS_12 := Lib.hid (OS_11.out.below hb)
  clear OS_11
  have OX_12 := Lib.hid (own_keepL OX_11.out hb)
  clear OX_11
  have OXB_12 := Lib.hid (OXB_11.out.below hb)
  clear OXB_11
  have OG_12 := Lib.hid (OG_11.out.below hb)
  clear OG_11
  have OC_12 := Lib.hid (own_keepL OC_11.out hb)
  clear OC_11
  have B_12 := Lib.hid (B_11.out.trans (hb.mono B_11.out.size))
  clear B_11
  have hs_12 := hb.size
  have OCB_12 := Lib.hid ho.out
  clear hb
  clear ho
  go_wp2_with fail
  refine (BX.eq _ _ ls _ _ _ _ _ OXB_12.out.sl OCB_12.out.sl HSM.out).mono ?_
  rintro e w13 ⟨rfl, hb⟩
  have HBX_13 := Lib.hid (blk_below HBX_12.out hb)
  clear HBX_12
  have OS_13 := Lib.hid (OS_12.out.below hb)
  clear OS_12
  have OX_13 := Lib.hid (own_keepL OX_12.out hb)
  clear OX_12
  have OXB_13 := Lib.hid (OXB_12.out.below hb)
  clear OXB_12
  have OG_13 := Lib.hid (OG_12.out.below hb)
  clear OG_12
  have OC_13 := Lib.hid (own_keepL OC_12.out hb)
  clear OC_12
  have OCB_13 := Lib.hid (OCB_12.out.below hb)
  clear OCB_12
  have B_13 := Lib.hid (B_12.out.trans (hb.mono B_12.out.size))
  clear B_12
  have hs_13 := hb.size
  clear hb
  obtain ⟨K1, hK1⟩ : ∃ K, 1 + 8 * xs.length = K := ⟨_, rfl⟩
  have hk1b : 0 < K1 ∧ K1 ≤ 8388609 := by have := HL.out; omega
  have HK1 := Lib.hid hK1
  go_wp2_with fail
  refine (IT.mark1 _ _ _ xs.length _ _ rfl OX_13.out (by have := HL.out; omega)).mono ?_
  rintro e w14 ⟨rfl, ho, hg⟩
  rw [hK1]
  clear hK1
  have OX_14 := Lib.hid ho
  clear OX_13
  have HC := Lib.hid (ChgIn.of_grown hg SPX.out)
  clear ho hg
  have HBX_14 := Lib.hid ((HC.out.block w.heap.size (by omega) (Or.inl (by omega))).trans HBX_13.out)
  clear HBX_13
  have OS_14 := Lib.hid (OS_13.out.far HC.out (by omega))
  clear OS_13
  have OXB_14 := Lib.hid (OXB_13.out.far HC.out (by omega))
  clear OXB_13
  have OG_14 := Lib.hid (OG_13.out.far HC.out (by omega))
  clear OG_13
  have OC_14 := Lib.hid (HC.out.row OC_13.out (fun b hb2 => by have h1 := SPC.out b hb2; omega))
  clear OC_13
  have OCB_14 := Lib.hid (OCB_13.out.far HC.out (by omega))
  clear OCB_13
  have B_14 := Lib.hid (HC.out.below B_13.out (by omega))
  clear B_13
  have hs_14 := HC.out.size
  clear HC
  obtain ⟨rsXB, hrecXB, hownXB⟩ := OXB_14.out
  have HRECXB := Lib.hid hrecXB
  have OXB_14r := Lib.hid hownXB
  clear hrecXB hownXB OXB_14
  have HSXB := Lib.hid (HRECXB.out.sm HSM.out)
  obtain ⟨K2, hK2⟩ : ∃ K, BX.pos K1 rsXB rsXB.length = K := ⟨_, rfl⟩
  have HK2 := Lib.hid hK2
  have hk2b : 0 < K2 ∧ K2 ≤ 20000000 := by have h1 := BX.pos_tot HRECXB.out K1; have h2 := HTOT.out; rw [hK2] at h1; omega
  go_wp2_with fail
  refine (BX.markI _ _ _ _ K1 rsXB _ (by omega) OXB_14r.out HSXB.out.2 HSXB.out.1 (by omega) (by rw [hK2]; omega)).mono ?_
  rintro e w15 ⟨rmXB, rfl, HMKXB, ho, HC⟩
  rw [hK2]
  clear hK2
  have OXB_15 := ho
  clear ho OXB_14r
  have HBX_15 := Lib.hid ((HC.out.block w.heap.size (by omega) (Or.inl (by omega))).trans HBX_14.out)
  clear HBX_14
  have OS_15 := Lib.hid (OS_14.out.far HC.out (by omega))
  clear OS_14
  have OX_15 := Lib.hid (HC.out.row OX_14.out (fun b hb2 => by have h1 := SPX.out b hb2; omega))
  clear OX_14
  have OG_15 := Lib.hid (OG_14.out.far HC.out (by omega))
  clear OG_14
  have OC_15 := Lib.hid (HC.out.row OC_14.out (fun b hb2 => by have h1 := SPC.out b hb2; omega))
  clear OC_14
  have OCB_15 := Lib.hid (OCB_14.out.far HC.out (by omega))
  clear OCB_14
  have B_15 := Lib.hid (HC.out.below B_14.out (by omega))
  clear B_14
  have hs_15 := HC.out.size
  clear HC
  have hkn : decide ((K2 : Int) < 0) = false := decide_eq_false (by omega)
  go_wp2_with fail
  refine (BX.eq _ _ zs _ _ _ _ _ OG_15.out.sl OS_15.out.sl HFW.out.sm).mono ?_
  rintro e w16 ⟨rfl, hb⟩
  have HBX_16 := Lib.hid (blk_below HBX_15.out hb)
  clear HBX_15
  have OS_16 := Lib.hid (OS_15.out.below hb)
  clear OS_15
  have OX_16 := Lib.hid (own_keepL OX_15.out hb)
  clear OX_15
  have OXB_16 := Lib.hid (OXB_15.out.below hb)
  clear OXB_15
  have OG_16 := Lib.hid (OG_15.out.below hb)
  clear OG_15
  have OC_16 := Lib.hid (own_keepL OC_15.out hb)
  clear OC_15
  have OCB_16 := Lib.hid (OCB_15.out.below hb)
  clear OCB_15
  have B_16 := Lib.hid (B_15.out.trans (hb.mono B_15.out.size))
  clear B_15
  have hs_16 := hb.size
  clear hb
  obtain ⟨rsG, hrecG, hownG⟩ := OG_16.out
  have HRECG := Lib.hid hrecG
  have OG_16r := Lib.hid hownG
  clear hrecG hownG OG_16
  have HSG := Lib.hid (HRECG.out.sm HFW.out.sm)
  obtain ⟨KG, hKG⟩ : ∃ K, BX.pos 1 rsG rsG.length = K := ⟨_, rfl⟩
  have HKG := Lib.hid hKG
  have hkgb : 0 < KG ∧ KG ≤ 20000000 := by have h1 := BX.pos_tot HRECG.out 1; have h2 := HFW.out.tot; rw [hKG] at h1; omega
  have hqq : ((KG : Int) != (KG : Int)) = false := by simp
  have hqn : decide ((KG : Int) < 0) = false := decide_eq_false (by omega)
  go_wp2_with fail
  refine (BX.markI _ _ _ _ 1 rsG _ rfl OG_16r.out HSG.out.2 HSG.out.1 (by omega) (by rw [hKG]; omega)).mono ?_
  rintro e w17 ⟨rmG, rfl, HMKG, ho, HC⟩
  rw [hKG]
  have OG_17 := ho
  clear ho OG_16r
  have HBX_17 := Lib.hid ((HC.out.block w.heap.size (by omega) (Or.inl (by omega))).trans HBX_16.out)
  clear HBX_16
  have OS_17 := Lib.hid (OS_16.out.far HC.out (by omega))
  clear OS_16
  have OX_17 := Lib.hid (HC.out.row OX_16.out (fun b hb2 => by have h1 := SPX.out b hb2; omega))
  clear OX_16
  have OXB_17 := Lib.hid (OXB_16.out.far HC.out (by omega))
  clear OXB_16
  have OC_17 := Lib.hid (HC.out.row OC_16.out (fun b hb2 => by have h1 := SPC.out b hb2; omega))
  clear OC_16
  have OCB_17 := Lib.hid (OCB_16.out.far HC.out (by omega))
  clear OCB_16
  have B_17 := Lib.hid (HC.out.below B_16.out (by omega))
  clear B_16
  have hs_17 := HC.out.size
  clear HC
  go_wp2_with fail
  refine (BX.heldI _ _ _ _ 1 rsG rmG _ rfl HMKG.out OG_17.out HSG.out.2 HSG.out.1 (by omega) (by rw [hKG]; omega)).mono ?_
  rintro e w18 ⟨rfl, hb⟩
  rw [hKG]
  have HBX_18 := Lib.hid (blk_below HBX_17.out hb)
  clear HBX_17
  have OS_18 := Lib.hid (OS_17.out.below hb)
  clear OS_17
  have OX_18 := Lib.hid (own_keepL OX_17.out hb)
  clear OX_17
  have OXB_18 := Lib.hid (OXB_17.out.below hb)
  clear OXB_17
  have OG_18 := Lib.hid (OG_17.out.below hb)
  clear OG_17
  have OC_18 := Lib.hid (own_keepL OC_17.out hb)
  clear OC_17
  have OCB_18 := Lib.hid (OCB_17.out.below hb)
  clear OCB_17
  have B_18 := Lib.hid (B_17.out.trans (hb.mono B_17.out.size))
  clear B_17
  have hs_18 := hb.size
  clear hb
  have kc0 := cell_of_row _ _ 0 _ _ _ HBX_18.out
  have kc1 := cell_of_row _ _ 1 _ _ _ HBX_18.out
  have kc2 := cell_of_row _ _ 2 _ _ _ HBX_18.out
  have kc3 := cell_of_row _ _ 3 _ _ _ HBX_18.out
  have kc4 := cell_of_row _ _ 4 _ _ _ HBX_18.out
  have HTI : Hid (∀ W, Below w18.heap.size w18 W → Calls Try.prog 27 #[.slice a1 xs.length c1] W fun e w9 => ∃ v9, e = .returned v9 ∧ IT.Is w9 v9 xs ∧ Below W.heap.size W w9) := Lib.hid (fun W hW => toI_at _ xs W (HX.out.below (B_18.out.trans (hW.mono B_18.out.size))) HL.out)
  have HTB : Hid (∀ W, Below w18.heap.size w18 W → Calls Try.prog 32 #[.slice a2 ls.length c2] W fun e w9 => ∃ v9, e = .returned v9 ∧ (∃ lo hi, BX lo hi w9 v9 ls) ∧ Below W.heap.size W w9) := Lib.hid (fun W hW => toB_at _ ls 0 w.heap.size W (B_18.out.trans (hW.mono B_18.out.size)).size (HY.out.below BLN.kept (B_18.out.trans (hW.mono B_18.out.size))) HSM.out)
  have HCON : Hid (∀ (vA vB : Value) W, Below w18.heap.size w18 W → IT.Is W vA xs → (∃ lo hi, BX lo hi W vB ls) → Calls Try.prog 13 #[vA, vB, .agg #[.int .i64 dy, .string pa, .string ou, .string inn, .int .i64 qy]] W fun e w9 => ∃ v9, e = .returned (.tuple #[v9, .bool y]) ∧ BX.Own w18.heap.size w9.heap.size w9 v9 zs ∧ Below W.heap.size W w9) := Lib.hid (fun vA vB W hW hA hB => apOut_at (HIM.out vA vB xs ls ⟨dy, pa, ou, inn, qy⟩ _ _ W hA (len_maxC HL.out) HS.out hB.choose_spec.choose_spec HS2.out HSX.out) HOO.out HYY.out HZS.out hW.size)
  go_upto_region 34 with fail
  go_region_held3 (fun W' => Hid (Below w18.heap.size w18 W') ∧ W'.cell? ⟨w.heap.size, 0, none⟩ = some (.int .i64 dy) ∧ W'.cell? ⟨w.heap.size, 1, none⟩ = some (.string pa) ∧ W'.cell? ⟨w.heap.size, 2, none⟩ = some (.string ou) ∧ W'.cell? ⟨w.heap.size, 3, none⟩ = some (.string inn) ∧ W'.cell? ⟨w.heap.size, 4, none⟩ = some (.int .i64 qy))
    (first | assumption | exact hold5 kc0 kc1 kc2 kc3 kc4 (hold_call (by assumption) (by assumption)) | exact hold5 kc0 kc1 kc2 kc3 kc4 (Below.refl _ _).drew)
    (first
      | (go_at_call 27; refine (HTI.out _ (by first | exact (by assumption : Hid (Below w18.heap.size w18 _) ∧ _).1.out | exact Below.refl _ _ | exact (Below.refl _ _).drew)).mono ?_; rintro e wA ⟨vA, rfl, hA, hb⟩; have hle := hold_le (by assumption) hb)
      | (go_at_call 32; refine (HTB.out _ (by first | exact (by assumption : Hid (Below w18.heap.size w18 _) ∧ _).1.out | exact Below.refl _ _ | exact (Below.refl _ _).drew)).mono ?_; rintro e wB ⟨vB, rfl, hB, hb⟩; have hle := hold_le (by assumption) hb; have hA := hA.below (show Below wA.heap.size wA wB from ⟨hb.os, hb.tape, hb.output, hb.size, hb.block⟩))
      | (go_at_call 28; refine (ch_to ⟨dy, pa, ou, inn, qy⟩ _).mono ?_; rintro e wC ⟨rfl, hb⟩; have hle := hold_le (by assumption) hb; have hA := hA.below (show Below wB.heap.size wB wC from ⟨hb.os, hb.tape, hb.output, hb.size, hb.block⟩); have hB : ∃ lo hi, BX lo hi wC vB ls := ⟨_, _, hB.choose_spec.choose_spec.below BLN.kept (show Below wB.heap.size wB wC from ⟨hb.os, hb.tape, hb.output, hb.size, hb.block⟩)⟩)
      | (go_at_call 13; refine (HCON.out vA vB _ (by first | exact (by assumption : Hid (Below w18.heap.size w18 _) ∧ _).1.out | exact Below.refl _ _ | exact (Below.refl _ _).drew) (by first | exact hA | exact hA.below (Below.refl _ _).drew) (by first | exact hB | exact ⟨_, _, hB.choose_spec.choose_spec.below BLN.kept (Below.refl _ _).drew⟩)).mono ?_; rintro e wS ⟨vH, rfl, ho, hb⟩; have hle := hold_le (by assumption) hb))
  have hS := (by assumption : Hid (Below w18.heap.size w18 _) ∧ _)
  obtain ⟨w19, hw19⟩ : ∃ W, W = worldOf hS := ⟨_, rfl⟩
  simp only [worldOf] at hw19
  have hSX : Below wS.heap.size wS w19 := by rw [hw19]; first | exact Below.refl _ _ | exact (Below.refl _ _).drew | exact (Below.refl _ _).drew.drew
  have hb : Below w18.heap.size w18 w19 := by rw [hw19]; exact hS.1.out
  rw [← hw19]
  have hoS := Lib.hid ((ho.below hSX).topw hSX.size)
  clear hw19 hS hSX kc0 kc1 kc2 kc3 kc4 HTI HCON HTB
  have HBX_19 := Lib.hid (blk_below HBX_18.out hb)
  clear HBX_18
  have OS_19 := Lib.hid (OS_18.out.below hb)
  clear OS_18
  have OX_19 := Lib.hid (own_keepL OX_18.out hb)
  clear OX_18
  have OXB_19 := Lib.hid (OXB_18.out.below hb)
  clear OXB_18
  have OG_19 := Lib.hid (OG_18.out.below hb)
  clear OG_18
  have OC_19 := Lib.hid (own_keepL OC_18.out hb)
  clear OC_18
  have OCB_19 := Lib.hid (OCB_18.out.below hb)
  clear OCB_18
  have B_19 := Lib.hid (B_18.out.trans (hb.mono B_18.out.size))
  clear B_18
  have hs_19 := hb.size
  have OH_19 := hoS
  clear hoS
  clear hb
  go_wp2_with fail
  refine (BX.eq _ _ zs _ _ _ _ _ OH_19.out.sl OS_19.out.sl HFW.out.sm).mono ?_
  rintro e w20 ⟨rfl, hb⟩
  have HBX_20 := Lib.hid (blk_below HBX_19.out hb)
  clear HBX_19
  have OS_20 := Lib.hid (OS_19.out.below hb)
  clear OS_19
  have OX_20 := Lib.hid (own_keepL OX_19.out hb)
  clear OX_19
  have OXB_20 := Lib.hid (OXB_19.out.below hb)
  clear OXB_19
  have OG_20 := Lib.hid (OG_19.out.below hb)
  clear OG_19
  have OC_20 := Lib.hid (own_keepL OC_19.out hb)
  clear OC_19
  have OCB_20 := Lib.hid (OCB_19.out.below hb)
  clear OCB_19
  have OH_20 := Lib.hid (OH_19.out.below hb)
  clear OH_19
  have B_20 := Lib.hid (B_19.out.trans (hb.mono B_19.out.size))
  clear B_19
  have hs_20 := hb.size
  clear hb
  go_wp2_with fail
  refine (BX.heldI _ _ _ _ 1 rsG rmG _ rfl HMKG.out OG_20.out HSG.out.2 HSG.out.1 (by omega) (by rw [hKG]; omega)).mono ?_
  rintro e w21 ⟨rfl, hb⟩
  rw [hKG]
  have HBX_21 := Lib.hid (blk_below HBX_20.out hb)
  clear HBX_20
  have OS_21 := Lib.hid (OS_20.out.below hb)
  clear OS_20
  have OX_21 := Lib.hid (own_keepL OX_20.out hb)
  clear OX_20
  have OXB_21 := Lib.hid (OXB_20.out.below hb)
  clear OXB_20
  have OG_21 := Lib.hid (OG_20.out.below hb)
  clear OG_20
  have OC_21 := Lib.hid (own_keepL OC_20.out hb)
  clear OC_20
  have OCB_21 := Lib.hid (OCB_20.out.below hb)
  clear OCB_20
  have OH_21 := Lib.hid (OH_20.out.below hb)
  clear OH_20
  have B_21 := Lib.hid (B_20.out.trans (hb.mono B_20.out.size))
  clear B_20
  have hs_21 := hb.size
  clear hb
  go_wp2_with fail
  go_ret
  exact ⟨rfl, B_21.out⟩

end Go.Proofs.Ytdhldokpojghdaa
