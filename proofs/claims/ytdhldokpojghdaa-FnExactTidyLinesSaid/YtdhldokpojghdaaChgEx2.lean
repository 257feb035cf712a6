/-
  The walks of the exact laws of ApplyChanges, BillsOn and TidyLines, given what the program owes.
-/
import Derived.Test.YtdhldokpojghdaaChgExP
import Derived.Test.YtdhldokpojghdaaSpecApChgs
import Derived.Test.YtdhldokpojghdaaSpecTidy
import Derived.WalkKit
import Derived.WalkSpells
import Derived.WalkSmall
import Derived.Deep.DeepCutAuto
import Derived.Deep.RegionHeld3
import Derived.Lib.Hide
namespace Go.Proofs.Ytdhldokpojghdaa
open Go.RowKit

set_option maxRecDepth 100000 in
set_option maxHeartbeats 8000000 in
theorem ex_ApplyChanges (v : Value) (xs : List IT) (v2 : Value) (ls : List BL) (v3 : Value) (cs : List CH) (w : World) (h : IT.Is w v xs) (hm : xs.length ≤ maxLen) (hs : ∀ r, r ∈ xs → IT.Sz r) (h2 : BX 0 w.heap.size w v2 ls) (hs2 : BX.Sz ls) (h3 : CH.Is w v3 cs) (hm3 : cs.length ≤ maxLen) (hs3 : ∀ r, r ∈ cs → CH.Sz r) (him : ImplApplyChanges) :
    Calls Try.prog 8 #[v, v2, v3] w fun e w' => e = .returned (.bool true) ∧ Below w.heap.size w w' := by
  have HIM := Lib.hid him
  clear him
  have HX := Lib.hid h
  have HS := Lib.hid hs
  have HM := Lib.hid hm
  obtain ⟨a1, c1, rfl⟩ := h.slice
  have HY := Lib.hid h2
  have HS2 := Lib.hid hs2
  obtain ⟨a2, c2, rfl⟩ := h2.slice
  have HC3 := Lib.hid h3
  have HS3 := Lib.hid hs3
  have HM3 := Lib.hid hm3
  obtain ⟨a3, c3, rfl⟩ := h3.slice
  clear h hs hm h2 hs2 h3 hm3 hs3
  go_enter Try.func8, Try.ntmps8
  go_wp2_with fail
  refine (IT.sz_all _ xs 1048576 _ (HX.out.below (Lib.hid (Below.refl w.heap.size w)).out) (by omega) (by omega) HM.out HS.out).mono ?_
  rintro e w1 ⟨z, rfl, hz0, hz1, hz2, hb⟩
  have HZ2 := Lib.hid hz2
  clear hz2
  have B_1 := Lib.hid ((Lib.hid (Below.refl w.heap.size w)).out.trans (hb.mono (Lib.hid (Below.refl w.heap.size w)).out.size))
  have hs_1 := hb.size
  clear hb
  by_cases hzn : z < 0
  · go_wp2_with fail
    go_ret
    exact ⟨rfl, B_1.out⟩
  have HL : Hid (xs.length ≤ 1048576) := Lib.hid (by have := HZ2.out (by omega); omega)
  clear HZ2
  go_wp2_with fail
  refine (BX.szT _ ls z 0 w.heap.size _ (HY.out.below BLN.kept B_1.out) (by omega) (by omega) HS2.out).mono ?_
  rintro e w2 ⟨z2, rfl, hy0, hy1, hy2, hb⟩
  have HZ3 := Lib.hid hy2
  clear hy2
  have B_2 := Lib.hid (B_1.out.trans (hb.mono B_1.out.size))
  clear B_1
  have hs_2 := hb.size
  clear hb
  by_cases hzm : z2 < 0
  · go_wp2_with fail
    go_ret
    exact ⟨rfl, B_2.out⟩
  have HSM := Lib.hid (HZ3.out (by omega)).1
  have HTOT : Hid (ls.length + BX.tot ls ≤ 1048576) := Lib.hid (by have := (HZ3.out (by omega)).2; omega)
  clear HZ3
  go_wp2_with fail
  refine (CH.sz_all _ cs z2 _ (HC3.out.below B_2.out) (by omega) (by omega) HM3.out HS3.out).mono ?_
  rintro e w3 ⟨z3, rfl, hx0, hx1, hx2, hb⟩
  have HZ4 := Lib.hid hx2
  clear hx2
  have B_3 := Lib.hid (B_2.out.trans (hb.mono B_2.out.size))
  clear B_2
  have hs_3 := hb.size
  clear hb
  by_cases hzp : z3 < 0
  · go_wp2_with fail
    go_ret
    exact ⟨rfl, B_3.out⟩
  have HL3 : Hid (cs.length ≤ 1048576) := Lib.hid (by have := HZ4.out (by omega); omega)
  clear HZ4
  have HFW := Lib.hid (few_aps xs ls cs)
  obtain ⟨o, ho⟩ : ∃ o, apsO xs ls cs = o := ⟨_, rfl⟩
  have HOO := Lib.hid ho
  rw [ho] at HFW
  clear ho
  obtain ⟨y, hy⟩ : ∃ y, o.isSome = y := ⟨_, rfl⟩
  have HYY := Lib.hid hy
  clear hy
  have hnn : (y != y) = false := by simp
  obtain ⟨zs, hzs⟩ : ∃ zs, o.getD [] = zs := ⟨_, rfl⟩
  have HZS := Lib.hid hzs
  rw [hzs] at HFW
  clear hzs
  go_wp2_with fail
  refine (IT.to_all _ xs _ (HX.out.below B_3.out) HL.out).mono ?_
  rintro e w4 ⟨vA, rfl, ho, hb⟩
  have B_4 := Lib.hid (B_3.out.trans (hb.mono B_3.out.size))
  clear B_3
  have hs_4 := hb.size
  have OA_4 := Lib.hid ho
  have SPA : Hid (InSp w3.heap.size w4.heap.size vA) := Lib.hid (fun k hk => OA_4.out.lt k hk)
  clear hb
  clear ho
  go_wp2_with fail
  refine (BX.toO _ ls 0 w.heap.size _ (Nat.le_trans (Nat.le_refl _) B_4.out.size) (HY.out.below BLN.kept B_4.out) HSM.out).mono ?_
  rintro e w5 ⟨vAB, rfl, ho, hbh⟩
  have hb := hbh.out
  clear hbh
  have OA_5 := Lib.hid (own_keepL OA_4.out hb)
  clear OA_4
  have B_5 := Lib.hid (B_4.out.trans (hb.mono B_4.out.size))
  clear B_4
  have hs_5 := hb.size
  have OAB_5 := Lib.hid ho.out
  clear hb
  clear ho
  go_wp2_with fail
  refine (CH.to_all _ cs _ (HC3.out.below B_5.out) HL3.out).mono ?_
  rintro e w6 ⟨vAC, rfl, ho, hb⟩
  have OA_6 := Lib.hid (own_keepL OA_5.out hb)
  clear OA_5
  have OAB_6 := Lib.hid (OAB_5.out.below hb)
  clear OAB_5
  have B_6 := Lib.hid (B_5.out.trans (hb.mono B_5.out.size))
  clear B_5
  have hs_6 := hb.size
  have OAC_6 := Lib.hid ho
  have SPAC : Hid (InSp w5.heap.size w6.heap.size vAC) := Lib.hid (fun k hk => OAC_6.out.lt k hk)
  clear hb
  clear ho
  go_wp2_with fail
  refine (spec_applyChanges _ _ _ xs ls cs _ _ _ (IT.is_of_row OA_6.out) OAB_6.out.sl (CH.is_of_row OAC_6.out) (len_maxC HL.out) HS.out HS2.out (len_maxC HL3.out) HS3.out).mono ?_
  rintro e w7 ⟨vS, rfl, ho, hbh⟩
  have hb := hbh.out
  clear hbh
  rw [HOO.out, HZS.out] at ho
  rw [HOO.out, HYY.out]
  have OA_7 := Lib.hid (own_keepL OA_6.out hb)
  clear OA_6
  have OAB_7 := Lib.hid (OAB_6.out.below hb)
  clear OAB_6
  have OAC_7 := Lib.hid (own_keepL OAC_6.out hb)
  clear OAC_6
  have B_7 := Lib.hid (B_6.out.trans (hb.mono B_6.out.size))
  clear B_6
  have hs_7 := hb.size
  have OS_7 := Lib.hid ho.out
  clear hb
  clear ho
  go_wp2_with fail
  refine (IT.to_all _ xs _ (HX.out.below B_7.out) HL.out).mono ?_
  rintro e w8 ⟨vX, rfl, ho, hb⟩
  have OA_8 := Lib.hid (own_keepL OA_7.out hb)
  clear OA_7
  have OAB_8 := Lib.hid (OAB_7.out.below hb)
  clear OAB_7
  have OAC_8 := Lib.hid (own_keepL OAC_7.out hb)
  clear OAC_7
  have OS_8 := Lib.hid (OS_7.out.below hb)
  clear OS_7
  have B_8 := Lib.hid (B_7.out.trans (hb.mono B_7.out.size))
  clear B_7
  have hs_8 := hb.size
  have OX_8 := Lib.hid ho
  have SPX : Hid (InSp w7.heap.size w8.heap.size vX) := Lib.hid (fun k hk => OX_8.out.lt k hk)
  clear hb
  clear ho
  go_wp2_with fail
  refine (BX.toO _ ls 0 w.heap.size _ (Nat.le_trans (Nat.le_refl _) B_8.out.size) (HY.out.below BLN.kept B_8.out) HSM.out).mono ?_
  rintro e w9 ⟨vXB, rfl, ho, hbh⟩
  have hb := hbh.out
  clear hbh
  have OA_9 := Lib.hid (own_keepL OA_8.out hb)
  clear OA_8
  have OAB_9 := Lib.hid (OAB_8.out.below hb)
  clear OAB_8
  have OAC_9 := Lib.hid (own_keepL OAC_8.out hb)
  clear OAC_8
  have OS_9 := Lib.hid (OS_8.out.below hb)
  clear OS_8
  have OX_9 := Lib.hid (own_keepL OX_8.out hb)
  clear OX_8
  have B_9 := Lib.hid (B_8.out.trans (hb.mono B_8.out.size))
  clear B_8
  have hs_9 := hb.size
  have OXB_9 := Lib.hid ho.out
  clear hb
  clear ho
  go_wp2_with fail
  refine (CH.to_all _ cs _ (HC3.out.below B_9.out) HL3.out).mono ?_
  rintro e w10 ⟨vXC, rfl, ho, hb⟩
  have OA_10 := Lib.hid (own_keepL OA_9.out hb)
  clear OA_9
  have OAB_10 := Lib.hid (OAB_9.out.below hb)
  clear OAB_9
  have OAC_10 := Lib.hid (own_keepL OAC_9.out hb)
  clear OAC_9
  have OS_10 := Lib.hid (OS_9.out.below hb)
  clear OS_9
  have OX_10 := Lib.hid (own_keepL OX_9.out hb)
  clear OX_9
  have OXB_10 := Lib.hid (OXB_9.out.below hb)
  clear OXB_9
  have B_10 := Lib.hid (B_9.out.trans (hb.mono B_9.out.size))
  clear B_9
  have hs_10 := hb.size
  have OXC_10 := Lib.hid ho
  have SPXC : Hid (InSp w9.heap.size w10.heap.size vXC) := Lib.hid (fun k hk => OXC_10.out.lt k hk)
  clear hb
  clear ho
  go_wp2_with fail
  refine (HIM.out _ _ xs ls _ cs _ _ _ (IT.is_of_row OX_10.out) (len_maxC HL.out) HS.out OXB_10.out.sl HS2.out (CH.is_of_row OXC_10.out) (len_maxC HL3.out) HS3.out).mono ?_
  rintro e w11 ⟨vG, rfl, ho, hbh⟩
  have hb := hbh.out
  clear hbh
  rw [HOO.out, HZS.out] at ho
  rw [HOO.out, HYY.out]
  have OA_11 := Lib.hid (own_keepL OA_10.out hb)
  clear OA_10
  have OAB_11 := Lib.hid (OAB_10.out.below hb)
  clear OAB_10
  have OAC_11 := Lib.hid (own_keepL OAC_10.out hb)
  clear OAC_10
  have OS_11 := Lib.hid (OS_10.out.below hb)
  clear OS_10
  have OX_11 := Lib.hid (own_keepL OX_10.out hb)
  clear OX_10
  have OXB_11 := Lib.hid (OXB_10.out.below hb)
  clear OXB_10
  have OXC_11 := Lib.hid (own_keepL OXC_10.out hb)
  clear OXC_10
  have B_11 := Lib.hid (B_10.out.trans (hb.mono B_10.out.size))
  clear B_10
  have hs_11 := hb.size
  have OG_11 := Lib.hid ho.out
  clear hb
  clear ho
  go_wp2_with fail
  refine (BX.eq _ _ zs _ _ _ _ _ OG_11.out.sl OS_11.out.sl HFW.out.sm).mono ?_
  rintro e w12 ⟨rfl, hb⟩
  have OA_12 := Lib.hid (own_keepL OA_11.out hb)
  clear OA_11
  have OAB_12 := Lib.hid (OAB_11.out.below hb)
  clear OAB_11
  have OAC_12 := Lib.hid (own_keepL OAC_11.out hb)
  clear OAC_11
  have OS_12 := Lib.hid (OS_11.out.below hb)
  clear OS_11
  have OX_12 := Lib.hid (own_keepL OX_11.out hb)
  clear OX_11
  have OXB_12 := Lib.hid (OXB_11.out.below hb)
  clear OXB_11
  have OXC_12 := Lib.hid (own_keepL OXC_11.out hb)
  clear OXC_11
  have OG_12 := Lib.hid (OG_11.out.below hb)
  clear OG_11
  have B_12 := Lib.hid (B_11.out.trans (hb.mono B_11.out.size))
  clear B_11
  have hs_12 := hb.size
  clear hb
  go_wp2_with fail
  refine (IT.to_all _ xs _ (HX.out.below B_12.out) HL.out).mono ?_
  rintro e w13 ⟨vC, rfl, ho, hb⟩
  have OA_13 := Lib.hid (own_keepL OA_12.out hb)
  clear OA_12
  have OAB_13 := Lib.hid (OAB_12.out.below hb)
  clear OAB_12
  have OAC_13 := Lib.hid (own_keepL OAC_12.out hb)
  clear OAC_12
  have OS_13 := Lib.hid (OS_12.out.below hb)
  clear OS_12
  have OX_13 := Lib.hid (own_keepL OX_12.out hb)
  clear OX_12
  have OXB_13 := Lib.hid (OXB_12.out.below hb)
  clear OXB_12
  have OXC_13 := Lib.hid (own_keepL OXC_12.out hb)
  clear OXC_12
  have OG_13 := Lib.hid (OG_12.out.below hb)
  clear OG_12
  have B_13 := Lib.hid (B_12.out.trans (hb.mono B_12.out.size))
  clear B_12
  have hs_13 := hb.size
  have OC_13 := Lib.hid ho
  have SPC : Hid (InSp w12.heap.size w13.heap.size vC) := Lib.hid (fun k hk => OC_13.out.lt k hk)
  clear hb
  clear ho
  go_wp2_with fail
  refine (IT.eq_all _ _ xs _ (IT.is_of_row OX_13.out) (IT.is_of_row OC_13.out) (by have := HL.out; omega)).mono ?_
  rintro e w14 ⟨rfl, hb⟩
  have OA_14 := Lib.hid (own_keepL OA_13.out hb)
  clear OA_13
  have OAB_14 := Lib.hid (OAB_13.out.below hb)
  clear OAB_13
  have OAC_14 := Lib.hid (own_keepL OAC_13.out hb)
  clear OAC_13
  have OS_14 := Lib.hid (OS_13.out.below hb)
  clear OS_13
  have OX_14 := Lib.hid (own_keepL OX_13.out hb)
  clear OX_13
  have OXB_14 := Lib.hid (OXB_13.out.below hb)
  clear OXB_13
  have OXC_14 := Lib.hid (own_keepL OXC_13.out hb)
  clear OXC_13
  have OG_14 := Lib.hid (OG_13.out.below hb)
  clear OG_13
  have OC_14 := Lib.hid (own_keepL OC_13.out hb)
  clear OC_13
  have B_14 := Lib.hid (B_13.out.trans (hb.mono B_13.out.size))
  clear B_13
  have hs_14 := hb.size
  clear hb
  go_wp2_with fail
  refine (BX.toO _ ls 0 w.heap.size _ (Nat.le_trans (Nat.le_refl _) B_14.out.size) (HY.out.below BLN.kept B_14.out) HSM.out).mono ?_
  rintro e w15 ⟨vCB, rfl, ho, hbh⟩
  have hb := hbh.out
  clear hbh
  have OA_15 := Lib.hid (own_keepL OA_14.out hb)
  clear OA_14
  have OAB_15 := Lib.hid (OAB_14.out.below hb)
  clear OAB_14
  have OAC_15 := Lib.hid (own_keepL OAC_14.out hb)
  clear OAC_14
  have OS_15 := Lib.hid (OS_14.out.below hb)
  clear OS_14
  have OX_15 := Lib.hid (own_keepL OX_14.out hb)
  clear OX_14
  have OXB_15 := Lib.hid (OXB_14.out.below hb)
  clear OXB_14
  have OXC_15 := Lib.hid (own_keepL OXC_14.out hb)
  clear OXC_14
  have OG_15 := Lib.hid (OG_14.out.below hb)
  clear OG_14
  have OC_15 := Lib.hid (own_keepL OC_14.out hb)
  clear OC_14
  have B_15 := Lib.hid (B_14.out.trans (hb.mono B_14.out.size))
  clear B_14
  have hs_15 := hb.size
  have OCB_15 := Lib.hid ho.out
  clear hb
  clear ho
  go_wp2_with fail
  refine (BX.eq _ _ ls _ _ _ _ _ OXB_15.out.sl OCB_15.out.sl HSM.out).mono ?_
  rintro e w16 ⟨rfl, hb⟩
  have OA_16 := Lib.hid (own_keepL OA_15.out hb)
  clear OA_15
  have OAB_16 := Lib.hid (OAB_15.out.below hb)
  clear OAB_15
  have OAC_16 := Lib.hid (own_keepL OAC_15.out hb)
  clear OAC_15
  have OS_16 := Lib.hid (OS_15.out.below hb)
  clear OS_15
  have OX_16 := Lib.hid (own_keepL OX_15.out hb)
  clear OX_15
  have OXB_16 := Lib.hid (OXB_15.out.below hb)
  clear OXB_15
  have OXC_16 := Lib.hid (own_keepL OXC_15.out hb)
  clear OXC_15
  have OG_16 := Lib.hid (OG_15.out.below hb)
  clear OG_15
  have OC_16 := Lib.hid (own_keepL OC_15.out hb)
  clear OC_15
  have OCB_16 := Lib.hid (OCB_15.out.below hb)
  clear OCB_15
  have B_16 := Lib.hid (B_15.out.trans (hb.mono B_15.out.size))
  clear B_15
  have hs_16 := hb.size
  clear hb
  go_wp2_with fail
  refine (CH.to_all _ cs _ (HC3.out.below B_16.out) HL3.out).mono ?_
  rintro e w17 ⟨vCC, rfl, ho, hb⟩
  have OA_17 := Lib.hid (own_keepL OA_16.out hb)
  clear OA_16
  have OAB_17 := Lib.hid (OAB_16.out.below hb)
  clear OAB_16
  have OAC_17 := Lib.hid (own_keepL OAC_16.out hb)
  clear OAC_16
  have OS_17 := Lib.hid (OS_16.out.below hb)
  clear OS_16
  have OX_17 := Lib.hid (own_keepL OX_16.out hb)
  clear OX_16
  have OXB_17 := Lib.hid (OXB_16.out.below hb)
  clear OXB_16
  have OXC_17 := Lib.hid (own_keepL OXC_16.out hb)
  clear OXC_16
  have OG_17 := Lib.hid (OG_16.out.below hb)
  clear OG_16
  have OC_17 := Lib.hid (own_keepL OC_16.out hb)
  clear OC_16
  have OCB_17 := Lib.hid (OCB_16.out.below hb)
  clear OCB_16
  have B_17 := Lib.hid (B_16.out.trans (hb.mono B_16.out.size))
  clear B_16
  have hs_17 := hb.size
  have OCC_17 := Lib.hid ho
  have SPCC : Hid (InSp w16.heap.size w17.heap.size vCC) := Lib.hid (fun k hk => OCC_17.out.lt k hk)
  clear hb
  clear ho
  go_wp2_with fail
  refine (CH.eq_all _ _ cs _ (CH.is_of_row OXC_17.out) (CH.is_of_row OCC_17.out) (by have := HL3.out; omega)).mono ?_
  rintro e w18 ⟨rfl, hb⟩
  have OA_18 := Lib.hid (own_keepL OA_17.out hb)
  clear OA_17
  have OAB_18 := Lib.hid (OAB_17.out.below hb)
  clear OAB_17
  have OAC_18 := Lib.hid (own_keepL OAC_17.out hb)
  clear OAC_17
  have OS_18 := Lib.hid (OS_17.out.below hb)
  clear OS_17
  have OX_18 := Lib.hid (own_keepL OX_17.out hb)
  clear OX_17
  have OXB_18 := Lib.hid (OXB_17.out.below hb)
  clear OXB_17
  have OXC_18 := Lib.hid (own_keepL OXC_17.out hb)
  clear OXC_17
  have OG_18 := Lib.hid (OG_17.out.below hb)
  clear OG_17
  have OC_18 := Lib.hid (own_keepL OC_17.out hb)
  clear OC_17
  have OCB_18 := Lib.hid (OCB_17.out.below hb)
  clear OCB_17
  have OCC_18 := Lib.hid (own_keepL OCC_17.out hb)
  clear OCC_17
  have B_18 := Lib.hid (B_17.out.trans (hb.mono B_17.out.size))
  clear B_17
  have hs_18 := hb.size
  clear hb
  obtain ⟨K1, hK1⟩ : ∃ K, 1 + 8 * xs.length = K := ⟨_, rfl⟩
  have hk1b : 0 < K1 ∧ K1 ≤ 8388609 := by have := HL.out; omega
  have HK1 := Lib.hid hK1
  go_wp2_with fail
  refine (IT.mark1 _ _ _ xs.length _ _ rfl OX_18.out (by have := HL.out; omega)).mono ?_
  rintro e w19 ⟨rfl, ho, hg⟩
  rw [hK1]
  clear hK1
  have OX_19 := Lib.hid ho
  clear OX_18
  have HC := Lib.hid (ChgIn.of_grown hg SPX.out)
  clear ho hg
  have OA_19 := Lib.hid (HC.out.row OA_18.out (fun b hb2 => by have h1 := SPA.out b hb2; omega))
  clear OA_18
  have OAB_19 := Lib.hid (OAB_18.out.far HC.out (by omega))
  clear OAB_18
  have OAC_19 := Lib.hid (HC.out.row OAC_18.out (fun b hb2 => by have h1 := SPAC.out b hb2; omega))
  clear OAC_18
  have OS_19 := Lib.hid (OS_18.out.far HC.out (by omega))
  clear OS_18
  have OXB_19 := Lib.hid (OXB_18.out.far HC.out (by omega))
  clear OXB_18
  have OXC_19 := Lib.hid (HC.out.row OXC_18.out (fun b hb2 => by have h1 := SPXC.out b hb2; omega))
  clear OXC_18
  have OG_19 := Lib.hid (OG_18.out.far HC.out (by omega))
  clear OG_18
  have OC_19 := Lib.hid (HC.out.row OC_18.out (fun b hb2 => by have h1 := SPC.out b hb2; omega))
  clear OC_18
  have OCB_19 := Lib.hid (OCB_18.out.far HC.out (by omega))
  clear OCB_18
  have OCC_19 := Lib.hid (HC.out.row OCC_18.out (fun b hb2 => by have h1 := SPCC.out b hb2; omega))
  clear OCC_18
  have B_19 := Lib.hid (HC.out.below B_18.out (by omega))
  clear B_18
  have hs_19 := HC.out.size
  clear HC
  obtain ⟨rsXB, hrecXB, hownXB⟩ := OXB_19.out
  have HRECXB := Lib.hid hrecXB
  have OXB_19r := Lib.hid hownXB
  clear hrecXB hownXB OXB_19
  have HSXB := Lib.hid (HRECXB.out.sm HSM.out)
  obtain ⟨K2, hK2⟩ : ∃ K, BX.pos K1 rsXB rsXB.length = K := ⟨_, rfl⟩
  have HK2 := Lib.hid hK2
  have hk2b : 0 < K2 ∧ K2 ≤ 20000000 := by have h1 := BX.pos_tot HRECXB.out K1; have h2 := HTOT.out; rw [hK2] at h1; omega
  go_wp2_with fail
  refine (BX.markI _ _ _ _ K1 rsXB _ (by omega) OXB_19r.out HSXB.out.2 HSXB.out.1 (by omega) (by rw [hK2]; omega)).mono ?_
  rintro e w20 ⟨rmXB, rfl, HMKXB, ho, HC⟩
  rw [hK2]
  clear hK2
  have OXB_20 := ho
  clear ho OXB_19r
  have OA_20 := Lib.hid (HC.out.row OA_19.out (fun b hb2 => by have h1 := SPA.out b hb2; omega))
  clear OA_19
  have OAB_20 := Lib.hid (OAB_19.out.far HC.out (by omega))
  clear OAB_19
  have OAC_20 := Lib.hid (HC.out.row OAC_19.out (fun b hb2 => by have h1 := SPAC.out b hb2; omega))
  clear OAC_19
  have OS_20 := Lib.hid (OS_19.out.far HC.out (by omega))
  clear OS_19
  have OX_20 := Lib.hid (HC.out.row OX_19.out (fun b hb2 => by have h1 := SPX.out b hb2; omega))
  clear OX_19
  have OXC_20 := Lib.hid (HC.out.row OXC_19.out (fun b hb2 => by have h1 := SPXC.out b hb2; omega))
  clear OXC_19
  have OG_20 := Lib.hid (OG_19.out.far HC.out (by omega))
  clear OG_19
  have OC_20 := Lib.hid (HC.out.row OC_19.out (fun b hb2 => by have h1 := SPC.out b hb2; omega))
  clear OC_19
  have OCB_20 := Lib.hid (OCB_19.out.far HC.out (by omega))
  clear OCB_19
  have OCC_20 := Lib.hid (HC.out.row OCC_19.out (fun b hb2 => by have h1 := SPCC.out b hb2; omega))
  clear OCC_19
  have B_20 := Lib.hid (HC.out.below B_19.out (by omega))
  clear B_19
  have hs_20 := HC.out.size
  clear HC
  obtain ⟨K3, hK3⟩ : ∃ K, K2 + 5 * cs.length = K := ⟨_, rfl⟩
  have HK3 := Lib.hid hK3
  have hk3b : 0 < K3 ∧ K3 ≤ 100000000 := by have := HL3.out; omega
  go_wp2_with fail
  refine (CH.mark_allI _ _ _ K2 cs.length _ _ (by omega) OXC_20.out (by have := HL3.out; omega) (by omega) (by omega)).mono ?_
  rintro e w21 ⟨rfl, ho, hg⟩
  rw [hK3]
  clear hK3
  have OXC_21 := Lib.hid ho
  clear OXC_20
  have HC := Lib.hid (ChgIn.of_grown hg SPXC.out)
  clear ho hg
  have OA_21 := Lib.hid (HC.out.row OA_20.out (fun b hb2 => by have h1 := SPA.out b hb2; omega))
  clear OA_20
  have OAB_21 := Lib.hid (OAB_20.out.far HC.out (by omega))
  clear OAB_20
  have OAC_21 := Lib.hid (HC.out.row OAC_20.out (fun b hb2 => by have h1 := SPAC.out b hb2; omega))
  clear OAC_20
  have OS_21 := Lib.hid (OS_20.out.far HC.out (by omega))
  clear OS_20
  have OX_21 := Lib.hid (HC.out.row OX_20.out (fun b hb2 => by have h1 := SPX.out b hb2; omega))
  clear OX_20
  have OXB_21 := Lib.hid (OXB_20.out.far HC.out (by omega))
  clear OXB_20
  have OG_21 := Lib.hid (OG_20.out.far HC.out (by omega))
  clear OG_20
  have OC_21 := Lib.hid (HC.out.row OC_20.out (fun b hb2 => by have h1 := SPC.out b hb2; omega))
  clear OC_20
  have OCB_21 := Lib.hid (OCB_20.out.far HC.out (by omega))
  clear OCB_20
  have OCC_21 := Lib.hid (HC.out.row OCC_20.out (fun b hb2 => by have h1 := SPCC.out b hb2; omega))
  clear OCC_20
  have B_21 := Lib.hid (HC.out.below B_20.out (by omega))
  clear B_20
  have hs_21 := HC.out.size
  clear HC
  have hkn : decide ((K3 : Int) < 0) = false := decide_eq_false (by omega)
  go_wp2_with fail
  refine (BX.eq _ _ zs _ _ _ _ _ OG_21.out.sl OS_21.out.sl HFW.out.sm).mono ?_
  rintro e w22 ⟨rfl, hb⟩
  have OA_22 := Lib.hid (own_keepL OA_21.out hb)
  clear OA_21
  have OAB_22 := Lib.hid (OAB_21.out.below hb)
  clear OAB_21
  have OAC_22 := Lib.hid (own_keepL OAC_21.out hb)
  clear OAC_21
  have OS_22 := Lib.hid (OS_21.out.below hb)
  clear OS_21
  have OX_22 := Lib.hid (own_keepL OX_21.out hb)
  clear OX_21
  have OXB_22 := Lib.hid (OXB_21.out.below hb)
  clear OXB_21
  have OXC_22 := Lib.hid (own_keepL OXC_21.out hb)
  clear OXC_21
  have OG_22 := Lib.hid (OG_21.out.below hb)
  clear OG_21
  have OC_22 := Lib.hid (own_keepL OC_21.out hb)
  clear OC_21
  have OCB_22 := Lib.hid (OCB_21.out.below hb)
  clear OCB_21
  have OCC_22 := Lib.hid (own_keepL OCC_21.out hb)
  clear OCC_21
  have B_22 := Lib.hid (B_21.out.trans (hb.mono B_21.out.size))
  clear B_21
  have hs_22 := hb.size
  clear hb
  obtain ⟨rsG, hrecG, hownG⟩ := OG_22.out
  have HRECG := Lib.hid hrecG
  have OG_22r := Lib.hid hownG
  clear hrecG hownG OG_22
  have HSG := Lib.hid (HRECG.out.sm HFW.out.sm)
  obtain ⟨KG, hKG⟩ : ∃ K, BX.pos 1 rsG rsG.length = K := ⟨_, rfl⟩
  have HKG := Lib.hid hKG
  have hkgb : 0 < KG ∧ KG ≤ 20000000 := by have h1 := BX.pos_tot HRECG.out 1; have h2 := HFW.out.tot; rw [hKG] at h1; omega
  have hqq : ((KG : Int) != (KG : Int)) = false := by simp
  have hqn : decide ((KG : Int) < 0) = false := decide_eq_false (by omega)
  go_wp2_with fail
  refine (BX.markI _ _ _ _ 1 rsG _ rfl OG_22r.out HSG.out.2 HSG.out.1 (by omega) (by rw [hKG]; omega)).mono ?_
  rintro e w23 ⟨rmG, rfl, HMKG, ho, HC⟩
  rw [hKG]
  have OG_23 := ho
  clear ho OG_22r
  have OA_23 := Lib.hid (HC.out.row OA_22.out (fun b hb2 => by have h1 := SPA.out b hb2; omega))
  clear OA_22
  have OAB_23 := Lib.hid (OAB_22.out.far HC.out (by omega))
  clear OAB_22
  have OAC_23 := Lib.hid (HC.out.row OAC_22.out (fun b hb2 => by have h1 := SPAC.out b hb2; omega))
  clear OAC_22
  have OS_23 := Lib.hid (OS_22.out.far HC.out (by omega))
  clear OS_22
  have OX_23 := Lib.hid (HC.out.row OX_22.out (fun b hb2 => by have h1 := SPX.out b hb2; omega))
  clear OX_22
  have OXB_23 := Lib.hid (OXB_22.out.far HC.out (by omega))
  clear OXB_22
  have OXC_23 := Lib.hid (HC.out.row OXC_22.out (fun b hb2 => by have h1 := SPXC.out b hb2; omega))
  clear OXC_22
  have OC_23 := Lib.hid (HC.out.row OC_22.out (fun b hb2 => by have h1 := SPC.out b hb2; omega))
  clear OC_22
  have OCB_23 := Lib.hid (OCB_22.out.far HC.out (by omega))
  clear OCB_22
  have OCC_23 := Lib.hid (HC.out.row OCC_22.out (fun b hb2 => by have h1 := SPCC.out b hb2; omega))
  clear OCC_22
  have B_23 := Lib.hid (HC.out.below B_22.out (by omega))
  clear B_22
  have hs_23 := HC.out.size
  clear HC
  go_wp2_with fail
  refine (BX.heldI _ _ _ _ 1 rsG rmG _ rfl HMKG.out OG_23.out HSG.out.2 HSG.out.1 (by omega) (by rw [hKG]; omega)).mono ?_
  rintro e w24 ⟨rfl, hb⟩
  rw [hKG]
  have OA_24 := Lib.hid (own_keepL OA_23.out hb)
  clear OA_23
  have OAB_24 := Lib.hid (OAB_23.out.below hb)
  clear OAB_23
  have OAC_24 := Lib.hid (own_keepL OAC_23.out hb)
  clear OAC_23
  have OS_24 := Lib.hid (OS_23.out.below hb)
  clear OS_23
  have OX_24 := Lib.hid (own_keepL OX_23.out hb)
  clear OX_23
  have OXB_24 := Lib.hid (OXB_23.out.below hb)
  clear OXB_23
  have OXC_24 := Lib.hid (own_keepL OXC_23.out hb)
  clear OXC_23
  have OG_24 := Lib.hid (OG_23.out.below hb)
  clear OG_23
  have OC_24 := Lib.hid (own_keepL OC_23.out hb)
  clear OC_23
  have OCB_24 := Lib.hid (OCB_23.out.below hb)
  clear OCB_23
  have OCC_24 := Lib.hid (own_keepL OCC_23.out hb)
  clear OCC_23
  have B_24 := Lib.hid (B_23.out.trans (hb.mono B_23.out.size))
  clear B_23
  have hs_24 := hb.size
  clear hb
  go_wp2_with fail
  refine (IT.to_all _ xs _ (HX.out.below B_24.out) HL.out).mono ?_
  rintro e w25 ⟨vE, rfl, ho, hb⟩
  have OA_25 := Lib.hid (own_keepL OA_24.out hb)
  clear OA_24
  have OAB_25 := Lib.hid (OAB_24.out.below hb)
  clear OAB_24
  have OAC_25 := Lib.hid (own_keepL OAC_24.out hb)
  clear OAC_24
  have OS_25 := Lib.hid (OS_24.out.below hb)
  clear OS_24
  have OX_25 := Lib.hid (own_keepL OX_24.out hb)
  clear OX_24
  have OXB_25 := Lib.hid (OXB_24.out.below hb)
  clear OXB_24
  have OXC_25 := Lib.hid (own_keepL OXC_24.out hb)
  clear OXC_24
  have OG_25 := Lib.hid (OG_24.out.below hb)
  clear OG_24
  have OC_25 := Lib.hid (own_keepL OC_24.out hb)
  clear OC_24
  have OCB_25 := Lib.hid (OCB_24.out.below hb)
  clear OCB_24
  have OCC_25 := Lib.hid (own_keepL OCC_24.out hb)
  clear OCC_24
  have B_25 := Lib.hid (B_24.out.trans (hb.mono B_24.out.size))
  clear B_24
  have hs_25 := hb.size
  have OE_25 := Lib.hid ho
  have SPE : Hid (InSp w24.heap.size w25.heap.size vE) := Lib.hid (fun k hk => OE_25.out.lt k hk)
  clear hb
  clear ho
  go_wp2_with fail
  refine (BX.toO _ ls 0 w.heap.size _ (Nat.le_trans (Nat.le_refl _) B_25.out.size) (HY.out.below BLN.kept B_25.out) HSM.out).mono ?_
  rintro e w26 ⟨vEB, rfl, ho, hbh⟩
  have hb := hbh.out
  clear hbh
  have OA_26 := Lib.hid (own_keepL OA_25.out hb)
  clear OA_25
  have OAB_26 := Lib.hid (OAB_25.out.below hb)
  clear OAB_25
  have OAC_26 := Lib.hid (own_keepL OAC_25.out hb)
  clear OAC_25
  have OS_26 := Lib.hid (OS_25.out.below hb)
  clear OS_25
  have OX_26 := Lib.hid (own_keepL OX_25.out hb)
  clear OX_25
  have OXB_26 := Lib.hid (OXB_25.out.below hb)
  clear OXB_25
  have OXC_26 := Lib.hid (own_keepL OXC_25.out hb)
  clear OXC_25
  have OG_26 := Lib.hid (OG_25.out.below hb)
  clear OG_25
  have OC_26 := Lib.hid (own_keepL OC_25.out hb)
  clear OC_25
  have OCB_26 := Lib.hid (OCB_25.out.below hb)
  clear OCB_25
  have OCC_26 := Lib.hid (own_keepL OCC_25.out hb)
  clear OCC_25
  have OE_26 := Lib.hid (own_keepL OE_25.out hb)
  clear OE_25
  have B_26 := Lib.hid (B_25.out.trans (hb.mono B_25.out.size))
  clear B_25
  have hs_26 := hb.size
  have OEB_26 := Lib.hid ho.out
  clear hb
  clear ho
  go_wp2_with fail
  refine (CH.to_all _ cs _ (HC3.out.below B_26.out) HL3.out).mono ?_
  rintro e w27 ⟨vEC, rfl, ho, hb⟩
  have OA_27 := Lib.hid (own_keepL OA_26.out hb)
  clear OA_26
  have OAB_27 := Lib.hid (OAB_26.out.below hb)
  clear OAB_26
  have OAC_27 := Lib.hid (own_keepL OAC_26.out hb)
  clear OAC_26
  have OS_27 := Lib.hid (OS_26.out.below hb)
  clear OS_26
  have OX_27 := Lib.hid (own_keepL OX_26.out hb)
  clear OX_26
  have OXB_27 := Lib.hid (OXB_26.out.below hb)
  clear OXB_26
  have OXC_27 := Lib.hid (own_keepL OXC_26.out hb)
  clear OXC_26
  have OG_27 := Lib.hid (OG_26.out.below hb)
  clear OG_26
  have OC_27 := Lib.hid (own_keepL OC_26.out hb)
  clear OC_26
  have OCB_27 := Lib.hid (OCB_26.out.below hb)
  clear OCB_26
  have OCC_27 := Lib.hid (own_keepL OCC_26.out hb)
  clear OCC_26
  have OE_27 := Lib.hid (own_keepL OE_26.out hb)
  clear OE_26
  have OEB_27 := Lib.hid (OEB_26.out.below hb)
  clear OEB_26
  have B_27 := Lib.hid (B_26.out.trans (hb.mono B_26.out.size))
  clear B_26
  have hs_27 := hb.size
  have OEC_27 := Lib.hid ho
  have SPEC : Hid (InSp w26.heap.size w27.heap.size vEC) := Lib.hid (fun k hk => OEC_27.out.lt k hk)
  clear hb
  clear ho
  go_wp2_with fail
  refine (HIM.out _ _ xs ls _ cs _ _ _ (IT.is_of_row OE_27.out) (len_maxC HL.out) HS.out OEB_27.out.sl HS2.out (CH.is_of_row OEC_27.out) (len_maxC HL3.out) HS3.out).mono ?_
  rintro e w28 ⟨vH, rfl, ho, hbh⟩
  have hb := hbh.out
  clear hbh
  rw [HOO.out, HZS.out] at ho
  rw [HOO.out, HYY.out]
  have OA_28 := Lib.hid (own_keepL OA_27.out hb)
  clear OA_27
  have OAB_28 := Lib.hid (OAB_27.out.below hb)
  clear OAB_27
  have OAC_28 := Lib.hid (own_keepL OAC_27.out hb)
  clear OAC_27
  have OS_28 := Lib.hid (OS_27.out.below hb)
  clear OS_27
  have OX_28 := Lib.hid (own_keepL OX_27.out hb)
  clear OX_27
  have OXB_28 := Lib.hid (OXB_27.out.below hb)
  clear OXB_27
  have OXC_28 := Lib.hid (own_keepL OXC_27.out hb)
  clear OXC_27
  have OG_28 := Lib.hid (OG_27.out.below hb)
  clear OG_27
  have OC_28 := Lib.hid (own_keepL OC_27.out hb)
  clear OC_27
  have OCB_28 := Lib.hid (OCB_27.out.below hb)
  clear OCB_27
  have OCC_28 := Lib.hid (own_keepL OCC_27.out hb)
  clear OCC_27
  have OE_28 := Lib.hid (own_keepL OE_27.out hb)
  clear OE_27
  have OEB_28 := Lib.hid (OEB_27.out.below hb)
  clear OEB_27
  have OEC_28 := Lib.hid (own_keepL OEC_27.out hb)
  clear OEC_27
  have B_28 := Lib.hid (B_27.out.trans (hb.mono B_27.out.size))
  clear B_27
  have hs_28 := hb.size
  have OH_28 := Lib.hid ho.out
  clear hb
  clear ho
  go_wp2_with fail
  refine (BX.eq _ _ zs _ _ _ _ _ OH_28.out.sl OS_28.out.sl HFW.out.sm).mono ?_
  rintro e w29 ⟨rfl, hb⟩
  have OA_29 := Lib.hid (own_keepL OA_28.out hb)
  clear OA_28
  have OAB_29 := Lib.hid (OAB_28.out.below hb)
  clear OAB_28
  have OAC_29 := Lib.hid (own_keepL OAC_28.out hb)
  clear OAC_28
  have OS_29 := Lib.hid (OS_28.out.below hb)
  clear OS_28
  have OX_29 := Lib.hid (own_keepL OX_28.out hb)
  clear OX_28
  have OXB_29 := Lib.hid (OXB_28.out.below hb)
  clear OXB_28
  have OXC_29 := Lib.hid (own_keepL OXC_28.out hb)
  clear OXC_28
  have OG_29 := Lib.hid (OG_28.out.below hb)
  clear OG_28
  have OC_29 := Lib.hid (own_keepL OC_28.out hb)
  clear OC_28
  have OCB_29 := Lib.hid (OCB_28.out.below hb)
  clear OCB_28
  have OCC_29 := Lib.hid (own_keepL OCC_28.out hb)
  clear OCC_28
  have OE_29 := Lib.hid (own_keepL OE_28.out hb)
  clear OE_28
  have OEB_29 := Lib.hid (OEB_28.out.below hb)
  clear OEB_28
  have OEC_29 := Lib.hid (own_keepL OEC_28.out hb)
  clear OEC_28
  have OH_29 := Lib.hid (OH_28.out.below hb)
  clear OH_28
  have B_29 := Lib.hid (B_28.out.trans (hb.mono B_28.out.size))
  clear B_28
  have hs_29 := hb.size
  clear hb
  go_wp2_with fail
  refine (BX.heldI _ _ _ _ 1 rsG rmG _ rfl HMKG.out OG_29.out HSG.out.2 HSG.out.1 (by omega) (by rw [hKG]; omega)).mono ?_
  rintro e w30 ⟨rfl, hb⟩
  rw [hKG]
  have OA_30 := Lib.hid (own_keepL OA_29.out hb)
  clear OA_29
  have OAB_30 := Lib.hid (OAB_29.out.below hb)
  clear OAB_29
  have OAC_30 := Lib.hid (own_keepL OAC_29.out hb)
  clear OAC_29
  have OS_30 := Lib.hid (OS_29.out.below hb)
  clear OS_29
  have OX_30 := Lib.hid (own_keepL OX_29.out hb)
  clear OX_29
  have OXB_30 := Lib.hid (OXB_29.out.below hb)
  clear OXB_29
  have OXC_30 := Lib.hid (own_keepL OXC_29.out hb)
  clear OXC_29
  have OG_30 := Lib.hid (OG_29.out.below hb)
  clear OG_29
  have OC_30 := Lib.hid (own_keepL OC_29.out hb)
  clear OC_29
  have OCB_30 := Lib.hid (OCB_29.out.below hb)
  clear OCB_29
  have OCC_30 := Lib.hid (own_keepL OCC_29.out hb)
  clear OCC_29
  have OE_30 := Lib.hid (own_keepL OE_29.out hb)
  clear OE_29
  have OEB_30 := Lib.hid (OEB_29.out.below hb)
  clear OEB_29
  have OEC_30 := Lib.hid (own_keepL OEC_29.out hb)
  clear OEC_29
  have OH_30 := Lib.hid (OH_29.out.below hb)
  clear OH_29
  have B_30 := Lib.hid (B_29.out.trans (hb.mono B_29.out.size))
  clear B_29
  have hs_30 := hb.size
  clear hb
  go_wp2_with fail
  go_ret
  exact ⟨rfl, B_30.out⟩

set_option maxRecDepth 100000 in
set_option maxHeartbeats 8000000 in
theorem ex_BillsOn (v : Value) (xs : List IT) (v2 : Value) (ls : List BL) (day : Int) (w : World) (h : IT.Is w v xs) (hm : xs.length ≤ maxLen) (hs : ∀ r, r ∈ xs → IT.Sz r) (h2 : BX 0 w.heap.size w v2 ls) (hs2 : BX.Sz ls) (him : ImplBillsOn) :
    Calls Try.prog 9 #[v, v2, .int .i64 day] w fun e w' => e = .returned (.bool true) ∧ Below w.heap.size w w' := by
  have HIM := Lib.hid him
  clear him
  have HX := Lib.hid h
  have HS := Lib.hid hs
  have HM := Lib.hid hm
  obtain ⟨a1, c1, rfl⟩ := h.slice
  have HY := Lib.hid h2
  have HS2 := Lib.hid hs2
  obtain ⟨a2, c2, rfl⟩ := h2.slice
  clear h hs hm h2 hs2
  go_enter Try.func9, Try.ntmps9
  go_wp2_with fail
  refine (IT.sz_all _ xs 1048576 _ (HX.out.below (Lib.hid (Below.refl w.heap.size w)).out) (by omega) (by omega) HM.out HS.out).mono ?_
  rintro e w1 ⟨z, rfl, hz0, hz1, hz2, hb⟩
  have HZ2 := Lib.hid hz2
  clear hz2
  have B_1 := Lib.hid ((Lib.hid (Below.refl w.heap.size w)).out.trans (hb.mono (Lib.hid (Below.refl w.heap.size w)).out.size))
  have hs_1 := hb.size
  clear hb
  by_cases hzn : z < 0
  · go_wp2_with fail
    go_ret
    exact ⟨rfl, B_1.out⟩
  have HL : Hid (xs.length ≤ 1048576) := Lib.hid (by have := HZ2.out (by omega); omega)
  clear HZ2
  go_wp2_with fail
  refine (BX.szT _ ls z 0 w.heap.size _ (HY.out.below BLN.kept B_1.out) (by omega) (by omega) HS2.out).mono ?_
  rintro e w2 ⟨z2, rfl, hy0, hy1, hy2, hb⟩
  have HZ3 := Lib.hid hy2
  clear hy2
  have B_2 := Lib.hid (B_1.out.trans (hb.mono B_1.out.size))
  clear B_1
  have hs_2 := hb.size
  clear hb
  by_cases hzm : z2 < 0
  · go_wp2_with fail
    go_ret
    exact ⟨rfl, B_2.out⟩
  have HSM := Lib.hid (HZ3.out (by omega)).1
  have HTOT : Hid (ls.length + BX.tot ls ≤ 1048576) := Lib.hid (by have := (HZ3.out (by omega)).2; omega)
  clear HZ3
  have HFW := Lib.hid (few_on xs ls day)
  obtain ⟨zs, hzs⟩ : ∃ zs, billsOnR xs ls day = zs := ⟨_, rfl⟩
  have HZS := Lib.hid hzs
  rw [hzs] at HFW
  clear hzs
  go_wp2_with fail
  refine (IT.to_all _ xs _ (HX.out.below B_2.out) HL.out).mono ?_
  rintro e w3 ⟨vA, rfl, ho, hb⟩
  have B_3 := Lib.hid (B_2.out.trans (hb.mono B_2.out.size))
  clear B_2
  have hs_3 := hb.size
  have OA_3 := Lib.hid ho
  have SPA : Hid (InSp w2.heap.size w3.heap.size vA) := Lib.hid (fun k hk => OA_3.out.lt k hk)
  clear hb
  clear ho
  go_wp2_with fail
  refine (BX.toO _ ls 0 w.heap.size _ (Nat.le_trans (Nat.le_refl _) B_3.out.size) (HY.out.below BLN.kept B_3.out) HSM.out).mono ?_
  rintro e w4 ⟨vAB, rfl, ho, hbh⟩
  have hb := hbh.out
  clear hbh
  have OA_4 := Lib.hid (own_keepL OA_3.out hb)
  clear OA_3
  have B_4 := Lib.hid (B_3.out.trans (hb.mono B_3.out.size))
  clear B_3
  have hs_4 := hb.size
  have OAB_4 := Lib.hid ho.out
  clear hb
  clear ho
  go_wp2_with fail
  refine (spec_billsOn _ _ xs ls day _ _ _ (IT.is_of_row OA_4.out) OAB_4.out.sl (len_maxC HL.out) HS.out HS2.out).mono ?_
  rintro e w5 ⟨vS, rfl, ho, hbh⟩
  have hb := hbh.out
  clear hbh
  rw [HZS.out] at ho
  have OA_5 := Lib.hid (own_keepL OA_4.out hb)
  clear OA_4
  have OAB_5 := Lib.hid (OAB_4.out.below hb)
  clear OAB_4
  have B_5 := Lib.hid (B_4.out.trans (hb.mono B_4.out.size))
  clear B_4
  have hs_5 := hb.size
  have OS_5 := Lib.hid ho.out
  clear hb
  clear ho
  go_wp2_with fail
  refine (IT.to_all _ xs _ (HX.out.below B_5.out) HL.out).mono ?_
  rintro e w6 ⟨vX, rfl, ho, hb⟩
  have OA_6 := Lib.hid (own_keepL OA_5.out hb)
  clear OA_5
  have OAB_6 := Lib.hid (OAB_5.out.below hb)
  clear OAB_5
  have OS_6 := Lib.hid (OS_5.out.below hb)
  clear OS_5
  have B_6 := Lib.hid (B_5.out.trans (hb.mono B_5.out.size))
  clear B_5
  have hs_6 := hb.size
  have OX_6 := Lib.hid ho
  have SPX : Hid (InSp w5.heap.size w6.heap.size vX) := Lib.hid (fun k hk => OX_6.out.lt k hk)
  clear hb
  clear ho
  go_wp2_with fail
  refine (BX.toO _ ls 0 w.heap.size _ (Nat.le_trans (Nat.le_refl _) B_6.out.size) (HY.out.below BLN.kept B_6.out) HSM.out).mono ?_
  rintro e w7 ⟨vXB, rfl, ho, hbh⟩
  have hb := hbh.out
  clear hbh
  have OA_7 := Lib.hid (own_keepL OA_6.out hb)
  clear OA_6
  have OAB_7 := Lib.hid (OAB_6.out.below hb)
  clear OAB_6
  have OS_7 := Lib.hid (OS_6.out.below hb)
  clear OS_6
  have OX_7 := Lib.hid (own_keepL OX_6.out hb)
  clear OX_6
  have B_7 := Lib.hid (B_6.out.trans (hb.mono B_6.out.size))
  clear B_6
  have hs_7 := hb.size
  have OXB_7 := Lib.hid ho.out
  clear hb
  clear ho
  go_wp2_with fail
  refine (HIM.out _ _ xs ls day _ _ _ (IT.is_of_row OX_7.out) (len_maxC HL.out) HS.out OXB_7.out.sl HS2.out).mono ?_
  rintro e w8 ⟨vG, rfl, ho, hbh⟩
  have hb := hbh.out
  clear hbh
  rw [HZS.out] at ho
  have OA_8 := Lib.hid (own_keepL OA_7.out hb)
  clear OA_7
  have OAB_8 := Lib.hid (OAB_7.out.below hb)
  clear OAB_7
  have OS_8 := Lib.hid (OS_7.out.below hb)
  clear OS_7
  have OX_8 := Lib.hid (own_keepL OX_7.out hb)
  clear OX_7
  have OXB_8 := Lib.hid (OXB_7.out.below hb)
  clear OXB_7
  have B_8 := Lib.hid (B_7.out.trans (hb.mono B_7.out.size))
  clear B_7
  have hs_8 := hb.size
  have OG_8 := Lib.hid ho.out
  clear hb
  clear ho
  go_wp2_with fail
  refine (BX.eq _ _ zs _ _ _ _ _ OG_8.out.sl OS_8.out.sl HFW.out.sm).mono ?_
  rintro e w9 ⟨rfl, hb⟩
  have OA_9 := Lib.hid (own_keepL OA_8.out hb)
  clear OA_8
  have OAB_9 := Lib.hid (OAB_8.out.below hb)
  clear OAB_8
  have OS_9 := Lib.hid (OS_8.out.below hb)
  clear OS_8
  have OX_9 := Lib.hid (own_keepL OX_8.out hb)
  clear OX_8
  have OXB_9 := Lib.hid (OXB_8.out.below hb)
  clear OXB_8
  have OG_9 := Lib.hid (OG_8.out.below hb)
  clear OG_8
  have B_9 := Lib.hid (B_8.out.trans (hb.mono B_8.out.size))
  clear B_8
  have hs_9 := hb.size
  clear hb
  go_wp2_with fail
  refine (IT.to_all _ xs _ (HX.out.below B_9.out) HL.out).mono ?_
  rintro e w10 ⟨vC, rfl, ho, hb⟩
  have OA_10 := Lib.hid (own_keepL OA_9.out hb)
  clear OA_9
  have OAB_10 := Lib.hid (OAB_9.out.below hb)
  clear OAB_9
  have OS_10 := Lib.hid (OS_9.out.below hb)
  clear OS_9
  have OX_10 := Lib.hid (own_keepL OX_9.out hb)
  clear OX_9
  have OXB_10 := Lib.hid (OXB_9.out.below hb)
  clear OXB_9
  have OG_10 := Lib.hid (OG_9.out.below hb)
  clear OG_9
  have B_10 := Lib.hid (B_9.out.trans (hb.mono B_9.out.size))
  clear B_9
  have hs_10 := hb.size
  have OC_10 := Lib.hid ho
  have SPC : Hid (InSp w9.heap.size w10.heap.size vC) := Lib.hid (fun k hk => OC_10.out.lt k hk)
  clear hb
  clear ho
  go_wp2_with fail
  refine (IT.eq_all _ _ xs _ (IT.is_of_row OX_10.out) (IT.is_of_row OC_10.out) (by have := HL.out; omega)).mono ?_
  rintro e w11 ⟨rfl, hb⟩
  have OA_11 := Lib.hid (own_keepL OA_10.out hb)
  clear OA_10
  have OAB_11 := Lib.hid (OAB_10.out.below hb)
  clear OAB_10
  have OS_11 := Lib.hid (OS_10.out.below hb)
  clear OS_10
  have OX_11 := Lib.hid (own_keepL OX_10.out hb)
  clear OX_10
  have OXB_11 := Lib.hid (OXB_10.out.below hb)
  clear OXB_10
  have OG_11 := Lib.hid (OG_10.out.below hb)
  clear OG_10
  have OC_11 := Lib.hid (own_keepL OC_10.out hb)
  clear OC_10
  have B_11 := Lib.hid (B_10.out.trans (hb.mono B_10.out.size))
  clear B_10
  have hs_11 := hb.size
  clear hb
  go_wp2_with fail
  refine (BX.toO _ ls 0 w.heap.size _ (Nat.le_trans (Nat.le_refl _) B_11.out.size) (HY.out.below BLN.kept B_11.out) HSM.out).mono ?_
  rintro e w12 ⟨vCB, rfl, ho, hbh⟩
  have hb := hbh.out
  clear hbh
  have OA_12 := Lib.hid (own_keepL OA_11.out hb)
  clear OA_11
  have OAB_12 := Lib.hid (OAB_11.out.below hb)
  clear OAB_11
  have OS_12 := Lib.hid (OS_11.out.below hb)
  clear OS_11
  have OX_12 := Lib.hid (own_keepL OX_11.out hb)
  clear OX_11
  have OXB_12 := Lib.hid (OXB_11.out.below hb)
  clear OXB_11
  have OG_12 := Lib.hid (OG_11.out.below hb)
  clear OG_11
  have OC_12 := Lib.hid (own_keepL OC_11.out hb)
  clear OC_11
  have B_12 := Lib.hid (B_11.out.trans (hb.mono B_11.out.size))
  clear B_11
  have hs_12 := hb.size
  have OCB_12 := Lib.hid ho.out
  clear hb
  clear ho
  go_wp2_with fail
  refine (BX.eq _ _ ls _ _ _ _ _ OXB_12.out.sl OCB_12.out.sl HSM.out).mono ?_
  rintro e w13 ⟨rfl, hb⟩
  have OA_13 := Lib.hid (own_keepL OA_12.out hb)
  clear OA_12
  have OAB_13 := Lib.hid (OAB_12.out.below hb)
  clear OAB_12
  have OS_13 := Lib.hid (OS_12.out.below hb)
  clear OS_12
  have OX_13 := Lib.hid (own_keepL OX_12.out hb)
  clear OX_12
  have OXB_13 := Lib.hid (OXB_12.out.below hb)
  clear OXB_12
  have OG_13 := Lib.hid (OG_12.out.below hb)
  clear OG_12
  have OC_13 := Lib.hid (own_keepL OC_12.out hb)
  clear OC_12
  have OCB_13 := Lib.hid (OCB_12.out.below hb)
  clear OCB_12
  have B_13 := Lib.hid (B_12.out.trans (hb.mono B_12.out.size))
  clear B_12
  have hs_13 := hb.size
  clear hb
  obtain ⟨K1, hK1⟩ : ∃ K, 1 + 8 * xs.length = K := ⟨_, rfl⟩
  have hk1b : 0 < K1 ∧ K1 ≤ 8388609 := by have := HL.out; omega
  have HK1 := Lib.hid hK1
  go_wp2_with fail
  refine (IT.mark1 _ _ _ xs.length _ _ rfl OX_13.out (by have := HL.out; omega)).mono ?_
  rintro e w14 ⟨rfl, ho, hg⟩
  rw [hK1]
  clear hK1
  have OX_14 := Lib.hid ho
  clear OX_13
  have HC := Lib.hid (ChgIn.of_grown hg SPX.out)
  clear ho hg
  have OA_14 := Lib.hid (HC.out.row OA_13.out (fun b hb2 => by have h1 := SPA.out b hb2; omega))
  clear OA_13
  have OAB_14 := Lib.hid (OAB_13.out.far HC.out (by omega))
  clear OAB_13
  have OS_14 := Lib.hid (OS_13.out.far HC.out (by omega))
  clear OS_13
  have OXB_14 := Lib.hid (OXB_13.out.far HC.out (by omega))
  clear OXB_13
  have OG_14 := Lib.hid (OG_13.out.far HC.out (by omega))
  clear OG_13
  have OC_14 := Lib.hid (HC.out.row OC_13.out (fun b hb2 => by have h1 := SPC.out b hb2; omega))
  clear OC_13
  have OCB_14 := Lib.hid (OCB_13.out.far HC.out (by omega))
  clear OCB_13
  have B_14 := Lib.hid (HC.out.below B_13.out (by omega))
  clear B_13
  have hs_14 := HC.out.size
  clear HC
  obtain ⟨rsXB, hrecXB, hownXB⟩ := OXB_14.out
  have HRECXB := Lib.hid hrecXB
  have OXB_14r := Lib.hid hownXB
  clear hrecXB hownXB OXB_14
  have HSXB := Lib.hid (HRECXB.out.sm HSM.out)
  obtain ⟨K2, hK2⟩ : ∃ K, BX.pos K1 rsXB rsXB.length = K := ⟨_, rfl⟩
  have HK2 := Lib.hid hK2
  have hk2b : 0 < K2 ∧ K2 ≤ 20000000 := by have h1 := BX.pos_tot HRECXB.out K1; have h2 := HTOT.out; rw [hK2] at h1; omega
  go_wp2_with fail
  refine (BX.markI _ _ _ _ K1 rsXB _ (by omega) OXB_14r.out HSXB.out.2 HSXB.out.1 (by omega) (by rw [hK2]; omega)).mono ?_
  rintro e w15 ⟨rmXB, rfl, HMKXB, ho, HC⟩
  rw [hK2]
  clear hK2
  have OXB_15 := ho
  clear ho OXB_14r
  have OA_15 := Lib.hid (HC.out.row OA_14.out (fun b hb2 => by have h1 := SPA.out b hb2; omega))
  clear OA_14
  have OAB_15 := Lib.hid (OAB_14.out.far HC.out (by omega))
  clear OAB_14
  have OS_15 := Lib.hid (OS_14.out.far HC.out (by omega))
  clear OS_14
  have OX_15 := Lib.hid (HC.out.row OX_14.out (fun b hb2 => by have h1 := SPX.out b hb2; omega))
  clear OX_14
  have OG_15 := Lib.hid (OG_14.out.far HC.out (by omega))
  clear OG_14
  have OC_15 := Lib.hid (HC.out.row OC_14.out (fun b hb2 => by have h1 := SPC.out b hb2; omega))
  clear OC_14
  have OCB_15 := Lib.hid (OCB_14.out.far HC.out (by omega))
  clear OCB_14
  have B_15 := Lib.hid (HC.out.below B_14.out (by omega))
  clear B_14
  have hs_15 := HC.out.size
  clear HC
  have hkn : decide ((K2 : Int) < 0) = false := decide_eq_false (by omega)
  go_wp2_with fail
  refine (BX.eq _ _ zs _ _ _ _ _ OG_15.out.sl OS_15.out.sl HFW.out.sm).mono ?_
  rintro e w16 ⟨rfl, hb⟩
  have OA_16 := Lib.hid (own_keepL OA_15.out hb)
  clear OA_15
  have OAB_16 := Lib.hid (OAB_15.out.below hb)
  clear OAB_15
  have OS_16 := Lib.hid (OS_15.out.below hb)
  clear OS_15
  have OX_16 := Lib.hid (own_keepL OX_15.out hb)
  clear OX_15
  have OXB_16 := Lib.hid (OXB_15.out.below hb)
  clear OXB_15
  have OG_16 := Lib.hid (OG_15.out.below hb)
  clear OG_15
  have OC_16 := Lib.hid (own_keepL OC_15.out hb)
  clear OC_15
  have OCB_16 := Lib.hid (OCB_15.out.below hb)
  clear OCB_15
  have B_16 := Lib.hid (B_15.out.trans (hb.mono B_15.out.size))
  clear B_15
  have hs_16 := hb.size
  clear hb
  obtain ⟨rsG, hrecG, hownG⟩ := OG_16.out
  have HRECG := Lib.hid hrecG
  have OG_16r := Lib.hid hownG
  clear hrecG hownG OG_16
  have HSG := Lib.hid (HRECG.out.sm HFW.out.sm)
  obtain ⟨KG, hKG⟩ : ∃ K, BX.pos 1 rsG rsG.length = K := ⟨_, rfl⟩
  have HKG := Lib.hid hKG
  have hkgb : 0 < KG ∧ KG ≤ 20000000 := by have h1 := BX.pos_tot HRECG.out 1; have h2 := HFW.out.tot; rw [hKG] at h1; omega
  have hqq : ((KG : Int) != (KG : Int)) = false := by simp
  have hqn : decide ((KG : Int) < 0) = false := decide_eq_false (by omega)
  go_wp2_with fail
  refine (BX.markI _ _ _ _ 1 rsG _ rfl OG_16r.out HSG.out.2 HSG.out.1 (by omega) (by rw [hKG]; omega)).mono ?_
  rintro e w17 ⟨rmG, rfl, HMKG, ho, HC⟩
  rw [hKG]
  have OG_17 := ho
  clear ho OG_16r
  have OA_17 := Lib.hid (HC.out.row OA_16.out (fun b hb2 => by have h1 := SPA.out b hb2; omega))
  clear OA_16
  have OAB_17 := Lib.hid (OAB_16.out.far HC.out (by omega))
  clear OAB_16
  have OS_17 := Lib.hid (OS_16.out.far HC.out (by omega))
  clear OS_16
  have OX_17 := Lib.hid (HC.out.row OX_16.out (fun b hb2 => by have h1 := SPX.out b hb2; omega))
  clear OX_16
  have OXB_17 := Lib.hid (OXB_16.out.far HC.out (by omega))
  clear OXB_16
  have OC_17 := Lib.hid (HC.out.row OC_16.out (fun b hb2 => by have h1 := SPC.out b hb2; omega))
  clear OC_16
  have OCB_17 := Lib.hid (OCB_16.out.far HC.out (by omega))
  clear OCB_16
  have B_17 := Lib.hid (HC.out.below B_16.out (by omega))
  clear B_16
  have hs_17 := HC.out.size
  clear HC
  go_wp2_with fail
  refine (BX.heldI _ _ _ _ 1 rsG rmG _ rfl HMKG.out OG_17.out HSG.out.2 HSG.out.1 (by omega) (by rw [hKG]; omega)).mono ?_
  rintro e w18 ⟨rfl, hb⟩
  rw [hKG]
  have OA_18 := Lib.hid (own_keepL OA_17.out hb)
  clear OA_17
  have OAB_18 := Lib.hid (OAB_17.out.below hb)
  clear OAB_17
  have OS_18 := Lib.hid (OS_17.out.below hb)
  clear OS_17
  have OX_18 := Lib.hid (own_keepL OX_17.out hb)
  clear OX_17
  have OXB_18 := Lib.hid (OXB_17.out.below hb)
  clear OXB_17
  have OG_18 := Lib.hid (OG_17.out.below hb)
  clear OG_17
  have OC_18 := Lib.hid (own_keepL OC_17.out hb)
  clear OC_17
  have OCB_18 := Lib.hid (OCB_17.out.below hb)
  clear OCB_17
  have B_18 := Lib.hid (B_17.out.trans (hb.mono B_17.out.size))
  clear B_17
  have hs_18 := hb.size
  clear hb
  go_wp2_with fail
  refine (IT.to_all _ xs _ (HX.out.below B_18.out) HL.out).mono ?_
  rintro e w19 ⟨vE, rfl, ho, hb⟩
  have OA_19 := Lib.hid (own_keepL OA_18.out hb)
  clear OA_18
  have OAB_19 := Lib.hid (OAB_18.out.below hb)
  clear OAB_18
  have OS_19 := Lib.hid (OS_18.out.below hb)
  clear OS_18
  have OX_19 := Lib.hid (own_keepL OX_18.out hb)
  clear OX_18
  have OXB_19 := Lib.hid (OXB_18.out.below hb)
  clear OXB_18
  have OG_19 := Lib.hid (OG_18.out.below hb)
  clear OG_18
  have OC_19 := Lib.hid (own_keepL OC_18.out hb)
  clear OC_18
  have OCB_19 := Lib.hid (OCB_18.out.below hb)
  clear OCB_18
  have B_19 := Lib.hid (B_18.out.trans (hb.mono B_18.out.size))
  clear B_18
  have hs_19 := hb.size
  have OE_19 := Lib.hid ho
  have SPE : Hid (InSp w18.heap.size w19.heap.size vE) := Lib.hid (fun k hk => OE_19.out.lt k hk)
  clear hb
  clear ho
  go_wp2_with fail
  refine (BX.toO _ ls 0 w.heap.size _ (Nat.le_trans (Nat.le_refl _) B_19.out.size) (HY.out.below BLN.kept B_19.out) HSM.out).mono ?_
  rintro e w20 ⟨vEB, rfl, ho, hbh⟩
  have hb := hbh.out
  clear hbh
  have OA_20 := Lib.hid (own_keepL OA_19.out hb)
  clear OA_19
  have OAB_20 := Lib.hid (OAB_19.out.below hb)
  clear OAB_19
  have OS_20 := Lib.hid (OS_19.out.below hb)
  clear OS_19
  have OX_20 := Lib.hid (own_keepL OX_19.out hb)
  clear OX_19
  have OXB_20 := Lib.hid (OXB_19.out.below hb)
  clear OXB_19
  have OG_20 := Lib.hid (OG_19.out.below hb)
  clear OG_19
  have OC_20 := Lib.hid (own_keepL OC_19.out hb)
  clear OC_19
  have OCB_20 := Lib.hid (OCB_19.out.below hb)
  clear OCB_19
  have OE_20 := Lib.hid (own_keepL OE_19.out hb)
  clear OE_19
  have B_20 := Lib.hid (B_19.out.trans (hb.mono B_19.out.size))
  clear B_19
  have hs_20 := hb.size
  have OEB_20 := Lib.hid ho.out
  clear hb
  clear ho
  go_wp2_with fail
  refine (HIM.out _ _ xs ls day _ _ _ (IT.is_of_row OE_20.out) (len_maxC HL.out) HS.out OEB_20.out.sl HS2.out).mono ?_
  rintro e w21 ⟨vH, rfl, ho, hbh⟩
  have hb := hbh.out
  clear hbh
  rw [HZS.out] at ho
  have OA_21 := Lib.hid (own_keepL OA_20.out hb)
  clear OA_20
  have OAB_21 := Lib.hid (OAB_20.out.below hb)
  clear OAB_20
  have OS_21 := Lib.hid (OS_20.out.below hb)
  clear OS_20
  have OX_21 := Lib.hid (own_keepL OX_20.out hb)
  clear OX_20
  have OXB_21 := Lib.hid (OXB_20.out.below hb)
  clear OXB_20
  have OG_21 := Lib.hid (OG_20.out.below hb)
  clear OG_20
  have OC_21 := Lib.hid (own_keepL OC_20.out hb)
  clear OC_20
  have OCB_21 := Lib.hid (OCB_20.out.below hb)
  clear OCB_20
  have OE_21 := Lib.hid (own_keepL OE_20.out hb)
  clear OE_20
  have OEB_21 := Lib.hid (OEB_20.out.below hb)
  clear OEB_20
  have B_21 := Lib.hid (B_20.out.trans (hb.mono B_20.out.size))
  clear B_20
  have hs_21 := hb.size
  have OH_21 := Lib.hid ho.out
  clear hb
  clear ho
  go_wp2_with fail
  refine (BX.eq _ _ zs _ _ _ _ _ OH_21.out.sl OS_21.out.sl HFW.out.sm).mono ?_
  rintro e w22 ⟨rfl, hb⟩
  have OA_22 := Lib.hid (own_keepL OA_21.out hb)
  clear OA_21
  have OAB_22 := Lib.hid (OAB_21.out.below hb)
  clear OAB_21
  have OS_22 := Lib.hid (OS_21.out.below hb)
  clear OS_21
  have OX_22 := Lib.hid (own_keepL OX_21.out hb)
  clear OX_21
  have OXB_22 := Lib.hid (OXB_21.out.below hb)
  clear OXB_21
  have OG_22 := Lib.hid (OG_21.out.below hb)
  clear OG_21
  have OC_22 := Lib.hid (own_keepL OC_21.out hb)
  clear OC_21
  have OCB_22 := Lib.hid (OCB_21.out.below hb)
  clear OCB_21
  have OE_22 := Lib.hid (own_keepL OE_21.out hb)
  clear OE_21
  have OEB_22 := Lib.hid (OEB_21.out.below hb)
  clear OEB_21
  have OH_22 := Lib.hid (OH_21.out.below hb)
  clear OH_21
  have B_22 := Lib.hid (B_21.out.trans (hb.mono B_21.out.size))
  clear B_21
  have hs_22 := hb.size
  clear hb
  go_wp2_with fail
  refine (BX.heldI _ _ _ _ 1 rsG rmG _ rfl HMKG.out OG_22.out HSG.out.2 HSG.out.1 (by omega) (by rw [hKG]; omega)).mono ?_
  rintro e w23 ⟨rfl, hb⟩
  rw [hKG]
  have OA_23 := Lib.hid (own_keepL OA_22.out hb)
  clear OA_22
  have OAB_23 := Lib.hid (OAB_22.out.below hb)
  clear OAB_22
  have OS_23 := Lib.hid (OS_22.out.below hb)
  clear OS_22
  have OX_23 := Lib.hid (own_keepL OX_22.out hb)
  clear OX_22
  have OXB_23 := Lib.hid (OXB_22.out.below hb)
  clear OXB_22
  have OG_23 := Lib.hid (OG_22.out.below hb)
  clear OG_22
  have OC_23 := Lib.hid (own_keepL OC_22.out hb)
  clear OC_22
  have OCB_23 := Lib.hid (OCB_22.out.below hb)
  clear OCB_22
  have OE_23 := Lib.hid (own_keepL OE_22.out hb)
  clear OE_22
  have OEB_23 := Lib.hid (OEB_22.out.below hb)
  clear OEB_22
  have OH_23 := Lib.hid (OH_22.out.below hb)
  clear OH_22
  have B_23 := Lib.hid (B_22.out.trans (hb.mono B_22.out.size))
  clear B_22
  have hs_23 := hb.size
  clear hb
  go_wp2_with fail
  go_ret
  exact ⟨rfl, B_23.out⟩

set_option maxRecDepth 100000 in
set_option maxHeartbeats 8000000 in
theorem ex_TidyLines (v : Value) (xs : List IT) (v2 : Value) (ls : List BL) (w : World) (h : IT.Is w v xs) (hm : xs.length ≤ maxLen) (hs : ∀ r, r ∈ xs → IT.Sz r) (h2 : BX 0 w.heap.size w v2 ls) (hs2 : BX.Sz ls) (him : ImplTidyLines) :
    Calls Try.prog 10 #[v, v2] w fun e w' => e = .returned (.bool true) ∧ Below w.heap.size w w' := by
  have HIM := Lib.hid him
  clear him
  have HX := Lib.hid h
  have HS := Lib.hid hs
  have HM := Lib.hid hm
  obtain ⟨a1, c1, rfl⟩ := h.slice
  have HY := Lib.hid h2
  have HS2 := Lib.hid hs2
  obtain ⟨a2, c2, rfl⟩ := h2.slice
  clear h hs hm h2 hs2
  go_enter Try.func10, Try.ntmps10
  go_wp2_with fail
  refine (IT.sz_all _ xs 1048576 _ (HX.out.below (Lib.hid (Below.refl w.heap.size w)).out) (by omega) (by omega) HM.out HS.out).mono ?_
  rintro e w1 ⟨z, rfl, hz0, hz1, hz2, hb⟩
  have HZ2 := Lib.hid hz2
  clear hz2
  have B_1 := Lib.hid ((Lib.hid (Below.refl w.heap.size w)).out.trans (hb.mono (Lib.hid (Below.refl w.heap.size w)).out.size))
  have hs_1 := hb.size
  clear hb
  by_cases hzn : z < 0
  · go_wp2_with fail
    go_ret
    exact ⟨rfl, B_1.out⟩
  have HL : Hid (xs.length ≤ 1048576) := Lib.hid (by have := HZ2.out (by omega); omega)
  clear HZ2
  go_wp2_with fail
  refine (BX.szT _ ls z 0 w.heap.size _ (HY.out.below BLN.kept B_1.out) (by omega) (by omega) HS2.out).mono ?_
  rintro e w2 ⟨z2, rfl, hy0, hy1, hy2, hb⟩
  have HZ3 := Lib.hid hy2
  clear hy2
  have B_2 := Lib.hid (B_1.out.trans (hb.mono B_1.out.size))
  clear B_1
  have hs_2 := hb.size
  clear hb
  by_cases hzm : z2 < 0
  · go_wp2_with fail
    go_ret
    exact ⟨rfl, B_2.out⟩
  have HSM := Lib.hid (HZ3.out (by omega)).1
  have HTOT : Hid (ls.length + BX.tot ls ≤ 1048576) := Lib.hid (by have := (HZ3.out (by omega)).2; omega)
  clear HZ3
  have HFW := Lib.hid (few_tidy xs ls)
  obtain ⟨zs, hzs⟩ : ∃ zs, tidyR xs ls = zs := ⟨_, rfl⟩
  have HZS := Lib.hid hzs
  rw [hzs] at HFW
  clear hzs
  go_wp2_with fail
  refine (IT.to_all _ xs _ (HX.out.below B_2.out) HL.out).mono ?_
  rintro e w3 ⟨vA, rfl, ho, hb⟩
  have B_3 := Lib.hid (B_2.out.trans (hb.mono B_2.out.size))
  clear B_2
  have hs_3 := hb.size
  have OA_3 := Lib.hid ho
  have SPA : Hid (InSp w2.heap.size w3.heap.size vA) := Lib.hid (fun k hk => OA_3.out.lt k hk)
  clear hb
  clear ho
  go_wp2_with fail
  refine (BX.toO _ ls 0 w.heap.size _ (Nat.le_trans (Nat.le_refl _) B_3.out.size) (HY.out.below BLN.kept B_3.out) HSM.out).mono ?_
  rintro e w4 ⟨vAB, rfl, ho, hbh⟩
  have hb := hbh.out
  clear hbh
  have OA_4 := Lib.hid (own_keepL OA_3.out hb)
  clear OA_3
  have B_4 := Lib.hid (B_3.out.trans (hb.mono B_3.out.size))
  clear B_3
  have hs_4 := hb.size
  have OAB_4 := Lib.hid ho.out
  clear hb
  clear ho
  go_wp2_with fail
  refine (spec_tidyLines _ _ xs ls _ _ _ (IT.is_of_row OA_4.out) OAB_4.out.sl (len_maxC HL.out) HS.out HS2.out).mono ?_
  rintro e w5 ⟨vS, rfl, ho, hbh⟩
  have hb := hbh.out
  clear hbh
  rw [HZS.out] at ho
  have OA_5 := Lib.hid (own_keepL OA_4.out hb)
  clear OA_4
  have OAB_5 := Lib.hid (OAB_4.out.below hb)
  clear OAB_4
  have B_5 := Lib.hid (B_4.out.trans (hb.mono B_4.out.size))
  clear B_4
  have hs_5 := hb.size
  have OS_5 := Lib.hid ho.out
  clear hb
  clear ho
  go_wp2_with fail
  refine (IT.to_all _ xs _ (HX.out.below B_5.out) HL.out).mono ?_
  rintro e w6 ⟨vX, rfl, ho, hb⟩
  have OA_6 := Lib.hid (own_keepL OA_5.out hb)
  clear OA_5
  have OAB_6 := Lib.hid (OAB_5.out.below hb)
  clear OAB_5
  have OS_6 := Lib.hid (OS_5.out.below hb)
  clear OS_5
  have B_6 := Lib.hid (B_5.out.trans (hb.mono B_5.out.size))
  clear B_5
  have hs_6 := hb.size
  have OX_6 := Lib.hid ho
  have SPX : Hid (InSp w5.heap.size w6.heap.size vX) := Lib.hid (fun k hk => OX_6.out.lt k hk)
  clear hb
  clear ho
  go_wp2_with fail
  refine (BX.toO _ ls 0 w.heap.size _ (Nat.le_trans (Nat.le_refl _) B_6.out.size) (HY.out.below BLN.kept B_6.out) HSM.out).mono ?_
  rintro e w7 ⟨vXB, rfl, ho, hbh⟩
  have hb := hbh.out
  clear hbh
  have OA_7 := Lib.hid (own_keepL OA_6.out hb)
  clear OA_6
  have OAB_7 := Lib.hid (OAB_6.out.below hb)
  clear OAB_6
  have OS_7 := Lib.hid (OS_6.out.below hb)
  clear OS_6
  have OX_7 := Lib.hid (own_keepL OX_6.out hb)
  clear OX_6
  have B_7 := Lib.hid (B_6.out.trans (hb.mono B_6.out.size))
  clear B_6
  have hs_7 := hb.size
  have OXB_7 := Lib.hid ho.out
  clear hb
  clear ho
  go_wp2_with fail
  refine (HIM.out _ _ xs ls _ _ _ (IT.is_of_row OX_7.out) (len_maxC HL.out) HS.out OXB_7.out.sl HS2.out).mono ?_
  rintro e w8 ⟨vG, rfl, ho, hbh⟩
  have hb := hbh.out
  clear hbh
  rw [HZS.out] at ho
  have OA_8 := Lib.hid (own_keepL OA_7.out hb)
  clear OA_7
  have OAB_8 := Lib.hid (OAB_7.out.below hb)
  clear OAB_7
  have OS_8 := Lib.hid (OS_7.out.below hb)
  clear OS_7
  have OX_8 := Lib.hid (own_keepL OX_7.out hb)
  clear OX_7
  have OXB_8 := Lib.hid (OXB_7.out.below hb)
  clear OXB_7
  have B_8 := Lib.hid (B_7.out.trans (hb.mono B_7.out.size))
  clear B_7
  have hs_8 := hb.size
  have OG_8 := Lib.hid ho.out
  clear hb
  clear ho
  go_wp2_with fail
  refine (BX.eq _ _ zs _ _ _ _ _ OG_8.out.sl OS_8.out.sl HFW.out.sm).mono ?_
  rintro e w9 ⟨rfl, hb⟩
  have OA_9 := Lib.hid (own_keepL OA_8.out hb)
  clear OA_8
  have OAB_9 := Lib.hid (OAB_8.out.below hb)
  clear OAB_8
  have OS_9 := Lib.hid (OS_8.out.below hb)
  clear OS_8
  have OX_9 := Lib.hid (own_keepL OX_8.out hb)
  clear OX_8
  have OXB_9 := Lib.hid (OXB_8.out.below hb)
  clear OXB_8
  have OG_9 := Lib.hid (OG_8.out.below hb)
  clear OG_8
  have B_9 := Lib.hid (B_8.out.trans (hb.mono B_8.out.size))
  clear B_8
  have hs_9 := hb.size
  clear hb
  go_wp2_with fail
  refine (IT.to_all _ xs _ (HX.out.below B_9.out) HL.out).mono ?_
  rintro e w10 ⟨vC, rfl, ho, hb⟩
  have OA_10 := Lib.hid (own_keepL OA_9.out hb)
  clear OA_9
  have OAB_10 := Lib.hid (OAB_9.out.below hb)
  clear OAB_9
  have OS_10 := Lib.hid (OS_9.out.below hb)
  clear OS_9
  have OX_10 := Lib.hid (own_keepL OX_9.out hb)
  clear OX_9
  have OXB_10 := Lib.hid (OXB_9.out.below hb)
  clear OXB_9
  have OG_10 := Lib.hid (OG_9.out.below hb)
  clear OG_9
  have B_10 := Lib.hid (B_9.out.trans (hb.mono B_9.out.size))
  clear B_9
  have hs_10 := hb.size
  have OC_10 := Lib.hid ho
  have SPC : Hid (InSp w9.heap.size w10.heap.size vC) := Lib.hid (fun k hk => OC_10.out.lt k hk)
  clear hb
  clear ho
  go_wp2_with fail
  refine (IT.eq_all _ _ xs _ (IT.is_of_row OX_10.out) (IT.is_of_row OC_10.out) (by have := HL.out; omega)).mono ?_
  rintro e w11 ⟨rfl, hb⟩
  have OA_11 := Lib.hid (own_keepL OA_10.out hb)
  clear OA_10
  have OAB_11 := Lib.hid (OAB_10.out.below hb)
  clear OAB_10
  have OS_11 := Lib.hid (OS_10.out.below hb)
  clear OS_10
  have OX_11 := Lib.hid (own_keepL OX_10.out hb)
  clear OX_10
  have OXB_11 := Lib.hid (OXB_10.out.below hb)
  clear OXB_10
  have OG_11 := Lib.hid (OG_10.out.below hb)
  clear OG_10
  have OC_11 := Lib.hid (own_keepL OC_10.out hb)
  clear OC_10
  have B_11 := Lib.hid (B_10.out.trans (hb.mono B_10.out.size))
  clear B_10
  have hs_11 := hb.size
  clear hb
  go_wp2_with fail
  refine (BX.toO _ ls 0 w.heap.size _ (Nat.le_trans (Nat.le_refl _) B_11.out.size) (HY.out.below BLN.kept B_11.out) HSM.out).mono ?_
  rintro e w12 ⟨vCB, rfl, ho, hbh⟩
  have hb := hbh.out
  clear hbh
  have OA_12 := Lib.hid (own_keepL OA_11.out hb)
  clear OA_11
  have OAB_12 := Lib.hid (OAB_11.out.below hb)
  clear OAB_11
  have OS_12 := Lib.hid (OS_11.out.below hb)
  clear OS_11
  have OX_12 := Lib.hid (own_keepL OX_11.out hb)
  clear OX_11
  have OXB_12 := Lib.hid (OXB_11.out.below hb)
  clear OXB_11
  have OG_12 := Lib.hid (OG_11.out.below hb)
  clear OG_11
  have OC_12 := Lib.hid (own_keepL OC_11.out hb)
  clear OC_11
  have B_12 := Lib.hid (B_11.out.trans (hb.mono B_11.out.size))
  clear B_11
  have hs_12 := hb.size
  have OCB_12 := Lib.hid ho.out
  clear hb
  clear ho
  go_wp2_with fail
  refine (BX.eq _ _ ls _ _ _ _ _ OXB_12.out.sl OCB_12.out.sl HSM.out).mono ?_
  rintro e w13 ⟨rfl, hb⟩
  have OA_13 := Lib.hid (own_keepL OA_12.out hb)
  clear OA_12
  have OAB_13 := Lib.hid (OAB_12.out.below hb)
  clear OAB_12
  have OS_13 := Lib.hid (OS_12.out.below hb)
  clear OS_12
  have OX_13 := Lib.hid (own_keepL OX_12.out hb)
  clear OX_12
  have OXB_13 := Lib.hid (OXB_12.out.below hb)
  clear OXB_12
  have OG_13 := Lib.hid (OG_12.out.below hb)
  clear OG_12
  have OC_13 := Lib.hid (own_keepL OC_12.out hb)
  clear OC_12
  have OCB_13 := Lib.hid (OCB_12.out.below hb)
  clear OCB_12
  have B_13 := Lib.hid (B_12.out.trans (hb.mono B_12.out.size))
  clear B_12
  have hs_13 := hb.size
  clear hb
  obtain ⟨K1, hK1⟩ : ∃ K, 1 + 8 * xs.length = K := ⟨_, rfl⟩
  have hk1b : 0 < K1 ∧ K1 ≤ 8388609 := by have := HL.out; omega
  have HK1 := Lib.hid hK1
  go_wp2_with fail
  refine (IT.mark1 _ _ _ xs.length _ _ rfl OX_13.out (by have := HL.out; omega)).mono ?_
  rintro e w14 ⟨rfl, ho, hg⟩
  rw [hK1]
  clear hK1
  have OX_14 := Lib.hid ho
  clear OX_13
  have HC := Lib.hid (ChgIn.of_grown hg SPX.out)
  clear ho hg
  have OA_14 := Lib.hid (HC.out.row OA_13.out (fun b hb2 => by have h1 := SPA.out b hb2; omega))
  clear OA_13
  have OAB_14 := Lib.hid (OAB_13.out.far HC.out (by omega))
  clear OAB_13
  have OS_14 := Lib.hid (OS_13.out.far HC.out (by omega))
  clear OS_13
  have OXB_14 := Lib.hid (OXB_13.out.far HC.out (by omega))
  clear OXB_13
  have OG_14 := Lib.hid (OG_13.out.far HC.out (by omega))
  clear OG_13
  have OC_14 := Lib.hid (HC.out.row OC_13.out (fun b hb2 => by have h1 := SPC.out b hb2; omega))
  clear OC_13
  have OCB_14 := Lib.hid (OCB_13.out.far HC.out (by omega))
  clear OCB_13
  have B_14 := Lib.hid (HC.out.below B_13.out (by omega))
  clear B_13
  have hs_14 := HC.out.size
  clear HC
  obtain ⟨rsXB, hrecXB, hownXB⟩ := OXB_14.out
  have HRECXB := Lib.hid hrecXB
  have OXB_14r := Lib.hid hownXB
  clear hrecXB hownXB OXB_14
  have HSXB := Lib.hid (HRECXB.out.sm HSM.out)
  obtain ⟨K2, hK2⟩ : ∃ K, BX.pos K1 rsXB rsXB.length = K := ⟨_, rfl⟩
  have HK2 := Lib.hid hK2
  have hk2b : 0 < K2 ∧ K2 ≤ 20000000 := by have h1 := BX.pos_tot HRECXB.out K1; have h2 := HTOT.out; rw [hK2] at h1; omega
  go_wp2_with fail
  refine (BX.markI _ _ _ _ K1 rsXB _ (by omega) OXB_14r.out HSXB.out.2 HSXB.out.1 (by omega) (by rw [hK2]; omega)).mono ?_
  rintro e w15 ⟨rmXB, rfl, HMKXB, ho, HC⟩
  rw [hK2]
  clear hK2
  have OXB_15 := ho
  clear ho OXB_14r
  have OA_15 := Lib.hid (HC.out.row OA_14.out (fun b hb2 => by have h1 := SPA.out b hb2; omega))
  clear OA_14
  have OAB_15 := Lib.hid (OAB_14.out.far HC.out (by omega))
  clear OAB_14
  have OS_15 := Lib.hid (OS_14.out.far HC.out (by omega))
  clear OS_14
  have OX_15 := Lib.hid (HC.out.row OX_14.out (fun b hb2 => by have h1 := SPX.out b hb2; omega))
  clear OX_14
  have OG_15 := Lib.hid (OG_14.out.far HC.out (by omega))
  clear OG_14
  have OC_15 := Lib.hid (HC.out.row OC_14.out (fun b hb2 => by have h1 := SPC.out b hb2; omega))
  clear OC_14
  have OCB_15 := Lib.hid (OCB_14.out.far HC.out (by omega))
  clear OCB_14
  have B_15 := Lib.hid (HC.out.below B_14.out (by omega))
  clear B_14
  have hs_15 := HC.out.size
  clear HC
  have hkn : decide ((K2 : Int) < 0) = false := decide_eq_false (by omega)
  go_wp2_with fail
  refine (BX.eq _ _ zs _ _ _ _ _ OG_15.out.sl OS_15.out.sl HFW.out.sm).mono ?_
  rintro e w16 ⟨rfl, hb⟩
  have OA_16 := Lib.hid (own_keepL OA_15.out hb)
  clear OA_15
  have OAB_16 := Lib.hid (OAB_15.out.below hb)
  clear OAB_15
  have OS_16 := Lib.hid (OS_15.out.below hb)
  clear OS_15
  have OX_16 := Lib.hid (own_keepL OX_15.out hb)
  clear OX_15
  have OXB_16 := Lib.hid (OXB_15.out.below hb)
  clear OXB_15
  have OG_16 := Lib.hid (OG_15.out.below hb)
  clear OG_15
  have OC_16 := Lib.hid (own_keepL OC_15.out hb)
  clear OC_15
  have OCB_16 := Lib.hid (OCB_15.out.below hb)
  clear OCB_15
  have B_16 := Lib.hid (B_15.out.trans (hb.mono B_15.out.size))
  clear B_15
  have hs_16 := hb.size
  clear hb
  obtain ⟨rsG, hrecG, hownG⟩ := OG_16.out
  have HRECG := Lib.hid hrecG
  have OG_16r := Lib.hid hownG
  clear hrecG hownG OG_16
  have HSG := Lib.hid (HRECG.out.sm HFW.out.sm)
  obtain ⟨KG, hKG⟩ : ∃ K, BX.pos 1 rsG rsG.length = K := ⟨_, rfl⟩
  have HKG := Lib.hid hKG
  have hkgb : 0 < KG ∧ KG ≤ 20000000 := by have h1 := BX.pos_tot HRECG.out 1; have h2 := HFW.out.tot; rw [hKG] at h1; omega
  have hqq : ((KG : Int) != (KG : Int)) = false := by simp
  have hqn : decide ((KG : Int) < 0) = false := decide_eq_false (by omega)
  go_wp2_with fail
  refine (BX.markI _ _ _ _ 1 rsG _ rfl OG_16r.out HSG.out.2 HSG.out.1 (by omega) (by rw [hKG]; omega)).mono ?_
  rintro e w17 ⟨rmG, rfl, HMKG, ho, HC⟩
  rw [hKG]
  have OG_17 := ho
  clear ho OG_16r
  have OA_17 := Lib.hid (HC.out.row OA_16.out (fun b hb2 => by have h1 := SPA.out b hb2; omega))
  clear OA_16
  have OAB_17 := Lib.hid (OAB_16.out.far HC.out (by omega))
  clear OAB_16
  have OS_17 := Lib.hid (OS_16.out.far HC.out (by omega))
  clear OS_16
  have OX_17 := Lib.hid (HC.out.row OX_16.out (fun b hb2 => by have h1 := SPX.out b hb2; omega))
  clear OX_16
  have OXB_17 := Lib.hid (OXB_16.out.far HC.out (by omega))
  clear OXB_16
  have OC_17 := Lib.hid (HC.out.row OC_16.out (fun b hb2 => by have h1 := SPC.out b hb2; omega))
  clear OC_16
  have OCB_17 := Lib.hid (OCB_16.out.far HC.out (by omega))
  clear OCB_16
  have B_17 := Lib.hid (HC.out.below B_16.out (by omega))
  clear B_16
  have hs_17 := HC.out.size
  clear HC
  go_wp2_with fail
  refine (BX.heldI _ _ _ _ 1 rsG rmG _ rfl HMKG.out OG_17.out HSG.out.2 HSG.out.1 (by omega) (by rw [hKG]; omega)).mono ?_
  rintro e w18 ⟨rfl, hb⟩
  rw [hKG]
  have OA_18 := Lib.hid (own_keepL OA_17.out hb)
  clear OA_17
  have OAB_18 := Lib.hid (OAB_17.out.below hb)
  clear OAB_17
  have OS_18 := Lib.hid (OS_17.out.below hb)
  clear OS_17
  have OX_18 := Lib.hid (own_keepL OX_17.out hb)
  clear OX_17
  have OXB_18 := Lib.hid (OXB_17.out.below hb)
  clear OXB_17
  have OG_18 := Lib.hid (OG_17.out.below hb)
  clear OG_17
  have OC_18 := Lib.hid (own_keepL OC_17.out hb)
  clear OC_17
  have OCB_18 := Lib.hid (OCB_17.out.below hb)
  clear OCB_17
  have B_18 := Lib.hid (B_17.out.trans (hb.mono B_17.out.size))
  clear B_17
  have hs_18 := hb.size
  clear hb
  go_wp2_with fail
  refine (IT.to_all _ xs _ (HX.out.below B_18.out) HL.out).mono ?_
  rintro e w19 ⟨vE, rfl, ho, hb⟩
  have OA_19 := Lib.hid (own_keepL OA_18.out hb)
  clear OA_18
  have OAB_19 := Lib.hid (OAB_18.out.below hb)
  clear OAB_18
  have OS_19 := Lib.hid (OS_18.out.below hb)
  clear OS_18
  have OX_19 := Lib.hid (own_keepL OX_18.out hb)
  clear OX_18
  have OXB_19 := Lib.hid (OXB_18.out.below hb)
  clear OXB_18
  have OG_19 := Lib.hid (OG_18.out.below hb)
  clear OG_18
  have OC_19 := Lib.hid (own_keepL OC_18.out hb)
  clear OC_18
  have OCB_19 := Lib.hid (OCB_18.out.below hb)
  clear OCB_18
  have B_19 := Lib.hid (B_18.out.trans (hb.mono B_18.out.size))
  clear B_18
  have hs_19 := hb.size
  have OE_19 := Lib.hid ho
  have SPE : Hid (InSp w18.heap.size w19.heap.size vE) := Lib.hid (fun k hk => OE_19.out.lt k hk)
  clear hb
  clear ho
  go_wp2_with fail
  refine (BX.toO _ ls 0 w.heap.size _ (Nat.le_trans (Nat.le_refl _) B_19.out.size) (HY.out.below BLN.kept B_19.out) HSM.out).mono ?_
  rintro e w20 ⟨vEB, rfl, ho, hbh⟩
  have hb := hbh.out
  clear hbh
  have OA_20 := Lib.hid (own_keepL OA_19.out hb)
  clear OA_19
  have OAB_20 := Lib.hid (OAB_19.out.below hb)
  clear OAB_19
  have OS_20 := Lib.hid (OS_19.out.below hb)
  clear OS_19
  have OX_20 := Lib.hid (own_keepL OX_19.out hb)
  clear OX_19
  have OXB_20 := Lib.hid (OXB_19.out.below hb)
  clear OXB_19
  have OG_20 := Lib.hid (OG_19.out.below hb)
  clear OG_19
  have OC_20 := Lib.hid (own_keepL OC_19.out hb)
  clear OC_19
  have OCB_20 := Lib.hid (OCB_19.out.below hb)
  clear OCB_19
  have OE_20 := Lib.hid (own_keepL OE_19.out hb)
  clear OE_19
  have B_20 := Lib.hid (B_19.out.trans (hb.mono B_19.out.size))
  clear B_19
  have hs_20 := hb.size
  have OEB_20 := Lib.hid ho.out
  clear hb
  clear ho
  go_wp2_with fail
  refine (HIM.out _ _ xs ls _ _ _ (IT.is_of_row OE_20.out) (len_maxC HL.out) HS.out OEB_20.out.sl HS2.out).mono ?_
  rintro e w21 ⟨vH, rfl, ho, hbh⟩
  have hb := hbh.out
  clear hbh
  rw [HZS.out] at ho
  have OA_21 := Lib.hid (own_keepL OA_20.out hb)
  clear OA_20
  have OAB_21 := Lib.hid (OAB_20.out.below hb)
  clear OAB_20
  have OS_21 := Lib.hid (OS_20.out.below hb)
  clear OS_20
  have OX_21 := Lib.hid (own_keepL OX_20.out hb)
  clear OX_20
  have OXB_21 := Lib.hid (OXB_20.out.below hb)
  clear OXB_20
  have OG_21 := Lib.hid (OG_20.out.below hb)
  clear OG_20
  have OC_21 := Lib.hid (own_keepL OC_20.out hb)
  clear OC_20
  have OCB_21 := Lib.hid (OCB_20.out.below hb)
  clear OCB_20
  have OE_21 := Lib.hid (own_keepL OE_20.out hb)
  clear OE_20
  have OEB_21 := Lib.hid (OEB_20.out.below hb)
  clear OEB_20
  have B_21 := Lib.hid (B_20.out.trans (hb.mono B_20.out.size))
  clear B_20
  have hs_21 := hb.size
  have OH_21 := Lib.hid ho.out
  clear hb
  clear ho
  go_wp2_with fail
  refine (BX.eq _ _ zs _ _ _ _ _ OH_21.out.sl OS_21.out.sl HFW.out.sm).mono ?_
  rintro e w22 ⟨rfl, hb⟩
  have OA_22 := Lib.hid (own_keepL OA_21.out hb)
  clear OA_21
  have OAB_22 := Lib.hid (OAB_21.out.below hb)
  clear OAB_21
  have OS_22 := Lib.hid (OS_21.out.below hb)
  clear OS_21
  have OX_22 := Lib.hid (own_keepL OX_21.out hb)
  clear OX_21
  have OXB_22 := Lib.hid (OXB_21.out.below hb)
  clear OXB_21
  have OG_22 := Lib.hid (OG_21.out.below hb)
  clear OG_21
  have OC_22 := Lib.hid (own_keepL OC_21.out hb)
  clear OC_21
  have OCB_22 := Lib.hid (OCB_21.out.below hb)
  clear OCB_21
  have OE_22 := Lib.hid (own_keepL OE_21.out hb)
  clear OE_21
  have OEB_22 := Lib.hid (OEB_21.out.below hb)
  clear OEB_21
  have OH_22 := Lib.hid (OH_21.out.below hb)
  clear OH_21
  have B_22 := Lib.hid (B_21.out.trans (hb.mono B_21.out.size))
  clear B_21
  have hs_22 := hb.size
  clear hb
  go_wp2_with fail
  refine (BX.heldI _ _ _ _ 1 rsG rmG _ rfl HMKG.out OG_22.out HSG.out.2 HSG.out.1 (by omega) (by rw [hKG]; omega)).mono ?_
  rintro e w23 ⟨rfl, hb⟩
  rw [hKG]
  have OA_23 := Lib.hid (own_keepL OA_22.out hb)
  clear OA_22
  have OAB_23 := Lib.hid (OAB_22.out.below hb)
  clear OAB_22
  have OS_23 := Lib.hid (OS_22.out.below hb)
  clear OS_22
  have OX_23 := Lib.hid (own_keepL OX_22.out hb)
  clear OX_22
  have OXB_23 := Lib.hid (OXB_22.out.below hb)
  clear OXB_22
  have OG_23 := Lib.hid (OG_22.out.below hb)
  clear OG_22
  have OC_23 := Lib.hid (own_keepL OC_22.out hb)
  clear OC_22
  have OCB_23 := Lib.hid (OCB_22.out.below hb)
  clear OCB_22
  have OE_23 := Lib.hid (own_keepL OE_22.out hb)
  clear OE_22
  have OEB_23 := Lib.hid (OEB_22.out.below hb)
  clear OEB_22
  have OH_23 := Lib.hid (OH_22.out.below hb)
  clear OH_22
  have B_23 := Lib.hid (B_22.out.trans (hb.mono B_22.out.size))
  clear B_22
  have hs_23 := hb.size
  clear hb
  go_wp2_with fail
  go_ret
  exact ⟨rfl, B_23.out⟩

end Go.Proofs.Ytdhldokpojghdaa
