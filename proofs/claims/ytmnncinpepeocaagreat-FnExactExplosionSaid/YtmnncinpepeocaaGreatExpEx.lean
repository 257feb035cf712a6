/-
 The walks of the exact laws of Explosion and PartsOf.
-/
import Derived.Test.YtmnncinpepeocaaGreatSpecParts
import Derived.Test.YtmnncinpepeocaaGreatPartImpl
import Derived.Test.YtmnncinpepeocaaGreatBuNE2
import Derived.Test.YtmnncinpepeocaaGreatBuBk
import Derived.Test.YtmnncinpepeocaaGreatBuRec
import Derived.Test.YtmnncinpepeocaaGreatBuRec2
import Derived.Test.YtmnncinpepeocaaGreatBuA
import Derived.WalkKit
import Derived.WalkSpells
import Derived.WalkSmall
import Derived.Deep.DeepCutAuto
import Derived.Lib.Hide
namespace Go.Proofs.YtmnncinpepeocaaGreat
open Go.RowKit

theorem exZ_len (l : List IT) (xs : List BL) (s : ByteArray) (q day : Int) (ps : List PK) (ph : Bool) : (exZ l xs s q day ps ph).length ≤ l.length := by
 by_cases h : ExYes l xs s q day ps ph
 · rw [exZ_yes h]; exact needP_le _ _ _ _
 · rw [exZ_no h]; exact Nat.zero_le _

set_option maxRecDepth 100000 in
set_option maxHeartbeats 8000000 in
theorem ex_Explosion (v : Value) (xs : List IT) (v2 : Value) (ls : List BL) (s : ByteArray) (q day : Int) (v3 : Value) (ps : List PK) (w : World) (h : IT.Is w v xs) (hm : xs.length ≤ maxLen) (hs : ∀ r, r ∈ xs → IT.Sz r) (h2 : BX 0 w.heap.size w v2 ls) (hs2 : BX.Sz ls) (hts : s.size ≤ maxLen) (h3 : PK.Is w v3 ps) (hm3 : ps.length ≤ maxLen) (hs3 : ∀ r, r ∈ ps → PK.Sz r) :
 Calls Tryz.prog 6 #[v, v2, .string s, .int .i64 q, .int .i64 day, v3] w fun e w' => e = .returned (.bool true) ∧ Below w.heap.size w w' := by
 have HX := Lib.hid h
 have HS := Lib.hid hs
 have HY := Lib.hid h2
 have HS2 := Lib.hid hs2
 have HSZ := Lib.hid (IT.sz_all v xs 1048576 w h (by omega) (by omega) hm hs)
 obtain ⟨a1, c1, rfl⟩ := h.slice
 obtain ⟨a2, c2, rfl⟩ := h2.slice
 have HP := Lib.hid h3
 have HS3 := Lib.hid hs3
 have HM3 := Lib.hid hm3
 obtain ⟨a3, c3, rfl⟩ := h3.slice
 unfold maxLen at hts
 by_cases hbigs : 1048576 < s.size
 · go_enter Tryz.func6, Tryz.ntmps6
   go_wp2_with fail
   go_ret
   exact ⟨rfl, Below.refl _ _⟩
 clear h3 hs3 hm3
 clear h hs hm h2 hs2
 go_enter Tryz.func6, Tryz.ntmps6
 go_wp2_with fail
 refine (HSZ.out).mono ?_
 rintro e w1 ⟨z, rfl, hz0, hz1, hz2, hb⟩
 have HZ2 := Lib.hid hz2
 clear hz2
 have B_1 := Lib.hid ((Lib.hid (Below.refl w.heap.size w)).out.trans (hb.mono (Lib.hid (Below.refl w.heap.size w)).out.size))
 have hs_1 := hb.size
 clear hb
 by_cases hzn : z < 0
 · go_wp2_with fail
   go_ret
   exact ⟨rfl, B_1.out⟩
 have HL : Hid (xs.length ≤ 1048576) := Lib.hid (by have := HZ2.out (by omega); omega)
 clear HZ2 HSZ
 go_wp2_with fail
 refine (BX.szT _ ls z 0 w.heap.size _ (HY.out.below BLN.kept B_1.out) (by omega) (by omega) HS2.out).mono ?_
 rintro e w2 ⟨z2, rfl, hy0, hy1, hy2, hb⟩
 have HZ3 := Lib.hid hy2
 clear hy2
 have B_2 := Lib.hid (B_1.out.trans (hb.mono B_1.out.size))
 clear B_1
 have hs_2 := hb.size
 clear hb
 by_cases hzm : z2 < 0
 · go_wp2_with fail
   go_ret
   exact ⟨rfl, B_2.out⟩
 have HSM := Lib.hid (HZ3.out (by omega)).1
 have HTOT : Hid (ls.length + BX.tot ls ≤ 1048576) := Lib.hid (by have := (HZ3.out (by omega)).2; omega)
 clear HZ3
 go_wp2_with fail
 refine (PK.sz_all _ ps z2 _ (HP.out.below B_2.out) (by omega) (by omega) HM3.out HS3.out).mono ?_
 rintro e w3 ⟨z3, rfl, hx0, hx1, hx2, hb⟩
 have HZ4 := Lib.hid hx2
 clear hx2
 have B_3 := Lib.hid (B_2.out.trans (hb.mono B_2.out.size))
 clear B_2
 have hs_3 := hb.size
 clear hb
 by_cases hzp : z3 < 0
 · go_wp2_with fail
   go_ret
   exact ⟨rfl, B_3.out⟩
 have HL3 : Hid (ps.length ≤ 1048576) := Lib.hid (by have := HZ4.out (by omega); omega)
 clear HZ4
 have HRL : Hid ((exZ xs ls s q day ps false).length ≤ 1048576) := Lib.hid (Nat.le_trans (exZ_len xs ls s q day ps false) HL.out)
 obtain ⟨zs, hzs⟩ : ∃ zs, (exZ xs ls s q day ps false) = zs := ⟨_, rfl⟩
 have HZS := Lib.hid hzs
 rw [hzs] at HRL
 clear hzs
 obtain ⟨y, hy⟩ : ∃ y, exB xs ls s q day ps false = y := ⟨_, rfl⟩
 have HYY := Lib.hid hy
 clear hy
 have hnn : (y != y) = false := by simp
 go_wp2_with fail
 refine (IT.to_all _ xs _ (HX.out.below B_3.out) HL.out).mono ?_
 rintro e w4 ⟨vA, rfl, ho, hb⟩
 have B_4 := Lib.hid (B_3.out.trans (hb.mono B_3.out.size))
 clear B_3
 have hs_4 := hb.size
 have OA_4 := Lib.hid ho
 have SPA : Hid (InSp w3.heap.size w4.heap.size vA) := Lib.hid (fun k hk => OA_4.out.lt k hk)
 clear hb
 clear ho
 go_wp2_with fail
 refine (BX.toO _ ls 0 w.heap.size _ B_4.out.size (HY.out.below BLN.kept B_4.out) HSM.out).mono ?_
 rintro e w5 ⟨vAB, rfl, ho, hbh⟩
 have hb := hbh.out
 clear hbh
 have OA_5 := Lib.hid (own_keepL OA_4.out hb)
 clear OA_4
 have B_5 := Lib.hid (B_4.out.trans (hb.mono B_4.out.size))
 clear B_4
 have hs_5 := hb.size
 have OAB_5 := Lib.hid ho.out
 clear hb
 clear ho
 go_wp2_with fail
 refine (PK.to_all _ ps _ (HP.out.below B_5.out) HL3.out).mono ?_
 rintro e w6 ⟨vAP, rfl, ho, hb⟩
 have OA_6 := Lib.hid (own_keepL OA_5.out hb)
 clear OA_5
 have OAB_6 := Lib.hid (OAB_5.out.below hb)
 clear OAB_5
 have B_6 := Lib.hid (B_5.out.trans (hb.mono B_5.out.size))
 clear B_5
 have hs_6 := hb.size
 have OAP_6 := Lib.hid ho
 have SPAP : Hid (InSp w5.heap.size w6.heap.size vAP) := Lib.hid (fun k hk => OAP_6.out.lt k hk)
 clear hb
 clear ho
 go_wp2_with fail
 refine (spec_explosion _ _ _ xs ls s q day ps _ _ _ (IT.is_of_row OA_6.out) OAB_6.out.sl (PK.is_of_row OAP_6.out) (len_max HL.out) HS.out HS2.out (len_max HL3.out)).mono ?_
 rintro e w7 ⟨vS, rfl, ho, hbh⟩
 have hb := hbh.out
 clear hbh
 rw [HZS.out] at ho
 rw [HYY.out]
 have OA_7 := Lib.hid (own_keepL OA_6.out hb)
 clear OA_6
 have OAB_7 := Lib.hid (OAB_6.out.below hb)
 clear OAB_6
 have OAP_7 := Lib.hid (own_keepL OAP_6.out hb)
 clear OAP_6
 have B_7 := Lib.hid (B_6.out.trans (hb.mono B_6.out.size))
 clear B_6
 have hs_7 := hb.size
 have OS_7 := Lib.hid ho.out
 have SPS : Hid (InSp w6.heap.size w7.heap.size vS) := Lib.hid (fun k hk => OS_7.out.lt k hk)
 clear hb
 clear ho
 go_wp2_with fail
 refine (IT.to_all _ xs _ (HX.out.below B_7.out) HL.out).mono ?_
 rintro e w8 ⟨vX, rfl, ho, hb⟩
 have OA_8 := Lib.hid (own_keepL OA_7.out hb)
 clear OA_7
 have OAB_8 := Lib.hid (OAB_7.out.below hb)
 clear OAB_7
 have OAP_8 := Lib.hid (own_keepL OAP_7.out hb)
 clear OAP_7
 have OS_8 := Lib.hid (own_keepL OS_7.out hb)
 clear OS_7
 have B_8 := Lib.hid (B_7.out.trans (hb.mono B_7.out.size))
 clear B_7
 have hs_8 := hb.size
 have OX_8 := Lib.hid ho
 have SPX : Hid (InSp w7.heap.size w8.heap.size vX) := Lib.hid (fun k hk => OX_8.out.lt k hk)
 clear hb
 clear ho
 go_wp2_with fail
 refine (BX.toO _ ls 0 w.heap.size _ B_8.out.size (HY.out.below BLN.kept B_8.out) HSM.out).mono ?_
 rintro e w9 ⟨vXB, rfl, ho, hbh⟩
 have hb := hbh.out
 clear hbh
 have OA_9 := Lib.hid (own_keepL OA_8.out hb)
 clear OA_8
 have OAB_9 := Lib.hid (OAB_8.out.below hb)
 clear OAB_8
 have OAP_9 := Lib.hid (own_keepL OAP_8.out hb)
 clear OAP_8
 have OS_9 := Lib.hid (own_keepL OS_8.out hb)
 clear OS_8
 have OX_9 := Lib.hid (own_keepL OX_8.out hb)
 clear OX_8
 have B_9 := Lib.hid (B_8.out.trans (hb.mono B_8.out.size))
 clear B_8
 have hs_9 := hb.size
 have OXB_9 := Lib.hid ho.out
 clear hb
 clear ho
 go_wp2_with fail
 refine (PK.to_all _ ps _ (HP.out.below B_9.out) HL3.out).mono ?_
 rintro e w10 ⟨vXP, rfl, ho, hb⟩
 have OA_10 := Lib.hid (own_keepL OA_9.out hb)
 clear OA_9
 have OAB_10 := Lib.hid (OAB_9.out.below hb)
 clear OAB_9
 have OAP_10 := Lib.hid (own_keepL OAP_9.out hb)
 clear OAP_9
 have OS_10 := Lib.hid (own_keepL OS_9.out hb)
 clear OS_9
 have OX_10 := Lib.hid (own_keepL OX_9.out hb)
 clear OX_9
 have OXB_10 := Lib.hid (OXB_9.out.below hb)
 clear OXB_9
 have B_10 := Lib.hid (B_9.out.trans (hb.mono B_9.out.size))
 clear B_9
 have hs_10 := hb.size
 have OXP_10 := Lib.hid ho
 have SPXP : Hid (InSp w9.heap.size w10.heap.size vXP) := Lib.hid (fun k hk => OXP_10.out.lt k hk)
 clear hb
 clear ho
 go_wp2_with fail
 refine (im_explosion _ _ _ xs ls s q day ps _ _ _ (IT.is_of_row OX_10.out) OXB_10.out.sl (PK.is_of_row OXP_10.out) (len_max HL.out) HS.out HS2.out (len_max HL3.out)).mono ?_
 rintro e w11 ⟨vG, rfl, ho, hbh⟩
 have hb := hbh.out
 clear hbh
 rw [HZS.out] at ho
 rw [HYY.out]
 have OA_11 := Lib.hid (own_keepL OA_10.out hb)
 clear OA_10
 have OAB_11 := Lib.hid (OAB_10.out.below hb)
 clear OAB_10
 have OAP_11 := Lib.hid (own_keepL OAP_10.out hb)
 clear OAP_10
 have OS_11 := Lib.hid (own_keepL OS_10.out hb)
 clear OS_10
 have OX_11 := Lib.hid (own_keepL OX_10.out hb)
 clear OX_10
 have OXB_11 := Lib.hid (OXB_10.out.below hb)
 clear OXB_10
 have OXP_11 := Lib.hid (own_keepL OXP_10.out hb)
 clear OXP_10
 have B_11 := Lib.hid (B_10.out.trans (hb.mono B_10.out.size))
 clear B_10
 have hs_11 := hb.size
 have OG_11 := Lib.hid ho.out
 have SPG : Hid (InSp w10.heap.size w11.heap.size vG) := Lib.hid (fun k hk => OG_11.out.lt k hk)
 clear hb
 clear ho
 go_wp2_with fail
 refine (NE.eq_all _ _ zs _ (NE.is_of_row OG_11.out) (NE.is_of_row OS_11.out) (by have := HRL.out; omega)).mono ?_
 rintro e w12 ⟨rfl, hb⟩
 have OA_12 := Lib.hid (own_keepL OA_11.out hb)
 clear OA_11
 have OAB_12 := Lib.hid (OAB_11.out.below hb)
 clear OAB_11
 have OAP_12 := Lib.hid (own_keepL OAP_11.out hb)
 clear OAP_11
 have OS_12 := Lib.hid (own_keepL OS_11.out hb)
 clear OS_11
 have OX_12 := Lib.hid (own_keepL OX_11.out hb)
 clear OX_11
 have OXB_12 := Lib.hid (OXB_11.out.below hb)
 clear OXB_11
 have OXP_12 := Lib.hid (own_keepL OXP_11.out hb)
 clear OXP_11
 have OG_12 := Lib.hid (own_keepL OG_11.out hb)
 clear OG_11
 have B_12 := Lib.hid (B_11.out.trans (hb.mono B_11.out.size))
 clear B_11
 have hs_12 := hb.size
 clear hb
 go_wp2_with fail
 refine (IT.to_all _ xs _ (HX.out.below B_12.out) HL.out).mono ?_
 rintro e w13 ⟨vC, rfl, ho, hb⟩
 have OA_13 := Lib.hid (own_keepL OA_12.out hb)
 clear OA_12
 have OAB_13 := Lib.hid (OAB_12.out.below hb)
 clear OAB_12
 have OAP_13 := Lib.hid (own_keepL OAP_12.out hb)
 clear OAP_12
 have OS_13 := Lib.hid (own_keepL OS_12.out hb)
 clear OS_12
 have OX_13 := Lib.hid (own_keepL OX_12.out hb)
 clear OX_12
 have OXB_13 := Lib.hid (OXB_12.out.below hb)
 clear OXB_12
 have OXP_13 := Lib.hid (own_keepL OXP_12.out hb)
 clear OXP_12
 have OG_13 := Lib.hid (own_keepL OG_12.out hb)
 clear OG_12
 have B_13 := Lib.hid (B_12.out.trans (hb.mono B_12.out.size))
 clear B_12
 have hs_13 := hb.size
 have OC_13 := Lib.hid ho
 have SPC : Hid (InSp w12.heap.size w13.heap.size vC) := Lib.hid (fun k hk => OC_13.out.lt k hk)
 clear hb
 clear ho
 go_wp2_with fail
 refine (IT.eq_all _ _ xs _ (IT.is_of_row OX_13.out) (IT.is_of_row OC_13.out) (by have := HL.out; omega)).mono ?_
 rintro e w14 ⟨rfl, hb⟩
 have OA_14 := Lib.hid (own_keepL OA_13.out hb)
 clear OA_13
 have OAB_14 := Lib.hid (OAB_13.out.below hb)
 clear OAB_13
 have OAP_14 := Lib.hid (own_keepL OAP_13.out hb)
 clear OAP_13
 have OS_14 := Lib.hid (own_keepL OS_13.out hb)
 clear OS_13
 have OX_14 := Lib.hid (own_keepL OX_13.out hb)
 clear OX_13
 have OXB_14 := Lib.hid (OXB_13.out.below hb)
 clear OXB_13
 have OXP_14 := Lib.hid (own_keepL OXP_13.out hb)
 clear OXP_13
 have OG_14 := Lib.hid (own_keepL OG_13.out hb)
 clear OG_13
 have OC_14 := Lib.hid (own_keepL OC_13.out hb)
 clear OC_13
 have B_14 := Lib.hid (B_13.out.trans (hb.mono B_13.out.size))
 clear B_13
 have hs_14 := hb.size
 clear hb
 go_wp2_with fail
 refine (BX.toO _ ls 0 w.heap.size _ B_14.out.size (HY.out.below BLN.kept B_14.out) HSM.out).mono ?_
 rintro e w15 ⟨vCB, rfl, ho, hbh⟩
 have hb := hbh.out
 clear hbh
 have OA_15 := Lib.hid (own_keepL OA_14.out hb)
 clear OA_14
 have OAB_15 := Lib.hid (OAB_14.out.below hb)
 clear OAB_14
 have OAP_15 := Lib.hid (own_keepL OAP_14.out hb)
 clear OAP_14
 have OS_15 := Lib.hid (own_keepL OS_14.out hb)
 clear OS_14
 have OX_15 := Lib.hid (own_keepL OX_14.out hb)
 clear OX_14
 have OXB_15 := Lib.hid (OXB_14.out.below hb)
 clear OXB_14
 have OXP_15 := Lib.hid (own_keepL OXP_14.out hb)
 clear OXP_14
 have OG_15 := Lib.hid (own_keepL OG_14.out hb)
 clear OG_14
 have OC_15 := Lib.hid (own_keepL OC_14.out hb)
 clear OC_14
 have B_15 := Lib.hid (B_14.out.trans (hb.mono B_14.out.size))
 clear B_14
 have hs_15 := hb.size
 have OCB_15 := Lib.hid ho.out
 clear hb
 clear ho
 go_wp2_with fail
 refine (BX.eq _ _ ls _ _ _ _ _ OXB_15.out.sl OCB_15.out.sl HSM.out).mono ?_
 rintro e w16 ⟨rfl, hb⟩
 have OA_16 := Lib.hid (own_keepL OA_15.out hb)
 clear OA_15
 have OAB_16 := Lib.hid (OAB_15.out.below hb)
 clear OAB_15
 have OAP_16 := Lib.hid (own_keepL OAP_15.out hb)
 clear OAP_15
 have OS_16 := Lib.hid (own_keepL OS_15.out hb)
 clear OS_15
 have OX_16 := Lib.hid (own_keepL OX_15.out hb)
 clear OX_15
 have OXB_16 := Lib.hid (OXB_15.out.below hb)
 clear OXB_15
 have OXP_16 := Lib.hid (own_keepL OXP_15.out hb)
 clear OXP_15
 have OG_16 := Lib.hid (own_keepL OG_15.out hb)
 clear OG_15
 have OC_16 := Lib.hid (own_keepL OC_15.out hb)
 clear OC_15
 have OCB_16 := Lib.hid (OCB_15.out.below hb)
 clear OCB_15
 have B_16 := Lib.hid (B_15.out.trans (hb.mono B_15.out.size))
 clear B_15
 have hs_16 := hb.size
 clear hb
 go_wp2_with fail
 refine (PK.to_all _ ps _ (HP.out.below B_16.out) HL3.out).mono ?_
 rintro e w17 ⟨vCP, rfl, ho, hb⟩
 have OA_17 := Lib.hid (own_keepL OA_16.out hb)
 clear OA_16
 have OAB_17 := Lib.hid (OAB_16.out.below hb)
 clear OAB_16
 have OAP_17 := Lib.hid (own_keepL OAP_16.out hb)
 clear OAP_16
 have OS_17 := Lib.hid (own_keepL OS_16.out hb)
 clear OS_16
 have OX_17 := Lib.hid (own_keepL OX_16.out hb)
 clear OX_16
 have OXB_17 := Lib.hid (OXB_16.out.below hb)
 clear OXB_16
 have OXP_17 := Lib.hid (own_keepL OXP_16.out hb)
 clear OXP_16
 have OG_17 := Lib.hid (own_keepL OG_16.out hb)
 clear OG_16
 have OC_17 := Lib.hid (own_keepL OC_16.out hb)
 clear OC_16
 have OCB_17 := Lib.hid (OCB_16.out.below hb)
 clear OCB_16
 have B_17 := Lib.hid (B_16.out.trans (hb.mono B_16.out.size))
 clear B_16
 have hs_17 := hb.size
 have OCP_17 := Lib.hid ho
 have SPCP : Hid (InSp w16.heap.size w17.heap.size vCP) := Lib.hid (fun k hk => OCP_17.out.lt k hk)
 clear hb
 clear ho
 go_wp2_with fail
 refine (PK.eq_all _ _ ps _ (PK.is_of_row OXP_17.out) (PK.is_of_row OCP_17.out) (by have := HL3.out; omega)).mono ?_
 rintro e w18 ⟨rfl, hb⟩
 have OA_18 := Lib.hid (own_keepL OA_17.out hb)
 clear OA_17
 have OAB_18 := Lib.hid (OAB_17.out.below hb)
 clear OAB_17
 have OAP_18 := Lib.hid (own_keepL OAP_17.out hb)
 clear OAP_17
 have OS_18 := Lib.hid (own_keepL OS_17.out hb)
 clear OS_17
 have OX_18 := Lib.hid (own_keepL OX_17.out hb)
 clear OX_17
 have OXB_18 := Lib.hid (OXB_17.out.below hb)
 clear OXB_17
 have OXP_18 := Lib.hid (own_keepL OXP_17.out hb)
 clear OXP_17
 have OG_18 := Lib.hid (own_keepL OG_17.out hb)
 clear OG_17
 have OC_18 := Lib.hid (own_keepL OC_17.out hb)
 clear OC_17
 have OCB_18 := Lib.hid (OCB_17.out.below hb)
 clear OCB_17
 have OCP_18 := Lib.hid (own_keepL OCP_17.out hb)
 clear OCP_17
 have B_18 := Lib.hid (B_17.out.trans (hb.mono B_17.out.size))
 clear B_17
 have hs_18 := hb.size
 clear hb
 obtain ⟨K1, hK1⟩ : ∃ K, 1 + 8 * xs.length = K := ⟨_, rfl⟩
 have hk1b : 0 < K1 ∧ K1 ≤ 8388609 := by have := HL.out; omega
 have HK1 := Lib.hid hK1
 go_wp2_with fail
 refine (IT.mark1 _ _ _ xs.length _ _ rfl OX_18.out (by have := HL.out; omega)).mono ?_
 rintro e w19 ⟨rfl, ho, hg⟩
 rw [hK1]
 clear hK1
 have OX_19 := Lib.hid ho
 clear OX_18
 have HC := Lib.hid (ChgIn.of_grown hg SPX.out)
 clear ho hg
 have OA_19 := Lib.hid (HC.out.row OA_18.out (fun b hb2 => by have h1 := SPA.out b hb2; omega))
 clear OA_18
 have OAB_19 := Lib.hid (OAB_18.out.far HC.out (by omega))
 clear OAB_18
 have OAP_19 := Lib.hid (HC.out.row OAP_18.out (fun b hb2 => by have h1 := SPAP.out b hb2; omega))
 clear OAP_18
 have OS_19 := Lib.hid (HC.out.row OS_18.out (fun b hb2 => by have h1 := SPS.out b hb2; omega))
 clear OS_18
 have OXB_19 := Lib.hid (OXB_18.out.far HC.out (by omega))
 clear OXB_18
 have OXP_19 := Lib.hid (HC.out.row OXP_18.out (fun b hb2 => by have h1 := SPXP.out b hb2; omega))
 clear OXP_18
 have OG_19 := Lib.hid (HC.out.row OG_18.out (fun b hb2 => by have h1 := SPG.out b hb2; omega))
 clear OG_18
 have OC_19 := Lib.hid (HC.out.row OC_18.out (fun b hb2 => by have h1 := SPC.out b hb2; omega))
 clear OC_18
 have OCB_19 := Lib.hid (OCB_18.out.far HC.out (by omega))
 clear OCB_18
 have OCP_19 := Lib.hid (HC.out.row OCP_18.out (fun b hb2 => by have h1 := SPCP.out b hb2; omega))
 clear OCP_18
 have B_19 := Lib.hid (HC.out.below B_18.out (by omega))
 clear B_18
 have hs_19 := HC.out.size
 clear HC
 obtain ⟨rsXB, hrecXB, hownXB⟩ := OXB_19.out
 have HRECXB := Lib.hid hrecXB
 have OXB_19r := Lib.hid hownXB
 clear hrecXB hownXB OXB_19
 have HSX := Lib.hid (HRECXB.out.sm HSM.out)
 obtain ⟨K2, hK2⟩ : ∃ K, BX.pos K1 rsXB rsXB.length = K := ⟨_, rfl⟩
 have HK2 := Lib.hid hK2
 have hk2b : 0 < K2 ∧ K2 ≤ 20000000 := by have h1 := BX.pos_tot HRECXB.out K1; have h2 := HTOT.out; rw [hK2] at h1; omega
 go_wp2_with fail
 refine (BX.markI _ _ _ _ K1 rsXB _ (by omega) OXB_19r.out HSX.out.2 HSX.out.1 (by omega) (by rw [hK2]; omega)).mono ?_
 rintro e w20 ⟨rmXB, rfl, HMKXB, ho, HC⟩
 rw [hK2]
 clear hK2
 have OXB_20 := ho
 clear ho OXB_19r
 have OA_20 := Lib.hid (HC.out.row OA_19.out (fun b hb2 => by have h1 := SPA.out b hb2; omega))
 clear OA_19
 have OAB_20 := Lib.hid (OAB_19.out.far HC.out (by omega))
 clear OAB_19
 have OAP_20 := Lib.hid (HC.out.row OAP_19.out (fun b hb2 => by have h1 := SPAP.out b hb2; omega))
 clear OAP_19
 have OS_20 := Lib.hid (HC.out.row OS_19.out (fun b hb2 => by have h1 := SPS.out b hb2; omega))
 clear OS_19
 have OX_20 := Lib.hid (HC.out.row OX_19.out (fun b hb2 => by have h1 := SPX.out b hb2; omega))
 clear OX_19
 have OXP_20 := Lib.hid (HC.out.row OXP_19.out (fun b hb2 => by have h1 := SPXP.out b hb2; omega))
 clear OXP_19
 have OG_20 := Lib.hid (HC.out.row OG_19.out (fun b hb2 => by have h1 := SPG.out b hb2; omega))
 clear OG_19
 have OC_20 := Lib.hid (HC.out.row OC_19.out (fun b hb2 => by have h1 := SPC.out b hb2; omega))
 clear OC_19
 have OCB_20 := Lib.hid (OCB_19.out.far HC.out (by omega))
 clear OCB_19
 have OCP_20 := Lib.hid (HC.out.row OCP_19.out (fun b hb2 => by have h1 := SPCP.out b hb2; omega))
 clear OCP_19
 have B_20 := Lib.hid (HC.out.below B_19.out (by omega))
 clear B_19
 have hs_20 := HC.out.size
 clear HC
 obtain ⟨K3, hK3⟩ : ∃ K, K2 + 2 * ps.length = K := ⟨_, rfl⟩
 have HK3 := Lib.hid hK3
 have hk3b : 0 < K3 ∧ K3 ≤ 100000000 := by have := HL3.out; omega
 go_wp2_with fail
 refine (PK.mark_allI _ _ _ K2 ps.length _ _ (by omega) OXP_20.out (by have := HL3.out; omega) (by omega) (by omega)).mono ?_
 rintro e w21 ⟨rfl, ho, hg⟩
 rw [hK3]
 clear hK3
 have OXP_21 := Lib.hid ho
 clear OXP_20
 have HC := Lib.hid (ChgIn.of_grown hg SPXP.out)
 clear ho hg
 have OA_21 := Lib.hid (HC.out.row OA_20.out (fun b hb2 => by have h1 := SPA.out b hb2; omega))
 clear OA_20
 have OAB_21 := Lib.hid (OAB_20.out.far HC.out (by omega))
 clear OAB_20
 have OAP_21 := Lib.hid (HC.out.row OAP_20.out (fun b hb2 => by have h1 := SPAP.out b hb2; omega))
 clear OAP_20
 have OS_21 := Lib.hid (HC.out.row OS_20.out (fun b hb2 => by have h1 := SPS.out b hb2; omega))
 clear OS_20
 have OX_21 := Lib.hid (HC.out.row OX_20.out (fun b hb2 => by have h1 := SPX.out b hb2; omega))
 clear OX_20
 have OXB_21 := Lib.hid (OXB_20.out.far HC.out (by omega))
 clear OXB_20
 have OG_21 := Lib.hid (HC.out.row OG_20.out (fun b hb2 => by have h1 := SPG.out b hb2; omega))
 clear OG_20
 have OC_21 := Lib.hid (HC.out.row OC_20.out (fun b hb2 => by have h1 := SPC.out b hb2; omega))
 clear OC_20
 have OCB_21 := Lib.hid (OCB_20.out.far HC.out (by omega))
 clear OCB_20
 have OCP_21 := Lib.hid (HC.out.row OCP_20.out (fun b hb2 => by have h1 := SPCP.out b hb2; omega))
 clear OCP_20
 have B_21 := Lib.hid (HC.out.below B_20.out (by omega))
 clear B_20
 have hs_21 := HC.out.size
 clear HC
 have hkn : decide ((K3 : Int) < 0) = false := decide_eq_false (by omega)
 go_wp2_with fail
 refine (NE.eq_all _ _ zs _ (NE.is_of_row OG_21.out) (NE.is_of_row OS_21.out) (by have := HRL.out; omega)).mono ?_
 rintro e w22 ⟨rfl, hb⟩
 have OA_22 := Lib.hid (own_keepL OA_21.out hb)
 clear OA_21
 have OAB_22 := Lib.hid (OAB_21.out.below hb)
 clear OAB_21
 have OAP_22 := Lib.hid (own_keepL OAP_21.out hb)
 clear OAP_21
 have OS_22 := Lib.hid (own_keepL OS_21.out hb)
 clear OS_21
 have OX_22 := Lib.hid (own_keepL OX_21.out hb)
 clear OX_21
 have OXB_22 := Lib.hid (OXB_21.out.below hb)
 clear OXB_21
 have OXP_22 := Lib.hid (own_keepL OXP_21.out hb)
 clear OXP_21
 have OG_22 := Lib.hid (own_keepL OG_21.out hb)
 clear OG_21
 have OC_22 := Lib.hid (own_keepL OC_21.out hb)
 clear OC_21
 have OCB_22 := Lib.hid (OCB_21.out.below hb)
 clear OCB_21
 have OCP_22 := Lib.hid (own_keepL OCP_21.out hb)
 clear OCP_21
 have B_22 := Lib.hid (B_21.out.trans (hb.mono B_21.out.size))
 clear B_21
 have hs_22 := hb.size
 clear hb
 go_wp2_with fail
 refine (NE.mark1 _ _ _ zs.length _ _ rfl OG_22.out (by have := HRL.out; omega)).mono ?_
 rintro e w23 ⟨rfl, ho, hg⟩
 have OG_23 := Lib.hid ho
 clear OG_22
 have HC := Lib.hid (ChgIn.of_grown hg SPG.out)
 clear ho hg
 have OA_23 := Lib.hid (HC.out.row OA_22.out (fun b hb2 => by have h1 := SPA.out b hb2; omega))
 clear OA_22
 have OAB_23 := Lib.hid (OAB_22.out.far HC.out (by omega))
 clear OAB_22
 have OAP_23 := Lib.hid (HC.out.row OAP_22.out (fun b hb2 => by have h1 := SPAP.out b hb2; omega))
 clear OAP_22
 have OS_23 := Lib.hid (HC.out.row OS_22.out (fun b hb2 => by have h1 := SPS.out b hb2; omega))
 clear OS_22
 have OX_23 := Lib.hid (HC.out.row OX_22.out (fun b hb2 => by have h1 := SPX.out b hb2; omega))
 clear OX_22
 have OXB_23 := Lib.hid (OXB_22.out.far HC.out (by omega))
 clear OXB_22
 have OXP_23 := Lib.hid (HC.out.row OXP_22.out (fun b hb2 => by have h1 := SPXP.out b hb2; omega))
 clear OXP_22
 have OC_23 := Lib.hid (HC.out.row OC_22.out (fun b hb2 => by have h1 := SPC.out b hb2; omega))
 clear OC_22
 have OCB_23 := Lib.hid (OCB_22.out.far HC.out (by omega))
 clear OCB_22
 have OCP_23 := Lib.hid (HC.out.row OCP_22.out (fun b hb2 => by have h1 := SPCP.out b hb2; omega))
 clear OCP_22
 have B_23 := Lib.hid (HC.out.below B_22.out (by omega))
 clear B_22
 have hs_23 := HC.out.size
 clear HC
 have hqq : ((1 + 2 * (zs.length : Int)) != 1 + 2 * (zs.length : Int)) = false := by simp
 have hqn : decide (1 + 2 * (zs.length : Int) < 0) = false := decide_eq_false (by omega)
 go_wp2_with fail
 refine (NE.held1 _ _ _ zs.length _ rfl OG_23.out (by have := HRL.out; omega)).mono ?_
 rintro e w24 ⟨rfl, hb⟩
 have OA_24 := Lib.hid (own_keepL OA_23.out hb)
 clear OA_23
 have OAB_24 := Lib.hid (OAB_23.out.below hb)
 clear OAB_23
 have OAP_24 := Lib.hid (own_keepL OAP_23.out hb)
 clear OAP_23
 have OS_24 := Lib.hid (own_keepL OS_23.out hb)
 clear OS_23
 have OX_24 := Lib.hid (own_keepL OX_23.out hb)
 clear OX_23
 have OXB_24 := Lib.hid (OXB_23.out.below hb)
 clear OXB_23
 have OXP_24 := Lib.hid (own_keepL OXP_23.out hb)
 clear OXP_23
 have OG_24 := Lib.hid (own_keepL OG_23.out hb)
 clear OG_23
 have OC_24 := Lib.hid (own_keepL OC_23.out hb)
 clear OC_23
 have OCB_24 := Lib.hid (OCB_23.out.below hb)
 clear OCB_23
 have OCP_24 := Lib.hid (own_keepL OCP_23.out hb)
 clear OCP_23
 have B_24 := Lib.hid (B_23.out.trans (hb.mono B_23.out.size))
 clear B_23
 have hs_24 := hb.size
 clear hb
 go_wp2_with fail
 refine (IT.to_all _ xs _ (HX.out.below B_24.out) HL.out).mono ?_
 rintro e w25 ⟨vE, rfl, ho, hb⟩
 have OA_25 := Lib.hid (own_keepL OA_24.out hb)
 clear OA_24
 have OAB_25 := Lib.hid (OAB_24.out.below hb)
 clear OAB_24
 have OAP_25 := Lib.hid (own_keepL OAP_24.out hb)
 clear OAP_24
 have OS_25 := Lib.hid (own_keepL OS_24.out hb)
 clear OS_24
 have OX_25 := Lib.hid (own_keepL OX_24.out hb)
 clear OX_24
 have OXB_25 := Lib.hid (OXB_24.out.below hb)
 clear OXB_24
 have OXP_25 := Lib.hid (own_keepL OXP_24.out hb)
 clear OXP_24
 have OG_25 := Lib.hid (own_keepL OG_24.out hb)
 clear OG_24
 have OC_25 := Lib.hid (own_keepL OC_24.out hb)
 clear OC_24
 have OCB_25 := Lib.hid (OCB_24.out.below hb)
 clear OCB_24
 have OCP_25 := Lib.hid (own_keepL OCP_24.out hb)
 clear OCP_24
 have B_25 := Lib.hid (B_24.out.trans (hb.mono B_24.out.size))
 clear B_24
 have hs_25 := hb.size
 have OE_25 := Lib.hid ho
 have SPE : Hid (InSp w24.heap.size w25.heap.size vE) := Lib.hid (fun k hk => OE_25.out.lt k hk)
 clear hb
 clear ho
 go_wp2_with fail
 refine (BX.toO _ ls 0 w.heap.size _ B_25.out.size (HY.out.below BLN.kept B_25.out) HSM.out).mono ?_
 rintro e w26 ⟨vEB, rfl, ho, hbh⟩
 have hb := hbh.out
 clear hbh
 have OA_26 := Lib.hid (own_keepL OA_25.out hb)
 clear OA_25
 have OAB_26 := Lib.hid (OAB_25.out.below hb)
 clear OAB_25
 have OAP_26 := Lib.hid (own_keepL OAP_25.out hb)
 clear OAP_25
 have OS_26 := Lib.hid (own_keepL OS_25.out hb)
 clear OS_25
 have OX_26 := Lib.hid (own_keepL OX_25.out hb)
 clear OX_25
 have OXB_26 := Lib.hid (OXB_25.out.below hb)
 clear OXB_25
 have OXP_26 := Lib.hid (own_keepL OXP_25.out hb)
 clear OXP_25
 have OG_26 := Lib.hid (own_keepL OG_25.out hb)
 clear OG_25
 have OC_26 := Lib.hid (own_keepL OC_25.out hb)
 clear OC_25
 have OCB_26 := Lib.hid (OCB_25.out.below hb)
 clear OCB_25
 have OCP_26 := Lib.hid (own_keepL OCP_25.out hb)
 clear OCP_25
 have OE_26 := Lib.hid (own_keepL OE_25.out hb)
 clear OE_25
 have B_26 := Lib.hid (B_25.out.trans (hb.mono B_25.out.size))
 clear B_25
 have hs_26 := hb.size
 have OEB_26 := Lib.hid ho.out
 clear hb
 clear ho
 go_wp2_with fail
 refine (PK.to_all _ ps _ (HP.out.below B_26.out) HL3.out).mono ?_
 rintro e w27 ⟨vEP, rfl, ho, hb⟩
 have OA_27 := Lib.hid (own_keepL OA_26.out hb)
 clear OA_26
 have OAB_27 := Lib.hid (OAB_26.out.below hb)
 clear OAB_26
 have OAP_27 := Lib.hid (own_keepL OAP_26.out hb)
 clear OAP_26
 have OS_27 := Lib.hid (own_keepL OS_26.out hb)
 clear OS_26
 have OX_27 := Lib.hid (own_keepL OX_26.out hb)
 clear OX_26
 have OXB_27 := Lib.hid (OXB_26.out.below hb)
 clear OXB_26
 have OXP_27 := Lib.hid (own_keepL OXP_26.out hb)
 clear OXP_26
 have OG_27 := Lib.hid (own_keepL OG_26.out hb)
 clear OG_26
 have OC_27 := Lib.hid (own_keepL OC_26.out hb)
 clear OC_26
 have OCB_27 := Lib.hid (OCB_26.out.below hb)
 clear OCB_26
 have OCP_27 := Lib.hid (own_keepL OCP_26.out hb)
 clear OCP_26
 have OE_27 := Lib.hid (own_keepL OE_26.out hb)
 clear OE_26
 have OEB_27 := Lib.hid (OEB_26.out.below hb)
 clear OEB_26
 have B_27 := Lib.hid (B_26.out.trans (hb.mono B_26.out.size))
 clear B_26
 have hs_27 := hb.size
 have OEP_27 := Lib.hid ho
 have SPEP : Hid (InSp w26.heap.size w27.heap.size vEP) := Lib.hid (fun k hk => OEP_27.out.lt k hk)
 clear hb
 clear ho
 go_wp2_with fail
 refine (im_explosion _ _ _ xs ls s q day ps _ _ _ (IT.is_of_row OE_27.out) OEB_27.out.sl (PK.is_of_row OEP_27.out) (len_max HL.out) HS.out HS2.out (len_max HL3.out)).mono ?_
 rintro e w28 ⟨vH, rfl, ho, hbh⟩
 have hb := hbh.out
 clear hbh
 rw [HZS.out] at ho
 rw [HYY.out]
 have OA_28 := Lib.hid (own_keepL OA_27.out hb)
 clear OA_27
 have OAB_28 := Lib.hid (OAB_27.out.below hb)
 clear OAB_27
 have OAP_28 := Lib.hid (own_keepL OAP_27.out hb)
 clear OAP_27
 have OS_28 := Lib.hid (own_keepL OS_27.out hb)
 clear OS_27
 have OX_28 := Lib.hid (own_keepL OX_27.out hb)
 clear OX_27
 have OXB_28 := Lib.hid (OXB_27.out.below hb)
 clear OXB_27
 have OXP_28 := Lib.hid (own_keepL OXP_27.out hb)
 clear OXP_27
 have OG_28 := Lib.hid (own_keepL OG_27.out hb)
 clear OG_27
 have OC_28 := Lib.hid (own_keepL OC_27.out hb)
 clear OC_27
 have OCB_28 := Lib.hid (OCB_27.out.below hb)
 clear OCB_27
 have OCP_28 := Lib.hid (own_keepL OCP_27.out hb)
 clear OCP_27
 have OE_28 := Lib.hid (own_keepL OE_27.out hb)
 clear OE_27
 have OEB_28 := Lib.hid (OEB_27.out.below hb)
 clear OEB_27
 have OEP_28 := Lib.hid (own_keepL OEP_27.out hb)
 clear OEP_27
 have B_28 := Lib.hid (B_27.out.trans (hb.mono B_27.out.size))
 clear B_27
 have hs_28 := hb.size
 have OH_28 := Lib.hid ho.out
 have SPH : Hid (InSp w27.heap.size w28.heap.size vH) := Lib.hid (fun k hk => OH_28.out.lt k hk)
 clear hb
 clear ho
 go_wp2_with fail
 refine (NE.eq_all _ _ zs _ (NE.is_of_row OH_28.out) (NE.is_of_row OS_28.out) (by have := HRL.out; omega)).mono ?_
 rintro e w29 ⟨rfl, hb⟩
 have OA_29 := Lib.hid (own_keepL OA_28.out hb)
 clear OA_28
 have OAB_29 := Lib.hid (OAB_28.out.below hb)
 clear OAB_28
 have OAP_29 := Lib.hid (own_keepL OAP_28.out hb)
 clear OAP_28
 have OS_29 := Lib.hid (own_keepL OS_28.out hb)
 clear OS_28
 have OX_29 := Lib.hid (own_keepL OX_28.out hb)
 clear OX_28
 have OXB_29 := Lib.hid (OXB_28.out.below hb)
 clear OXB_28
 have OXP_29 := Lib.hid (own_keepL OXP_28.out hb)
 clear OXP_28
 have OG_29 := Lib.hid (own_keepL OG_28.out hb)
 clear OG_28
 have OC_29 := Lib.hid (own_keepL OC_28.out hb)
 clear OC_28
 have OCB_29 := Lib.hid (OCB_28.out.below hb)
 clear OCB_28
 have OCP_29 := Lib.hid (own_keepL OCP_28.out hb)
 clear OCP_28
 have OE_29 := Lib.hid (own_keepL OE_28.out hb)
 clear OE_28
 have OEB_29 := Lib.hid (OEB_28.out.below hb)
 clear OEB_28
 have OEP_29 := Lib.hid (own_keepL OEP_28.out hb)
 clear OEP_28
 have OH_29 := Lib.hid (own_keepL OH_28.out hb)
 clear OH_28
 have B_29 := Lib.hid (B_28.out.trans (hb.mono B_28.out.size))
 clear B_28
 have hs_29 := hb.size
 clear hb
 go_wp2_with fail
 refine (NE.held1 _ _ _ zs.length _ rfl OG_29.out (by have := HRL.out; omega)).mono ?_
 rintro e w30 ⟨rfl, hb⟩
 have OA_30 := Lib.hid (own_keepL OA_29.out hb)
 clear OA_29
 have OAB_30 := Lib.hid (OAB_29.out.below hb)
 clear OAB_29
 have OAP_30 := Lib.hid (own_keepL OAP_29.out hb)
 clear OAP_29
 have OS_30 := Lib.hid (own_keepL OS_29.out hb)
 clear OS_29
 have OX_30 := Lib.hid (own_keepL OX_29.out hb)
 clear OX_29
 have OXB_30 := Lib.hid (OXB_29.out.below hb)
 clear OXB_29
 have OXP_30 := Lib.hid (own_keepL OXP_29.out hb)
 clear OXP_29
 have OG_30 := Lib.hid (own_keepL OG_29.out hb)
 clear OG_29
 have OC_30 := Lib.hid (own_keepL OC_29.out hb)
 clear OC_29
 have OCB_30 := Lib.hid (OCB_29.out.below hb)
 clear OCB_29
 have OCP_30 := Lib.hid (own_keepL OCP_29.out hb)
 clear OCP_29
 have OE_30 := Lib.hid (own_keepL OE_29.out hb)
 clear OE_29
 have OEB_30 := Lib.hid (OEB_29.out.below hb)
 clear OEB_29
 have OEP_30 := Lib.hid (own_keepL OEP_29.out hb)
 clear OEP_29
 have OH_30 := Lib.hid (own_keepL OH_29.out hb)
 clear OH_29
 have B_30 := Lib.hid (B_29.out.trans (hb.mono B_29.out.size))
 clear B_29
 have hs_30 := hb.size
 clear hb
 go_wp2_with fail
 go_ret
 exact ⟨rfl, B_30.out⟩

set_option maxRecDepth 100000 in
set_option maxHeartbeats 8000000 in
theorem ex_PartsOf (v : Value) (xs : List IT) (v2 : Value) (ls : List BL) (s : ByteArray) (q day : Int) (v3 : Value) (ps : List PK) (w : World) (h : IT.Is w v xs) (hm : xs.length ≤ maxLen) (hs : ∀ r, r ∈ xs → IT.Sz r) (h2 : BX 0 w.heap.size w v2 ls) (hs2 : BX.Sz ls) (hts : s.size ≤ maxLen) (h3 : PK.Is w v3 ps) (hm3 : ps.length ≤ maxLen) (hs3 : ∀ r, r ∈ ps → PK.Sz r) :
 Calls Tryz.prog 5 #[v, v2, .string s, .int .i64 q, .int .i64 day, v3] w fun e w' => e = .returned (.bool true) ∧ Below w.heap.size w w' := by
 have HX := Lib.hid h
 have HS := Lib.hid hs
 have HY := Lib.hid h2
 have HS2 := Lib.hid hs2
 have HSZ := Lib.hid (IT.sz_all v xs 1048576 w h (by omega) (by omega) hm hs)
 obtain ⟨a1, c1, rfl⟩ := h.slice
 obtain ⟨a2, c2, rfl⟩ := h2.slice
 have HP := Lib.hid h3
 have HS3 := Lib.hid hs3
 have HM3 := Lib.hid hm3
 obtain ⟨a3, c3, rfl⟩ := h3.slice
 unfold maxLen at hts
 by_cases hbigs : 1048576 < s.size
 · go_enter Tryz.func5, Tryz.ntmps5
   go_wp2_with fail
   go_ret
   exact ⟨rfl, Below.refl _ _⟩
 clear h3 hs3 hm3
 clear h hs hm h2 hs2
 go_enter Tryz.func5, Tryz.ntmps5
 go_wp2_with fail
 refine (HSZ.out).mono ?_
 rintro e w1 ⟨z, rfl, hz0, hz1, hz2, hb⟩
 have HZ2 := Lib.hid hz2
 clear hz2
 have B_1 := Lib.hid ((Lib.hid (Below.refl w.heap.size w)).out.trans (hb.mono (Lib.hid (Below.refl w.heap.size w)).out.size))
 have hs_1 := hb.size
 clear hb
 by_cases hzn : z < 0
 · go_wp2_with fail
   go_ret
   exact ⟨rfl, B_1.out⟩
 have HL : Hid (xs.length ≤ 1048576) := Lib.hid (by have := HZ2.out (by omega); omega)
 clear HZ2 HSZ
 go_wp2_with fail
 refine (BX.szT _ ls z 0 w.heap.size _ (HY.out.below BLN.kept B_1.out) (by omega) (by omega) HS2.out).mono ?_
 rintro e w2 ⟨z2, rfl, hy0, hy1, hy2, hb⟩
 have HZ3 := Lib.hid hy2
 clear hy2
 have B_2 := Lib.hid (B_1.out.trans (hb.mono B_1.out.size))
 clear B_1
 have hs_2 := hb.size
 clear hb
 by_cases hzm : z2 < 0
 · go_wp2_with fail
   go_ret
   exact ⟨rfl, B_2.out⟩
 have HSM := Lib.hid (HZ3.out (by omega)).1
 have HTOT : Hid (ls.length + BX.tot ls ≤ 1048576) := Lib.hid (by have := (HZ3.out (by omega)).2; omega)
 clear HZ3
 go_wp2_with fail
 refine (PK.sz_all _ ps z2 _ (HP.out.below B_2.out) (by omega) (by omega) HM3.out HS3.out).mono ?_
 rintro e w3 ⟨z3, rfl, hx0, hx1, hx2, hb⟩
 have HZ4 := Lib.hid hx2
 clear hx2
 have B_3 := Lib.hid (B_2.out.trans (hb.mono B_2.out.size))
 clear B_2
 have hs_3 := hb.size
 clear hb
 by_cases hzp : z3 < 0
 · go_wp2_with fail
   go_ret
   exact ⟨rfl, B_3.out⟩
 have HL3 : Hid (ps.length ≤ 1048576) := Lib.hid (by have := HZ4.out (by omega); omega)
 clear HZ4
 have HRL : Hid ((exZ xs ls s q day ps true).length ≤ 1048576) := Lib.hid (Nat.le_trans (exZ_len xs ls s q day ps true) HL.out)
 obtain ⟨zs, hzs⟩ : ∃ zs, (exZ xs ls s q day ps true) = zs := ⟨_, rfl⟩
 have HZS := Lib.hid hzs
 rw [hzs] at HRL
 clear hzs
 obtain ⟨y, hy⟩ : ∃ y, exB xs ls s q day ps true = y := ⟨_, rfl⟩
 have HYY := Lib.hid hy
 clear hy
 have hnn : (y != y) = false := by simp
 go_wp2_with fail
 refine (IT.to_all _ xs _ (HX.out.below B_3.out) HL.out).mono ?_
 rintro e w4 ⟨vA, rfl, ho, hb⟩
 have B_4 := Lib.hid (B_3.out.trans (hb.mono B_3.out.size))
 clear B_3
 have hs_4 := hb.size
 have OA_4 := Lib.hid ho
 have SPA : Hid (InSp w3.heap.size w4.heap.size vA) := Lib.hid (fun k hk => OA_4.out.lt k hk)
 clear hb
 clear ho
 go_wp2_with fail
 refine (BX.toO _ ls 0 w.heap.size _ B_4.out.size (HY.out.below BLN.kept B_4.out) HSM.out).mono ?_
 rintro e w5 ⟨vAB, rfl, ho, hbh⟩
 have hb := hbh.out
 clear hbh
 have OA_5 := Lib.hid (own_keepL OA_4.out hb)
 clear OA_4
 have B_5 := Lib.hid (B_4.out.trans (hb.mono B_4.out.size))
 clear B_4
 have hs_5 := hb.size
 have OAB_5 := Lib.hid ho.out
 clear hb
 clear ho
 go_wp2_with fail
 refine (PK.to_all _ ps _ (HP.out.below B_5.out) HL3.out).mono ?_
 rintro e w6 ⟨vAP, rfl, ho, hb⟩
 have OA_6 := Lib.hid (own_keepL OA_5.out hb)
 clear OA_5
 have OAB_6 := Lib.hid (OAB_5.out.below hb)
 clear OAB_5
 have B_6 := Lib.hid (B_5.out.trans (hb.mono B_5.out.size))
 clear B_5
 have hs_6 := hb.size
 have OAP_6 := Lib.hid ho
 have SPAP : Hid (InSp w5.heap.size w6.heap.size vAP) := Lib.hid (fun k hk => OAP_6.out.lt k hk)
 clear hb
 clear ho
 go_wp2_with fail
 refine (spec_partsOf _ _ _ xs ls s q day ps _ _ _ (IT.is_of_row OA_6.out) OAB_6.out.sl (PK.is_of_row OAP_6.out) (len_max HL.out) HS.out HS2.out (len_max HL3.out)).mono ?_
 rintro e w7 ⟨vS, rfl, ho, hbh⟩
 have hb := hbh.out
 clear hbh
 rw [HZS.out] at ho
 rw [HYY.out]
 have OA_7 := Lib.hid (own_keepL OA_6.out hb)
 clear OA_6
 have OAB_7 := Lib.hid (OAB_6.out.below hb)
 clear OAB_6
 have OAP_7 := Lib.hid (own_keepL OAP_6.out hb)
 clear OAP_6
 have B_7 := Lib.hid (B_6.out.trans (hb.mono B_6.out.size))
 clear B_6
 have hs_7 := hb.size
 have OS_7 := Lib.hid ho.out
 have SPS : Hid (InSp w6.heap.size w7.heap.size vS) := Lib.hid (fun k hk => OS_7.out.lt k hk)
 clear hb
 clear ho
 go_wp2_with fail
 refine (IT.to_all _ xs _ (HX.out.below B_7.out) HL.out).mono ?_
 rintro e w8 ⟨vX, rfl, ho, hb⟩
 have OA_8 := Lib.hid (own_keepL OA_7.out hb)
 clear OA_7
 have OAB_8 := Lib.hid (OAB_7.out.below hb)
 clear OAB_7
 have OAP_8 := Lib.hid (own_keepL OAP_7.out hb)
 clear OAP_7
 have OS_8 := Lib.hid (own_keepL OS_7.out hb)
 clear OS_7
 have B_8 := Lib.hid (B_7.out.trans (hb.mono B_7.out.size))
 clear B_7
 have hs_8 := hb.size
 have OX_8 := Lib.hid ho
 have SPX : Hid (InSp w7.heap.size w8.heap.size vX) := Lib.hid (fun k hk => OX_8.out.lt k hk)
 clear hb
 clear ho
 go_wp2_with fail
 refine (BX.toO _ ls 0 w.heap.size _ B_8.out.size (HY.out.below BLN.kept B_8.out) HSM.out).mono ?_
 rintro e w9 ⟨vXB, rfl, ho, hbh⟩
 have hb := hbh.out
 clear hbh
 have OA_9 := Lib.hid (own_keepL OA_8.out hb)
 clear OA_8
 have OAB_9 := Lib.hid (OAB_8.out.below hb)
 clear OAB_8
 have OAP_9 := Lib.hid (own_keepL OAP_8.out hb)
 clear OAP_8
 have OS_9 := Lib.hid (own_keepL OS_8.out hb)
 clear OS_8
 have OX_9 := Lib.hid (own_keepL OX_8.out hb)
 clear OX_8
 have B_9 := Lib.hid (B_8.out.trans (hb.mono B_8.out.size))
 clear B_8
 have hs_9 := hb.size
 have OXB_9 := Lib.hid ho.out
 clear hb
 clear ho
 go_wp2_with fail
 refine (PK.to_all _ ps _ (HP.out.below B_9.out) HL3.out).mono ?_
 rintro e w10 ⟨vXP, rfl, ho, hb⟩
 have OA_10 := Lib.hid (own_keepL OA_9.out hb)
 clear OA_9
 have OAB_10 := Lib.hid (OAB_9.out.below hb)
 clear OAB_9
 have OAP_10 := Lib.hid (own_keepL OAP_9.out hb)
 clear OAP_9
 have OS_10 := Lib.hid (own_keepL OS_9.out hb)
 clear OS_9
 have OX_10 := Lib.hid (own_keepL OX_9.out hb)
 clear OX_9
 have OXB_10 := Lib.hid (OXB_9.out.below hb)
 clear OXB_9
 have B_10 := Lib.hid (B_9.out.trans (hb.mono B_9.out.size))
 clear B_9
 have hs_10 := hb.size
 have OXP_10 := Lib.hid ho
 have SPXP : Hid (InSp w9.heap.size w10.heap.size vXP) := Lib.hid (fun k hk => OXP_10.out.lt k hk)
 clear hb
 clear ho
 go_wp2_with fail
 refine (im_partsOf _ _ _ xs ls s q day ps _ _ _ (IT.is_of_row OX_10.out) OXB_10.out.sl (PK.is_of_row OXP_10.out) (len_max HL.out) HS.out HS2.out (len_max HL3.out)).mono ?_
 rintro e w11 ⟨vG, rfl, ho, hbh⟩
 have hb := hbh.out
 clear hbh
 rw [HZS.out] at ho
 rw [HYY.out]
 have OA_11 := Lib.hid (own_keepL OA_10.out hb)
 clear OA_10
 have OAB_11 := Lib.hid (OAB_10.out.below hb)
 clear OAB_10
 have OAP_11 := Lib.hid (own_keepL OAP_10.out hb)
 clear OAP_10
 have OS_11 := Lib.hid (own_keepL OS_10.out hb)
 clear OS_10
 have OX_11 := Lib.hid (own_keepL OX_10.out hb)
 clear OX_10
 have OXB_11 := Lib.hid (OXB_10.out.below hb)
 clear OXB_10
 have OXP_11 := Lib.hid (own_keepL OXP_10.out hb)
 clear OXP_10
 have B_11 := Lib.hid (B_10.out.trans (hb.mono B_10.out.size))
 clear B_10
 have hs_11 := hb.size
 have OG_11 := Lib.hid ho.out
 have SPG : Hid (InSp w10.heap.size w11.heap.size vG) := Lib.hid (fun k hk => OG_11.out.lt k hk)
 clear hb
 clear ho
 go_wp2_with fail
 refine (NE.eq_all _ _ zs _ (NE.is_of_row OG_11.out) (NE.is_of_row OS_11.out) (by have := HRL.out; omega)).mono ?_
 rintro e w12 ⟨rfl, hb⟩
 have OA_12 := Lib.hid (own_keepL OA_11.out hb)
 clear OA_11
 have OAB_12 := Lib.hid (OAB_11.out.below hb)
 clear OAB_11
 have OAP_12 := Lib.hid (own_keepL OAP_11.out hb)
 clear OAP_11
 have OS_12 := Lib.hid (own_keepL OS_11.out hb)
 clear OS_11
 have OX_12 := Lib.hid (own_keepL OX_11.out hb)
 clear OX_11
 have OXB_12 := Lib.hid (OXB_11.out.below hb)
 clear OXB_11
 have OXP_12 := Lib.hid (own_keepL OXP_11.out hb)
 clear OXP_11
 have OG_12 := Lib.hid (own_keepL OG_11.out hb)
 clear OG_11
 have B_12 := Lib.hid (B_11.out.trans (hb.mono B_11.out.size))
 clear B_11
 have hs_12 := hb.size
 clear hb
 go_wp2_with fail
 refine (IT.to_all _ xs _ (HX.out.below B_12.out) HL.out).mono ?_
 rintro e w13 ⟨vC, rfl, ho, hb⟩
 have OA_13 := Lib.hid (own_keepL OA_12.out hb)
 clear OA_12
 have OAB_13 := Lib.hid (OAB_12.out.below hb)
 clear OAB_12
 have OAP_13 := Lib.hid (own_keepL OAP_12.out hb)
 clear OAP_12
 have OS_13 := Lib.hid (own_keepL OS_12.out hb)
 clear OS_12
 have OX_13 := Lib.hid (own_keepL OX_12.out hb)
 clear OX_12
 have OXB_13 := Lib.hid (OXB_12.out.below hb)
 clear OXB_12
 have OXP_13 := Lib.hid (own_keepL OXP_12.out hb)
 clear OXP_12
 have OG_13 := Lib.hid (own_keepL OG_12.out hb)
 clear OG_12
 have B_13 := Lib.hid (B_12.out.trans (hb.mono B_12.out.size))
 clear B_12
 have hs_13 := hb.size
 have OC_13 := Lib.hid ho
 have SPC : Hid (InSp w12.heap.size w13.heap.size vC) := Lib.hid (fun k hk => OC_13.out.lt k hk)
 clear hb
 clear ho
 go_wp2_with fail
 refine (IT.eq_all _ _ xs _ (IT.is_of_row OX_13.out) (IT.is_of_row OC_13.out) (by have := HL.out; omega)).mono ?_
 rintro e w14 ⟨rfl, hb⟩
 have OA_14 := Lib.hid (own_keepL OA_13.out hb)
 clear OA_13
 have OAB_14 := Lib.hid (OAB_13.out.below hb)
 clear OAB_13
 have OAP_14 := Lib.hid (own_keepL OAP_13.out hb)
 clear OAP_13
 have OS_14 := Lib.hid (own_keepL OS_13.out hb)
 clear OS_13
 have OX_14 := Lib.hid (own_keepL OX_13.out hb)
 clear OX_13
 have OXB_14 := Lib.hid (OXB_13.out.below hb)
 clear OXB_13
 have OXP_14 := Lib.hid (own_keepL OXP_13.out hb)
 clear OXP_13
 have OG_14 := Lib.hid (own_keepL OG_13.out hb)
 clear OG_13
 have OC_14 := Lib.hid (own_keepL OC_13.out hb)
 clear OC_13
 have B_14 := Lib.hid (B_13.out.trans (hb.mono B_13.out.size))
 clear B_13
 have hs_14 := hb.size
 clear hb
 go_wp2_with fail
 refine (BX.toO _ ls 0 w.heap.size _ B_14.out.size (HY.out.below BLN.kept B_14.out) HSM.out).mono ?_
 rintro e w15 ⟨vCB, rfl, ho, hbh⟩
 have hb := hbh.out
 clear hbh
 have OA_15 := Lib.hid (own_keepL OA_14.out hb)
 clear OA_14
 have OAB_15 := Lib.hid (OAB_14.out.below hb)
 clear OAB_14
 have OAP_15 := Lib.hid (own_keepL OAP_14.out hb)
 clear OAP_14
 have OS_15 := Lib.hid (own_keepL OS_14.out hb)
 clear OS_14
 have OX_15 := Lib.hid (own_keepL OX_14.out hb)
 clear OX_14
 have OXB_15 := Lib.hid (OXB_14.out.below hb)
 clear OXB_14
 have OXP_15 := Lib.hid (own_keepL OXP_14.out hb)
 clear OXP_14
 have OG_15 := Lib.hid (own_keepL OG_14.out hb)
 clear OG_14
 have OC_15 := Lib.hid (own_keepL OC_14.out hb)
 clear OC_14
 have B_15 := Lib.hid (B_14.out.trans (hb.mono B_14.out.size))
 clear B_14
 have hs_15 := hb.size
 have OCB_15 := Lib.hid ho.out
 clear hb
 clear ho
 go_wp2_with fail
 refine (BX.eq _ _ ls _ _ _ _ _ OXB_15.out.sl OCB_15.out.sl HSM.out).mono ?_
 rintro e w16 ⟨rfl, hb⟩
 have OA_16 := Lib.hid (own_keepL OA_15.out hb)
 clear OA_15
 have OAB_16 := Lib.hid (OAB_15.out.below hb)
 clear OAB_15
 have OAP_16 := Lib.hid (own_keepL OAP_15.out hb)
 clear OAP_15
 have OS_16 := Lib.hid (own_keepL OS_15.out hb)
 clear OS_15
 have OX_16 := Lib.hid (own_keepL OX_15.out hb)
 clear OX_15
 have OXB_16 := Lib.hid (OXB_15.out.below hb)
 clear OXB_15
 have OXP_16 := Lib.hid (own_keepL OXP_15.out hb)
 clear OXP_15
 have OG_16 := Lib.hid (own_keepL OG_15.out hb)
 clear OG_15
 have OC_16 := Lib.hid (own_keepL OC_15.out hb)
 clear OC_15
 have OCB_16 := Lib.hid (OCB_15.out.below hb)
 clear OCB_15
 have B_16 := Lib.hid (B_15.out.trans (hb.mono B_15.out.size))
 clear B_15
 have hs_16 := hb.size
 clear hb
 go_wp2_with fail
 refine (PK.to_all _ ps _ (HP.out.below B_16.out) HL3.out).mono ?_
 rintro e w17 ⟨vCP, rfl, ho, hb⟩
 have OA_17 := Lib.hid (own_keepL OA_16.out hb)
 clear OA_16
 have OAB_17 := Lib.hid (OAB_16.out.below hb)
 clear OAB_16
 have OAP_17 := Lib.hid (own_keepL OAP_16.out hb)
 clear OAP_16
 have OS_17 := Lib.hid (own_keepL OS_16.out hb)
 clear OS_16
 have OX_17 := Lib.hid (own_keepL OX_16.out hb)
 clear OX_16
 have OXB_17 := Lib.hid (OXB_16.out.below hb)
 clear OXB_16
 have OXP_17 := Lib.hid (own_keepL OXP_16.out hb)
 clear OXP_16
 have OG_17 := Lib.hid (own_keepL OG_16.out hb)
 clear OG_16
 have OC_17 := Lib.hid (own_keepL OC_16.out hb)
 clear OC_16
 have OCB_17 := Lib.hid (OCB_16.out.below hb)
 clear OCB_16
 have B_17 := Lib.hid (B_16.out.trans (hb.mono B_16.out.size))
 clear B_16
 have hs_17 := hb.size
 have OCP_17 := Lib.hid ho
 have SPCP : Hid (InSp w16.heap.size w17.heap.size vCP) := Lib.hid (fun k hk => OCP_17.out.lt k hk)
 clear hb
 clear ho
 go_wp2_with fail
 refine (PK.eq_all _ _ ps _ (PK.is_of_row OXP_17.out) (PK.is_of_row OCP_17.out) (by have := HL3.out; omega)).mono ?_
 rintro e w18 ⟨rfl, hb⟩
 have OA_18 := Lib.hid (own_keepL OA_17.out hb)
 clear OA_17
 have OAB_18 := Lib.hid (OAB_17.out.below hb)
 clear OAB_17
 have OAP_18 := Lib.hid (own_keepL OAP_17.out hb)
 clear OAP_17
 have OS_18 := Lib.hid (own_keepL OS_17.out hb)
 clear OS_17
 have OX_18 := Lib.hid (own_keepL OX_17.out hb)
 clear OX_17
 have OXB_18 := Lib.hid (OXB_17.out.below hb)
 clear OXB_17
 have OXP_18 := Lib.hid (own_keepL OXP_17.out hb)
 clear OXP_17
 have OG_18 := Lib.hid (own_keepL OG_17.out hb)
 clear OG_17
 have OC_18 := Lib.hid (own_keepL OC_17.out hb)
 clear OC_17
 have OCB_18 := Lib.hid (OCB_17.out.below hb)
 clear OCB_17
 have OCP_18 := Lib.hid (own_keepL OCP_17.out hb)
 clear OCP_17
 have B_18 := Lib.hid (B_17.out.trans (hb.mono B_17.out.size))
 clear B_17
 have hs_18 := hb.size
 clear hb
 obtain ⟨K1, hK1⟩ : ∃ K, 1 + 8 * xs.length = K := ⟨_, rfl⟩
 have hk1b : 0 < K1 ∧ K1 ≤ 8388609 := by have := HL.out; omega
 have HK1 := Lib.hid hK1
 go_wp2_with fail
 refine (IT.mark1 _ _ _ xs.length _ _ rfl OX_18.out (by have := HL.out; omega)).mono ?_
 rintro e w19 ⟨rfl, ho, hg⟩
 rw [hK1]
 clear hK1
 have OX_19 := Lib.hid ho
 clear OX_18
 have HC := Lib.hid (ChgIn.of_grown hg SPX.out)
 clear ho hg
 have OA_19 := Lib.hid (HC.out.row OA_18.out (fun b hb2 => by have h1 := SPA.out b hb2; omega))
 clear OA_18
 have OAB_19 := Lib.hid (OAB_18.out.far HC.out (by omega))
 clear OAB_18
 have OAP_19 := Lib.hid (HC.out.row OAP_18.out (fun b hb2 => by have h1 := SPAP.out b hb2; omega))
 clear OAP_18
 have OS_19 := Lib.hid (HC.out.row OS_18.out (fun b hb2 => by have h1 := SPS.out b hb2; omega))
 clear OS_18
 have OXB_19 := Lib.hid (OXB_18.out.far HC.out (by omega))
 clear OXB_18
 have OXP_19 := Lib.hid (HC.out.row OXP_18.out (fun b hb2 => by have h1 := SPXP.out b hb2; omega))
 clear OXP_18
 have OG_19 := Lib.hid (HC.out.row OG_18.out (fun b hb2 => by have h1 := SPG.out b hb2; omega))
 clear OG_18
 have OC_19 := Lib.hid (HC.out.row OC_18.out (fun b hb2 => by have h1 := SPC.out b hb2; omega))
 clear OC_18
 have OCB_19 := Lib.hid (OCB_18.out.far HC.out (by omega))
 clear OCB_18
 have OCP_19 := Lib.hid (HC.out.row OCP_18.out (fun b hb2 => by have h1 := SPCP.out b hb2; omega))
 clear OCP_18
 have B_19 := Lib.hid (HC.out.below B_18.out (by omega))
 clear B_18
 have hs_19 := HC.out.size
 clear HC
 obtain ⟨rsXB, hrecXB, hownXB⟩ := OXB_19.out
 have HRECXB := Lib.hid hrecXB
 have OXB_19r := Lib.hid hownXB
 clear hrecXB hownXB OXB_19
 have HSX := Lib.hid (HRECXB.out.sm HSM.out)
 obtain ⟨K2, hK2⟩ : ∃ K, BX.pos K1 rsXB rsXB.length = K := ⟨_, rfl⟩
 have HK2 := Lib.hid hK2
 have hk2b : 0 < K2 ∧ K2 ≤ 20000000 := by have h1 := BX.pos_tot HRECXB.out K1; have h2 := HTOT.out; rw [hK2] at h1; omega
 go_wp2_with fail
 refine (BX.markI _ _ _ _ K1 rsXB _ (by omega) OXB_19r.out HSX.out.2 HSX.out.1 (by omega) (by rw [hK2]; omega)).mono ?_
 rintro e w20 ⟨rmXB, rfl, HMKXB, ho, HC⟩
 rw [hK2]
 clear hK2
 have OXB_20 := ho
 clear ho OXB_19r
 have OA_20 := Lib.hid (HC.out.row OA_19.out (fun b hb2 => by have h1 := SPA.out b hb2; omega))
 clear OA_19
 have OAB_20 := Lib.hid (OAB_19.out.far HC.out (by omega))
 clear OAB_19
 have OAP_20 := Lib.hid (HC.out.row OAP_19.out (fun b hb2 => by have h1 := SPAP.out b hb2; omega))
 clear OAP_19
 have OS_20 := Lib.hid (HC.out.row OS_19.out (fun b hb2 => by have h1 := SPS.out b hb2; omega))
 clear OS_19
 have OX_20 := Lib.hid (HC.out.row OX_19.out (fun b hb2 => by have h1 := SPX.out b hb2; omega))
 clear OX_19
 have OXP_20 := Lib.hid (HC.out.row OXP_19.out (fun b hb2 => by have h1 := SPXP.out b hb2; omega))
 clear OXP_19
 have OG_20 := Lib.hid (HC.out.row OG_19.out (fun b hb2 => by have h1 := SPG.out b hb2; omega))
 clear OG_19
 have OC_20 := Lib.hid (HC.out.row OC_19.out (fun b hb2 => by have h1 := SPC.out b hb2; omega))
 clear OC_19
 have OCB_20 := Lib.hid (OCB_19.out.far HC.out (by omega))
 clear OCB_19
 have OCP_20 := Lib.hid (HC.out.row OCP_19.out (fun b hb2 => by have h1 := SPCP.out b hb2; omega))
 clear OCP_19
 have B_20 := Lib.hid (HC.out.below B_19.out (by omega))
 clear B_19
 have hs_20 := HC.out.size
 clear HC
 obtain ⟨K3, hK3⟩ : ∃ K, K2 + 2 * ps.length = K := ⟨_, rfl⟩
 have HK3 := Lib.hid hK3
 have hk3b : 0 < K3 ∧ K3 ≤ 100000000 := by have := HL3.out; omega
 go_wp2_with fail
 refine (PK.mark_allI _ _ _ K2 ps.length _ _ (by omega) OXP_20.out (by have := HL3.out; omega) (by omega) (by omega)).mono ?_
 rintro e w21 ⟨rfl, ho, hg⟩
 rw [hK3]
 clear hK3
 have OXP_21 := Lib.hid ho
 clear OXP_20
 have HC := Lib.hid (ChgIn.of_grown hg SPXP.out)
 clear ho hg
 have OA_21 := Lib.hid (HC.out.row OA_20.out (fun b hb2 => by have h1 := SPA.out b hb2; omega))
 clear OA_20
 have OAB_21 := Lib.hid (OAB_20.out.far HC.out (by omega))
 clear OAB_20
 have OAP_21 := Lib.hid (HC.out.row OAP_20.out (fun b hb2 => by have h1 := SPAP.out b hb2; omega))
 clear OAP_20
 have OS_21 := Lib.hid (HC.out.row OS_20.out (fun b hb2 => by have h1 := SPS.out b hb2; omega))
 clear OS_20
 have OX_21 := Lib.hid (HC.out.row OX_20.out (fun b hb2 => by have h1 := SPX.out b hb2; omega))
 clear OX_20
 have OXB_21 := Lib.hid (OXB_20.out.far HC.out (by omega))
 clear OXB_20
 have OG_21 := Lib.hid (HC.out.row OG_20.out (fun b hb2 => by have h1 := SPG.out b hb2; omega))
 clear OG_20
 have OC_21 := Lib.hid (HC.out.row OC_20.out (fun b hb2 => by have h1 := SPC.out b hb2; omega))
 clear OC_20
 have OCB_21 := Lib.hid (OCB_20.out.far HC.out (by omega))
 clear OCB_20
 have OCP_21 := Lib.hid (HC.out.row OCP_20.out (fun b hb2 => by have h1 := SPCP.out b hb2; omega))
 clear OCP_20
 have B_21 := Lib.hid (HC.out.below B_20.out (by omega))
 clear B_20
 have hs_21 := HC.out.size
 clear HC
 have hkn : decide ((K3 : Int) < 0) = false := decide_eq_false (by omega)
 go_wp2_with fail
 refine (NE.eq_all _ _ zs _ (NE.is_of_row OG_21.out) (NE.is_of_row OS_21.out) (by have := HRL.out; omega)).mono ?_
 rintro e w22 ⟨rfl, hb⟩
 have OA_22 := Lib.hid (own_keepL OA_21.out hb)
 clear OA_21
 have OAB_22 := Lib.hid (OAB_21.out.below hb)
 clear OAB_21
 have OAP_22 := Lib.hid (own_keepL OAP_21.out hb)
 clear OAP_21
 have OS_22 := Lib.hid (own_keepL OS_21.out hb)
 clear OS_21
 have OX_22 := Lib.hid (own_keepL OX_21.out hb)
 clear OX_21
 have OXB_22 := Lib.hid (OXB_21.out.below hb)
 clear OXB_21
 have OXP_22 := Lib.hid (own_keepL OXP_21.out hb)
 clear OXP_21
 have OG_22 := Lib.hid (own_keepL OG_21.out hb)
 clear OG_21
 have OC_22 := Lib.hid (own_keepL OC_21.out hb)
 clear OC_21
 have OCB_22 := Lib.hid (OCB_21.out.below hb)
 clear OCB_21
 have OCP_22 := Lib.hid (own_keepL OCP_21.out hb)
 clear OCP_21
 have B_22 := Lib.hid (B_21.out.trans (hb.mono B_21.out.size))
 clear B_21
 have hs_22 := hb.size
 clear hb
 go_wp2_with fail
 refine (NE.mark1 _ _ _ zs.length _ _ rfl OG_22.out (by have := HRL.out; omega)).mono ?_
 rintro e w23 ⟨rfl, ho, hg⟩
 have OG_23 := Lib.hid ho
 clear OG_22
 have HC := Lib.hid (ChgIn.of_grown hg SPG.out)
 clear ho hg
 have OA_23 := Lib.hid (HC.out.row OA_22.out (fun b hb2 => by have h1 := SPA.out b hb2; omega))
 clear OA_22
 have OAB_23 := Lib.hid (OAB_22.out.far HC.out (by omega))
 clear OAB_22
 have OAP_23 := Lib.hid (HC.out.row OAP_22.out (fun b hb2 => by have h1 := SPAP.out b hb2; omega))
 clear OAP_22
 have OS_23 := Lib.hid (HC.out.row OS_22.out (fun b hb2 => by have h1 := SPS.out b hb2; omega))
 clear OS_22
 have OX_23 := Lib.hid (HC.out.row OX_22.out (fun b hb2 => by have h1 := SPX.out b hb2; omega))
 clear OX_22
 have OXB_23 := Lib.hid (OXB_22.out.far HC.out (by omega))
 clear OXB_22
 have OXP_23 := Lib.hid (HC.out.row OXP_22.out (fun b hb2 => by have h1 := SPXP.out b hb2; omega))
 clear OXP_22
 have OC_23 := Lib.hid (HC.out.row OC_22.out (fun b hb2 => by have h1 := SPC.out b hb2; omega))
 clear OC_22
 have OCB_23 := Lib.hid (OCB_22.out.far HC.out (by omega))
 clear OCB_22
 have OCP_23 := Lib.hid (HC.out.row OCP_22.out (fun b hb2 => by have h1 := SPCP.out b hb2; omega))
 clear OCP_22
 have B_23 := Lib.hid (HC.out.below B_22.out (by omega))
 clear B_22
 have hs_23 := HC.out.size
 clear HC
 have hqq : ((1 + 2 * (zs.length : Int)) != 1 + 2 * (zs.length : Int)) = false := by simp
 have hqn : decide (1 + 2 * (zs.length : Int) < 0) = false := decide_eq_false (by omega)
 go_wp2_with fail
 refine (NE.held1 _ _ _ zs.length _ rfl OG_23.out (by have := HRL.out; omega)).mono ?_
 rintro e w24 ⟨rfl, hb⟩
 have OA_24 := Lib.hid (own_keepL OA_23.out hb)
 clear OA_23
 have OAB_24 := Lib.hid (OAB_23.out.below hb)
 clear OAB_23
 have OAP_24 := Lib.hid (own_keepL OAP_23.out hb)
 clear OAP_23
 have OS_24 := Lib.hid (own_keepL OS_23.out hb)
 clear OS_23
 have OX_24 := Lib.hid (own_keepL OX_23.out hb)
 clear OX_23
 have OXB_24 := Lib.hid (OXB_23.out.below hb)
 clear OXB_23
 have OXP_24 := Lib.hid (own_keepL OXP_23.out hb)
 clear OXP_23
 have OG_24 := Lib.hid (own_keepL OG_23.out hb)
 clear OG_23
 have OC_24 := Lib.hid (own_keepL OC_23.out hb)
 clear OC_23
 have OCB_24 := Lib.hid (OCB_23.out.below hb)
 clear OCB_23
 have OCP_24 := Lib.hid (own_keepL OCP_23.out hb)
 clear OCP_23
 have B_24 := Lib.hid (B_23.out.trans (hb.mono B_23.out.size))
 clear B_23
 have hs_24 := hb.size
 clear hb
 go_wp2_with fail
 refine (IT.to_all _ xs _ (HX.out.below B_24.out) HL.out).mono ?_
 rintro e w25 ⟨vE, rfl, ho, hb⟩
 have OA_25 := Lib.hid (own_keepL OA_24.out hb)
 clear OA_24
 have OAB_25 := Lib.hid (OAB_24.out.below hb)
 clear OAB_24
 have OAP_25 := Lib.hid (own_keepL OAP_24.out hb)
 clear OAP_24
 have OS_25 := Lib.hid (own_keepL OS_24.out hb)
 clear OS_24
 have OX_25 := Lib.hid (own_keepL OX_24.out hb)
 clear OX_24
 have OXB_25 := Lib.hid (OXB_24.out.below hb)
 clear OXB_24
 have OXP_25 := Lib.hid (own_keepL OXP_24.out hb)
 clear OXP_24
 have OG_25 := Lib.hid (own_keepL OG_24.out hb)
 clear OG_24
 have OC_25 := Lib.hid (own_keepL OC_24.out hb)
 clear OC_24
 have OCB_25 := Lib.hid (OCB_24.out.below hb)
 clear OCB_24
 have OCP_25 := Lib.hid (own_keepL OCP_24.out hb)
 clear OCP_24
 have B_25 := Lib.hid (B_24.out.trans (hb.mono B_24.out.size))
 clear B_24
 have hs_25 := hb.size
 have OE_25 := Lib.hid ho
 have SPE : Hid (InSp w24.heap.size w25.heap.size vE) := Lib.hid (fun k hk => OE_25.out.lt k hk)
 clear hb
 clear ho
 go_wp2_with fail
 refine (BX.toO _ ls 0 w.heap.size _ B_25.out.size (HY.out.below BLN.kept B_25.out) HSM.out).mono ?_
 rintro e w26 ⟨vEB, rfl, ho, hbh⟩
 have hb := hbh.out
 clear hbh
 have OA_26 := Lib.hid (own_keepL OA_25.out hb)
 clear OA_25
 have OAB_26 := Lib.hid (OAB_25.out.below hb)
 clear OAB_25
 have OAP_26 := Lib.hid (own_keepL OAP_25.out hb)
 clear OAP_25
 have OS_26 := Lib.hid (own_keepL OS_25.out hb)
 clear OS_25
 have OX_26 := Lib.hid (own_keepL OX_25.out hb)
 clear OX_25
 have OXB_26 := Lib.hid (OXB_25.out.below hb)
 clear OXB_25
 have OXP_26 := Lib.hid (own_keepL OXP_25.out hb)
 clear OXP_25
 have OG_26 := Lib.hid (own_keepL OG_25.out hb)
 clear OG_25
 have OC_26 := Lib.hid (own_keepL OC_25.out hb)
 clear OC_25
 have OCB_26 := Lib.hid (OCB_25.out.below hb)
 clear OCB_25
 have OCP_26 := Lib.hid (own_keepL OCP_25.out hb)
 clear OCP_25
 have OE_26 := Lib.hid (own_keepL OE_25.out hb)
 clear OE_25
 have B_26 := Lib.hid (B_25.out.trans (hb.mono B_25.out.size))
 clear B_25
 have hs_26 := hb.size
 have OEB_26 := Lib.hid ho.out
 clear hb
 clear ho
 go_wp2_with fail
 refine (PK.to_all _ ps _ (HP.out.below B_26.out) HL3.out).mono ?_
 rintro e w27 ⟨vEP, rfl, ho, hb⟩
 have OA_27 := Lib.hid (own_keepL OA_26.out hb)
 clear OA_26
 have OAB_27 := Lib.hid (OAB_26.out.below hb)
 clear OAB_26
 have OAP_27 := Lib.hid (own_keepL OAP_26.out hb)
 clear OAP_26
 have OS_27 := Lib.hid (own_keepL OS_26.out hb)
 clear OS_26
 have OX_27 := Lib.hid (own_keepL OX_26.out hb)
 clear OX_26
 have OXB_27 := Lib.hid (OXB_26.out.below hb)
 clear OXB_26
 have OXP_27 := Lib.hid (own_keepL OXP_26.out hb)
 clear OXP_26
 have OG_27 := Lib.hid (own_keepL OG_26.out hb)
 clear OG_26
 have OC_27 := Lib.hid (own_keepL OC_26.out hb)
 clear OC_26
 have OCB_27 := Lib.hid (OCB_26.out.below hb)
 clear OCB_26
 have OCP_27 := Lib.hid (own_keepL OCP_26.out hb)
 clear OCP_26
 have OE_27 := Lib.hid (own_keepL OE_26.out hb)
 clear OE_26
 have OEB_27 := Lib.hid (OEB_26.out.below hb)
 clear OEB_26
 have B_27 := Lib.hid (B_26.out.trans (hb.mono B_26.out.size))
 clear B_26
 have hs_27 := hb.size
 have OEP_27 := Lib.hid ho
 have SPEP : Hid (InSp w26.heap.size w27.heap.size vEP) := Lib.hid (fun k hk => OEP_27.out.lt k hk)
 clear hb
 clear ho
 go_wp2_with fail
 refine (im_partsOf _ _ _ xs ls s q day ps _ _ _ (IT.is_of_row OE_27.out) OEB_27.out.sl (PK.is_of_row OEP_27.out) (len_max HL.out) HS.out HS2.out (len_max HL3.out)).mono ?_
 rintro e w28 ⟨vH, rfl, ho, hbh⟩
 have hb := hbh.out
 clear hbh
 rw [HZS.out] at ho
 rw [HYY.out]
 have OA_28 := Lib.hid (own_keepL OA_27.out hb)
 clear OA_27
 have OAB_28 := Lib.hid (OAB_27.out.below hb)
 clear OAB_27
 have OAP_28 := Lib.hid (own_keepL OAP_27.out hb)
 clear OAP_27
 have OS_28 := Lib.hid (own_keepL OS_27.out hb)
 clear OS_27
 have OX_28 := Lib.hid (own_keepL OX_27.out hb)
 clear OX_27
 have OXB_28 := Lib.hid (OXB_27.out.below hb)
 clear OXB_27
 have OXP_28 := Lib.hid (own_keepL OXP_27.out hb)
 clear OXP_27
 have OG_28 := Lib.hid (own_keepL OG_27.out hb)
 clear OG_27
 have OC_28 := Lib.hid (own_keepL OC_27.out hb)
 clear OC_27
 have OCB_28 := Lib.hid (OCB_27.out.below hb)
 clear OCB_27
 have OCP_28 := Lib.hid (own_keepL OCP_27.out hb)
 clear OCP_27
 have OE_28 := Lib.hid (own_keepL OE_27.out hb)
 clear OE_27
 have OEB_28 := Lib.hid (OEB_27.out.below hb)
 clear OEB_27
 have OEP_28 := Lib.hid (own_keepL OEP_27.out hb)
 clear OEP_27
 have B_28 := Lib.hid (B_27.out.trans (hb.mono B_27.out.size))
 clear B_27
 have hs_28 := hb.size
 have OH_28 := Lib.hid ho.out
 have SPH : Hid (InSp w27.heap.size w28.heap.size vH) := Lib.hid (fun k hk => OH_28.out.lt k hk)
 clear hb
 clear ho
 go_wp2_with fail
 refine (NE.eq_all _ _ zs _ (NE.is_of_row OH_28.out) (NE.is_of_row OS_28.out) (by have := HRL.out; omega)).mono ?_
 rintro e w29 ⟨rfl, hb⟩
 have OA_29 := Lib.hid (own_keepL OA_28.out hb)
 clear OA_28
 have OAB_29 := Lib.hid (OAB_28.out.below hb)
 clear OAB_28
 have OAP_29 := Lib.hid (own_keepL OAP_28.out hb)
 clear OAP_28
 have OS_29 := Lib.hid (own_keepL OS_28.out hb)
 clear OS_28
 have OX_29 := Lib.hid (own_keepL OX_28.out hb)
 clear OX_28
 have OXB_29 := Lib.hid (OXB_28.out.below hb)
 clear OXB_28
 have OXP_29 := Lib.hid (own_keepL OXP_28.out hb)
 clear OXP_28
 have OG_29 := Lib.hid (own_keepL OG_28.out hb)
 clear OG_28
 have OC_29 := Lib.hid (own_keepL OC_28.out hb)
 clear OC_28
 have OCB_29 := Lib.hid (OCB_28.out.below hb)
 clear OCB_28
 have OCP_29 := Lib.hid (own_keepL OCP_28.out hb)
 clear OCP_28
 have OE_29 := Lib.hid (own_keepL OE_28.out hb)
 clear OE_28
 have OEB_29 := Lib.hid (OEB_28.out.below hb)
 clear OEB_28
 have OEP_29 := Lib.hid (own_keepL OEP_28.out hb)
 clear OEP_28
 have OH_29 := Lib.hid (own_keepL OH_28.out hb)
 clear OH_28
 have B_29 := Lib.hid (B_28.out.trans (hb.mono B_28.out.size))
 clear B_28
 have hs_29 := hb.size
 clear hb
 go_wp2_with fail
 refine (NE.held1 _ _ _ zs.length _ rfl OG_29.out (by have := HRL.out; omega)).mono ?_
 rintro e w30 ⟨rfl, hb⟩
 have OA_30 := Lib.hid (own_keepL OA_29.out hb)
 clear OA_29
 have OAB_30 := Lib.hid (OAB_29.out.below hb)
 clear OAB_29
 have OAP_30 := Lib.hid (own_keepL OAP_29.out hb)
 clear OAP_29
 have OS_30 := Lib.hid (own_keepL OS_29.out hb)
 clear OS_29
 have OX_30 := Lib.hid (own_keepL OX_29.out hb)
 clear OX_29
 have OXB_30 := Lib.hid (OXB_29.out.below hb)
 clear OXB_29
 have OXP_30 := Lib.hid (own_keepL OXP_29.out hb)
 clear OXP_29
 have OG_30 := Lib.hid (own_keepL OG_29.out hb)
 clear OG_29
 have OC_30 := Lib.hid (own_keepL OC_29.out hb)
 clear OC_29
 have OCB_30 := Lib.hid (OCB_29.out.below hb)
 clear OCB_29
 have OCP_30 := Lib.hid (own_keepL OCP_29.out hb)
 clear OCP_29
 have OE_30 := Lib.hid (own_keepL OE_29.out hb)
 clear OE_29
 have OEB_30 := Lib.hid (OEB_29.out.below hb)
 clear OEB_29
 have OEP_30 := Lib.hid (own_keepL OEP_29.out hb)
 clear OEP_29
 have OH_30 := Lib.hid (own_keepL OH_29.out hb)
 clear OH_29
 have B_30 := Lib.hid (B_29.out.trans (hb.mono B_29.out.size))
 clear B_29
 have hs_30 := hb.size
 clear hb
 go_wp2_with fail
 go_ret
 exact ⟨rfl, B_30.out⟩

end Go.Proofs.YtmnncinpepeocaaGreat
