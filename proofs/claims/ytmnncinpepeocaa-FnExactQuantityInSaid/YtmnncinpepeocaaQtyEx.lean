/-
  The walk of the exact law of QuantityIn.
-/
import Derived.Test.YtmnncinpepeocaaSpecQty
import Derived.Test.YtmnncinpepeocaaQtyImpl
import Derived.Test.YtmnncinpepeocaaBLOwn
import Derived.Test.YtmnncinpepeocaaBuA2
import Derived.Test.YtmnncinpepeocaaBuRec
import Derived.Test.YtmnncinpepeocaaBuRec2
import Derived.Test.YtmnncinpepeocaaBuA
import Derived.WalkKit
import Derived.WalkSpells
import Derived.WalkSmall
import Derived.Deep.DeepCutAuto
import Derived.Lib.Hide
namespace Go.Proofs.Ytmnncinpepeocaa
open Go.RowKit

set_option maxRecDepth 100000 in
set_option maxHeartbeats 8000000 in
theorem ex_QuantityIn (v : Value) (xs : List IT) (v2 : Value) (ls : List BL) (s t : ByteArray) (day : Int) (v3 : Value) (ps : List PK) (w : World) (h : IT.Is w v xs) (hm : xs.length ≤ maxLen) (hs : ∀ r, r ∈ xs → IT.Sz r) (h2 : BX 0 w.heap.size w v2 ls) (hs2 : BX.Sz ls) (hts : s.size ≤ maxLen) (htt : t.size ≤ maxLen) (h3 : PK.Is w v3 ps) (hm3 : ps.length ≤ maxLen) (hs3 : ∀ r, r ∈ ps → PK.Sz r) :
    Calls Try.prog 7 #[v, v2, .string s, .string t, .int .i64 day, v3] w fun e w' => e = .returned (.bool true) ∧ Below w.heap.size w w' := by
  have HX := Lib.hid h
  have HS := Lib.hid hs
  have HY := Lib.hid h2
  have HS2 := Lib.hid hs2
  have HSZ := Lib.hid (IT.sz_all v xs 1048576 w h (by omega) (by omega) hm hs)
  obtain ⟨a1, c1, rfl⟩ := h.slice
  obtain ⟨a2, c2, rfl⟩ := h2.slice
  have HP := Lib.hid h3
  have HS3 := Lib.hid hs3
  have HM3 := Lib.hid hm3
  obtain ⟨a3, c3, rfl⟩ := h3.slice
  unfold maxLen at hts
  by_cases hbigs : 1048576 < s.size
  · go_enter Try.func7, Try.ntmps7
    go_wp2_with fail
    go_ret
    exact ⟨rfl, Below.refl _ _⟩
  unfold maxLen at htt
  by_cases hbigt : 1048576 < t.size
  · go_enter Try.func7, Try.ntmps7
    go_wp2_with fail
    go_ret
    exact ⟨rfl, Below.refl _ _⟩
  clear h3 hs3 hm3
  clear h hs hm h2 hs2
  go_enter Try.func7, Try.ntmps7
  go_wp2_with fail
  refine (HSZ.out).mono ?_
  rintro e w1 ⟨z, rfl, hz0, hz1, hz2, hb⟩
  have HZ2 := Lib.hid hz2
  clear hz2
  have B_1 := Lib.hid ((Lib.hid (Below.refl w.heap.size w)).out.trans (hb.mono (Lib.hid (Below.refl w.heap.size w)).out.size))
  have hs_1 := hb.size
  clear hb
  by_cases hzn : z < 0
  · go_wp2_with fail
    go_ret
    exact ⟨rfl, B_1.out⟩
  have HL : Hid (xs.length ≤ 1048576) := Lib.hid (by have := HZ2.out (by omega); omega)
  clear HZ2 HSZ
  go_wp2_with fail
  refine (BX.szT _ ls z 0 w.heap.size _ (HY.out.below BLN.kept B_1.out) (by omega) (by omega) HS2.out).mono ?_
  rintro e w2 ⟨z2, rfl, hy0, hy1, hy2, hb⟩
  have HZ3 := Lib.hid hy2
  clear hy2
  have B_2 := Lib.hid (B_1.out.trans (hb.mono B_1.out.size))
  clear B_1
  have hs_2 := hb.size
  clear hb
  by_cases hzm : z2 < 0
  · go_wp2_with fail
    go_ret
    exact ⟨rfl, B_2.out⟩
  have HSM := Lib.hid (HZ3.out (by omega)).1
  have HTOT : Hid (ls.length + BX.tot ls ≤ 1048576) := Lib.hid (by have := (HZ3.out (by omega)).2; omega)
  clear HZ3
  go_wp2_with fail
  refine (PK.sz_all _ ps z2 _ (HP.out.below B_2.out) (by omega) (by omega) HM3.out HS3.out).mono ?_
  rintro e w3 ⟨z3, rfl, hx0, hx1, hx2, hb⟩
  have HZ4 := Lib.hid hx2
  clear hx2
  have B_3 := Lib.hid (B_2.out.trans (hb.mono B_2.out.size))
  clear B_2
  have hs_3 := hb.size
  clear hb
  by_cases hzp : z3 < 0
  · go_wp2_with fail
    go_ret
    exact ⟨rfl, B_3.out⟩
  have HL3 : Hid (ps.length ≤ 1048576) := Lib.hid (by have := HZ4.out (by omega); omega)
  clear HZ4
  obtain ⟨n0, hn0⟩ : ∃ z, quN xs ls s t day ps = z := ⟨_, rfl⟩
  have HNN := Lib.hid hn0
  clear hn0
  have hzz : (n0 != n0) = false := by simp
  obtain ⟨y, hy⟩ : ∃ y, quB xs ls s t day ps = y := ⟨_, rfl⟩
  have HYY := Lib.hid hy
  clear hy
  have hnn : (y != y) = false := by simp
  go_wp2_with fail
  refine (IT.to_all _ xs _ (HX.out.below B_3.out) HL.out).mono ?_
  rintro e w4 ⟨vA, rfl, ho, hb⟩
  have B_4 := Lib.hid (B_3.out.trans (hb.mono B_3.out.size))
  clear B_3
  have hs_4 := hb.size
  have OA_4 := Lib.hid ho
  have SPA : Hid (InSp w3.heap.size w4.heap.size vA) := Lib.hid (fun k hk => OA_4.out.lt k hk)
  clear hb
  clear ho
  go_wp2_with fail
  refine (BX.toO _ ls 0 w.heap.size _ B_4.out.size (HY.out.below BLN.kept B_4.out) HSM.out).mono ?_
  rintro e w5 ⟨vAB, rfl, ho, hbh⟩
  have hb := hbh.out
  clear hbh
  have OA_5 := Lib.hid (own_keepL OA_4.out hb)
  clear OA_4
  have B_5 := Lib.hid (B_4.out.trans (hb.mono B_4.out.size))
  clear B_4
  have hs_5 := hb.size
  have OAB_5 := Lib.hid ho.out
  clear hb
  clear ho
  go_wp2_with fail
  refine (PK.to_all _ ps _ (HP.out.below B_5.out) HL3.out).mono ?_
  rintro e w6 ⟨vAP, rfl, ho, hb⟩
  have OA_6 := Lib.hid (own_keepL OA_5.out hb)
  clear OA_5
  have OAB_6 := Lib.hid (OAB_5.out.below hb)
  clear OAB_5
  have B_6 := Lib.hid (B_5.out.trans (hb.mono B_5.out.size))
  clear B_5
  have hs_6 := hb.size
  have OAP_6 := Lib.hid ho
  have SPAP : Hid (InSp w5.heap.size w6.heap.size vAP) := Lib.hid (fun k hk => OAP_6.out.lt k hk)
  clear hb
  clear ho
  go_wp2_with fail
  refine (spec_quantityIn _ _ _ xs ls s t day ps _ _ _ (IT.is_of_row OA_6.out) OAB_6.out.sl (PK.is_of_row OAP_6.out) (len_max HL.out) HS.out HS2.out (len_max HL3.out)).mono ?_
  rintro e w7 ⟨rfl, hbh⟩
  have hb := hbh.out
  clear hbh
  rw [HYY.out, HNN.out]
  have OA_7 := Lib.hid (own_keepL OA_6.out hb)
  clear OA_6
  have OAB_7 := Lib.hid (OAB_6.out.below hb)
  clear OAB_6
  have OAP_7 := Lib.hid (own_keepL OAP_6.out hb)
  clear OAP_6
  have B_7 := Lib.hid (B_6.out.trans (hb.mono B_6.out.size))
  clear B_6
  have hs_7 := hb.size
  clear hb
  go_wp2_with fail
  refine (IT.to_all _ xs _ (HX.out.below B_7.out) HL.out).mono ?_
  rintro e w8 ⟨vX, rfl, ho, hb⟩
  have OA_8 := Lib.hid (own_keepL OA_7.out hb)
  clear OA_7
  have OAB_8 := Lib.hid (OAB_7.out.below hb)
  clear OAB_7
  have OAP_8 := Lib.hid (own_keepL OAP_7.out hb)
  clear OAP_7
  have B_8 := Lib.hid (B_7.out.trans (hb.mono B_7.out.size))
  clear B_7
  have hs_8 := hb.size
  have OX_8 := Lib.hid ho
  have SPX : Hid (InSp w7.heap.size w8.heap.size vX) := Lib.hid (fun k hk => OX_8.out.lt k hk)
  clear hb
  clear ho
  go_wp2_with fail
  refine (BX.toO _ ls 0 w.heap.size _ B_8.out.size (HY.out.below BLN.kept B_8.out) HSM.out).mono ?_
  rintro e w9 ⟨vXB, rfl, ho, hbh⟩
  have hb := hbh.out
  clear hbh
  have OA_9 := Lib.hid (own_keepL OA_8.out hb)
  clear OA_8
  have OAB_9 := Lib.hid (OAB_8.out.below hb)
  clear OAB_8
  have OAP_9 := Lib.hid (own_keepL OAP_8.out hb)
  clear OAP_8
  have OX_9 := Lib.hid (own_keepL OX_8.out hb)
  clear OX_8
  have B_9 := Lib.hid (B_8.out.trans (hb.mono B_8.out.size))
  clear B_8
  have hs_9 := hb.size
  have OXB_9 := Lib.hid ho.out
  clear hb
  clear ho
  go_wp2_with fail
  refine (PK.to_all _ ps _ (HP.out.below B_9.out) HL3.out).mono ?_
  rintro e w10 ⟨vXP, rfl, ho, hb⟩
  have OA_10 := Lib.hid (own_keepL OA_9.out hb)
  clear OA_9
  have OAB_10 := Lib.hid (OAB_9.out.below hb)
  clear OAB_9
  have OAP_10 := Lib.hid (own_keepL OAP_9.out hb)
  clear OAP_9
  have OX_10 := Lib.hid (own_keepL OX_9.out hb)
  clear OX_9
  have OXB_10 := Lib.hid (OXB_9.out.below hb)
  clear OXB_9
  have B_10 := Lib.hid (B_9.out.trans (hb.mono B_9.out.size))
  clear B_9
  have hs_10 := hb.size
  have OXP_10 := Lib.hid ho
  have SPXP : Hid (InSp w9.heap.size w10.heap.size vXP) := Lib.hid (fun k hk => OXP_10.out.lt k hk)
  clear hb
  clear ho
  go_wp2_with fail
  refine (im_quantityIn _ _ _ xs ls s t day ps _ _ _ (IT.is_of_row OX_10.out) OXB_10.out.sl (PK.is_of_row OXP_10.out) (len_max HL.out) HS.out HS2.out (len_max HL3.out)).mono ?_
  rintro e w11 ⟨rfl, hbh⟩
  have hb := hbh.out
  clear hbh
  rw [HYY.out, HNN.out]
  have OA_11 := Lib.hid (own_keepL OA_10.out hb)
  clear OA_10
  have OAB_11 := Lib.hid (OAB_10.out.below hb)
  clear OAB_10
  have OAP_11 := Lib.hid (own_keepL OAP_10.out hb)
  clear OAP_10
  have OX_11 := Lib.hid (own_keepL OX_10.out hb)
  clear OX_10
  have OXB_11 := Lib.hid (OXB_10.out.below hb)
  clear OXB_10
  have OXP_11 := Lib.hid (own_keepL OXP_10.out hb)
  clear OXP_10
  have B_11 := Lib.hid (B_10.out.trans (hb.mono B_10.out.size))
  clear B_10
  have hs_11 := hb.size
  clear hb
  go_wp2_with fail
  refine (IT.to_all _ xs _ (HX.out.below B_11.out) HL.out).mono ?_
  rintro e w12 ⟨vC, rfl, ho, hb⟩
  have OA_12 := Lib.hid (own_keepL OA_11.out hb)
  clear OA_11
  have OAB_12 := Lib.hid (OAB_11.out.below hb)
  clear OAB_11
  have OAP_12 := Lib.hid (own_keepL OAP_11.out hb)
  clear OAP_11
  have OX_12 := Lib.hid (own_keepL OX_11.out hb)
  clear OX_11
  have OXB_12 := Lib.hid (OXB_11.out.below hb)
  clear OXB_11
  have OXP_12 := Lib.hid (own_keepL OXP_11.out hb)
  clear OXP_11
  have B_12 := Lib.hid (B_11.out.trans (hb.mono B_11.out.size))
  clear B_11
  have hs_12 := hb.size
  have OC_12 := Lib.hid ho
  have SPC : Hid (InSp w11.heap.size w12.heap.size vC) := Lib.hid (fun k hk => OC_12.out.lt k hk)
  clear hb
  clear ho
  go_wp2_with fail
  refine (IT.eq_all _ _ xs _ (IT.is_of_row OX_12.out) (IT.is_of_row OC_12.out) (by have := HL.out; omega)).mono ?_
  rintro e w13 ⟨rfl, hb⟩
  have OA_13 := Lib.hid (own_keepL OA_12.out hb)
  clear OA_12
  have OAB_13 := Lib.hid (OAB_12.out.below hb)
  clear OAB_12
  have OAP_13 := Lib.hid (own_keepL OAP_12.out hb)
  clear OAP_12
  have OX_13 := Lib.hid (own_keepL OX_12.out hb)
  clear OX_12
  have OXB_13 := Lib.hid (OXB_12.out.below hb)
  clear OXB_12
  have OXP_13 := Lib.hid (own_keepL OXP_12.out hb)
  clear OXP_12
  have OC_13 := Lib.hid (own_keepL OC_12.out hb)
  clear OC_12
  have B_13 := Lib.hid (B_12.out.trans (hb.mono B_12.out.size))
  clear B_12
  have hs_13 := hb.size
  clear hb
  go_wp2_with fail
  refine (BX.toO _ ls 0 w.heap.size _ B_13.out.size (HY.out.below BLN.kept B_13.out) HSM.out).mono ?_
  rintro e w14 ⟨vCB, rfl, ho, hbh⟩
  have hb := hbh.out
  clear hbh
  have OA_14 := Lib.hid (own_keepL OA_13.out hb)
  clear OA_13
  have OAB_14 := Lib.hid (OAB_13.out.below hb)
  clear OAB_13
  have OAP_14 := Lib.hid (own_keepL OAP_13.out hb)
  clear OAP_13
  have OX_14 := Lib.hid (own_keepL OX_13.out hb)
  clear OX_13
  have OXB_14 := Lib.hid (OXB_13.out.below hb)
  clear OXB_13
  have OXP_14 := Lib.hid (own_keepL OXP_13.out hb)
  clear OXP_13
  have OC_14 := Lib.hid (own_keepL OC_13.out hb)
  clear OC_13
  have B_14 := Lib.hid (B_13.out.trans (hb.mono B_13.out.size))
  clear B_13
  have hs_14 := hb.size
  have OCB_14 := Lib.hid ho.out
  clear hb
  clear ho
  go_wp2_with fail
  refine (BX.eq _ _ ls _ _ _ _ _ OXB_14.out.sl OCB_14.out.sl HSM.out).mono ?_
  rintro e w15 ⟨rfl, hb⟩
  have OA_15 := Lib.hid (own_keepL OA_14.out hb)
  clear OA_14
  have OAB_15 := Lib.hid (OAB_14.out.below hb)
  clear OAB_14
  have OAP_15 := Lib.hid (own_keepL OAP_14.out hb)
  clear OAP_14
  have OX_15 := Lib.hid (own_keepL OX_14.out hb)
  clear OX_14
  have OXB_15 := Lib.hid (OXB_14.out.below hb)
  clear OXB_14
  have OXP_15 := Lib.hid (own_keepL OXP_14.out hb)
  clear OXP_14
  have OC_15 := Lib.hid (own_keepL OC_14.out hb)
  clear OC_14
  have OCB_15 := Lib.hid (OCB_14.out.below hb)
  clear OCB_14
  have B_15 := Lib.hid (B_14.out.trans (hb.mono B_14.out.size))
  clear B_14
  have hs_15 := hb.size
  clear hb
  go_wp2_with fail
  refine (PK.to_all _ ps _ (HP.out.below B_15.out) HL3.out).mono ?_
  rintro e w16 ⟨vCP, rfl, ho, hb⟩
  have OA_16 := Lib.hid (own_keepL OA_15.out hb)
  clear OA_15
  have OAB_16 := Lib.hid (OAB_15.out.below hb)
  clear OAB_15
  have OAP_16 := Lib.hid (own_keepL OAP_15.out hb)
  clear OAP_15
  have OX_16 := Lib.hid (own_keepL OX_15.out hb)
  clear OX_15
  have OXB_16 := Lib.hid (OXB_15.out.below hb)
  clear OXB_15
  have OXP_16 := Lib.hid (own_keepL OXP_15.out hb)
  clear OXP_15
  have OC_16 := Lib.hid (own_keepL OC_15.out hb)
  clear OC_15
  have OCB_16 := Lib.hid (OCB_15.out.below hb)
  clear OCB_15
  have B_16 := Lib.hid (B_15.out.trans (hb.mono B_15.out.size))
  clear B_15
  have hs_16 := hb.size
  have OCP_16 := Lib.hid ho
  have SPCP : Hid (InSp w15.heap.size w16.heap.size vCP) := Lib.hid (fun k hk => OCP_16.out.lt k hk)
  clear hb
  clear ho
  go_wp2_with fail
  refine (PK.eq_all _ _ ps _ (PK.is_of_row OXP_16.out) (PK.is_of_row OCP_16.out) (by have := HL3.out; omega)).mono ?_
  rintro e w17 ⟨rfl, hb⟩
  have OA_17 := Lib.hid (own_keepL OA_16.out hb)
  clear OA_16
  have OAB_17 := Lib.hid (OAB_16.out.below hb)
  clear OAB_16
  have OAP_17 := Lib.hid (own_keepL OAP_16.out hb)
  clear OAP_16
  have OX_17 := Lib.hid (own_keepL OX_16.out hb)
  clear OX_16
  have OXB_17 := Lib.hid (OXB_16.out.below hb)
  clear OXB_16
  have OXP_17 := Lib.hid (own_keepL OXP_16.out hb)
  clear OXP_16
  have OC_17 := Lib.hid (own_keepL OC_16.out hb)
  clear OC_16
  have OCB_17 := Lib.hid (OCB_16.out.below hb)
  clear OCB_16
  have OCP_17 := Lib.hid (own_keepL OCP_16.out hb)
  clear OCP_16
  have B_17 := Lib.hid (B_16.out.trans (hb.mono B_16.out.size))
  clear B_16
  have hs_17 := hb.size
  clear hb
  go_wp2_with fail
  go_ret
  exact ⟨rfl, B_17.out⟩

end Go.Proofs.Ytmnncinpepeocaa
