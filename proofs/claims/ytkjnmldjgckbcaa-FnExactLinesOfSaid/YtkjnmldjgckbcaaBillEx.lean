/-
  The walks of the exact laws on bills of material.
-/
import Derived.Test.YtkjnmldjgckbcaaBillPar
import Derived.Test.YtkjnmldjgckbcaaBillLines
import Derived.Test.YtkjnmldjgckbcaaBuRec
import Derived.Test.YtkjnmldjgckbcaaIntsEq
import Derived.Test.YtkjnmldjgckbcaaIntsMark
import Derived.Test.YtkjnmldjgckbcaaStrsEq
import Derived.Test.YtkjnmldjgckbcaaBuA
import Derived.WalkKit
import Derived.WalkSpells
import Derived.WalkSmall
import Derived.Deep.DeepCutAuto
import Derived.Lib.Hide
namespace Go.Proofs.Ytkjnmldjgckbcaa
open Go.RowKit

theorem len_max {n : Nat} (h : n ≤ 1048576) : n ≤ maxLen := by unfold maxLen; omega
theorem BX.markI (base top : Nat) (v : Value) (x : Int) (k : Nat) (rs : List NR) (w : World) (hx : x = (k : Int)) (h : OwnN 6 5 3 35 111 (base) (top) w v rs) (hsm : ∀ j (hj : j < rs.length), (rs[j]'hj).n ≤ 1048577) (hn : rs.length ≤ 1048577) (hk0 : 0 < k) (hk1 : BX.pos k rs rs.length ≤ 1000000000) :
    Calls Try.prog 30 #[v, .int .i64 x] w fun e w' => ∃ rs', e = .returned (.int .i64 ((BX.pos k rs rs.length : Nat) : Int)) ∧ Hid (BX.IsMk k rs rs') ∧ Hid (OwnN 6 5 3 35 111 (base) (top) w' v rs') ∧ Hid (ChgIn base top w w') := by
  subst hx
  exact BX.markO base top v k rs w h hsm hn hk0 hk1
theorem BX.heldI (base top : Nat) (v : Value) (x : Int) (k : Nat) (rs rs' : List NR) (w : World) (hx : x = (k : Int)) (hmk : BX.IsMk k rs rs') (h : OwnN 6 5 3 35 111 (base) (top) w v rs') (hsm : ∀ j (hj : j < rs.length), (rs[j]'hj).n ≤ 1048577) (hn : rs.length ≤ 1048577) (hk0 : 0 < k) (hk1 : BX.pos k rs rs.length ≤ 1000000000) :
    Calls Try.prog 38 #[v, .int .i64 x] w fun e w' => e = .returned (.int .i64 ((BX.pos k rs rs.length : Nat) : Int)) ∧ Below w.heap.size w w' := by
  subst hx
  exact BX.heldO base top v k rs rs' w hmk h hsm hn hk0 hk1
theorem BX.RecN.sm {xs : List BL} {rs : List NR} (h : BX.RecN xs rs) (hm : BX.Sm xs) : rs.length ≤ 1048577 ∧ ∀ j (hj : j < rs.length), (rs[j]'hj).n ≤ 1048577 := by
  refine ⟨by have := hm.1; rw [h.1]; omega, fun j hj => ?_⟩
  have hx : j < xs.length := by rw [← h.1]; exact hj
  obtain ⟨u, hu⟩ := h.2 j hx hj
  rw [hu]
  have h1 : (xs[j]'hx).whn.length ≤ 1048576 := hm.2 _ (List.getElem_mem hx)
  show (xs[j]'hx).whn.length ≤ 1048577
  omega
theorem tot_filter (p : BL → Bool) : ∀ xs : List BL, BX.tot (xs.filter p) ≤ BX.tot xs
  | [] => Nat.le_refl _
  | x :: xs => by
    have h := tot_filter p xs
    rw [List.filter_cons]
    unfold BX.tot at h ⊢
    split
    · simp only [List.map_cons, List.sum_cons]; omega
    · simp only [List.map_cons, List.sum_cons]; omega
theorem linesR_sub {l : List IT} {xs : List BL} {par : ByteArray} {day : Int} {ps : List PK} (hm : BX.Sm xs) : BX.Sm (linesR l xs par day ps) ∧ BX.tot (linesR l xs par day ps) ≤ BX.tot xs ∧ (linesR l xs par day ps).length ≤ xs.length := by
  unfold linesR
  split
  · refine ⟨⟨Nat.le_trans (List.length_filter_le _ _) hm.1, fun x hx => hm.2 x (List.mem_filter.1 hx).1⟩, tot_filter _ _, List.length_filter_le _ _⟩
  · exact ⟨⟨Nat.zero_le _, fun x hx => by cases hx⟩, Nat.zero_le _, Nat.zero_le _⟩
theorem parentsR_len (l : List IT) (xs : List BL) (prt : ByteArray) (day : Int) (ps : List PK) : (parentsR l xs prt day ps).length ≤ l.length := by
  unfold parentsR
  split
  · rw [List.length_map]; exact List.length_filter_le _ _
  · exact Nat.zero_le _
theorem LevOut.len {l : List IT} {xs : List BL} {v : List Nat} (h : LevOut l xs v) : v.length ≤ l.length := by
  rcases h with ⟨_, h⟩ | ⟨_, rfl⟩
  · rw [h.1]; exact Nat.le_refl _
  · exact Nat.zero_le _
/-- Levels as numbers. -/
def lvI (v : List Nat) : List Int := v.map (fun n : Nat => ((n : Nat) : Int))
theorem lvI_row {w : World} {base : Nat} {v : Value} {vs : List Nat} (h : w.ownsRow base 3 1 v vs.length (cellsLv vs)) : w.ownsRow base 3 1 v vs.length ((lvI vs).map (Value.int .i64)) := by
  unfold lvI
  rw [← cellsLv_eq]; exact h
theorem lvI_len (vs : List Nat) : (lvI vs).length = vs.length := by simp [lvI]
theorem strs_rowN {w : World} {base e : Nat} {v : Value} {n : Nat} {ns : List ByteArray} (hn : n = ns.length) (h : w.ownsRow base e 1 v n (ns.map Value.string)) : Strs w v ns := by
  subst hn
  rcases h.2 with ⟨rfl, hx⟩ | ⟨g, cap, cur, rfl, hb, hg, hnc, hcm, hcs, htake⟩
  · exact Or.inl ⟨List.eq_nil_of_length_eq_zero hx, _, _, rfl⟩
  · by_cases h0 : ns = []
    · subst h0; exact Or.inl ⟨rfl, _, _, rfl⟩
    · refine Or.inr ⟨h0, g, 0, cap, rfl, hnc, (h.lt g rfl).2, fun j x hx => ?_⟩
      have hj : j < ns.length := (List.getElem?_eq_some_iff.1 hx).1
      rw [Nat.zero_add, h.cellAt j (by omega), List.getElem?_map, hx]
      rfl
theorem markT1 (base : Nat) (v : Value) (x : Int) (n : Nat) (xs : List Value) (w : World) (hx : x = 1) (hown : w.ownsRow base 9 1 v n xs) (hn : n ≤ 1048577) :
    Calls Try.prog 40 #[v, .int .i64 x] w (Marked base v 1 n w) := by
  subst hx
  exact mark_strs base v 1 n xs w hown hn (by decide) (by decide)
theorem heldT1 (base : Nat) (v : Value) (x : Int) (n : Nat) (w : World) (hx : x = 1) (hown : w.ownsRow base 9 1 v n (marksFrom 1 n)) (hn : n ≤ 1048577) :
    Calls Try.prog 41 #[v, .int .i64 x] w fun e w' => e = .returned (.int .i64 ((1 + n : Nat) : Int)) ∧ Below w.heap.size w w' := by
  subst hx
  exact held_strs base v 1 n w hown hn (by decide) (by decide)

set_option maxRecDepth 100000 in
set_option maxHeartbeats 8000000 in
theorem ex_IsBills (v : Value) (xs : List IT) (v2 : Value) (ls : List BL) (w : World) (h : IT.Is w v xs) (hm : xs.length ≤ maxLen) (hs : ∀ r, r ∈ xs → IT.Sz r) (h2 : BX 0 w.heap.size w v2 ls) (hs2 : BX.Sz ls) :
    Calls Try.prog 5 #[v, v2] w fun e w' => e = .returned (.bool true) ∧ Below w.heap.size w w' := by
  have HX := Lib.hid h
  have HS := Lib.hid hs
  have HY := Lib.hid h2
  have HS2 := Lib.hid hs2
  have HSZ := Lib.hid (IT.sz_all v xs 1048576 w h (by omega) (by omega) hm hs)
  obtain ⟨a1, c1, rfl⟩ := h.slice
  obtain ⟨a2, c2, rfl⟩ := h2.slice
  clear h hs hm h2 hs2
  go_enter Try.func5, Try.ntmps5
  go_wp2_with fail
  refine (HSZ.out).mono ?_
  rintro e w1 ⟨z, rfl, hz0, hz1, hz2, hb⟩
  have HZ2 := Lib.hid hz2
  clear hz2
  have B_1 := Lib.hid ((Lib.hid (Below.refl w.heap.size w)).out.trans (hb.mono (Lib.hid (Below.refl w.heap.size w)).out.size))
  have hs_1 := hb.size
  clear hb
  by_cases hzn : z < 0
  · go_wp2_with fail
    go_ret
    exact ⟨rfl, B_1.out⟩
  have HL : Hid (xs.length ≤ 1048576) := Lib.hid (by have := HZ2.out (by omega); omega)
  clear HZ2 HSZ
  go_wp2_with fail
  refine (BX.szT _ ls z 0 w.heap.size _ (HY.out.below BLN.kept B_1.out) (by omega) (by omega) HS2.out).mono ?_
  rintro e w2 ⟨z2, rfl, hy0, hy1, hy2, hb⟩
  have HZ3 := Lib.hid hy2
  clear hy2
  have B_2 := Lib.hid (B_1.out.trans (hb.mono B_1.out.size))
  clear B_1
  have hs_2 := hb.size
  clear hb
  by_cases hzm : z2 < 0
  · go_wp2_with fail
    go_ret
    exact ⟨rfl, B_2.out⟩
  have HSM := Lib.hid (HZ3.out (by omega)).1
  have HTOT : Hid (ls.length + BX.tot ls ≤ 1048576) := Lib.hid (by have := (HZ3.out (by omega)).2; omega)
  clear HZ3
  obtain ⟨y, hy⟩ : ∃ y, billsB xs ls = y := ⟨_, rfl⟩
  have HYY := Lib.hid hy
  clear hy
  have hnn : (y != y) = false := by simp
  go_wp2_with fail
  refine (IT.to_all _ xs _ (HX.out.below B_2.out) HL.out).mono ?_
  rintro e w3 ⟨vA, rfl, ho, hb⟩
  have B_3 := Lib.hid (B_2.out.trans (hb.mono B_2.out.size))
  clear B_2
  have hs_3 := hb.size
  have OA_3 := Lib.hid ho
  have SPA : Hid (InSp w2.heap.size w3.heap.size vA) := Lib.hid (fun k hk => OA_3.out.lt k hk)
  clear hb
  clear ho
  go_wp2_with fail
  refine (BX.toO _ ls 0 w.heap.size _ B_3.out.size (HY.out.below BLN.kept B_3.out) HSM.out).mono ?_
  rintro e w4 ⟨vAB, rfl, ho, hbh⟩
  have hb := hbh.out
  clear hbh
  have OA_4 := Lib.hid (own_keepL OA_3.out hb)
  clear OA_3
  have B_4 := Lib.hid (B_3.out.trans (hb.mono B_3.out.size))
  clear B_3
  have hs_4 := hb.size
  have OAB_4 := Lib.hid ho.out
  clear hb
  clear ho
  go_wp2_with fail
  refine (spec_bills _ _ xs ls _ _ _ (IT.is_of_row OA_4.out) OAB_4.out.sl (len_max HL.out) HS.out HS2.out).mono ?_
  rintro e w5 ⟨rfl, hb⟩
  rw [HYY.out]
  have OA_5 := Lib.hid (own_keepL OA_4.out hb)
  clear OA_4
  have OAB_5 := Lib.hid (OAB_4.out.below hb)
  clear OAB_4
  have B_5 := Lib.hid (B_4.out.trans (hb.mono B_4.out.size))
  clear B_4
  have hs_5 := hb.size
  clear hb
  go_wp2_with fail
  refine (IT.to_all _ xs _ (HX.out.below B_5.out) HL.out).mono ?_
  rintro e w6 ⟨vX, rfl, ho, hb⟩
  have OA_6 := Lib.hid (own_keepL OA_5.out hb)
  clear OA_5
  have OAB_6 := Lib.hid (OAB_5.out.below hb)
  clear OAB_5
  have B_6 := Lib.hid (B_5.out.trans (hb.mono B_5.out.size))
  clear B_5
  have hs_6 := hb.size
  have OX_6 := Lib.hid ho
  have SPX : Hid (InSp w5.heap.size w6.heap.size vX) := Lib.hid (fun k hk => OX_6.out.lt k hk)
  clear hb
  clear ho
  go_wp2_with fail
  refine (BX.toO _ ls 0 w.heap.size _ B_6.out.size (HY.out.below BLN.kept B_6.out) HSM.out).mono ?_
  rintro e w7 ⟨vXB, rfl, ho, hbh⟩
  have hb := hbh.out
  clear hbh
  have OA_7 := Lib.hid (own_keepL OA_6.out hb)
  clear OA_6
  have OAB_7 := Lib.hid (OAB_6.out.below hb)
  clear OAB_6
  have OX_7 := Lib.hid (own_keepL OX_6.out hb)
  clear OX_6
  have B_7 := Lib.hid (B_6.out.trans (hb.mono B_6.out.size))
  clear B_6
  have hs_7 := hb.size
  have OXB_7 := Lib.hid ho.out
  clear hb
  clear ho
  go_wp2_with fail
  refine (im_bills _ _ xs ls _ _ _ (IT.is_of_row OX_7.out) OXB_7.out.sl (len_max HL.out) HS.out HS2.out).mono ?_
  rintro e w8 ⟨rfl, hb⟩
  rw [HYY.out]
  have OA_8 := Lib.hid (own_keepL OA_7.out hb)
  clear OA_7
  have OAB_8 := Lib.hid (OAB_7.out.below hb)
  clear OAB_7
  have OX_8 := Lib.hid (own_keepL OX_7.out hb)
  clear OX_7
  have OXB_8 := Lib.hid (OXB_7.out.below hb)
  clear OXB_7
  have B_8 := Lib.hid (B_7.out.trans (hb.mono B_7.out.size))
  clear B_7
  have hs_8 := hb.size
  clear hb
  go_wp2_with fail
  refine (IT.to_all _ xs _ (HX.out.below B_8.out) HL.out).mono ?_
  rintro e w9 ⟨vC, rfl, ho, hb⟩
  have OA_9 := Lib.hid (own_keepL OA_8.out hb)
  clear OA_8
  have OAB_9 := Lib.hid (OAB_8.out.below hb)
  clear OAB_8
  have OX_9 := Lib.hid (own_keepL OX_8.out hb)
  clear OX_8
  have OXB_9 := Lib.hid (OXB_8.out.below hb)
  clear OXB_8
  have B_9 := Lib.hid (B_8.out.trans (hb.mono B_8.out.size))
  clear B_8
  have hs_9 := hb.size
  have OC_9 := Lib.hid ho
  have SPC : Hid (InSp w8.heap.size w9.heap.size vC) := Lib.hid (fun k hk => OC_9.out.lt k hk)
  clear hb
  clear ho
  go_wp2_with fail
  refine (IT.eq_all _ _ xs _ (IT.is_of_row OX_9.out) (IT.is_of_row OC_9.out) (by have := HL.out; omega)).mono ?_
  rintro e w10 ⟨rfl, hb⟩
  have OA_10 := Lib.hid (own_keepL OA_9.out hb)
  clear OA_9
  have OAB_10 := Lib.hid (OAB_9.out.below hb)
  clear OAB_9
  have OX_10 := Lib.hid (own_keepL OX_9.out hb)
  clear OX_9
  have OXB_10 := Lib.hid (OXB_9.out.below hb)
  clear OXB_9
  have OC_10 := Lib.hid (own_keepL OC_9.out hb)
  clear OC_9
  have B_10 := Lib.hid (B_9.out.trans (hb.mono B_9.out.size))
  clear B_9
  have hs_10 := hb.size
  clear hb
  go_wp2_with fail
  refine (BX.toO _ ls 0 w.heap.size _ B_10.out.size (HY.out.below BLN.kept B_10.out) HSM.out).mono ?_
  rintro e w11 ⟨vCB, rfl, ho, hbh⟩
  have hb := hbh.out
  clear hbh
  have OA_11 := Lib.hid (own_keepL OA_10.out hb)
  clear OA_10
  have OAB_11 := Lib.hid (OAB_10.out.below hb)
  clear OAB_10
  have OX_11 := Lib.hid (own_keepL OX_10.out hb)
  clear OX_10
  have OXB_11 := Lib.hid (OXB_10.out.below hb)
  clear OXB_10
  have OC_11 := Lib.hid (own_keepL OC_10.out hb)
  clear OC_10
  have B_11 := Lib.hid (B_10.out.trans (hb.mono B_10.out.size))
  clear B_10
  have hs_11 := hb.size
  have OCB_11 := Lib.hid ho.out
  clear hb
  clear ho
  go_wp2_with fail
  refine (BX.eq _ _ ls _ _ _ _ _ OXB_11.out.sl OCB_11.out.sl HSM.out).mono ?_
  rintro e w12 ⟨rfl, hb⟩
  have OA_12 := Lib.hid (own_keepL OA_11.out hb)
  clear OA_11
  have OAB_12 := Lib.hid (OAB_11.out.below hb)
  clear OAB_11
  have OX_12 := Lib.hid (own_keepL OX_11.out hb)
  clear OX_11
  have OXB_12 := Lib.hid (OXB_11.out.below hb)
  clear OXB_11
  have OC_12 := Lib.hid (own_keepL OC_11.out hb)
  clear OC_11
  have OCB_12 := Lib.hid (OCB_11.out.below hb)
  clear OCB_11
  have B_12 := Lib.hid (B_11.out.trans (hb.mono B_11.out.size))
  clear B_11
  have hs_12 := hb.size
  clear hb
  go_wp2_with fail
  go_ret
  exact ⟨rfl, B_12.out⟩

set_option maxRecDepth 100000 in
set_option maxHeartbeats 8000000 in
theorem ex_LevelsOf (v : Value) (xs : List IT) (v2 : Value) (ls : List BL) (w : World) (h : IT.Is w v xs) (hm : xs.length ≤ maxLen) (hs : ∀ r, r ∈ xs → IT.Sz r) (h2 : BX 0 w.heap.size w v2 ls) (hs2 : BX.Sz ls) :
    Calls Try.prog 6 #[v, v2] w fun e w' => e = .returned (.bool true) ∧ Below w.heap.size w w' := by
  have HX := Lib.hid h
  have HS := Lib.hid hs
  have HY := Lib.hid h2
  have HS2 := Lib.hid hs2
  have HSZ := Lib.hid (IT.sz_all v xs 1048576 w h (by omega) (by omega) hm hs)
  obtain ⟨a1, c1, rfl⟩ := h.slice
  obtain ⟨a2, c2, rfl⟩ := h2.slice
  clear h hs hm h2 hs2
  go_enter Try.func6, Try.ntmps6
  go_wp2_with fail
  refine (HSZ.out).mono ?_
  rintro e w1 ⟨z, rfl, hz0, hz1, hz2, hb⟩
  have HZ2 := Lib.hid hz2
  clear hz2
  have B_1 := Lib.hid ((Lib.hid (Below.refl w.heap.size w)).out.trans (hb.mono (Lib.hid (Below.refl w.heap.size w)).out.size))
  have hs_1 := hb.size
  clear hb
  by_cases hzn : z < 0
  · go_wp2_with fail
    go_ret
    exact ⟨rfl, B_1.out⟩
  have HL : Hid (xs.length ≤ 1048576) := Lib.hid (by have := HZ2.out (by omega); omega)
  clear HZ2 HSZ
  go_wp2_with fail
  refine (BX.szT _ ls z 0 w.heap.size _ (HY.out.below BLN.kept B_1.out) (by omega) (by omega) HS2.out).mono ?_
  rintro e w2 ⟨z2, rfl, hy0, hy1, hy2, hb⟩
  have HZ3 := Lib.hid hy2
  clear hy2
  have B_2 := Lib.hid (B_1.out.trans (hb.mono B_1.out.size))
  clear B_1
  have hs_2 := hb.size
  clear hb
  by_cases hzm : z2 < 0
  · go_wp2_with fail
    go_ret
    exact ⟨rfl, B_2.out⟩
  have HSM := Lib.hid (HZ3.out (by omega)).1
  have HTOT : Hid (ls.length + BX.tot ls ≤ 1048576) := Lib.hid (by have := (HZ3.out (by omega)).2; omega)
  clear HZ3
  go_wp2_with fail
  refine (IT.to_all _ xs _ (HX.out.below B_2.out) HL.out).mono ?_
  rintro e w3 ⟨vA, rfl, ho, hb⟩
  have B_3 := Lib.hid (B_2.out.trans (hb.mono B_2.out.size))
  clear B_2
  have hs_3 := hb.size
  have OA_3 := Lib.hid ho
  have SPA : Hid (InSp w2.heap.size w3.heap.size vA) := Lib.hid (fun k hk => OA_3.out.lt k hk)
  clear hb
  clear ho
  go_wp2_with fail
  refine (BX.toO _ ls 0 w.heap.size _ B_3.out.size (HY.out.below BLN.kept B_3.out) HSM.out).mono ?_
  rintro e w4 ⟨vAB, rfl, ho, hbh⟩
  have hb := hbh.out
  clear hbh
  have OA_4 := Lib.hid (own_keepL OA_3.out hb)
  clear OA_3
  have B_4 := Lib.hid (B_3.out.trans (hb.mono B_3.out.size))
  clear B_3
  have hs_4 := hb.size
  have OAB_4 := Lib.hid ho.out
  clear hb
  clear ho
  go_wp2_with fail
  refine (spec_levelsOf _ _ xs ls _ _ _ (IT.is_of_row OA_4.out) OAB_4.out.sl (len_max HL.out) HS.out HS2.out).mono ?_
  rintro e w5 ⟨vS, lv, rfl, hl, ho, hbh⟩
  have hb := hbh.out
  clear hbh
  have HLV := hl
  clear hl
  have HLN : Hid (lv.length ≤ 1048576) := Lib.hid (by have h1 := HLV.out.len; have h2 := HL.out; omega)
  have OA_5 := Lib.hid (own_keepL OA_4.out hb)
  clear OA_4
  have OAB_5 := Lib.hid (OAB_4.out.below hb)
  clear OAB_4
  have B_5 := Lib.hid (B_4.out.trans (hb.mono B_4.out.size))
  clear B_4
  have hs_5 := hb.size
  have OS_5 := Lib.hid (lvI_row ho.out)
  have SPS : Hid (InSp w4.heap.size w5.heap.size vS) := Lib.hid (fun k hk => OS_5.out.lt k hk)
  clear hb
  clear ho
  go_wp2_with fail
  refine (IT.to_all _ xs _ (HX.out.below B_5.out) HL.out).mono ?_
  rintro e w6 ⟨vX, rfl, ho, hb⟩
  have OA_6 := Lib.hid (own_keepL OA_5.out hb)
  clear OA_5
  have OAB_6 := Lib.hid (OAB_5.out.below hb)
  clear OAB_5
  have OS_6 := Lib.hid (own_keepL OS_5.out hb)
  clear OS_5
  have B_6 := Lib.hid (B_5.out.trans (hb.mono B_5.out.size))
  clear B_5
  have hs_6 := hb.size
  have OX_6 := Lib.hid ho
  have SPX : Hid (InSp w5.heap.size w6.heap.size vX) := Lib.hid (fun k hk => OX_6.out.lt k hk)
  clear hb
  clear ho
  go_wp2_with fail
  refine (BX.toO _ ls 0 w.heap.size _ B_6.out.size (HY.out.below BLN.kept B_6.out) HSM.out).mono ?_
  rintro e w7 ⟨vXB, rfl, ho, hbh⟩
  have hb := hbh.out
  clear hbh
  have OA_7 := Lib.hid (own_keepL OA_6.out hb)
  clear OA_6
  have OAB_7 := Lib.hid (OAB_6.out.below hb)
  clear OAB_6
  have OS_7 := Lib.hid (own_keepL OS_6.out hb)
  clear OS_6
  have OX_7 := Lib.hid (own_keepL OX_6.out hb)
  clear OX_6
  have B_7 := Lib.hid (B_6.out.trans (hb.mono B_6.out.size))
  clear B_6
  have hs_7 := hb.size
  have OXB_7 := Lib.hid ho.out
  clear hb
  clear ho
  go_wp2_with fail
  refine (im_levelsOf _ _ xs ls _ _ _ (IT.is_of_row OX_7.out) OXB_7.out.sl (len_max HL.out) HS.out HS2.out).mono ?_
  rintro e w8 ⟨vG, lv2, rfl, hl, ho, hbh⟩
  have hb := hbh.out
  clear hbh
  obtain rfl := HLV.out.eq hl.out
  clear hl
  have OA_8 := Lib.hid (own_keepL OA_7.out hb)
  clear OA_7
  have OAB_8 := Lib.hid (OAB_7.out.below hb)
  clear OAB_7
  have OS_8 := Lib.hid (own_keepL OS_7.out hb)
  clear OS_7
  have OX_8 := Lib.hid (own_keepL OX_7.out hb)
  clear OX_7
  have OXB_8 := Lib.hid (OXB_7.out.below hb)
  clear OXB_7
  have B_8 := Lib.hid (B_7.out.trans (hb.mono B_7.out.size))
  clear B_7
  have hs_8 := hb.size
  have OG_8 := Lib.hid (lvI_row ho.out)
  have SPG : Hid (InSp w7.heap.size w8.heap.size vG) := Lib.hid (fun k hk => OG_8.out.lt k hk)
  clear hb
  clear ho
  go_wp2_with fail
  refine (eq_ints _ _ (lvI lv) _ (ints_of_row (lvI_len lv).symm OG_8.out) (ints_of_row (lvI_len lv).symm OS_8.out) (by rw [lvI_len]; have := HLN.out; omega)).mono ?_
  rintro e w9 ⟨rfl, hb⟩
  have OA_9 := Lib.hid (own_keepL OA_8.out hb)
  clear OA_8
  have OAB_9 := Lib.hid (OAB_8.out.below hb)
  clear OAB_8
  have OS_9 := Lib.hid (own_keepL OS_8.out hb)
  clear OS_8
  have OX_9 := Lib.hid (own_keepL OX_8.out hb)
  clear OX_8
  have OXB_9 := Lib.hid (OXB_8.out.below hb)
  clear OXB_8
  have OG_9 := Lib.hid (own_keepL OG_8.out hb)
  clear OG_8
  have B_9 := Lib.hid (B_8.out.trans (hb.mono B_8.out.size))
  clear B_8
  have hs_9 := hb.size
  clear hb
  go_wp2_with fail
  refine (IT.to_all _ xs _ (HX.out.below B_9.out) HL.out).mono ?_
  rintro e w10 ⟨vC, rfl, ho, hb⟩
  have OA_10 := Lib.hid (own_keepL OA_9.out hb)
  clear OA_9
  have OAB_10 := Lib.hid (OAB_9.out.below hb)
  clear OAB_9
  have OS_10 := Lib.hid (own_keepL OS_9.out hb)
  clear OS_9
  have OX_10 := Lib.hid (own_keepL OX_9.out hb)
  clear OX_9
  have OXB_10 := Lib.hid (OXB_9.out.below hb)
  clear OXB_9
  have OG_10 := Lib.hid (own_keepL OG_9.out hb)
  clear OG_9
  have B_10 := Lib.hid (B_9.out.trans (hb.mono B_9.out.size))
  clear B_9
  have hs_10 := hb.size
  have OC_10 := Lib.hid ho
  have SPC : Hid (InSp w9.heap.size w10.heap.size vC) := Lib.hid (fun k hk => OC_10.out.lt k hk)
  clear hb
  clear ho
  go_wp2_with fail
  refine (IT.eq_all _ _ xs _ (IT.is_of_row OX_10.out) (IT.is_of_row OC_10.out) (by have := HL.out; omega)).mono ?_
  rintro e w11 ⟨rfl, hb⟩
  have OA_11 := Lib.hid (own_keepL OA_10.out hb)
  clear OA_10
  have OAB_11 := Lib.hid (OAB_10.out.below hb)
  clear OAB_10
  have OS_11 := Lib.hid (own_keepL OS_10.out hb)
  clear OS_10
  have OX_11 := Lib.hid (own_keepL OX_10.out hb)
  clear OX_10
  have OXB_11 := Lib.hid (OXB_10.out.below hb)
  clear OXB_10
  have OG_11 := Lib.hid (own_keepL OG_10.out hb)
  clear OG_10
  have OC_11 := Lib.hid (own_keepL OC_10.out hb)
  clear OC_10
  have B_11 := Lib.hid (B_10.out.trans (hb.mono B_10.out.size))
  clear B_10
  have hs_11 := hb.size
  clear hb
  go_wp2_with fail
  refine (BX.toO _ ls 0 w.heap.size _ B_11.out.size (HY.out.below BLN.kept B_11.out) HSM.out).mono ?_
  rintro e w12 ⟨vCB, rfl, ho, hbh⟩
  have hb := hbh.out
  clear hbh
  have OA_12 := Lib.hid (own_keepL OA_11.out hb)
  clear OA_11
  have OAB_12 := Lib.hid (OAB_11.out.below hb)
  clear OAB_11
  have OS_12 := Lib.hid (own_keepL OS_11.out hb)
  clear OS_11
  have OX_12 := Lib.hid (own_keepL OX_11.out hb)
  clear OX_11
  have OXB_12 := Lib.hid (OXB_11.out.below hb)
  clear OXB_11
  have OG_12 := Lib.hid (own_keepL OG_11.out hb)
  clear OG_11
  have OC_12 := Lib.hid (own_keepL OC_11.out hb)
  clear OC_11
  have B_12 := Lib.hid (B_11.out.trans (hb.mono B_11.out.size))
  clear B_11
  have hs_12 := hb.size
  have OCB_12 := Lib.hid ho.out
  clear hb
  clear ho
  go_wp2_with fail
  refine (BX.eq _ _ ls _ _ _ _ _ OXB_12.out.sl OCB_12.out.sl HSM.out).mono ?_
  rintro e w13 ⟨rfl, hb⟩
  have OA_13 := Lib.hid (own_keepL OA_12.out hb)
  clear OA_12
  have OAB_13 := Lib.hid (OAB_12.out.below hb)
  clear OAB_12
  have OS_13 := Lib.hid (own_keepL OS_12.out hb)
  clear OS_12
  have OX_13 := Lib.hid (own_keepL OX_12.out hb)
  clear OX_12
  have OXB_13 := Lib.hid (OXB_12.out.below hb)
  clear OXB_12
  have OG_13 := Lib.hid (own_keepL OG_12.out hb)
  clear OG_12
  have OC_13 := Lib.hid (own_keepL OC_12.out hb)
  clear OC_12
  have OCB_13 := Lib.hid (OCB_12.out.below hb)
  clear OCB_12
  have B_13 := Lib.hid (B_12.out.trans (hb.mono B_12.out.size))
  clear B_12
  have hs_13 := hb.size
  clear hb
  obtain ⟨K1, hK1⟩ : ∃ K, 1 + 8 * xs.length = K := ⟨_, rfl⟩
  have hk1b : 0 < K1 ∧ K1 ≤ 8388609 := by have := HL.out; omega
  have HK1 := Lib.hid hK1
  go_wp2_with fail
  refine (IT.mark1 _ _ _ xs.length _ _ rfl OX_13.out (by have := HL.out; omega)).mono ?_
  rintro e w14 ⟨rfl, ho, hg⟩
  rw [hK1]
  clear hK1
  have OX_14 := Lib.hid ho
  clear OX_13
  have HC := Lib.hid (ChgIn.of_grown hg SPX.out)
  clear ho hg
  have OA_14 := Lib.hid (HC.out.row OA_13.out (fun b hb2 => by have h1 := SPA.out b hb2; omega))
  clear OA_13
  have OAB_14 := Lib.hid (OAB_13.out.far HC.out (by omega))
  clear OAB_13
  have OS_14 := Lib.hid (HC.out.row OS_13.out (fun b hb2 => by have h1 := SPS.out b hb2; omega))
  clear OS_13
  have OXB_14 := Lib.hid (OXB_13.out.far HC.out (by omega))
  clear OXB_13
  have OG_14 := Lib.hid (HC.out.row OG_13.out (fun b hb2 => by have h1 := SPG.out b hb2; omega))
  clear OG_13
  have OC_14 := Lib.hid (HC.out.row OC_13.out (fun b hb2 => by have h1 := SPC.out b hb2; omega))
  clear OC_13
  have OCB_14 := Lib.hid (OCB_13.out.far HC.out (by omega))
  clear OCB_13
  have B_14 := Lib.hid (HC.out.below B_13.out (by omega))
  clear B_13
  have hs_14 := HC.out.size
  clear HC
  obtain ⟨rsXB, hrecXB, hownXB⟩ := OXB_14.out
  have HRECXB := Lib.hid hrecXB
  have OXB_14r := Lib.hid hownXB
  clear hrecXB hownXB OXB_14
  have HSX := Lib.hid (HRECXB.out.sm HSM.out)
  obtain ⟨K2, hK2⟩ : ∃ K, BX.pos K1 rsXB rsXB.length = K := ⟨_, rfl⟩
  have HK2 := Lib.hid hK2
  have hk2b : 0 < K2 ∧ K2 ≤ 20000000 := by have h1 := BX.pos_tot HRECXB.out K1; have h2 := HTOT.out; rw [hK2] at h1; omega
  go_wp2_with fail
  refine (BX.markI _ _ _ _ K1 rsXB _ (by omega) OXB_14r.out HSX.out.2 HSX.out.1 (by omega) (by rw [hK2]; omega)).mono ?_
  rintro e w15 ⟨rmXB, rfl, HMKXB, ho, HC⟩
  rw [hK2]
  clear hK2
  have OXB_15 := ho
  clear ho OXB_14r
  have OA_15 := Lib.hid (HC.out.row OA_14.out (fun b hb2 => by have h1 := SPA.out b hb2; omega))
  clear OA_14
  have OAB_15 := Lib.hid (OAB_14.out.far HC.out (by omega))
  clear OAB_14
  have OS_15 := Lib.hid (HC.out.row OS_14.out (fun b hb2 => by have h1 := SPS.out b hb2; omega))
  clear OS_14
  have OX_15 := Lib.hid (HC.out.row OX_14.out (fun b hb2 => by have h1 := SPX.out b hb2; omega))
  clear OX_14
  have OG_15 := Lib.hid (HC.out.row OG_14.out (fun b hb2 => by have h1 := SPG.out b hb2; omega))
  clear OG_14
  have OC_15 := Lib.hid (HC.out.row OC_14.out (fun b hb2 => by have h1 := SPC.out b hb2; omega))
  clear OC_14
  have OCB_15 := Lib.hid (OCB_14.out.far HC.out (by omega))
  clear OCB_14
  have B_15 := Lib.hid (HC.out.below B_14.out (by omega))
  clear B_14
  have hs_15 := HC.out.size
  clear HC
  have hkn : decide ((K2 : Int) < 0) = false := decide_eq_false (by omega)
  go_wp2_with fail
  refine (eq_ints _ _ (lvI lv) _ (ints_of_row (lvI_len lv).symm OG_15.out) (ints_of_row (lvI_len lv).symm OS_15.out) (by rw [lvI_len]; have := HLN.out; omega)).mono ?_
  rintro e w16 ⟨rfl, hb⟩
  have OA_16 := Lib.hid (own_keepL OA_15.out hb)
  clear OA_15
  have OAB_16 := Lib.hid (OAB_15.out.below hb)
  clear OAB_15
  have OS_16 := Lib.hid (own_keepL OS_15.out hb)
  clear OS_15
  have OX_16 := Lib.hid (own_keepL OX_15.out hb)
  clear OX_15
  have OXB_16 := Lib.hid (OXB_15.out.below hb)
  clear OXB_15
  have OG_16 := Lib.hid (own_keepL OG_15.out hb)
  clear OG_15
  have OC_16 := Lib.hid (own_keepL OC_15.out hb)
  clear OC_15
  have OCB_16 := Lib.hid (OCB_15.out.below hb)
  clear OCB_15
  have B_16 := Lib.hid (B_15.out.trans (hb.mono B_15.out.size))
  clear B_15
  have hs_16 := hb.size
  clear hb
  go_wp2_with fail
  refine (mark_one _ _ _ lv.length _ _ rfl OG_16.out (by have := HLN.out; omega)).mono ?_
  rintro e w17 ⟨rfl, ho, hg⟩
  have OG_17 := Lib.hid ho
  clear OG_16
  have HC := Lib.hid (ChgIn.of_grown hg SPG.out)
  clear ho hg
  have OA_17 := Lib.hid (HC.out.row OA_16.out (fun b hb2 => by have h1 := SPA.out b hb2; omega))
  clear OA_16
  have OAB_17 := Lib.hid (OAB_16.out.far HC.out (by omega))
  clear OAB_16
  have OS_17 := Lib.hid (HC.out.row OS_16.out (fun b hb2 => by have h1 := SPS.out b hb2; omega))
  clear OS_16
  have OX_17 := Lib.hid (HC.out.row OX_16.out (fun b hb2 => by have h1 := SPX.out b hb2; omega))
  clear OX_16
  have OXB_17 := Lib.hid (OXB_16.out.far HC.out (by omega))
  clear OXB_16
  have OC_17 := Lib.hid (HC.out.row OC_16.out (fun b hb2 => by have h1 := SPC.out b hb2; omega))
  clear OC_16
  have OCB_17 := Lib.hid (OCB_16.out.far HC.out (by omega))
  clear OCB_16
  have B_17 := Lib.hid (HC.out.below B_16.out (by omega))
  clear B_16
  have hs_17 := HC.out.size
  clear HC
  have hqq : ((1 + (lv.length : Int)) != 1 + (lv.length : Int)) = false := by simp
  have hqn : decide (1 + (lv.length : Int) < 0) = false := decide_eq_false (by omega)
  go_wp2_with fail
  refine (held_one _ _ _ lv.length _ rfl OG_17.out (by have := HLN.out; omega)).mono ?_
  rintro e w18 ⟨rfl, hb⟩
  have OA_18 := Lib.hid (own_keepL OA_17.out hb)
  clear OA_17
  have OAB_18 := Lib.hid (OAB_17.out.below hb)
  clear OAB_17
  have OS_18 := Lib.hid (own_keepL OS_17.out hb)
  clear OS_17
  have OX_18 := Lib.hid (own_keepL OX_17.out hb)
  clear OX_17
  have OXB_18 := Lib.hid (OXB_17.out.below hb)
  clear OXB_17
  have OG_18 := Lib.hid (own_keepL OG_17.out hb)
  clear OG_17
  have OC_18 := Lib.hid (own_keepL OC_17.out hb)
  clear OC_17
  have OCB_18 := Lib.hid (OCB_17.out.below hb)
  clear OCB_17
  have B_18 := Lib.hid (B_17.out.trans (hb.mono B_17.out.size))
  clear B_17
  have hs_18 := hb.size
  clear hb
  go_wp2_with fail
  refine (IT.to_all _ xs _ (HX.out.below B_18.out) HL.out).mono ?_
  rintro e w19 ⟨vE, rfl, ho, hb⟩
  have OA_19 := Lib.hid (own_keepL OA_18.out hb)
  clear OA_18
  have OAB_19 := Lib.hid (OAB_18.out.below hb)
  clear OAB_18
  have OS_19 := Lib.hid (own_keepL OS_18.out hb)
  clear OS_18
  have OX_19 := Lib.hid (own_keepL OX_18.out hb)
  clear OX_18
  have OXB_19 := Lib.hid (OXB_18.out.below hb)
  clear OXB_18
  have OG_19 := Lib.hid (own_keepL OG_18.out hb)
  clear OG_18
  have OC_19 := Lib.hid (own_keepL OC_18.out hb)
  clear OC_18
  have OCB_19 := Lib.hid (OCB_18.out.below hb)
  clear OCB_18
  have B_19 := Lib.hid (B_18.out.trans (hb.mono B_18.out.size))
  clear B_18
  have hs_19 := hb.size
  have OE_19 := Lib.hid ho
  have SPE : Hid (InSp w18.heap.size w19.heap.size vE) := Lib.hid (fun k hk => OE_19.out.lt k hk)
  clear hb
  clear ho
  go_wp2_with fail
  refine (BX.toO _ ls 0 w.heap.size _ B_19.out.size (HY.out.below BLN.kept B_19.out) HSM.out).mono ?_
  rintro e w20 ⟨vEB, rfl, ho, hbh⟩
  have hb := hbh.out
  clear hbh
  have OA_20 := Lib.hid (own_keepL OA_19.out hb)
  clear OA_19
  have OAB_20 := Lib.hid (OAB_19.out.below hb)
  clear OAB_19
  have OS_20 := Lib.hid (own_keepL OS_19.out hb)
  clear OS_19
  have OX_20 := Lib.hid (own_keepL OX_19.out hb)
  clear OX_19
  have OXB_20 := Lib.hid (OXB_19.out.below hb)
  clear OXB_19
  have OG_20 := Lib.hid (own_keepL OG_19.out hb)
  clear OG_19
  have OC_20 := Lib.hid (own_keepL OC_19.out hb)
  clear OC_19
  have OCB_20 := Lib.hid (OCB_19.out.below hb)
  clear OCB_19
  have OE_20 := Lib.hid (own_keepL OE_19.out hb)
  clear OE_19
  have B_20 := Lib.hid (B_19.out.trans (hb.mono B_19.out.size))
  clear B_19
  have hs_20 := hb.size
  have OEB_20 := Lib.hid ho.out
  clear hb
  clear ho
  go_wp2_with fail
  refine (im_levelsOf _ _ xs ls _ _ _ (IT.is_of_row OE_20.out) OEB_20.out.sl (len_max HL.out) HS.out HS2.out).mono ?_
  rintro e w21 ⟨vH, lv2, rfl, hl, ho, hbh⟩
  have hb := hbh.out
  clear hbh
  obtain rfl := HLV.out.eq hl.out
  clear hl
  have OA_21 := Lib.hid (own_keepL OA_20.out hb)
  clear OA_20
  have OAB_21 := Lib.hid (OAB_20.out.below hb)
  clear OAB_20
  have OS_21 := Lib.hid (own_keepL OS_20.out hb)
  clear OS_20
  have OX_21 := Lib.hid (own_keepL OX_20.out hb)
  clear OX_20
  have OXB_21 := Lib.hid (OXB_20.out.below hb)
  clear OXB_20
  have OG_21 := Lib.hid (own_keepL OG_20.out hb)
  clear OG_20
  have OC_21 := Lib.hid (own_keepL OC_20.out hb)
  clear OC_20
  have OCB_21 := Lib.hid (OCB_20.out.below hb)
  clear OCB_20
  have OE_21 := Lib.hid (own_keepL OE_20.out hb)
  clear OE_20
  have OEB_21 := Lib.hid (OEB_20.out.below hb)
  clear OEB_20
  have B_21 := Lib.hid (B_20.out.trans (hb.mono B_20.out.size))
  clear B_20
  have hs_21 := hb.size
  have OH_21 := Lib.hid (lvI_row ho.out)
  have SPH : Hid (InSp w20.heap.size w21.heap.size vH) := Lib.hid (fun k hk => OH_21.out.lt k hk)
  clear hb
  clear ho
  go_wp2_with fail
  refine (eq_ints _ _ (lvI lv) _ (ints_of_row (lvI_len lv).symm OH_21.out) (ints_of_row (lvI_len lv).symm OS_21.out) (by rw [lvI_len]; have := HLN.out; omega)).mono ?_
  rintro e w22 ⟨rfl, hb⟩
  have OA_22 := Lib.hid (own_keepL OA_21.out hb)
  clear OA_21
  have OAB_22 := Lib.hid (OAB_21.out.below hb)
  clear OAB_21
  have OS_22 := Lib.hid (own_keepL OS_21.out hb)
  clear OS_21
  have OX_22 := Lib.hid (own_keepL OX_21.out hb)
  clear OX_21
  have OXB_22 := Lib.hid (OXB_21.out.below hb)
  clear OXB_21
  have OG_22 := Lib.hid (own_keepL OG_21.out hb)
  clear OG_21
  have OC_22 := Lib.hid (own_keepL OC_21.out hb)
  clear OC_21
  have OCB_22 := Lib.hid (OCB_21.out.below hb)
  clear OCB_21
  have OE_22 := Lib.hid (own_keepL OE_21.out hb)
  clear OE_21
  have OEB_22 := Lib.hid (OEB_21.out.below hb)
  clear OEB_21
  have OH_22 := Lib.hid (own_keepL OH_21.out hb)
  clear OH_21
  have B_22 := Lib.hid (B_21.out.trans (hb.mono B_21.out.size))
  clear B_21
  have hs_22 := hb.size
  clear hb
  go_wp2_with fail
  refine (held_one _ _ _ lv.length _ rfl OG_22.out (by have := HLN.out; omega)).mono ?_
  rintro e w23 ⟨rfl, hb⟩
  have OA_23 := Lib.hid (own_keepL OA_22.out hb)
  clear OA_22
  have OAB_23 := Lib.hid (OAB_22.out.below hb)
  clear OAB_22
  have OS_23 := Lib.hid (own_keepL OS_22.out hb)
  clear OS_22
  have OX_23 := Lib.hid (own_keepL OX_22.out hb)
  clear OX_22
  have OXB_23 := Lib.hid (OXB_22.out.below hb)
  clear OXB_22
  have OG_23 := Lib.hid (own_keepL OG_22.out hb)
  clear OG_22
  have OC_23 := Lib.hid (own_keepL OC_22.out hb)
  clear OC_22
  have OCB_23 := Lib.hid (OCB_22.out.below hb)
  clear OCB_22
  have OE_23 := Lib.hid (own_keepL OE_22.out hb)
  clear OE_22
  have OEB_23 := Lib.hid (OEB_22.out.below hb)
  clear OEB_22
  have OH_23 := Lib.hid (own_keepL OH_22.out hb)
  clear OH_22
  have B_23 := Lib.hid (B_22.out.trans (hb.mono B_22.out.size))
  clear B_22
  have hs_23 := hb.size
  clear hb
  go_wp2_with fail
  go_ret
  exact ⟨rfl, B_23.out⟩

end Go.Proofs.Ytkjnmldjgckbcaa
