/-
  The walk of the exact law of IsChange, given what the program owes.
-/
import Derived.Test.YtdhldokpojghdaaChgExP
import Derived.Test.YtdhldokpojghdaaSpecIsChg
import Derived.WalkKit
import Derived.WalkSpells
import Derived.WalkSmall
import Derived.Deep.DeepCutAuto
import Derived.Deep.RegionHeld3
import Derived.Lib.Hide
namespace Go.Proofs.Ytdhldokpojghdaa
open Go.RowKit

set_option maxRecDepth 100000 in
set_option maxHeartbeats 8000000 in
theorem ex_IsChange (v : Value) (xs : List IT) (x0 : CH) (w : World) (h : IT.Is w v xs) (hm : xs.length ≤ maxLen) (hs : ∀ r, r ∈ xs → IT.Sz r) (hsx : CH.Sz x0) (him : ImplIsChange) :
    Calls Try.prog 6 #[v, CH.val x0] w fun e w' => e = .returned (.bool true) ∧ Below w.heap.size w w' := by
  have HIM := Lib.hid him
  clear him
  have HX := Lib.hid h
  have HS := Lib.hid hs
  have HM := Lib.hid hm
  obtain ⟨a1, c1, rfl⟩ := h.slice
  have HSX := Lib.hid hsx
  obtain ⟨dy, pa, ou, inn, qy⟩ := x0
  unfold CH.val
  clear h hs hm hsx
  have HB_0 : Hid (Below w.heap.size w (w.alloc (.cells #[.int .i64 dy, .string pa, .string ou, .string inn, .int .i64 qy] 47))) := Lib.hid ((Below.refl _ _).alloc (Nat.le_refl _) _)
  have HBX_0 := Lib.hid (heap_alloc_new w (.cells #[.int .i64 dy, .string pa, .string ou, .string inn, .int .i64 qy] 47))
  go_enter Try.func6, Try.ntmps6
  go_upto_region 1 with fail
  generalize w.alloc (.cells #[.int .i64 dy, .string pa, .string ou, .string inn, .int .i64 qy] 47) = wb at *
  have hs_0 : w.heap.size < wb.heap.size := lt_of_heap HBX_0.out
  go_wp2_with fail
  refine (IT.sz_all _ xs 1048576 _ (HX.out.below HB_0.out) (by omega) (by omega) HM.out HS.out).mono ?_
  rintro e w1 ⟨z, rfl, hz0, hz1, hz2, hb⟩
  have HZ2 := Lib.hid hz2
  clear hz2
  have HBX_1 := Lib.hid (blk_below HBX_0.out hb)
  clear HBX_0
  have B_1 := Lib.hid (HB_0.out.trans (hb.mono HB_0.out.size))
  have hs_1 := hb.size
  clear hb
  by_cases hzn : z < 0
  · go_wp2_with fail
    go_ret
    exact ⟨rfl, B_1.out⟩
  have HL : Hid (xs.length ≤ 1048576) := Lib.hid (by have := HZ2.out (by omega); omega)
  clear HZ2
  have kc0 := cell_of_row _ _ 0 _ _ _ HBX_1.out
  have kc1 := cell_of_row _ _ 1 _ _ _ HBX_1.out
  have kc2 := cell_of_row _ _ 2 _ _ _ HBX_1.out
  have kc3 := cell_of_row _ _ 3 _ _ _ HBX_1.out
  have kc4 := cell_of_row _ _ 4 _ _ _ HBX_1.out
  go_wp2_with fail
  refine (ch_szo ⟨dy, pa, ou, inn, qy⟩ z _ (by omega) (by omega) HSX.out).mono ?_
  rintro e w2 ⟨rfl, hb⟩
  clear kc0 kc1 kc2 kc3 kc4
  have HBX_2 := Lib.hid (blk_below HBX_1.out hb)
  clear HBX_1
  have B_2 := Lib.hid (B_1.out.trans (hb.mono B_1.out.size))
  clear B_1
  have hs_2 := hb.size
  clear hb
  obtain ⟨z3, hz3⟩ : ∃ r, CH.left (⟨dy, pa, ou, inn, qy⟩ : CH) z = r := ⟨_, rfl⟩
  rw [hz3]
  clear hz3
  by_cases hzp : z3 < 0
  · go_wp2_with fail
    go_ret
    exact ⟨rfl, B_2.out⟩
  obtain ⟨y, hy⟩ : ∃ y, chB xs ⟨dy, pa, ou, inn, qy⟩ = y := ⟨_, rfl⟩
  have HYY := Lib.hid hy
  clear hy
  have hnn : (y != y) = false := by simp
  have kc0 := cell_of_row _ _ 0 _ _ _ HBX_2.out
  have kc1 := cell_of_row _ _ 1 _ _ _ HBX_2.out
  have kc2 := cell_of_row _ _ 2 _ _ _ HBX_2.out
  have kc3 := cell_of_row _ _ 3 _ _ _ HBX_2.out
  have kc4 := cell_of_row _ _ 4 _ _ _ HBX_2.out
  have HTI : Hid (∀ W, Below w2.heap.size w2 W → Calls Try.prog 27 #[.slice a1 xs.length c1] W fun e w9 => ∃ v9, e = .returned v9 ∧ IT.Is w9 v9 xs ∧ Below W.heap.size W w9) := Lib.hid (fun W hW => toI_at _ xs W (HX.out.below (B_2.out.trans (hW.mono B_2.out.size))) HL.out)
  have HCON : Hid (∀ (vA : Value) W, Below w2.heap.size w2 W → IT.Is W vA xs → Calls Try.prog 26 #[vA, .agg #[.int .i64 dy, .string pa, .string ou, .string inn, .int .i64 qy]] W fun e w9 => e = .returned (.bool y) ∧ Below W.heap.size W w9) := Lib.hid (fun vA W hW hA => bool_at (spec_isChange vA xs ⟨dy, pa, ou, inn, qy⟩ W hA (len_maxC HL.out) HS.out) HYY.out)
  go_upto_region 8 with fail
  go_region_held3 (fun W' => Hid (Below w2.heap.size w2 W') ∧ W'.cell? ⟨w.heap.size, 0, none⟩ = some (.int .i64 dy) ∧ W'.cell? ⟨w.heap.size, 1, none⟩ = some (.string pa) ∧ W'.cell? ⟨w.heap.size, 2, none⟩ = some (.string ou) ∧ W'.cell? ⟨w.heap.size, 3, none⟩ = some (.string inn) ∧ W'.cell? ⟨w.heap.size, 4, none⟩ = some (.int .i64 qy))
    (first | assumption | exact hold5 kc0 kc1 kc2 kc3 kc4 (hold_call (by assumption) (by assumption)) | exact hold5 kc0 kc1 kc2 kc3 kc4 (Below.refl _ _).drew)
    (first
      | (go_at_call 27; refine (HTI.out _ (by first | exact (by assumption : Hid (Below w2.heap.size w2 _) ∧ _).1.out | exact Below.refl _ _ | exact (Below.refl _ _).drew)).mono ?_; rintro e wA ⟨vA, rfl, hA, hb⟩; have hle := hold_le (by assumption) hb)
      | (go_at_call 28; refine (ch_to ⟨dy, pa, ou, inn, qy⟩ _).mono ?_; rintro e wC ⟨rfl, hb⟩; have hle := hold_le (by assumption) hb; have hA := hA.below (show Below wA.heap.size wA wC from ⟨hb.os, hb.tape, hb.output, hb.size, hb.block⟩))
      | (go_at_call 26; refine (HCON.out vA _ (by first | exact (by assumption : Hid (Below w2.heap.size w2 _) ∧ _).1.out | exact Below.refl _ _ | exact (Below.refl _ _).drew) (by first | exact hA | exact hA.below (Below.refl _ _).drew)).mono ?_; rintro e wS ⟨rfl, hb⟩; have hle := hold_le (by assumption) hb))
  have hS := (by assumption : Hid (Below w2.heap.size w2 _) ∧ _)
  obtain ⟨w3, hw3⟩ : ∃ W, W = worldOf hS := ⟨_, rfl⟩
  simp only [worldOf] at hw3
  have hSX : Below wS.heap.size wS w3 := by rw [hw3]; first | exact Below.refl _ _ | exact (Below.refl _ _).drew | exact (Below.refl _ _).drew.drew
  have hb : Below w2.heap.size w2 w3 := by rw [hw3]; exact hS.1.out
  rw [← hw3]
  clear hw3 hS hSX kc0 kc1 kc2 kc3 kc4 HTI HCON
  have HBX_3 := Lib.hid (blk_below HBX_2.out hb)
  clear HBX_2
  have B_3 := Lib.hid (B_2.out.trans (hb.mono B_2.out.size))
  clear B_2
  have hs_3 := hb.size
  clear hb
  go_wp2_with fail
  refine (IT.to_all _ xs _ (HX.out.below B_3.out) HL.out).mono ?_
  rintro e w4 ⟨vX, rfl, ho, hb⟩
  have HBX_4 := Lib.hid (blk_below HBX_3.out hb)
  clear HBX_3
  have B_4 := Lib.hid (B_3.out.trans (hb.mono B_3.out.size))
  clear B_3
  have hs_4 := hb.size
  have OX_4 := Lib.hid ho
  have SPX : Hid (InSp w3.heap.size w4.heap.size vX) := Lib.hid (fun k hk => OX_4.out.lt k hk)
  clear hb
  clear ho
  have kc0 := cell_of_row _ _ 0 _ _ _ HBX_4.out
  have kc1 := cell_of_row _ _ 1 _ _ _ HBX_4.out
  have kc2 := cell_of_row _ _ 2 _ _ _ HBX_4.out
  have kc3 := cell_of_row _ _ 3 _ _ _ HBX_4.out
  have kc4 := cell_of_row _ _ 4 _ _ _ HBX_4.out
  go_wp2_with fail
  refine (ch_to ⟨dy, pa, ou, inn, qy⟩ _).mono ?_
  rintro e w5 ⟨rfl, hb⟩
  clear kc0 kc1 kc2 kc3 kc4
  have HBX_5 := Lib.hid (blk_below HBX_4.out hb)
  clear HBX_4
  have OX_5 := Lib.hid (own_keepL OX_4.out hb)
  clear OX_4
  have B_5 := Lib.hid (B_4.out.trans (hb.mono B_4.out.size))
  clear B_4
  have hs_5 := hb.size
  clear hb
  go_wp2_with fail
  refine (HIM.out _ xs ⟨dy, pa, ou, inn, qy⟩ _ (IT.is_of_row OX_5.out) (len_maxC HL.out) HS.out HSX.out).mono ?_
  rintro e w6 ⟨rfl, hb⟩
  rw [HYY.out]
  have HBX_6 := Lib.hid (blk_below HBX_5.out hb)
  clear HBX_5
  have OX_6 := Lib.hid (own_keepL OX_5.out hb)
  clear OX_5
  have B_6 := Lib.hid (B_5.out.trans (hb.mono B_5.out.size))
  clear B_5
  have hs_6 := hb.size
  clear hb
  go_wp2_with fail
  refine (IT.to_all _ xs _ (HX.out.below B_6.out) HL.out).mono ?_
  rintro e w7 ⟨vC, rfl, ho, hb⟩
  have HBX_7 := Lib.hid (blk_below HBX_6.out hb)
  clear HBX_6
  have OX_7 := Lib.hid (own_keepL OX_6.out hb)
  clear OX_6
  have B_7 := Lib.hid (B_6.out.trans (hb.mono B_6.out.size))
  clear B_6
  have hs_7 := hb.size
  have OC_7 := Lib.hid ho
  have SPC : Hid (InSp w6.heap.size w7.heap.size vC) := Lib.hid (fun k hk => OC_7.out.lt k hk)
  clear hb
  clear ho
  go_wp2_with fail
  refine (IT.eq_all _ _ xs _ (IT.is_of_row OX_7.out) (IT.is_of_row OC_7.out) (by have := HL.out; omega)).mono ?_
  rintro e w8 ⟨rfl, hb⟩
  have HBX_8 := Lib.hid (blk_below HBX_7.out hb)
  clear HBX_7
  have OX_8 := Lib.hid (own_keepL OX_7.out hb)
  clear OX_7
  have OC_8 := Lib.hid (own_keepL OC_7.out hb)
  clear OC_7
  have B_8 := Lib.hid (B_7.out.trans (hb.mono B_7.out.size))
  clear B_7
  have hs_8 := hb.size
  clear hb
  go_wp2_with fail
  go_ret
  exact ⟨rfl, B_8.out⟩

end Go.Proofs.Ytdhldokpojghdaa
