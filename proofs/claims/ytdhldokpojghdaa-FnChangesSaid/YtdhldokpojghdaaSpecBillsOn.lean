/-
  The model's BillsOn.
-/
import Derived.Test.YtdhldokpojghdaaSpecApChg
import Derived.WalkKit
import Derived.WalkSpells
import Derived.WalkSmall
import Derived.BigQuiet
import Derived.OneCell
import Derived.Deep.QuietTactic
import Derived.Deep.DeepCutAuto
import Derived.Laws.OwnMore
import Derived.Lib.Hide
namespace Go.Proofs.Ytdhldokpojghdaa
open Go.RowKit

/-- Lines of the call's own. -/
def LnOut (ys : List BL) (w : World) (e : Ending) (w' : World) : Prop := ∃ v', e = .returned v' ∧ Hid (BX.Own w.heap.size w'.heap.size w' v' ys) ∧ Hid (Below w.heap.size w w')
set_option maxRecDepth 100000 in
set_option maxHeartbeats 8000000 in
theorem spec_billsOn (v v2 : Value) (l : List IT) (xs : List BL) (day : Int) (lo hi : Nat) (w : World) (h : IT.Is w v l) (h2 : BX lo hi w v2 xs) (hm : l.length ≤ maxLen) (hs : ∀ r, r ∈ l → IT.Sz r) (hs2 : BX.Sz xs) :
    Calls Try.prog 15 #[v, v2, .int .i64 day] w (LnOut (billsOnR l xs day) w) := by
  obtain ⟨i0, hi0, hz0, hz1, hz2⟩ := info_parts infoBLc
  have HI := Lib.hid h
  have HX := Lib.hid h2
  have HS := Lib.hid hs
  have HS2 := Lib.hid hs2
  have HM := Lib.hid hm
  have hm2 := hs2.1
  unfold maxLen at hm hm2
  obtain ⟨a, c, rfl⟩ := h.slice
  obtain ⟨a2, c2, rfl⟩ := h2.slice
  have HBI : Hid (∀ W, Below w.heap.size w W → Calls Try.prog 18 #[.slice a l.length c, .slice a2 xs.length c2] W (BoolRes (billsB l xs) W)) := Lib.hid (fun W hW => spec_bills _ _ l xs lo hi W (HI.out.below hW) (HX.out.below BLN.kept hW) HM.out HS.out HS2.out)
  clear h h2 hs hs2
  have HO0 : Hid (BX.Own w.heap.size (w.alloc (.cells #[] 36)).heap.size (w.alloc (.cells #[] 36)) (.slice (some ⟨w.heap.size, 0, none⟩) 0 0) []) := Lib.hid (BX.ownNil (Nat.le_refl _))
  have HB0 : Hid (Below w.heap.size w (w.alloc (.cells #[] 36))) := Lib.hid ((Below.refl _ _).alloc (Nat.le_refl _) _)
  go_enter Try.func15, Try.ntmps15
  go_wp2_with fail
  generalize w.alloc (.cells #[] 36) = w0 at *
  go_loopw [7, 8] (fun s i wr => ∃ (k : Nat) (ys : List BL) (p : Option Addr) (q : Nat), k ≤ xs.length ∧ i = .int .i64 k ∧ s = .slice p ys.length q ∧ ys.length ≤ k ∧ Hid (0 < k → billsB l xs = true) ∧ Hid (ys = onD day (xs.take k)) ∧ Hid (BX.Own w.heap.size wr.heap.size wr (.slice p ys.length q) ys) ∧ Hid (Below w.heap.size w wr)) (fun _ i _ => xs.length - (intOf i).toNat)
  case atStart => exact ⟨0, [], _, _, Nat.zero_le _, rfl, rfl, Nat.le_refl _, Lib.hid (fun h => by omega), Lib.hid rfl, HO0, HB0⟩
  case round =>
    clear HO0 HB0
    obtain ⟨k, ys, p, q, hk, rfl, rfl, hyk, HK, HY, HO, HB⟩ := hrel
    by_cases hlt : k < xs.length
    rotate_left
    · have HE : Hid (ys = billsOnR l xs day) := Lib.hid (by
        have h1 := HY.out
        rw [List.take_of_length_le (by omega)] at h1
        cases hc : billsB l xs with
        | true => rw [billsOnR_yes hc]; exact h1
        | false =>
          rw [billsOnR_no hc]
          have h0 : k = 0 := by
            rcases Nat.eq_zero_or_pos k with h | h
            · exact h
            · have := HK.out h; rw [hc] at this; cases this
          have : xs = [] := List.eq_nil_of_length_eq_zero (by omega)
          rw [h1, this]; rfl)
      go_wp2_with fail
      go_ret
      exact ⟨_, rfl, by rw [← HE.out]; exact HO, HB⟩
    have HLT := Lib.hid hlt
    have HCK := Lib.hid (HBI.out wr HB.out)
    rcases Bool.eq_false_or_eq_true (billsB l xs) with hc | hc
    rotate_left
    · have HE : Hid (ys = billsOnR l xs day) := Lib.hid (by
        have h0 : k = 0 := by
          rcases Nat.eq_zero_or_pos k with h | h
          · exact h
          · have := HK.out h; rw [hc] at this; cases this
        rw [billsOnR_no hc, HY.out, h0]; rfl)
      rw [hc] at HCK
      clear hc
      go_wp2_with fail
      refine HCK.out.mono ?_
      rintro e w1 ⟨rfl, hb⟩
      have HO1 := Lib.hid ((HO.out.below hb).topw hb.size)
      have HB1 := Lib.hid (HB.out.trans (hb.mono HB.out.size))
      clear hb
      go_wp2_with fail
      go_ret
      exact ⟨_, rfl, by rw [← HE.out]; exact HO1, HB1⟩
    have HBT := Lib.hid hc
    have HCO := Lib.hid (billsB_cond hc hlt)
    rw [hc] at HCK
    clear hc
    have h24 := (billsB_iff.1 HBT.out).1.2.1
    have HT := Lib.hid (onD_take (d := day) hlt)
    go_wp2_with fail
    refine HCK.out.mono ?_
    rintro e w1 ⟨rfl, hb⟩
    have HO1 := Lib.hid ((HO.out.below hb).topw hb.size)
    have HB1 := Lib.hid (HB.out.trans (hb.mono HB.out.size))
    clear hb HO HB HCK
    have HO := HO1
    have HB := HB1
    clear HO1 HB1
    have hsr := HB.out.size
    obtain ⟨b2, o2, c2', cl, hv2, hc2, hb2, hcl, hr5, hcell⟩ := (HX.out.below BLN.kept HB.out).get k hlt
    simp only [Value.slice.injEq] at hv2
    obtain ⟨rfl, _, rfl⟩ := hv2
    obtain ⟨u5, rfl, h5⟩ := hr5
    obtain ⟨sa5, sc5, rfl⟩ := h5.slice
    have e0 := hcell 0 (by omega)
    have e1 := hcell 1 (by omega)
    have e2 := hcell 2 (by omega)
    have e3 := hcell 3 (by omega)
    have e4 := hcell 4 (by omega)
    have e5 := hcell 5 (by omega)
    simp only [List.getElem?_cons_zero, List.getElem?_cons_succ, Nat.add_zero] at e0 e1 e2 e3 e4 e5
    clear hcell hc2 hcl hb2
    generalize xs[k]'hlt = x at *
    have HLN := Lib.hid (spec_line x _ lo hi w1 h5 HCO.out.1 HCO.out.2)
    clear h5
    by_cases hon : x.fr ≤ day
    rotate_left
    · have HF : Hid (isOn day x = false) := Lib.hid (isOn_no.2 (fun h => hon h.1))
      have hd : decide (x.fr ≤ day) = false := decide_eq_false hon
      clear hon
      go_wp2_with fail
      go_roundw
      case rel => exact ⟨k + 1, ys, p, q, by have := HLT.out; omega, by go_num, rfl, by omega, Lib.hid (fun _ => HBT.out), Lib.hid (by rw [HT.out, HF.out, ← HY.out]; simp), HO, HB⟩
      case measure => have := HLT.out; simp [intOf]; omega
    have hd : decide (x.fr ≤ day) = true := decide_eq_true hon
    by_cases hon2 : day ≤ x.un
    rotate_left
    · have HF : Hid (isOn day x = false) := Lib.hid (isOn_no.2 (fun h => hon2 h.2))
      have hd2 : decide (day ≤ x.un) = false := decide_eq_false hon2
      clear hon hon2
      go_wp2_with fail
      go_roundw
      case rel => exact ⟨k + 1, ys, p, q, by have := HLT.out; omega, by go_num, rfl, by omega, Lib.hid (fun _ => HBT.out), Lib.hid (by rw [HT.out, HF.out, ← HY.out]; simp), HO, HB⟩
      case measure => have := HLT.out; simp [intOf]; omega
    have hd2 : decide (day ≤ x.un) = true := decide_eq_true hon2
    have HF : Hid (isOn day x = true) := Lib.hid (isOn_iff.2 ⟨hon, hon2⟩)
    clear hon hon2
    go_wp2_with fail
    refine HLN.out.mono ?_
    rintro e w3 ⟨a3, c3, rfl, HOL, HBL⟩
    clear HLN e0 e1 e2 e3 e4 e5
    have hs3 := HBL.out.size
    obtain ⟨W4, hW4⟩ : ∃ W, w3.alloc (.cells #[.string x.par, .string x.prt, .int .i64 x.qty, .int .i64 x.fr, .int .i64 x.un, .slice a3 x.whn.length c3] 36) = W := ⟨_, rfl⟩
    have HW4 := Lib.hid hW4
    have HL4 : Hid (Below w3.heap.size w3 W4) := Lib.hid (by rw [← hW4]; exact (Below.refl _ _).alloc (Nat.le_refl _) _)
    have HY4 : Hid (W4.heap[w3.heap.size]? = some (.cells #[.string x.par, .string x.prt, .int .i64 x.qty, .int .i64 x.fr, .int .i64 x.un, .slice a3 x.whn.length c3] 36)) := Lib.hid (by rw [← hW4]; exact heap_alloc_new _ _)
    clear hW4
    have hs4 : w3.heap.size < W4.heap.size := lt_of_heap HY4.out
    have HR4 := Lib.hid (HBL.out.trans (HL4.out.mono HBL.out.size))
    go_upto_region 7 with fail
    rw [HW4.out]
    clear HW4
    have q3 := cell_of_row _ _ 3 _ _ _ HY4.out
    have qf3 := frozen_of_row _ _ 3 _ _ HY4.out
    obtain ⟨W5, hW5⟩ : ∃ W, W4.setCell ⟨w3.heap.size, 3, none⟩ (.int .i64 day) = W := ⟨_, rfl⟩
    have HW5 := Lib.hid hW5
    have HYW5 : Hid (W5.heap[w3.heap.size]? = some (.cells #[.string x.par, .string x.prt, .int .i64 x.qty, .int .i64 day, .int .i64 x.un, .slice a3 x.whn.length c3] 36)) := Lib.hid (by rw [← hW5]; exact heap_setCell_same _ _ 3 _ _ _ HY4.out)
    have HR5 := Lib.hid (HR4.out.setCell (p := ⟨w3.heap.size, 3, none⟩) (by simp only []; omega) (.int .i64 day))
    have HL5 := Lib.hid (HL4.out.setCell (p := ⟨w3.heap.size, 3, none⟩) (Nat.le_refl _) (.int .i64 day))
    rw [hW5] at HR5 HL5
    clear hW5
    go_upto_region 8 with fail
    rw [HW5.out]
    clear HW5 q3 qf3
    have q4 := cell_of_row _ _ 4 _ _ _ HYW5.out
    have qf4 := frozen_of_row _ _ 4 _ _ HYW5.out
    obtain ⟨W6, hW6⟩ : ∃ W, W5.setCell ⟨w3.heap.size, 4, none⟩ (.int .i64 day) = W := ⟨_, rfl⟩
    have HW6 := Lib.hid hW6
    have HYW6 : Hid (W6.heap[w3.heap.size]? = some (.cells #[.string x.par, .string x.prt, .int .i64 x.qty, .int .i64 day, .int .i64 day, .slice a3 x.whn.length c3] 36)) := Lib.hid (by rw [← hW6]; exact heap_setCell_same _ _ 4 _ _ _ HYW5.out)
    have HR6 := Lib.hid (HR5.out.setCell (p := ⟨w3.heap.size, 4, none⟩) (by simp only []; omega) (.int .i64 day))
    have HL6 := Lib.hid (HL5.out.setCell (p := ⟨w3.heap.size, 4, none⟩) (Nat.le_refl _) (.int .i64 day))
    rw [hW6] at HR6 HL6
    clear hW6
    go_upto_region 9 with fail
    rw [HW6.out]
    clear HW6 q4 qf4
    have q0 := cell_of_row _ _ 0 _ _ _ HYW6.out
    have q1 := cell_of_row _ _ 1 _ _ _ HYW6.out
    have q2 := cell_of_row _ _ 2 _ _ _ HYW6.out
    have q3 := cell_of_row _ _ 3 _ _ _ HYW6.out
    have q4 := cell_of_row _ _ 4 _ _ _ HYW6.out
    have q5 := cell_of_row _ _ 5 _ _ _ HYW6.out
    have HB6 := Lib.hid (HB.out.trans (HR6.out.mono HB.out.size))
    have HOL6 := Lib.hid (own_keepL HOL.out HL6.out)
    have hs6 := HR6.out.size
    obtain ⟨rs, hrec, hrl, hown⟩ := (HO.out.below HR6.out).recs
    have HREC := Lib.hid hrec
    have HRL := Lib.hid hrl
    have HOWN := Lib.hid hown
    clear hrec hrl hown
    have HRW : Hid (W6.ownsRow w.heap.size 36 6 (.slice p ys.length q) ys.length (flatN rs)) := Lib.hid (by have h1 := HOWN.out.row; rw [HRL.out] at h1; exact h1)
    go_wp2_with (at_builtin; refine wpList_append_own _ rfl _ _ 25 rfl w.heap.size 36 i0 (.agg #[.string ByteArray.empty, .string ByteArray.empty, .int .i64 0, .int .i64 0, .int .i64 0, .slice none 0 0]) 6 80 Try.underlying25 hi0 hz0 hz1 hz2 rfl (by decide) _ ys.length (flatN rs) rfl (HRW.out.alloc _) ⟨W6.heap.size, 0, none⟩ 1 1 [.string x.par, .string x.prt, .int .i64 x.qty, .int .i64 day, .int .i64 day, .slice a3 x.whn.length c3] rfl rfl (new_6 _ _ _ _ _ _ _ _) (by intro u hu; simp at hu; rcases hu with rfl | rfl | rfl | rfl | rfl | rfl <;> rfl) (by unfold maxLen; omega) (by omega) (by simp; omega) ?_)
    intro v4 w10 ho hg _
    obtain ⟨p2, q2, rfl⟩ := own_sliceN ho
    have HOF : Hid (BX.Own w.heap.size w10.heap.size w10 (.slice p2 (ys.length + 1) q2) (ys ++ [dayL day x])) := Lib.hid ⟨_, HREC.out.push (dayL day x) _, BX.pushR (HOWN.out.below ((Below.refl _ _).alloc (Nat.le_refl _) _)) (HOL6.out.alloc _) (RowsB.of HOWN.out) (by omega) (by rw [HRL.out]; exact ho) hg⟩
    have HBF := Lib.hid ((HB6.out.alloc HB6.out.size _).grown hg (by simp; omega) (fun g hg2 => (HRW.out.lt g hg2).1))
    clear ho hg
    go_wp2_with fail
    go_roundw
    case rel => exact ⟨k + 1, ys ++ [dayL day x], p2, q2, by have := HLT.out; omega, by go_num, by simp, by simp; omega, Lib.hid (fun _ => HBT.out), Lib.hid (by rw [HT.out, HF.out, ← HY.out]; rfl), by simpa using HOF, HBF⟩
    case measure => have := HLT.out; simp [intOf]; omega
end Go.Proofs.Ytdhldokpojghdaa
