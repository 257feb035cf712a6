/-
  The walk of FnLevels.
-/
import Derived.Test.YtkjnmldjgckbcaaLevDraw
import Derived.Test.YtkjnmldjgckbcaaLevSpec
import Derived.Test.YtkjnmldjgckbcaaBillSpec
import Derived.Test.YtkjnmldjgckbcaaBillImpl
import Derived.Test.YtkjnmldjgckbcaaLawBig
import Derived.Test.YtkjnmldjgckbcaaCodeKit
import Derived.Test.YtkjnmldjgckbcaaBuA
import Derived.WalkKit
import Derived.WalkSpells
import Derived.WalkSmall
import Derived.BigQuiet
import Derived.OneCell
import Derived.Deep.QuietTactic
import Derived.Deep.DeepCutAuto
import Derived.Lib.Hide
namespace Go.Proofs.Ytkjnmldjgckbcaa
open Go.RowKit

theorem infoB9 : (Try.prog.info? 4).map (fun i => (i.zero, i.size, i.bytes)) = some (some (.bool false), 1, 1) := by kernel_rfl
/-- Which items the first k links lead to. -/
def parts (n : Nat) (ps : List Lk) (k : Nat) : List Value := (List.range n).map (fun i => Value.bool ((ps.take k).any (fun p => p.2 == i)))
theorem parts_length (n : Nat) (ps : List Lk) (k : Nat) : (parts n ps k).length = n := by simp [parts]
theorem parts_get {n : Nat} {ps : List Lk} {k i : Nat} (h : i < n) : (parts n ps k)[i]? = some (.bool ((ps.take k).any (fun p => p.2 == i))) := by simp [parts, h]
theorem parts_zero (n : Nat) (ps : List Lk) : parts n ps 0 = List.replicate n (.bool false) := by
  refine List.ext_getElem? (fun i => ?_)
  by_cases h : i < n
  · rw [parts_get h]; simp [h]
  · rw [List.getElem?_eq_none (by rw [parts_length]; omega), List.getElem?_eq_none (by simp; omega)]
theorem parts_succ (n : Nat) (ps : List Lk) {k : Nat} (hk : k < ps.length) : (parts n ps k).set (ps[k]'hk).2 (.bool true) = parts n ps (k + 1) := by
  refine List.ext_getElem? (fun i => ?_)
  by_cases h : i < n
  · rw [List.getElem?_set, parts_get h, parts_get h, List.take_succ_eq_append_getElem hk, List.any_append, parts_length]
    by_cases e : (ps[k]'hk).2 = i
    · rw [if_pos e, if_pos (by omega)]
      simp [e]
    · rw [if_neg e]
      simp [e]
  · rw [List.getElem?_eq_none (by rw [List.length_set, parts_length]; omega), List.getElem?_eq_none (by rw [parts_length]; omega)]
theorem parts_yes {n : Nat} {ps : List Lk} {vs : List Nat} {i : Nat} (h : LevOk n ps vs) (hp : (ps.take ps.length).any (fun p => p.2 == i) = true) : lv vs i ≠ 0 := by
  rw [List.take_length] at hp
  obtain ⟨p, h1, h2⟩ := List.any_eq_true.1 hp
  have h3 := h.2.1 p h1
  rw [beq_iff_eq] at h2
  rw [h2] at h3
  omega
theorem parts_no {n : Nat} {ps : List Lk} {vs : List Nat} {i : Nat} (h : LevOk n ps vs) (hp : (ps.take ps.length).any (fun p => p.2 == i) = false) : lv vs i = 0 := by
  rw [List.take_length] at hp
  refine h.zero i (fun p h1 h2 => ?_)
  have h3 := List.any_eq_false.1 hp p h1
  rw [h2] at h3
  simp at h3

set_option maxRecDepth 100000 in
set_option maxHeartbeats 4000000 in
theorem walk_FnLevels (a : Option Addr) (n c : Nat) (w : World) (hm : n ≤ maxLen) (hcode : CodeAt w.heap.size w a n) :
    Calls Try.prog 3 #[.slice a n c] w fun e w' => e = .returned (.bool true) ∧ Below w.heap.size w w' := by
  obtain ⟨i0, hif, hz0, hz1, hz2⟩ := info_parts infoB9
  unfold maxLen at hm
  have HCO := Lib.hid hcode
  clear hcode
  by_cases hbig : 1048576 < n
  · have e0 : decide ((1048576 : Int) < (n : Int)) = true := decide_eq_true (by omega)
    go_enter Try.func3, Try.ntmps3
    go_wp2_with fail
    refine (laws_big a n c _).mono ?_
    rintro e w1 ⟨rfl, rfl⟩
    go_wp2
    go_ret
    exact ⟨rfl, Below.refl _ _⟩
  have e0 : decide ((1048576 : Int) < (n : Int)) = false := decide_eq_false (by omega)
  go_enter Try.func3, Try.ntmps3
  go_wp2_with fail
  refine (laws_big a n c _).mono ?_
  rintro e w1 ⟨rfl, rfl⟩
  go_wp2_with fail
  refine (draw_levels a n c _ (by omega) HCO.out).mono ?_
  rintro e w2 ⟨p, q, l, p2, q2, ls, rfl, HL6, HL9, HSZ, HXZ, HI, HXX, HB0⟩
  obtain ⟨lo, hi, hx⟩ := HXX.out
  have HX := Lib.hid hx
  have hl6 := HL6.out
  have hl9 := HL9.out
  have HSB : Hid (∀ W, Below w2.heap.size w2 W → Calls Try.prog 12 #[.slice p l.length q, .slice p2 ls.length q2] W (BoolRes (billsB l ls) W)) := Lib.hid (fun W hW => spec_bills _ _ l ls lo hi W (HI.out.below hW) (HX.out.below BLN.kept hW) (by unfold maxLen; omega) HSZ.out HXZ.out)
  clear hx HXX HCO hbig hm e0
  go_wp2_with fail
  refine (im_levelsOf _ _ l ls lo hi _ HI.out HX.out (by unfold maxLen; omega) HSZ.out HXZ.out).mono ?_
  rintro e w3 ⟨v', vs, rfl, HLV, HO, HB3⟩
  rcases Bool.eq_false_or_eq_true (billsB l ls) with hc | hc
  rotate_left
  · have hvs : vs = [] := by
      rcases HLV.out with ⟨h, _⟩ | ⟨_, h⟩
      · rw [billsB_yes h] at hc; cases hc
      · exact h
    subst hvs
    obtain ⟨pv, qv, hv⟩ := own_slice HO.out
    simp only [List.length_nil] at hv
    subst hv
    rw [hc] at HSB
    clear hc HLV HO
    go_wp2_with fail
    refine (HSB.out _ HB3.out).mono ?_
    rintro e w4 ⟨rfl, hb4⟩
    have HB4 := Lib.hid (HB3.out.trans (hb4.mono HB3.out.size))
    clear hb4
    go_wp2_with fail
    refine (HSB.out _ HB4.out).mono ?_
    rintro e w5 ⟨rfl, hb5⟩
    have HB5 := Lib.hid (HB4.out.trans (hb5.mono HB4.out.size))
    clear hb5
    go_wp2_with fail
    go_ret
    exact ⟨rfl, HB0.out.trans (HB5.out.mono HB0.out.size)⟩
  have hbo := billsB_iff.1 hc
  have HBO := Lib.hid hbo
  have hlv : LevOk l.length (pairs l ls) vs := by
    rcases HLV.out with ⟨_, h⟩ | ⟨h, _⟩
    · exact h
    · exact absurd hbo h
  have HLO := Lib.hid hlv
  have HVL := Lib.hid hlv.1
  rw [hlv.1] at HO
  obtain ⟨pv, qv, rfl⟩ := own_slice HO.out
  rw [hc] at HSB
  have HPL := Lib.hid (pairs_length l ls)
  clear hc HLV hbo hlv
  have hne : (((l.length : Nat) : Int) != ((l.length : Nat) : Int)) = false := by simp
  go_wp2_with fail
  refine (HSB.out _ HB3.out).mono ?_
  rintro e w4 ⟨rfl, hb4⟩
  have HB4 := Lib.hid (HB3.out.trans (hb4.mono HB3.out.size))
  have HO4 := Lib.hid (own_keepL HO.out hb4)
  have HX4 := Lib.hid (HX.out.below BLN.kept HB4.out)
  have HI4 := Lib.hid (HI.out.below HB4.out)
  clear hb4 HO HX HI HB3 HSB
  go_wp2_with (at_make; refine wpList_make_full _ rfl _ _ 31 rfl w4.heap.size 4 i0 (.bool false) 1 Try.underlying31 hif hz0 hz1 _ _ _ _ l.length rfl rfl rfl rfl (by rw [hz2]; omega) (by unfold maxLen; omega) (Nat.le_refl _) ?_)
  intro w5 hown0 hgrow0
  have HB5 := Lib.hid ((Below.refl w4.heap.size w4).grown hgrow0 (Nat.le_refl _) (fun k h => by cases h))
  have HP0 : Hid (w5.ownsRow w4.heap.size 4 1 (.slice (some ⟨w4.heap.size, 0, none⟩) l.length l.length) l.length (parts l.length (pairs l ls) 0)) := Lib.hid (by
    have h := hown0
    rw [parts_zero]
    simpa [toList_madeCells_one, Value.cells] using h)
  clear hown0 hgrow0
  go_wp2_with fail
  go_loopw [7] (fun i wr => ∃ k : Nat, k ≤ ls.length ∧ i = .int .i64 k ∧ Hid (wr.ownsRow w4.heap.size 4 1 (.slice (some ⟨w4.heap.size, 0, none⟩) l.length l.length) l.length (parts l.length (pairs l ls) k)) ∧ Hid (Below w4.heap.size w4 wr)) (fun i _ => ls.length - (intOf i).toNat)
  case atStart => exact ⟨0, Nat.zero_le _, rfl, HP0, HB5⟩
  case round =>
    clear HP0 HB5
    obtain ⟨k, hk, rfl, HP, HB⟩ := hrel
    by_cases hkx : k < ls.length
    rotate_left
    · have hke : k = (pairs l ls).length := by rw [HPL.out]; omega
      have hkd : decide ((k : Int) < (ls.length : Int)) = false := decide_eq_false (by omega)
      have HP1 : Hid (wr.ownsRow w4.heap.size 4 1 (.slice (some ⟨w4.heap.size, 0, none⟩) l.length l.length) l.length (parts l.length (pairs l ls) (pairs l ls).length)) := Lib.hid (by rw [← hke]; exact HP.out)
      clear hke HP
      go_wp2_with fail
      clear hkd hkx hk
      go_loopw [10] (fun i wx => ∃ j : Nat, j ≤ l.length ∧ i = .int .i64 j ∧ Hid (wx.ownsRow w4.heap.size 4 1 (.slice (some ⟨w4.heap.size, 0, none⟩) l.length l.length) l.length (parts l.length (pairs l ls) (pairs l ls).length)) ∧ Hid (Below w4.heap.size w4 wx)) (fun i _ => l.length - (intOf i).toNat)
      case atStart => exact ⟨0, Nat.zero_le _, rfl, HP1, HB⟩
      case round =>
        clear HP1 HB
        obtain ⟨j, hj, rfl, HP, HB⟩ := hrel
        by_cases hjl : j < l.length
        rotate_left
        · have hjd : decide ((j : Int) < (l.length : Int)) = false := decide_eq_false (by omega)
          have hee : (((l.length : Nat) : Int) == ((l.length : Nat) : Int)) = true := by simp
          go_wp2_with fail
          go_ret
          exact ⟨rfl, HB0.out.trans ((HB4.out.trans (HB.out.mono HB4.out.size)).mono HB0.out.size)⟩
        have HJL := Lib.hid hjl
        obtain ⟨gv, rfl, hgv⟩ := own_blk HO4.out (by omega)
        have cp := (HP.out.cellAt j (by omega)).trans (parts_get hjl)
        have cv := ((own_keepL HO4.out HB.out).cellAt j (by omega)).trans (cellsLv_get (v := vs) (by rw [HVL.out]; exact hjl))
        have HYES := Lib.hid (fun h => parts_yes (i := j) HLO.out h)
        have HNO := Lib.hid (fun h => parts_no (i := j) HLO.out h)
        have hj0 : (0 : Int) ≤ (j : Int) := by omega
        have hj1 : (j : Int) < (l.length : Int) := by omega
        generalize ((pairs l ls).take (pairs l ls).length).any (fun p => p.2 == j) = f at *
        generalize lv vs j = x at *
        cases f with
        | true =>
          have hx0 : ((x : Int) == 0) = false := beq_eq_false_iff_ne.2 (by have := HYES.out rfl; omega)
          have hx1 : (x == 0) = false := beq_eq_false_iff_ne.2 (HYES.out rfl)
          clear HYES HNO hgv
          go_upto_region 19 with fail
          go_region
          all_goals
            go_wp2_with fail
            go_roundw
            case rel => exact ⟨j + 1, HJL.out, by go_num, HP, Lib.hid HB.out.drew⟩
            case measure => have := HJL.out; simp [intOf]; omega
        | false =>
          have hx0 : x = 0 := HNO.out rfl
          subst hx0
          clear HYES HNO hgv
          go_upto_region 19 with fail
          go_region
          all_goals
            go_wp2_with fail
            go_roundw
            case rel => exact ⟨j + 1, HJL.out, by go_num, HP, Lib.hid HB.out.drew⟩
            case measure => have := HJL.out; simp [intOf]; omega
    obtain ⟨b2, o2, c2, cs, hv2, hc2, hb2, hcl, hr5, hcell⟩ := (HX4.out.below BLN.kept HB.out).get k hkx
    simp only [Value.slice.injEq] at hv2
    obtain ⟨rfl, _, rfl⟩ := hv2
    obtain ⟨u5, rfl, h5⟩ := hr5
    have e0 := hcell 0 (by omega)
    have e1 := hcell 1 (by omega)
    simp only [List.getElem?_cons_zero, List.getElem?_cons_succ, Nat.add_zero] at e0 e1
    have hlo := HBO.out.1.2.2 k hkx hkx
    obtain ⟨hf1, hf2⟩ := hlo.fi
    obtain ⟨hi1, hi2⟩ := hlo.inb
    have hpk := pairs_get (l := l) hkx
    have hkp : k < (pairs l ls).length := by rw [HPL.out]; exact hkx
    have hsol := HLO.out.2.1 _ (List.getElem_mem hkp)
    have hst := (HP.out.stored ((pairs l ls)[k]'hkp).2 (.bool true)).1
    rw [parts_succ] at hst
    rw [hpk] at hsol hst
    have HST := Lib.hid hst
    clear hcell h5 hc2 hb2 hcl hpk hkp hlo hst
    generalize ls[k]'hkx = x at *
    generalize hpp : pairOf l x = pp at *
    obtain ⟨pa, pb⟩ := pp
    simp only at hf1 hf2 hi1 hi2 hsol HST
    obtain ⟨gv, rfl, hgv⟩ := own_blk HO4.out (by omega)
    have cp := (HP.out.cellAt pb (by omega)).trans (parts_get hi2)
    have fp := HP.out.frozenAt pb
    have HBS : Hid (Below w4.heap.size w4 (wr.setCell ⟨w4.heap.size, pb, none⟩ (.bool true))) := Lib.hid (HB.out.setCell (Nat.le_refl _) (.bool true))
    have qa := ((own_keepL HO4.out HBS.out).cellAt pa (by omega)).trans (cellsLv_get (v := vs) (by rw [HVL.out]; exact hi1))
    have qb := ((own_keepL HO4.out HBS.out).cellAt pb (by omega)).trans (cellsLv_get (v := vs) (by rw [HVL.out]; exact hi2))
    have HKX := Lib.hid hkx
    have hp0 : (0 : Int) ≤ (pa : Int) := by omega
    have hp1 : (pa : Int) < (l.length : Int) := by omega
    have hp2 : (0 : Int) ≤ (pb : Int) := by omega
    have hp3 : (pb : Int) < (l.length : Int) := by omega
    have HFA := Lib.hid (spec_findItem _ l x.par wr (HI4.out.below HB.out) (by unfold maxLen; omega))
    have HFB := Lib.hid (spec_findItem _ l x.prt wr (HI4.out.below HB.out) (by unfold maxLen; omega))
    rw [hf1] at HFA
    rw [hf2] at HFB
    have hda : decide (((lv vs pb : Nat) : Int) ≤ ((lv vs pa : Nat) : Int)) = false := decide_eq_false (by omega)
    have hdb : decide (lv vs pb ≤ lv vs pa) = false := decide_eq_false (by omega)
    clear hf1 hf2 hpp hgv hsol
    generalize lv vs pa = xa at *
    generalize lv vs pb = xb at *
    go_wp2_with fail
    refine HFA.out.mono ?_
    rintro e w6 ⟨rfl, rfl⟩
    go_wp2_with fail
    refine HFB.out.mono ?_
    rintro e w6 ⟨rfl, rfl⟩
    clear HFA HFB e0 e1
    go_upto_region 14 with fail
    clear cp fp
    generalize wr.setCell ⟨w4.heap.size, pb, none⟩ (.bool true) = w7 at *
    go_region
    all_goals
      go_wp2_with fail
      go_roundw
      case rel => exact ⟨k + 1, HKX.out, by go_num, HST, Lib.hid HBS.out.drew⟩
      case measure => have := HKX.out; simp [intOf]; omega
end Go.Proofs.Ytkjnmldjgckbcaa
