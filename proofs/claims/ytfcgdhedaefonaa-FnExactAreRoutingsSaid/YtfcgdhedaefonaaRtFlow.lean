/-
  The model's FlowTime.
-/
import Derived.Test.YtfcgdhedaefonaaRtTime
import Derived.Test.YtfcgdhedaefonaaRecLib
import Derived.WalkKit
import Derived.WalkSpells
import Derived.WalkSmall
import Derived.BigQuiet
import Derived.OwnWalk
import Derived.Deep.QuietTactic
import Derived.Deep.DeepCutAuto
import Derived.Deep.RegionHeld3
import Derived.Laws.OwnMore
import Derived.Lib.Hide
namespace Go.Proofs.Ytfcgdhedaefonaa
open Go.RowKit

def worldR {w W : World} {p : Prop} (_ : Hid (Below w.heap.size w W) ∧ p) : World := W
theorem infoIntF : (Try.prog.info? 3).map (fun i => (i.zero, i.size, i.bytes)) = some (some (.int .i64 0), 1, 8) := by kernel_rfl
/-- When the pieces are ready, after k of them and j steps of the next. -/
def rowF (xs : List ST) (k j : Nat) : List Value := (List.range xs.length).map (fun i => Value.int .i64 (if i < j then rdy xs (k + 1) i else rdy xs k i))
theorem rowF_zero (xs : List ST) : (madeCells #[.int .i64 0] xs.length).toList = rowF xs 0 0 := by
  refine List.ext_getElem? (fun i => ?_)
  unfold rowF
  rw [Array.getElem?_toList, List.getElem?_map]
  by_cases hi : i < xs.length
  · rw [List.getElem?_range hi]
    simp [madeCells, hi, rdy_zero, Nat.mod_one]
  · rw [List.getElem?_eq_none (by simp; omega)]
    simp [madeCells, hi]
theorem rowF_at {xs : List ST} {k j i : Nat} (hi : i < xs.length) : (rowF xs k j)[i]? = some (.int .i64 (if i < j then rdy xs (k + 1) i else rdy xs k i)) := by
  unfold rowF
  rw [List.getElem?_map, List.getElem?_range hi]; rfl
theorem rowF_set {xs : List ST} {k j : Nat} (hj : j < xs.length) : (rowF xs k j).set j (.int .i64 (rdy xs (k + 1) j)) = rowF xs k (j + 1) := by
  refine List.ext_getElem? (fun i => ?_)
  have hl : (rowF xs k j).length = xs.length := by simp [rowF]
  by_cases hi : i < xs.length
  · rw [rowF_at hi]
    by_cases e : j = i
    · subst e
      rw [List.getElem?_set_self (by omega), if_pos (by omega)]
    · rw [List.getElem?_set_ne e, rowF_at hi]
      by_cases h1 : i < j
      · rw [if_pos h1, if_pos (by omega)]
      · rw [if_neg h1, if_neg (by omega)]
  · rw [List.getElem?_eq_none (by simp [hl]; omega), List.getElem?_eq_none (by simp [rowF]; omega)]
theorem rowF_next (xs : List ST) (k : Nat) : rowF xs k xs.length = rowF xs (k + 1) 0 := by
  refine List.ext_getElem? (fun i => ?_)
  by_cases hi : i < xs.length
  · rw [rowF_at hi, rowF_at hi, if_pos hi, if_neg (by omega)]
  · rw [List.getElem?_eq_none (by simp [rowF]; omega), List.getElem?_eq_none (by simp [rowF]; omega)]

set_option maxRecDepth 100000 in
set_option maxHeartbeats 4000000 in
theorem spec_flow (r : RT) (u : Value) (q : Int) (lo hi : Nat) (w : World) (h : SX lo hi w u r.steps) (hs : RT.Sz r) : Calls Try.prog 20 #[.agg #[.string r.item, u], .int .i64 q] w (NumR (flO r q) w) := by
  obtain ⟨item, steps⟩ := r
  simp only at h
  have SS : Hid (∀ x, x ∈ steps → ST.Sz x) := Lib.hid hs.2.2
  have hm := hs.2.1
  simp only at hm
  unfold maxLen at hm
  obtain ⟨a, c, rfl⟩ := h.slice
  simp only
  have HA0 := Lib.hid (heap_alloc_new w (.cells #[.string item, .slice a steps.length c] 26))
  have HB0 : Hid (Below w.heap.size w (w.alloc (.cells #[.string item, .slice a steps.length c] 26))) := Lib.hid ((Below.refl _ _).alloc (Nat.le_refl _) _)
  have HIR := Lib.hid (spec_routing ⟨item, steps⟩ _ lo hi _ (h.below StN.kept HB0.out) hs)
  have HX := Lib.hid ((SX.is h).below HB0.out)
  have HN : Hid (¬(RtOk ⟨item, steps⟩ ∧ FOk q) → flO ⟨item, steps⟩ q = none) := Lib.hid flO_no
  have HYS : Hid (RtOk ⟨item, steps⟩ → FOk q → flO ⟨item, steps⟩ q = some (flT steps q)) := Lib.hid flO_yes
  generalize flO ⟨item, steps⟩ q = o at *
  clear h hs
  go_enter Try.func20, Try.ntmps20
  go_upto_region 1 with fail
  generalize w.alloc (.cells #[.string item, .slice a steps.length c] 26) = w1 at *
  have c0 := cell_of_row _ _ 0 _ _ _ HA0.out
  have c1 := cell_of_row _ _ 1 _ _ _ HA0.out
  go_wp2_with fail
  refine HIR.out.mono ?_
  rintro e w2 ⟨rfl, hb⟩
  have HA2 := Lib.hid (blk_below HA0.out hb)
  have HB2 := Lib.hid (HB0.out.trans (hb.mono HB0.out.size))
  have HX2 := Lib.hid (HX.out.below hb)
  clear hb HA0 HB0 HX HIR c0 c1
  rcases Bool.eq_false_or_eq_true (rtB ⟨item, steps⟩) with hc | hc
  rotate_left
  · have HY := Lib.hid (HN.out (fun h => by rw [rtB_yes h.1] at hc; cases hc))
    rw [hc]
    clear hc
    go_wp2_with fail
    go_ret2
    exact ⟨by rw [HY.out]; rfl, HB2.out⟩
  have HR := Lib.hid (rtB_iff.1 hc)
  have hn1 := HR.out.2.1.1
  have hn6 := HR.out.2.1.2
  simp only at hn1 hn6
  rw [hc]
  clear hc
  go_wp2_with fail
  by_cases hq : 1 ≤ q ∧ q ≤ 200
  rotate_left
  · have HY := Lib.hid (HN.out (fun h => hq h.2))
    refine (spec_in_is q 1 200 false _ (inB_no (by omega))).mono ?_
    rintro e w3 ⟨rfl, rfl⟩
    clear hq
    go_wp2_with fail
    go_ret2
    exact ⟨by rw [HY.out]; rfl, HB2.out⟩
  have HQ : Hid (FOk q) := Lib.hid hq
  have HY := Lib.hid (HYS.out HR.out HQ.out)
  have HST : Hid (StTo steps steps.length) := Lib.hid HR.out.2.2
  refine (spec_in_is q 1 200 true _ (inB_yes hq.1 hq.2)).mono ?_
  rintro e w3 ⟨rfl, rfl⟩
  clear HN HYS
  obtain ⟨i0, hi0, hz0, hz1, hz2⟩ := info_parts infoIntF
  have hs2 := HB2.out.size
  have c1 := cell_of_row _ _ 1 _ _ _ HA2.out
  obtain ⟨Q, hQ⟩ : ∃ Q : Nat, q = (Q : Int) := ⟨q.toNat, by omega⟩
  subst hQ
  have hQ1 : 1 ≤ Q := by omega
  have hQ2 : Q ≤ 200 := by omega
  have HFR : Hid (rdy steps Q (steps.length - 1) = flT steps Q) := Lib.hid (flT_rdy hn1 hQ1)
  clear hq
  go_wp2_with (at_make; refine wpList_make_full _ rfl _ _ 59 rfl w3.heap.size 3 i0 (.int .i64 0) 1 Try.underlying59 hi0 hz0 hz1 _ _ _ _ steps.length rfl rfl rfl rfl (by rw [hz2]; omega) (by unfold maxLen; omega) (Nat.le_refl _) ?_)
  intro w0 hown0 hgrow0
  have HB0 : Hid (Below w3.heap.size w3 w0) := Lib.hid ((Below.refl _ _).grown hgrow0 (Nat.le_refl _) (fun k h => by cases h))
  have HO0 : Hid (w0.ownsRow w3.heap.size 3 1 (.slice (some ⟨w3.heap.size, 0, none⟩) steps.length steps.length) steps.length (rowF steps 0 0)) := Lib.hid (by rw [← rowF_zero]; exact hown0)
  clear hown0 hgrow0 c1
  go_wp2_with fail
  go_loopw [7] (fun i wr => ∃ k : Nat, k ≤ Q ∧ i = .int .i64 k ∧ Hid (wr.ownsRow w3.heap.size 3 1 (.slice (some ⟨w3.heap.size, 0, none⟩) steps.length steps.length) steps.length (rowF steps k 0)) ∧ Hid (Below w3.heap.size w3 wr)) (fun i _ => Q - (intOf i).toNat)
  case atStart => exact ⟨0, Nat.zero_le _, rfl, HO0, HB0⟩
  case round =>
    clear HO0 HB0
    obtain ⟨k, hk, rfl, HO, HB⟩ := hrel
    by_cases hlt : k < Q
    rotate_left
    · have hkk : k = Q := by omega
      subst hkk
      have hd : decide ((k : Int) < (k : Int)) = false := decide_eq_false (by omega)
      have HBW := Lib.hid (HB2.out.trans (HB.out.mono HB2.out.size))
      have hix : (steps.length : Int) - 1 = ((steps.length - 1 : Nat) : Int) := by omega
      have r0 : wr.cell? ⟨w3.heap.size, steps.length - 1, none⟩ = some (.int .i64 (rdy steps k (steps.length - 1))) := by
        rw [HO.out.cellAt (steps.length - 1) (by omega), rowF_at (by omega), if_neg (by omega)]
      rw [HFR.out] at r0
      obtain ⟨m, hm⟩ : ∃ m, steps.length - 1 = m := ⟨_, rfl⟩
      have hmi : (m : Int) < (steps.length : Int) := by omega
      have hm0 : (0 : Int) ≤ (m : Int) := by omega
      have hwm : IntKind.i64.wrap (m : Int) = (m : Int) := (IntKind.wrap_i64 _).trans (by omega)
      rw [hm] at r0 hix
      clear hm
      go_wp2_with fail
      go_ret2
      exact ⟨by rw [HY.out]; rfl, HBW.out⟩
    have HLT := Lib.hid hlt
    have hd : decide ((k : Int) < (Q : Int)) = true := decide_eq_true (by omega)
    go_wp2_with fail
    go_loopw [8, 9] (fun s i wt => ∃ j : Nat, j ≤ steps.length ∧ i = .int .i64 j ∧ s = .int .i64 (lastv steps k j) ∧ Hid (wt.ownsRow w3.heap.size 3 1 (.slice (some ⟨w3.heap.size, 0, none⟩) steps.length steps.length) steps.length (rowF steps k j)) ∧ Hid (Below w3.heap.size w3 wt)) (fun _ i _ => steps.length - (intOf i).toNat)
    case atStart => exact ⟨0, Nat.zero_le _, rfl, by rw [lastv_zero], HO, HB⟩
    case round =>
      clear HO HB
      obtain ⟨j, hj, rfl, rfl, HO, HB⟩ := hrel
      have HA := Lib.hid (blk_below HA2.out HB.out)
      have c1 := cell_of_row _ _ 1 _ _ _ HA.out
      by_cases hjt : j < steps.length
      rotate_left
      · have hjj : j = steps.length := by omega
        subst hjj
        have HON := HO
        rw [rowF_next] at HON
        go_wp2_with fail
        go_roundw
        case rel => exact ⟨k + 1, by have := HLT.out; omega, by go_num, HON, HB⟩
        case measure => have := HLT.out; simp [intOf]; omega
      have HJT := Lib.hid hjt
      obtain ⟨b2, o2, c2, hv2, hc2, hcell2⟩ := HX2.out.some (by omega)
      simp only [Value.slice.injEq] at hv2
      obtain ⟨rfl, _, rfl⟩ := hv2
      obtain ⟨e0, e1, e2⟩ := (hcell2.below HB.out).at j hjt
      clear hcell2 hc2 e0 e1
      have HST2 := Lib.hid (flow_step HST.out k j hjt)
      have r0 : wr.cell? ⟨w3.heap.size, j, none⟩ = some (.int .i64 (rdy steps k j)) := by
        rw [HO.out.cellAt j (by omega), rowF_at hjt, if_neg (by omega)]
      have hif : (if lastv steps k j < rdy steps k j then rdy steps k j else lastv steps k j) + (steps[j]'hjt).run = rdy steps (k + 1) j := by
        rw [← HST2.out, Int.max_def]
        by_cases h1 : lastv steps k j < rdy steps k j
        · rw [if_pos h1, if_pos (by omega)]
        · rw [if_neg h1]
          by_cases h2 : lastv steps k j ≤ rdy steps k j
          · rw [if_pos h2]; omega
          · rw [if_neg h2]
      have hbd := rdy_bound HST.out (k + 1) j (by have := HLT.out; omega) hjt hn6
      have hw : IntKind.i64.wrap ((if lastv steps k j < rdy steps k j then rdy steps k j else lastv steps k j) + (steps[j]'hjt).run) = rdy steps (k + 1) j := by
        rw [hif]; exact (IntKind.wrap_i64 _).trans (by omega)
      have HW := Lib.hid hw
      clear hw hif hbd HST2
      have HLS := Lib.hid (lastv_succ steps k j)
      generalize steps[j]'hjt = x at *
      have hji : (j : Int) < (steps.length : Int) := by omega
      have hj0 : (0 : Int) ≤ (j : Int) := by omega
      go_upto_region 11 with fail
      go_region_held3 (fun W' => Hid (Below wr.heap.size wr W') ∧ W'.cell? ⟨w.heap.size, 1, none⟩ = some (.slice (some ⟨b2, o2, none⟩) steps.length c) ∧ W'.cell? ⟨b2, o2 + j * 3 + 2, none⟩ = some (.int .i64 x.run) ∧ W'.cell? ⟨w3.heap.size, j, none⟩ = some (.int .i64 (rdy steps k j)))
        (first | assumption | exact hold3 c1 e2 r0 (Below.refl _ _).drew | exact hold3 c1 e2 r0 (hold_call (by assumption) (by assumption)))
        (fail)
      all_goals
        have hS := (by assumption : Hid (Below wr.heap.size wr _) ∧ _)
        obtain ⟨w5, hw5⟩ : ∃ W, W = worldR hS := ⟨_, rfl⟩
        simp only [worldR] at hw5
        have hb : Below wr.heap.size wr w5 := by rw [hw5]; exact hS.1.out
        rw [← hw5, HW.out]
        clear hw5 hS
        have HO5 := Lib.hid (own_keepL HO.out hb)
        have HB5 := Lib.hid (HB.out.trans (hb.mono HB.out.size))
        have r5 := hold_c r0 hb
        have z5 := HO5.out.frozenAt j
        have HON : Hid ((w5.setCell ⟨w3.heap.size, j, none⟩ (.int .i64 (rdy steps (k + 1) j))).ownsRow w3.heap.size 3 1 (.slice (some ⟨w3.heap.size, 0, none⟩) steps.length steps.length) steps.length (rowF steps k (j + 1))) := Lib.hid (by
          rw [← rowF_set HJT.out]; exact (HO5.out.stored j _).1)
        have HBF := Lib.hid (HB5.out.setCell (p := ⟨w3.heap.size, j, none⟩) (Nat.le_refl _) (.int .i64 (rdy steps (k + 1) j)))
        clear hb c1 e2 r0
        go_wp2_with fail
        go_roundw
        case rel => exact ⟨j + 1, by have := HJT.out; omega, by go_num, by rw [HLS.out], HON, HBF⟩
        case measure => have := HJT.out; simp [intOf]; omega
end Go.Proofs.Ytfcgdhedaefonaa
