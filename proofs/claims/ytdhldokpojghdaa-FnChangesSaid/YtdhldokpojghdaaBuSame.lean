import Derived.Test.YtdhldokpojghdaaBuRec
import Derived.WalkKit
import Derived.WalkSpells
import Derived.WalkSmall
import Derived.BigQuiet
import Derived.Deep.QuietTactic
import Derived.Deep.DeepCutAuto
import Derived.Lib.Hide
import Derived.Test.YtdhldokpojghdaaRows
import Derived.Test.YtdhldokpojghdaaBuA
namespace Go.Proofs.Ytdhldokpojghdaa
open Go.RowKit

open Classical in
noncomputable def sameB (xs ys : List CN) : Bool := decide (xs = ys)
open Classical in
theorem sameB_yes {xs ys : List CN} (h : xs = ys) : sameB xs ys = true := decide_eq_true h
open Classical in
theorem sameB_no {xs ys : List CN} (h : ¬xs = ys) : sameB xs ys = false := decide_eq_false h
open Classical in
theorem sameB_iff {xs ys : List CN} : sameB xs ys = true ↔ xs = ys := by unfold sameB; exact decide_eq_true_iff
theorem same_of_get {xs ys : List CN} (hl : xs.length = ys.length) (h : ∀ i (h1 : i < xs.length) (h2 : i < ys.length), xs[i]'h1 = ys[i]'h2) : xs = ys := List.ext_getElem hl h

end Go.Proofs.Ytdhldokpojghdaa

namespace Go.Proofs.Ytdhldokpojghdaa
open Go.RowKit

set_option maxRecDepth 100000 in
set_option maxHeartbeats 2000000 in
theorem spec_same (v v' : Value) (xs ys : List CN) (w : World) (h : CN.Is w v xs) (h' : CN.Is w v' ys) (hm : xs.length ≤ 1048577) (hm' : ys.length ≤ 1048577) :
    Calls Try.prog 75 #[v, v'] w (BoolRes (sameB xs ys) w) := by
  have HX := Lib.hid h
  have HY := Lib.hid h'
  obtain ⟨a, c, rfl⟩ := h.slice
  obtain ⟨a', c', rfl⟩ := h'.slice
  clear h h'
  by_cases hl : xs.length = ys.length
  rotate_left
  · have HF := Lib.hid (sameB_no (xs := xs) (ys := ys) (fun e => hl (by rw [e])))
    have hnn : ((xs.length : Int) != (ys.length : Int)) = true := bne_iff_ne.2 (by omega)
    clear hl
    go_enter Try.func75, Try.ntmps75
    go_wp2_with fail
    go_ret
    exact ⟨by rw [HF.out]; rfl, Below.refl _ _⟩
  have hnn : ((xs.length : Int) != (ys.length : Int)) = false := by rw [hl]; simp
  have HLEN := Lib.hid hl
  clear hl
  go_enter Try.func75, Try.ntmps75
  go_wp2_with fail
  go_loopw [5] (fun i wr => ∃ k : Nat, k ≤ xs.length ∧ i = .int .i64 k ∧ Hid (∀ i (h1 : i < xs.length) (h2 : i < ys.length), i < k → xs[i]'h1 = ys[i]'h2) ∧ Hid (Below w.heap.size w wr)) (fun i _ => xs.length - (intOf i).toNat)
  case atStart => exact ⟨0, Nat.zero_le _, rfl, Lib.hid (fun _ _ _ h => absurd h (Nat.not_lt_zero _)), Lib.hid (Below.refl _ _)⟩
  case round =>
    obtain ⟨k, hk, rfl, HE, HB⟩ := hrel
    by_cases hlt : k < xs.length
    rotate_left
    · have HT := Lib.hid (sameB_yes (same_of_get HLEN.out (fun i h1 h2 => HE.out i h1 h2 (by omega))))
      go_wp2_with fail
      go_ret
      exact ⟨by rw [HT.out]; rfl, HB.out⟩
    have hlt2 : k < ys.length := by rw [← HLEN.out]; exact hlt
    obtain ⟨b2, o2, c2, hv2, hc2, hcell2⟩ := HX.out.some (by omega)
    simp only [Value.slice.injEq] at hv2
    obtain ⟨rfl, _, rfl⟩ := hv2
    obtain ⟨b3, o3, c3, hv3, hc3, hcell3⟩ := HY.out.some (by omega)
    simp only [Value.slice.injEq] at hv3
    obtain ⟨rfl, _, rfl⟩ := hv3
    obtain ⟨e1, e2, e3⟩ := (hcell2.below HB.out).at k hlt
    obtain ⟨e4, e5, e6⟩ := (hcell3.below HB.out).at k hlt2
    clear hcell2 hcell3 hc2 hc3
    have HLT := Lib.hid hlt
    have hi1 : (k : Int) < (xs.length : Int) := by omega
    have hi2 : (k : Int) < (ys.length : Int) := by omega
    have HNE : Hid (¬xs[k]'hlt = ys[k]'hlt2 → sameB xs ys = false) := Lib.hid (fun hne => sameB_no (fun e => hne (by subst e; rfl)))
    have HEQ : Hid (xs[k]'hlt = ys[k]'hlt2 → ∀ i (h1 : i < xs.length) (h2 : i < ys.length), i < k + 1 → xs[i]'h1 = ys[i]'h2) := Lib.hid (fun heq i h1 h2 hi => by
      by_cases e : i = k
      · subst e; exact heq
      · exact HE.out i h1 h2 (by omega))
    generalize xs[k]'hlt = x at *
    generalize ys[k]'hlt2 = y at *
    obtain ⟨kind, opt, vl⟩ := x
    obtain ⟨kind', opt', vl'⟩ := y
    simp only at e1 e2 e3 e4 e5 e6
    by_cases g0 : kind = kind'
    rotate_left
    · have HF := Lib.hid (HNE.out (fun e => g0 (by injection e)))
      have q0 : (kind == kind') = false := beq_eq_false_iff_ne.2 g0
      clear g0
      go_upto_region 6 with fail
      go_quiet (fail)
      all_goals
        go_wp2_with fail
        go_ret
        exact ⟨by rw [HF.out]; rfl, HB.out.trans (below_drewN (Below.refl _ _) _)⟩
    by_cases g1 : opt = opt'
    rotate_left
    · have HF := Lib.hid (HNE.out (fun e => g1 (by injection e)))
      have q0 : (kind == kind') = true := beq_iff_eq.2 g0
      have q1 := str_ne g1
      clear g0 g1
      go_upto_region 6 with fail
      go_quiet (fail)
      all_goals
        go_wp2_with fail
        go_ret
        exact ⟨by rw [HF.out]; rfl, HB.out.trans (below_drewN (Below.refl _ _) _)⟩
    by_cases g2 : vl = vl'
    rotate_left
    · have HF := Lib.hid (HNE.out (fun e => g2 (by injection e)))
      have q0 : (kind == kind') = true := beq_iff_eq.2 g0
      have q1 := str_eq g1
      have q2 := str_ne g2
      clear g0 g1 g2
      go_upto_region 6 with fail
      go_quiet (fail)
      all_goals
        go_wp2_with fail
        go_ret
        exact ⟨by rw [HF.out]; rfl, HB.out.trans (below_drewN (Below.refl _ _) _)⟩
    have HES := Lib.hid (HEQ.out (by rw [g0, g1, g2]))
    have q0 : (kind == kind') = true := beq_iff_eq.2 g0
    have q1 := str_eq g1
    have q2 := str_eq g2
    clear g0 g1 g2
    go_upto_region 6 with fail
    go_quiet (fail)
    all_goals
      go_wp2_with fail
      go_roundw
      case rel => exact ⟨k + 1, by have := HLT.out; omega, by go_num, HES, Lib.hid (HB.out.trans (below_drewN (Below.refl _ _) _))⟩
      case measure => have := HLT.out; simp [intOf]; omega
end Go.Proofs.Ytdhldokpojghdaa

namespace Go.Proofs.Ytdhldokpojghdaa
open Go.RowKit

set_option maxRecDepth 100000 in
set_option maxHeartbeats 2000000 in
theorem laws_sameConds2 (v v' : Value) (xs ys : List CN) (w : World) (h : CN.Is w v xs) (h' : CN.Is w v' ys) (hm : xs.length ≤ 1048577) (hm' : ys.length ≤ 1048577) :
    Calls Try.prog 51 #[v, v'] w (BoolRes (sameB xs ys) w) := by
  have HX := Lib.hid h
  have HY := Lib.hid h'
  obtain ⟨a, c, rfl⟩ := h.slice
  obtain ⟨a', c', rfl⟩ := h'.slice
  clear h h'
  by_cases hl : xs.length = ys.length
  rotate_left
  · have HF := Lib.hid (sameB_no (xs := xs) (ys := ys) (fun e => hl (by rw [e])))
    have hnn : ((xs.length : Int) != (ys.length : Int)) = true := bne_iff_ne.2 (by omega)
    clear hl
    go_enter Try.func51, Try.ntmps51
    go_wp2_with fail
    go_ret
    exact ⟨by rw [HF.out]; rfl, Below.refl _ _⟩
  have hnn : ((xs.length : Int) != (ys.length : Int)) = false := by rw [hl]; simp
  have HLEN := Lib.hid hl
  clear hl
  go_enter Try.func51, Try.ntmps51
  go_wp2_with fail
  go_loopw [5] (fun i wr => ∃ k : Nat, k ≤ xs.length ∧ i = .int .i64 k ∧ Hid (∀ i (h1 : i < xs.length) (h2 : i < ys.length), i < k → xs[i]'h1 = ys[i]'h2) ∧ Hid (Below w.heap.size w wr)) (fun i _ => xs.length - (intOf i).toNat)
  case atStart => exact ⟨0, Nat.zero_le _, rfl, Lib.hid (fun _ _ _ h => absurd h (Nat.not_lt_zero _)), Lib.hid (Below.refl _ _)⟩
  case round =>
    obtain ⟨k, hk, rfl, HE, HB⟩ := hrel
    by_cases hlt : k < xs.length
    rotate_left
    · have HT := Lib.hid (sameB_yes (same_of_get HLEN.out (fun i h1 h2 => HE.out i h1 h2 (by omega))))
      go_wp2_with fail
      go_ret
      exact ⟨by rw [HT.out]; rfl, HB.out⟩
    have hlt2 : k < ys.length := by rw [← HLEN.out]; exact hlt
    obtain ⟨b2, o2, c2, hv2, hc2, hcell2⟩ := HX.out.some (by omega)
    simp only [Value.slice.injEq] at hv2
    obtain ⟨rfl, _, rfl⟩ := hv2
    obtain ⟨b3, o3, c3, hv3, hc3, hcell3⟩ := HY.out.some (by omega)
    simp only [Value.slice.injEq] at hv3
    obtain ⟨rfl, _, rfl⟩ := hv3
    obtain ⟨e1, e2, e3⟩ := (hcell2.below HB.out).at k hlt
    obtain ⟨e4, e5, e6⟩ := (hcell3.below HB.out).at k hlt2
    clear hcell2 hcell3 hc2 hc3
    have HLT := Lib.hid hlt
    have hi1 : (k : Int) < (xs.length : Int) := by omega
    have hi2 : (k : Int) < (ys.length : Int) := by omega
    have HNE : Hid (¬xs[k]'hlt = ys[k]'hlt2 → sameB xs ys = false) := Lib.hid (fun hne => sameB_no (fun e => hne (by subst e; rfl)))
    have HEQ : Hid (xs[k]'hlt = ys[k]'hlt2 → ∀ i (h1 : i < xs.length) (h2 : i < ys.length), i < k + 1 → xs[i]'h1 = ys[i]'h2) := Lib.hid (fun heq i h1 h2 hi => by
      by_cases e : i = k
      · subst e; exact heq
      · exact HE.out i h1 h2 (by omega))
    generalize xs[k]'hlt = x at *
    generalize ys[k]'hlt2 = y at *
    obtain ⟨kind, opt, vl⟩ := x
    obtain ⟨kind', opt', vl'⟩ := y
    simp only at e1 e2 e3 e4 e5 e6
    by_cases g0 : kind = kind'
    rotate_left
    · have HF := Lib.hid (HNE.out (fun e => g0 (by injection e)))
      have q0 : (kind == kind') = false := beq_eq_false_iff_ne.2 g0
      clear g0
      go_upto_region 6 with fail
      go_quiet (fail)
      all_goals
        go_wp2_with fail
        go_ret
        exact ⟨by rw [HF.out]; rfl, HB.out.trans (below_drewN (Below.refl _ _) _)⟩
    by_cases g1 : opt = opt'
    rotate_left
    · have HF := Lib.hid (HNE.out (fun e => g1 (by injection e)))
      have q0 : (kind == kind') = true := beq_iff_eq.2 g0
      have q1 := str_ne g1
      clear g0 g1
      go_upto_region 6 with fail
      go_quiet (fail)
      all_goals
        go_wp2_with fail
        go_ret
        exact ⟨by rw [HF.out]; rfl, HB.out.trans (below_drewN (Below.refl _ _) _)⟩
    by_cases g2 : vl = vl'
    rotate_left
    · have HF := Lib.hid (HNE.out (fun e => g2 (by injection e)))
      have q0 : (kind == kind') = true := beq_iff_eq.2 g0
      have q1 := str_eq g1
      have q2 := str_ne g2
      clear g0 g1 g2
      go_upto_region 6 with fail
      go_quiet (fail)
      all_goals
        go_wp2_with fail
        go_ret
        exact ⟨by rw [HF.out]; rfl, HB.out.trans (below_drewN (Below.refl _ _) _)⟩
    have HES := Lib.hid (HEQ.out (by rw [g0, g1, g2]))
    have q0 : (kind == kind') = true := beq_iff_eq.2 g0
    have q1 := str_eq g1
    have q2 := str_eq g2
    clear g0 g1 g2
    go_upto_region 6 with fail
    go_quiet (fail)
    all_goals
      go_wp2_with fail
      go_roundw
      case rel => exact ⟨k + 1, by have := HLT.out; omega, by go_num, HES, Lib.hid (HB.out.trans (below_drewN (Below.refl _ _) _))⟩
      case measure => have := HLT.out; simp [intOf]; omega
end Go.Proofs.Ytdhldokpojghdaa
