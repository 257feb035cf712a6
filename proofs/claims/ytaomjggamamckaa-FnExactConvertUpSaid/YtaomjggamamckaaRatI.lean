import Derived.Test.YtaomjggamamckaaRows
import Derived.Test.YtaomjggamamckaaRatM
import Derived.WalkKit
import Derived.WalkSpells
import Derived.WalkSmall
import Derived.BigQuiet
import Derived.Deep.QuietTactic
import Derived.Lib.Hide
import Derived.Deep.RegionHeld3
import Derived.BigRegion
import Derived.RegionTactic
import Derived.Deep.DeepCutAuto
import Derived.Deep.RegionWith
namespace Go.Proofs.Ytaomjggamamckaa.rat
open Go.RowKit

set_option maxRecDepth 100000 in
set_option maxHeartbeats 400000 in
theorem impl_gcd (n d : Int) (w : World) (hn0 : -9223372036854775807 ≤ n) (hn1 : n ≤ 9223372036854775807) (hd0 : -9223372036854775807 ≤ d) (hd1 : d ≤ 9223372036854775807) :
    Calls Try.prog 77 #[.int .i64 n, .int .i64 d] w fun e w' => e = .returned (.int .i64 (gi n d)) ∧ Below w.heap.size w w' := by
  go_enter Try.func77, Try.ntmps77
  go_wp2
  go_loopw [0, 1] (fun x y wr => ∃ a b : Int, x = .int .i64 a ∧ y = .int .i64 b ∧ (-9223372036854775807 ≤ a ∧ a ≤ 9223372036854775807) ∧ (-9223372036854775807 ≤ b ∧ b ≤ 9223372036854775807) ∧ Hid (gi a b = gi n d) ∧ Below w.heap.size w wr) (fun _ y _ => (intOf y).natAbs)
  case atStart => exact ⟨n, d, rfl, rfl, ⟨hn0, hn1⟩, ⟨hd0, hd1⟩, Lib.hid rfl, Below.refl _ _⟩
  case round =>
    obtain ⟨a, b, rfl, rfl, ⟨ha0, ha1⟩, ⟨hb0, hb1⟩, HG, hb⟩ := hrel
    clear hn0 hn1 hd0 hd1
    by_cases hz : b = 0
    · subst hz
      have HZ := Lib.hid (gi_zero a)
      by_cases hneg : a < 0
      · go_wp2
        go_ret
        exact ⟨ret_int (by rw [← HG.out, HZ.out, if_pos hneg]), hb⟩
      · go_wp2
        go_ret
        exact ⟨ret_int (by rw [← HG.out, HZ.out, if_neg (by omega)]), hb⟩
    · have HS := Lib.hid (gi_step a b)
      have HB := Lib.hid (step_bound (a := a) hz hb0 hb1)
      have HM := Lib.hid (tmod_abs_lt a hz)
      have hz1 : (b == 0) = false := beq_eq_false_iff_ne.2 hz
      have hz2 : (b != 0) = true := bne_iff_ne.2 hz
      go_wp2
      go_quiet (fail)
      go_wp2
      go_roundw
      case rel => exact ⟨b, _, rfl, rfl, ⟨hb0, hb1⟩, HB.out, Lib.hid (HS.out.trans HG.out), below_drewN hb _⟩
      case measure => exact HM.out
end Go.Proofs.Ytaomjggamamckaa.rat

namespace Go.Proofs.Ytaomjggamamckaa.rat
open Go.RowKit

theorem isTerm_any (n : Int) (w : World) :
    Calls Try.prog 76 #[.int .i64 n] w fun e w' => e = .returned (.bool (termB n)) ∧ w = w' := by
  by_cases h0 : -2000000000000000000 ≤ n
  · by_cases h1 : n ≤ 2000000000000000000
    · have HT : Hid (termB n = true) := Lib.hid (decide_eq_true ⟨h0, h1⟩)
      have d1 : decide (n ≤ 2000000000000000000) = true := decide_eq_true h1
      go_enter Try.func76, Try.ntmps76
      go_wp2
      go_ret
      exact ⟨ret_bool HT.out.symm, rfl⟩
    · have HT : Hid (termB n = false) := Lib.hid (decide_eq_false (by omega))
      have d1 : decide (n ≤ 2000000000000000000) = false := decide_eq_false h1
      go_enter Try.func76, Try.ntmps76
      go_wp2
      go_ret
      exact ⟨ret_bool HT.out.symm, rfl⟩
  · have HT : Hid (termB n = false) := Lib.hid (decide_eq_false (by omega))
    have d1 : decide (-2000000000000000000 ≤ n) = false := decide_eq_false h0
    go_enter Try.func76, Try.ntmps76
    go_wp2
    go_ret
    exact ⟨ret_bool HT.out.symm, rfl⟩
set_option maxRecDepth 100000 in
theorem inRange_any (n d : Int) (w : World) :
    Calls Try.prog 74 #[.agg #[.int .i64 n, .int .i64 d]] w fun e w' => e = .returned (.bool (rangeB n d)) ∧ Below w.heap.size w w' := by
  by_cases h0 : 1 ≤ d
  · by_cases h1 : d ≤ 1000000000
    · have d1 : decide (d ≤ 1000000000) = true := decide_eq_true h1
      by_cases h2 : -1000000000 ≤ n
      · by_cases h3 : n ≤ 1000000000
        · have HT : Hid (rangeB n d = true) := Lib.hid (decide_eq_true ⟨h0, h1, h2, h3⟩)
          have d2 : decide (n ≤ 1000000000) = true := decide_eq_true h3
          go_enter Try.func74, Try.ntmps74
          go_wp2
          go_ret
          exact ⟨ret_bool HT.out.symm, (Below.refl _ _).alloc (Nat.le_refl _) _⟩
        · have HT : Hid (rangeB n d = false) := Lib.hid (decide_eq_false (by omega))
          have d2 : decide (n ≤ 1000000000) = false := decide_eq_false h3
          go_enter Try.func74, Try.ntmps74
          go_wp2
          go_ret
          exact ⟨ret_bool HT.out.symm, (Below.refl _ _).alloc (Nat.le_refl _) _⟩
      · have HT : Hid (rangeB n d = false) := Lib.hid (decide_eq_false (by omega))
        have d2 : decide (-1000000000 ≤ n) = false := decide_eq_false h2
        go_enter Try.func74, Try.ntmps74
        go_wp2
        go_ret
        exact ⟨ret_bool HT.out.symm, (Below.refl _ _).alloc (Nat.le_refl _) _⟩
    · have HT : Hid (rangeB n d = false) := Lib.hid (decide_eq_false (by omega))
      have d1 : decide (d ≤ 1000000000) = false := decide_eq_false h1
      go_enter Try.func74, Try.ntmps74
      go_wp2
      go_ret
      exact ⟨ret_bool HT.out.symm, (Below.refl _ _).alloc (Nat.le_refl _) _⟩
  · have HT : Hid (rangeB n d = false) := Lib.hid (decide_eq_false (by omega))
    have d1 : decide (1 ≤ d) = false := decide_eq_false h0
    go_enter Try.func74, Try.ntmps74
    go_wp2
    go_ret
    exact ⟨ret_bool HT.out.symm, (Below.refl _ _).alloc (Nat.le_refl _) _⟩
end Go.Proofs.Ytaomjggamamckaa.rat

namespace Go.Proofs.Ytaomjggamamckaa.rat
open Go.RowKit

set_option maxRecDepth 100000 in
set_option maxHeartbeats 400000 in
theorem reduced_any (n d : Int) (w : World) (hn : -2000000000000000000 ≤ n ∧ n ≤ 2000000000000000000) (hd : -2000000000000000000 ≤ d ∧ d ≤ 2000000000000000000) (h0 : d ≠ 0) :
    Calls Try.prog 75 #[.agg #[.int .i64 n, .int .i64 d]] w (RatRes (redN n d, redD n d) w) := by
  have hg0 := gi_pos (n := n) h0
  have hg1 := gi_le (n := n) h0
  obtain ⟨hn0, hn1⟩ := hn
  obtain ⟨hd0, hd1⟩ := hd
  have hs : d < 0 ∨ 0 < d := by omega
  rcases hs with hs | hs
  · have HC := Lib.hid (cd_neg (n := n) hs)
    go_enter Try.func75, Try.ntmps75
    go_wp2_with fail
    refine (impl_gcd n d _ (by omega) (by omega) (by omega) (by omega)).mono ?_
    rintro e w1 ⟨rfl, hb⟩
    have HR : Hid ((redN n d, redD n d) = (-n.tdiv (gi n d), -d.tdiv (gi n d))) := Lib.hid (by unfold redN redD; rw [HC.out, Int.tdiv_neg, Int.tdiv_neg])
    clear HC
    have hg2 : gi n d ≤ 2000000000000000000 := by omega
    clear hg1 h0
    generalize gi n d = g at *
    have q0 := tdiv_bound n hg0 hn0 hn1
    have q1 := tdiv_bound d hg0 hd0 hd1
    have hb0 : w1.heap[w.heap.size]? = some (.cells #[.int .i64 n, .int .i64 d] 28 (0, 0)) := blk_keep (heap_alloc2_old w _ _) hb (by simp; omega)
    have hb1 : w1.heap[w.heap.size + 1]? = some (.cells #[.int .i64 0, .int .i64 0] 28 (0, 0)) := blk_keep (heap_alloc2_new w _ _) hb (by simp)
    have c0 := cell_of_row w1 _ 0 _ _ _ hb0
    have c1 := cell_of_row w1 _ 1 _ _ _ hb0
    have r0 := cell_of_row w1 _ 0 _ _ _ hb1
    have r1 := cell_of_row w1 _ 1 _ _ _ hb1
    have f0 := frozen_of_row w1 _ 0 _ _ hb1
    have f1 := frozen_of_row w1 _ 1 _ _ hb1
    have HB := Lib.hid ((((Below.refl _ _).alloc (Nat.le_refl _) _).alloc (by simp) _).trans (hb.mono (by simp; omega)))
    clear hb
    go_wp2_with fail
    go_region
    all_goals
      go_wp2
      exact bodyPost_ret (v := .agg #[.int .i64 (-n.tdiv g), .int .i64 (-d.tdiv g)]) (results_cell_row Try.results75 _ _ _ _ _ _ _ rfl (blk_set2 hb1) Try.underlying28 rfl (by kernel_rfl)) rfl ⟨_, _, rfl, HR, ((HB.out.setCell (by simp) _).setCell (by simp) _).drew⟩
  · have HC := Lib.hid (cd_pos (n := n) hs)
    go_enter Try.func75, Try.ntmps75
    go_wp2_with fail
    refine (impl_gcd n d _ (by omega) (by omega) (by omega) (by omega)).mono ?_
    rintro e w1 ⟨rfl, hb⟩
    have HR : Hid ((redN n d, redD n d) = (n.tdiv (gi n d), d.tdiv (gi n d))) := Lib.hid (by unfold redN redD; rw [HC.out])
    clear HC
    have hg2 : gi n d ≤ 2000000000000000000 := by omega
    clear hg1 h0
    generalize gi n d = g at *
    have q0 := tdiv_bound n hg0 hn0 hn1
    have q1 := tdiv_bound d hg0 hd0 hd1
    have hb0 : w1.heap[w.heap.size]? = some (.cells #[.int .i64 n, .int .i64 d] 28 (0, 0)) := blk_keep (heap_alloc2_old w _ _) hb (by simp; omega)
    have hb1 : w1.heap[w.heap.size + 1]? = some (.cells #[.int .i64 0, .int .i64 0] 28 (0, 0)) := blk_keep (heap_alloc2_new w _ _) hb (by simp)
    have c0 := cell_of_row w1 _ 0 _ _ _ hb0
    have c1 := cell_of_row w1 _ 1 _ _ _ hb0
    have r0 := cell_of_row w1 _ 0 _ _ _ hb1
    have r1 := cell_of_row w1 _ 1 _ _ _ hb1
    have f0 := frozen_of_row w1 _ 0 _ _ hb1
    have f1 := frozen_of_row w1 _ 1 _ _ hb1
    have HB := Lib.hid ((((Below.refl _ _).alloc (Nat.le_refl _) _).alloc (by simp) _).trans (hb.mono (by simp; omega)))
    clear hb
    go_wp2_with fail
    go_region
    all_goals
      go_wp2
      exact bodyPost_ret (v := .agg #[.int .i64 (n.tdiv g), .int .i64 (d.tdiv g)]) (results_cell_row Try.results75 _ _ _ _ _ _ _ rfl (blk_set2 hb1) Try.underlying28 rfl (by kernel_rfl)) rfl ⟨_, _, rfl, HR, ((HB.out.setCell (by simp) _).setCell (by simp) _).drew⟩
end Go.Proofs.Ytaomjggamamckaa.rat

namespace Go.Proofs.Ytaomjggamamckaa.rat
open Go.RowKit

theorem inRange_yes (n d : Int) (w : World) (h : rangeB n d = true) :
    Calls Try.prog 74 #[.agg #[.int .i64 n, .int .i64 d]] w fun e w' => e = .returned (.bool true) ∧ Below w.heap.size w w' := h ▸ inRange_any n d w
theorem inRange_no (n d : Int) (w : World) (h : rangeB n d = false) :
    Calls Try.prog 74 #[.agg #[.int .i64 n, .int .i64 d]] w fun e w' => e = .returned (.bool false) ∧ Below w.heap.size w w' := h ▸ inRange_any n d w
set_option maxRecDepth 100000 in
set_option maxHeartbeats 400000 in
theorem impl_isRatio (n d : Int) (w : World) :
    Calls Try.prog 64 #[.agg #[.int .i64 n, .int .i64 d]] w fun e w' => e = .returned (.bool (okB n d)) ∧ Below w.heap.size w w' := by
  obtain ⟨b, hr⟩ : ∃ b, rangeB n d = b := ⟨_, rfl⟩
  cases b
  · have HO := Lib.hid (okB_no_range hr)
    have HR := Lib.hid hr
    clear hr
    go_enter Try.func64, Try.ntmps64
    go_wp2_with fail
    have c0 : (w.alloc (.cells #[.int .i64 n, .int .i64 d] 28)).drew.cell? ⟨w.heap.size, 0, none⟩ = some (.int .i64 n) := cell_of_row _ _ 0 _ _ _ (heap_alloc_new w _)
    have c1 : (w.alloc (.cells #[.int .i64 n, .int .i64 d] 28)).drew.cell? ⟨w.heap.size, 1, none⟩ = some (.int .i64 d) := cell_of_row _ _ 1 _ _ _ (heap_alloc_new w _)
    have HB := Lib.hid (((Below.refl w.heap.size w).alloc (Nat.le_refl _) (.cells #[.int .i64 n, .int .i64 d] 28)).drew)
    go_region_with (first | (go_at_call 74; refine (inRange_no n d _ HR.out).mono ?_; rintro e w' ⟨rfl, hb⟩; have HB2 := Lib.hid (held_b HB.out hb); have k0 := held_c c0 hb; have k1 := held_c c1 hb; clear hb))
    all_goals
      go_wp2_with fail
      go_ret
      exact ⟨ret_bool HO.out.symm, HB2.out⟩
  · have hrng := rangeB_true hr
    have hself := red_self hr
    obtain ⟨k, hk⟩ : ∃ k, okB n d = k := ⟨_, rfl⟩
    cases k
    · have HO := Lib.hid hk
      have HY := Lib.hid (hself.2 hk)
      have HR := Lib.hid hr
      clear hk hr hself
      obtain ⟨q0, q1, q2, q3⟩ := hrng
      go_enter Try.func64, Try.ntmps64
      go_wp2_with fail
      have c0 : (w.alloc (.cells #[.int .i64 n, .int .i64 d] 28)).drew.cell? ⟨w.heap.size, 0, none⟩ = some (.int .i64 n) := cell_of_row _ _ 0 _ _ _ (heap_alloc_new w _)
      have c1 : (w.alloc (.cells #[.int .i64 n, .int .i64 d] 28)).drew.cell? ⟨w.heap.size, 1, none⟩ = some (.int .i64 d) := cell_of_row _ _ 1 _ _ _ (heap_alloc_new w _)
      have HB := Lib.hid (((Below.refl w.heap.size w).alloc (Nat.le_refl _) (.cells #[.int .i64 n, .int .i64 d] 28)).drew)
      go_region_with (first | (go_at_call 74; refine (inRange_yes n d _ HR.out).mono ?_; rintro e w' ⟨rfl, hb⟩; have HB2 := Lib.hid (held_b HB.out hb); have k0 := held_c c0 hb; have k1 := held_c c1 hb; clear hb) | (go_at_call 75; refine (reduced_any n d _ (by omega) (by omega) (by omega)).mono ?_; rintro e w'' ⟨x, y, rfl, hxy, hb⟩; have HB3 := Lib.hid (held_b HB2.out hb); have j0 := held_c k0 hb; have j1 := held_c k1 hb; clear hb; have hdy : (d == y) = false := by (have h1 := HY.out; have h2 : redD n d = y := congrArg Prod.snd hxy.out; rw [h2] at h1; exact beq_eq_false_iff_ne.2 (fun e => h1 e.symm))))
      all_goals
        go_wp2_with fail
        go_ret
        exact ⟨ret_bool HO.out.symm, HB3.out⟩
    · have HO := Lib.hid hk
      have HY := Lib.hid (hself.1 hk)
      have HR := Lib.hid hr
      clear hk hr hself
      obtain ⟨q0, q1, q2, q3⟩ := hrng
      go_enter Try.func64, Try.ntmps64
      go_wp2_with fail
      have c0 : (w.alloc (.cells #[.int .i64 n, .int .i64 d] 28)).drew.cell? ⟨w.heap.size, 0, none⟩ = some (.int .i64 n) := cell_of_row _ _ 0 _ _ _ (heap_alloc_new w _)
      have c1 : (w.alloc (.cells #[.int .i64 n, .int .i64 d] 28)).drew.cell? ⟨w.heap.size, 1, none⟩ = some (.int .i64 d) := cell_of_row _ _ 1 _ _ _ (heap_alloc_new w _)
      have HB := Lib.hid (((Below.refl w.heap.size w).alloc (Nat.le_refl _) (.cells #[.int .i64 n, .int .i64 d] 28)).drew)
      go_region_with (first | (go_at_call 74; refine (inRange_yes n d _ HR.out).mono ?_; rintro e w' ⟨rfl, hb⟩; have HB2 := Lib.hid (held_b HB.out hb); have k0 := held_c c0 hb; have k1 := held_c c1 hb; clear hb) | (go_at_call 75; refine (reduced_any n d _ (by omega) (by omega) (by omega)).mono ?_; rintro e w'' ⟨x, y, rfl, hxy, hb⟩; have HB3 := Lib.hid (held_b HB2.out hb); have j0 := held_c k0 hb; have j1 := held_c k1 hb; clear hb; obtain rfl : n = x := HY.out.1.symm.trans (congrArg Prod.fst hxy.out); obtain rfl : d = y := HY.out.2.symm.trans (congrArg Prod.snd hxy.out)))
      all_goals
        go_wp2_with fail
        go_ret
        exact ⟨ret_bool HO.out.symm, HB3.out⟩
end Go.Proofs.Ytaomjggamamckaa.rat

namespace Go.Proofs.Ytaomjggamamckaa.rat
open Go.RowKit


end Go.Proofs.Ytaomjggamamckaa.rat

namespace Go.Proofs.Ytaomjggamamckaa.rat
open Go.RowKit

theorem isTerm_is (n : Int) (w : World) (b : Bool) (h : termB n = b) :
    Calls Try.prog 76 #[.int .i64 n] w fun e w' => e = .returned (.bool b) ∧ w = w' := h ▸ isTerm_any n w
theorem inRange_is (n d : Int) (w : World) (b : Bool) (h : rangeB n d = b) :
    Calls Try.prog 74 #[.agg #[.int .i64 n, .int .i64 d]] w fun e w' => e = .returned (.bool b) ∧ Below w.heap.size w w' := h ▸ inRange_any n d w
set_option maxRecDepth 100000 in
set_option maxHeartbeats 400000 in
theorem impl_make (n d : Int) (w : World) :
    Calls Try.prog 73 #[.int .i64 n, .int .i64 d] w (RatRes (mkR n d) w) := by
  by_cases hd : d = 0
  · subst hd
    have HM := Lib.hid (mkR_no (n := n) (d := 0) (Or.inl rfl))
    go_enter Try.func73, Try.ntmps73
    go_wp2_with fail
    exact bodyPost_ret (v := .agg #[.int .i64 0, .int .i64 0]) (results_cell_row Try.results73 _ _ _ _ _ _ _ rfl (heap_alloc_new _ _) Try.underlying28 rfl (by kernel_rfl)) rfl ⟨_, _, rfl, HM, (Below.refl _ _).alloc (Nat.le_refl _) _⟩
  · have hd0 : (d == 0) = false := beq_eq_false_iff_ne.2 hd
    obtain ⟨bn, hbn⟩ : ∃ b, termB n = b := ⟨_, rfl⟩
    cases bn
    · have HM := Lib.hid (mkR_no (n := n) (d := d) (Or.inr (Or.inl hbn)))
      have HN := Lib.hid hbn
      clear hbn
      go_enter Try.func73, Try.ntmps73
      go_wp2_with fail
      refine (isTerm_is n _ _ HN.out).mono ?_
      rintro e w1 ⟨rfl, rfl⟩
      go_wp2_with fail
      exact bodyPost_ret (v := .agg #[.int .i64 0, .int .i64 0]) (results_cell_row Try.results73 _ _ _ _ _ _ _ rfl (heap_alloc_new _ _) Try.underlying28 rfl (by kernel_rfl)) rfl ⟨_, _, rfl, HM, (Below.refl _ _).alloc (Nat.le_refl _) _⟩
    · obtain ⟨bd, hbd⟩ : ∃ b, termB d = b := ⟨_, rfl⟩
      cases bd
      · have HM := Lib.hid (mkR_no (n := n) (d := d) (Or.inr (Or.inr hbd)))
        have HN := Lib.hid hbn
        have HD := Lib.hid hbd
        clear hbn hbd
        go_enter Try.func73, Try.ntmps73
        go_wp2_with fail
        refine (isTerm_is n _ _ HN.out).mono ?_
        rintro e w1 ⟨rfl, rfl⟩
        go_wp2_with fail
        refine (isTerm_is d _ _ HD.out).mono ?_
        rintro e w1 ⟨rfl, rfl⟩
        go_wp2_with fail
        exact bodyPost_ret (v := .agg #[.int .i64 0, .int .i64 0]) (results_cell_row Try.results73 _ _ _ _ _ _ _ rfl (heap_alloc_new _ _) Try.underlying28 rfl (by kernel_rfl)) rfl ⟨_, _, rfl, HM, (Below.refl _ _).alloc (Nat.le_refl _) _⟩
      · have HN := Lib.hid hbn
        have HD := Lib.hid hbd
        have HK := Lib.hid (red_ok (n := n) hd)
        clear hbn hbd
        go_enter Try.func73, Try.ntmps73
        go_wp2_with fail
        refine (isTerm_is n _ _ HN.out).mono ?_
        rintro e w1 ⟨rfl, rfl⟩
        go_wp2_with fail
        refine (isTerm_is d _ _ HD.out).mono ?_
        rintro e w1 ⟨rfl, rfl⟩
        go_wp2_with fail
        refine (reduced_any n d _ (termB_true HN.out) (termB_true HD.out) hd).mono ?_
        rintro e w1 ⟨x, y, rfl, HX, hb⟩
        have hb0 : w1.heap[w.heap.size]? = some (.cells #[.int .i64 0, .int .i64 0] 28 (0, 0)) := blk_keep (heap_alloc_new w _) hb (by simp)
        have B1 := Lib.hid (((Below.refl _ _).alloc (Nat.le_refl _) _).trans (hb.mono (by simp)))
        have hz1 : w.heap.size < w1.heap.size := by have := hb.size; simp at this; omega
        have HX1 := Lib.hid hb0
        clear hb hb0
        have HKX : Hid (okB x y = rangeB x y) := Lib.hid (by have h1 := HK.out; have h2 : redN n d = x := congrArg Prod.fst HX.out; have h3 : redD n d = y := congrArg Prod.snd HX.out; rw [h2, h3] at h1; exact h1)
        have HMX : Hid (okB (redN n d) (redD n d) = okB x y) := Lib.hid (by have h2 : redN n d = x := congrArg Prod.fst HX.out; have h3 : redD n d = y := congrArg Prod.snd HX.out; rw [h2, h3])
        obtain ⟨br, hbr⟩ : ∃ b, rangeB x y = b := ⟨_, rfl⟩
        have HR := Lib.hid hbr
        clear hbr HK
        go_wp2_with fail
        refine (inRange_is x y _ br HR.out).mono ?_
        rintro e w2 ⟨rfl, hb⟩
        have hb0 : w2.heap[w.heap.size]? = some (.cells #[.int .i64 0, .int .i64 0] 28 (0, 0)) := blk_keep ((Below.heap_alloc w1 _ _ hz1).trans HX1.out) hb (by simp; omega)
        have hb1 : w2.heap[w1.heap.size]? = some (.cells #[.int .i64 x, .int .i64 y] 28 (0, 0)) := blk_keep (heap_alloc_new w1 _) hb (by simp)
        have c0 := cell_of_row w2 _ 0 _ _ _ hb1
        have c1 := cell_of_row w2 _ 1 _ _ _ hb1
        have r0 := cell_of_row w2 _ 0 _ _ _ hb0
        have r1 := cell_of_row w2 _ 1 _ _ _ hb0
        have f0 := frozen_of_row w2 _ 0 _ _ hb0
        have f1 := frozen_of_row w2 _ 1 _ _ hb0
        have B2 := Lib.hid ((B1.out.alloc (by omega) _).trans (hb.mono (by simp; omega)))
        clear hb
        cases br
        · have HM : Hid (mkR n d = (0, 0)) := Lib.hid (mkR_out (HMX.out.trans (HKX.out.trans HR.out)))
          go_wp2_with fail
          exact bodyPost_ret (v := .agg #[.int .i64 0, .int .i64 0]) (results_cell_row Try.results73 _ _ _ _ _ _ _ rfl (blk_set2 hb0) Try.underlying28 rfl (by kernel_rfl)) rfl ⟨_, _, rfl, HM, (B2.out.setCell (by simp) _).setCell (by simp) _⟩
        · have HM : Hid (mkR n d = (x, y)) := Lib.hid ((mkR_in hd HN.out HD.out (HMX.out.trans (HKX.out.trans HR.out))).trans HX.out)
          go_wp2_with fail
          exact bodyPost_ret (v := .agg #[.int .i64 x, .int .i64 y]) (results_cell_row Try.results73 _ _ _ _ _ _ _ rfl (blk_set2 hb0) Try.underlying28 rfl (by kernel_rfl)) rfl ⟨_, _, rfl, HM, (B2.out.setCell (by simp) _).setCell (by simp) _⟩
end Go.Proofs.Ytaomjggamamckaa.rat

namespace Go.Proofs.Ytaomjggamamckaa.rat
open Go.RowKit

theorem impl_isRatio_is (n d : Int) (w : World) (b : Bool) (h : okB n d = b) :
    Calls Try.prog 64 #[.agg #[.int .i64 n, .int .i64 d]] w fun e w' => e = .returned (.bool b) ∧ Below w.heap.size w w' := h ▸ impl_isRatio n d w
end Go.Proofs.Ytaomjggamamckaa.rat

namespace Go.Proofs.Ytaomjggamamckaa.rat
open Go.RowKit


set_option maxRecDepth 100000 in
set_option maxHeartbeats 800000 in
theorem impl_mul (a b c d : Int) (w : World) : Calls Try.prog 63 #[.agg #[.int .i64 a, .int .i64 b], .agg #[.int .i64 c, .int .i64 d]] w (RatRes (mulR a b c d) w) := by
  rcases Bool.eq_false_or_eq_true (okB a b) with hA | hA
  rotate_left
  · have HA := Lib.hid hA
    have HM := Lib.hid (mulR_no1 (c := c) (d := d) hA)
    clear hA
    go_enter Try.func63, Try.ntmps63
    go_wp2_with fail
    refine (impl_isRatio_is a b _ _ HA.out).mono ?_
    rintro e w1 ⟨rfl, hb⟩
    have H1 := Lib.hid ((box2 w a b c d).keep hb)
    clear hb
    obtain ⟨c0, c1, c2, c3, r0, r1, f0, f1⟩ := H1.out.cells
    go_wp2_with fail
    exact bodyPost_ret (v := .agg #[.int .i64 0, .int .i64 0]) (results_cell_row Try.results63 _ _ _ _ _ _ _ rfl (blk_set2 H1.out.r) Try.underlying28 rfl (by kernel_rfl)) rfl ⟨_, _, rfl, HM, H1.out.set _ _⟩
  rcases Bool.eq_false_or_eq_true (okB c d) with hC | hC
  rotate_left
  · have HA := Lib.hid hA
    have HC := Lib.hid hC
    have HM := Lib.hid (mulR_no2 (a := a) (b := b) hC)
    clear hA hC
    go_enter Try.func63, Try.ntmps63
    go_wp2_with fail
    refine (impl_isRatio_is a b _ _ HA.out).mono ?_
    rintro e w1 ⟨rfl, hb⟩
    have H1 := Lib.hid ((box2 w a b c d).keep hb)
    clear hb
    obtain ⟨c0, c1, c2, c3, r0, r1, f0, f1⟩ := H1.out.cells
    go_wp2_with fail
    refine (impl_isRatio_is c d _ _ HC.out).mono ?_
    rintro e w2 ⟨rfl, hb⟩
    have H2 := Lib.hid (H1.out.keep hb)
    clear hb c0 c1 c2 c3 r0 r1 f0 f1
    obtain ⟨c0, c1, c2, c3, r0, r1, f0, f1⟩ := H2.out.cells
    go_wp2_with fail
    exact bodyPost_ret (v := .agg #[.int .i64 0, .int .i64 0]) (results_cell_row Try.results63 _ _ _ _ _ _ _ rfl (blk_set2 H2.out.r) Try.underlying28 rfl (by kernel_rfl)) rfl ⟨_, _, rfl, HM, H2.out.set _ _⟩
  · have HA := Lib.hid hA
    have HC := Lib.hid hC
    have HE := Lib.hid (mulR_yes hA hC)
    obtain ⟨p0, p1, p2, p3, p4⟩ := prods hA hC
    clear hA hC
    go_enter Try.func63, Try.ntmps63
    go_wp2_with fail
    refine (impl_isRatio_is a b _ _ HA.out).mono ?_
    rintro e w1 ⟨rfl, hb⟩
    have H1 := Lib.hid ((box2 w a b c d).keep hb)
    clear hb
    obtain ⟨c0, c1, c2, c3, r0, r1, f0, f1⟩ := H1.out.cells
    go_wp2_with fail
    refine (impl_isRatio_is c d _ _ HC.out).mono ?_
    rintro e w2 ⟨rfl, hb⟩
    have H2 := Lib.hid (H1.out.keep hb)
    clear hb c0 c1 c2 c3 r0 r1 f0 f1
    obtain ⟨c0, c1, c2, c3, r0, r1, f0, f1⟩ := H2.out.cells
    go_wp2_with fail
    refine (impl_make (a * c) (b * d) _).mono ?_
    rintro e w3 ⟨x, y, rfl, HX, hb⟩
    have H3 := Lib.hid (H2.out.keep hb)
    have HM : Hid (mulR a b c d = (x, y)) := Lib.hid (HE.out.trans HX.out)
    clear hb c0 c1 c2 c3 r0 r1 f0 f1
    obtain ⟨c0, c1, c2, c3, r0, r1, f0, f1⟩ := H3.out.cells
    go_wp2_with fail
    exact bodyPost_ret (v := .agg #[.int .i64 x, .int .i64 y]) (results_cell_row Try.results63 _ _ _ _ _ _ _ rfl (blk_set2 H3.out.r) Try.underlying28 rfl (by kernel_rfl)) rfl ⟨_, _, rfl, HM, H3.out.set _ _⟩
end Go.Proofs.Ytaomjggamamckaa.rat
