/-
  The walks of the tests on ratios: the model's and the program's answer okB, rangeB, termB.
-/
import Derived.Test.YtebngdinhhhkeaaRows
import Derived.Test.YtebngdinhhhkeaaRatLib
import Derived.Test.YtebngdinhhhkeaaRatGcd
import Derived.WalkKit
import Derived.WalkSpells
import Derived.WalkSmall
import Derived.BigQuiet
import Derived.Deep.QuietTactic
import Derived.Deep.RegionHeld3
import Derived.Lib.Hide
namespace Go.Proofs.Ytebngdinhhhkeaa.rat
open Go.RowKit

theorem ret_bool {a b : Bool} (h : a = b) : Ending.returned (.bool a) = .returned (.bool b) := by rw [h]

theorem l1_in_yes (x lo hi : Int) (w : World) (h0 : lo ≤ x) (h1 : x ≤ hi) :
    Calls Try.prog 40 #[.int .i64 x, .int .i64 lo, .int .i64 hi] w fun e w' => e = .returned (.bool true) ∧ w = w' := by
  have d1 : decide (x ≤ hi) = true := decide_eq_true h1
  go_enter Try.func40, Try.ntmps40
  go_wp2
  go_ret
  exact ⟨rfl, rfl⟩
theorem l1_in_no (x lo hi : Int) (w : World) (h : x < lo ∨ hi < x) :
    Calls Try.prog 40 #[.int .i64 x, .int .i64 lo, .int .i64 hi] w fun e w' => e = .returned (.bool false) ∧ w = w' := by
  by_cases h0 : x < lo
  · have d0 : decide (lo ≤ x) = false := decide_eq_false (by omega)
    go_enter Try.func40, Try.ntmps40
    go_wp2
    go_ret
    exact ⟨rfl, rfl⟩
  · have d0 : decide (lo ≤ x) = true := decide_eq_true (by omega)
    have d1 : decide (x ≤ hi) = false := decide_eq_false (by omega)
    go_enter Try.func40, Try.ntmps40
    go_wp2
    go_ret
    exact ⟨rfl, rfl⟩

theorem isTerm_any (n : Int) (w : World) :
    Calls Try.prog 47 #[.int .i64 n] w fun e w' => e = .returned (.bool (termB n)) ∧ w = w' := by
  by_cases h0 : -2000000000000000000 ≤ n
  · by_cases h1 : n ≤ 2000000000000000000
    · have HT : Hid (termB n = true) := Lib.hid (decide_eq_true ⟨h0, h1⟩)
      have d1 : decide (n ≤ 2000000000000000000) = true := decide_eq_true h1
      go_enter Try.func47, Try.ntmps47
      go_wp2
      go_ret
      exact ⟨ret_bool HT.out.symm, rfl⟩
    · have HT : Hid (termB n = false) := Lib.hid (decide_eq_false (by omega))
      have d1 : decide (n ≤ 2000000000000000000) = false := decide_eq_false h1
      go_enter Try.func47, Try.ntmps47
      go_wp2
      go_ret
      exact ⟨ret_bool HT.out.symm, rfl⟩
  · have HT : Hid (termB n = false) := Lib.hid (decide_eq_false (by omega))
    have d1 : decide (-2000000000000000000 ≤ n) = false := decide_eq_false h0
    go_enter Try.func47, Try.ntmps47
    go_wp2
    go_ret
    exact ⟨ret_bool HT.out.symm, rfl⟩

set_option maxRecDepth 100000 in
theorem inRange_any (n d : Int) (w : World) :
    Calls Try.prog 45 #[.agg #[.int .i64 n, .int .i64 d]] w fun e w' => e = .returned (.bool (rangeB n d)) ∧ Below w.heap.size w w' := by
  by_cases h0 : 1 ≤ d
  · by_cases h1 : d ≤ 1000000000
    · have d1 : decide (d ≤ 1000000000) = true := decide_eq_true h1
      by_cases h2 : -1000000000 ≤ n
      · by_cases h3 : n ≤ 1000000000
        · have HT : Hid (rangeB n d = true) := Lib.hid (decide_eq_true ⟨h0, h1, h2, h3⟩)
          have d2 : decide (n ≤ 1000000000) = true := decide_eq_true h3
          go_enter Try.func45, Try.ntmps45
          go_wp2
          go_ret
          exact ⟨ret_bool HT.out.symm, (Below.refl _ _).alloc (Nat.le_refl _) _⟩
        · have HT : Hid (rangeB n d = false) := Lib.hid (decide_eq_false (by omega))
          have d2 : decide (n ≤ 1000000000) = false := decide_eq_false h3
          go_enter Try.func45, Try.ntmps45
          go_wp2
          go_ret
          exact ⟨ret_bool HT.out.symm, (Below.refl _ _).alloc (Nat.le_refl _) _⟩
      · have HT : Hid (rangeB n d = false) := Lib.hid (decide_eq_false (by omega))
        have d2 : decide (-1000000000 ≤ n) = false := decide_eq_false h2
        go_enter Try.func45, Try.ntmps45
        go_wp2
        go_ret
        exact ⟨ret_bool HT.out.symm, (Below.refl _ _).alloc (Nat.le_refl _) _⟩
    · have HT : Hid (rangeB n d = false) := Lib.hid (decide_eq_false (by omega))
      have d1 : decide (d ≤ 1000000000) = false := decide_eq_false h1
      go_enter Try.func45, Try.ntmps45
      go_wp2
      go_ret
      exact ⟨ret_bool HT.out.symm, (Below.refl _ _).alloc (Nat.le_refl _) _⟩
  · have HT : Hid (rangeB n d = false) := Lib.hid (decide_eq_false (by omega))
    have d1 : decide (1 ≤ d) = false := decide_eq_false h0
    go_enter Try.func45, Try.ntmps45
    go_wp2
    go_ret
    exact ⟨ret_bool HT.out.symm, (Below.refl _ _).alloc (Nat.le_refl _) _⟩

set_option maxRecDepth 100000 in
set_option maxHeartbeats 400000 in
theorem spec_isRatio (n d : Int) (w : World) :
    Calls Try.prog 20 #[.agg #[.int .i64 n, .int .i64 d]] w fun e w' => e = .returned (.bool (okB n d)) ∧ Below w.heap.size w w' := by
  by_cases h0 : 1 ≤ d ∧ d ≤ 1000000000
  · obtain ⟨h0, h1⟩ := h0
    by_cases h2 : -1000000000 ≤ n ∧ n ≤ 1000000000
    · obtain ⟨h2, h3⟩ := h2
      go_enter Try.func20, Try.ntmps20
      go_wp2_with fail
      refine (l1_in_yes _ _ _ _ h0 h1).mono ?_
      rintro e w1 ⟨rfl, rfl⟩
      go_wp2_with fail
      refine (l1_in_yes _ _ _ _ h2 h3).mono ?_
      rintro e w1 ⟨rfl, rfl⟩
      go_wp2_with fail
      refine (spec_gcd _ _ _ (by omega) (by omega) (by omega) (by omega)).mono ?_
      rintro e w1 ⟨rfl, hb⟩
      have HO : Hid (okB n d = (gi n d == 1)) := Lib.hid (by unfold okB; rw [Bool.eq_iff_iff, decide_eq_true_iff, beq_iff_eq]; exact ⟨fun a => a.2, fun a => ⟨⟨h0, h1, h2, h3⟩, a⟩⟩)
      have HB := Lib.hid (((Below.refl _ _).alloc (Nat.le_refl _) _).trans (hb.mono (by simp)))
      clear hb
      generalize gi n d = g at *
      go_wp2_with fail
      go_ret
      exact ⟨ret_bool HO.out.symm, HB.out⟩
    · have HO : Hid (okB n d = false) := Lib.hid (okB_no_range (decide_eq_false (by omega)))
      go_enter Try.func20, Try.ntmps20
      go_wp2_with fail
      refine (l1_in_yes _ _ _ _ h0 h1).mono ?_
      rintro e w1 ⟨rfl, rfl⟩
      go_wp2_with fail
      refine (l1_in_no _ _ _ _ (by omega)).mono ?_
      rintro e w1 ⟨rfl, rfl⟩
      go_wp2_with fail
      go_ret
      exact ⟨ret_bool HO.out.symm, (Below.refl _ _).alloc (Nat.le_refl _) _⟩
  · have HO : Hid (okB n d = false) := Lib.hid (okB_no_range (decide_eq_false (by omega)))
    go_enter Try.func20, Try.ntmps20
    go_wp2_with fail
    refine (l1_in_no _ _ _ _ (by omega)).mono ?_
    rintro e w1 ⟨rfl, rfl⟩
    go_wp2_with fail
    go_ret
    exact ⟨ret_bool HO.out.symm, (Below.refl _ _).alloc (Nat.le_refl _) _⟩
end Go.Proofs.Ytebngdinhhhkeaa.rat
