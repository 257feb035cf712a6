/-
  The walks of negation, comparison and rounding of ratios, the program's and the model's.
-/
import Derived.Test.YtebngdinhhhkeaaRows
import Derived.Test.YtebngdinhhhkeaaRatLib
import Derived.Test.YtebngdinhhhkeaaRatAlg
import Derived.Test.YtebngdinhhhkeaaRatGcd
import Derived.Test.YtebngdinhhhkeaaRatIs
import Derived.Test.YtebngdinhhhkeaaRatRed
import Derived.Test.YtebngdinhhhkeaaRatIsImpl
import Derived.Test.YtebngdinhhhkeaaRatMake
import Derived.Test.YtebngdinhhhkeaaRatMakeSpec
import Derived.Test.YtebngdinhhhkeaaRatBox
import Derived.Test.YtebngdinhhhkeaaRatOps
import Derived.WalkKit
import Derived.WalkSpells
import Derived.WalkSmall
import Derived.Lib.Hide
namespace Go.Proofs.Ytebngdinhhhkeaa.rat
open Go.RowKit


theorem cmpV_lt {x y : Int} (h : x < y) : cmpV x y = -1 := by unfold cmpV; rw [if_pos h]
theorem cmpV_gt {x y : Int} (h : y < x) : cmpV x y = 1 := by unfold cmpV; rw [if_neg (by omega), if_pos h]
theorem cmpV_eq {x y : Int} (h1 : ¬ x < y) (h2 : ¬ y < x) : cmpV x y = 0 := by unfold cmpV; rw [if_neg h1, if_neg h2]

theorem isNaN_int (x : Int) (w : World) : Calls Try.prog 49 #[.int .i64 x] w fun e w' => e = .returned (.bool false) ∧ w = w' := by
  have hx : (x != x) = false := by simp
  go_enter Try.func49, Try.ntmps49
  go_wp2
  go_ret
  exact ⟨rfl, rfl⟩
theorem cmp_int (x y : Int) (w : World) : Calls Try.prog 42 #[.int .i64 x, .int .i64 y] w fun e w' => e = .returned (.int .i64 (cmpV x y)) ∧ w = w' := by
  rcases Int.lt_trichotomy x y with h | h | h
  · have HV := Lib.hid (cmpV_lt h)
    go_enter Try.func42, Try.ntmps42
    go_wp2_with fail
    refine (isNaN_int x _).mono ?_
    rintro e w1 ⟨rfl, rfl⟩
    go_wp2_with fail
    refine (isNaN_int y _).mono ?_
    rintro e w1 ⟨rfl, rfl⟩
    go_wp2_with fail
    go_ret
    exact ⟨ret_int HV.out.symm, rfl⟩
  · have h1 : ¬ x < y := by omega
    have h2 : ¬ y < x := by omega
    have HV := Lib.hid (cmpV_eq h1 h2)
    clear h
    go_enter Try.func42, Try.ntmps42
    go_wp2_with fail
    refine (isNaN_int x _).mono ?_
    rintro e w1 ⟨rfl, rfl⟩
    go_wp2_with fail
    refine (isNaN_int y _).mono ?_
    rintro e w1 ⟨rfl, rfl⟩
    go_wp2_with fail
    go_ret
    exact ⟨ret_int HV.out.symm, rfl⟩
  · have h1 : ¬ x < y := by omega
    have HV := Lib.hid (cmpV_gt h)
    go_enter Try.func42, Try.ntmps42
    go_wp2_with fail
    refine (isNaN_int x _).mono ?_
    rintro e w1 ⟨rfl, rfl⟩
    go_wp2_with fail
    refine (isNaN_int y _).mono ?_
    rintro e w1 ⟨rfl, rfl⟩
    go_wp2_with fail
    go_ret
    exact ⟨ret_int HV.out.symm, rfl⟩

set_option maxRecDepth 100000 in
set_option maxHeartbeats 400000 in
theorem spec_floorV (a b : Int) (w : World) (h0 : -1000000000 ≤ a) (h1 : a ≤ 1000000000) (hb : 1 ≤ b) (hb1 : b ≤ 1000000000) :
    Calls Try.prog 48 #[.int .i64 a, .int .i64 b] w fun e w' => e = .returned (.int .i64 (floorV a b)) ∧ w = w' := by
  have hz : (b == 0) = false := beq_eq_false_iff_ne.2 (by omega)
  have q := tdiv_bound a (show 0 < b by omega) (by omega) (by omega)
  by_cases hm : a.tmod b < 0
  · have HV := Lib.hid (floorV_neg (show 0 < b by omega) hm)
    go_enter Try.func48, Try.ntmps48
    go_wp2
    go_ret
    exact ⟨ret_int HV.out, rfl⟩
  · have HV := Lib.hid (floorV_pos (show 0 < b by omega) hm)
    have hm0 : 0 ≤ a.tmod b := by omega
    clear hm
    go_enter Try.func48, Try.ntmps48
    go_wp2
    go_ret
    exact ⟨ret_int HV.out, rfl⟩
end Go.Proofs.Ytebngdinhhhkeaa.rat
