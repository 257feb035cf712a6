/-
  The walks of the two greatest common divisors, and of the range tests: what they answer.
-/
import Derived.Test.YtebngdinhhhkeaaRows
import Derived.Test.YtebngdinhhhkeaaRatLib
import Derived.WalkKit
import Derived.WalkSpells
import Derived.WalkSmall
import Derived.BigQuiet
import Derived.Deep.QuietTactic
import Derived.Lib.Hide
namespace Go.Proofs.Ytebngdinhhhkeaa.rat
open Go.RowKit

theorem ret_int {a b : Int} (h : a = b) : Ending.returned (.int .i64 a) = .returned (.int .i64 b) := by rw [h]

theorem step_bound {a b : Int} (hb : b ≠ 0) (h0 : -9223372036854775807 ≤ b) (h1 : b ≤ 9223372036854775807) : -9223372036854775807 ≤ a.tmod b ∧ a.tmod b ≤ 9223372036854775807 := by
  have := tmod_abs_lt a hb
  omega

set_option maxRecDepth 100000 in
set_option maxHeartbeats 400000 in
theorem impl_gcd (n d : Int) (w : World) (hn0 : -9223372036854775807 ≤ n) (hn1 : n ≤ 9223372036854775807) (hd0 : -9223372036854775807 ≤ d) (hd1 : d ≤ 9223372036854775807) :
    Calls Try.prog 53 #[.int .i64 n, .int .i64 d] w fun e w' => e = .returned (.int .i64 (gi n d)) ∧ Below w.heap.size w w' := by
  go_enter Try.func53, Try.ntmps53
  go_wp2
  go_loopw [0, 1] (fun x y wr => ∃ a b : Int, x = .int .i64 a ∧ y = .int .i64 b ∧ (-9223372036854775807 ≤ a ∧ a ≤ 9223372036854775807) ∧ (-9223372036854775807 ≤ b ∧ b ≤ 9223372036854775807) ∧ Hid (gi a b = gi n d) ∧ Below w.heap.size w wr) (fun _ y _ => (intOf y).natAbs)
  case atStart => exact ⟨n, d, rfl, rfl, ⟨hn0, hn1⟩, ⟨hd0, hd1⟩, Lib.hid rfl, Below.refl _ _⟩
  case round =>
    obtain ⟨a, b, rfl, rfl, ⟨ha0, ha1⟩, ⟨hb0, hb1⟩, HG, hb⟩ := hrel
    clear hn0 hn1 hd0 hd1
    by_cases hz : b = 0
    · subst hz
      have HZ := Lib.hid (gi_zero a)
      by_cases hneg : a < 0
      · go_wp2
        go_ret
        exact ⟨ret_int (by rw [← HG.out, HZ.out, if_pos hneg]), hb⟩
      · go_wp2
        go_ret
        exact ⟨ret_int (by rw [← HG.out, HZ.out, if_neg (by omega)]), hb⟩
    · have HS := Lib.hid (gi_step a b)
      have HB := Lib.hid (step_bound (a := a) hz hb0 hb1)
      have HM := Lib.hid (tmod_abs_lt a hz)
      have hz1 : (b == 0) = false := beq_eq_false_iff_ne.2 hz
      have hz2 : (b != 0) = true := bne_iff_ne.2 hz
      go_wp2
      go_quiet (fail)
      go_wp2
      go_roundw
      case rel => exact ⟨b, _, rfl, rfl, ⟨hb0, hb1⟩, HB.out, Lib.hid (HS.out.trans HG.out), below_drewN hb _⟩
      case measure => exact HM.out

set_option maxRecDepth 100000 in
set_option maxHeartbeats 400000 in
theorem spec_gcd (n d : Int) (w : World) (hn0 : -9223372036854775807 ≤ n) (hn1 : n ≤ 9223372036854775807) (hd0 : -9223372036854775807 ≤ d) (hd1 : d ≤ 9223372036854775807) :
    Calls Try.prog 41 #[.int .i64 n, .int .i64 d] w fun e w' => e = .returned (.int .i64 (gi n d)) ∧ Below w.heap.size w w' := by
  go_enter Try.func41, Try.ntmps41
  go_wp2
  go_loopw [0, 1] (fun x y wr => ∃ a b : Int, x = .int .i64 a ∧ y = .int .i64 b ∧ (-9223372036854775807 ≤ a ∧ a ≤ 9223372036854775807) ∧ (-9223372036854775807 ≤ b ∧ b ≤ 9223372036854775807) ∧ Hid (gi a b = gi n d) ∧ Below w.heap.size w wr) (fun _ y _ => (intOf y).natAbs)
  case atStart => exact ⟨n, d, rfl, rfl, ⟨hn0, hn1⟩, ⟨hd0, hd1⟩, Lib.hid rfl, Below.refl _ _⟩
  case round =>
    obtain ⟨a, b, rfl, rfl, ⟨ha0, ha1⟩, ⟨hb0, hb1⟩, HG, hb⟩ := hrel
    clear hn0 hn1 hd0 hd1
    by_cases hz : b = 0
    · subst hz
      have HZ := Lib.hid (gi_zero a)
      by_cases hneg : a < 0
      · go_wp2
        go_ret
        exact ⟨ret_int (by rw [← HG.out, HZ.out, if_pos hneg]), hb⟩
      · go_wp2
        go_ret
        exact ⟨ret_int (by rw [← HG.out, HZ.out, if_neg (by omega)]), hb⟩
    · have HS := Lib.hid (gi_step a b)
      have HB := Lib.hid (step_bound (a := a) hz hb0 hb1)
      have HM := Lib.hid (tmod_abs_lt a hz)
      have hz1 : (b == 0) = false := beq_eq_false_iff_ne.2 hz
      have hz2 : (b != 0) = true := bne_iff_ne.2 hz
      go_wp2
      go_quiet (fail)
      go_wp2
      go_roundw
      case rel => exact ⟨b, _, rfl, rfl, ⟨hb0, hb1⟩, HB.out, Lib.hid (HS.out.trans HG.out), below_drewN hb _⟩
      case measure => exact HM.out
end Go.Proofs.Ytebngdinhhhkeaa.rat
