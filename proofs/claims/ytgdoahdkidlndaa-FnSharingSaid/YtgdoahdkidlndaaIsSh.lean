/-
  IsSharing: the model's and the program's.
-/
import Derived.Test.YtgdoahdkidlndaaRows
import Derived.Test.YtgdoahdkidlndaaInts
import Derived.Test.YtgdoahdkidlndaaShareLib
import Derived.Test.YtgdoahdkidlndaaUpToLib
import Derived.Test.YtgdoahdkidlndaaIsShLib
import Derived.Test.YtgdoahdkidlndaaSums
import Derived.Test.YtgdoahdkidlndaaAreW
import Derived.Test.YtgdoahdkidlndaaUpTo
import Derived.WalkKit
import Derived.WalkSpells
import Derived.WalkSmall
import Derived.BigQuiet
import Derived.Deep.QuietTactic
import Derived.Lib.Hide
namespace Go.Proofs.Ytgdoahdkidlndaa
open Go.RowKit

set_option maxRecDepth 100000 in
theorem isNaN_no (x : Int) (w : World) : Calls Try.prog 45 #[.int .i64 x] w fun e w' => e = .returned (.bool false) ∧ w' = w := by
  have e0 : (x != x) = false := by simp
  go_enter Try.func45, Try.ntmps45
  go_wp2
  go_ret
  exact ⟨rfl, rfl⟩

theorem ret_i {a b : Int} (h : a = b) : Ending.returned (.int .i64 a) = .returned (.int .i64 b) := by rw [h]

set_option maxRecDepth 100000 in
set_option maxHeartbeats 400000 in
theorem cmp_int (x y : Int) (w : World) : Calls Try.prog 34 #[.int .i64 x, .int .i64 y] w fun e w' => e = .returned (.int .i64 (cmpI x y)) ∧ w' = w := by
  rcases (show x < y ∨ y < x ∨ x = y by omega) with h | h | h
  · have HC := Lib.hid (cmpI_lt h)
    go_enter Try.func34, Try.ntmps34
    go_wp2_with fail
    refine (isNaN_no x _).mono ?_
    rintro e w1 ⟨rfl, rfl⟩
    go_wp2_with fail
    refine (isNaN_no y _).mono ?_
    rintro e w1 ⟨rfl, rfl⟩
    go_wp2
    go_ret
    exact ⟨ret_i (by rw [HC.out]), rfl⟩
  · have HC := Lib.hid (cmpI_gt h)
    go_enter Try.func34, Try.ntmps34
    go_wp2_with fail
    refine (isNaN_no x _).mono ?_
    rintro e w1 ⟨rfl, rfl⟩
    go_wp2_with fail
    refine (isNaN_no y _).mono ?_
    rintro e w1 ⟨rfl, rfl⟩
    go_wp2
    go_ret
    exact ⟨ret_i (by rw [HC.out]), rfl⟩
  · have HC := Lib.hid (cmpI_eq h)
    subst h
    go_enter Try.func34, Try.ntmps34
    go_wp2_with fail
    refine (isNaN_no x _).mono ?_
    rintro e w1 ⟨rfl, rfl⟩
    go_wp2_with fail
    refine (isNaN_no x _).mono ?_
    rintro e w1 ⟨rfl, rfl⟩
    go_wp2
    go_ret
    exact ⟨ret_i (by rw [HC.out]), rfl⟩

set_option maxRecDepth 100000 in
set_option maxHeartbeats 400000 in
theorem spec_flo (n d : Int) (w : World) (hd : 0 < d) (h0 : -1000000000000000000 ≤ n) (h1 : n ≤ 1000000000000000000) : Calls Try.prog 39 #[.int .i64 n, .int .i64 d] w fun e w' => e = .returned (.int .i64 (flo n d)) ∧ w' = w := by
  have hd0 : d ≠ 0 := by omega
  have hq := tdiv_abs hd h0 h1
  by_cases hm : n.tmod d < 0
  · have HF := Lib.hid (flo_neg hm)
    have e0 : decide (n.tmod d < 0) = true := decide_eq_true hm
    go_enter Try.func39, Try.ntmps39
    go_wp2
    go_ret
    exact ⟨ret_i (by rw [HF.out]), rfl⟩
  · have HF := Lib.hid (flo_pos hm)
    have e0 : decide (n.tmod d < 0) = false := decide_eq_false hm
    go_enter Try.func39, Try.ntmps39
    go_wp2
    go_ret
    exact ⟨ret_i (by rw [HF.out]), rfl⟩

set_option maxRecDepth 100000 in
set_option maxHeartbeats 1000000 in
theorem impl_rounded (x n d : Int) (w : World) (hd : 0 < d) (h0 : -1000000000000000000 ≤ n) (h1 : n ≤ 1000000000000000000) :
    Calls Try.prog 38 #[.int .i64 x, .int .i64 n, .int .i64 d] w fun e w' => e = .returned (.bool (decide (Rd n d x))) ∧ Below w.heap.size w w' := by
  have hd0 : d ≠ 0 := by omega
  have hq := tdiv_abs hd h0 h1
  have hi := rd_iff (n := n) (d := d) (x := x)
  by_cases hx : x = n.tdiv d
  · have HR : Hid (decide (Rd n d x) = true) := Lib.hid (decide_eq_true (hi.2 (Or.inl hx)))
    have e0 : (x == n.tdiv d) = true := by simp [hx]
    clear hi hx
    go_enter Try.func38, Try.ntmps38
    go_wp2
    go_ret
    exact ⟨ret_b (by rw [HR.out]), Below.refl _ _⟩
  · have e0 : (x == n.tdiv d) = false := by simp [hx]
    by_cases hm : n.tmod d = 0
    · have HR : Hid (decide (Rd n d x) = false) := Lib.hid (decide_eq_false (fun h => by rcases hi.1 h with h | h; exact hx h; exact h.1 hm))
      have e1 : (n.tmod d != 0) = false := by simp [hm]
      clear hi hx hm
      go_enter Try.func38, Try.ntmps38
      go_wp2
      go_quiet (fail)
      go_wp2
      go_ret
      exact ⟨ret_b (by rw [HR.out]), below_drewN (Below.refl _ _) _⟩
    · have e1 : (n.tmod d != 0) = true := by simp [hm]
      have HR : Hid (decide (Rd n d x) = (x == n.tdiv d + cmpI n 0)) := Lib.hid (by
        by_cases hz : x = n.tdiv d + cmpI n 0
        · rw [beq_iff_eq.2 hz]; exact decide_eq_true (hi.2 (Or.inr ⟨hm, hz⟩))
        · rw [beq_eq_false_iff_ne.2 hz]; exact decide_eq_false (fun h => by rcases hi.1 h with h | h; exact hx h; exact hz h.2))
      have hc : -1 ≤ cmpI n 0 ∧ cmpI n 0 ≤ 1 := by unfold cmpI; split <;> (try split) <;> omega
      clear hi hx hm
      have HCM : Hid (∀ w, Calls Try.prog 34 #[.int .i64 n, .int .i64 0] w fun e w' => e = .returned (.int .i64 (cmpI n 0)) ∧ w' = w) := Lib.hid (fun w => cmp_int n 0 w)
      generalize cmpI n 0 = cc at *
      go_enter Try.func38, Try.ntmps38
      go_wp2
      go_quiet (first | (go_at_call 34; exact Calls.quiet_of_same (HCM.out _)))
      go_wp2
      go_ret
      exact ⟨ret_b (by rw [HR.out]), below_drewN (Below.refl _ _) _⟩
end Go.Proofs.Ytgdoahdkidlndaa
