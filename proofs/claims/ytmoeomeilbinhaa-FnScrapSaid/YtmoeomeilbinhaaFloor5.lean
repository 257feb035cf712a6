/-
  The model's l2Floor: a quotient rounded down.
-/
import Derived.Test.YtmoeomeilbinhaaRows
import Derived.WalkKit
import Derived.WalkSpells
import Derived.WalkSmall
import Derived.IntWalk
import Derived.Lib.Hide
namespace Go.Proofs.Ytmoeomeilbinhaa
open Go.RowKit

theorem floorN_neg {a b : Int} (hb : 0 < b) (h : a.tmod b < 0) : a.tdiv b - 1 = a / b := by
  rw [Int.tmod_eq_emod] at h
  rw [Int.tdiv_eq_ediv]
  by_cases hc : 0 ≤ a ∨ b ∣ a
  · rw [if_pos hc] at h
    have := Int.emod_nonneg a (show b ≠ 0 by omega)
    omega
  · rw [if_neg hc, Int.sign_eq_one_of_pos hb]; omega
theorem floorN_pos {a b : Int} (hb : 0 < b) (h : ¬ a.tmod b < 0) : a.tdiv b = a / b := by
  rw [Int.tmod_eq_emod] at h
  rw [Int.tdiv_eq_ediv]
  by_cases hc : 0 ≤ a ∨ b ∣ a
  · rw [if_pos hc]; omega
  · rw [if_neg hc] at h
    have := Int.emod_lt_of_pos a hb
    omega
theorem tdivN_bound (n : Int) {g : Int} (_h : 0 < g) (h0 : -2000000000000000000 ≤ n) (h1 : n ≤ 2000000000000000000) :
    -2000000000000000000 ≤ n.tdiv g ∧ n.tdiv g ≤ 2000000000000000000 ∧ wrap64 (-n.tdiv g) = -n.tdiv g := by
  have h2 : (n.tdiv g).natAbs ≤ n.natAbs := by rw [Int.natAbs_tdiv]; exact Nat.div_le_self _ _
  refine ⟨by omega, by omega, ?_⟩
  unfold wrap64; omega

set_option maxRecDepth 100000 in
set_option maxHeartbeats 400000 in
theorem spec_floor5 (a b : Int) (w : World) (h0 : -2000000000000000000 ≤ a) (h1 : a ≤ 2000000000000000000) (hb : 1 ≤ b) (hb1 : b ≤ 1000000000) :
    Calls Try.prog 34 #[.int .i64 a, .int .i64 b] w fun e w' => e = .returned (.int .i64 (a / b)) ∧ w = w' := by
  have hz : (b == 0) = false := beq_eq_false_iff_ne.2 (by omega)
  have q := tdivN_bound a (show 0 < b by omega) (by omega) (by omega)
  by_cases hm : a.tmod b < 0
  · have HV := Lib.hid (show a.tdiv b - 1 = a / b from floorN_neg (show 0 < b by omega) hm)
    go_enter Try.func34, Try.ntmps34
    go_wp2
    go_ret
    exact ⟨by rw [← HV.out]; rfl, rfl⟩
  · have HV := Lib.hid (show a.tdiv b = a / b from floorN_pos (show 0 < b by omega) hm)
    have hm0 : 0 ≤ a.tmod b := by omega
    clear hm
    go_enter Try.func34, Try.ntmps34
    go_wp2
    go_ret
    exact ⟨by rw [← HV.out]; rfl, rfl⟩

end Go.Proofs.Ytmoeomeilbinhaa
