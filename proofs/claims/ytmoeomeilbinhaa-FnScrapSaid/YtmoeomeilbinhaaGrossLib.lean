/-
  How many must be begun, how many are good. No program is named here.
-/
import Derived.Test.YtmoeomeilbinhaaItLib
import Derived.WalkKit
import Derived.Lib.Hide
namespace Go.Proofs.Ytmoeomeilbinhaa
open Go.RowKit

open Classical in
/-- What GrossOf answers. -/
noncomputable def grossR (x : IT) (q : Int) : Int × Bool := if ItOk x ∧ 0 ≤ q ∧ q ≤ 1000000000 then ((q * 100 + (100 - x.scr) - 1) / (100 - x.scr), true) else (0, false)
open Classical in
/-- What NetOf answers. -/
noncomputable def netR (x : IT) (g : Int) : Int × Bool := if ItOk x ∧ 0 ≤ g ∧ g ≤ 2000000000 then (g * (100 - x.scr) / 100, true) else (0, false)
open Classical in
theorem grossR_yes {x : IT} {q : Int} (h : ItOk x) (h0 : 0 ≤ q) (h1 : q ≤ 1000000000) : grossR x q = ((q * 100 + (100 - x.scr) - 1) / (100 - x.scr), true) := if_pos ⟨h, h0, h1⟩
open Classical in
theorem grossR_no {x : IT} {q : Int} (h : ¬(ItOk x ∧ 0 ≤ q ∧ q ≤ 1000000000)) : grossR x q = (0, false) := if_neg h
open Classical in
theorem netR_yes {x : IT} {q : Int} (h : ItOk x) (h0 : 0 ≤ q) (h1 : q ≤ 2000000000) : netR x q = (q * (100 - x.scr) / 100, true) := if_pos ⟨h, h0, h1⟩
open Classical in
theorem netR_no {x : IT} {q : Int} (h : ¬(ItOk x ∧ 0 ≤ q ∧ q ≤ 2000000000)) : netR x q = (0, false) := if_neg h
/-- A number and a truth are returned. -/
def NumRes (r : Int × Bool) (w : World) (e : Ending) (w' : World) : Prop := ∃ (z : Int) (y : Bool), e = .returned (.tuple #[.int .i64 z, .bool y]) ∧ Hid (r = (z, y)) ∧ Below w.heap.size w w'
theorem ceil_up (m : Int) {d : Int} (hd : 0 < d) : -((-m) / d) = (m + d - 1) / d := by
  obtain ⟨z, hz⟩ : ∃ z, (m + d - 1) / d = z := ⟨_, rfl⟩
  rw [hz]
  have h1 : z * d ≤ m + d - 1 := (Int.le_ediv_iff_mul_le hd).1 (by omega)
  have h2 : m + d - 1 < (z + 1) * d := (Int.ediv_lt_iff_lt_mul hd).1 (by omega)
  have e1 : (z + 1) * d = z * d + d := by rw [Int.add_mul, Int.one_mul]
  have e2 : (-z) * d = -(z * d) := Int.neg_mul _ _
  have e3 : (-z + 1) * d = -(z * d) + d := by rw [Int.add_mul, Int.one_mul, e2]
  have h3 : -z ≤ (-m) / d := (Int.le_ediv_iff_mul_le hd).2 (by omega)
  have h4 : (-m) / d < -z + 1 := (Int.ediv_lt_iff_lt_mul hd).2 (by omega)
  omega
/-- What is begun lies within the bounds, and is enough, and one less is not. -/
theorem gross_fits {q d z : Int} (h0 : 0 ≤ q) (h1 : q ≤ 1000000000) (hd : 50 ≤ d) (hd1 : d ≤ 100) (hz : (q * 100 + d - 1) / d = z) :
    0 ≤ z ∧ z ≤ 2000000000 ∧ q ≤ z * d / 100 ∧ (z - 1) * d / 100 < q ∨ (q = 0 ∧ z = 0) := by
  have h3 : z * d ≤ q * 100 + d - 1 := (Int.le_ediv_iff_mul_le (show 0 < d by omega)).1 (by omega)
  have h4 : q * 100 + d - 1 < (z + 1) * d := (Int.ediv_lt_iff_lt_mul (show 0 < d by omega)).1 (by omega)
  have e1 : (z + 1) * d = z * d + d := by rw [Int.add_mul, Int.one_mul]
  have e2 : (z - 1) * d = z * d - d := by rw [Int.sub_mul, Int.one_mul]
  have z0 : 0 ≤ z := by rw [← hz]; exact Int.ediv_nonneg (by omega) (by omega)
  have z1 : z ≤ 2000000000 := by
    have h5 : z * d < 2000000001 * d := by omega
    have h6 : z < 2000000001 := Int.lt_of_mul_lt_mul_right h5 (by omega)
    omega
  by_cases hq : q = 0
  · right
    refine ⟨hq, ?_⟩
    rw [← hz, hq]
    exact Int.ediv_eq_zero_of_lt (by omega) (by omega)
  · left
    generalize z * d = p at *
    rw [e2]
    omega
end Go.Proofs.Ytmoeomeilbinhaa
