/-
  The plain part of the arithmetic of ratios: sums, products, quotients, comparisons, rounding. No program is named here.
-/
import Derived.WalkKit
import Derived.Lib.Hide
import Derived.Test.YtebngdinhhhkeaaRatLib
namespace Go.Proofs.Ytebngdinhhhkeaa.rat

def addR (a b c d : Int) : Int × Int := if (okB a b && okB c d) = true then mkR (a * d + c * b) (b * d) else (0, 0)
def mulR (a b c d : Int) : Int × Int := if (okB a b && okB c d) = true then mkR (a * c) (b * d) else (0, 0)
def divR (a b c d : Int) : Int × Int := if (okB a b && okB c d) = true then mkR (a * d) (b * c) else (0, 0)
def negR (a b : Int) : Int × Int := if okB a b = true then (-a, b) else (0, 0)
def cmpV (x y : Int) : Int := if x < y then -1 else if y < x then 1 else 0
def cmpR (a b c d : Int) : Int := if (okB a b && okB c d) = true then cmpV (a * d) (c * b) else 2
def floorV (a b : Int) : Int := a / b
def floorR (a b : Int) : Int := if okB a b = true then floorV a b else 0
def ceilR (a b : Int) : Int := if okB a b = true then -floorV (-a) b else 0
theorem addR_no1 {a b c d : Int} (h : okB a b = false) : addR a b c d = (0, 0) := by unfold addR; rw [h]; rfl
theorem addR_no2 {a b c d : Int} (h : okB c d = false) : addR a b c d = (0, 0) := by unfold addR; rw [h, Bool.and_false]; rfl
theorem addR_yes {a b c d : Int} (h : okB a b = true) (h2 : okB c d = true) : addR a b c d = mkR (a * d + c * b) (b * d) := by unfold addR; rw [h, h2]; rfl
theorem mulR_no1 {a b c d : Int} (h : okB a b = false) : mulR a b c d = (0, 0) := by unfold mulR; rw [h]; rfl
theorem mulR_no2 {a b c d : Int} (h : okB c d = false) : mulR a b c d = (0, 0) := by unfold mulR; rw [h, Bool.and_false]; rfl
theorem mulR_yes {a b c d : Int} (h : okB a b = true) (h2 : okB c d = true) : mulR a b c d = mkR (a * c) (b * d) := by unfold mulR; rw [h, h2]; rfl
theorem divR_no1 {a b c d : Int} (h : okB a b = false) : divR a b c d = (0, 0) := by unfold divR; rw [h]; rfl
theorem divR_no2 {a b c d : Int} (h : okB c d = false) : divR a b c d = (0, 0) := by unfold divR; rw [h, Bool.and_false]; rfl
theorem divR_yes {a b c d : Int} (h : okB a b = true) (h2 : okB c d = true) : divR a b c d = mkR (a * d) (b * c) := by unfold divR; rw [h, h2]; rfl
theorem cmpR_no1 {a b c d : Int} (h : okB a b = false) : cmpR a b c d = 2 := by unfold cmpR; rw [h]; rfl
theorem cmpR_no2 {a b c d : Int} (h : okB c d = false) : cmpR a b c d = 2 := by unfold cmpR; rw [h, Bool.and_false]; rfl
theorem cmpR_yes {a b c d : Int} (h : okB a b = true) (h2 : okB c d = true) : cmpR a b c d = cmpV (a * d) (c * b) := by unfold cmpR; rw [h, h2]; rfl
theorem negR_no {a b : Int} (h : okB a b = false) : negR a b = (0, 0) := by unfold negR; rw [h]; rfl
theorem negR_yes {a b : Int} (h : okB a b = true) : negR a b = (-a, b) := by unfold negR; rw [h]; rfl
theorem floorR_no {a b : Int} (h : okB a b = false) : floorR a b = 0 := by unfold floorR; rw [h]; rfl
theorem floorR_yes {a b : Int} (h : okB a b = true) : floorR a b = floorV a b := by unfold floorR; rw [h]; rfl
theorem ceilR_no {a b : Int} (h : okB a b = false) : ceilR a b = 0 := by unfold ceilR; rw [h]; rfl
theorem ceilR_yes {a b : Int} (h : okB a b = true) : ceilR a b = -floorV (-a) b := by unfold ceilR; rw [h]; rfl

/-- Rounding down from Go's quotient and remainder. -/
theorem floorV_neg {a b : Int} (hb : 0 < b) (h : a.tmod b < 0) : a.tdiv b - 1 = floorV a b := by
  unfold floorV
  rw [Int.tmod_eq_emod] at h
  rw [Int.tdiv_eq_ediv]
  by_cases hc : 0 ≤ a ∨ b ∣ a
  · rw [if_pos hc] at h
    have := Int.emod_nonneg a (show b ≠ 0 by omega)
    omega
  · rw [if_neg hc, Int.sign_eq_one_of_pos hb]; omega
theorem floorV_pos {a b : Int} (hb : 0 < b) (h : ¬ a.tmod b < 0) : a.tdiv b = floorV a b := by
  unfold floorV
  rw [Int.tmod_eq_emod] at h
  rw [Int.tdiv_eq_ediv]
  by_cases hc : 0 ≤ a ∨ b ∣ a
  · rw [if_pos hc]; omega
  · rw [if_neg hc] at h
    have := Int.emod_lt_of_pos a hb
    omega
theorem floorV_bound {a b : Int} (hb : 0 < b) (h0 : -1000000000 ≤ a) (h1 : a ≤ 1000000000) : -1000000000 ≤ floorV a b ∧ floorV a b ≤ 1000000000 := by
  unfold floorV
  constructor
  · rw [Int.le_ediv_iff_mul_le hb]
    have : 1000000000 * 1 ≤ 1000000000 * b := Int.mul_le_mul_of_nonneg_left (by omega) (by omega)
    omega
  · exact Int.le_trans (Int.ediv_le_ediv hb h1) (Int.ediv_le_self _ (by omega))
theorem floorV_le {a b : Int} (hb : 0 < b) : floorV a b * b ≤ a := by unfold floorV; exact Int.ediv_mul_le _ (by omega)
theorem floorV_lt {a b : Int} (hb : 0 < b) : a < (floorV a b + 1) * b := by unfold floorV; exact Int.lt_ediv_add_one_mul_self _ hb
/-- The model's and the program's ceiling. -/
theorem ceil_neg (a b : Int) : -floorR (negR a b).1 (negR a b).2 = ceilR a b := by
  cases h : okB a b
  · rw [negR_no h, ceilR_no h]; show -floorR 0 0 = 0; rw [floorR_no okB_00]; rfl
  · have h2 : okB (-a) b = true := by
      obtain ⟨r, g⟩ := okB_true h
      exact okB_mk (by omega) (by rw [gi_neg_left]; exact g)
    rw [negR_yes h, ceilR_yes h]; show -floorR (-a) b = _; rw [floorR_yes h2]
theorem okB_neg {a b : Int} (h : okB a b = true) : okB (-a) b = true := by
  obtain ⟨r, g⟩ := okB_true h
  exact okB_mk (by omega) (by rw [gi_neg_left]; exact g)
end Go.Proofs.Ytebngdinhhhkeaa.rat
