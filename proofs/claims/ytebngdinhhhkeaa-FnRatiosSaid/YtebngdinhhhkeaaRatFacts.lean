/-
  The plain part of the laws of ratios: order, inverse, quotient, rounding. No program is named here.
-/
import Derived.WalkKit
import Derived.Lib.Hide
import Derived.Test.YtebngdinhhhkeaaRatLib
import Derived.Test.YtebngdinhhhkeaaRatAlg
namespace Go.Proofs.Ytebngdinhhhkeaa.rat

theorem gi_one (n : Int) : gi n 1 = 1 := by
  unfold gi
  have : Int.gcd n 1 = 1 := Int.gcd_one_right ..
  rw [this]; rfl
theorem okB_whole {n : Int} (h0 : -1000000000 ≤ n) (h1 : n ≤ 1000000000) : okB n 1 = true := okB_mk (by omega) (gi_one n)
theorem mkR_whole {n : Int} (h0 : -1000000000 ≤ n) (h1 : n ≤ 1000000000) : mkR n 1 = (n, 1) :=
  mkR_eq (okB_whole h0 h1) (by omega) (decide_eq_true (by omega)) (by decide) rfl
theorem cmpV_le {x y : Int} (h : x ≤ y) : cmpV x y ≤ 0 := by
  unfold cmpV; split
  · omega
  · rw [if_neg (by omega)]; omega
theorem not_dvd {p q : Int} (h : okB p q = true) (hq : q ≠ 1) : ¬ q ∣ p := by
  intro hd
  obtain ⟨r, g⟩ := okB_true h
  have h2 : q ∣ gi p q := by
    unfold gi
    exact Int.dvd_coe_gcd hd (Int.dvd_refl q)
  rw [g] at h2
  have := Int.le_of_dvd (by omega) h2
  omega

theorem rounding {p q : Int} (h : okB p q = true) :
    (-1000000000 ≤ floorR p q ∧ floorR p q ≤ 1000000000) ∧ (-1000000000 ≤ ceilR p q ∧ ceilR p q ≤ 1000000000) ∧ cmpR (floorR p q) 1 p q ≤ 0 ∧ cmpR p q (ceilR p q) 1 ≤ 0 ∧
    ((q ≠ 1 ∧ ceilR p q = floorR p q + 1) ∨ (q = 1 ∧ ceilR p q = floorR p q)) ∧ floorR (-p) q = -ceilR p q := by
  obtain ⟨r, _⟩ := okB_true h
  have hn := okB_neg h
  rw [floorR_yes h, ceilR_yes h, floorR_yes hn, Int.neg_neg]
  have b1 := floorV_bound (a := p) (b := q) (by omega) (by omega) (by omega)
  have b2 := floorV_bound (a := -p) (b := q) (by omega) (by omega) (by omega)
  have l1 := floorV_le (a := p) (b := q) (by omega)
  have l2 := floorV_le (a := -p) (b := q) (by omega)
  refine ⟨b1, by omega, ?_, ?_, ?_, rfl⟩
  · rw [cmpR_yes (okB_whole b1.1 b1.2) h]
    exact cmpV_le (by omega)
  · rw [cmpR_yes h (okB_whole (by omega) (by omega))]
    exact cmpV_le (by rw [Int.neg_mul]; omega)
  · by_cases hq : q = 1
    · subst hq
      refine Or.inr ⟨rfl, ?_⟩
      unfold floorV
      rw [Int.ediv_one, Int.ediv_one]; omega
    · refine Or.inl ⟨hq, ?_⟩
      unfold floorV
      rw [Int.neg_ediv, if_neg (not_dvd h hq), Int.sign_eq_one_of_pos (by omega)]
      omega

theorem addR_comm (a b c d : Int) : addR a b c d = addR c d a b := by
  unfold addR
  rw [Bool.and_comm, Int.add_comm, Int.mul_comm b d]
theorem mulR_comm (a b c d : Int) : mulR a b c d = mulR c d a b := by
  unfold mulR
  rw [Bool.and_comm, Int.mul_comm a c, Int.mul_comm b d]

theorem term_of {x : Int} (h0 : -2000000000000000000 ≤ x) (h1 : x ≤ 2000000000000000000) : termB x = true := decide_eq_true ⟨h0, h1⟩
theorem ok_of_addR {a b c d x y : Int} (h : addR a b c d = (x, y)) (hk : okB x y = true) : okB a b = true ∧ okB c d = true := by
  cases h1 : okB a b
  · rw [addR_no1 h1] at h; injection h with e1 e2; subst e1 e2; rw [okB_00] at hk; exact Bool.noConfusion hk
  · cases h2 : okB c d
    · rw [addR_no2 h2] at h; injection h with e1 e2; subst e1 e2; rw [okB_00] at hk; exact Bool.noConfusion hk
    · exact ⟨rfl, rfl⟩
theorem ok_of_divR {a b c d x y : Int} (h : divR a b c d = (x, y)) (hk : okB x y = true) : okB a b = true ∧ okB c d = true := by
  cases h1 : okB a b
  · rw [divR_no1 h1] at h; injection h with e1 e2; subst e1 e2; rw [okB_00] at hk; exact Bool.noConfusion hk
  · cases h2 : okB c d
    · rw [divR_no2 h2] at h; injection h with e1 e2; subst e1 e2; rw [okB_00] at hk; exact Bool.noConfusion hk
    · exact ⟨rfl, rfl⟩
/-- A quotient times the divisor is the dividend. -/
theorem div_mul {a b c d x y : Int} (h : divR a b c d = (x, y)) (hk : okB x y = true) : mulR x y c d = (a, b) := by
  obtain ⟨h1, h2⟩ := ok_of_divR h hk
  rw [divR_yes h1 h2] at h
  rw [mulR_yes hk h2]
  rcases mkR_cases (a * d) (b * c) with h3 | ⟨u, v, h3, _, hv⟩
  · rw [h3] at h; injection h with e1 e2; subst e1 e2; rw [okB_00] at hk; exact Bool.noConfusion hk
  · rw [h3] at h; injection h with e1 e2; subst e1 e2
    obtain ⟨r1, _⟩ := okB_true h1
    obtain ⟨r2, _⟩ := okB_true h2
    obtain ⟨r3, _⟩ := okB_true hk
    have m1 := mul_bound (a := u) (b := c) (by omega) (by omega) (by omega) (by omega)
    have m2 := mul_bound (a := v) (b := d) (by omega) (by omega) (by omega) (by omega)
    refine mkR_eq h1 ?_ (term_of (by omega) (by omega)) (term_of (by omega) (by omega)) ?_
    · intro e
      rcases Int.mul_eq_zero.1 e with e | e <;> omega
    · -- a * (v * d) = (u * c) * b, from u * (b * c) = (a * d) * v
      have e1 : a * (v * d) = (a * d) * v := by rw [Int.mul_comm v d, ← Int.mul_assoc]
      have e2 : u * c * b = u * (b * c) := by rw [Int.mul_comm b c, ← Int.mul_assoc]
      rw [e1, e2, hv]
/-- A sum less one of its parts is the other one. -/
theorem add_sub {a b c d x y : Int} (h : addR a b c d = (x, y)) (hk : okB x y = true) : addR x y (-c) d = (a, b) := by
  obtain ⟨h1, h2⟩ := ok_of_addR h hk
  have h2n := okB_neg h2
  rw [addR_yes h1 h2] at h
  rw [addR_yes hk h2n]
  rcases mkR_cases (a * d + c * b) (b * d) with h3 | ⟨u, v, h3, _, hv⟩
  · rw [h3] at h; injection h with e1 e2; subst e1 e2; rw [okB_00] at hk; exact Bool.noConfusion hk
  · rw [h3] at h; injection h with e1 e2; subst e1 e2
    obtain ⟨r1, _⟩ := okB_true h1
    obtain ⟨r2, _⟩ := okB_true h2
    obtain ⟨r3, _⟩ := okB_true hk
    have m1 := mul_bound (a := u) (b := d) (by omega) (by omega) (by omega) (by omega)
    have m2 := mul_bound (a := v) (b := d) (by omega) (by omega) (by omega) (by omega)
    have m3 := mul_bound (a := -c) (b := v) (by omega) (by omega) (by omega) (by omega)
    refine mkR_eq h1 ?_ (term_of (by omega) (by omega)) (term_of (by omega) (by omega)) ?_
    · intro e
      rcases Int.mul_eq_zero.1 e with e | e <;> omega
    · -- a * (v * d) = (u * d + -c * v) * b
      have e0 : u * (b * d) = a * d * v + c * b * v := by rw [hv, Int.add_mul]
      have e1 : a * (v * d) = a * d * v := by rw [Int.mul_comm v d, ← Int.mul_assoc]
      have e2 : u * d * b = u * (b * d) := by rw [Int.mul_comm b d, ← Int.mul_assoc]
      have e3 : -c * v * b = -(c * b * v) := by rw [Int.neg_mul, Int.neg_mul, Int.mul_assoc, Int.mul_comm v b, ← Int.mul_assoc]
      rw [Int.add_mul, e1, e2, e3, e0]
      omega
theorem cmpV_neg (x y : Int) : cmpV x y = -cmpV y x := by
  unfold cmpV
  rcases Int.lt_trichotomy x y with h | h | h
  · rw [if_pos h, if_neg (by omega), if_pos h]
  · subst h; rw [if_neg (by omega), if_neg (by omega)]; rfl
  · rw [if_neg (by omega), if_pos h, if_pos h]; rfl
theorem cmpV_zero {x y : Int} : cmpV x y = 0 ↔ x = y := by
  unfold cmpV
  rcases Int.lt_trichotomy x y with h | h | h
  · rw [if_pos h]; omega
  · subst h; rw [if_neg (by omega), if_neg (by omega)]; simp
  · rw [if_neg (by omega), if_pos h]; omega
theorem cmpV_range (x y : Int) : -1 ≤ cmpV x y ∧ cmpV x y ≤ 1 := by
  unfold cmpV; split
  · omega
  · split <;> omega
/-- Comparing both ways. -/
theorem cmp_both (a b c d : Int) :
    (cmpR a b c d = 2 ∧ cmpR c d a b = 2) ∨ (cmpR a b c d ≠ 2 ∧ cmpR a b c d = -cmpR c d a b ∧ (-1 ≤ cmpR c d a b ∧ cmpR c d a b ≤ 1) ∧ (cmpR a b c d = 0 ↔ a = c ∧ b = d)) := by
  cases h1 : okB a b
  · exact Or.inl ⟨cmpR_no1 h1, cmpR_no2 h1⟩
  · cases h2 : okB c d
    · exact Or.inl ⟨cmpR_no2 h2, cmpR_no1 h2⟩
    · rw [cmpR_yes h1 h2, cmpR_yes h2 h1]
      have hr := cmpV_range (a * d) (c * b)
      refine Or.inr ⟨by omega, cmpV_neg _ _, cmpV_range _ _, ?_⟩
      rw [cmpV_zero]
      constructor
      · exact fun e => ok_unique h1 h2 e
      · rintro ⟨e1, e2⟩; rw [e1, e2]
end Go.Proofs.Ytebngdinhhhkeaa.rat
