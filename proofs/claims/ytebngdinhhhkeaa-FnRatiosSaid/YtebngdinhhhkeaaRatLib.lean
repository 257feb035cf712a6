/-
  The plain part of the proofs on ratios: what the model's ratios are, said of whole numbers. No program is named here.
-/
import Derived.WalkKit
import Derived.Lib.Hide
namespace Go.Proofs.Ytebngdinhhhkeaa.rat

/-- The greatest common divisor, as a whole number. -/
def gi (n d : Int) : Int := (Int.gcd n d : Int)

theorem gi_step (a b : Int) : gi b (a.tmod b) = gi a b := by
  unfold gi
  congr 1
  show Nat.gcd b.natAbs (a.tmod b).natAbs = Nat.gcd a.natAbs b.natAbs
  rw [Int.natAbs_tmod, Nat.gcd_comm a.natAbs, Nat.gcd_rec b.natAbs a.natAbs, Nat.gcd_comm]
theorem gi_zero (a : Int) : gi a 0 = if a < 0 then -a else a := by
  unfold gi
  have h : Int.gcd a 0 = a.natAbs := by show Nat.gcd a.natAbs 0 = _; exact Nat.gcd_zero_right _
  rw [h]; split <;> omega
theorem gi_nonneg (n d : Int) : 0 ≤ gi n d := Int.natCast_nonneg _
theorem gi_pos {n d : Int} (h : d ≠ 0) : 0 < gi n d := by
  unfold gi
  have : 0 < Int.gcd n d := Nat.gcd_pos_of_pos_right _ (by omega)
  omega
theorem gi_dvd_left (n d : Int) : gi n d ∣ n := Int.gcd_dvd_left ..
theorem gi_dvd_right (n d : Int) : gi n d ∣ d := Int.gcd_dvd_right ..
theorem gi_le {n d : Int} (h : d ≠ 0) : gi n d ≤ d.natAbs := by
  have h1 := gi_dvd_right n d
  have h2 : gi n d ∣ (d.natAbs : Int) := Int.dvd_natAbs.2 h1
  exact Int.le_of_dvd (by omega) h2
theorem gi_neg_left (n d : Int) : gi (-n) d = gi n d := by unfold gi; congr 1; show Nat.gcd (-n).natAbs _ = _; rw [Int.natAbs_neg]; rfl
theorem gi_neg_right (n d : Int) : gi n (-d) = gi n d := by unfold gi; congr 1; show Nat.gcd _ (-d).natAbs = _; rw [Int.natAbs_neg]; rfl
theorem tmod_abs_lt (a : Int) {b : Int} (h : b ≠ 0) : (a.tmod b).natAbs < b.natAbs := by
  rw [Int.natAbs_tmod]; exact Nat.mod_lt _ (by omega)

/-- In the range of a ratio's numbers. -/
def rangeB (n d : Int) : Bool := decide (1 ≤ d ∧ d ≤ 1000000000 ∧ -1000000000 ≤ n ∧ n ≤ 1000000000)
/-- A ratio. -/
def okB (n d : Int) : Bool := decide ((1 ≤ d ∧ d ≤ 1000000000 ∧ -1000000000 ≤ n ∧ n ≤ 1000000000) ∧ gi n d = 1)
def termB (n : Int) : Bool := decide (-2000000000000000000 ≤ n ∧ n ≤ 2000000000000000000)

theorem rangeB_true {n d : Int} (h : rangeB n d = true) : 1 ≤ d ∧ d ≤ 1000000000 ∧ -1000000000 ≤ n ∧ n ≤ 1000000000 := of_decide_eq_true h
theorem okB_true {n d : Int} (h : okB n d = true) : (1 ≤ d ∧ d ≤ 1000000000 ∧ -1000000000 ≤ n ∧ n ≤ 1000000000) ∧ gi n d = 1 := of_decide_eq_true h
theorem okB_mk {n d : Int} (h : (1 ≤ d ∧ d ≤ 1000000000 ∧ -1000000000 ≤ n ∧ n ≤ 1000000000)) (hg : gi n d = 1) : okB n d = true := decide_eq_true ⟨h, hg⟩
theorem okB_range {n d : Int} (h : okB n d = true) : rangeB n d = true := decide_eq_true (okB_true h).1
theorem okB_no_range {n d : Int} (h : rangeB n d = false) : okB n d = false := by
  unfold okB; exact decide_eq_false (fun hh => absurd hh.1 (of_decide_eq_false h))
theorem okB_no_gcd {n d : Int} (h : gi n d ≠ 1) : okB n d = false := by
  unfold okB; exact decide_eq_false (fun hh => h hh.2)
theorem termB_true {n : Int} (h : termB n = true) : -2000000000000000000 ≤ n ∧ n ≤ 2000000000000000000 := of_decide_eq_true h
theorem termB_false {n : Int} (h : termB n = false) : n < -2000000000000000000 ∨ 2000000000000000000 < n := by
  have := of_decide_eq_false h
  omega

/-- The divisor by which both are divided: negative with d. -/
def cd (n d : Int) : Int := if d < 0 then -gi n d else gi n d
def redN (n d : Int) : Int := n.tdiv (cd n d)
def redD (n d : Int) : Int := d.tdiv (cd n d)

theorem cd_pos {n d : Int} (h : 0 < d) : cd n d = gi n d := by unfold cd; rw [if_neg (by omega)]
theorem cd_neg {n d : Int} (h : d < 0) : cd n d = -gi n d := by unfold cd; rw [if_pos h]
theorem cd_ne {n d : Int} (h : d ≠ 0) : cd n d ≠ 0 := by have := gi_pos (n := n) h; unfold cd; split <;> omega
theorem cd_bound {n d : Int} (h : d ≠ 0) : (cd n d).natAbs ≤ d.natAbs := by
  have h1 := gi_le (n := n) h; have := gi_nonneg n d; unfold cd; split <;> omega

/-- The model turns both signs first: the same. -/
theorem red_neg {n d : Int} (h : d < 0) : redN n d = (-n).tdiv (gi (-n) (-d)) ∧ redD n d = (-d).tdiv (gi (-n) (-d)) := by
  unfold redN redD
  rw [cd_neg h, gi_neg_left, gi_neg_right, Int.tdiv_neg, Int.neg_tdiv, Int.tdiv_neg, Int.neg_tdiv]
  exact ⟨rfl, rfl⟩

theorem redN_mul {n d : Int} : redN n d * cd n d = n := by
  unfold redN
  apply Int.tdiv_mul_cancel
  unfold cd; split
  · exact Int.neg_dvd.2 (gi_dvd_left n d)
  · exact gi_dvd_left n d
theorem redD_mul {n d : Int} : redD n d * cd n d = d := by
  unfold redD
  apply Int.tdiv_mul_cancel
  unfold cd; split
  · exact Int.neg_dvd.2 (gi_dvd_right n d)
  · exact gi_dvd_right n d
theorem cd_abs (n d : Int) : (cd n d).natAbs = Int.gcd n d := by
  have : gi n d = (Int.gcd n d : Int) := rfl
  unfold cd; split <;> omega
/-- What is left has no common divisor. -/
theorem red_gi {n d : Int} (h : d ≠ 0) : gi (redN n d) (redD n d) = 1 := by
  have h1 : Int.gcd (redN n d * cd n d) (redD n d * cd n d) = Int.gcd (redN n d) (redD n d) * (cd n d).natAbs := Int.gcd_mul_right ..
  rw [redN_mul, redD_mul, cd_abs] at h1
  have hp : 0 < Int.gcd n d := Nat.gcd_pos_of_pos_right _ (by omega)
  have h2 : Int.gcd (redN n d) (redD n d) = 1 := by
    have : 1 * Int.gcd n d = Int.gcd (redN n d) (redD n d) * Int.gcd n d := by rw [Nat.one_mul]; exact h1
    exact (Nat.eq_of_mul_eq_mul_right hp this).symm
  unfold gi; rw [h2]; rfl
theorem red_ok {n d : Int} (h : d ≠ 0) : okB (redN n d) (redD n d) = rangeB (redN n d) (redD n d) := by
  unfold okB rangeB
  rw [decide_eq_decide]
  exact ⟨fun a => a.1, fun a => ⟨a, red_gi h⟩⟩
/-- A pair in range is its own reduced form exactly if it is a ratio. -/
theorem red_self {n d : Int} (h : rangeB n d = true) : (okB n d = true → redN n d = n ∧ redD n d = d) ∧ (okB n d = false → redD n d ≠ d) := by
  have hr := rangeB_true h
  constructor
  · intro hk
    have hg := (okB_true hk).2
    unfold redN redD
    rw [cd_pos (by omega), hg, Int.tdiv_one, Int.tdiv_one]
    exact ⟨rfl, rfl⟩
  · intro hk he
    have hm := redD_mul (n := n) (d := d)
    rw [he, cd_pos (by omega)] at hm
    have : gi n d = 1 := by
      have h2 : d * gi n d = d * 1 := by rw [hm, Int.mul_one]
      exact Int.eq_of_mul_eq_mul_left (by omega) h2
    have := okB_mk hr this
    rw [hk] at this
    exact Bool.noConfusion this

/-- n / d as a ratio; (0, 0) for none. -/
def mkR (n d : Int) : Int × Int :=
  if d = 0 ∨ termB n = false ∨ termB d = false then (0, 0) else if okB (redN n d) (redD n d) = true then (redN n d, redD n d) else (0, 0)
theorem mkR_no {n d : Int} (h : d = 0 ∨ termB n = false ∨ termB d = false) : mkR n d = (0, 0) := by unfold mkR; rw [if_pos h]
theorem mkR_out {n d : Int} (h : okB (redN n d) (redD n d) = false) : mkR n d = (0, 0) := by
  unfold mkR
  by_cases h2 : d = 0 ∨ termB n = false ∨ termB d = false
  · rw [if_pos h2]
  · rw [if_neg h2, if_neg (by rw [h]; exact Bool.noConfusion)]
theorem mkR_in {n d : Int} (h0 : d ≠ 0) (h1 : termB n = true) (h2 : termB d = true) (h : okB (redN n d) (redD n d) = true) : mkR n d = (redN n d, redD n d) := by
  unfold mkR
  have hn : ¬ (d = 0 ∨ termB n = false ∨ termB d = false) := by
    rw [h1, h2]
    rintro (a | a | a)
    · exact h0 a
    · exact Bool.noConfusion a
    · exact Bool.noConfusion a
  rw [if_neg hn, if_pos h]
theorem okB_00 : okB 0 0 = false := by decide
theorem okB_den (n : Int) : okB n 0 = false := by unfold okB; exact decide_eq_false (by omega)

/-- The value of a result: none, or a ratio that is n / d. -/
theorem mkR_cases (n d : Int) : mkR n d = (0, 0) ∨ ∃ x y, mkR n d = (x, y) ∧ okB x y = true ∧ x * d = n * y := by
  unfold mkR
  by_cases h2 : d = 0 ∨ termB n = false ∨ termB d = false
  · rw [if_pos h2]; exact Or.inl rfl
  · rw [if_neg h2]
    by_cases h : okB (redN n d) (redD n d) = true
    · rw [if_pos h]
      refine Or.inr ⟨_, _, rfl, h, ?_⟩
      have hN := redN_mul (n := n) (d := d)
      have hD := redD_mul (n := n) (d := d)
      calc redN n d * d = redN n d * (redD n d * cd n d) := by rw [hD]
        _ = redN n d * cd n d * redD n d := by rw [Int.mul_comm (redD n d), ← Int.mul_assoc]
        _ = n * redD n d := by rw [hN]
    · rw [if_neg h]; exact Or.inl rfl
theorem mkR_bound {n d x y : Int} (h : mkR n d = (x, y)) : -1000000000 ≤ x ∧ x ≤ 1000000000 ∧ 0 ≤ y ∧ y ≤ 1000000000 := by
  rcases mkR_cases n d with h1 | ⟨a, b, h1, hk, _⟩
  · rw [h1] at h; injection h with e1 e2; omega
  · rw [h1] at h; injection h with e1 e2; have := (okB_true hk).1; omega

/-- Two ratios of one value are one. -/
theorem ok_unique {n d x y : Int} (h1 : okB n d = true) (h2 : okB x y = true) (he : n * y = x * d) : n = x ∧ d = y := by
  obtain ⟨r1, g1⟩ := okB_true h1
  obtain ⟨r2, g2⟩ := okB_true h2
  have c1 : Nat.Coprime n.natAbs d.natAbs := by have : (Int.gcd n d : Int) = 1 := g1; exact Int.ofNat.inj this
  have c2 : Nat.Coprime x.natAbs y.natAbs := by have : (Int.gcd x y : Int) = 1 := g2; exact Int.ofNat.inj this
  have ha : n.natAbs * y.natAbs = x.natAbs * d.natAbs := by rw [← Int.natAbs_mul, ← Int.natAbs_mul, he]
  have d1 : d.natAbs ∣ y.natAbs := Nat.Coprime.dvd_of_dvd_mul_left c1.symm (by rw [ha]; exact Nat.dvd_mul_left _ _)
  have d2 : y.natAbs ∣ d.natAbs := Nat.Coprime.dvd_of_dvd_mul_left c2.symm (by rw [← ha]; exact Nat.dvd_mul_left _ _)
  have hd : d.natAbs = y.natAbs := Nat.dvd_antisymm d1 d2
  have hdy : d = y := by omega
  subst hdy
  exact ⟨Int.eq_of_mul_eq_mul_right (by omega) he, rfl⟩
/-- A quotient that is a ratio's value gives that ratio. -/
theorem mkR_eq {n d x y : Int} (hk : okB x y = true) (h0 : d ≠ 0) (h1 : termB n = true) (h2 : termB d = true) (he : x * d = n * y) : mkR n d = (x, y) := by
  have hN := redN_mul (n := n) (d := d)
  have hD := redD_mul (n := n) (d := d)
  have hc := cd_ne (n := n) h0
  obtain ⟨r, g⟩ := okB_true hk
  have hg := red_gi (n := n) h0
  -- the reduced form has the value of x / y
  have hv : redN n d * y = x * redD n d := by
    apply Int.eq_of_mul_eq_mul_right hc
    calc redN n d * y * cd n d = redN n d * cd n d * y := by rw [Int.mul_assoc, Int.mul_comm y, ← Int.mul_assoc]
      _ = n * y := by rw [hN]
      _ = x * d := he.symm
      _ = x * (redD n d * cd n d) := by rw [hD]
      _ = x * redD n d * cd n d := by rw [Int.mul_assoc]
  have c1 : Nat.Coprime (redN n d).natAbs (redD n d).natAbs := by have : (Int.gcd (redN n d) (redD n d) : Int) = 1 := hg; exact Int.ofNat.inj this
  have c2 : Nat.Coprime x.natAbs y.natAbs := by have : (Int.gcd x y : Int) = 1 := g; exact Int.ofNat.inj this
  have ha : (redN n d).natAbs * y.natAbs = x.natAbs * (redD n d).natAbs := by rw [← Int.natAbs_mul, ← Int.natAbs_mul, hv]
  have d1 : (redD n d).natAbs ∣ y.natAbs := Nat.Coprime.dvd_of_dvd_mul_left c1.symm (by rw [ha]; exact Nat.dvd_mul_left _ _)
  have d2 : y.natAbs ∣ (redD n d).natAbs := Nat.Coprime.dvd_of_dvd_mul_left c2.symm (by rw [← ha]; exact Nat.dvd_mul_left _ _)
  have hd : (redD n d).natAbs = y.natAbs := Nat.dvd_antisymm d1 d2
  have hpos : 0 < redD n d := by
    have hcs : (0 < d ∧ 0 < cd n d) ∨ (d < 0 ∧ cd n d < 0) := by
      have := gi_pos (n := n) h0
      by_cases hd0 : d < 0
      · exact Or.inr ⟨hd0, by rw [cd_neg hd0]; omega⟩
      · exact Or.inl ⟨by omega, by rw [cd_pos (by omega)]; exact this⟩
    rcases Int.lt_trichotomy 0 (redD n d) with hh | hh | hh
    · exact hh
    · rw [← hh] at hd; exfalso; omega
    · exfalso
      rcases hcs with ⟨a, b⟩ | ⟨a, b⟩
      · have := Int.mul_neg_of_neg_of_pos hh b; omega
      · have := Int.mul_pos_of_neg_of_neg hh b; omega
  have hdy : redD n d = y := by omega
  have hnx : redN n d = x := by rw [hdy] at hv; exact Int.eq_of_mul_eq_mul_right (by omega) hv
  have hk2 : okB (redN n d) (redD n d) = true := by rw [hnx, hdy]; exact hk
  rw [mkR_in h0 h1 h2 hk2, hnx, hdy]

/-- Products of a ratio's numbers. -/
theorem mul_bound {a b : Int} (h0 : -1000000000 ≤ a) (h1 : a ≤ 1000000000) (h2 : -1000000000 ≤ b) (h3 : b ≤ 1000000000) : -1000000000000000000 ≤ a * b ∧ a * b ≤ 1000000000000000000 := by
  have h : (a * b).natAbs ≤ 1000000000 * 1000000000 := by
    rw [Int.natAbs_mul]; exact Nat.mul_le_mul (by omega) (by omega)
  omega
end Go.Proofs.Ytebngdinhhhkeaa.rat
