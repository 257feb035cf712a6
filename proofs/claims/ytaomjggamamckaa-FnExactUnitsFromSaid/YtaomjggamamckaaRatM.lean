import Derived.WalkKit
import Derived.Lib.Hide
import Derived.Test.YtaomjggamamckaaRows
import Derived.WalkSpells
import Derived.WalkSmall
import Derived.BigQuiet
import Derived.Deep.QuietTactic
import Derived.Deep.RegionHeld3
import Derived.BigRegion
import Derived.RegionTactic
import Derived.Deep.DeepCutAuto
import Derived.Deep.RegionWith
import Derived.ProofKit
import Derived.OpenShut
import Derived.Lib.SmallJoins
namespace Go.Proofs.Ytaomjggamamckaa.rat

/-- The greatest common divisor, as a whole number. -/
def gi (n d : Int) : Int := (Int.gcd n d : Int)

theorem gi_step (a b : Int) : gi b (a.tmod b) = gi a b := by
  unfold gi
  congr 1
  show Nat.gcd b.natAbs (a.tmod b).natAbs = Nat.gcd a.natAbs b.natAbs
  rw [Int.natAbs_tmod, Nat.gcd_comm a.natAbs, Nat.gcd_rec b.natAbs a.natAbs, Nat.gcd_comm]
theorem gi_zero (a : Int) : gi a 0 = if a < 0 then -a else a := by
  unfold gi
  have h : Int.gcd a 0 = a.natAbs := by show Nat.gcd a.natAbs 0 = _; exact Nat.gcd_zero_right _
  rw [h]; split <;> omega
theorem gi_nonneg (n d : Int) : 0 ≤ gi n d := Int.natCast_nonneg _
theorem gi_pos {n d : Int} (h : d ≠ 0) : 0 < gi n d := by
  unfold gi
  have : 0 < Int.gcd n d := Nat.gcd_pos_of_pos_right _ (by omega)
  omega
theorem gi_dvd_left (n d : Int) : gi n d ∣ n := Int.gcd_dvd_left ..
theorem gi_dvd_right (n d : Int) : gi n d ∣ d := Int.gcd_dvd_right ..
theorem gi_le {n d : Int} (h : d ≠ 0) : gi n d ≤ d.natAbs := by
  have h1 := gi_dvd_right n d
  have h2 : gi n d ∣ (d.natAbs : Int) := Int.dvd_natAbs.2 h1
  exact Int.le_of_dvd (by omega) h2
theorem gi_neg_left (n d : Int) : gi (-n) d = gi n d := by unfold gi; congr 1; show Nat.gcd (-n).natAbs _ = _; rw [Int.natAbs_neg]; rfl
theorem gi_neg_right (n d : Int) : gi n (-d) = gi n d := by unfold gi; congr 1; show Nat.gcd _ (-d).natAbs = _; rw [Int.natAbs_neg]; rfl
theorem tmod_abs_lt (a : Int) {b : Int} (h : b ≠ 0) : (a.tmod b).natAbs < b.natAbs := by
  rw [Int.natAbs_tmod]; exact Nat.mod_lt _ (by omega)

/-- In the range of a ratio's numbers. -/
def rangeB (n d : Int) : Bool := decide (1 ≤ d ∧ d ≤ 1000000000 ∧ -1000000000 ≤ n ∧ n ≤ 1000000000)
/-- A ratio. -/
def okB (n d : Int) : Bool := decide ((1 ≤ d ∧ d ≤ 1000000000 ∧ -1000000000 ≤ n ∧ n ≤ 1000000000) ∧ gi n d = 1)
def termB (n : Int) : Bool := decide (-2000000000000000000 ≤ n ∧ n ≤ 2000000000000000000)

theorem rangeB_true {n d : Int} (h : rangeB n d = true) : 1 ≤ d ∧ d ≤ 1000000000 ∧ -1000000000 ≤ n ∧ n ≤ 1000000000 := of_decide_eq_true h
theorem okB_true {n d : Int} (h : okB n d = true) : (1 ≤ d ∧ d ≤ 1000000000 ∧ -1000000000 ≤ n ∧ n ≤ 1000000000) ∧ gi n d = 1 := of_decide_eq_true h
theorem okB_mk {n d : Int} (h : (1 ≤ d ∧ d ≤ 1000000000 ∧ -1000000000 ≤ n ∧ n ≤ 1000000000)) (hg : gi n d = 1) : okB n d = true := decide_eq_true ⟨h, hg⟩
theorem okB_range {n d : Int} (h : okB n d = true) : rangeB n d = true := decide_eq_true (okB_true h).1
theorem okB_no_range {n d : Int} (h : rangeB n d = false) : okB n d = false := by
  unfold okB; exact decide_eq_false (fun hh => absurd hh.1 (of_decide_eq_false h))
theorem okB_no_gcd {n d : Int} (h : gi n d ≠ 1) : okB n d = false := by
  unfold okB; exact decide_eq_false (fun hh => h hh.2)
theorem termB_true {n : Int} (h : termB n = true) : -2000000000000000000 ≤ n ∧ n ≤ 2000000000000000000 := of_decide_eq_true h
theorem termB_false {n : Int} (h : termB n = false) : n < -2000000000000000000 ∨ 2000000000000000000 < n := by
  have := of_decide_eq_false h
  omega

/-- The divisor by which both are divided: negative with d. -/
def cd (n d : Int) : Int := if d < 0 then -gi n d else gi n d
def redN (n d : Int) : Int := n.tdiv (cd n d)
def redD (n d : Int) : Int := d.tdiv (cd n d)

theorem cd_pos {n d : Int} (h : 0 < d) : cd n d = gi n d := by unfold cd; rw [if_neg (by omega)]
theorem cd_neg {n d : Int} (h : d < 0) : cd n d = -gi n d := by unfold cd; rw [if_pos h]
theorem cd_ne {n d : Int} (h : d ≠ 0) : cd n d ≠ 0 := by have := gi_pos (n := n) h; unfold cd; split <;> omega
theorem cd_bound {n d : Int} (h : d ≠ 0) : (cd n d).natAbs ≤ d.natAbs := by
  have h1 := gi_le (n := n) h; have := gi_nonneg n d; unfold cd; split <;> omega

/-- The model turns both signs first: the same. -/
theorem red_neg {n d : Int} (h : d < 0) : redN n d = (-n).tdiv (gi (-n) (-d)) ∧ redD n d = (-d).tdiv (gi (-n) (-d)) := by
  unfold redN redD
  rw [cd_neg h, gi_neg_left, gi_neg_right, Int.tdiv_neg, Int.neg_tdiv, Int.tdiv_neg, Int.neg_tdiv]
  exact ⟨rfl, rfl⟩

theorem redN_mul {n d : Int} : redN n d * cd n d = n := by
  unfold redN
  apply Int.tdiv_mul_cancel
  unfold cd; split
  · exact Int.neg_dvd.2 (gi_dvd_left n d)
  · exact gi_dvd_left n d
theorem redD_mul {n d : Int} : redD n d * cd n d = d := by
  unfold redD
  apply Int.tdiv_mul_cancel
  unfold cd; split
  · exact Int.neg_dvd.2 (gi_dvd_right n d)
  · exact gi_dvd_right n d
theorem cd_abs (n d : Int) : (cd n d).natAbs = Int.gcd n d := by
  have : gi n d = (Int.gcd n d : Int) := rfl
  unfold cd; split <;> omega
/-- What is left has no common divisor. -/
theorem red_gi {n d : Int} (h : d ≠ 0) : gi (redN n d) (redD n d) = 1 := by
  have h1 : Int.gcd (redN n d * cd n d) (redD n d * cd n d) = Int.gcd (redN n d) (redD n d) * (cd n d).natAbs := Int.gcd_mul_right ..
  rw [redN_mul, redD_mul, cd_abs] at h1
  have hp : 0 < Int.gcd n d := Nat.gcd_pos_of_pos_right _ (by omega)
  have h2 : Int.gcd (redN n d) (redD n d) = 1 := by
    have : 1 * Int.gcd n d = Int.gcd (redN n d) (redD n d) * Int.gcd n d := by rw [Nat.one_mul]; exact h1
    exact (Nat.eq_of_mul_eq_mul_right hp this).symm
  unfold gi; rw [h2]; rfl
theorem red_ok {n d : Int} (h : d ≠ 0) : okB (redN n d) (redD n d) = rangeB (redN n d) (redD n d) := by
  unfold okB rangeB
  rw [decide_eq_decide]
  exact ⟨fun a => a.1, fun a => ⟨a, red_gi h⟩⟩
/-- A pair in range is its own reduced form exactly if it is a ratio. -/
theorem red_self {n d : Int} (h : rangeB n d = true) : (okB n d = true → redN n d = n ∧ redD n d = d) ∧ (okB n d = false → redD n d ≠ d) := by
  have hr := rangeB_true h
  constructor
  · intro hk
    have hg := (okB_true hk).2
    unfold redN redD
    rw [cd_pos (by omega), hg, Int.tdiv_one, Int.tdiv_one]
    exact ⟨rfl, rfl⟩
  · intro hk he
    have hm := redD_mul (n := n) (d := d)
    rw [he, cd_pos (by omega)] at hm
    have : gi n d = 1 := by
      have h2 : d * gi n d = d * 1 := by rw [hm, Int.mul_one]
      exact Int.eq_of_mul_eq_mul_left (by omega) h2
    have := okB_mk hr this
    rw [hk] at this
    exact Bool.noConfusion this

/-- n / d as a ratio; (0, 0) for none. -/
def mkR (n d : Int) : Int × Int :=
  if d = 0 ∨ termB n = false ∨ termB d = false then (0, 0) else if okB (redN n d) (redD n d) = true then (redN n d, redD n d) else (0, 0)
theorem mkR_no {n d : Int} (h : d = 0 ∨ termB n = false ∨ termB d = false) : mkR n d = (0, 0) := by unfold mkR; rw [if_pos h]
theorem mkR_out {n d : Int} (h : okB (redN n d) (redD n d) = false) : mkR n d = (0, 0) := by
  unfold mkR
  by_cases h2 : d = 0 ∨ termB n = false ∨ termB d = false
  · rw [if_pos h2]
  · rw [if_neg h2, if_neg (by rw [h]; exact Bool.noConfusion)]
theorem mkR_in {n d : Int} (h0 : d ≠ 0) (h1 : termB n = true) (h2 : termB d = true) (h : okB (redN n d) (redD n d) = true) : mkR n d = (redN n d, redD n d) := by
  unfold mkR
  have hn : ¬ (d = 0 ∨ termB n = false ∨ termB d = false) := by
    rw [h1, h2]
    rintro (a | a | a)
    · exact h0 a
    · exact Bool.noConfusion a
    · exact Bool.noConfusion a
  rw [if_neg hn, if_pos h]
theorem okB_00 : okB 0 0 = false := by decide
theorem okB_den (n : Int) : okB n 0 = false := by unfold okB; exact decide_eq_false (by omega)

/-- The value of a result: none, or a ratio that is n / d. -/
theorem mkR_cases (n d : Int) : mkR n d = (0, 0) ∨ ∃ x y, mkR n d = (x, y) ∧ okB x y = true ∧ x * d = n * y := by
  unfold mkR
  by_cases h2 : d = 0 ∨ termB n = false ∨ termB d = false
  · rw [if_pos h2]; exact Or.inl rfl
  · rw [if_neg h2]
    by_cases h : okB (redN n d) (redD n d) = true
    · rw [if_pos h]
      refine Or.inr ⟨_, _, rfl, h, ?_⟩
      have hN := redN_mul (n := n) (d := d)
      have hD := redD_mul (n := n) (d := d)
      calc redN n d * d = redN n d * (redD n d * cd n d) := by rw [hD]
        _ = redN n d * cd n d * redD n d := by rw [Int.mul_comm (redD n d), ← Int.mul_assoc]
        _ = n * redD n d := by rw [hN]
    · rw [if_neg h]; exact Or.inl rfl
theorem mkR_bound {n d x y : Int} (h : mkR n d = (x, y)) : -1000000000 ≤ x ∧ x ≤ 1000000000 ∧ 0 ≤ y ∧ y ≤ 1000000000 := by
  rcases mkR_cases n d with h1 | ⟨a, b, h1, hk, _⟩
  · rw [h1] at h; injection h with e1 e2; omega
  · rw [h1] at h; injection h with e1 e2; have := (okB_true hk).1; omega

/-- Two ratios of one value are one. -/
theorem ok_unique {n d x y : Int} (h1 : okB n d = true) (h2 : okB x y = true) (he : n * y = x * d) : n = x ∧ d = y := by
  obtain ⟨r1, g1⟩ := okB_true h1
  obtain ⟨r2, g2⟩ := okB_true h2
  have c1 : Nat.Coprime n.natAbs d.natAbs := by have : (Int.gcd n d : Int) = 1 := g1; exact Int.ofNat.inj this
  have c2 : Nat.Coprime x.natAbs y.natAbs := by have : (Int.gcd x y : Int) = 1 := g2; exact Int.ofNat.inj this
  have ha : n.natAbs * y.natAbs = x.natAbs * d.natAbs := by rw [← Int.natAbs_mul, ← Int.natAbs_mul, he]
  have d1 : d.natAbs ∣ y.natAbs := Nat.Coprime.dvd_of_dvd_mul_left c1.symm (by rw [ha]; exact Nat.dvd_mul_left _ _)
  have d2 : y.natAbs ∣ d.natAbs := Nat.Coprime.dvd_of_dvd_mul_left c2.symm (by rw [← ha]; exact Nat.dvd_mul_left _ _)
  have hd : d.natAbs = y.natAbs := Nat.dvd_antisymm d1 d2
  have hdy : d = y := by omega
  subst hdy
  exact ⟨Int.eq_of_mul_eq_mul_right (by omega) he, rfl⟩
/-- A quotient that is a ratio's value gives that ratio. -/
theorem mkR_eq {n d x y : Int} (hk : okB x y = true) (h0 : d ≠ 0) (h1 : termB n = true) (h2 : termB d = true) (he : x * d = n * y) : mkR n d = (x, y) := by
  have hN := redN_mul (n := n) (d := d)
  have hD := redD_mul (n := n) (d := d)
  have hc := cd_ne (n := n) h0
  obtain ⟨r, g⟩ := okB_true hk
  have hg := red_gi (n := n) h0
  -- the reduced form has the value of x / y
  have hv : redN n d * y = x * redD n d := by
    apply Int.eq_of_mul_eq_mul_right hc
    calc redN n d * y * cd n d = redN n d * cd n d * y := by rw [Int.mul_assoc, Int.mul_comm y, ← Int.mul_assoc]
      _ = n * y := by rw [hN]
      _ = x * d := he.symm
      _ = x * (redD n d * cd n d) := by rw [hD]
      _ = x * redD n d * cd n d := by rw [Int.mul_assoc]
  have c1 : Nat.Coprime (redN n d).natAbs (redD n d).natAbs := by have : (Int.gcd (redN n d) (redD n d) : Int) = 1 := hg; exact Int.ofNat.inj this
  have c2 : Nat.Coprime x.natAbs y.natAbs := by have : (Int.gcd x y : Int) = 1 := g; exact Int.ofNat.inj this
  have ha : (redN n d).natAbs * y.natAbs = x.natAbs * (redD n d).natAbs := by rw [← Int.natAbs_mul, ← Int.natAbs_mul, hv]
  have d1 : (redD n d).natAbs ∣ y.natAbs := Nat.Coprime.dvd_of_dvd_mul_left c1.symm (by rw [ha]; exact Nat.dvd_mul_left _ _)
  have d2 : y.natAbs ∣ (redD n d).natAbs := Nat.Coprime.dvd_of_dvd_mul_left c2.symm (by rw [← ha]; exact Nat.dvd_mul_left _ _)
  have hd : (redD n d).natAbs = y.natAbs := Nat.dvd_antisymm d1 d2
  have hpos : 0 < redD n d := by
    have hcs : (0 < d ∧ 0 < cd n d) ∨ (d < 0 ∧ cd n d < 0) := by
      have := gi_pos (n := n) h0
      by_cases hd0 : d < 0
      · exact Or.inr ⟨hd0, by rw [cd_neg hd0]; omega⟩
      · exact Or.inl ⟨by omega, by rw [cd_pos (by omega)]; exact this⟩
    rcases Int.lt_trichotomy 0 (redD n d) with hh | hh | hh
    · exact hh
    · rw [← hh] at hd; exfalso; omega
    · exfalso
      rcases hcs with ⟨a, b⟩ | ⟨a, b⟩
      · have := Int.mul_neg_of_neg_of_pos hh b; omega
      · have := Int.mul_pos_of_neg_of_neg hh b; omega
  have hdy : redD n d = y := by omega
  have hnx : redN n d = x := by rw [hdy] at hv; exact Int.eq_of_mul_eq_mul_right (by omega) hv
  have hk2 : okB (redN n d) (redD n d) = true := by rw [hnx, hdy]; exact hk
  rw [mkR_in h0 h1 h2 hk2, hnx, hdy]

/-- Products of a ratio's numbers. -/
theorem mul_bound {a b : Int} (h0 : -1000000000 ≤ a) (h1 : a ≤ 1000000000) (h2 : -1000000000 ≤ b) (h3 : b ≤ 1000000000) : -1000000000000000000 ≤ a * b ∧ a * b ≤ 1000000000000000000 := by
  have h : (a * b).natAbs ≤ 1000000000 * 1000000000 := by
    rw [Int.natAbs_mul]; exact Nat.mul_le_mul (by omega) (by omega)
  omega
end Go.Proofs.Ytaomjggamamckaa.rat

namespace Go.Proofs.Ytaomjggamamckaa.rat

def addR (a b c d : Int) : Int × Int := if (okB a b && okB c d) = true then mkR (a * d + c * b) (b * d) else (0, 0)
def mulR (a b c d : Int) : Int × Int := if (okB a b && okB c d) = true then mkR (a * c) (b * d) else (0, 0)
def divR (a b c d : Int) : Int × Int := if (okB a b && okB c d) = true then mkR (a * d) (b * c) else (0, 0)
def negR (a b : Int) : Int × Int := if okB a b = true then (-a, b) else (0, 0)
def cmpV (x y : Int) : Int := if x < y then -1 else if y < x then 1 else 0
def cmpR (a b c d : Int) : Int := if (okB a b && okB c d) = true then cmpV (a * d) (c * b) else 2
def floorV (a b : Int) : Int := a / b
def floorR (a b : Int) : Int := if okB a b = true then floorV a b else 0
def ceilR (a b : Int) : Int := if okB a b = true then -floorV (-a) b else 0
theorem addR_no1 {a b c d : Int} (h : okB a b = false) : addR a b c d = (0, 0) := by unfold addR; rw [h]; rfl
theorem addR_no2 {a b c d : Int} (h : okB c d = false) : addR a b c d = (0, 0) := by unfold addR; rw [h, Bool.and_false]; rfl
theorem addR_yes {a b c d : Int} (h : okB a b = true) (h2 : okB c d = true) : addR a b c d = mkR (a * d + c * b) (b * d) := by unfold addR; rw [h, h2]; rfl
theorem mulR_no1 {a b c d : Int} (h : okB a b = false) : mulR a b c d = (0, 0) := by unfold mulR; rw [h]; rfl
theorem mulR_no2 {a b c d : Int} (h : okB c d = false) : mulR a b c d = (0, 0) := by unfold mulR; rw [h, Bool.and_false]; rfl
theorem mulR_yes {a b c d : Int} (h : okB a b = true) (h2 : okB c d = true) : mulR a b c d = mkR (a * c) (b * d) := by unfold mulR; rw [h, h2]; rfl
theorem divR_no1 {a b c d : Int} (h : okB a b = false) : divR a b c d = (0, 0) := by unfold divR; rw [h]; rfl
theorem divR_no2 {a b c d : Int} (h : okB c d = false) : divR a b c d = (0, 0) := by unfold divR; rw [h, Bool.and_false]; rfl
theorem divR_yes {a b c d : Int} (h : okB a b = true) (h2 : okB c d = true) : divR a b c d = mkR (a * d) (b * c) := by unfold divR; rw [h, h2]; rfl
theorem cmpR_no1 {a b c d : Int} (h : okB a b = false) : cmpR a b c d = 2 := by unfold cmpR; rw [h]; rfl
theorem cmpR_no2 {a b c d : Int} (h : okB c d = false) : cmpR a b c d = 2 := by unfold cmpR; rw [h, Bool.and_false]; rfl
theorem cmpR_yes {a b c d : Int} (h : okB a b = true) (h2 : okB c d = true) : cmpR a b c d = cmpV (a * d) (c * b) := by unfold cmpR; rw [h, h2]; rfl
theorem negR_no {a b : Int} (h : okB a b = false) : negR a b = (0, 0) := by unfold negR; rw [h]; rfl
theorem negR_yes {a b : Int} (h : okB a b = true) : negR a b = (-a, b) := by unfold negR; rw [h]; rfl
theorem floorR_no {a b : Int} (h : okB a b = false) : floorR a b = 0 := by unfold floorR; rw [h]; rfl
theorem floorR_yes {a b : Int} (h : okB a b = true) : floorR a b = floorV a b := by unfold floorR; rw [h]; rfl
theorem ceilR_no {a b : Int} (h : okB a b = false) : ceilR a b = 0 := by unfold ceilR; rw [h]; rfl
theorem ceilR_yes {a b : Int} (h : okB a b = true) : ceilR a b = -floorV (-a) b := by unfold ceilR; rw [h]; rfl

/-- Rounding down from Go's quotient and remainder. -/
theorem floorV_neg {a b : Int} (hb : 0 < b) (h : a.tmod b < 0) : a.tdiv b - 1 = floorV a b := by
  unfold floorV
  rw [Int.tmod_eq_emod] at h
  rw [Int.tdiv_eq_ediv]
  by_cases hc : 0 ≤ a ∨ b ∣ a
  · rw [if_pos hc] at h
    have := Int.emod_nonneg a (show b ≠ 0 by omega)
    omega
  · rw [if_neg hc, Int.sign_eq_one_of_pos hb]; omega
theorem floorV_pos {a b : Int} (hb : 0 < b) (h : ¬ a.tmod b < 0) : a.tdiv b = floorV a b := by
  unfold floorV
  rw [Int.tmod_eq_emod] at h
  rw [Int.tdiv_eq_ediv]
  by_cases hc : 0 ≤ a ∨ b ∣ a
  · rw [if_pos hc]; omega
  · rw [if_neg hc] at h
    have := Int.emod_lt_of_pos a hb
    omega
theorem floorV_bound {a b : Int} (hb : 0 < b) (h0 : -1000000000 ≤ a) (h1 : a ≤ 1000000000) : -1000000000 ≤ floorV a b ∧ floorV a b ≤ 1000000000 := by
  unfold floorV
  constructor
  · rw [Int.le_ediv_iff_mul_le hb]
    have : 1000000000 * 1 ≤ 1000000000 * b := Int.mul_le_mul_of_nonneg_left (by omega) (by omega)
    omega
  · exact Int.le_trans (Int.ediv_le_ediv hb h1) (Int.ediv_le_self _ (by omega))
theorem floorV_le {a b : Int} (hb : 0 < b) : floorV a b * b ≤ a := by unfold floorV; exact Int.ediv_mul_le _ (by omega)
theorem floorV_lt {a b : Int} (hb : 0 < b) : a < (floorV a b + 1) * b := by unfold floorV; exact Int.lt_ediv_add_one_mul_self _ hb
/-- The model's and the program's ceiling. -/
theorem ceil_neg (a b : Int) : -floorR (negR a b).1 (negR a b).2 = ceilR a b := by
  cases h : okB a b
  · rw [negR_no h, ceilR_no h]; show -floorR 0 0 = 0; rw [floorR_no okB_00]; rfl
  · have h2 : okB (-a) b = true := by
      obtain ⟨r, g⟩ := okB_true h
      exact okB_mk (by omega) (by rw [gi_neg_left]; exact g)
    rw [negR_yes h, ceilR_yes h]; show -floorR (-a) b = _; rw [floorR_yes h2]
theorem okB_neg {a b : Int} (h : okB a b = true) : okB (-a) b = true := by
  obtain ⟨r, g⟩ := okB_true h
  exact okB_mk (by omega) (by rw [gi_neg_left]; exact g)
end Go.Proofs.Ytaomjggamamckaa.rat

namespace Go.Proofs.Ytaomjggamamckaa.rat
open Go.RowKit

theorem ret_int {a b : Int} (h : a = b) : Ending.returned (.int .i64 a) = .returned (.int .i64 b) := by rw [h]
theorem step_bound {a b : Int} (hb : b ≠ 0) (h0 : -9223372036854775807 ≤ b) (h1 : b ≤ 9223372036854775807) : -9223372036854775807 ≤ a.tmod b ∧ a.tmod b ≤ 9223372036854775807 := by
  have := tmod_abs_lt a hb
  omega
set_option maxRecDepth 100000 in
set_option maxHeartbeats 400000 in
theorem spec_gcd (n d : Int) (w : World) (hn0 : -9223372036854775807 ≤ n) (hn1 : n ≤ 9223372036854775807) (hd0 : -9223372036854775807 ≤ d) (hd1 : d ≤ 9223372036854775807) :
    Calls Try.prog 67 #[.int .i64 n, .int .i64 d] w fun e w' => e = .returned (.int .i64 (gi n d)) ∧ Below w.heap.size w w' := by
  go_enter Try.func67, Try.ntmps67
  go_wp2
  go_loopw [0, 1] (fun x y wr => ∃ a b : Int, x = .int .i64 a ∧ y = .int .i64 b ∧ (-9223372036854775807 ≤ a ∧ a ≤ 9223372036854775807) ∧ (-9223372036854775807 ≤ b ∧ b ≤ 9223372036854775807) ∧ Hid (gi a b = gi n d) ∧ Below w.heap.size w wr) (fun _ y _ => (intOf y).natAbs)
  case atStart => exact ⟨n, d, rfl, rfl, ⟨hn0, hn1⟩, ⟨hd0, hd1⟩, Lib.hid rfl, Below.refl _ _⟩
  case round =>
    obtain ⟨a, b, rfl, rfl, ⟨ha0, ha1⟩, ⟨hb0, hb1⟩, HG, hb⟩ := hrel
    clear hn0 hn1 hd0 hd1
    by_cases hz : b = 0
    · subst hz
      have HZ := Lib.hid (gi_zero a)
      by_cases hneg : a < 0
      · go_wp2
        go_ret
        exact ⟨ret_int (by rw [← HG.out, HZ.out, if_pos hneg]), hb⟩
      · go_wp2
        go_ret
        exact ⟨ret_int (by rw [← HG.out, HZ.out, if_neg (by omega)]), hb⟩
    · have HS := Lib.hid (gi_step a b)
      have HB := Lib.hid (step_bound (a := a) hz hb0 hb1)
      have HM := Lib.hid (tmod_abs_lt a hz)
      have hz1 : (b == 0) = false := beq_eq_false_iff_ne.2 hz
      have hz2 : (b != 0) = true := bne_iff_ne.2 hz
      go_wp2
      go_quiet (fail)
      go_wp2
      go_roundw
      case rel => exact ⟨b, _, rfl, rfl, ⟨hb0, hb1⟩, HB.out, Lib.hid (HS.out.trans HG.out), below_drewN hb _⟩
      case measure => exact HM.out
end Go.Proofs.Ytaomjggamamckaa.rat

namespace Go.Proofs.Ytaomjggamamckaa.rat
open Go.RowKit

theorem ret_bool {a b : Bool} (h : a = b) : Ending.returned (.bool a) = .returned (.bool b) := by rw [h]
theorem l1_in_yes (x lo hi : Int) (w : World) (h0 : lo ≤ x) (h1 : x ≤ hi) :
    Calls Try.prog 66 #[.int .i64 x, .int .i64 lo, .int .i64 hi] w fun e w' => e = .returned (.bool true) ∧ w = w' := by
  have d1 : decide (x ≤ hi) = true := decide_eq_true h1
  go_enter Try.func66, Try.ntmps66
  go_wp2
  go_ret
  exact ⟨rfl, rfl⟩
theorem l1_in_no (x lo hi : Int) (w : World) (h : x < lo ∨ hi < x) :
    Calls Try.prog 66 #[.int .i64 x, .int .i64 lo, .int .i64 hi] w fun e w' => e = .returned (.bool false) ∧ w = w' := by
  by_cases h0 : x < lo
  · have d0 : decide (lo ≤ x) = false := decide_eq_false (by omega)
    go_enter Try.func66, Try.ntmps66
    go_wp2
    go_ret
    exact ⟨rfl, rfl⟩
  · have d0 : decide (lo ≤ x) = true := decide_eq_true (by omega)
    have d1 : decide (x ≤ hi) = false := decide_eq_false (by omega)
    go_enter Try.func66, Try.ntmps66
    go_wp2
    go_ret
    exact ⟨rfl, rfl⟩
set_option maxRecDepth 100000 in
set_option maxHeartbeats 400000 in
theorem spec_isRatio (n d : Int) (w : World) :
    Calls Try.prog 42 #[.agg #[.int .i64 n, .int .i64 d]] w fun e w' => e = .returned (.bool (okB n d)) ∧ Below w.heap.size w w' := by
  by_cases h0 : 1 ≤ d ∧ d ≤ 1000000000
  · obtain ⟨h0, h1⟩ := h0
    by_cases h2 : -1000000000 ≤ n ∧ n ≤ 1000000000
    · obtain ⟨h2, h3⟩ := h2
      go_enter Try.func42, Try.ntmps42
      go_wp2_with fail
      refine (l1_in_yes _ _ _ _ h0 h1).mono ?_
      rintro e w1 ⟨rfl, rfl⟩
      go_wp2_with fail
      refine (l1_in_yes _ _ _ _ h2 h3).mono ?_
      rintro e w1 ⟨rfl, rfl⟩
      go_wp2_with fail
      refine (spec_gcd _ _ _ (by omega) (by omega) (by omega) (by omega)).mono ?_
      rintro e w1 ⟨rfl, hb⟩
      have HO : Hid (okB n d = (gi n d == 1)) := Lib.hid (by unfold okB; rw [Bool.eq_iff_iff, decide_eq_true_iff, beq_iff_eq]; exact ⟨fun a => a.2, fun a => ⟨⟨h0, h1, h2, h3⟩, a⟩⟩)
      have HB := Lib.hid (((Below.refl _ _).alloc (Nat.le_refl _) _).trans (hb.mono (by simp)))
      clear hb
      generalize gi n d = g at *
      go_wp2_with fail
      go_ret
      exact ⟨ret_bool HO.out.symm, HB.out⟩
    · have HO : Hid (okB n d = false) := Lib.hid (okB_no_range (decide_eq_false (by omega)))
      go_enter Try.func42, Try.ntmps42
      go_wp2_with fail
      refine (l1_in_yes _ _ _ _ h0 h1).mono ?_
      rintro e w1 ⟨rfl, rfl⟩
      go_wp2_with fail
      refine (l1_in_no _ _ _ _ (by omega)).mono ?_
      rintro e w1 ⟨rfl, rfl⟩
      go_wp2_with fail
      go_ret
      exact ⟨ret_bool HO.out.symm, (Below.refl _ _).alloc (Nat.le_refl _) _⟩
  · have HO : Hid (okB n d = false) := Lib.hid (okB_no_range (decide_eq_false (by omega)))
    go_enter Try.func42, Try.ntmps42
    go_wp2_with fail
    refine (l1_in_no _ _ _ _ (by omega)).mono ?_
    rintro e w1 ⟨rfl, rfl⟩
    go_wp2_with fail
    go_ret
    exact ⟨ret_bool HO.out.symm, (Below.refl _ _).alloc (Nat.le_refl _) _⟩
end Go.Proofs.Ytaomjggamamckaa.rat

namespace Go.Proofs.Ytaomjggamamckaa.rat
open Go.RowKit

/-- A pair of numbers as the value of a ratio, behind a call that made memory. -/
def RatRes (p : Int × Int) (w : World) (e : Ending) (w' : World) : Prop := ∃ x y : Int, e = .returned (.agg #[.int .i64 x, .int .i64 y]) ∧ Hid (p = (x, y)) ∧ Below w.heap.size w w'
/-- What a block holds is kept by a call that changes nothing below it. -/
theorem blk_keep {w w1 : World} {b B : Nat} {o : Obj} (h : w.heap[b]? = some o) (hb : Below B w w1) (hlt : b < B) : w1.heap[b]? = some o := (hb.block b hlt).trans h
/-- Both numbers of a ratio stored. -/
theorem blk_set2 {w : World} {g : Nat} {a b x y : Value} {t : TypeId} (h : w.heap[g]? = some (.cells #[a, b] t (0, 0))) :
    ((w.setCell ⟨g, 0, none⟩ x).setCell ⟨g, 1, none⟩ y).heap[g]? = some (.cells #[x, y] t (0, 0)) :=
  heap_setCell_same _ g 1 _ t y (heap_setCell_same w g 0 _ t x h)
theorem tdiv_bound (n : Int) {g : Int} (_h : 0 < g) (h0 : -2000000000000000000 ≤ n) (h1 : n ≤ 2000000000000000000) :
    -2000000000000000000 ≤ n.tdiv g ∧ n.tdiv g ≤ 2000000000000000000 ∧ wrap64 (-n.tdiv g) = -n.tdiv g := by
  have h2 : (n.tdiv g).natAbs ≤ n.natAbs := by rw [Int.natAbs_tdiv]; exact Nat.div_le_self _ _
  refine ⟨by omega, by omega, ?_⟩
  unfold wrap64; omega
end Go.Proofs.Ytaomjggamamckaa.rat

namespace Go.Proofs.Ytaomjggamamckaa.rat
open Go.RowKit

theorem held_c {W W' : World} {a : Addr} {v : Value} (h : W.cell? a = some v) (hb : Below W.heap.size W W') : W'.cell? a = some v := (hb.cell (block_lt_of_cell h)).trans h
theorem held_b {w W W' : World} (h : Below w.heap.size w W) (hb : Below W.heap.size W W') : Below w.heap.size w W' := h.trans (hb.mono h.size)
theorem held2 {w W W' : World} {a b : Addr} {x y : Value} (h : W.cell? a = some x ∧ W.cell? b = some y ∧ Below w.heap.size w W) (hb : Below W.heap.size W W') :
    W'.cell? a = some x ∧ W'.cell? b = some y ∧ Below w.heap.size w W' := ⟨held_c h.1 hb, held_c h.2.1 hb, held_b h.2.2 hb⟩
end Go.Proofs.Ytaomjggamamckaa.rat

namespace Go.Proofs.Ytaomjggamamckaa.rat
open Go.RowKit

theorem spec_isRatio_is (n d : Int) (w : World) (b : Bool) (h : okB n d = b) :
    Calls Try.prog 42 #[.agg #[.int .i64 n, .int .i64 d]] w fun e w' => e = .returned (.bool b) ∧ Below w.heap.size w w' := h ▸ spec_isRatio n d w
set_option maxRecDepth 100000 in
set_option maxHeartbeats 400000 in
theorem spec_make_no (n d : Int) (w : World) (h : d = 0 ∨ termB n = false ∨ termB d = false) :
    Calls Try.prog 43 #[.int .i64 n, .int .i64 d] w (RatRes (mkR n d) w) := by
  have HM := Lib.hid (mkR_no h)
  by_cases hd : d = 0
  · subst hd
    clear h
    go_enter Try.func43, Try.ntmps43
    go_wp2_with fail
    exact bodyPost_ret (v := .agg #[.int .i64 0, .int .i64 0]) (results_cell_row Try.results43 _ _ _ _ _ _ _ rfl (heap_alloc_new _ _) Try.underlying28 rfl (by kernel_rfl)) rfl ⟨_, _, rfl, HM, (Below.refl _ _).alloc (Nat.le_refl _) _⟩
  · have hd0 : (d == 0) = false := beq_eq_false_iff_ne.2 hd
    obtain ⟨bn, hbn⟩ : ∃ b, termB n = b := ⟨_, rfl⟩
    cases bn
    · have HN := Lib.hid (termB_false hbn)
      clear hbn h
      go_enter Try.func43, Try.ntmps43
      go_wp2_with fail
      refine (l1_in_no n _ _ _ HN.out).mono ?_
      rintro e w1 ⟨rfl, rfl⟩
      go_wp2_with fail
      exact bodyPost_ret (v := .agg #[.int .i64 0, .int .i64 0]) (results_cell_row Try.results43 _ _ _ _ _ _ _ rfl (heap_alloc_new _ _) Try.underlying28 rfl (by kernel_rfl)) rfl ⟨_, _, rfl, HM, (Below.refl _ _).alloc (Nat.le_refl _) _⟩
    · have hdf : termB d = false := by
        rcases h with h | h | h
        · exact absurd h hd
        · rw [hbn] at h; exact Bool.noConfusion h
        · exact h
      have HN := Lib.hid (termB_true hbn)
      have HD := Lib.hid (termB_false hdf)
      clear hbn h hdf
      go_enter Try.func43, Try.ntmps43
      go_wp2_with fail
      refine (l1_in_yes n _ _ _ HN.out.1 HN.out.2).mono ?_
      rintro e w1 ⟨rfl, rfl⟩
      go_wp2_with fail
      refine (l1_in_no d _ _ _ HD.out).mono ?_
      rintro e w1 ⟨rfl, rfl⟩
      go_wp2_with fail
      exact bodyPost_ret (v := .agg #[.int .i64 0, .int .i64 0]) (results_cell_row Try.results43 _ _ _ _ _ _ _ rfl (heap_alloc_new _ _) Try.underlying28 rfl (by kernel_rfl)) rfl ⟨_, _, rfl, HM, (Below.refl _ _).alloc (Nat.le_refl _) _⟩
set_option maxRecDepth 100000 in
set_option maxHeartbeats 800000 in
theorem spec_make_yes (n d : Int) (w : World) (hd : d ≠ 0) (hn0 : -2000000000000000000 ≤ n) (hn1 : n ≤ 2000000000000000000) (hd0 : -2000000000000000000 ≤ d) (hd1 : d ≤ 2000000000000000000) :
    Calls Try.prog 43 #[.int .i64 n, .int .i64 d] w (RatRes (mkR n d) w) := by
  have hdb : (d == 0) = false := beq_eq_false_iff_ne.2 hd
  have HN : Hid (termB n = true) := Lib.hid (decide_eq_true ⟨hn0, hn1⟩)
  have HD : Hid (termB d = true) := Lib.hid (decide_eq_true ⟨hd0, hd1⟩)
  have hs : d < 0 ∨ 0 < d := by omega
  rcases hs with hs | hs
  · have HRD : Hid ((redN n d, redD n d) = (-n.tdiv (gi (-n) (-d)), -d.tdiv (gi (-n) (-d)))) := Lib.hid (by rw [(red_neg hs).1, (red_neg hs).2, Int.neg_tdiv, Int.neg_tdiv])
    go_enter Try.func43, Try.ntmps43
    go_wp2_with fail
    refine (l1_in_yes n _ _ _ hn0 hn1).mono ?_
    rintro e w1 ⟨rfl, rfl⟩
    go_wp2_with fail
    refine (l1_in_yes d _ _ _ hd0 hd1).mono ?_
    rintro e w1 ⟨rfl, rfl⟩
    go_wp2_with fail
    refine (spec_gcd (-n) (-d) _ (by omega) (by omega) (by omega) (by omega)).mono ?_
    rintro e w1 ⟨rfl, hb⟩
    have HX : Hid ((redN n d, redD n d) = ((-n.tdiv (gi (-n) (-d))), (-d.tdiv (gi (-n) (-d))))) := Lib.hid HRD.out
    have g0 : 0 < gi (-n) (-d) := gi_pos (by omega)
    have g1 : gi (-n) (-d) ≤ 2000000000000000000 := by have := gi_le (n := (-n)) (d := (-d)) (by omega); omega
    clear HRD
    obtain ⟨g, hg⟩ : ∃ g, gi (-n) (-d) = g := ⟨_, rfl⟩
    rw [hg] at HX g0 g1
    rw [hg]
    clear hg
    have hb0 : w1.heap[w.heap.size]? = some (.cells #[.int .i64 0, .int .i64 0] 28 (0, 0)) := blk_keep (heap_alloc_new w _) hb (by simp)
    have B1 := Lib.hid (((Below.refl _ _).alloc (Nat.le_refl _) _).trans (hb.mono (by simp)))
    have hz1 : w.heap.size < w1.heap.size := by have := hb.size; simp at this; omega
    have HX1 := Lib.hid hb0
    have q0 := tdiv_bound n g0 hn0 hn1
    have q1 := tdiv_bound d g0 hd0 hd1
    clear hb hb0
    go_wp2_with fail
    go_region
    have HKX : Hid (okB (redN n d) (redD n d) = okB (-n.tdiv g) (-d.tdiv g)) := Lib.hid (by have h2 : redN n d = _ := congrArg Prod.fst HX.out; have h3 : redD n d = _ := congrArg Prod.snd HX.out; rw [h2, h3])
    generalize (-n.tdiv g) = x at *
    generalize (-d.tdiv g) = y at *
    obtain ⟨br, hbr⟩ : ∃ b, okB x y = b := ⟨_, rfl⟩
    have HR := Lib.hid hbr
    clear hbr
    go_wp2_with fail
    refine (spec_isRatio_is x y _ br HR.out).mono ?_
    rintro e w2 ⟨rfl, hb⟩
    have hb0 : w2.heap[w.heap.size]? = some (.cells #[.int .i64 0, .int .i64 0] 28 (0, 0)) := blk_keep (w := (w1.alloc _).drew) ((Below.heap_alloc w1 _ _ hz1).trans HX1.out) hb (by simp; omega)
    have hb1 : w2.heap[w1.heap.size]? = some (.cells #[.int .i64 x, .int .i64 y] 28 (0, 0)) := blk_keep (w := (w1.alloc _).drew) (heap_alloc_new w1 _) hb (by simp)
    have c0 := cell_of_row w2 _ 0 _ _ _ hb1
    have c1 := cell_of_row w2 _ 1 _ _ _ hb1
    have r0 := cell_of_row w2 _ 0 _ _ _ hb0
    have r1 := cell_of_row w2 _ 1 _ _ _ hb0
    have f0 := frozen_of_row w2 _ 0 _ _ hb0
    have f1 := frozen_of_row w2 _ 1 _ _ hb0
    have B2 := Lib.hid ((B1.out.alloc (by omega) _).drew.trans (hb.mono (by simp; omega)))
    clear hb
    cases br
    · have HM : Hid (mkR n d = (0, 0)) := Lib.hid (mkR_out (HKX.out.trans HR.out))
      go_wp2_with fail
      exact bodyPost_ret (v := .agg #[.int .i64 0, .int .i64 0]) (results_cell_row Try.results43 _ _ _ _ _ _ _ rfl (blk_set2 hb0) Try.underlying28 rfl (by kernel_rfl)) rfl ⟨_, _, rfl, HM, (B2.out.setCell (by simp) _).setCell (by simp) _⟩
    · have HM : Hid (mkR n d = (x, y)) := Lib.hid ((mkR_in hd HN.out HD.out (HKX.out.trans HR.out)).trans HX.out)
      go_wp2_with fail
      exact bodyPost_ret (v := .agg #[.int .i64 x, .int .i64 y]) (results_cell_row Try.results43 _ _ _ _ _ _ _ rfl (blk_set2 hb0) Try.underlying28 rfl (by kernel_rfl)) rfl ⟨_, _, rfl, HM, (B2.out.setCell (by simp) _).setCell (by simp) _⟩
  · have HRD : Hid ((redN n d, redD n d) = (n.tdiv (gi n d), d.tdiv (gi n d))) := Lib.hid (by unfold redN redD; rw [cd_pos hs])
    go_enter Try.func43, Try.ntmps43
    go_wp2_with fail
    refine (l1_in_yes n _ _ _ hn0 hn1).mono ?_
    rintro e w1 ⟨rfl, rfl⟩
    go_wp2_with fail
    refine (l1_in_yes d _ _ _ hd0 hd1).mono ?_
    rintro e w1 ⟨rfl, rfl⟩
    go_wp2_with fail
    refine (spec_gcd n d _ (by omega) (by omega) (by omega) (by omega)).mono ?_
    rintro e w1 ⟨rfl, hb⟩
    have HX : Hid ((redN n d, redD n d) = ((n.tdiv (gi n d)), (d.tdiv (gi n d)))) := Lib.hid HRD.out
    have g0 : 0 < gi n d := gi_pos (by omega)
    have g1 : gi n d ≤ 2000000000000000000 := by have := gi_le (n := n) (d := d) (by omega); omega
    clear HRD
    obtain ⟨g, hg⟩ : ∃ g, gi n d = g := ⟨_, rfl⟩
    rw [hg] at HX g0 g1
    rw [hg]
    clear hg
    have hb0 : w1.heap[w.heap.size]? = some (.cells #[.int .i64 0, .int .i64 0] 28 (0, 0)) := blk_keep (heap_alloc_new w _) hb (by simp)
    have B1 := Lib.hid (((Below.refl _ _).alloc (Nat.le_refl _) _).trans (hb.mono (by simp)))
    have hz1 : w.heap.size < w1.heap.size := by have := hb.size; simp at this; omega
    have HX1 := Lib.hid hb0
    have q0 := tdiv_bound n g0 hn0 hn1
    have q1 := tdiv_bound d g0 hd0 hd1
    clear hb hb0
    go_wp2_with fail
    go_region
    have HKX : Hid (okB (redN n d) (redD n d) = okB (n.tdiv g) (d.tdiv g)) := Lib.hid (by have h2 : redN n d = _ := congrArg Prod.fst HX.out; have h3 : redD n d = _ := congrArg Prod.snd HX.out; rw [h2, h3])
    generalize (n.tdiv g) = x at *
    generalize (d.tdiv g) = y at *
    obtain ⟨br, hbr⟩ : ∃ b, okB x y = b := ⟨_, rfl⟩
    have HR := Lib.hid hbr
    clear hbr
    go_wp2_with fail
    refine (spec_isRatio_is x y _ br HR.out).mono ?_
    rintro e w2 ⟨rfl, hb⟩
    have hb0 : w2.heap[w.heap.size]? = some (.cells #[.int .i64 0, .int .i64 0] 28 (0, 0)) := blk_keep (w := (w1.alloc _).drew) ((Below.heap_alloc w1 _ _ hz1).trans HX1.out) hb (by simp; omega)
    have hb1 : w2.heap[w1.heap.size]? = some (.cells #[.int .i64 x, .int .i64 y] 28 (0, 0)) := blk_keep (w := (w1.alloc _).drew) (heap_alloc_new w1 _) hb (by simp)
    have c0 := cell_of_row w2 _ 0 _ _ _ hb1
    have c1 := cell_of_row w2 _ 1 _ _ _ hb1
    have r0 := cell_of_row w2 _ 0 _ _ _ hb0
    have r1 := cell_of_row w2 _ 1 _ _ _ hb0
    have f0 := frozen_of_row w2 _ 0 _ _ hb0
    have f1 := frozen_of_row w2 _ 1 _ _ hb0
    have B2 := Lib.hid ((B1.out.alloc (by omega) _).drew.trans (hb.mono (by simp; omega)))
    clear hb
    cases br
    · have HM : Hid (mkR n d = (0, 0)) := Lib.hid (mkR_out (HKX.out.trans HR.out))
      go_wp2_with fail
      exact bodyPost_ret (v := .agg #[.int .i64 0, .int .i64 0]) (results_cell_row Try.results43 _ _ _ _ _ _ _ rfl (blk_set2 hb0) Try.underlying28 rfl (by kernel_rfl)) rfl ⟨_, _, rfl, HM, (B2.out.setCell (by simp) _).setCell (by simp) _⟩
    · have HM : Hid (mkR n d = (x, y)) := Lib.hid ((mkR_in hd HN.out HD.out (HKX.out.trans HR.out)).trans HX.out)
      go_wp2_with fail
      exact bodyPost_ret (v := .agg #[.int .i64 x, .int .i64 y]) (results_cell_row Try.results43 _ _ _ _ _ _ _ rfl (blk_set2 hb0) Try.underlying28 rfl (by kernel_rfl)) rfl ⟨_, _, rfl, HM, (B2.out.setCell (by simp) _).setCell (by simp) _⟩
theorem spec_make (n d : Int) (w : World) : Calls Try.prog 43 #[.int .i64 n, .int .i64 d] w (RatRes (mkR n d) w) := by
  by_cases h : d = 0 ∨ termB n = false ∨ termB d = false
  · exact spec_make_no n d w h
  · have h1 : termB n = true := by
      cases e : termB n
      · exact absurd (Or.inr (Or.inl e)) h
      · rfl
    have h2 : termB d = true := by
      cases e : termB d
      · exact absurd (Or.inr (Or.inr e)) h
      · rfl
    exact spec_make_yes n d w (fun e => h (Or.inl e)) (termB_true h1).1 (termB_true h1).2 (termB_true h2).1 (termB_true h2).2
end Go.Proofs.Ytaomjggamamckaa.rat

namespace Go.Proofs.Ytaomjggamamckaa.rat
open Go.RowKit


end Go.Proofs.Ytaomjggamamckaa.rat

namespace Go.Proofs.Ytaomjggamamckaa.rat
open Go.RowKit

/-- Two boxes and the result's cells lie behind w. -/
structure Box2 (w W : World) (a b c d : Int) : Prop where
  x : W.heap[w.heap.size]? = some (.cells #[.int .i64 a, .int .i64 b] 28 (0, 0))
  y : W.heap[w.heap.size + 1]? = some (.cells #[.int .i64 c, .int .i64 d] 28 (0, 0))
  r : W.heap[w.heap.size + 1 + 1]? = some (.cells #[.int .i64 0, .int .i64 0] 28 (0, 0))
  lt : w.heap.size + 1 + 1 < W.heap.size
  below : Below w.heap.size w W
theorem Box2.keep {w W W' : World} {a b c d : Int} (h : Box2 w W a b c d) (hb : Below W.heap.size W W') : Box2 w W' a b c d :=
  ⟨blk_keep h.x hb (by have := h.lt; omega), blk_keep h.y hb (by have := h.lt; omega), blk_keep h.r hb h.lt, Nat.lt_of_lt_of_le h.lt hb.size, h.below.trans (hb.mono h.below.size)⟩
theorem box2 (w : World) (a b c d : Int) :
    Box2 w (((w.alloc (.cells #[.int .i64 a, .int .i64 b] 28)).alloc (.cells #[.int .i64 c, .int .i64 d] 28)).alloc (.cells #[.int .i64 0, .int .i64 0] 28)) a b c d where
  x := (Below.heap_alloc _ _ _ (by simp; omega)).trans (heap_alloc2_old w _ _)
  y := (Below.heap_alloc _ _ _ (by simp)).trans (heap_alloc2_new w _ _)
  r := by simpa using heap_alloc_new ((w.alloc (.cells #[.int .i64 a, .int .i64 b] 28)).alloc (.cells #[.int .i64 c, .int .i64 d] 28)) (.cells #[.int .i64 0, .int .i64 0] 28)
  lt := by simp
  below := (((Below.refl _ _).alloc (Nat.le_refl _) _).alloc (by simp) _).alloc (by simp; omega) _
theorem Box2.cells {w W : World} {a b c d : Int} (h : Box2 w W a b c d) :
    W.cell? ⟨w.heap.size, 0, none⟩ = some (.int .i64 a) ∧ W.cell? ⟨w.heap.size, 1, none⟩ = some (.int .i64 b) ∧ W.cell? ⟨w.heap.size + 1, 0, none⟩ = some (.int .i64 c) ∧ W.cell? ⟨w.heap.size + 1, 1, none⟩ = some (.int .i64 d) ∧
    W.cell? ⟨w.heap.size + 1 + 1, 0, none⟩ = some (.int .i64 0) ∧ W.cell? ⟨w.heap.size + 1 + 1, 1, none⟩ = some (.int .i64 0) ∧ W.frozen? ⟨w.heap.size + 1 + 1, 0, none⟩ = false ∧ W.frozen? ⟨w.heap.size + 1 + 1, 1, none⟩ = false :=
  ⟨cell_of_row W _ 0 _ _ _ h.x, cell_of_row W _ 1 _ _ _ h.x, cell_of_row W _ 0 _ _ _ h.y, cell_of_row W _ 1 _ _ _ h.y, cell_of_row W _ 0 _ _ _ h.r, cell_of_row W _ 1 _ _ _ h.r, frozen_of_row W _ 0 _ _ h.r, frozen_of_row W _ 1 _ _ h.r⟩
theorem Box2.set {w W : World} {a b c d : Int} (h : Box2 w W a b c d) (x y : Value) :
    Below w.heap.size w ((W.setCell ⟨w.heap.size + 1 + 1, 0, none⟩ x).setCell ⟨w.heap.size + 1 + 1, 1, none⟩ y) := (h.below.setCell (by simp; omega) _).setCell (by simp; omega) _
/-- Two boxes (a result that is no struct). -/
structure Box (w W : World) (a b c d : Int) : Prop where
  x : W.heap[w.heap.size]? = some (.cells #[.int .i64 a, .int .i64 b] 28 (0, 0))
  y : W.heap[w.heap.size + 1]? = some (.cells #[.int .i64 c, .int .i64 d] 28 (0, 0))
  lt : w.heap.size + 1 < W.heap.size
  below : Below w.heap.size w W
theorem Box.keep {w W W' : World} {a b c d : Int} (h : Box w W a b c d) (hb : Below W.heap.size W W') : Box w W' a b c d :=
  ⟨blk_keep h.x hb (by have := h.lt; omega), blk_keep h.y hb (by have := h.lt; omega), Nat.lt_of_lt_of_le h.lt hb.size, h.below.trans (hb.mono h.below.size)⟩
theorem boxes (w : World) (a b c d : Int) :
    Box w ((w.alloc (.cells #[.int .i64 a, .int .i64 b] 28)).alloc (.cells #[.int .i64 c, .int .i64 d] 28)) a b c d where
  x := heap_alloc2_old w _ _
  y := heap_alloc2_new w _ _
  lt := by simp
  below := ((Below.refl _ _).alloc (Nat.le_refl _) _).alloc (by simp) _
theorem Box.cells {w W : World} {a b c d : Int} (h : Box w W a b c d) :
    W.cell? ⟨w.heap.size, 0, none⟩ = some (.int .i64 a) ∧ W.cell? ⟨w.heap.size, 1, none⟩ = some (.int .i64 b) ∧ W.cell? ⟨w.heap.size + 1, 0, none⟩ = some (.int .i64 c) ∧ W.cell? ⟨w.heap.size + 1, 1, none⟩ = some (.int .i64 d) :=
  ⟨cell_of_row W _ 0 _ _ _ h.x, cell_of_row W _ 1 _ _ _ h.x, cell_of_row W _ 0 _ _ _ h.y, cell_of_row W _ 1 _ _ _ h.y⟩
/-- One box and the result's cells. -/
structure BoxR (w W : World) (a b : Int) : Prop where
  x : W.heap[w.heap.size]? = some (.cells #[.int .i64 a, .int .i64 b] 28 (0, 0))
  r : W.heap[w.heap.size + 1]? = some (.cells #[.int .i64 0, .int .i64 0] 28 (0, 0))
  lt : w.heap.size + 1 < W.heap.size
  below : Below w.heap.size w W
theorem BoxR.keep {w W W' : World} {a b : Int} (h : BoxR w W a b) (hb : Below W.heap.size W W') : BoxR w W' a b :=
  ⟨blk_keep h.x hb (by have := h.lt; omega), blk_keep h.r hb h.lt, Nat.lt_of_lt_of_le h.lt hb.size, h.below.trans (hb.mono h.below.size)⟩
theorem boxR (w : World) (a b : Int) : BoxR w ((w.alloc (.cells #[.int .i64 a, .int .i64 b] 28)).alloc (.cells #[.int .i64 0, .int .i64 0] 28)) a b where
  x := heap_alloc2_old w _ _
  r := heap_alloc2_new w _ _
  lt := by simp
  below := ((Below.refl _ _).alloc (Nat.le_refl _) _).alloc (by simp) _
theorem BoxR.cells {w W : World} {a b : Int} (h : BoxR w W a b) :
    W.cell? ⟨w.heap.size, 0, none⟩ = some (.int .i64 a) ∧ W.cell? ⟨w.heap.size, 1, none⟩ = some (.int .i64 b) ∧
    W.cell? ⟨w.heap.size + 1, 0, none⟩ = some (.int .i64 0) ∧ W.cell? ⟨w.heap.size + 1, 1, none⟩ = some (.int .i64 0) ∧ W.frozen? ⟨w.heap.size + 1, 0, none⟩ = false ∧ W.frozen? ⟨w.heap.size + 1, 1, none⟩ = false :=
  ⟨cell_of_row W _ 0 _ _ _ h.x, cell_of_row W _ 1 _ _ _ h.x, cell_of_row W _ 0 _ _ _ h.r, cell_of_row W _ 1 _ _ _ h.r, frozen_of_row W _ 0 _ _ h.r, frozen_of_row W _ 1 _ _ h.r⟩
theorem BoxR.set {w W : World} {a b : Int} (h : BoxR w W a b) (x y : Value) :
    Below w.heap.size w ((W.setCell ⟨w.heap.size + 1, 0, none⟩ x).setCell ⟨w.heap.size + 1, 1, none⟩ y) := (h.below.setCell (by simp) _).setCell (by simp) _
/-- One box. -/
structure BoxO (w W : World) (a b : Int) : Prop where
  x : W.heap[w.heap.size]? = some (.cells #[.int .i64 a, .int .i64 b] 28 (0, 0))
  lt : w.heap.size < W.heap.size
  below : Below w.heap.size w W
theorem BoxO.keep {w W W' : World} {a b : Int} (h : BoxO w W a b) (hb : Below W.heap.size W W') : BoxO w W' a b :=
  ⟨blk_keep h.x hb h.lt, Nat.lt_of_lt_of_le h.lt hb.size, h.below.trans (hb.mono h.below.size)⟩
theorem boxO (w : World) (a b : Int) : BoxO w (w.alloc (.cells #[.int .i64 a, .int .i64 b] 28)) a b where
  x := heap_alloc_new w _
  lt := by simp
  below := (Below.refl _ _).alloc (Nat.le_refl _) _
theorem BoxO.cells {w W : World} {a b : Int} (h : BoxO w W a b) : W.cell? ⟨w.heap.size, 0, none⟩ = some (.int .i64 a) ∧ W.cell? ⟨w.heap.size, 1, none⟩ = some (.int .i64 b) :=
  ⟨cell_of_row W _ 0 _ _ _ h.x, cell_of_row W _ 1 _ _ _ h.x⟩
end Go.Proofs.Ytaomjggamamckaa.rat

namespace Go.Proofs.Ytaomjggamamckaa.rat
open Go.RowKit


/-- Both are ratios: the bounds of the products. -/
theorem prods {a b c d : Int} (h : okB a b = true) (h2 : okB c d = true) :
    (-1000000000000000000 ≤ a * d ∧ a * d ≤ 1000000000000000000) ∧ (-1000000000000000000 ≤ c * b ∧ c * b ≤ 1000000000000000000) ∧ (-1000000000000000000 ≤ b * d ∧ b * d ≤ 1000000000000000000) ∧
    (-1000000000000000000 ≤ a * c ∧ a * c ≤ 1000000000000000000) ∧ (-1000000000000000000 ≤ b * c ∧ b * c ≤ 1000000000000000000) := by
  obtain ⟨r, _⟩ := okB_true h
  obtain ⟨q, _⟩ := okB_true h2
  exact ⟨mul_bound (by omega) (by omega) (by omega) (by omega), mul_bound (by omega) (by omega) (by omega) (by omega), mul_bound (by omega) (by omega) (by omega) (by omega),
    mul_bound (by omega) (by omega) (by omega) (by omega), mul_bound (by omega) (by omega) (by omega) (by omega)⟩
set_option maxRecDepth 100000 in
set_option maxHeartbeats 800000 in
theorem spec_mul (a b c d : Int) (w : World) : Calls Try.prog 14 #[.agg #[.int .i64 a, .int .i64 b], .agg #[.int .i64 c, .int .i64 d]] w (RatRes (mulR a b c d) w) := by
  rcases Bool.eq_false_or_eq_true (okB a b) with hA | hA
  rotate_left
  · have HA := Lib.hid hA
    have HM := Lib.hid (mulR_no1 (c := c) (d := d) hA)
    clear hA
    go_enter Try.func14, Try.ntmps14
    go_wp2_with fail
    refine (spec_isRatio_is a b _ _ HA.out).mono ?_
    rintro e w1 ⟨rfl, hb⟩
    have H1 := Lib.hid ((box2 w a b c d).keep hb)
    clear hb
    obtain ⟨c0, c1, c2, c3, r0, r1, f0, f1⟩ := H1.out.cells
    go_wp2_with fail
    exact bodyPost_ret (v := .agg #[.int .i64 0, .int .i64 0]) (results_cell_row Try.results14 _ _ _ _ _ _ _ rfl (blk_set2 H1.out.r) Try.underlying28 rfl (by kernel_rfl)) rfl ⟨_, _, rfl, HM, H1.out.set _ _⟩
  rcases Bool.eq_false_or_eq_true (okB c d) with hC | hC
  rotate_left
  · have HA := Lib.hid hA
    have HC := Lib.hid hC
    have HM := Lib.hid (mulR_no2 (a := a) (b := b) hC)
    clear hA hC
    go_enter Try.func14, Try.ntmps14
    go_wp2_with fail
    refine (spec_isRatio_is a b _ _ HA.out).mono ?_
    rintro e w1 ⟨rfl, hb⟩
    have H1 := Lib.hid ((box2 w a b c d).keep hb)
    clear hb
    obtain ⟨c0, c1, c2, c3, r0, r1, f0, f1⟩ := H1.out.cells
    go_wp2_with fail
    refine (spec_isRatio_is c d _ _ HC.out).mono ?_
    rintro e w2 ⟨rfl, hb⟩
    have H2 := Lib.hid (H1.out.keep hb)
    clear hb c0 c1 c2 c3 r0 r1 f0 f1
    obtain ⟨c0, c1, c2, c3, r0, r1, f0, f1⟩ := H2.out.cells
    go_wp2_with fail
    exact bodyPost_ret (v := .agg #[.int .i64 0, .int .i64 0]) (results_cell_row Try.results14 _ _ _ _ _ _ _ rfl (blk_set2 H2.out.r) Try.underlying28 rfl (by kernel_rfl)) rfl ⟨_, _, rfl, HM, H2.out.set _ _⟩
  · have HA := Lib.hid hA
    have HC := Lib.hid hC
    have HE := Lib.hid (mulR_yes hA hC)
    obtain ⟨p0, p1, p2, p3, p4⟩ := prods hA hC
    clear hA hC
    go_enter Try.func14, Try.ntmps14
    go_wp2_with fail
    refine (spec_isRatio_is a b _ _ HA.out).mono ?_
    rintro e w1 ⟨rfl, hb⟩
    have H1 := Lib.hid ((box2 w a b c d).keep hb)
    clear hb
    obtain ⟨c0, c1, c2, c3, r0, r1, f0, f1⟩ := H1.out.cells
    go_wp2_with fail
    refine (spec_isRatio_is c d _ _ HC.out).mono ?_
    rintro e w2 ⟨rfl, hb⟩
    have H2 := Lib.hid (H1.out.keep hb)
    clear hb c0 c1 c2 c3 r0 r1 f0 f1
    obtain ⟨c0, c1, c2, c3, r0, r1, f0, f1⟩ := H2.out.cells
    go_wp2_with fail
    refine (spec_make (a * c) (b * d) _).mono ?_
    rintro e w3 ⟨x, y, rfl, HX, hb⟩
    have H3 := Lib.hid (H2.out.keep hb)
    have HM : Hid (mulR a b c d = (x, y)) := Lib.hid (HE.out.trans HX.out)
    clear hb c0 c1 c2 c3 r0 r1 f0 f1
    obtain ⟨c0, c1, c2, c3, r0, r1, f0, f1⟩ := H3.out.cells
    go_wp2_with fail
    exact bodyPost_ret (v := .agg #[.int .i64 x, .int .i64 y]) (results_cell_row Try.results14 _ _ _ _ _ _ _ rfl (blk_set2 H3.out.r) Try.underlying28 rfl (by kernel_rfl)) rfl ⟨_, _, rfl, HM, H3.out.set _ _⟩
set_option maxRecDepth 100000 in
set_option maxHeartbeats 800000 in
theorem spec_div (a b c d : Int) (w : World) : Calls Try.prog 65 #[.agg #[.int .i64 a, .int .i64 b], .agg #[.int .i64 c, .int .i64 d]] w (RatRes (divR a b c d) w) := by
  rcases Bool.eq_false_or_eq_true (okB a b) with hA | hA
  rotate_left
  · have HA := Lib.hid hA
    have HM := Lib.hid (divR_no1 (c := c) (d := d) hA)
    clear hA
    go_enter Try.func65, Try.ntmps65
    go_wp2_with fail
    refine (spec_isRatio_is a b _ _ HA.out).mono ?_
    rintro e w1 ⟨rfl, hb⟩
    have H1 := Lib.hid ((box2 w a b c d).keep hb)
    clear hb
    obtain ⟨c0, c1, c2, c3, r0, r1, f0, f1⟩ := H1.out.cells
    go_wp2_with fail
    exact bodyPost_ret (v := .agg #[.int .i64 0, .int .i64 0]) (results_cell_row Try.results65 _ _ _ _ _ _ _ rfl (blk_set2 H1.out.r) Try.underlying28 rfl (by kernel_rfl)) rfl ⟨_, _, rfl, HM, H1.out.set _ _⟩
  rcases Bool.eq_false_or_eq_true (okB c d) with hC | hC
  rotate_left
  · have HA := Lib.hid hA
    have HC := Lib.hid hC
    have HM := Lib.hid (divR_no2 (a := a) (b := b) hC)
    clear hA hC
    go_enter Try.func65, Try.ntmps65
    go_wp2_with fail
    refine (spec_isRatio_is a b _ _ HA.out).mono ?_
    rintro e w1 ⟨rfl, hb⟩
    have H1 := Lib.hid ((box2 w a b c d).keep hb)
    clear hb
    obtain ⟨c0, c1, c2, c3, r0, r1, f0, f1⟩ := H1.out.cells
    go_wp2_with fail
    refine (spec_isRatio_is c d _ _ HC.out).mono ?_
    rintro e w2 ⟨rfl, hb⟩
    have H2 := Lib.hid (H1.out.keep hb)
    clear hb c0 c1 c2 c3 r0 r1 f0 f1
    obtain ⟨c0, c1, c2, c3, r0, r1, f0, f1⟩ := H2.out.cells
    go_wp2_with fail
    exact bodyPost_ret (v := .agg #[.int .i64 0, .int .i64 0]) (results_cell_row Try.results65 _ _ _ _ _ _ _ rfl (blk_set2 H2.out.r) Try.underlying28 rfl (by kernel_rfl)) rfl ⟨_, _, rfl, HM, H2.out.set _ _⟩
  · have HA := Lib.hid hA
    have HC := Lib.hid hC
    have HE := Lib.hid (divR_yes hA hC)
    obtain ⟨p0, p1, p2, p3, p4⟩ := prods hA hC
    clear hA hC
    by_cases hz : c = 0
    · subst hz
      have HM : Hid (divR a b 0 d = (0, 0)) := Lib.hid (HE.out.trans (mkR_no (Or.inl (Int.mul_zero b))))
      go_enter Try.func65, Try.ntmps65
      go_wp2_with fail
      refine (spec_isRatio_is a b _ _ HA.out).mono ?_
      rintro e w1 ⟨rfl, hb⟩
      have H1 := Lib.hid ((box2 w a b 0 d).keep hb)
      clear hb
      obtain ⟨c0, c1, c2, c3, r0, r1, f0, f1⟩ := H1.out.cells
      go_wp2_with fail
      refine (spec_isRatio_is 0 d _ _ HC.out).mono ?_
      rintro e w2 ⟨rfl, hb⟩
      have H2 := Lib.hid (H1.out.keep hb)
      clear hb c0 c1 c2 c3 r0 r1 f0 f1
      obtain ⟨c0, c1, c2, c3, r0, r1, f0, f1⟩ := H2.out.cells
      go_wp2_with fail
      exact bodyPost_ret (v := .agg #[.int .i64 0, .int .i64 0]) (results_cell_row Try.results65 _ _ _ _ _ _ _ rfl (blk_set2 H2.out.r) Try.underlying28 rfl (by kernel_rfl)) rfl ⟨_, _, rfl, HM, H2.out.set _ _⟩
    · have hz2 : (c == 0) = false := beq_eq_false_iff_ne.2 hz
      go_enter Try.func65, Try.ntmps65
      go_wp2_with fail
      refine (spec_isRatio_is a b _ _ HA.out).mono ?_
      rintro e w1 ⟨rfl, hb⟩
      have H1 := Lib.hid ((box2 w a b c d).keep hb)
      clear hb
      obtain ⟨c0, c1, c2, c3, r0, r1, f0, f1⟩ := H1.out.cells
      go_wp2_with fail
      refine (spec_isRatio_is c d _ _ HC.out).mono ?_
      rintro e w2 ⟨rfl, hb⟩
      have H2 := Lib.hid (H1.out.keep hb)
      clear hb c0 c1 c2 c3 r0 r1 f0 f1
      obtain ⟨c0, c1, c2, c3, r0, r1, f0, f1⟩ := H2.out.cells
      go_wp2_with fail
      refine (spec_make (a * d) (b * c) _).mono ?_
      rintro e w3 ⟨x, y, rfl, HX, hb⟩
      have H3 := Lib.hid (H2.out.keep hb)
      have HM : Hid (divR a b c d = (x, y)) := Lib.hid (HE.out.trans HX.out)
      clear hb c0 c1 c2 c3 r0 r1 f0 f1
      obtain ⟨c0, c1, c2, c3, r0, r1, f0, f1⟩ := H3.out.cells
      go_wp2_with fail
      exact bodyPost_ret (v := .agg #[.int .i64 x, .int .i64 y]) (results_cell_row Try.results65 _ _ _ _ _ _ _ rfl (blk_set2 H3.out.r) Try.underlying28 rfl (by kernel_rfl)) rfl ⟨_, _, rfl, HM, H3.out.set _ _⟩
end Go.Proofs.Ytaomjggamamckaa.rat

namespace Go.Proofs.Ytaomjggamamckaa.rat
open Go.RowKit Go.ChangeShapes Go.WideShapes Go.ChangeAt Go.Joins

theorem cells_ratio : Try.prog.cellsOf 74 = 2 := by kernel_rfl

set_option maxRecDepth 100000 in
theorem ratio_open {H : Type} {enc : TypeId × Value → H} {W : World} {base : Nat} {v : Value} {d : DataW H} {p : List MemPlace} (hv : Value.okWide Try.prog W .any base 74 v)
    (h : DataW.Trod enc Try.prog W 0 (fun _ => true) true 74 v d p) :
    ∃ a b, v = .agg #[.int .i64 a, .int .i64 b] ∧ d = .agg [.lit (.int .i64 a), .lit (.int .i64 b)] ∧ p = [] ∧ (Lit.int .i64 a).wf = true ∧ (Lit.int .i64 b).wf = true := by
  obtain ⟨c0, c1, y0, y1, m, rfl, rfl, rfl, hy0, hy1⟩ := open_agg2 Try.underlying74 (by kernel_rfl) cells_ratio hv h
  obtain ⟨a, e0, rfl, wa⟩ := DataW.trod_int Try.underlying3 hy0
  obtain ⟨b, e1, rfl, wb⟩ := DataW.trod_int Try.underlying3 hy1
  simp at e0 e1
  subst e0 e1
  exact ⟨a, b, rfl, rfl, rfl, wa, wb⟩
theorem ratio_shut {H : Type} {enc : TypeId × Value → H} {W : World} {base : Nat} {sp : Nat → Bool} {held : Bool} {a b : Int} (wa : (Lit.int .i64 a).wf = true) (wb : (Lit.int .i64 b).wf = true) :
    DataW.Trod enc Try.prog W base sp held 74 (.agg #[.int .i64 a, .int .i64 b]) (.agg [.lit (.int .i64 a), .lit (.int .i64 b)]) [] :=
  shut_agg2 (y0 := (.lit (.int .i64 a), [])) (y1 := (.lit (.int .i64 b), [])) Try.underlying74 (by kernel_rfl) cells_ratio ⟨1, by simp [DataW.trod, Try.underlying3, wa]⟩ ⟨1, by simp [DataW.trod, Try.underlying3, wb]⟩

set_option maxRecDepth 100000 in
set_option maxHeartbeats 400000 in
theorem to_ratio (n d : Int) (w : World) :
    Calls Try.prog 69 #[.agg #[.int .i64 n, .int .i64 d]] w fun e w' => e = .returned (.agg #[.int .i64 n, .int .i64 d]) ∧ Below w.heap.size w w' := by
  go_enter Try.func69, Try.ntmps69
  go_wp2_with fail
  exact bodyPost_ret (v := .agg #[.int .i64 n, .int .i64 d]) (results_cell_row Try.results69 _ _ _ _ #[.int .i64 n, .int .i64 d] (0, 0) _ rfl ((Below.heap_alloc _ _ _ (by simp)).trans (heap_alloc2_new w _ _)) Try.underlying28 rfl (by kernel_rfl)) rfl ⟨rfl, (((Below.refl _ _).alloc (Nat.le_refl _) _).alloc (by simp) _).alloc (by simp; omega) _⟩

set_option maxRecDepth 100000 in
theorem eq_ratio (n d : Int) (w : World) :
    Calls Try.prog 32 #[.agg #[.int .i64 n, .int .i64 d], .agg #[.int .i64 n, .int .i64 d]] w fun e w' => e = .returned (.bool true) ∧ Below w.heap.size w w' := by
  go_enter Try.func32, Try.ntmps32
  go_wp2_with fail
  go_ret
  exact ⟨rfl, ((Below.refl _ _).alloc (Nat.le_refl _) _).alloc (by simp) _⟩
end Go.Proofs.Ytaomjggamamckaa.rat
