/-
  The plain part of ParseInt: which texts are numbers of at most twelve digits, and what their digits spell. No program is named here.
-/
import Derived.WalkKit
import Derived.Lib.ItoaNum
import Derived.Lib.AtoiTie
import Derived.Lib.AtoiAllCases
namespace Go.Proofs.YtccmmpfbiemjiaaDoor
open Go.Lib

theorem decFrom_append (x y : List UInt8) : ∀ a : Nat, decFrom a (x ++ y) = (decFrom a x).bind fun b => decFrom b y := by
  induction x with
  | nil => intro a; rfl
  | cons c r ih =>
    intro a
    simp only [List.cons_append, decFrom]
    cases digitVal c with
    | none => rfl
    | some d => exact ih _

theorem digitVal_digit {d : Nat} (h : d < 10) : digitVal (UInt8.ofNat (48 + d)) = some d := by
  have e : (UInt8.ofNat (48 + d)).toNat = 48 + d := by simp; omega
  unfold digitVal
  rw [e, if_pos (by omega)]
  simp

theorem decDigits_small {m : Nat} (h : m < 10) : decDigits m = [UInt8.ofNat (48 + m)] := by rw [decDigits, dif_pos h]
theorem decDigits_big {m : Nat} (h : ¬ m < 10) : decDigits m = decDigits (m / 10) ++ [UInt8.ofNat (48 + m % 10)] := by rw [decDigits, dif_neg h]

/-- The digits of m spell m. -/
theorem decFrom_digits (m : Nat) : decFrom 0 (decDigits m) = some m := by
  induction m using Nat.strongRecOn with
  | ind m ih =>
    by_cases h : m < 10
    · rw [decDigits_small h]
      simp only [decFrom, digitVal_digit h]
      simp
    · rw [decDigits_big h, decFrom_append, ih (m / 10) (by omega)]
      simp only [Option.bind_some, decFrom, digitVal_digit (Nat.mod_lt m (by decide : 0 < 10))]
      congr 1
      omega

theorem digits_length_le : ∀ (k m : Nat), 0 < k → m < 10 ^ k → (decDigits m).length ≤ k
  | 0, _, h, _ => absurd h (by decide)
  | 1, m, _, h => by rw [decDigits_small (by simpa using h)]; simp
  | k + 2, m, _, h => by
    by_cases h10 : m < 10
    · rw [decDigits_small h10]; simp
    · rw [decDigits_big h10, List.length_append]
      have hp : 10 ^ (k + 2) = 10 ^ (k + 1) * 10 := Nat.pow_succ ..
      have := digits_length_le (k + 1) (m / 10) (by omega) (by omega)
      simp; omega

theorem digits_ne_nil (m : Nat) : decDigits m ≠ [] := by
  by_cases h : m < 10
  · rw [decDigits_small h]; simp
  · rw [decDigits_big h]; simp

/-- Each byte of the digits is a digit. -/
theorem digits_byte (m k : Nat) (b : UInt8) (h : (decDigits m)[k]? = some b) : 48 ≤ b.toNat ∧ b.toNat ≤ 57 := by
  obtain ⟨d, hd⟩ := digit_of_decFrom _ _ _ (decFrom_digits m) k b h
  have := digitVal_eq hd
  omega

/-- The digits do not begin with a sign. -/
theorem digits_cons (m : Nat) : ∃ b r, decDigits m = b :: r ∧ 48 ≤ b.toNat ∧ b.toNat ≤ 57 := by
  cases h : decDigits m with
  | nil => exact absurd h (digits_ne_nil m)
  | cons b r => exact ⟨b, r, rfl, digits_byte m 0 b (by rw [h]; rfl)⟩

theorem itoa_natCast (m : Nat) : itoa (m : Int) = decDigits m := by unfold itoa; rw [if_neg (by omega)]; rfl
theorem itoa_negCast {m : Nat} (h : 0 < m) : itoa (-(m : Int)) = 45 :: decDigits m := by unfold itoa; rw [if_pos (by omega), Int.natAbs_neg]; rfl

/-- A number is one of the two. -/
theorem int_cases (n : Int) : (∃ m : Nat, n = m) ∨ ∃ m : Nat, 0 < m ∧ n = -(m : Int) := by
  by_cases h : 0 ≤ n
  · exact Or.inl ⟨n.toNat, by omega⟩
  · exact Or.inr ⟨(-n).toNat, by omega, by omega⟩

theorem itoa_inj {a b : Int} (h : itoa a = itoa b) : a = b := by
  rcases int_cases a with ⟨m, rfl⟩ | ⟨m, hm, rfl⟩ <;> rcases int_cases b with ⟨k, rfl⟩ | ⟨k, hk, rfl⟩
  · rw [itoa_natCast, itoa_natCast] at h
    have := decFrom_digits m
    rw [h, decFrom_digits k] at this
    rw [Option.some.inj this]
  · rw [itoa_natCast, itoa_negCast hk] at h
    obtain ⟨b, r, hd, h1, h2⟩ := digits_cons m
    rw [hd] at h
    have e : b = 45 := (List.cons.inj h).1
    subst e
    exact absurd h1 (by decide)
  · rw [itoa_natCast, itoa_negCast hm] at h
    obtain ⟨b, r, hd, h1, h2⟩ := digits_cons k
    rw [hd] at h
    have e : 45 = b := (List.cons.inj h).1
    subst e
    exact absurd h1 (by decide)
  · rw [itoa_negCast hm, itoa_negCast hk] at h
    have := decFrom_digits m
    rw [(List.cons.inj h).2, decFrom_digits k] at this
    rw [Option.some.inj this]

/-- l is the text of n, a number of at most twelve digits. -/
def IsNum (l : List UInt8) (n : Int) : Prop := -1000000000000 < n ∧ n < 1000000000000 ∧ itoa n = l

theorem IsNum.unique {l : List UInt8} {a b : Int} (h : IsNum l a) (k : IsNum l b) : a = b := itoa_inj (h.2.2.trans k.2.2.symm)

open Classical in
/-- The answer of ParseInt. -/
noncomputable def parseV (l : List UInt8) : Int × Bool := if h : ∃ n, IsNum l n then (Classical.choose h, true) else (0, false)

theorem parseV_yes {l : List UInt8} {n : Int} (h : IsNum l n) : parseV l = (n, true) := by
  have hex : ∃ n, IsNum l n := ⟨n, h⟩
  unfold parseV
  rw [dif_pos hex, (Classical.choose_spec hex).unique h]
theorem parseV_no {l : List UInt8} (h : ¬ ∃ n, IsNum l n) : parseV l = (0, false) := by
  unfold parseV
  rw [dif_neg h]
theorem parseV_true {l : List UInt8} {n : Int} (h : parseV l = (n, true)) : IsNum l n := by
  by_cases hex : ∃ n, IsNum l n
  · obtain ⟨k, hk⟩ := hex
    rw [parseV_yes hk] at h
    rw [← (Prod.mk.inj h).1]
    exact hk
  · rw [parseV_no hex] at h
    exact absurd (Prod.mk.inj h).2 (by decide)
theorem parseV_cases (l : List UInt8) : (∃ n, IsNum l n ∧ parseV l = (n, true)) ∨ ((¬ ∃ n, IsNum l n) ∧ parseV l = (0, false)) := by
  by_cases h : ∃ n, IsNum l n
  · obtain ⟨n, hn⟩ := h
    exact Or.inl ⟨n, hn, parseV_yes hn⟩
  · exact Or.inr ⟨h, parseV_no h⟩

/-- strconv.Atoi reads back what is a number. -/
theorem atoi_of_num {l : List UInt8} {n : Int} (h : IsNum l n) : atoiAll l = .ok n := by
  obtain ⟨h0, h1, rfl⟩ := h
  rcases int_cases n with ⟨m, rfl⟩ | ⟨m, hm, rfl⟩
  · rw [itoa_natCast]
    obtain ⟨b, r, hd, hb0, hb1⟩ := digits_cons m
    have hl := digits_length_le 12 m (by decide) (by omega)
    have hdn : decNat (decDigits m) = some m := by unfold decNat; rw [if_neg (by rw [hd]; simp)]; exact decFrom_digits m
    rw [hd, atoiAll_plain b r (by omega) (by omega), ← hd, signless_short (by omega), hdn]
    rfl
  · rw [itoa_negCast hm]
    have hl := digits_length_le 12 m (by decide) (by omega)
    obtain ⟨b, r, hd, hb0, hb1⟩ := digits_cons m
    have hdn : decNat (decDigits m) = some m := by unfold decNat; rw [if_neg (by rw [hd]; simp)]; exact decFrom_digits m
    rw [atoiAll_minus, signed_short (by omega), hdn]
    rfl

/-- The sign's length. -/
def sgn (l : List UInt8) : Nat := if l.head? = some 45 then 1 else 0

theorem sgn_le (l : List UInt8) : sgn l ≤ 1 := by unfold sgn; split <;> omega
theorem sgn_one {l : List UInt8} (h : l[0]? = some 45) : sgn l = 1 := by unfold sgn; rw [List.head?_eq_getElem?, if_pos h]
theorem sgn_zero {l : List UInt8} (h : l[0]? ≠ some 45) : sgn l = 0 := by unfold sgn; rw [List.head?_eq_getElem?, if_neg h]

/-- The number that has the magnitude m behind the sign of l. -/
def signedBy (l : List UInt8) (m : Nat) : Int := if sgn l = 1 then -(m : Int) else m

/-- What is a number has its digits behind its sign, and these spell its magnitude. -/
theorem num_digits {l : List UInt8} {n : Int} (h : IsNum l n) : ∃ m, l.drop (sgn l) = decDigits m ∧ m < 1000000000000 ∧ n = signedBy l m := by
  obtain ⟨h0, h1, rfl⟩ := h
  rcases int_cases n with ⟨m, rfl⟩ | ⟨m, hm, rfl⟩
  · refine ⟨m, ?_, by omega, ?_⟩
    all_goals
      obtain ⟨b, r, hd, hb0, hb1⟩ := digits_cons m
      have hs : sgn (decDigits m) = 0 := sgn_zero (by rw [hd]; intro e; have e2 : b = 45 := Option.some.inj e; subst e2; exact absurd hb0 (by decide))
      rw [itoa_natCast]
    · rw [hs]; rfl
    · unfold signedBy; rw [hs, if_neg (by decide)]
  · have hs : sgn (45 :: decDigits m) = 1 := sgn_one rfl
    refine ⟨m, ?_, by omega, ?_⟩
    all_goals rw [itoa_negCast hm]
    · rw [hs]; rfl
    · unfold signedBy; rw [hs, if_pos rfl]

/-- A byte that is neither a leading sign nor a digit stands in no number. -/
theorem no_other {l : List UInt8} {k : Nat} {b : UInt8} (hk : l[k]? = some b) (hs : sgn l ≤ k) (hb : b.toNat < 48 ∨ 57 < b.toNat) : ¬ ∃ n, IsNum l n := by
  rintro ⟨n, hn⟩
  obtain ⟨m, hd, _, _⟩ := num_digits hn
  have : (decDigits m)[k - sgn l]? = some b := by rw [← hd, List.getElem?_drop, show sgn l + (k - sgn l) = k by omega]; exact hk
  have := digits_byte m _ b this
  omega

/-- Neither no digit nor thirteen make a number. -/
theorem no_length {l : List UInt8} (h : l.length ≤ sgn l ∨ sgn l + 12 < l.length) : ¬ ∃ n, IsNum l n := by
  rintro ⟨n, hn⟩
  obtain ⟨m, hd, hm, _⟩ := num_digits hn
  have h1 : (l.drop (sgn l)).length = l.length - sgn l := List.length_drop
  rw [hd] at h1
  have h2 := digits_length_le 12 m (by decide) (by omega)
  have h3 : 0 < (decDigits m).length := List.length_pos_iff.2 (digits_ne_nil m)
  omega

/-- What the digits behind the sign spell is the number, or there is none. -/
theorem num_of_value {l : List UInt8} {N : Nat} (hN : decFrom 0 (l.drop (sgn l)) = some N) (n : Int) (h : IsNum l n) : n = signedBy l N := by
  obtain ⟨m, hd, hm, rfl⟩ := num_digits h
  rw [hd, decFrom_digits m] at hN
  rw [Option.some.inj hN]

theorem value_lt {l : List UInt8} {N : Nat} (hN : decFrom 0 (l.drop (sgn l)) = some N) (hl : l.length ≤ sgn l + 12) : N < 1000000000000 := by
  have h1 := decFrom_lt _ _ _ hN
  have h2 : (l.drop (sgn l)).length ≤ 12 := by rw [List.length_drop]; omega
  have h3 : 10 ^ (l.drop (sgn l)).length ≤ 10 ^ 12 := Nat.pow_le_pow_right (by decide) h2
  omega

theorem parse_end_yes {l : List UInt8} {N : Nat} (hN : decFrom 0 (l.drop (sgn l)) = some N) (hl : l.length ≤ sgn l + 12) (he : itoa (signedBy l N) = l) : parseV l = (signedBy l N, true) := by
  have := value_lt hN hl
  refine parseV_yes ⟨?_, ?_, he⟩
  all_goals unfold signedBy; split <;> omega
theorem parse_end_no {l : List UInt8} {N : Nat} (hN : decFrom 0 (l.drop (sgn l)) = some N) (he : itoa (signedBy l N) ≠ l) : parseV l = (0, false) :=
  parseV_no fun ⟨n, hn⟩ => he (by rw [← num_of_value hN n hn]; exact hn.2.2)

/-- The texts of numbers, and of others. -/
theorem parseV_itoa {n : Int} (h : -1000000000000 < n ∧ n < 1000000000000) : parseV (itoa n) = (n, true) := parseV_yes ⟨h.1, h.2, rfl⟩
theorem parseV_itoa_no {n : Int} (h : ¬ (-1000000000000 < n ∧ n < 1000000000000)) : parseV (itoa n) = (0, false) :=
  parseV_no fun ⟨k, hk⟩ => h (by rw [← itoa_inj hk.2.2]; exact ⟨hk.1, hk.2.1⟩)

/-- One digit more, in the loop. -/
theorem decFrom_step {l : List UInt8} {k N : Nat} {b : UInt8} (hN : decFrom 0 ((l.drop (sgn l)).take (k - sgn l)) = some N) (hs : sgn l ≤ k) (hk : l[k]? = some b) (h1 : 48 ≤ b.toNat) (h2 : b.toNat ≤ 57) :
    decFrom 0 ((l.drop (sgn l)).take (k + 1 - sgn l)) = some (N * 10 + (b.toNat - 48)) := by
  rw [show k + 1 - sgn l = (k - sgn l) + 1 by omega]
  refine decFrom_take _ _ _ _ b _ hN ?_ ?_
  · rw [List.getElem?_drop, show sgn l + (k - sgn l) = k by omega]; exact hk
  · unfold digitVal; rw [if_pos ⟨h1, h2⟩]

theorem decFrom_bound {l : List UInt8} {k N : Nat} (hN : decFrom 0 ((l.drop (sgn l)).take (k - sgn l)) = some N) (hk : k ≤ sgn l + 14) : N < 100000000000000 := by
  have h1 := decFrom_lt _ _ _ hN
  have h2 : ((l.drop (sgn l)).take (k - sgn l)).length ≤ 14 := Nat.le_trans (List.length_take_le _ _) (by omega)
  have h3 : 10 ^ ((l.drop (sgn l)).take (k - sgn l)).length ≤ 10 ^ 14 := Nat.pow_le_pow_right (by decide) h2
  omega
end Go.Proofs.YtccmmpfbiemjiaaDoor
