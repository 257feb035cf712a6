/-
  Calendars: the days with work from a day on, upwards or downwards. No program is named here.
-/
import Derived.Test.YtkhonlcekjckoaaCalLib
import Derived.Test.YtkhonlcekjckoaaCalRes
import Derived.WalkKit
import Derived.Lib.Hide
namespace Go.Proofs.Ytkhonlcekjckoaa

/-- A number as a day of the calendar. -/
def dayOf (q : Int) : Fin 1000 := ⟨q.toNat % 1000, Nat.mod_lt _ (by omega)⟩
theorem dayOf_val {q : Int} (h0 : 0 ≤ q) (h1 : q ≤ 999) : (((dayOf q).1 : Nat) : Int) = q := by show ((q.toNat % 1000 : Nat) : Int) = q; omega
theorem dayOf_nat {q : Int} (h0 : 0 ≤ q) (h1 : q ≤ 999) : (dayOf q).1 = q.toNat := by show q.toNat % 1000 = q.toNat; omega
theorem fin_day (x : Fin 1000) : dayOf ((x.1 : Nat) : Int) = x := by
  apply Fin.ext
  show ((x.1 : Int)).toNat % 1000 = x.1
  have := x.2
  omega

/-- The days with work from q on: k of the calendar's days are looked at. -/
def walkD (f : Nat → Int) (s : Int) : Nat → Int → List (Fin 1000)
  | 0, _ => []
  | k + 1, q => if 0 ≤ q ∧ q ≤ 999 then (if 0 < f q.toNat then dayOf q :: walkD f s k (q + s) else walkD f s k (q + s)) else []
/-- How many days lie ahead. -/
def leftD (s q : Int) : Nat := if s = 1 then (1000 - q).toNat else (q + 1).toNat
/-- The days with work from q on. -/
def daysW (f : Nat → Int) (s q : Int) : List (Fin 1000) := walkD f s (leftD s q) q
/-- A step is one day ahead or one back. -/
def Step (s : Int) : Prop := s = 1 ∨ s = -1
theorem left_step {s q : Int} (hs : Step s) (h0 : 0 ≤ q) (h1 : q ≤ 999) : leftD s q = leftD s (q + s) + 1 := by
  unfold leftD
  rcases hs with rfl | rfl
  · rw [if_pos rfl, if_pos rfl]; omega
  · rw [if_neg (by omega), if_neg (by omega)]; omega
theorem days_off (f : Nat → Int) (s : Int) {q : Int} (h : ¬(0 ≤ q ∧ q ≤ 999)) : daysW f s q = [] := by
  unfold daysW
  cases leftD s q with
  | zero => rfl
  | succ k => simp only [walkD]; rw [if_neg h]
theorem days_on (f : Nat → Int) {s q : Int} (hs : Step s) (h0 : 0 ≤ q) (h1 : q ≤ 999) : daysW f s q = if 0 < f q.toNat then dayOf q :: daysW f s (q + s) else daysW f s (q + s) := by
  unfold daysW
  rw [left_step hs h0 h1]
  simp only [walkD]
  rw [if_pos ⟨h0, h1⟩]
theorem days_yes (f : Nat → Int) {s q : Int} (hs : Step s) (h0 : 0 ≤ q) (h1 : q ≤ 999) (h : 0 < f q.toNat) : daysW f s q = dayOf q :: daysW f s (q + s) := by rw [days_on f hs h0 h1, if_pos h]
theorem days_no (f : Nat → Int) {s q : Int} (hs : Step s) (h0 : 0 ≤ q) (h1 : q ≤ 999) (h : ¬0 < f q.toNat) : daysW f s q = daysW f s (q + s) := by rw [days_on f hs h0 h1, if_neg h]

/-- A sum over days. -/
def sumD (g : Nat → Int) : List (Fin 1000) → Int
  | [] => 0
  | x :: r => g x.1 + sumD g r
theorem sumD_snoc (g : Nat → Int) (pre : List (Fin 1000)) (x : Fin 1000) : sumD g (pre ++ [x]) = sumD g pre + g x.1 := by
  induction pre with
  | nil => simp [sumD]
  | cons y r ih => rw [List.cons_append]; simp only [sumD]; rw [ih]; omega
theorem sumD_bound {g : Nat → Int} {B : Int} (hg : ∀ d, 0 ≤ g d ∧ g d ≤ B) (l : List (Fin 1000)) : 0 ≤ sumD g l ∧ sumD g l ≤ B * l.length := by
  induction l with
  | nil => simp [sumD]
  | cons x r ih =>
    have := hg x.1
    have e : B * ((r.length + 1 : Nat) : Int) = B * r.length + B := by push_cast; rw [Int.mul_add]; omega
    simp only [sumD, List.length_cons]
    omega
theorem days_length (f : Nat → Int) {s : Int} (hs : Step s) : ∀ (k : Nat) (q : Int), leftD s q = k → (daysW f s q).length ≤ k := by
  intro k
  induction k with
  | zero =>
    intro q hq
    unfold daysW
    rw [hq]
    exact Nat.le_refl _
  | succ k ih =>
    intro q hq
    by_cases hin : 0 ≤ q ∧ q ≤ 999
    · have := ih (q + s) (by have := left_step hs hin.1 hin.2; omega)
      rw [days_on f hs hin.1 hin.2]
      split
      · rw [List.length_cons]; omega
      · omega
    · rw [days_off f s hin]; exact Nat.zero_le _
theorem days_length_up (f : Nat → Int) {q : Int} (h : 0 ≤ q) : (daysW f 1 q).length ≤ 1000 := by
  have := days_length f (Or.inl rfl) (leftD 1 q) q rfl
  unfold leftD at this
  rw [if_pos rfl] at this
  omega
theorem days_length_dn (f : Nat → Int) {q : Int} (h : q ≤ 999) : (daysW f (-1) q).length ≤ 1000 := by
  have := days_length f (Or.inr rfl) (leftD (-1) q) q rfl
  unfold leftD at this
  rw [if_neg (by omega)] at this
  omega

/-- Each of the days is before b. -/
def AllB (b : Int) (l : List (Fin 1000)) : Prop := ∀ y, y ∈ l → ((y.1 : Nat) : Int) < b
/-- Where a walk upwards has come to b. -/
def UpTo (f : Nat → Int) (q b : Int) (pre : List (Fin 1000)) : Prop := AllB b pre ∧ (pre = daysW f 1 q ∨ ∃ x, (pre ++ [x]) <+: daysW f 1 q ∧ b ≤ ((x.1 : Nat) : Int))

theorem cnt_none (g : Nat → Int) {a b : Int} (h : b ≤ a) : cnt g a b = 0 := by
  unfold cnt
  split
  · have : a = b := by omega
    subst this; omega
  · rfl
theorem cnt_head (g : Nat → Int) {q b : Int} (h0 : 0 ≤ q) (h1 : q ≤ 999) (h : q < b) : cnt g q b = g q.toNat + cnt g (q + 1) b := by
  unfold cnt
  rw [if_pos (by omega), if_pos (by omega)]
  have e1 : cl q = q.toNat := by unfold cl; omega
  have e2 : cl (q + 1) = q.toNat + 1 := by unfold cl; omega
  rw [e1, e2]
  simp only [pre]
  omega
theorem cnt_over (g : Nat → Int) {q b : Int} (h : 999 < q) : cnt g q b = 0 := by
  unfold cnt
  split
  · have e1 : cl q = cl b := by unfold cl; omega
    rw [e1]; omega
  · rfl

theorem up_sum {f g : Nat → Int} (hz : ∀ d, ¬0 < f d → g d = 0) {b : Int} : ∀ (k : Nat) (q : Int), 0 ≤ q → leftD 1 q = k → ∀ pre, UpTo f q b pre → sumD g pre = cnt g q b := by
  intro k
  induction k with
  | zero =>
    intro q h0 hk pre ⟨hb, hp⟩
    have h9 : 999 < q := by unfold leftD at hk; rw [if_pos rfl] at hk; omega
    rw [days_off f 1 (by omega)] at hp
    rw [cnt_over g h9]
    rcases hp with rfl | ⟨x, hx, _⟩
    · rfl
    · have := hx.length_le; simp at this
  | succ k ih =>
    intro q h0 hk pre ⟨hb, hp⟩
    have h9 : q ≤ 999 := by unfold leftD at hk; rw [if_pos rfl] at hk; omega
    have hst := left_step (s := 1) (Or.inl rfl) h0 h9
    by_cases hw : 0 < f q.toNat
    · rw [days_yes f (Or.inl rfl) h0 h9 hw] at hp
      cases pre with
      | nil =>
        rcases hp with hp | ⟨x, hx, hbx⟩
        · cases hp
        · have e := List.cons_prefix_cons.1 hx
          have : ((x.1 : Nat) : Int) = q := by rw [e.1]; exact dayOf_val h0 h9
          rw [cnt_none g (by omega)]; rfl
      | cons y r =>
        have ey : y = dayOf q := by
          rcases hp with hp | ⟨x, hx, hbx⟩
          · exact (List.cons.inj hp).1
          · exact (List.cons_prefix_cons.1 hx).1
        have hq : q < b := by have := hb y (List.mem_cons_self ..); rw [ey, dayOf_val h0 h9] at this; exact this
        have hr := ih (q + 1) (by omega) (by omega) r ⟨fun z hz => hb z (List.mem_cons_of_mem _ hz), by
          rcases hp with hp | ⟨x, hx, hbx⟩
          · exact Or.inl (List.cons.inj hp).2
          · exact Or.inr ⟨x, (List.cons_prefix_cons.1 hx).2, hbx⟩⟩
        rw [cnt_head g h0 h9 hq, ← hr, ey]
        simp only [sumD]
        rw [dayOf_nat h0 h9]
    · rw [days_no f (Or.inl rfl) h0 h9 hw] at hp
      have hr := ih (q + 1) (by omega) (by omega) pre ⟨hb, hp⟩
      rw [hr]
      by_cases hq : q < b
      · rw [cnt_head g h0 h9 hq, hz _ hw]; omega
      · rw [cnt_none g (by omega), cnt_none g (by omega)]

/-- Each of the days is at b or behind it. -/
def AllA (b : Int) (l : List (Fin 1000)) : Prop := ∀ y, y ∈ l → b ≤ ((y.1 : Nat) : Int)
/-- Where a walk downwards has come to b. -/
def DnTo (f : Nat → Int) (q b : Int) (pre : List (Fin 1000)) : Prop := AllA b pre ∧ (pre = daysW f (-1) q ∧ b ≤ 0 ∨ ∃ x, (pre ++ [x]) <+: daysW f (-1) q ∧ ((x.1 : Nat) : Int) < b)
theorem cnt_last (g : Nat → Int) {q b : Int} (h0 : 0 ≤ q) (h1 : q ≤ 999) (h : b ≤ q) : cnt g b (q + 1) = cnt g b q + g q.toNat := by
  unfold cnt
  rw [if_pos (by omega), if_pos (by omega)]
  have e1 : cl q = q.toNat := by unfold cl; omega
  have e2 : cl (q + 1) = q.toNat + 1 := by unfold cl; omega
  rw [e1, e2]
  simp only [pre]
  omega
theorem dn_sum {f g : Nat → Int} (hz : ∀ d, ¬0 < f d → g d = 0) {b : Int} : ∀ (k : Nat) (q : Int), q ≤ 999 → leftD (-1) q = k → ∀ pre, DnTo f q b pre → sumD g pre = cnt g b (q + 1) := by
  intro k
  induction k with
  | zero =>
    intro q h0 hk pre ⟨hb, hp⟩
    have h9 : q < 0 := by unfold leftD at hk; rw [if_neg (by omega)] at hk; omega
    rw [days_off f (-1) (by omega)] at hp
    rcases hp with ⟨rfl, hb0⟩ | ⟨x, hx, _⟩
    · unfold cnt
      split
      · have e1 : cl (q + 1) = 0 := by unfold cl; omega
        have e2 : cl b = 0 := by unfold cl; omega
        rw [e1, e2]
        simp only [sumD]
        omega
      · rfl
    · have := hx.length_le; simp at this
  | succ k ih =>
    intro q h9 hk pre ⟨hb, hp⟩
    have h0 : 0 ≤ q := by unfold leftD at hk; rw [if_neg (by omega)] at hk; omega
    have hst := left_step (s := -1) (Or.inr rfl) h0 h9
    by_cases hw : 0 < f q.toNat
    · rw [days_yes f (Or.inr rfl) h0 h9 hw] at hp
      cases pre with
      | nil =>
        rcases hp with ⟨hp, _⟩ | ⟨x, hx, hbx⟩
        · cases hp
        · have e := List.cons_prefix_cons.1 hx
          have : ((x.1 : Nat) : Int) = q := by rw [e.1]; exact dayOf_val h0 h9
          rw [cnt_none g (by omega)]; rfl
      | cons y r =>
        have ey : y = dayOf q := by
          rcases hp with ⟨hp, _⟩ | ⟨x, hx, hbx⟩
          · exact (List.cons.inj hp).1
          · exact (List.cons_prefix_cons.1 hx).1
        have hq : b ≤ q := by have := hb y (List.mem_cons_self ..); rw [ey, dayOf_val h0 h9] at this; exact this
        have hr := ih (q + -1) (by omega) (by omega) r ⟨fun z hz => hb z (List.mem_cons_of_mem _ hz), by
          rcases hp with ⟨hp, hb0⟩ | ⟨x, hx, hbx⟩
          · exact Or.inl ⟨(List.cons.inj hp).2, hb0⟩
          · exact Or.inr ⟨x, (List.cons_prefix_cons.1 hx).2, hbx⟩⟩
        rw [show q + -1 + 1 = q by omega] at hr
        rw [cnt_last g h0 h9 hq, ← hr, ey]
        simp only [sumD]
        rw [dayOf_nat h0 h9]
        omega
    · rw [days_no f (Or.inr rfl) h0 h9 hw] at hp
      have hr := ih (q + -1) (by omega) (by omega) pre ⟨hb, hp⟩
      rw [show q + -1 + 1 = q by omega] at hr
      rw [hr]
      by_cases hq : b ≤ q
      · rw [cnt_last g h0 h9 hq, hz _ hw]; omega
      · rw [cnt_none g (by omega), cnt_none g (by omega)]
end Go.Proofs.Ytkhonlcekjckoaa
