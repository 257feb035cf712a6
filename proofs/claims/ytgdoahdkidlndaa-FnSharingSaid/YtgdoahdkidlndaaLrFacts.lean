/-
  Sharing by largest remainders and by sums, for a total and weights: both are sharings, and the first is no farther from the exact shares. No program is named here.
-/
import Derived.Test.YtgdoahdkidlndaaShareLib
import Derived.Test.YtgdoahdkidlndaaUpToLib
import Derived.Test.YtgdoahdkidlndaaIsShLib
import Derived.Test.YtgdoahdkidlndaaAppLib
import Derived.Test.YtgdoahdkidlndaaSortLib
import Derived.Test.YtgdoahdkidlndaaLrLib
import Derived.WalkKit
import Derived.Lib.Hide
namespace Go.Proofs.Ytgdoahdkidlndaa

/-- The sign, 1 for 0. -/
def sgn (t : Int) : Int := if t < 0 then -1 else 1
/-- The total without its sign. -/
def TT (t : Int) : Int := sgn t * t
/-- What the k-th gets at least, and what is cut off, in parts of the sum; without the sign. -/
def qq (t : Int) (ws : List Int) (k : Nat) : Int := (TT t * ws.getD k 0).tdiv (sumL ws)
def cc (t : Int) (ws : List Int) (k : Nat) : Int := (TT t * ws.getD k 0).tmod (sumL ws)
/-- How much is left. -/
def LL (t : Int) (ws : List Int) : Int := TT t - sumF ws.length (qq t ws)
/-- The shares by largest remainders. -/
def lrF (t : Int) (ws : List Int) (k : Nat) : Int := sgn t * (stp ws.length (qq t ws, cc t ws) (LL t ws).toNat).1 k
def lrL (t : Int) (ws : List Int) : List Int := (List.range ws.length).map (lrF t ws)
theorem lrL_length (t : Int) (ws : List Int) : (lrL t ws).length = ws.length := by simp [lrL]

theorem neg_q (t w S : Int) : (-t * w).tdiv S = -((t * w).tdiv S) := by rw [Int.neg_mul, Int.neg_tdiv]
theorem neg_r (t w S : Int) : (-t * w).tmod S = -((t * w).tmod S) := by rw [Int.neg_mul, Int.neg_tmod]
theorem sgn_cases (t : Int) : (t < 0 ∧ sgn t = -1) ∨ (0 ≤ t ∧ sgn t = 1) := by
  unfold sgn
  split
  · exact Or.inl ⟨by assumption, rfl⟩
  · exact Or.inr ⟨by omega, rfl⟩
theorem sgn_sq (t : Int) : sgn t * sgn t = 1 := by rcases sgn_cases t with ⟨_, e⟩ | ⟨_, e⟩ <;> rw [e] <;> rfl
theorem sgn_TT (t : Int) : sgn t * TT t = t := by unfold TT; rw [← Int.mul_assoc, sgn_sq, Int.one_mul]
theorem TT_nonneg (t : Int) : 0 ≤ TT t := by unfold TT; rcases sgn_cases t with ⟨h, e⟩ | ⟨h, e⟩ <;> rw [e] <;> omega

section
variable {t : Int} {ws : List Int}
theorem TT_le (h : CanS t ws) : TT t ≤ 1000000000 := by
  have h1 := h.1
  have h2 := h.2.1
  unfold TT
  rcases sgn_cases t with ⟨h, e⟩ | ⟨h, e⟩ <;> rw [e] <;> omega
theorem getD_nonneg (h : AreW ws) (k : Nat) : 0 ≤ ws.getD k 0 := by
  by_cases hk : k < ws.length
  · rw [getD_at hk]; exact (h.at hk).1
  · simp [List.getD, List.getElem?_eq_none (Nat.le_of_not_lt hk)]
theorem getD_le (h : AreW ws) (k : Nat) : ws.getD k 0 ≤ sumL ws := by
  by_cases hk : k < ws.length
  · rw [getD_at hk]; exact h.at_le hk
  · have := h.2.2; simp [List.getD, List.getElem?_eq_none (Nat.le_of_not_lt hk)]; omega
theorem prod_nonneg (h : AreW ws) (k : Nat) : 0 ≤ TT t * ws.getD k 0 := Int.mul_nonneg (TT_nonneg t) (getD_nonneg h k)
theorem qc (h : AreW ws) (k : Nat) : sumL ws * qq t ws k + cc t ws k = TT t * ws.getD k 0 ∧ 0 ≤ cc t ws k ∧ cc t ws k < sumL ws ∧ 0 ≤ qq t ws k ∧ qq t ws k ≤ TT t := by
  have hS := h.2.2
  have hp := prod_nonneg (t := t) h k
  refine ⟨Int.mul_tdiv_add_tmod _ _, Int.tmod_nonneg _ hp, Int.tmod_lt_of_pos _ hS, Int.tdiv_nonneg hp (by omega), ?_⟩
  unfold qq
  rw [Int.tdiv_eq_ediv_of_nonneg hp]
  exact Int.ediv_le_of_le_mul hS (Int.mul_le_mul_of_nonneg_left (getD_le h k) (TT_nonneg t))
theorem sum_qc (h : AreW ws) : sumL ws * sumF ws.length (qq t ws) + sumF ws.length (cc t ws) = TT t * sumL ws := by
  rw [← sumF_mul, ← sumF_add, sumF_congr (g := fun k => TT t * ws.getD k 0) (fun k _ => (qc h k).1), sumF_mul, ← sumL_getD]
theorem LL_mul (h : AreW ws) : sumL ws * LL t ws = sumF ws.length (cc t ws) := by
  have := sum_qc (t := t) h
  unfold LL
  rw [Int.mul_sub, Int.mul_comm (sumL ws) (TT t)]
  omega
theorem LL_nonneg (h : AreW ws) : 0 ≤ LL t ws := by
  have h1 := LL_mul (t := t) h
  have h2 := sumF_le (n := ws.length) (f := fun _ => 0) (g := cc t ws) (fun k _ => (qc h k).2.1)
  rw [sumF_const] at h2
  by_cases hn : LL t ws < 0
  · have := Int.mul_neg_of_pos_of_neg h.2.2 hn; omega
  · omega
theorem LL_le (h : AreW ws) : LL t ws ≤ ws.length := by
  have h1 := LL_mul (t := t) h
  have h2 := sumF_le (n := ws.length) (f := cc t ws) (g := fun _ => sumL ws) (fun k _ => by have := (qc (t := t) h k).2.2.1; omega)
  rw [sumF_const, ← h1, Int.mul_comm (ws.length : Int)] at h2
  exact Int.le_of_mul_le_mul_left h2 h.2.2
theorem LL_nat (h : AreW ws) : ((LL t ws).toNat : Int) = LL t ws ∧ (LL t ws).toNat ≤ ws.length := by
  have := LL_nonneg (t := t) h
  have := LL_le (t := t) h
  omega

/-- The program's words: quotient and remainder with the sign. -/
theorem tdiv_sgn (k : Nat) : (t * ws.getD k 0).tdiv (sumL ws) = sgn t * qq t ws k ∧ (t * ws.getD k 0).tmod (sumL ws) = sgn t * cc t ws k := by
  unfold qq cc TT
  rcases sgn_cases t with ⟨h, e⟩ | ⟨h, e⟩ <;> rw [e]
  · rw [show -1 * t = -t by omega, neg_q, neg_r]
    omega
  · simp only [Int.one_mul, and_self]

/-- A share in the form of a choice is rounded. -/
theorem rd_form (h : AreW ws) {k : Nat} {b : Int} (hb : b = 0 ∨ (b = 1 ∧ 0 < cc t ws k)) : Rd (t * ws.getD k 0) (sumL ws) (sgn t * (qq t ws k + b)) := by
  have hd := tdiv_sgn (t := t) (ws := ws) k
  rw [rd_iff, hd.1, hd.2]
  rcases hb with rfl | ⟨rfl, hc⟩
  · exact Or.inl (by rw [Int.add_zero])
  · refine Or.inr ?_
    have hw := getD_nonneg h k
    have hq := (qc (t := t) h k).1
    have hc' : 0 < TT t * ws.getD k 0 := by
      have := Int.mul_nonneg (show 0 ≤ sumL ws by have := h.2.2; omega) (qc (t := t) h k).2.2.2.1
      omega
    have hw0 : 0 < ws.getD k 0 := by
      by_cases e : ws.getD k 0 = 0
      · rw [e] at hc'; simp at hc'
      · omega
    rcases sgn_cases t with ⟨ht, e⟩ | ⟨ht, e⟩
    · have := Int.mul_neg_of_neg_of_pos ht hw0
      rw [e, cmpI_lt this]
      omega
    · have ht0 : 0 < t := by
        by_cases e : t = 0
        · subst e; simp [TT] at hc'
        · omega
      have := Int.mul_pos ht0 hw0
      rw [e, cmpI_gt this]
      omega
/-- Shares in the form of a choice of so many are a sharing. -/
theorem isSh_form (h : CanS t ws) {be : Nat → Int} {F : Nat → Int} (hF : ∀ k, k < ws.length → F k = sgn t * (qq t ws k + be k)) (hb : ∀ k, k < ws.length → be k = 0 ∨ (be k = 1 ∧ 0 < cc t ws k)) (hs : sumF ws.length be = LL t ws) :
    IsSh t ws ((List.range ws.length).map F) := by
  refine ⟨h, by simp, fun k hk => ?_, ?_⟩
  · rw [getD_at (xs := (List.range ws.length).map F) (by simpa using hk), List.getElem_map, List.getElem_range, hF k hk]
    exact rd_form h.2.2 (hb k hk)
  · rw [sumL_rangeF, sumF_congr (g := fun k => sgn t * (qq t ws k + be k)) hF, sumF_mul, sumF_add, hs]
    unfold LL
    rw [show sumF ws.length (qq t ws) + (TT t - sumF ws.length (qq t ws)) = TT t by omega, sgn_TT]

theorem lr_greedy (h : AreW ws) : ∃ al, Greedy ws.length (qq t ws) (cc t ws) (LL t ws).toNat al := greedy (fun k _ => (qc h k).2.1) _ (LL_nat h).2
theorem lr_form {al : Nat → Int} (g : Greedy ws.length (qq t ws) (cc t ws) (LL t ws).toNat al) (k : Nat) : lrF t ws k = sgn t * (qq t ws k + al k) := by
  unfold lrF
  rw [g.out]
/-- Whoever is chosen had something cut off. -/
theorem lr_cut (h : AreW ws) {al : Nat → Int} (g : Greedy ws.length (qq t ws) (cc t ws) (LL t ws).toNat al) {k : Nat} (hk : k < ws.length) (h1 : al k = 1) : 0 < cc t ws k := by
  have hq := qc (t := t) h
  by_cases e : cc t ws k = 0
  · exfalso
    have hS := h.2.2
    have hle : sumF ws.length (cc t ws) ≤ sumF ws.length (fun i => (sumL ws - 1) * upd al k 0 i) := sumF_le (fun i hi => by
      by_cases e' : i = k
      · subst e'; rw [upd_here, e]; simp
      · rw [upd_other e']
        rcases g.bit i with e0 | e0 <;> rw [e0]
        · have := g.top k i hk hi h1 e0; omega
        · have := (hq i).2.2.1; omega)
    rw [sumF_mul, sumF_upd _ _ hk, g.cnt, h1, (LL_nat h).1, ← LL_mul h] at hle
    rw [show (sumL ws - 1) * (LL t ws - 1 + 0) = sumL ws * LL t ws - sumL ws - LL t ws + 1 by rw [Int.add_zero, Int.sub_mul, Int.mul_sub]; omega] at hle
    have hL : 1 ≤ LL t ws := by
      have hle2 : sumF ws.length (upd (fun _ => 0) k 1) ≤ sumF ws.length al := sumF_le (fun i hi => by
        by_cases e' : i = k
        · subst e'; rw [upd_here, h1]; exact Int.le_refl _
        · rw [upd_other e']; rcases g.bit i with e0 | e0 <;> rw [e0] <;> omega)
      rw [sumF_upd _ _ hk, sumF_const, g.cnt, (LL_nat h).1] at hle2
      simp at hle2
      exact hle2
    omega
  · have := (hq k).2.1; omega
theorem lr_isSh (h : CanS t ws) : IsSh t ws (lrL t ws) := by
  obtain ⟨al, g⟩ := lr_greedy (t := t) h.2.2
  exact isSh_form h (fun k _ => lr_form g k) (fun k hk => by
    rcases g.bit k with e | e
    · exact Or.inl e
    · exact Or.inr ⟨e, lr_cut h.2.2 g hk e⟩) (by rw [g.cnt]; exact (LL_nat h.2.2).1)

/-- The shares by sums in the form of a choice. -/
theorem app_form (h : CanS t ws) : ∃ be : Nat → Int, (∀ k, k < ws.length → share t ws (k + 1) - share t ws k = sgn t * (qq t ws k + be k)) ∧ (∀ k, k < ws.length → be k = 0 ∨ (be k = 1 ∧ 0 < cc t ws k)) ∧ sumF ws.length be = LL t ws := by
  have hS := h.2.2.2.2
  obtain ⟨s, hs⟩ : ∃ s : Nat → Int, s = fun k => (TT t * sumL (ws.take k)).tdiv (sumL ws) := ⟨_, rfl⟩
  have hshare : ∀ k, share t ws k = sgn t * s k := fun k => by
    rw [show s k = (TT t * sumL (ws.take k)).tdiv (sumL ws) by rw [hs]]
    unfold share TT
    rcases sgn_cases t with ⟨_, e⟩ | ⟨_, e⟩ <;> rw [e]
    · rw [show -1 * t = -t by omega, neg_q]; omega
    · simp only [Int.one_mul]
  refine ⟨fun k => s (k + 1) - s k - qq t ws k, fun k hk => ?_, fun k hk => ?_, ?_⟩
  · rw [hshare, hshare, show qq t ws k + (s (k + 1) - s k - qq t ws k) = s (k + 1) - s k by omega, Int.mul_sub]
  · show s (k + 1) - s k - qq t ws k = 0 ∨ (s (k + 1) - s k - qq t ws k = 1 ∧ 0 < cc t ws k)
    have hq := qc (t := t) h.2.2 k
    have e1 : TT t * sumL (ws.take (k + 1)) = TT t * sumL (ws.take k) + TT t * ws.getD k 0 := by rw [sumL_take_succ hk, Int.mul_add, getD_at hk]
    have p0 : 0 ≤ TT t * sumL (ws.take k) := Int.mul_nonneg (TT_nonneg t) (h.2.2.part k).1
    have p1 : 0 ≤ TT t * sumL (ws.take (k + 1)) := Int.mul_nonneg (TT_nonneg t) (h.2.2.part (k + 1)).1
    have d0 := Int.mul_tdiv_add_tmod (TT t * sumL (ws.take k)) (sumL ws)
    have d1 := Int.mul_tdiv_add_tmod (TT t * sumL (ws.take (k + 1))) (sumL ws)
    have m0 := Int.tmod_nonneg (sumL ws) p0
    have m1 := Int.tmod_nonneg (sumL ws) p1
    have l0 := Int.tmod_lt_of_pos (TT t * sumL (ws.take k)) hS
    have l1 := Int.tmod_lt_of_pos (TT t * sumL (ws.take (k + 1))) hS
    have es0 : s k = (TT t * sumL (ws.take k)).tdiv (sumL ws) := by rw [hs]
    have es1 : s (k + 1) = (TT t * sumL (ws.take (k + 1))).tdiv (sumL ws) := by rw [hs]
    rw [← es0] at d0
    rw [← es1] at d1
    -- S * (s1 - s0 - q) = r0 + c - r1
    have hd : sumL ws * (s (k + 1) - s k - qq t ws k) = (TT t * sumL (ws.take k)).tmod (sumL ws) + cc t ws k - (TT t * sumL (ws.take (k + 1))).tmod (sumL ws) := by
      rw [Int.mul_sub, Int.mul_sub]
      omega
    generalize s (k + 1) - s k - qq t ws k = z at *
    generalize (TT t * sumL (ws.take k)).tmod (sumL ws) = r0 at *
    generalize (TT t * sumL (ws.take (k + 1))).tmod (sumL ws) = r1 at *
    have hlo : -1 < z := by
      by_cases hz : z ≤ -1
      · have := Int.mul_le_mul_of_nonneg_left hz (show 0 ≤ sumL ws by omega)
        omega
      · omega
    have hhi : z < 2 := by
      by_cases hz : 2 ≤ z
      · have := Int.mul_le_mul_of_nonneg_left hz (show 0 ≤ sumL ws by omega)
        omega
      · omega
    rcases (show z = 0 ∨ z = 1 by omega) with e | e
    · exact Or.inl e
    · subst e; exact Or.inr ⟨rfl, by omega⟩
  · have hz : s 0 = 0 := by rw [hs]; simp [sumL]
    have hn : s ws.length = TT t := by
      rw [hs]; simp only [List.take_length]
      exact Int.mul_tdiv_cancel _ (by omega)
    have tel : ∀ n, sumF n (fun k => s (k + 1) - s k - qq t ws k) = s n - s 0 - sumF n (qq t ws) := by
      intro n
      induction n with
      | zero => simp [sumF]
      | succ n ih => simp only [sumF, ih]; omega
    rw [tel, hz, hn]
    unfold LL
    omega
theorem app_isSh (h : CanS t ws) : IsSh t ws (appL t ws) := by
  obtain ⟨be, h1, h2, h3⟩ := app_form h
  exact isSh_form h h1 h2 h3

/-- How far a share is from the exact one, in parts of the sum. -/
theorem dist_form (h : AreW ws) (k : Nat) {b : Int} (hb : b = 0 ∨ b = 1) : max (sgn t * (qq t ws k + b) * sumL ws - t * ws.getD k 0) (-(sgn t * (qq t ws k + b) * sumL ws - t * ws.getD k 0)) = cc t ws k + (b * sumL ws - 2 * (b * cc t ws k)) := by
  have hq := qc (t := t) h k
  have e : sgn t * (qq t ws k + b) * sumL ws - t * ws.getD k 0 = sgn t * (b * sumL ws - cc t ws k) := by
    rw [show t * ws.getD k 0 = sgn t * (TT t * ws.getD k 0) by rw [← Int.mul_assoc, sgn_TT], ← hq.1, Int.mul_assoc, Int.add_mul, ← Int.mul_sub, Int.mul_comm (qq t ws k)]
    congr 1
    omega
  rw [e]
  rcases hb with rfl | rfl <;> rcases sgn_cases t with ⟨_, e'⟩ | ⟨_, e'⟩ <;> rw [e'] <;> simp only [Int.zero_mul, Int.one_mul, Int.mul_zero] <;> omega
theorem closest (h : CanS t ws) :
    sumF ws.length (fun k => max (lrF t ws k * sumL ws - t * ws.getD k 0) (-(lrF t ws k * sumL ws - t * ws.getD k 0))) ≤
    sumF ws.length (fun k => max ((share t ws (k + 1) - share t ws k) * sumL ws - t * ws.getD k 0) (-((share t ws (k + 1) - share t ws k) * sumL ws - t * ws.getD k 0))) := by
  obtain ⟨al, g⟩ := lr_greedy (t := t) h.2.2
  obtain ⟨be, h1, h2, h3⟩ := app_form h
  have hb : ∀ k, k < ws.length → be k = 0 ∨ be k = 1 := fun k hk => by rcases h2 k hk with e | e; exact Or.inl e; exact Or.inr e.1
  have hbest := g.best (fun k _ => (qc h.2.2 k).2.1) hb (by rw [h3]; exact (LL_nat h.2.2).1.symm)
  rw [sumF_congr (g := fun k => cc t ws k + (al k * sumL ws - 2 * (al k * cc t ws k))) (fun k _ => by rw [lr_form g k]; exact dist_form h.2.2 k (g.bit k)),
    sumF_congr (f := fun k => max ((share t ws (k + 1) - share t ws k) * sumL ws - t * ws.getD k 0) (-((share t ws (k + 1) - share t ws k) * sumL ws - t * ws.getD k 0))) (g := fun k => cc t ws k + (be k * sumL ws - 2 * (be k * cc t ws k))) (fun k hk => by rw [h1 k hk]; exact dist_form h.2.2 k (hb k hk))]
  have ex : ∀ x : Nat → Int, sumF ws.length (fun k => cc t ws k + (x k * sumL ws - 2 * (x k * cc t ws k))) = sumF ws.length (cc t ws) + (sumL ws * sumF ws.length x + -2 * sumF ws.length (fun k => x k * cc t ws k)) := fun x => by
    rw [← sumF_mul, ← sumF_mul, ← sumF_add, ← sumF_add]
    exact sumF_congr (fun k _ => by rw [Int.mul_comm (x k) (sumL ws)]; omega)
  rw [ex, ex, g.cnt, h3, (LL_nat h.2.2).1]
  omega
end
end Go.Proofs.Ytgdoahdkidlndaa
