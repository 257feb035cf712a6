/-
  What a sharing is: arithmetic. No program is named here.
-/
import Derived.Test.YtgdoahdkidlndaaShareLib
import Derived.Test.YtgdoahdkidlndaaUpToLib
import Derived.WalkKit
import Derived.Lib.Hide
namespace Go.Proofs.Ytgdoahdkidlndaa

/-- Rounded down, for a positive d. -/
def flo (n d : Int) : Int := if n.tmod d < 0 then n.tdiv d - 1 else n.tdiv d
/-- x is n / d rounded up or down. -/
def Rd (n d x : Int) : Prop := flo n d ≤ x ∧ x ≤ -flo (-n) d
instance (n d x : Int) : Decidable (Rd n d x) := by unfold Rd; infer_instance
/-- The sign of a comparison. -/
def cmpI (x y : Int) : Int := if x < y then -1 else if y < x then 1 else 0
theorem cmpI_lt {x y : Int} (h : x < y) : cmpI x y = -1 := if_pos h
theorem cmpI_gt {x y : Int} (h : y < x) : cmpI x y = 1 := by unfold cmpI; rw [if_neg (by omega), if_pos h]
theorem cmpI_eq {x y : Int} (h : x = y) : cmpI x y = 0 := by unfold cmpI; rw [if_neg (by omega), if_neg (by omega)]

theorem tmod_sign (n d : Int) : (0 ≤ n → 0 ≤ n.tmod d) ∧ (n ≤ 0 → n.tmod d ≤ 0) := by
  refine ⟨fun h => Int.tmod_nonneg _ h, fun h => ?_⟩
  have := Int.tmod_nonneg (a := -n) d (by omega)
  rw [Int.neg_tmod] at this
  omega
theorem tdiv_abs {n d : Int} (hd : 0 < d) {B : Int} (h0 : -B ≤ n) (h1 : n ≤ B) : -B ≤ n.tdiv d ∧ n.tdiv d ≤ B := by
  have hB : 0 ≤ B := by omega
  have e : B ≤ B * d := by
    have := Int.mul_le_mul_of_nonneg_left (show (1 : Int) ≤ d by omega) hB
    omega
  have := tdiv_le (a := n) (A := B) (b := d) (B := d) hd (Int.le_refl _) (by omega) (by omega)
  exact ⟨this.1, this.2.1⟩

theorem flo_neg {n d : Int} (h : n.tmod d < 0) : flo n d = n.tdiv d - 1 := if_pos h
theorem flo_pos {n d : Int} (h : ¬n.tmod d < 0) : flo n d = n.tdiv d := if_neg h

/-- In the program's words: no remainder. -/
theorem rd_even {n d x : Int} (h : n.tmod d = 0) : Rd n d x ↔ x = n.tdiv d := by
  unfold Rd
  rw [flo_pos (by omega), flo_pos (by rw [Int.neg_tmod]; omega), Int.neg_tdiv]
  omega
theorem rd_up {n d x : Int} (h : 0 < n.tmod d) : Rd n d x ↔ (x = n.tdiv d ∨ x = n.tdiv d + 1) := by
  unfold Rd
  rw [flo_pos (by omega), flo_neg (by rw [Int.neg_tmod]; omega), Int.neg_tdiv]
  omega
theorem rd_down {n d x : Int} (h : n.tmod d < 0) : Rd n d x ↔ (x = n.tdiv d ∨ x = n.tdiv d - 1) := by
  unfold Rd
  rw [flo_neg h, flo_pos (by rw [Int.neg_tmod]; omega), Int.neg_tdiv]
  omega
/-- In the program's own words. -/
theorem rd_iff {n d x : Int} : Rd n d x ↔ (x = n.tdiv d ∨ (n.tmod d ≠ 0 ∧ x = n.tdiv d + cmpI n 0)) := by
  have hs := tmod_sign n d
  by_cases h0 : n.tmod d = 0
  · rw [rd_even h0]; simp [h0]
  · by_cases h1 : 0 < n.tmod d
    · have hn : 0 < n := by
        by_cases hn : 0 < n
        · exact hn
        · have := hs.2 (by omega); omega
      rw [rd_up h1, cmpI_gt hn]
      simp [h0]
    · have hn : n < 0 := by
        by_cases hn : n < 0
        · exact hn
        · have := hs.1 (by omega); omega
      rw [rd_down (by omega), cmpI_lt hn]
      simp only [ne_eq, h0, not_false_eq_true, true_and]
      omega

/-- These are a sharing. -/
def IsSh (t : Int) (ws ss : List Int) : Prop := CanS t ws ∧ ss.length = ws.length ∧ (∀ k, k < ws.length → Rd (t * ws.getD k 0) (sumL ws) (ss.getD k 0)) ∧ sumL ss = t
instance (t : Int) (ws ss : List Int) : Decidable (IsSh t ws ss) := by unfold IsSh; infer_instance
/-- The first k are rounded. -/
def FirstR (t : Int) (ws ss : List Int) (k : Nat) : Prop := ∀ j, j < k → Rd (t * ws.getD j 0) (sumL ws) (ss.getD j 0)

theorem getD_at {xs : List Int} {k : Nat} (h : k < xs.length) : xs.getD k 0 = xs[k]'h := by simp [List.getD, h]
theorem firstR_zero (t : Int) (ws ss : List Int) : FirstR t ws ss 0 := fun j hj => absurd hj (by omega)
theorem firstR_succ {t : Int} {ws ss : List Int} {k : Nat} (h : FirstR t ws ss k) (hk : k < ws.length) (hs : k < ss.length) (hr : Rd (t * ws[k]'hk) (sumL ws) (ss[k]'hs)) : FirstR t ws ss (k + 1) := by
  intro j hj
  by_cases e : j = k
  · subst e; rw [getD_at hk, getD_at hs]; exact hr
  · exact h j (by omega)
theorem not_isSh_at {t : Int} {ws ss : List Int} {k : Nat} (hk : k < ws.length) (hs : k < ss.length) (hr : ¬Rd (t * ws[k]'hk) (sumL ws) (ss[k]'hs)) : decide (IsSh t ws ss) = false :=
  decide_eq_false (fun h => hr (by have := h.2.2.1 k hk; rwa [getD_at hk, getD_at hs] at this))
theorem not_isSh_can {t : Int} {ws ss : List Int} (h : ¬CanS t ws) : decide (IsSh t ws ss) = false := decide_eq_false (fun h' => h h'.1)
theorem not_isSh_len {t : Int} {ws ss : List Int} (h : ss.length ≠ ws.length) : decide (IsSh t ws ss) = false := decide_eq_false (fun h' => h h'.2.1)
theorem isSh_iff {t : Int} {ws ss : List Int} (hc : CanS t ws) (hl : ss.length = ws.length) (hr : FirstR t ws ss ws.length) : decide (IsSh t ws ss) = decide (sumL ss = t) := by
  by_cases hs : sumL ss = t
  · rw [decide_eq_true hs]; exact decide_eq_true ⟨hc, hl, fun k hk => hr k hk, hs⟩
  · rw [decide_eq_false hs]; exact decide_eq_false (fun h => hs h.2.2.2)
theorem AreW.at_le {ws : List Int} (h : AreW ws) {k : Nat} (hk : k < ws.length) : ws[k]'hk ≤ sumL ws := by
  have h1 := h.part_le (k + 1)
  rw [sumL_take_succ hk] at h1
  have := h.part k
  omega
theorem CanS.one {t : Int} {ws : List Int} (h : CanS t ws) {k : Nat} (hk : k < ws.length) : -1000000000000000 ≤ t * ws[k]'hk ∧ t * ws[k]'hk ≤ 1000000000000000 ∧
    -(1000000000 * sumL ws) ≤ t * ws[k]'hk ∧ t * ws[k]'hk ≤ 1000000000 * sumL ws := by
  have h1 := h.2.2.at hk
  have m1 := mulB (a := t) (b := ws[k]'hk) (A := 1000000000) (B := 1000000) h.1 h.2.1 h1.1 h1.2
  have m2 := mulB (a := t) (b := ws[k]'hk) (A := 1000000000) (B := sumL ws) h.1 h.2.1 h1.1 (h.2.2.at_le hk)
  exact ⟨by omega, by omega, m2.1, m2.2⟩
theorem CanS.quo {t : Int} {ws : List Int} (h : CanS t ws) {k : Nat} (hk : k < ws.length) : -1000000000 ≤ (t * ws[k]'hk).tdiv (sumL ws) ∧ (t * ws[k]'hk).tdiv (sumL ws) ≤ 1000000000 := by
  have h1 := h.one hk
  have h2 := h.2.2.total
  have := tdiv_le (A := 1000000000) (B := 40000000) h2.1 h2.2 h1.2.2.1 h1.2.2.2
  exact ⟨this.1, this.2.1⟩
theorem rd_bound {t : Int} {ws : List Int} (h : CanS t ws) {k : Nat} (hk : k < ws.length) {x : Int} (hr : Rd (t * ws[k]'hk) (sumL ws) x) : -1000000001 ≤ x ∧ x ≤ 1000000001 := by
  have hq := h.quo hk
  rcases rd_iff.1 hr with e | ⟨_, e⟩
  · omega
  · have : -1 ≤ cmpI (t * ws[k]'hk) 0 ∧ cmpI (t * ws[k]'hk) 0 ≤ 1 := by unfold cmpI; split <;> (try split) <;> omega
    omega
theorem firstR_mem {t : Int} {ws ss : List Int} {k : Nat} (hc : CanS t ws) (hl : ss.length = ws.length) (h : FirstR t ws ss k) (hk : k ≤ ws.length) : ∀ x ∈ ss.take k, -1000000001 ≤ x ∧ x ≤ 1000000001 := by
  intro x hx
  obtain ⟨j, hj, rfl⟩ := List.getElem_of_mem hx
  have hj' : j < k ∧ j < ss.length := by rw [List.length_take] at hj; omega
  rw [List.getElem_take]
  have := h j hj'.1
  rw [getD_at (by omega), getD_at hj'.2] at this
  exact rd_bound hc (by omega) this
theorem firstR_sum {t : Int} {ws ss : List Int} {k : Nat} (hc : CanS t ws) (hl : ss.length = ws.length) (h : FirstR t ws ss k) (hk : k ≤ ws.length) : -50000000000 ≤ sumL (ss.take k) ∧ sumL (ss.take k) ≤ 50000000000 := by
  have := sumL_bound (B := 1000000001) (firstR_mem hc hl h hk)
  have h2 : (ss.take k).length ≤ 40 := by rw [List.length_take]; have := hc.2.2.1; omega
  omega
theorem firstR_ok {t : Int} {ws ss : List Int} (hc : CanS t ws) (hl : ss.length = ws.length) (h : FirstR t ws ss ws.length) : SumOk ss := by
  have hm := firstR_mem hc hl h (Nat.le_refl _)
  rw [List.take_of_length_le (by omega)] at hm
  exact sumOk_small (by have := hc.2.2.1; omega) (fun x hx => by have := hm x hx; omega)
end Go.Proofs.Ytgdoahdkidlndaa
