/-
  Sharing by largest remainders, as arithmetic: the greedy choice, what it adds up to, and that nothing is closer. No program is named here.
-/
import Derived.Test.YtgdoahdkidlndaaShareLib
import Derived.Test.YtgdoahdkidlndaaUpToLib
import Derived.Test.YtgdoahdkidlndaaIsShLib
import Derived.Test.YtgdoahdkidlndaaSortLib
import Derived.WalkKit
import Derived.Lib.Hide
namespace Go.Proofs.Ytgdoahdkidlndaa

/-- The sum of the first n values. -/
def sumF : Nat → (Nat → Int) → Int
  | 0, _ => 0
  | n + 1, f => sumF n f + f n
/-- One value changed. -/
def upd (f : Nat → Int) (i : Nat) (x : Int) : Nat → Int := fun k => if k = i then x else f k
theorem upd_here (f : Nat → Int) (i : Nat) (x : Int) : upd f i x i = x := if_pos rfl
theorem upd_other {f : Nat → Int} {i k : Nat} {x : Int} (h : k ≠ i) : upd f i x k = f k := if_neg h

theorem sumF_congr {n : Nat} {f g : Nat → Int} (h : ∀ k, k < n → f k = g k) : sumF n f = sumF n g := by
  induction n with
  | zero => rfl
  | succ n ih => simp only [sumF]; rw [ih (fun k hk => h k (by omega)), h n (by omega)]
theorem sumF_le {n : Nat} {f g : Nat → Int} (h : ∀ k, k < n → f k ≤ g k) : sumF n f ≤ sumF n g := by
  induction n with
  | zero => exact Int.le_refl _
  | succ n ih => simp only [sumF]; have := ih (fun k hk => h k (by omega)); have := h n (by omega); omega
theorem sumF_add (n : Nat) (f g : Nat → Int) : sumF n (fun k => f k + g k) = sumF n f + sumF n g := by
  induction n with
  | zero => rfl
  | succ n ih => simp only [sumF, ih]; omega
theorem sumF_mul (n : Nat) (a : Int) (f : Nat → Int) : sumF n (fun k => a * f k) = a * sumF n f := by
  induction n with
  | zero => simp [sumF]
  | succ n ih => simp only [sumF, ih, Int.mul_add]
theorem sumF_const (n : Nat) (a : Int) : sumF n (fun _ => a) = n * a := by
  induction n with
  | zero => simp [sumF]
  | succ n ih => simp only [sumF, ih]; push_cast; rw [Int.add_mul, Int.one_mul]
theorem sumF_upd {n i : Nat} (f : Nat → Int) (x : Int) (h : i < n) : sumF n (upd f i x) = sumF n f - f i + x := by
  induction n with
  | zero => omega
  | succ n ih =>
    simp only [sumF]
    by_cases e : i = n
    · subst e
      rw [upd_here, sumF_congr (g := f) (fun k hk => upd_other (by omega))]
      omega
    · rw [ih (by omega), upd_other (fun e' => e e'.symm)]
      omega
theorem sumF_zero {n : Nat} {f : Nat → Int} (h0 : ∀ k, k < n → 0 ≤ f k) (hs : sumF n f = 0) : ∀ k, k < n → f k = 0 := by
  induction n with
  | zero => intro k hk; omega
  | succ n ih =>
    simp only [sumF] at hs
    have h1 : 0 ≤ sumF n f := by
      have := sumF_le (f := fun _ => 0) (g := f) (n := n) (fun k hk => h0 k (by omega))
      rw [sumF_const] at this
      omega
    have h2 := h0 n (by omega)
    intro k hk
    by_cases e : k = n
    · subst e; omega
    · exact ih (fun k hk => h0 k (by omega)) (by omega) k (by omega)
theorem sumL_rangeF (n : Nat) (f : Nat → Int) : sumL ((List.range n).map f) = sumF n f := by
  induction n with
  | zero => rfl
  | succ n ih => rw [List.range_succ, List.map_append, sumL_append, ih]; simp [sumL, sumF]
theorem sumL_getD (ws : List Int) : sumL ws = sumF ws.length (fun k => ws.getD k 0) := by
  rw [← sumL_rangeF]
  congr 1
  apply List.ext_getElem
  · simp
  · intro i h1 h2; simp [List.getD, h1]

/-- The place of the first greatest up to i. -/
def bestTo (r : Nat → Int) : Nat → Nat
  | 0 => 0
  | i + 1 => if r (bestTo r i) < r (i + 1) then i + 1 else bestTo r i
theorem bestTo_le (r : Nat → Int) (i : Nat) : bestTo r i ≤ i := by
  induction i with
  | zero => exact Nat.le_refl _
  | succ i ih => unfold bestTo; split <;> omega
theorem bestTo_max (r : Nat → Int) (i : Nat) : ∀ k, k ≤ i → r k ≤ r (bestTo r i) := by
  induction i with
  | zero =>
    intro k hk
    obtain rfl : k = 0 := by omega
    exact Int.le_refl _
  | succ i ih =>
    intro k hk
    unfold bestTo
    split
    · by_cases e : k = i + 1
      · subst e; exact Int.le_refl _
      · have := ih k (by omega); omega
    · by_cases e : k = i + 1
      · subst e; omega
      · exact ih k (by omega)
theorem bestTo_first (r : Nat → Int) (i : Nat) : ∀ k, k < bestTo r i → r k < r (bestTo r i) := by
  induction i with
  | zero => intro k hk; simp [bestTo] at hk
  | succ i ih =>
    intro k
    unfold bestTo
    split
    · rename_i h
      intro hk
      have := bestTo_max r i k (by omega)
      omega
    · exact ih k
theorem bestTo_eq {r : Nat → Int} {i m : Nat} (hm : m ≤ i) (h : ∀ k, k ≤ i → k ≠ m → r k < r m ∨ (r k = r m ∧ m < k)) : bestTo r i = m := by
  have h1 := bestTo_le r i
  have h2 := bestTo_max r i m hm
  by_cases e : bestTo r i = m
  · exact e
  · rcases h _ h1 e with h3 | ⟨h3, h4⟩
    · omega
    · have := bestTo_first r i m h4
      omega

/-- One more to the first greatest. -/
def stp (n : Nat) (s : (Nat → Int) × (Nat → Int)) : Nat → (Nat → Int) × (Nat → Int)
  | 0 => s
  | j + 1 => (upd (stp n s j).1 (bestTo (stp n s j).2 (n - 1)) ((stp n s j).1 (bestTo (stp n s j).2 (n - 1)) + 1), upd (stp n s j).2 (bestTo (stp n s j).2 (n - 1)) (-1))

/-- What the choice has come to behind j steps: who was chosen. -/
structure Greedy (n : Nat) (q c : Nat → Int) (j : Nat) (al : Nat → Int) : Prop where
  bit : ∀ k, al k = 0 ∨ al k = 1
  out : ∀ k, (stp n (q, c) j).1 k = q k + al k
  rest : ∀ k, k < n → (al k = 1 → (stp n (q, c) j).2 k = -1) ∧ (al k = 0 → (stp n (q, c) j).2 k = c k)
  cnt : sumF n al = j
  top : ∀ k k', k < n → k' < n → al k = 1 → al k' = 0 → c k' ≤ c k

theorem greedy {n : Nat} {q c : Nat → Int} (hc : ∀ k, k < n → 0 ≤ c k) (j : Nat) (hj : j ≤ n) : ∃ al, Greedy n q c j al := by
  induction j with
  | zero => exact ⟨fun _ => 0, fun _ => Or.inl rfl, fun k => by simp [stp], fun k _ => ⟨fun h => by simp at h, fun _ => rfl⟩, by rw [sumF_const]; simp, fun k k' _ _ h => by simp at h⟩
  | succ j ih =>
    obtain ⟨al, g⟩ := ih (by omega)
    -- someone has not been chosen
    have hex : ∃ k, k < n ∧ al k = 0 := by
      by_cases h : ∃ k, k < n ∧ al k = 0
      · exact h
      · exfalso
        have h1 : ∀ k, k < n → al k = 1 := fun k hk => by
          rcases g.bit k with e | e
          · exact absurd ⟨k, hk, e⟩ h
          · exact e
        have h2 := g.cnt
        rw [sumF_congr (g := fun _ => 1) h1, sumF_const] at h2
        omega
    obtain ⟨b, hb⟩ : ∃ b, bestTo (stp n (q, c) j).2 (n - 1) = b := ⟨_, rfl⟩
    have hbn : b < n := by have := bestTo_le (stp n (q, c) j).2 (n - 1); omega
    have hmax : ∀ k, k < n → (stp n (q, c) j).2 k ≤ (stp n (q, c) j).2 b := fun k hk => by rw [← hb]; exact bestTo_max _ _ k (by omega)
    have hb0 : al b = 0 := by
      rcases g.bit b with e | e
      · exact e
      · exfalso
        obtain ⟨k, hk, e0⟩ := hex
        have h1 := hmax k hk
        rw [(g.rest k hk).2 e0, (g.rest b hbn).1 e] at h1
        have := hc k hk
        omega
    refine ⟨upd al b 1, fun k => ?_, fun k => ?_, fun k hk => ?_, ?_, fun k k' hk hk' h1 h0 => ?_⟩
    · by_cases e : k = b
      · subst e; rw [upd_here]; exact Or.inr rfl
      · rw [upd_other e]; exact g.bit k
    · simp only [stp, hb]
      by_cases e : k = b
      · subst e; rw [upd_here, upd_here, g.out, hb0]; omega
      · rw [upd_other e, upd_other e]; exact g.out k
    · simp only [stp, hb]
      by_cases e : k = b
      · subst e; rw [upd_here, upd_here]; exact ⟨fun _ => rfl, fun h => by omega⟩
      · rw [upd_other e, upd_other e]; exact g.rest k hk
    · rw [sumF_upd _ _ hbn, g.cnt, hb0]; push_cast; omega
    · have e' : k' ≠ b := by rintro rfl; rw [upd_here] at h0; omega
      rw [upd_other e'] at h0
      by_cases e : k = b
      · subst e
        have h2 := hmax k' hk'
        rwa [(g.rest k' hk').2 h0, (g.rest k hbn).2 hb0] at h2
      · rw [upd_other e] at h1
        exact g.top k k' hk hk' h1 h0

/-- No other choice of as many is worth more. -/
theorem Greedy.best {n j : Nat} {q c al be : Nat → Int} (g : Greedy n q c j al) (hc : ∀ k, k < n → 0 ≤ c k) (hb : ∀ k, k < n → be k = 0 ∨ be k = 1) (hs : sumF n be = j) :
    sumF n (fun k => be k * c k) ≤ sumF n (fun k => al k * c k) := by
  obtain ⟨ta, h0, h1⟩ : ∃ ta, (∀ k, k < n → al k = 0 → c k ≤ ta) ∧ (∀ k, k < n → al k = 1 → ta ≤ c k) := by
    have h : ∀ m, m ≤ n → ∃ ta, (∀ k, k < m → al k = 0 → c k ≤ ta) ∧ (ta = 0 ∨ ∃ k, k < n ∧ al k = 0 ∧ c k = ta) ∧ 0 ≤ ta := by
      intro m
      induction m with
      | zero => exact fun _ => ⟨0, fun k hk => by omega, Or.inl rfl, Int.le_refl _⟩
      | succ m ih =>
        intro hm
        obtain ⟨ta, h1, h2, h3⟩ := ih (by omega)
        by_cases hz : al m = 0 ∧ ta < c m
        · exact ⟨c m, fun k hk e => by
            by_cases e' : k = m
            · subst e'; exact Int.le_refl _
            · have := h1 k (by omega) e; omega, Or.inr ⟨m, by omega, hz.1, rfl⟩, by omega⟩
        · exact ⟨ta, fun k hk e => by
            by_cases e' : k = m
            · subst e'; have : ¬ta < c k := fun h => hz ⟨e, h⟩; omega
            · exact h1 k (by omega) e, h2, h3⟩
    obtain ⟨ta, h1, h2, _⟩ := h n (Nat.le_refl _)
    refine ⟨ta, h1, fun k hk e => ?_⟩
    rcases h2 with h2 | ⟨k', hk', e', h2⟩
    · have := hc k hk; omega
    · rw [← h2]; exact g.top k k' hk hk' e e'
  have key : sumF n (fun k => be k * c k + ta * al k) ≤ sumF n (fun k => al k * c k + ta * be k) := sumF_le (fun k hk => by
    rcases g.bit k with e | e <;> rcases hb k hk with e' | e' <;> simp only [e, e', Int.zero_mul, Int.one_mul, Int.mul_zero, Int.mul_one]
    · omega
    · have := h0 k hk e; omega
    · have := h1 k hk e; omega
    · omega)
  rw [sumF_add, sumF_add, sumF_mul, sumF_mul, g.cnt, hs] at key
  omega
end Go.Proofs.Ytgdoahdkidlndaa
