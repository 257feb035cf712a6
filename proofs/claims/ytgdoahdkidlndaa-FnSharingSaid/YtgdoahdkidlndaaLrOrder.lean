/-
  The sorted places are chosen in their order by the greedy choice. No program is named here.
-/
import Derived.Test.YtgdoahdkidlndaaIsShLib
import Derived.Test.YtgdoahdkidlndaaSortLib
import Derived.Test.YtgdoahdkidlndaaLrLib
import Derived.Test.YtgdoahdkidlndaaLrFacts
import Derived.WalkKit
import Derived.Lib.Hide
namespace Go.Proofs.Ytgdoahdkidlndaa

/-- Places into places, no two into one: every place is met. -/
theorem pigeon : ∀ (n : Nat) (f : Nat → Nat), (∀ i, i < n → f i < n) → (∀ i j, i < n → j < n → f i = f j → i = j) → ∀ k, k < n → ∃ i, i < n ∧ f i = k := by
  intro n
  induction n with
  | zero => intro f _ _ k hk; omega
  | succ n ih =>
    intro f h1 h2 k hk
    by_cases hex : ∃ i, i < n + 1 ∧ f i = k
    · exact hex
    · exfalso
      have hno : ∀ i, i < n + 1 → f i ≠ k := fun i hi e => hex ⟨i, hi, e⟩
      obtain ⟨g, hg⟩ : ∃ g : Nat → Nat, g = fun i => if f i = n then k else f i := ⟨_, rfl⟩
      have gi : ∀ i, g i = if f i = n then k else f i := fun i => by rw [hg]
      have g1 : ∀ i, i < n + 1 → g i < n := fun i hi => by
        rw [gi]
        have a := h1 i hi
        have b := hno i hi
        split
        · by_cases e : k = n
          · exfalso; subst e; exact b (by assumption)
          · omega
        · omega
      have g2 : ∀ i j, i < n + 1 → j < n + 1 → g i = g j → i = j := fun i j hi hj e => by
        rw [gi, gi] at e
        have a := hno i hi
        have b := hno j hj
        split at e <;> split at e
        · exact h2 i j hi hj (by omega)
        · exact absurd e.symm b
        · exact absurd e a
        · exact h2 i j hi hj e
      obtain ⟨i, hi, e⟩ := ih g (fun i hi => g1 i (by omega)) (fun i j hi hj e => g2 i j (by omega) (by omega) e) (g n) (g1 n (by omega))
      have := g2 i n (by omega) (by omega) e
      omega

section
variable {n : Nat} {key : Int → Int} {f : Nat → Int}
theorem srt_inR (hi : srt.Into (fun i => (i : Int)) f 0 n) : srt.InR f n := hi.inR (fun i h => (show (0 : Int) ≤ (i : Int) ∧ (i : Int) < n from ⟨by omega, by omega⟩)) (Nat.le_refl _)
theorem srt_inj (hs : srt.Srtd key f 0 n) {i j : Nat} (h1 : i < n) (h2 : j < n) (e : f i = f j) : i = j := by
  by_cases c : i < j
  · exact absurd e (hs i j (by omega) c h2).ne
  · by_cases c' : j < i
    · exact absurd e.symm (hs j i (by omega) c' h1).ne
    · omega
theorem srt_surj (hi : srt.Into (fun i => (i : Int)) f 0 n) (hs : srt.Srtd key f 0 n) {k : Nat} (hk : k < n) : ∃ i, i < n ∧ f i = (k : Int) := by
  have hr := srt_inR hi
  obtain ⟨i, h1, h2⟩ := pigeon n (fun i => (f i).toNat) (fun i h => by have := hr i h; show (f i).toNat < n; omega) (fun i j h h' e => srt_inj hs h h' (by
    have a := hr i h
    have b := hr j h'
    have e' : (f i).toNat = (f j).toNat := e
    omega)) k hk
  exact ⟨i, h1, by have a := hr i h1; have e' : (f i).toNat = k := h2; omega⟩

/-- The first greatest of what is left is the next sorted place. -/
theorem best_next {r c : Nat → Int} (hc : ∀ k, k < n → 0 ≤ c k) (hkey : ∀ k : Nat, k < n → key (k : Int) = c k) (hi : srt.Into (fun i => (i : Int)) f 0 n) (hs : srt.Srtd key f 0 n) {j : Nat} (hj : j < n)
    (h1 : ∀ k : Nat, k < n → (∃ i, i < j ∧ f i = (k : Int)) → r k = -1) (h2 : ∀ k : Nat, k < n → (¬∃ i, i < j ∧ f i = (k : Int)) → r k = c k) : bestTo r (n - 1) = (f j).toNat := by
  have hr := srt_inR hi
  have a := hr j hj
  obtain ⟨m, hm⟩ : ∃ m : Nat, f j = (m : Int) := ⟨(f j).toNat, by omega⟩
  have hmn : m < n := by omega
  rw [hm, Int.toNat_natCast]
  have hmno : ¬∃ i, i < j ∧ f i = (m : Int) := fun ⟨i, h3, h4⟩ => by
    have := srt_inj hs (by omega) hj (h4.trans hm.symm)
    omega
  have hrm := h2 m hmn hmno
  refine bestTo_eq (by omega) (fun k hk hkm => ?_)
  by_cases hex : ∃ i, i < j ∧ f i = (k : Int)
  · rw [h1 k (by omega) hex, hrm]
    have := hc m hmn
    omega
  · rw [h2 k (by omega) hex, hrm]
    obtain ⟨i, h3, h4⟩ := srt_surj hi hs (k := k) (by omega)
    have hij : j < i := by
      by_cases c1 : i < j
      · exact absurd ⟨i, c1, h4⟩ hex
      · by_cases c2 : i = j
        · subst c2; omega
        · omega
    have hR := hs j i (by omega) hij h3
    rw [hm, h4] at hR
    unfold srt.R at hR
    rw [hkey k (by omega), hkey m hmn] at hR
    omega

theorem stp_rest {q c : Nat → Int} (hc : ∀ k, k < n → 0 ≤ c k) (hkey : ∀ k : Nat, k < n → key (k : Int) = c k) (hi : srt.Into (fun i => (i : Int)) f 0 n) (hs : srt.Srtd key f 0 n) (j : Nat) (hj : j ≤ n) :
    (∀ k : Nat, k < n → (∃ i, i < j ∧ f i = (k : Int)) → (stp n (q, c) j).2 k = -1) ∧ (∀ k : Nat, k < n → (¬∃ i, i < j ∧ f i = (k : Int)) → (stp n (q, c) j).2 k = c k) := by
  induction j with
  | zero => exact ⟨fun k _ ⟨i, h, _⟩ => by omega, fun k _ _ => rfl⟩
  | succ j ih =>
    obtain ⟨h1, h2⟩ := ih (by omega)
    have hb := best_next hc hkey hi hs (j := j) (by omega) h1 h2
    have a := srt_inR hi j (by omega)
    refine ⟨fun k hk ⟨i, h3, h4⟩ => ?_, fun k hk hno => ?_⟩
    · simp only [stp, hb]
      by_cases e : k = (f j).toNat
      · rw [e, upd_here]
      · rw [upd_other e]
        refine h1 k hk ⟨i, ?_, h4⟩
        by_cases e' : i = j
        · subst e'; omega
        · omega
    · simp only [stp, hb]
      have e : k ≠ (f j).toNat := fun e => hno ⟨j, by omega, by omega⟩
      rw [upd_other e]
      exact h2 k hk (fun ⟨i, h3, h4⟩ => hno ⟨i, by omega, h4⟩)
theorem stp_best {q c : Nat → Int} (hc : ∀ k, k < n → 0 ≤ c k) (hkey : ∀ k : Nat, k < n → key (k : Int) = c k) (hi : srt.Into (fun i => (i : Int)) f 0 n) (hs : srt.Srtd key f 0 n) {j : Nat} (hj : j < n) :
    bestTo (stp n (q, c) j).2 (n - 1) = (f j).toNat := by
  have h := stp_rest (q := q) hc hkey hi hs j (by omega)
  exact best_next hc hkey hi hs hj h.1 h.2
end

/-- One more, with the sign, to the sorted places in their order. -/
def hJ (q : Nat → Int) (s : Int) (f : Nat → Int) : Nat → Nat → Int
  | 0 => q
  | j + 1 => upd (hJ q s f j) (f j).toNat (hJ q s f j (f j).toNat + s)

theorem hJ_eq {t : Int} {ws : List Int} {f : Nat → Int} {key : Int → Int} (h : AreW ws) (hkey : ∀ k : Nat, k < ws.length → key (k : Int) = cc t ws k) (hi : srt.Into (fun i => (i : Int)) f 0 ws.length) (hs : srt.Srtd key f 0 ws.length) (j : Nat) (hj : j ≤ ws.length) :
    hJ (fun k => sgn t * qq t ws k) (sgn t) f j = fun k => sgn t * (stp ws.length (qq t ws, cc t ws) j).1 k := by
  induction j with
  | zero => rfl
  | succ j ih =>
    have hb := stp_best (q := qq t ws) (fun k _ => (qc (t := t) h k).2.1) hkey hi hs (j := j) (by omega)
    funext k
    simp only [hJ, stp, hb]
    rw [ih (by omega)]
    by_cases e : k = (f j).toNat
    · subst e; rw [upd_here, upd_here, Int.mul_add, Int.mul_one]
    · rw [upd_other e, upd_other e]
/-- At the end stand the shares. -/
theorem hJ_end {t : Int} {ws : List Int} {f : Nat → Int} {key : Int → Int} (h : AreW ws) (hkey : ∀ k : Nat, k < ws.length → key (k : Int) = cc t ws k) (hi : srt.Into (fun i => (i : Int)) f 0 ws.length) (hs : srt.Srtd key f 0 ws.length) :
    hJ (fun k => sgn t * qq t ws k) (cmpI t 0) f (LL t ws).toNat = lrF t ws := by
  have hs0 : cmpI t 0 = sgn t ∨ (LL t ws).toNat = 0 := by
    rcases sgn_cases t with ⟨ht, e⟩ | ⟨ht, e⟩
    · exact Or.inl (by rw [e, cmpI_lt ht])
    · by_cases h0 : t = 0
      · subst h0
        refine Or.inr ?_
        have : LL 0 ws = 0 := by
          have h1 := LL_nonneg (t := 0) h
          have h2 := sumF_le (n := ws.length) (f := fun _ => 0) (g := qq 0 ws) (fun k _ => (qc h k).2.2.2.1)
          rw [sumF_const] at h2
          unfold LL at *
          have : TT 0 = 0 := by simp [TT]
          omega
        omega
      · exact Or.inl (by rw [e, cmpI_gt (by omega)])
  rcases hs0 with e | e
  · rw [e, hJ_eq h hkey hi hs _ (LL_nat h).2]
    rfl
  · funext k
    unfold lrF
    rw [e]
    rfl
theorem hJ_bound {t : Int} {ws : List Int} {f : Nat → Int} {key : Int → Int} (h : CanS t ws) (hkey : ∀ k : Nat, k < ws.length → key (k : Int) = cc t ws k) (hi : srt.Into (fun i => (i : Int)) f 0 ws.length) (hs : srt.Srtd key f 0 ws.length) {j : Nat} (hj : j < (LL t ws).toNat) (k : Nat) :
    cmpI t 0 = sgn t ∧ -1000000001 ≤ hJ (fun k => sgn t * qq t ws k) (cmpI t 0) f j k ∧ hJ (fun k => sgn t * qq t ws k) (cmpI t 0) f j k ≤ 1000000001 := by
  have hl := LL_nat (t := t) h.2.2
  have e : cmpI t 0 = sgn t := by
    rcases sgn_cases t with ⟨ht, e⟩ | ⟨ht, e⟩
    · rw [e, cmpI_lt ht]
    · by_cases h0 : t = 0
      · subst h0
        exfalso
        have h2 := sumF_le (n := ws.length) (f := fun _ => 0) (g := qq 0 ws) (fun k _ => (qc h.2.2 k).2.2.2.1)
        rw [sumF_const] at h2
        unfold LL at *
        have : TT 0 = 0 := by simp [TT]
        omega
      · rw [e, cmpI_gt (by omega)]
  refine ⟨e, ?_⟩
  rw [e, hJ_eq h.2.2 hkey hi hs j (by omega)]
  obtain ⟨al, g⟩ := greedy (q := qq t ws) (c := cc t ws) (n := ws.length) (fun k _ => (qc h.2.2 k).2.1) j (by omega)
  have hq := (qc (t := t) h.2.2 k).2.2.2
  have hT := TT_le h
  show -1000000001 ≤ sgn t * (stp ws.length (qq t ws, cc t ws) j).1 k ∧ sgn t * (stp ws.length (qq t ws, cc t ws) j).1 k ≤ 1000000001
  rw [g.out]
  have hb := g.bit k
  rcases sgn_cases t with ⟨_, e'⟩ | ⟨_, e'⟩ <;> rw [e'] <;> omega
end Go.Proofs.Ytgdoahdkidlndaa
