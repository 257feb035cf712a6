import Derived.Lib.Hide
import Derived.Test.YtmnncinpepeocaaGreatBillLib
import Derived.Test.YtmnncinpepeocaaGreatBuNE
import Derived.WalkKit
import Derived.Maps.OwnSet
import Derived.Maps.OwnOps
import Derived.Test.YtmnncinpepeocaaGreatOwnN
import Derived.Laws.IdiomCopy
import Derived.Laws.OwnMore
import Derived.Lib.SliceRun
import Derived.Test.YtmnncinpepeocaaGreatBuA
namespace Go.Proofs.YtmnncinpepeocaaGreat

section sums
variable {β γ : Type}
theorem sm_congr {l : List β} {f g : β → Nat} (h : ∀ x, x ∈ l → f x = g x) : (l.map f).sum = (l.map g).sum := by
 rw [List.map_congr_left h]
theorem sm_zero {l : List β} {f : β → Nat} (h : ∀ x, x ∈ l → f x = 0) : (l.map f).sum = 0 := by
 induction l with
 | nil => rfl
 | cons a l ih => rw [List.map_cons, List.sum_cons, h a List.mem_cons_self, ih (fun x hx => h x (List.mem_cons_of_mem _ hx))]
theorem sm_add (l : List β) (f g : β → Nat) : (l.map (fun x => f x + g x)).sum = (l.map f).sum + (l.map g).sum := by
 induction l with
 | nil => rfl
 | cons a l ih => simp only [List.map_cons, List.sum_cons, ih]; omega
theorem sm_mul (l : List β) (f : β → Nat) (c : Nat) : (l.map (fun x => f x * c)).sum = (l.map f).sum * c := by
 induction l with
 | nil => simp
 | cons a l ih => simp only [List.map_cons, List.sum_cons, ih, Nat.add_mul]
theorem sm_mul' (l : List β) (f : β → Nat) (c : Nat) : (l.map (fun x => c * f x)).sum = c * (l.map f).sum := by
 induction l with
 | nil => simp
 | cons a l ih => simp only [List.map_cons, List.sum_cons, ih, Nat.mul_add]
theorem sm_swap (l : List β) (m : List γ) (f : β → γ → Nat) : (l.map (fun x => (m.map (fun y => f x y)).sum)).sum = (m.map (fun y => (l.map (fun x => f x y)).sum)).sum := by
 induction l with
 | nil => simp [sm_zero]
 | cons a l ih => simp only [List.map_cons, List.sum_cons, ih, sm_add]
theorem sm_filter (l : List β) (p : β → Bool) (f : β → Nat) : ((l.filter p).map f).sum = (l.map (fun x => if p x = true then f x else 0)).sum := by
 induction l with
 | nil => rfl
 | cons a l ih =>
  by_cases h : p a = true
  · rw [List.filter_cons_of_pos h]; simp only [List.map_cons, List.sum_cons, ih, if_pos h]
  · rw [List.filter_cons_of_neg h]; simp only [List.map_cons, List.sum_cons, ih, if_neg h]; omega
theorem sm_pos {l : List β} {f : β → Nat} (h : (l.map f).sum ≠ 0) : ∃ x, x ∈ l ∧ f x ≠ 0 := by
 apply Classical.byContradiction
 intro hn
 exact h (sm_zero (fun x hx => Classical.byContradiction (fun he => hn ⟨x, hx, he⟩)))
theorem sm_le {l : List β} {f : β → Nat} {x : β} (h : x ∈ l) : f x ≤ (l.map f).sum := by
 induction l with
 | nil => cases h
 | cons a l ih =>
  rw [List.map_cons, List.sum_cons]
  rcases List.mem_cons.1 h with rfl | h
  · omega
  · have := ih h; omega
theorem sm_range_succ (n : Nat) (f : Nat → Nat) : ((List.range (n + 1)).map f).sum = f 0 + ((List.range n).map (fun k => f (k + 1))).sum := by
 rw [List.range_succ_eq_map, List.map_cons, List.sum_cons, List.map_map]; rfl
theorem sm_range_last (n : Nat) (f : Nat → Nat) : ((List.range (n + 1)).map f).sum = ((List.range n).map f).sum + f n := by
 rw [List.range_succ, List.map_append, List.sum_append]; simp
/-- A sum in which one member alone counts. -/
theorem sm_one [DecidableEq β] {l : List β} (hn : l.Nodup) (c : β) (f : β → Nat) : (l.map (fun x => if x = c then f x else 0)).sum = if c ∈ l then f c else 0 := by
 induction l with
 | nil => simp
 | cons a l ih =>
  rw [List.nodup_cons] at hn
  rw [List.map_cons, List.sum_cons, ih hn.2]
  by_cases e : a = c
  · subst e
    rw [if_pos rfl, if_neg hn.1, if_pos List.mem_cons_self]; rfl
  · rw [if_neg e]
    by_cases h : c ∈ l
    · rw [if_pos h, if_pos (List.mem_cons_of_mem _ h)]; omega
    · rw [if_neg h, if_neg (fun h2 => by rcases List.mem_cons.1 h2 with h2 | h2; exact e h2.symm; exact h h2)]
end sums

section ways
variable {α : Type} [DecidableEq α]
/-- All ways of k links. -/
def stp (L : List (α × α × Nat)) : Nat → α → α → Nat
 | 0, a, b => if a = b then 1 else 0
 | k + 1, a, b => (L.map (fun x => if x.1 = a then x.2.2 * stp L k x.2.1 b else 0)).sum
theorem stp_right (L : List (α × α × Nat)) (b : α) : ∀ (k : Nat) (a : α), stp L (k + 1) a b = (L.map (fun x => if x.2.1 = b then stp L k a x.1 * x.2.2 else 0)).sum := by
 intro k
 induction k with
 | zero =>
  intro a
  show (L.map (fun x => if x.1 = a then x.2.2 * (if x.2.1 = b then 1 else 0) else 0)).sum = (L.map (fun x => if x.2.1 = b then (if a = x.1 then 1 else 0) * x.2.2 else 0)).sum
  refine sm_congr (fun x _ => ?_)
  by_cases h1 : x.1 = a
  · by_cases h2 : x.2.1 = b
    · rw [if_pos h1, if_pos h2, if_pos h2, if_pos h1.symm]; omega
    · rw [if_pos h1, if_neg h2, if_neg h2]; rfl
  · by_cases h2 : x.2.1 = b
    · rw [if_neg h1, if_pos h2, if_neg (fun h => h1 h.symm)]; omega
    · rw [if_neg h1, if_neg h2]
 | succ k ih =>
  intro a
  have e1 : stp L (k + 1 + 1) a b = (L.map (fun x => (L.map (fun y => if x.1 = a then x.2.2 * (if y.2.1 = b then stp L k x.2.1 y.1 * y.2.2 else 0) else 0)).sum)).sum := by
   show (L.map (fun x => if x.1 = a then x.2.2 * stp L (k + 1) x.2.1 b else 0)).sum = _
   refine sm_congr (fun x _ => ?_)
   by_cases h : x.1 = a
   · simp only [if_pos h]; rw [ih, sm_mul']
   · simp only [if_neg h]; rw [sm_zero (fun _ _ => rfl)]
  have e2 : (L.map (fun y => if y.2.1 = b then stp L (k + 1) a y.1 * y.2.2 else 0)).sum = (L.map (fun y => (L.map (fun x => if x.1 = a then x.2.2 * (if y.2.1 = b then stp L k x.2.1 y.1 * y.2.2 else 0) else 0)).sum)).sum := by
   refine sm_congr (fun y _ => ?_)
   by_cases h : y.2.1 = b
   · simp only [if_pos h]
     show (L.map (fun x => if x.1 = a then x.2.2 * stp L k x.2.1 y.1 else 0)).sum * y.2.2 = _
     rw [← sm_mul]
     refine sm_congr (fun x _ => ?_)
     by_cases h2 : x.1 = a
     · simp only [if_pos h2]; rw [Nat.mul_assoc]
     · simp only [if_neg h2]; omega
   · simp only [if_neg h]
     rw [sm_zero (fun x _ => by by_cases h2 : x.1 = a <;> simp [h2])]
  rw [e1, e2, sm_swap]
/-- Every link leads to a higher level. -/
def Lvl (L : List (α × α × Nat)) (lv : α → Nat) : Prop := ∀ x, x ∈ L → lv x.1 < lv x.2.1
def Acy (L : List (α × α × Nat)) : Prop := ∃ lv : α → Nat, Lvl L lv ∧ ∀ b, lv b < 12
theorem stp_lv {L : List (α × α × Nat)} {lv : α → Nat} (h : Lvl L lv) (b : α) : ∀ (k : Nat) (a : α), stp L k a b ≠ 0 → lv a + k ≤ lv b := by
 intro k
 induction k with
 | zero =>
  intro a hs
  by_cases e : a = b
  · subst e; omega
  · exact absurd (if_neg e) hs
 | succ k ih =>
  intro a hs
  obtain ⟨x, hx, hne⟩ := sm_pos (l := L) (f := fun x => if x.1 = a then x.2.2 * stp L k x.2.1 b else 0) hs
  by_cases e : x.1 = a
  · have h1 : x.2.2 * stp L k x.2.1 b ≠ 0 := by simpa only [if_pos e] using hne
    have h2 := ih x.2.1 (fun hz => h1 (by rw [hz]; rfl))
    have h3 := h x hx
    rw [e] at h3
    omega
  · exact absurd (if_neg e) hne
theorem stp_far {L : List (α × α × Nat)} (h : Acy L) {k : Nat} (hk : 12 ≤ k) (a b : α) : stp L k a b = 0 := by
 obtain ⟨lv, h1, h2⟩ := h
 apply Classical.byContradiction
 intro hn
 have := stp_lv h1 b k a hn
 have := h2 b
 omega
/-- The sum of the products of all ways. -/
def wy (L : List (α × α × Nat)) (a b : α) : Nat := ((List.range 12).map (fun k => stp L k a b)).sum
theorem wy_lv {L : List (α × α × Nat)} {lv : α → Nat} (h : Lvl L lv) {a b : α} (hw : wy L a b ≠ 0) : lv a ≤ lv b := by
 obtain ⟨k, _, hk⟩ := sm_pos hw
 have := stp_lv h b k a hk
 omega
theorem wy_lt {L : List (α × α × Nat)} {lv : α → Nat} (h : Lvl L lv) {a b : α} (hne : a ≠ b) (hw : wy L a b ≠ 0) : lv a < lv b := by
 obtain ⟨k, _, hk⟩ := sm_pos hw
 have h1 := stp_lv h b k a hk
 cases k with
 | zero => exact absurd (if_neg hne) hk
 | succ k => omega
theorem wy_up0 {L : List (α × α × Nat)} (h : Acy L) (a b : α) : wy L a b = (if a = b then 1 else 0) + (L.map (fun x => if x.1 = a then x.2.2 * wy L x.2.1 b else 0)).sum := by
 have e : (L.map (fun x => if x.1 = a then x.2.2 * wy L x.2.1 b else 0)).sum = ((List.range 12).map (fun k => stp L (k + 1) a b)).sum := by
  show _ = ((List.range 12).map (fun k => (L.map (fun x => if x.1 = a then x.2.2 * stp L k x.2.1 b else 0)).sum)).sum
  rw [sm_swap]
  refine sm_congr (fun x _ => ?_)
  by_cases e : x.1 = a
  · simp only [if_pos e]; rw [sm_mul']; rfl
  · simp only [if_neg e]; rw [sm_zero (fun _ _ => rfl)]
 rw [e]
 have h1 := sm_range_succ 12 (fun k => stp L k a b)
 have h2 := sm_range_last 12 (fun k => stp L k a b)
 have h3 : stp L 12 a b = 0 := stp_far h (Nat.le_refl _) a b
 have h4 : stp L 0 a b = if a = b then 1 else 0 := rfl
 have h5 : wy L a b = ((List.range 12).map (fun k => stp L k a b)).sum := rfl
 rw [h5]
 omega
theorem wy_down0 {L : List (α × α × Nat)} (h : Acy L) (a b : α) : wy L a b = (if a = b then 1 else 0) + (L.map (fun x => if x.2.1 = b then wy L a x.1 * x.2.2 else 0)).sum := by
 have e : (L.map (fun x => if x.2.1 = b then wy L a x.1 * x.2.2 else 0)).sum = ((List.range 12).map (fun k => stp L (k + 1) a b)).sum := by
  rw [sm_congr (fun k _ => stp_right L b k a), sm_swap]
  refine sm_congr (fun x _ => ?_)
  by_cases e : x.2.1 = b
  · simp only [if_pos e]; rw [sm_mul]; rfl
  · simp only [if_neg e]; rw [sm_zero (fun _ _ => rfl)]
 rw [e]
 have h1 := sm_range_succ 12 (fun k => stp L k a b)
 have h2 := sm_range_last 12 (fun k => stp L k a b)
 have h3 : stp L 12 a b = 0 := stp_far h (Nat.le_refl _) a b
 have h4 : stp L 0 a b = if a = b then 1 else 0 := rfl
 have h5 : wy L a b = ((List.range 12).map (fun k => stp L k a b)).sum := rfl
 rw [h5]
 omega
/-- No way leads back. -/
theorem wy_back {L : List (α × α × Nat)} (h : Acy L) {x : α × α × Nat} (hx : x ∈ L) {a : α} (ha : wy L a x.1 ≠ 0) : wy L x.2.1 a = 0 := by
 obtain ⟨lv, h1, _⟩ := h
 apply Classical.byContradiction
 intro hn
 have := wy_lv h1 ha
 have := wy_lv h1 hn
 have := h1 x hx
 omega
theorem wy_self {L : List (α × α × Nat)} (h : Acy L) (a : α) : wy L a a = 1 := by
 rw [wy_up0 h, if_pos rfl, sm_zero (fun x hx => ?_)]
 by_cases e : x.1 = a
 · rw [if_pos e]
   have : wy L x.2.1 a = 0 := by
    obtain ⟨lv, h1, _⟩ := h
    apply Classical.byContradiction
    intro hn
    have h3 := wy_lv h1 hn
    have h4 := h1 x hx
    rw [e] at h4
    omega
   rw [this]; rfl
 · rw [if_neg e]
theorem wy_in {L : List (α × α × Nat)} (h : Acy L) (a : α) : (L.map (fun x => if x.2.1 = a then wy L a x.1 * x.2.2 else 0)).sum = 0 := by
 have h1 := wy_down0 h a a
 rw [wy_self h, if_pos rfl] at h1
 omega
theorem wy_out {L : List (α × α × Nat)} (h : Acy L) (a : α) : (L.map (fun x => if x.1 = a then x.2.2 * wy L x.2.1 a else 0)).sum = 0 := by
 have h1 := wy_up0 h a a
 rw [wy_self h, if_pos rfl] at h1
 omega
theorem wy_up {L : List (α × α × Nat)} (h : Acy L) {a b : α} (hne : a ≠ b) : wy L a b = (L.map (fun x => if x.1 = a then x.2.2 * wy L x.2.1 b else 0)).sum := by
 rw [wy_up0 h, if_neg hne, Nat.zero_add]
theorem wy_down {L : List (α × α × Nat)} (h : Acy L) {a b : α} (hne : a ≠ b) : wy L a b = (L.map (fun x => if x.2.1 = b then wy L a x.1 * x.2.2 else 0)).sum := by
 rw [wy_down0 h, if_neg hne, Nat.zero_add]
omit [DecidableEq α] in
theorem Acy.filter {L : List (α × α × Nat)} (h : Acy L) (p : α × α × Nat → Bool) : Acy (L.filter p) := by
 obtain ⟨lv, h1, h2⟩ := h
 exact ⟨lv, fun x hx => h1 x (List.mem_filter.1 hx).1, h2⟩

/-- The links that begin at c or at a vertex gone through. -/
def thru (L : List (α × α × Nat)) (c : α) (p : α → Bool) : List (α × α × Nat) := L.filter (fun x => decide (x.1 = c) || p x.1)
theorem thru_acy {L : List (α × α × Nat)} (h : Acy L) (c : α) (p : α → Bool) : Acy (thru L c p) := h.filter _
theorem thru_sum (L : List (α × α × Nat)) (c : α) (p : α → Bool) (f : α × α × Nat → Nat) : ((thru L c p).map f).sum = (L.map (fun x => if x.1 = c ∨ p x.1 = true then f x else 0)).sum := by
 unfold thru
 rw [sm_filter]
 refine sm_congr (fun x _ => ?_)
 by_cases h1 : x.1 = c
 · simp [h1]
 · simp [h1]
theorem thru_all (L : List (α × α × Nat)) (c : α) : thru L c (fun _ => true) = L := by
 unfold thru
 exact List.filter_eq_self.2 (fun x _ => by simp)
/-- Every way from c leads to its first vertex that is not gone through, and from there on. -/
theorem wy_first {L : List (α × α × Nat)} (h : Acy L) (c : α) (p : α → Bool) {ks : List α} (hn : ks.Nodup) (hks : ∀ x, x ∈ L → x.2.1 ∈ ks) (b : α) :
 wy L c b = (ks.map (fun k => if p k = true ∨ k = c then 0 else wy (thru L c p) c k * wy L k b)).sum + (if p b = true ∨ b = c then wy (thru L c p) c b else 0) := by
 obtain ⟨lv, h1, h2⟩ := h
 have hA : Acy L := ⟨lv, h1, h2⟩
 have hT : Acy (thru L c p) := thru_acy hA c p
 have hTl : Lvl (thru L c p) lv := fun x hx => h1 x (List.mem_filter.1 hx).1
 suffices hs : ∀ (n : Nat) (b : α), lv b < n → wy L c b = (ks.map (fun k => if p k = true ∨ k = c then 0 else wy (thru L c p) c k * wy L k b)).sum + (if p b = true ∨ b = c then wy (thru L c p) c b else 0) from hs _ b (Nat.lt_succ_self _)
 intro n
 induction n with
 | zero => intro b hb; exact absurd hb (Nat.not_lt_zero _)
 | succ n ih =>
  intro b hb
  by_cases e : b = c
  · subst e
    rw [wy_self hA, wy_self hT, if_pos (Or.inr rfl), sm_zero (fun k _ => ?_)]
    by_cases hk : p k = true ∨ k = b
    · rw [if_pos hk]
    · rw [if_neg hk]
      have hkb : k ≠ b := fun h => hk (Or.inr h)
      by_cases hz : wy (thru L b p) b k = 0
      · rw [hz, Nat.zero_mul]
      · have h3 := wy_lt hTl (fun h => hkb h.symm) hz
        have : wy L k b = 0 := Classical.byContradiction (fun hn2 => by have := wy_lv h1 hn2; omega)
        rw [this, Nat.mul_zero]
  · have hcb : c ≠ b := fun h => e h.symm
    have e1 : wy L c b = (L.map (fun x => (if x.2.1 = b then (ks.map (fun k => if p k = true ∨ k = c then 0 else wy (thru L c p) c k * wy L k x.1)).sum * x.2.2 else 0) + (if x.2.1 = b then (if p x.1 = true ∨ x.1 = c then wy (thru L c p) c x.1 else 0) * x.2.2 else 0))).sum := by
     rw [wy_down hA hcb]
     refine sm_congr (fun x hx => ?_)
     by_cases hxb : x.2.1 = b
     · simp only [if_pos hxb]
       have h3 := h1 x hx
       rw [hxb] at h3
       rw [ih x.1 (by omega), Nat.add_mul]
     · simp only [if_neg hxb]
    have e2 : (L.map (fun x => if x.2.1 = b then (if p x.1 = true ∨ x.1 = c then wy (thru L c p) c x.1 else 0) * x.2.2 else 0)).sum = wy (thru L c p) c b := by
     rw [wy_down hT hcb, thru_sum]
     refine sm_congr (fun x _ => ?_)
     by_cases hxb : x.2.1 = b
     · simp only [if_pos hxb]
       by_cases hp : p x.1 = true ∨ x.1 = c
       · rw [if_pos hp, if_pos hp.symm]
       · rw [if_neg hp, if_neg (fun h => hp h.symm), Nat.zero_mul]
     · simp only [if_neg hxb, ite_self]
    have e3 : (L.map (fun x => if x.2.1 = b then (ks.map (fun k => if p k = true ∨ k = c then 0 else wy (thru L c p) c k * wy L k x.1)).sum * x.2.2 else 0)).sum + (if p b = true ∨ b = c then 0 else wy (thru L c p) c b) = (ks.map (fun k => if p k = true ∨ k = c then 0 else wy (thru L c p) c k * wy L k b)).sum := by
     have f1 : (L.map (fun x => if x.2.1 = b then (ks.map (fun k => if p k = true ∨ k = c then 0 else wy (thru L c p) c k * wy L k x.1)).sum * x.2.2 else 0)).sum = (ks.map (fun k => if p k = true ∨ k = c then 0 else wy (thru L c p) c k * (L.map (fun x => if x.2.1 = b then wy L k x.1 * x.2.2 else 0)).sum)).sum := by
      have g1 : (L.map (fun x => if x.2.1 = b then (ks.map (fun k => if p k = true ∨ k = c then 0 else wy (thru L c p) c k * wy L k x.1)).sum * x.2.2 else 0)).sum = (L.map (fun x => (ks.map (fun k => if p k = true ∨ k = c then 0 else wy (thru L c p) c k * (if x.2.1 = b then wy L k x.1 * x.2.2 else 0))).sum)).sum := by
       refine sm_congr (fun x _ => ?_)
       by_cases hxb : x.2.1 = b
       · simp only [if_pos hxb]
         rw [← sm_mul]
         refine sm_congr (fun k _ => ?_)
         by_cases hk : p k = true ∨ k = c
         · rw [if_pos hk, if_pos hk, Nat.zero_mul]
         · rw [if_neg hk, if_neg hk, Nat.mul_assoc]
       · simp only [if_neg hxb]
         rw [sm_zero (fun k _ => by by_cases hk : p k = true ∨ k = c <;> simp [hk])]
      rw [g1, sm_swap]
      refine sm_congr (fun k _ => ?_)
      by_cases hk : p k = true ∨ k = c
      · simp only [if_pos hk]; rw [sm_zero (fun _ _ => rfl)]
      · simp only [if_neg hk]; rw [sm_mul']
     have f2 : (ks.map (fun k => if p k = true ∨ k = c then 0 else wy (thru L c p) c k * wy L k b)).sum = (ks.map (fun k => (if p k = true ∨ k = c then 0 else wy (thru L c p) c k * (L.map (fun x => if x.2.1 = b then wy L k x.1 * x.2.2 else 0)).sum) + (if k = b then (if p b = true ∨ b = c then 0 else wy (thru L c p) c b) else 0))).sum := by
      refine sm_congr (fun k _ => ?_)
      by_cases hkb : k = b
      · subst hkb
        by_cases hk : p k = true ∨ k = c
        · simp only [if_pos hk, if_pos]
        · simp only [if_neg hk, if_pos]
          rw [wy_self hA, wy_in hA, Nat.mul_zero, Nat.zero_add, Nat.mul_one]
      · by_cases hk : p k = true ∨ k = c
        · simp only [if_pos hk, if_neg hkb]
        · simp only [if_neg hk, if_neg hkb]
          rw [wy_down hA hkb, Nat.add_zero]
     rw [f1, f2, sm_add, sm_one hn b (fun _ => if p b = true ∨ b = c then 0 else wy (thru L c p) c b)]
     by_cases hm : b ∈ ks
     · rw [if_pos hm]
     · rw [if_neg hm]
       have hz : wy (thru L c p) c b = 0 := by
        rw [wy_down hT hcb]
        refine sm_zero (fun x hx => ?_)
        have hne : x.2.1 ≠ b := fun hxb => hm (by rw [← hxb]; exact hks x (List.mem_filter.1 hx).1)
        rw [if_neg hne]
       rw [hz, ite_self]
    rw [sm_add, e2] at e1
    rw [e1, ← e3]
    by_cases hp : p b = true ∨ b = c
    · simp only [if_pos hp]; omega
    · simp only [if_neg hp]; omega

/-- The products of all ways, in order; so many links at most. -/
def wyl (L : List (α × α × Nat)) : Nat → α → α → List Nat
 | 0, a, b => if a = b then [1] else []
 | n + 1, a, b => if a = b then [1] else L.flatMap (fun x => if x.1 = a then (wyl L n x.2.1 b).map (fun m => x.2.2 * m) else [])
omit [DecidableEq α] in
theorem flatMap_sum (L : List (α × α × Nat)) (f : α × α × Nat → List Nat) : (L.flatMap f).sum = (L.map (fun x => (f x).sum)).sum := by
 induction L with
 | nil => rfl
 | cons a l ih => rw [List.flatMap_cons, List.sum_append, List.map_cons, List.sum_cons, ih]
theorem list_mul_sum (l : List Nat) (c : Nat) : (l.map (fun m => c * m)).sum = c * l.sum := by
 have := sm_mul' l (fun m => m) c
 simpa using this
theorem wyl_sum {L : List (α × α × Nat)} {lv : α → Nat} (h : Lvl L lv) (h2 : ∀ b, lv b < 12) (b : α) : ∀ (n : Nat) (a : α), 12 ≤ n + lv a → (wyl L n a b).sum = wy L a b := by
 have hA : Acy L := ⟨lv, h, h2⟩
 intro n
 induction n with
 | zero => intro a ha; have := h2 a; omega
 | succ n ih =>
  intro a ha
  by_cases e : a = b
  · subst e
    rw [wy_self hA]
    show (if a = a then [1] else _).sum = 1
    rw [if_pos rfl]; rfl
  · show (if a = b then [1] else L.flatMap (fun x => if x.1 = a then (wyl L n x.2.1 b).map (fun m => x.2.2 * m) else [])).sum = _
    rw [if_neg e, flatMap_sum, wy_up hA e]
    refine sm_congr (fun x hx => ?_)
    by_cases hx1 : x.1 = a
    · simp only [if_pos hx1]
      have h3 := h x hx
      rw [hx1] at h3
      rw [list_mul_sum, ih x.2.1 (by omega)]
    · simp only [if_neg hx1]; rfl
/-- As long as there are links enough it doesn't matter how many. -/
theorem wyl_eq {L : List (α × α × Nat)} {lv : α → Nat} (h : Lvl L lv) (h2 : ∀ b, lv b < 12) (b : α) : ∀ (n m : Nat) (a : α), 12 ≤ n + lv a → 12 ≤ m + lv a → wyl L n a b = wyl L m a b := by
 intro n
 induction n with
 | zero => intro m a ha; have := h2 a; omega
 | succ n ih =>
  intro m a ha hm
  cases m with
  | zero => have := h2 a; omega
  | succ m =>
   show (if a = b then [1] else L.flatMap (fun x => if x.1 = a then (wyl L n x.2.1 b).map (fun m => x.2.2 * m) else [])) = (if a = b then [1] else L.flatMap (fun x => if x.1 = a then (wyl L m x.2.1 b).map (fun m => x.2.2 * m) else []))
   have : ∀ x, x ∈ L → (if x.1 = a then (wyl L n x.2.1 b).map (fun m => x.2.2 * m) else []) = (if x.1 = a then (wyl L m x.2.1 b).map (fun m => x.2.2 * m) else []) := fun x hx => by
    by_cases hx1 : x.1 = a
    · have h3 := h x hx
      rw [hx1] at h3
      rw [if_pos hx1, if_pos hx1, ih m x.2.1 (by omega) (by omega)]
    · rw [if_neg hx1, if_neg hx1]
   rw [show L.flatMap (fun x => if x.1 = a then (wyl L n x.2.1 b).map (fun m => x.2.2 * m) else []) = L.flatMap (fun x => if x.1 = a then (wyl L m x.2.1 b).map (fun m => x.2.2 * m) else []) from by
    rw [List.flatMap_def, List.flatMap_def, List.map_congr_left this]]
omit [DecidableEq α] in
theorem flatMap_len {L : List (α × α × Nat)} {f : α × α × Nat → List Nat} {c : Nat} (h : ∀ x, x ∈ L → (f x).length ≤ c) : (L.flatMap f).length ≤ L.length * c := by
 induction L with
 | nil => simp
 | cons a l ih =>
  rw [List.flatMap_cons, List.length_append, List.length_cons, Nat.add_mul]
  have := h a List.mem_cons_self
  have := ih (fun x hx => h x (List.mem_cons_of_mem _ hx))
  omega
theorem wyl_len {L : List (α × α × Nat)} (hL : L.length ≤ 12) (b : α) : ∀ (n : Nat) (a : α), (wyl L n a b).length ≤ 12 ^ n := by
 intro n
 induction n with
 | zero =>
  intro a
  show (if a = b then [1] else []).length ≤ _
  by_cases e : a = b
  · rw [if_pos e]; simp
  · rw [if_neg e]; simp
 | succ n ih =>
  intro a
  show (if a = b then [1] else L.flatMap (fun x => if x.1 = a then (wyl L n x.2.1 b).map (fun m => x.2.2 * m) else [])).length ≤ _
  by_cases e : a = b
  · rw [if_pos e]; exact Nat.one_le_pow _ _ (by omega)
  · rw [if_neg e]
    refine Nat.le_trans (flatMap_len (c := 12 ^ n) (fun x _ => ?_)) ?_
    · by_cases hx1 : x.1 = a
      · rw [if_pos hx1, List.length_map]; exact ih _
      · rw [if_neg hx1]; exact Nat.zero_le _
    · rw [Nat.pow_succ, Nat.mul_comm]; exact Nat.mul_le_mul_left _ hL
theorem wyl_pos {L : List (α × α × Nat)} (hq : ∀ x, x ∈ L → 1 ≤ x.2.2) (b : α) : ∀ (n : Nat) (a : α) (m : Nat), m ∈ wyl L n a b → 1 ≤ m := by
 intro n
 induction n with
 | zero =>
  intro a m hm
  change m ∈ (if a = b then [1] else []) at hm
  by_cases e : a = b
  · rw [if_pos e] at hm; have := List.mem_singleton.1 hm; omega
  · rw [if_neg e] at hm; cases hm
 | succ n ih =>
  intro a m hm
  change m ∈ (if a = b then [1] else L.flatMap (fun x => if x.1 = a then (wyl L n x.2.1 b).map (fun m => x.2.2 * m) else [])) at hm
  by_cases e : a = b
  · rw [if_pos e] at hm; have := List.mem_singleton.1 hm; omega
  · rw [if_neg e] at hm
    obtain ⟨x, hx, hmx⟩ := List.mem_flatMap.1 hm
    by_cases hx1 : x.1 = a
    · rw [if_pos hx1] at hmx
      obtain ⟨k, hk, rfl⟩ := List.mem_map.1 hmx
      exact Nat.mul_pos (hq x hx) (ih _ _ hk)
    · rw [if_neg hx1] at hmx; cases hmx
end ways
end Go.Proofs.YtmnncinpepeocaaGreat

namespace Go.Proofs.YtmnncinpepeocaaGreat
open Go.RowKit

def codeAt (l : List IT) (i : Nat) : ByteArray := match l[i]? with
 | some r => r.code
 | none => ByteArray.empty
theorem codeAt_get {l : List IT} {k : Nat} (hk : k < l.length) : codeAt l k = (l[k]'hk).code := by
 unfold codeAt; rw [List.getElem?_eq_getElem hk]
theorem cat_lt {l : List IT} (h : CatOk l) (j : Nat) : ∀ (k : Nat) (hk : k < l.length) (hj : j < k), strLt (l[j]'(by omega)).code (l[k]'hk).code := by
 intro k
 induction k with
 | zero => intro hk hj; omega
 | succ k ih =>
  intro hk hj
  have h1 := (h.1 (k + 1) hk hk).2 (by omega)
  by_cases e : j = k
  · subst e; exact h1
  · exact strLt_trans (ih (by omega) (by omega)) h1
theorem cat_fi {l : List IT} (h : CatOk l) {k : Nat} (hk : k < l.length) : fiI l (codeAt l k) = (k : Int) := by
 rw [codeAt_get hk]
 exact fi_at hk rfl (fun j hj hlt => strLt_ne (cat_lt h j k hk hlt))
theorem cat_inj {l : List IT} (h : CatOk l) {j k : Nat} (hj : j < l.length) (hk : k < l.length) (e : codeAt l j = codeAt l k) : j = k := by
 have h1 := cat_fi h hj
 rw [e, cat_fi h hk] at h1
 omega
theorem fi_code {l : List IT} {s : ByteArray} {k : Nat} (h : fiI l s = (k : Int)) : k < l.length ∧ codeAt l k = s := by
 rcases fnd_cases (l.map IT.code) s with ⟨j, hj, h1, h2, _⟩ | h2
 · have e : fiI l s = (j : Int) := h2
   have e2 : j = k := by rw [e] at h; omega
   subst e2
   have hj2 : j < l.length := by simpa using hj
   exact ⟨hj2, by rw [codeAt_get hj2]; simpa using h1⟩
 · have e : fiI l s = -1 := h2.1
   rw [e] at h; omega
theorem cat_codes {l : List IT} (h : CatOk l) : (l.map IT.code).Nodup := by
 rw [List.nodup_iff_pairwise_ne, List.pairwise_iff_getElem]
 intro i j hi hj hij
 rw [List.getElem_map, List.getElem_map]
 exact strLt_ne (cat_lt h i j (by simpa using hj) hij)

/-- A line as a link between codes. -/
def edOf (x : BL) : ByteArray × ByteArray × Nat := (x.par, x.prt, x.qty.toNat)
/-- The lines in force. -/
noncomputable def onX (xs : List BL) (day : Int) (ps : List PK) : List BL := xs.filter (fun x => onB x day ps)
noncomputable def onL (xs : List BL) (day : Int) (ps : List PK) : List (ByteArray × ByteArray × Nat) := (onX xs day ps).map edOf
def isPh (l : List IT) (s : ByteArray) : Bool := decide (kindAt l (fiI l s).toNat = 2)
theorem Acy.sub {α : Type} [DecidableEq α] {L L' : List (α × α × Nat)} (h : Acy L) (hs : ∀ x, x ∈ L' → x ∈ L) : Acy L' := by
 obtain ⟨lv, h1, h2⟩ := h
 exact ⟨lv, fun x hx => h1 x (hs x hx), h2⟩
/-- A level for each code. -/
theorem bills_lvl {l : List IT} {xs : List BL} {vs : List Nat} (hb : LinesOk l xs) (hv : LevOk l.length (pairs l xs) vs) : Lvl (xs.map edOf) (fun s => lv vs (fiI l s).toNat) ∧ ∀ s, lv vs (fiI l s).toNat < 12 := by
 have hi := hb.inb
 refine ⟨fun e he => ?_, fun s => ?_⟩
 · obtain ⟨x, hx, rfl⟩ := List.mem_map.1 he
   have h1 := hv.2.1 (pairOf l x) (List.mem_map.2 ⟨x, hx, rfl⟩)
   exact h1
 · by_cases hlt : (fiI l s).toNat < l.length
   · have h1 := hv.lt hi _ hlt
     have h2 := hb.1.2
     omega
   · rw [lv_out (by rw [hv.1]; omega)]; omega
theorem bills_acy {l : List IT} {xs : List BL} {vs : List Nat} (hb : LinesOk l xs) (hv : LevOk l.length (pairs l xs) vs) : Acy (xs.map edOf) := ⟨_, (bills_lvl hb hv).1, (bills_lvl hb hv).2⟩
theorem bills_acy' {l : List IT} {xs : List BL} (h : BillsOk l xs) : Acy (xs.map edOf) := by
 obtain ⟨hb, u, hu⟩ := h
 have hi := hb.inb
 obtain ⟨u', h1, h2⟩ := hu.bound hi
 refine ⟨fun s => if (fiI l s).toNat < l.length then u' (fiI l s).toNat else 0, fun e he => ?_, fun s => ?_⟩
 · obtain ⟨x, hx, rfl⟩ := List.mem_map.1 he
   have h3 := h1 (pairOf l x) (List.mem_map.2 ⟨x, hx, rfl⟩)
   have h4 := hi (pairOf l x) (List.mem_map.2 ⟨x, hx, rfl⟩)
   show (if (fiI l x.par).toNat < l.length then u' (fiI l x.par).toNat else 0) < (if (fiI l x.prt).toNat < l.length then u' (fiI l x.prt).toNat else 0)
   have h4a : (fiI l x.par).toNat < l.length := h4.1
   have h4b : (fiI l x.prt).toNat < l.length := h4.2
   rw [if_pos h4a, if_pos h4b]
   exact h3
 · by_cases hlt : (fiI l s).toNat < l.length
   · simp only [if_pos hlt]
     have := h2 _ hlt
     have := hb.1.2
     omega
   · simp only [if_neg hlt]; omega
theorem on_mem {xs : List BL} {day : Int} {ps : List PK} {e : ByteArray × ByteArray × Nat} (he : e ∈ onL xs day ps) : e ∈ xs.map edOf := by
 obtain ⟨x, hx, rfl⟩ := List.mem_map.1 he
 exact List.mem_map.2 ⟨x, (List.mem_filter.1 hx).1, rfl⟩
theorem on_acy {l : List IT} {xs : List BL} (h : BillsOk l xs) (day : Int) (ps : List PK) : Acy (onL xs day ps) := (bills_acy' h).sub (fun _ he => on_mem he)
theorem LinesOk.mem {l : List IT} {xs : List BL} (h : LinesOk l xs) {x : BL} (hx : x ∈ xs) : LineOk l x := by
 obtain ⟨i, hi, rfl⟩ := List.getElem_of_mem hx
 exact h.2.2 i hi hi
/-- An item's code stands in the catalog. -/
theorem LineOk.codes {l : List IT} {x : BL} (h : LineOk l x) : codeAt l (pairOf l x).1 = x.par ∧ codeAt l (pairOf l x).2 = x.prt := ⟨(fi_code h.fi.1).2, (fi_code h.fi.2).2⟩
theorem code_mem {l : List IT} {k : Nat} (hk : k < l.length) : codeAt l k ∈ l.map IT.code := by
 rw [codeAt_get hk]
 exact List.mem_map.2 ⟨_, List.getElem_mem hk, rfl⟩
theorem on_prt {l : List IT} {xs : List BL} (h : LinesOk l xs) {day : Int} {ps : List PK} : ∀ e, e ∈ onL xs day ps → e.2.1 ∈ l.map IT.code := fun e he => by
 obtain ⟨x, hx, rfl⟩ := List.mem_map.1 he
 have h1 := h.mem (List.mem_filter.1 hx).1
 show x.prt ∈ _
 rw [← h1.codes.2]
 exact code_mem h1.inb.2
theorem on_qty {l : List IT} {xs : List BL} (h : LinesOk l xs) {day : Int} {ps : List PK} : ∀ e, e ∈ onL xs day ps → 1 ≤ e.2.2 := fun e he => by
 obtain ⟨x, hx, rfl⟩ := List.mem_map.1 he
 have h1 := h.mem (List.mem_filter.1 hx).1
 have := h1.2.2.2.1
 show 1 ≤ x.qty.toNat
 omega

/-- Numbers up to the largest amount; -1 stands for all others. -/
def capI (n : Nat) : Int := if n ≤ 1000000000 then (n : Int) else -1
theorem capI_yes {n : Nat} (h : n ≤ 1000000000) : capI n = n := if_pos h
theorem capI_no {n : Nat} (h : ¬n ≤ 1000000000) : capI n = -1 := if_neg h
theorem capI_zero {n : Nat} : capI n = 0 ↔ n = 0 := by
 unfold capI
 split
 · omega
 · omega
theorem capI_range (n : Nat) : -1 ≤ capI n ∧ capI n ≤ 1000000000 := by
 unfold capI
 split
 · omega
 · omega
theorem capI_neg {n : Nat} : capI n < 0 ↔ ¬n ≤ 1000000000 := by
 unfold capI
 split
 · omega
 · omega
theorem capI_pos {n : Nat} : 0 < capI n ↔ 0 < n ∧ n ≤ 1000000000 := by
 unfold capI
 split
 · omega
 · omega

/-- A line's part gets what its parent has. -/
noncomputable def stepS (l : List IT) (day : Int) (ps : List PK) (p : Nat) (S : List Nat) (x : BL) : List Nat := if x.par = codeAt l p ∧ onB x day ps = true then S.set (fiI l x.prt).toNat (lv S (fiI l x.prt).toNat + lv S p * x.qty.toNat) else S
theorem stepS_length (l : List IT) (day : Int) (ps : List PK) (p : Nat) (S : List Nat) (x : BL) : (stepS l day ps p S x).length = S.length := by
 unfold stepS; split <;> simp
noncomputable def innS (l : List IT) (day : Int) (ps : List PK) (p : Nat) (xs : List BL) (S : List Nat) : List Nat := xs.foldl (stepS l day ps p) S
theorem innS_length (l : List IT) (day : Int) (ps : List PK) (p : Nat) (xs : List BL) : ∀ S : List Nat, (innS l day ps p xs S).length = S.length := by
 induction xs with
 | nil => intro S; rfl
 | cons x xs ih => intro S; show (innS l day ps p xs (stepS l day ps p S x)).length = _; rw [ih, stepS_length]
theorem innS_take {l : List IT} {day : Int} {ps : List PK} {p : Nat} {xs : List BL} {S : List Nat} {k : Nat} (hk : k < xs.length) : innS l day ps p (xs.take (k + 1)) S = stepS l day ps p (innS l day ps p (xs.take k) S) (xs[k]'hk) := by
 unfold innS
 rw [List.take_succ_eq_append_getElem hk, List.foldl_append]; rfl
/-- What an item's lines add. -/
theorem innS_at {l : List IT} {day : Int} {ps : List PK} {p : Nat} (hc : CatOk l) : ∀ (xs : List BL) (S : List Nat), S.length = l.length → (∀ x, x ∈ xs → LineOk l x) → (∀ x, x ∈ xs → x.par = codeAt l p → x.prt ≠ codeAt l p) →
 ∀ i, i < l.length → lv (innS l day ps p xs S) i = lv S i + ((onL xs day ps).map (fun e => if e.2.1 = codeAt l i ∧ e.1 = codeAt l p then lv S p * e.2.2 else 0)).sum := by
 intro xs
 induction xs with
 | nil => intro S _ _ _ i _; rfl
 | cons x xs ih =>
  intro S hS hok hac i hi
  have h1 := hok x List.mem_cons_self
  have h1c := h1.codes
  have h1i := h1.inb
  have hlen : (stepS l day ps p S x).length = l.length := by rw [stepS_length, hS]
  have h2 := ih (stepS l day ps p S x) hlen (fun y hy => hok y (List.mem_cons_of_mem _ hy)) (fun y hy => hac y (List.mem_cons_of_mem _ hy)) i hi
  show lv (innS l day ps p xs (stepS l day ps p S x)) i = _
  rw [h2]
  have hp2 : lv (stepS l day ps p S x) p = lv S p := by
   unfold stepS
   split
   · rename_i hxp
     rw [lv_set (by rw [hS]; exact h1i.2), if_neg]
     intro e
     exact hac x List.mem_cons_self hxp.1 (by rw [e]; exact h1c.2.symm)
   · rfl
  rw [hp2]
  have e3 : onL (x :: xs) day ps = (if onB x day ps = true then [edOf x] else []) ++ onL xs day ps := by
   unfold onL onX
   by_cases hx : onB x day ps = true
   · rw [List.filter_cons_of_pos (by simpa using hx), if_pos hx]; rfl
   · rw [List.filter_cons_of_neg (by simpa using hx), if_neg hx]; rfl
  rw [e3, List.map_append, List.sum_append, ← Nat.add_assoc]
  congr 1
  unfold stepS
  by_cases hx : onB x day ps = true
  · rw [if_pos hx]
    by_cases hxp : x.par = codeAt l p
    · rw [if_pos ⟨hxp, hx⟩, lv_set (by rw [hS]; exact h1i.2)]
      by_cases e : i = (fiI l x.prt).toNat
      · rw [if_pos e]
        have e4 : x.prt = codeAt l i := by rw [e]; exact h1c.2.symm
        simp [edOf, e4, hxp]
        rw [← e4, ← e]
      · rw [if_neg e]
        have e4 : x.prt ≠ codeAt l i := fun h => e (by
         have := cat_fi hc hi
         rw [← h] at this
         omega)
        simp [edOf, e4]
    · rw [if_neg (fun h => hxp h.1)]
      simp [edOf, hxp]
  · rw [if_neg hx, if_neg (fun h => hx h.2)]; rfl
/-- An item is gone through. -/
noncomputable def outS (l : List IT) (xs : List BL) (day : Int) (ps : List PK) (at_ : Nat) (ph : Bool) (S : List Nat) (p : Nat) : List Nat :=
 if ph = true ∧ p ≠ at_ ∧ kindAt l p ≠ 2 then S else
  if ph = true ∧ p ≠ at_ ∧ 0 < capI (lv (innS l day ps p xs S) p) then (innS l day ps p xs S).set p 0 else innS l day ps p xs S
theorem outS_length (l : List IT) (xs : List BL) (day : Int) (ps : List PK) (at_ : Nat) (ph : Bool) (S : List Nat) (p : Nat) : (outS l xs day ps at_ ph S p).length = S.length := by
 unfold outS
 split
 · rfl
 · split
   · rw [List.length_set, innS_length]
   · rw [innS_length]
/-- What is between. -/
def betw (l : List IT) (ph : Bool) (s : ByteArray) : Bool := !ph || isPh l s
/-- How many pieces of an item there are on the way. -/
noncomputable def pcs (l : List IT) (xs : List BL) (day : Int) (ps : List PK) (at_ : Nat) (ph : Bool) (q : Nat) (b : ByteArray) : Nat := q * wy (thru (onL xs day ps) (codeAt l at_) (betw l ph)) (codeAt l at_) b
theorem isPh_at {l : List IT} (h : CatOk l) {k : Nat} (hk : k < l.length) : isPh l (codeAt l k) = decide (kindAt l k = 2) := by
 unfold isPh; rw [cat_fi h hk]; rfl
/-- An order in which parents come first. -/
def Ord (n : Nat) (vs O : List Nat) : Prop := O.Nodup ∧ (∀ i, i ∈ O ↔ i < n) ∧ ∀ i j (hi : i < O.length) (hj : j < O.length), i < j → lv vs (O[i]'hi) ≤ lv vs (O[j]'hj)
/-- What stands there when the items D have been gone through. -/
def DnI (l : List IT) (xs : List BL) (day : Int) (ps : List PK) (at_ : Nat) (ph : Bool) (q : Nat) (D : List Nat) (S : List Nat) : Prop :=
 S.length = l.length ∧ ∀ i, i < l.length → lv S i = if ph = true ∧ i ∈ D ∧ i ≠ at_ ∧ kindAt l i = 2 ∧ pcs l xs day ps at_ ph q (codeAt l i) ≤ 1000000000 then 0 else
  (if i = at_ then q else 0) + ((thru (onL xs day ps) (codeAt l at_) (betw l ph)).map (fun e => if e.2.1 = codeAt l i ∧ e.1 ∈ D.map (codeAt l) then pcs l xs day ps at_ ph q e.1 * e.2.2 else 0)).sum
theorem pcs_at {l : List IT} {xs : List BL} {day : Int} {ps : List PK} {at_ : Nat} {ph : Bool} {q : Nat} (h : BillsOk l xs) (ha : at_ < l.length) {i : Nat} (hi : i < l.length) :
 pcs l xs day ps at_ ph q (codeAt l i) = (if i = at_ then q else 0) + ((thru (onL xs day ps) (codeAt l at_) (betw l ph)).map (fun e => if e.2.1 = codeAt l i then pcs l xs day ps at_ ph q e.1 * e.2.2 else 0)).sum := by
 have hT : Acy (thru (onL xs day ps) (codeAt l at_) (betw l ph)) := thru_acy (on_acy h day ps) _ _
 have e1 : ((thru (onL xs day ps) (codeAt l at_) (betw l ph)).map (fun e => if e.2.1 = codeAt l i then pcs l xs day ps at_ ph q e.1 * e.2.2 else 0)).sum = q * ((thru (onL xs day ps) (codeAt l at_) (betw l ph)).map (fun e => if e.2.1 = codeAt l i then wy (thru (onL xs day ps) (codeAt l at_) (betw l ph)) (codeAt l at_) e.1 * e.2.2 else 0)).sum := by
  rw [← sm_mul']
  refine sm_congr (fun e _ => ?_)
  by_cases h1 : e.2.1 = codeAt l i
  · rw [if_pos h1, if_pos h1]; unfold pcs; rw [Nat.mul_assoc]
  · rw [if_neg h1, if_neg h1]; rfl
 rw [e1]
 unfold pcs
 rw [wy_down0 hT, Nat.mul_add]
 congr 1
 by_cases e : i = at_
 · subst e; simp
 · rw [if_neg e, if_neg (fun h2 => e (cat_inj h.1.1 hi ha h2.symm))]; rfl
theorem DnI.start {l : List IT} {xs : List BL} {day : Int} {ps : List PK} {at_ : Nat} {ph : Bool} {q : Nat} (ha : at_ < l.length) : DnI l xs day ps at_ ph q [] ((List.replicate l.length 0).set at_ q) := by
 refine ⟨by simp, fun i hi => ?_⟩
 rw [lv_set (by simpa using ha), lv_zeros]
 simp only [List.not_mem_nil, false_and, and_false, List.map_nil, if_false]
 rw [sm_zero (fun _ _ => rfl)]; rfl
/-- The next item. -/
theorem DnI.next {l : List IT} {xs : List BL} {day : Int} {ps : List PK} {at_ : Nat} {ph : Bool} {q : Nat} {vs D S : List Nat} {p : Nat} (h : BillsOk l xs) (hv : LevOk l.length (pairs l xs) vs) (ha : at_ < l.length) (hp : p < l.length)
 (hn : p ∉ D) (hD : ∀ d, d ∈ D → d < l.length ∧ lv vs d ≤ lv vs p) (hup : ∀ i, i < l.length → lv vs i < lv vs p → i ∈ D) (hS : DnI l xs day ps at_ ph q D S) :
 lv S p = pcs l xs day ps at_ ph q (codeAt l p) ∧ DnI l xs day ps at_ ph q (D ++ [p]) (outS l xs day ps at_ ph S p) := by
 have hb := h.1
 have hlv := (bills_lvl hb hv).1
 have hT : ∀ e, e ∈ thru (onL xs day ps) (codeAt l at_) (betw l ph) → ∃ x, x ∈ xs ∧ e = edOf x ∧ LineOk l x ∧ lv vs (fiI l x.par).toNat < lv vs (fiI l x.prt).toNat := fun e he => by
  obtain ⟨x, hx, rfl⟩ := List.mem_map.1 (on_mem (List.mem_filter.1 he).1)
  exact ⟨x, hx, rfl, hb.mem hx, hlv _ (List.mem_map.2 ⟨x, hx, rfl⟩)⟩
 have hcode : ∀ {i : Nat} {s : ByteArray}, i < l.length → s = codeAt l i → (fiI l s).toNat = i := fun {i s} hi e => by
  rw [e, cat_fi hb.1 hi]; rfl
 have hpS : lv S p = pcs l xs day ps at_ ph q (codeAt l p) := by
  rw [hS.2 p hp, if_neg (fun h2 => hn h2.2.1), pcs_at h ha hp]
  congr 1
  refine sm_congr (fun e he => ?_)
  obtain ⟨x, hx, rfl, hxo, hxl⟩ := hT e he
  by_cases h1 : x.prt = codeAt l p
  · have h2 : (fiI l x.prt).toNat = p := hcode hp h1
    have h3 : x.par ∈ D.map (codeAt l) := List.mem_map.2 ⟨(fiI l x.par).toNat, hup _ hxo.inb.1 (by rw [h2] at hxl; exact hxl), hxo.codes.1⟩
    simp only [edOf, h1, h3, and_self, if_true]
  · simp only [edOf, h1, false_and, if_false]
 refine ⟨hpS, ?_⟩
 have hmem : ∀ {e : ByteArray × ByteArray × Nat}, e ∈ thru (onL xs day ps) (codeAt l at_) (betw l ph) → (e.1 ∈ (D ++ [p]).map (codeAt l) ↔ e.1 ∈ D.map (codeAt l) ∨ e.1 = codeAt l p) := fun {e} _ => by
  rw [List.map_append, List.mem_append]; simp
 have hpD : codeAt l p ∉ D.map (codeAt l) := fun h2 => by
  obtain ⟨d, hd, he⟩ := List.mem_map.1 h2
  exact hn (cat_inj hb.1 (hD d hd).1 hp he ▸ hd)
 -- what p adds
 have hadd : ∀ i, ((thru (onL xs day ps) (codeAt l at_) (betw l ph)).map (fun e => if e.2.1 = codeAt l i ∧ e.1 ∈ (D ++ [p]).map (codeAt l) then pcs l xs day ps at_ ph q e.1 * e.2.2 else 0)).sum =
  ((thru (onL xs day ps) (codeAt l at_) (betw l ph)).map (fun e => if e.2.1 = codeAt l i ∧ e.1 ∈ D.map (codeAt l) then pcs l xs day ps at_ ph q e.1 * e.2.2 else 0)).sum + ((thru (onL xs day ps) (codeAt l at_) (betw l ph)).map (fun e => if e.2.1 = codeAt l i ∧ e.1 = codeAt l p then pcs l xs day ps at_ ph q (codeAt l p) * e.2.2 else 0)).sum := fun i => by
  rw [← sm_add]
  refine sm_congr (fun e he => ?_)
  by_cases h1 : e.2.1 = codeAt l i
  · by_cases h2 : e.1 = codeAt l p
    · have h3 : e.1 ∉ D.map (codeAt l) := by rw [h2]; exact hpD
      rw [if_pos ⟨h1, (hmem he).2 (Or.inr h2)⟩, if_neg (fun h => h3 h.2), if_pos ⟨h1, h2⟩, h2, Nat.zero_add]
    · by_cases h3 : e.1 ∈ D.map (codeAt l)
      · rw [if_pos ⟨h1, (hmem he).2 (Or.inl h3)⟩, if_pos ⟨h1, h3⟩, if_neg (fun h => h2 h.2), Nat.add_zero]
      · rw [if_neg (fun h => ((hmem he).1 h.2).elim h3 h2), if_neg (fun h => h3 h.2), if_neg (fun h => h2 h.2)]
  · rw [if_neg (fun h => h1 h.1), if_neg (fun h => h1 h.1), if_neg (fun h => h1 h.1)]
 by_cases hskip : ph = true ∧ p ≠ at_ ∧ kindAt l p ≠ 2
 · have hz : ∀ i, ((thru (onL xs day ps) (codeAt l at_) (betw l ph)).map (fun e => if e.2.1 = codeAt l i ∧ e.1 = codeAt l p then pcs l xs day ps at_ ph q (codeAt l p) * e.2.2 else 0)).sum = 0 := fun i => sm_zero (fun e he => by
    rw [if_neg]
    intro h2
    have h3 := (List.mem_filter.1 he).2
    rw [h2.2] at h3
    have h4 : codeAt l p ≠ codeAt l at_ := fun h5 => hskip.2.1 (cat_inj hb.1 hp ha h5)
    unfold betw at h3
    rw [isPh_at hb.1 hp] at h3
    simp [h4, hskip.1, hskip.2.2] at h3)
   unfold outS
   rw [if_pos hskip]
   refine ⟨hS.1, fun i hi => ?_⟩
   rw [hS.2 i hi, hadd i, hz i, Nat.add_zero]
   by_cases e : i = p
   · subst e
     have f1 : ¬(ph = true ∧ i ∈ D ∧ i ≠ at_ ∧ kindAt l i = 2 ∧ pcs l xs day ps at_ ph q (codeAt l i) ≤ 1000000000) := fun h2 => hn h2.2.1
     have f2 : ¬(ph = true ∧ i ∈ D ++ [i] ∧ i ≠ at_ ∧ kindAt l i = 2 ∧ pcs l xs day ps at_ ph q (codeAt l i) ≤ 1000000000) := fun h2 => hskip.2.2 h2.2.2.2.1
     rw [if_neg f1, if_neg f2]
   · have : i ∈ D ++ [p] ↔ i ∈ D := by simp [e]
     simp only [this]
 · have hT2 : ∀ i, ((onL xs day ps).map (fun e => if e.2.1 = codeAt l i ∧ e.1 = codeAt l p then lv S p * e.2.2 else 0)).sum = ((thru (onL xs day ps) (codeAt l at_) (betw l ph)).map (fun e => if e.2.1 = codeAt l i ∧ e.1 = codeAt l p then pcs l xs day ps at_ ph q (codeAt l p) * e.2.2 else 0)).sum := fun i => by
    rw [thru_sum, hpS]
    refine sm_congr (fun e he => ?_)
    by_cases h2 : e.1 = codeAt l p
    · have h3 : e.1 = codeAt l at_ ∨ betw l ph e.1 = true := by
       rw [h2]
       unfold betw
       rw [isPh_at hb.1 hp]
       by_cases h4 : p = at_
       · exact Or.inl (by rw [h4])
       · right
         by_cases h5 : ph = true
         · have h6 : kindAt l p = 2 := Classical.byContradiction (fun h7 => hskip ⟨h5, h4, h7⟩)
           simp [h6]
         · simp [h5]
      rw [if_pos h3]
    · simp only [h2, and_false, if_false, ite_self]
   have hin := innS_at (day := day) (ps := ps) (p := p) hb.1 xs S hS.1 (fun x hx => hb.mem hx) (fun x hx e e2 => by
    have h2 : lv vs (fiI l x.par).toNat < lv vs (fiI l x.prt).toNat := hlv _ (List.mem_map.2 ⟨x, hx, rfl⟩)
    rw [e, e2] at h2
    omega)
   -- nothing flows to p itself, nor to what has been gone through
   have hback : ∀ i, i ∈ D ++ [p] → ((thru (onL xs day ps) (codeAt l at_) (betw l ph)).map (fun e => if e.2.1 = codeAt l i ∧ e.1 = codeAt l p then pcs l xs day ps at_ ph q (codeAt l p) * e.2.2 else 0)).sum = 0 := fun i hi => sm_zero (fun e he => by
    rw [if_neg]
    intro h2
    obtain ⟨x, hx, rfl, hxo, hxl⟩ := hT e he
    have hi2 : i < l.length ∧ lv vs i ≤ lv vs p := by
     rcases List.mem_append.1 hi with hi | hi
     · exact hD i hi
     · have := List.mem_singleton.1 hi; subst this; exact ⟨hp, Nat.le_refl _⟩
    have h3 : (fiI l x.prt).toNat = i := hcode hi2.1 h2.1
    have h4 : (fiI l x.par).toNat = p := hcode hp h2.2
    rw [h3, h4] at hxl
    omega)
   have hinp : lv (innS l day ps p xs S) p = pcs l xs day ps at_ ph q (codeAt l p) := by
    rw [hin p hp, hT2 p, hback p (by simp), Nat.add_zero, hpS]
   have hlen : (innS l day ps p xs S).length = l.length := by rw [innS_length, hS.1]
   have hval : ∀ i, i < l.length → i ≠ p → lv (innS l day ps p xs S) i = if ph = true ∧ i ∈ D ++ [p] ∧ i ≠ at_ ∧ kindAt l i = 2 ∧ pcs l xs day ps at_ ph q (codeAt l i) ≤ 1000000000 then 0 else
    (if i = at_ then q else 0) + ((thru (onL xs day ps) (codeAt l at_) (betw l ph)).map (fun e => if e.2.1 = codeAt l i ∧ e.1 ∈ (D ++ [p]).map (codeAt l) then pcs l xs day ps at_ ph q e.1 * e.2.2 else 0)).sum := fun i hi hne => by
    have hiD : i ∈ D ++ [p] ↔ i ∈ D := by simp [hne]
    rw [hin i hi, hT2 i, hS.2 i hi, hadd i]
    by_cases hc : ph = true ∧ i ∈ D ∧ i ≠ at_ ∧ kindAt l i = 2 ∧ pcs l xs day ps at_ ph q (codeAt l i) ≤ 1000000000
    · rw [if_pos hc, hback i (hiD.2 hc.2.1), if_pos ⟨hc.1, hiD.2 hc.2.1, hc.2.2⟩]
    · have f2 : ¬(ph = true ∧ i ∈ D ++ [p] ∧ i ≠ at_ ∧ kindAt l i = 2 ∧ pcs l xs day ps at_ ph q (codeAt l i) ≤ 1000000000) := fun h2 => hc ⟨h2.1, hiD.1 h2.2.1, h2.2.2⟩
      rw [if_neg hc, if_neg f2, Nat.add_assoc]
   have hfull : (if p = at_ then q else 0) + ((thru (onL xs day ps) (codeAt l at_) (betw l ph)).map (fun e => if e.2.1 = codeAt l p ∧ e.1 ∈ (D ++ [p]).map (codeAt l) then pcs l xs day ps at_ ph q e.1 * e.2.2 else 0)).sum = pcs l xs day ps at_ ph q (codeAt l p) := by
    rw [hadd p, hback p (by simp), Nat.add_zero]
    have h2 := hS.2 p hp
    rw [if_neg (fun h2 => hn h2.2.1)] at h2
    rw [← h2, hpS]
   unfold outS
   rw [if_neg hskip]
   by_cases hz : ph = true ∧ p ≠ at_ ∧ 0 < capI (lv (innS l day ps p xs S) p)
   · rw [if_pos hz]
     have hk2 : kindAt l p = 2 := Classical.byContradiction (fun h7 => hskip ⟨hz.1, hz.2.1, h7⟩)
     have hcap := capI_pos.1 hz.2.2
     rw [hinp] at hcap
     refine ⟨by rw [List.length_set]; exact hlen, fun i hi => ?_⟩
     rw [lv_set (by rw [hlen]; exact hp)]
     by_cases e : i = p
     · subst e
       rw [if_pos rfl, if_pos ⟨hz.1, by simp, hz.2.1, hk2, hcap.2⟩]
     · rw [if_neg e]; exact hval i hi e
   · rw [if_neg hz]
     refine ⟨hlen, fun i hi => ?_⟩
     by_cases e : i = p
     · subst e
       by_cases hc : ph = true ∧ i ∈ D ++ [i] ∧ i ≠ at_ ∧ kindAt l i = 2 ∧ pcs l xs day ps at_ ph q (codeAt l i) ≤ 1000000000
       · rw [if_pos hc, hinp]
         have : ¬0 < capI (pcs l xs day ps at_ ph q (codeAt l i)) := fun h2 => hz ⟨hc.1, hc.2.2.1, by rw [hinp]; exact h2⟩
         rw [capI_pos] at this
         have := hc.2.2.2.2
         omega
       · rw [if_neg hc, hinp, hfull]
     · exact hval i hi e
/-- What stands there in the end. -/
theorem DnI.done {l : List IT} {xs : List BL} {day : Int} {ps : List PK} {at_ : Nat} {ph : Bool} {q : Nat} {D S : List Nat} (h : BillsOk l xs) (ha : at_ < l.length) (hD : ∀ i, i < l.length → i ∈ D) (hS : DnI l xs day ps at_ ph q D S) {i : Nat} (hi : i < l.length) :
 lv S i = if ph = true ∧ i ≠ at_ ∧ kindAt l i = 2 ∧ pcs l xs day ps at_ ph q (codeAt l i) ≤ 1000000000 then 0 else pcs l xs day ps at_ ph q (codeAt l i) := by
 rw [hS.2 i hi, pcs_at h ha hi]
 have h1 : ((thru (onL xs day ps) (codeAt l at_) (betw l ph)).map (fun e => if e.2.1 = codeAt l i ∧ e.1 ∈ D.map (codeAt l) then pcs l xs day ps at_ ph q e.1 * e.2.2 else 0)).sum = ((thru (onL xs day ps) (codeAt l at_) (betw l ph)).map (fun e => if e.2.1 = codeAt l i then pcs l xs day ps at_ ph q e.1 * e.2.2 else 0)).sum := by
  refine sm_congr (fun e he => ?_)
  obtain ⟨x, hx, rfl⟩ := List.mem_map.1 (on_mem (List.mem_filter.1 he).1)
  have hxo := h.1.mem hx
  have : (edOf x).1 ∈ D.map (codeAt l) := List.mem_map.2 ⟨_, hD _ hxo.inb.1, hxo.codes.1⟩
  simp only [this, and_true]
 rw [h1]
 simp only [hD i hi, true_and]
end Go.Proofs.YtmnncinpepeocaaGreat

namespace Go.Proofs.YtmnncinpepeocaaGreat
open Go.RowKit

/-- The items of the levels below v. -/
def ordL (vs : List Nat) (n : Nat) : Nat → List Nat
 | 0 => []
 | v + 1 => ordL vs n v ++ (List.range n).filter (fun j => decide (lv vs j = v))
/-- .. and of the first i those of level v. -/
def ordP (vs : List Nat) (n v i : Nat) : List Nat := ordL vs n v ++ (List.range i).filter (fun j => decide (lv vs j = v))
theorem ordP_zero (vs : List Nat) (n v : Nat) : ordP vs n v 0 = ordL vs n v := by unfold ordP; simp
theorem ordP_all (vs : List Nat) (n v : Nat) : ordP vs n v n = ordL vs n (v + 1) := rfl
theorem ordP_yes {vs : List Nat} {n v i : Nat} (h : lv vs i = v) : ordP vs n v (i + 1) = ordP vs n v i ++ [i] := by
 unfold ordP
 rw [List.range_succ, List.filter_append, ← List.append_assoc]
 simp [h]
theorem ordP_no {vs : List Nat} {n v i : Nat} (h : ¬lv vs i = v) : ordP vs n v (i + 1) = ordP vs n v i := by
 unfold ordP
 rw [List.range_succ, List.filter_append]
 simp [h]
theorem ordL_mem (vs : List Nat) (n : Nat) : ∀ (v j : Nat), j ∈ ordL vs n v ↔ j < n ∧ lv vs j < v
 | 0, j => by simp [ordL]
 | v + 1, j => by
  rw [ordL, List.mem_append, ordL_mem vs n v j, List.mem_filter, List.mem_range, decide_eq_true_iff]
  omega
theorem ordL_sorted (vs : List Nat) (n : Nat) : ∀ v, (ordL vs n v).Pairwise (fun a b => lv vs a ≤ lv vs b)
 | 0 => List.Pairwise.nil
 | v + 1 => by
  rw [ordL, List.pairwise_append]
  refine ⟨ordL_sorted vs n v, ?_, fun a ha b hb => ?_⟩
  · refine List.Pairwise.imp_of_mem (R := fun _ _ => True) (fun {a b} ha hb _ => ?_) (List.pairwise_of_forall (fun _ _ => trivial))
    have h1 := (List.mem_filter.1 ha).2
    have h2 := (List.mem_filter.1 hb).2
    rw [decide_eq_true_iff] at h1 h2
    omega
  · have h1 := (ordL_mem vs n v a).1 ha
    have h2 := (List.mem_filter.1 hb).2
    rw [decide_eq_true_iff] at h2
    omega
theorem ordL_nodup (vs : List Nat) (n : Nat) : ∀ v, (ordL vs n v).Nodup
 | 0 => List.nodup_nil
 | v + 1 => by
  rw [ordL, List.nodup_append]
  refine ⟨ordL_nodup vs n v, List.Pairwise.filter _ List.nodup_range, fun a ha b hb e => ?_⟩
  subst e
  have h1 := (ordL_mem vs n v a).1 ha
  have h2 := (List.mem_filter.1 hb).2
  rw [decide_eq_true_iff] at h2
  omega
theorem ordL_len (vs : List Nat) (n : Nat) : ∀ v, (ordL vs n v).length ≤ v * n
 | 0 => by simp [ordL]
 | v + 1 => by
  have h1 := ordL_len vs n v
  have h2 := List.length_filter_le (fun j => decide (lv vs j = v)) (List.range n)
  rw [ordL, List.length_append, Nat.add_mul]
  rw [List.length_range] at h2
  omega
theorem ordP_len (vs : List Nat) {n v i : Nat} (hv : v ≤ n) (hi : i ≤ n) (hn : n ≤ 12) : (ordP vs n v i).length ≤ 156 := by
 have h1 := ordL_len vs n v
 have h2 := List.length_filter_le (fun j => decide (lv vs j = v)) (List.range i)
 have h3 : v * n ≤ 12 * 12 := Nat.mul_le_mul (by omega) hn
 unfold ordP
 rw [List.length_append]
 rw [List.length_range] at h2
 omega
/-- Parents come first. -/
theorem ord_all {vs : List Nat} {n : Nat} (h : ∀ j, j < n → lv vs j < n) : Ord n vs (ordL vs n n) := by
 refine ⟨ordL_nodup _ _ _, fun i => ?_, fun i j hi hj hij => ?_⟩
 · rw [ordL_mem]
   exact ⟨fun h1 => h1.1, fun h1 => ⟨h1, h i h1⟩⟩
 · exact (List.pairwise_iff_getElem.1 (ordL_sorted vs n n)) i j hi hj hij
/-- What an order gives at its place k. -/
theorem Ord.at {n : Nat} {vs O : List Nat} (h : Ord n vs O) {k : Nat} (hk : k < O.length) : (O[k]'hk) < n ∧ O[k]'hk ∉ O.take k ∧ (∀ d, d ∈ O.take k → d < n ∧ lv vs d ≤ lv vs (O[k]'hk)) ∧ (∀ i, i < n → lv vs i < lv vs (O[k]'hk) → i ∈ O.take k) := by
 obtain ⟨h1, h2, h3⟩ := h
 refine ⟨(h2 _).1 (List.getElem_mem hk), fun hm => ?_, fun d hd => ?_, fun i hi hl => ?_⟩
 · obtain ⟨j, hj, e⟩ := List.getElem_of_mem hm
   rw [List.length_take] at hj
   rw [List.getElem_take] at e
   have := (List.nodup_iff_pairwise_ne.1 h1)
   have h4 := (List.pairwise_iff_getElem.1 this) j k (by omega) hk (by omega)
   exact h4 e
 · obtain ⟨j, hj, e⟩ := List.getElem_of_mem hd
   rw [List.length_take] at hj
   rw [List.getElem_take] at e
   subst e
   exact ⟨(h2 _).1 (List.getElem_mem _), h3 j k (by omega) hk (by omega)⟩
 · obtain ⟨j, hj, e⟩ := List.getElem_of_mem ((h2 i).2 hi)
   have hjk : j < k := by
    apply Classical.byContradiction
    intro hn
    have h4 : lv vs (O[k]'hk) ≤ lv vs (O[j]'hj) := by
     by_cases e2 : j = k
     · subst e2; exact Nat.le_refl _
     · exact h3 k j hk hj (by omega)
    rw [e] at h4
    omega
   rw [← e]
   exact List.mem_take_iff_getElem.2 ⟨j, by omega, rfl⟩
end Go.Proofs.YtmnncinpepeocaaGreat

namespace Go.Proofs.YtmnncinpepeocaaGreat
open Go.RowKit

/-- Numbers as cells; -1 stands for too large a one. -/
def cellsCap (S : List Nat) : List Value := S.map (fun n => Value.int .i64 (capI n))
theorem cellsCap_length (S : List Nat) : (cellsCap S).length = S.length := by simp [cellsCap]
theorem cellsCap_get {S : List Nat} {i : Nat} (h : i < S.length) : (cellsCap S)[i]? = some (.int .i64 (capI (lv S i))) := by
 unfold cellsCap
 rw [List.getElem?_map, List.getElem?_eq_getElem h, lv_get h]; rfl
theorem cellsCap_set (S : List Nat) (b x : Nat) : (cellsCap S).set b (.int .i64 (capI x)) = cellsCap (S.set b x) := by unfold cellsCap; rw [List.map_set]
theorem cellsCap_zeros (n : Nat) : List.replicate n (Value.int .i64 0) = cellsCap (List.replicate n 0) := by
 unfold cellsCap
 rw [List.map_replicate]
 rfl
/-- The items gone through so far. -/
noncomputable def dnF (l : List IT) (xs : List BL) (day : Int) (ps : List PK) (ia : Nat) (ph : Bool) (q : Nat) (O : List Nat) (k : Nat) : List Nat := (O.take k).foldl (outS l xs day ps ia ph) ((List.replicate l.length 0).set ia q)
theorem dnF_zero (l : List IT) (xs : List BL) (day : Int) (ps : List PK) (ia : Nat) (ph : Bool) (q : Nat) (O : List Nat) : dnF l xs day ps ia ph q O 0 = (List.replicate l.length 0).set ia q := rfl
theorem dnF_succ {l : List IT} {xs : List BL} {day : Int} {ps : List PK} {ia : Nat} {ph : Bool} {q : Nat} {O : List Nat} {k : Nat} (hk : k < O.length) : dnF l xs day ps ia ph q O (k + 1) = outS l xs day ps ia ph (dnF l xs day ps ia ph q O k) (O[k]'hk) := by
 unfold dnF
 rw [List.take_succ_eq_append_getElem hk, List.foldl_append]; rfl
theorem dnF_length (l : List IT) (xs : List BL) (day : Int) (ps : List PK) (ia : Nat) (ph : Bool) (q : Nat) (O : List Nat) : ∀ k, k ≤ O.length → (dnF l xs day ps ia ph q O k).length = l.length
 | 0, _ => by rw [dnF_zero]; simp
 | k + 1, h => by rw [dnF_succ (show k < O.length from h), outS_length, dnF_length l xs day ps ia ph q O k (by omega)]
theorem dn_inv {l : List IT} {xs : List BL} {day : Int} {ps : List PK} {ia : Nat} {ph : Bool} {q : Nat} {vs O : List Nat} (h : BillsOk l xs) (hv : LevOk l.length (pairs l xs) vs) (ho : Ord l.length vs O) (ha : ia < l.length) :
 ∀ k, k ≤ O.length → DnI l xs day ps ia ph q (O.take k) (dnF l xs day ps ia ph q O k)
 | 0, _ => DnI.start ha
 | k + 1, hk => by
  have hk2 : k < O.length := hk
  obtain ⟨h1, h2, h3, h4⟩ := ho.at hk2
  rw [dnF_succ hk2, List.take_succ_eq_append_getElem hk2]
  exact (DnI.next h hv ha h1 h2 h3 h4 (dn_inv h hv ho ha k (by omega))).2
/-- What is left for each item in the end. -/
noncomputable def dnV (l : List IT) (xs : List BL) (day : Int) (ps : List PK) (ia : Nat) (ph : Bool) (q i : Nat) : Nat :=
 if i = ia then 0 else if ph = true ∧ kindAt l i = 2 ∧ pcs l xs day ps ia ph q (codeAt l i) ≤ 1000000000 then 0 else pcs l xs day ps ia ph q (codeAt l i)
theorem dn_done {l : List IT} {xs : List BL} {day : Int} {ps : List PK} {ia : Nat} {ph : Bool} {q : Nat} {vs O : List Nat} (h : BillsOk l xs) (hv : LevOk l.length (pairs l xs) vs) (ho : Ord l.length vs O) (ha : ia < l.length) {i : Nat} (hi : i < l.length) :
 lv ((dnF l xs day ps ia ph q O O.length).set ia 0) i = dnV l xs day ps ia ph q i := by
 have hD := dn_inv (day := day) (ps := ps) (ph := ph) (q := q) h hv ho ha O.length (Nat.le_refl _)
 rw [List.take_length] at hD
 rw [lv_set (by rw [hD.1]; exact ha)]
 unfold dnV
 by_cases e : i = ia
 · rw [if_pos e, if_pos e]
 · rw [if_neg e, if_neg e, hD.done h ha (fun j hj => (ho.2.1 j).2 hj) hi]
   simp only [ne_eq, e, not_false_eq_true, true_and]
theorem stepS_skip {l : List IT} {day : Int} {ps : List PK} {p : Nat} {S : List Nat} {x : BL} (h : ¬(x.par = codeAt l p ∧ onB x day ps = true ∧ lv S p ≠ 0)) : stepS l day ps p S x = S := by
 unfold stepS
 by_cases h1 : x.par = codeAt l p ∧ onB x day ps = true
 · rw [if_pos h1]
   have h2 : lv S p = 0 := Classical.byContradiction (fun h2 => h ⟨h1.1, h1.2, h2⟩)
   rw [h2, Nat.zero_mul, Nat.add_zero]
   by_cases hb : (fiI l x.prt).toNat < S.length
   · rw [lv_get hb]; exact List.set_getElem_self hb
   · exact List.set_eq_of_length_le (by omega)
 · rw [if_neg h1]
theorem stepS_add {l : List IT} {day : Int} {ps : List PK} {p : Nat} {S : List Nat} {x : BL} (h : x.par = codeAt l p ∧ onB x day ps = true ∧ lv S p ≠ 0) : stepS l day ps p S x = S.set (fiI l x.prt).toNat (lv S (fiI l x.prt).toNat + lv S p * x.qty.toNat) := by
 unfold stepS
 rw [if_pos ⟨h.1, h.2.1⟩]
/-- What is not 0, as needs. -/
def nzL (l : List IT) (U : Nat → Nat) (k : Nat) : List NE := ((List.range k).filter (fun i => decide (0 < U i))).map (fun i => ⟨codeAt l i, (U i : Nat)⟩)
theorem nzL_yes {l : List IT} {U : Nat → Nat} {k : Nat} (h : 0 < U k) : nzL l U (k + 1) = nzL l U k ++ [⟨codeAt l k, (U k : Nat)⟩] := by
 unfold nzL
 rw [List.range_succ, List.filter_append, List.map_append]
 simp [h]
theorem nzL_no {l : List IT} {U : Nat → Nat} {k : Nat} (h : ¬0 < U k) : nzL l U (k + 1) = nzL l U k := by
 unfold nzL
 rw [List.range_succ, List.filter_append, List.map_append]
 simp [h]
theorem nzL_le (l : List IT) (U : Nat → Nat) (k : Nat) : (nzL l U k).length ≤ k := by
 unfold nzL
 rw [List.length_map]
 have := List.length_filter_le (fun i => decide (0 < U i)) (List.range k)
 rwa [List.length_range] at this
theorem nzL_congr {l : List IT} {U U' : Nat → Nat} {k : Nat} (h : ∀ i, i < k → U i = U' i) : nzL l U k = nzL l U' k := by
 induction k with
 | zero => rfl
 | succ k ih =>
  have h1 := ih (fun i hi => h i (by omega))
  have h2 := h k (by omega)
  by_cases h3 : 0 < U k
  · rw [nzL_yes h3, nzL_yes (by rw [← h2]; exact h3), h1, h2]
  · rw [nzL_no h3, nzL_no (by rw [← h2]; exact h3), h1]
end Go.Proofs.YtmnncinpepeocaaGreat

namespace Go.Proofs.YtmnncinpepeocaaGreat
open Go.RowKit

/-- What is needed of the items but one. -/
def needL (l : List IT) (c : ByteArray) (V : ByteArray → Nat) : List NE := (l.filter (fun r => decide (0 < V r.code ∧ r.code ≠ c))).map (fun r => ⟨r.code, (V r.code : Nat)⟩)
theorem needL_succ {l : List IT} {c : ByteArray} {V : ByteArray → Nat} {k : Nat} (hk : k < l.length) : needL (l.take (k + 1)) c V = needL (l.take k) c V ++ (if 0 < V (l[k]'hk).code ∧ (l[k]'hk).code ≠ c then [⟨(l[k]'hk).code, (V (l[k]'hk).code : Nat)⟩] else []) := by
 unfold needL
 rw [filter_take_succ hk, List.map_append]
 congr 1
 by_cases h : 0 < V (l[k]'hk).code ∧ (l[k]'hk).code ≠ c
 · simp [h]
 · simp [h]
theorem needL_le (l : List IT) (c : ByteArray) (V : ByteArray → Nat) : (needL l c V).length ≤ l.length := by
 unfold needL
 rw [List.length_map]
 exact List.length_filter_le _ _
/-- No number is too large. -/
def FitL (l : List IT) (V : ByteArray → Nat) : Prop := ∀ k (hk : k < l.length), V (l[k]'hk).code ≤ 1000000000
theorem NE.cells_snoc (xs : List NE) (x : NE) : NE.cells (xs ++ [x]) = NE.cells xs ++ [.string x.code, .int .i64 x.qty] := (NE.cells_push xs x).symm
end Go.Proofs.YtmnncinpepeocaaGreat

namespace Go.Proofs.YtmnncinpepeocaaGreat
open Go.RowKit Go.WideMaps Go.Maps

/-- How the elements of a map read. -/
structure MEl (E : Type) where
 val : E → Value
 d : E → DataW Unit
 R : Value → Option (DataW Unit × List MemPlace)
 rd : ∀ e, R (val e) = some (d e, [])
 inv : ∀ (v : Value) (e : E) (ps : List MemPlace), R v = some (d e, ps) → v = val e
 z : E
def rInt : Value → Option (DataW Unit × List MemPlace)
 | .int .i64 i => some (.lit (.int .i64 i), [])
 | _ => none
def mInt : MEl Int where
 val i := .int .i64 i
 d i := .lit (.int .i64 i)
 R := rInt
 rd _ := rfl
 inv v e ps h := by
  unfold rInt at h
  split at h
  · simp at h
    rw [h.1]
  · cases h
 z := 0
/-- A slice: where it lies, its length, its capacity. -/
structure Sl3 where
 a : Option (Nat × Nat)
 n : Nat
 c : Nat
def Sl3.val (s : Sl3) : Value := match s.a with
 | some (b, o) => .slice (some ⟨b, o, none⟩) s.n s.c
 | none => .slice none s.n s.c
def litN (n : Nat) : DataW Unit := .lit (.int .i64 (n : Int))
def Sl3.d (s : Sl3) : DataW Unit := match s.a with
 | some (b, o) => .agg [litN b, litN o, litN s.n, litN s.c]
 | none => .agg [litN s.n, litN s.c]
def rSl : Value → Option (DataW Unit × List MemPlace)
 | .slice (some ⟨b, o, none⟩) n c => some (.agg [litN b, litN o, litN n, litN c], [])
 | .slice none n c => some (.agg [litN n, litN c], [])
 | _ => none
def mSl : MEl Sl3 where
 val := Sl3.val
 d := Sl3.d
 R := rSl
 rd s := by
  obtain ⟨a, n, c⟩ := s
  cases a with
  | none => rfl
  | some p => rfl
 inv v s ps h := by
  obtain ⟨a, n, c⟩ := s
  unfold rSl at h
  split at h
  · cases a with
    | none => simp [Sl3.d] at h
    | some p =>
     simp [Sl3.d, litN] at h
     obtain ⟨⟨h1, h2, h3, h4⟩, _⟩ := h
     have e1 : n = _ := (Int.ofNat.inj h3).symm
     have e2 : c = _ := (Int.ofNat.inj h4).symm
     subst e1 e2
     simp [Sl3.val]
  · cases a with
    | none =>
     simp [Sl3.d, litN] at h
     obtain ⟨⟨h1, h2⟩, _⟩ := h
     have e1 : n = _ := (Int.ofNat.inj h1).symm
     have e2 : c = _ := (Int.ofNat.inj h2).symm
     subst e1 e2
     rfl
    | some p => simp [Sl3.d] at h
  · cases h
 z := ⟨none, 0, 0⟩
/-- The key of a text. -/
def kS (s : ByteArray) : Lit := .string s.data.toList
theorem kS_inj {s t : ByteArray} (h : kS s = kS t) : s = t := by
 unfold kS at h
 simp only [Lit.string.injEq] at h
 cases s; cases t
 simpa using h
variable {E : Type} (M : MEl E)
def lookG0 : ByteArray → Option E := fun _ => none
def lookG1 (L : ByteArray → Option E) (s : ByteArray) (p : E) : ByteArray → Option E := fun t => if t = s then some p else L t
/-- Block b is a map of at most n entries that holds what L says. -/
def MapG (P : Program) (k : TypeId) (w : World) (b n : Nat) (L : ByteArray → Option E) : Prop :=
 ∃ D, w.ownsMap P k M.R b n D ∧ ∀ s : ByteArray, has D (kS s) = (L s).isSome ∧ ∀ z, D.atKey (kS s) z = match L s with | some p => M.d p | none => z

theorem mapG_made (P : Program) (k : TypeId) (w : World) : MapG M P k (w.alloc (.map #[] 0)) w.heap.size 0 lookG0 :=
 ⟨.map [], World.ownsMap_made _ _ _ _, fun _ => ⟨rfl, fun _ => rfl⟩⟩
theorem MapG.kept {M : MEl E} {P : Program} {k : TypeId} {w w' : World} {b n : Nat} {L : ByteArray → Option E} {o : Option Nat} (h : MapG M P k w b n L) (hg : w.grownBy w' o) (hne : some b ≠ o) : MapG M P k w' b n L := by
 obtain ⟨D, h1, h2⟩ := h
 exact ⟨D, h1.kept hg hne, h2⟩
theorem MapG.alloc {M : MEl E} {P : Program} {k : TypeId} {w : World} {b n : Nat} {L : ByteArray → Option E} (h : MapG M P k w b n L) (o : Obj) : MapG M P k (w.alloc o) b n L := h.kept (World.grownBy_alloc w o none) (by simp)
theorem MapG.drew {M : MEl E} {P : Program} {k : TypeId} {w : World} {b n : Nat} {L : ByteArray → Option E} (h : MapG M P k w b n L) : MapG M P k w.drew b n L := h
theorem MapG.lt {M : MEl E} {P : Program} {k : TypeId} {w : World} {b n : Nat} {L : ByteArray → Option E} (h : MapG M P k w b n L) : b < w.heap.size := by
 obtain ⟨D, h1, _⟩ := h
 exact h1.lt
theorem MapG.below {M : MEl E} {P : Program} {k : TypeId} {w w' : World} {b n : Nat} {L : ByteArray → Option E} (h : MapG M P k w b n L) (hb : Below w.heap.size w w') : MapG M P k w' b n L :=
 h.kept (o := none) ⟨hb.os, hb.tape, hb.output, hb.size, fun k hk _ => hb.block k hk⟩ (by simp)

theorem mapG_put {P : Program} {k : TypeId} (K : Keyed P k) (hk : P.underlying k = some .string) {w w' : World} {b n m : Nat} {L : ByteArray → Option E} {D : DataW Unit} (h1 : w.ownsMap P k M.R b n D)
 (h2 : ∀ s : ByteArray, has D (kS s) = (L s).isSome ∧ ∀ z, D.atKey (kS s) z = match L s with | some p => M.d p | none => z) {s : ByteArray} (hs : s.size ≤ maxLen) (p : E)
 (ho : w'.ownsMap P k M.R b m (D.put (kS s) (M.d p))) : MapG M P k w' b m (lookG1 L s p) := by
 have hkey : WideAt.IsKeyLit (kS s) := K.key (keyOf_string_mk hk hs)
 refine ⟨_, ho, fun t => ?_⟩
 unfold lookG1
 by_cases e : t = s
 · subst e
   rw [if_pos rfl]
   exact ⟨has_put_same h1.isMap hkey _, fun z => atKey_put_same h1.isMap hkey _ z⟩
 · rw [if_neg e]
   have hne : kS t ≠ kS s := fun h => e (kS_inj h)
   exact ⟨(has_put_other hne _).trans (h2 t).1, fun z => (atKey_put_other hne _ z).trans ((h2 t).2 z)⟩
/-- The store's run. -/
theorem MapG.run_put {M : MEl E} {P : Program} {k t e : TypeId} {w : World} {b n : Nat} {L : ByteArray → Option E} (h : MapG M P k w b n L) (hk : P.underlying k = some .string) (ht : P.underlying t = some (.map k e)) (hn : n < maxLen)
 {s : ByteArray} (hs : s.size ≤ maxLen) (p : E) : ∃ w', (Instr.mapUpdate t (.map (some b)) (.string s) (M.val p)).run P w = .ok () w' ∧ MapG M P k w' b (n + 1) (lookG1 L s p) ∧ w.grownBy w' (some b) := by
 obtain ⟨D, h1, h2⟩ := h
 obtain ⟨w', hrun, ho, hg⟩ := h1.update (string_keyed hk) ht hn (keyOf_string_mk hk hs) (M.rd p)
 exact ⟨w', hrun, mapG_put M (string_keyed hk) hk h1 h2 hs p ho, hg⟩

variable {P : Program} {ops : Array Oper} {rest : List Oper} {o : Oper} {a : Act} {Q : Exit → Act → World → Prop}

/-- 'v, ok := m[s]', as one operation. -/
theorem wpList_lookG_ok (w : World) (hg : o.guard = none) (m x : Operand) (t : TypeId) (hop : o.op = Op.lookup t m x true) (k e : TypeId) (hk : P.underlying k = some .string) (ht : P.underlying t = some (.map k e))
 (hz : (zeroValue e).run P w = .ok (M.val M.z) w) (b n : Nat) (L : ByteArray → Option E) (hm : a.eval m = .map (some b)) (hown : MapG M P k w b n L) (s : ByteArray) (hs : s.size ≤ maxLen) (hx : a.eval x = .string s)
 (r : Option E) (hr : L s = r)
 (hK : wpList P ops Q rest (a.put o.dst (.tuple #[M.val (r.getD M.z), .bool r.isSome])) w) : wpList P ops Q (o :: rest) a w := by
 obtain ⟨D, h1, h2⟩ := hown
 refine wpList_lookup_own_ok w hg m x t hop k e (string_keyed hk) ht M.R hz (M.d M.z) [] (M.rd _) b n D hm h1 _ (kS s) hx (keyOf_string_mk hk hs) (fun v ps hv => ?_)
 rw [(h2 s).1, hr]
 rw [(h2 s).2, hr] at hv
 cases r with
 | none => rw [M.inv _ _ _ hv]; exact hK
 | some p => rw [M.inv _ _ _ hv]; exact hK
/-- 'm[s] = v', as one operation. -/
theorem wpList_putG (w : World) (hg : o.guard = none) (m x v : Operand) (t : TypeId) (hop : o.op = Op.mapUpdate t m x v) (k e : TypeId) (hk : P.underlying k = some .string) (ht : P.underlying t = some (.map k e))
 (b n : Nat) (L : ByteArray → Option E) (hm : a.eval m = .map (some b)) (hown : MapG M P k w b n L) (hn : n < maxLen) (s : ByteArray) (hs : s.size ≤ maxLen) (hx : a.eval x = .string s) (p : E) (hv : a.eval v = M.val p)
 (hK : ∀ w', MapG M P k w' b (n + 1) (lookG1 L s p) → w.grownBy w' (some b) → wpList P ops Q rest (a.put o.dst undef) w') : wpList P ops Q (o :: rest) a w := by
 obtain ⟨D, h1, h2⟩ := hown
 exact wpList_mapUpdate_own w hg m x v t hop k e (string_keyed hk) ht M.R b n D hm h1 hn _ _ (kS s) hx hv (keyOf_string_mk hk hs) (M.d p) [] (M.rd p)
  (fun w' ho hgr => hK w' (mapG_put M (string_keyed hk) hk h1 h2 hs p ho) hgr)
/-- A key of a map's literal, as one operation. -/
theorem wpList_insG (w : World) (hg : o.guard = none) (m x v : Operand) (t : TypeId) (hop : o.op = Op.insert t m x v) (k e : TypeId) (hk : P.underlying k = some .string) (ht : P.underlying t = some (.map k e))
 (b n : Nat) (L : ByteArray → Option E) (hm : a.eval m = .map (some b)) (hown : MapG M P k w b n L) (hn : n < maxLen) (s : ByteArray) (hs : s.size ≤ maxLen) (hx : a.eval x = .string s) (p : E) (hv : a.eval v = M.val p)
 (hK : ∀ w', MapG M P k w' b (n + 1) (lookG1 L s p) → w.grownBy w' (some b) → wpList P ops Q rest (a.put o.dst undef) w') : wpList P ops Q (o :: rest) a w := by
 refine wpList_plain hg fun K' hK' => ?_
 obtain ⟨w', hrun, r1, r2⟩ := hown.run_put hk ht hn hs p
 unfold Oper.wp
 simp [execOp, hop, hm, hx, hv, hrun, Result.andThen]
 exact hK' _ _ (hK w' r1 r2)
end Go.Proofs.YtmnncinpepeocaaGreat

namespace Go.Proofs.YtmnncinpepeocaaGreat
open Go.RowKit

/-- How many of the codes are known. -/
def cntL {E : Type} (ks : List ByteArray) (L : ByteArray → Option E) : Nat := ks.countP (fun s => (L s).isSome)
theorem cntL_le {E : Type} (ks : List ByteArray) (L : ByteArray → Option E) : cntL ks L ≤ ks.length := List.countP_le_length
theorem cntL_same {E : Type} {ks : List ByteArray} {L L' : ByteArray → Option E} (h : ∀ s, s ∈ ks → (L s).isSome = (L' s).isSome) : cntL ks L = cntL ks L' := by
 induction ks with
 | nil => rfl
 | cons k ks ih =>
  unfold cntL at ih ⊢
  simp only [List.countP_cons]
  rw [ih (fun s hs => h s (List.mem_cons_of_mem _ hs)), h k List.mem_cons_self]
theorem cntL_new {E : Type} {ks : List ByteArray} (hn : ks.Nodup) {L : ByteArray → Option E} {s : ByteArray} (hs : s ∈ ks) (hl : L s = none) (p : E) : cntL ks (lookG1 L s p) = cntL ks L + 1 := by
 induction ks with
 | nil => cases hs
 | cons k ks ih =>
  rw [List.nodup_cons] at hn
  by_cases e : k = s
  · subst e
    have h1 : cntL ks (lookG1 L k p) = cntL ks L := cntL_same (fun t ht => by
     unfold lookG1
     have hne : t ≠ k := fun h => hn.1 (h ▸ ht)
     rw [if_neg hne])
    unfold cntL at h1 ⊢
    simp only [List.countP_cons, h1]
    unfold lookG1
    simp [hl]
  · have hs2 : s ∈ ks := by
     rcases List.mem_cons.1 hs with h | h
     · exact absurd h.symm e
     · exact h
    have h1 := ih hn.2 hs2
    unfold cntL at h1 ⊢
    simp only [List.countP_cons]
    rw [h1]
    have : lookG1 L s p k = L k := by unfold lookG1; rw [if_neg e]
    rw [this]
    omega
/-- .. the first one. -/
theorem cntL_first {E : Type} {ks : List ByteArray} (hn : ks.Nodup) {s : ByteArray} (hs : s ∈ ks) (p : E) : cntL ks (lookG1 lookG0 s p) = 1 := by
 rw [cntL_new hn hs rfl p]
 have : cntL ks (lookG0 : ByteArray → Option E) = 0 := by
  unfold cntL lookG0
  simp
 omega
/-- Numbers up to one beyond the largest amount. -/
def capT (n : Nat) : Int := ((min n 1000000001 : Nat) : Int)
theorem capT_range (n : Nat) : 0 ≤ capT n ∧ capT n ≤ 1000000001 := by unfold capT; omega
theorem capT_big {n : Nat} : (1000000000 < capT n) ↔ ¬n ≤ 1000000000 := by unfold capT; omega
theorem capT_small {n : Nat} (h : n ≤ 1000000000) : capT n = n := by unfold capT; omega
/-- What over all ways comes to a part, over items between. -/
def pv (ys : List BL) (c : ByteArray) (p : ByteArray → Bool) (q : Nat) (s : ByteArray) : Nat := q * wy (thru (ys.map edOf) c p) c s
theorem pv_start {ys : List BL} {c : ByteArray} {p : ByteArray → Bool} {q : Nat} (h : Acy (ys.map edOf)) : pv ys c p q c = q := by
 unfold pv; rw [wy_self (thru_acy h c p), Nat.mul_one]
theorem pv_step {ys : List BL} {c : ByteArray} {p : ByteArray → Bool} {q : Nat} {s : ByteArray} (h : Acy (ys.map edOf)) (hs : s ≠ c) :
 pv ys c p q s = (ys.map (fun x => if x.prt = s ∧ (x.par = c ∨ p x.par = true) then pv ys c p q x.par * x.qty.toNat else 0)).sum := by
 unfold pv
 rw [wy_down (thru_acy h c p) (fun e => hs e.symm), thru_sum, List.map_map, ← sm_mul']
 refine sm_congr (fun x _ => ?_)
 show q * (if x.par = c ∨ p x.par = true then (if x.prt = s then wy (thru (ys.map edOf) c p) c x.par * x.qty.toNat else 0) else 0) = _
 by_cases h1 : x.par = c ∨ p x.par = true
 · by_cases h2 : x.prt = s
   · rw [if_pos h1, if_pos h2, if_pos ⟨h2, h1⟩, Nat.mul_assoc]
   · rw [if_pos h1, if_neg h2, if_neg (fun h => h2 h.1)]; rfl
 · rw [if_neg h1, if_neg (fun h => h1 h.2)]; rfl
theorem sm_cap {β : Type} (T : Nat) {l : List β} {f g : β → Nat} (h : ∀ x, x ∈ l → f x = g x ∨ (T ≤ f x ∧ T ≤ g x)) : min (l.map f).sum T = min (l.map g).sum T := by
 induction l with
 | nil => rfl
 | cons a l ih =>
  have h1 := ih (fun x hx => h x (List.mem_cons_of_mem _ hx))
  have h2 := h a List.mem_cons_self
  simp only [List.map_cons, List.sum_cons]
  omega
/-- What the first k lines give. -/
def accN (ys : List BL) (c : ByteArray) (p : ByteArray → Bool) (q : Nat) (s : ByteArray) (k : Nat) : Nat := ((ys.take k).map (fun x => if x.prt = s ∧ (x.par = c ∨ p x.par = true) then min (pv ys c p q x.par) 1000000001 * x.qty.toNat else 0)).sum
theorem accN_zero (ys : List BL) (c : ByteArray) (p : ByteArray → Bool) (q : Nat) (s : ByteArray) : accN ys c p q s 0 = 0 := rfl
theorem accN_succ {ys : List BL} {c : ByteArray} {p : ByteArray → Bool} {q : Nat} {s : ByteArray} {k : Nat} (hk : k < ys.length) :
 accN ys c p q s (k + 1) = accN ys c p q s k + (if (ys[k]'hk).prt = s ∧ ((ys[k]'hk).par = c ∨ p (ys[k]'hk).par = true) then min (pv ys c p q (ys[k]'hk).par) 1000000001 * (ys[k]'hk).qty.toNat else 0) := by
 unfold accN
 rw [List.take_succ_eq_append_getElem hk, List.map_append, List.sum_append]
 simp
theorem accN_le {ys : List BL} {c : ByteArray} {p : ByteArray → Bool} {q : Nat} {s : ByteArray} (hq : ∀ x, x ∈ ys → x.qty ≤ 1000) : ∀ k, k ≤ ys.length → accN ys c p q s k ≤ k * 1000000001000 := by
 intro k
 induction k with
 | zero => intro _; rw [accN_zero]; exact Nat.zero_le _
 | succ k ih =>
  intro hk
  have h1 := ih (by omega)
  rw [accN_succ hk]
  have h2 := hq _ (List.getElem_mem hk)
  split
  · have h3 : min (pv ys c p q (ys[k]'hk).par) 1000000001 * (ys[k]'hk).qty.toNat ≤ 1000000001000 := by
     have h4 : (ys[k]'hk).qty.toNat ≤ 1000 := by omega
     have h5 : min (pv ys c p q (ys[k]'hk).par) 1000000001 ≤ 1000000001 := Nat.min_le_right _ _
     have h6 : 1000000001 * 1000 = 1000000001000 := by decide
     rw [← h6]
     exact Nat.mul_le_mul h5 h4
    generalize min (pv ys c p q (ys[k]'hk).par) 1000000001 * (ys[k]'hk).qty.toNat = z at h3 ⊢
    rw [Nat.add_mul, Nat.one_mul]
    exact Nat.add_le_add h1 h3
  · rw [Nat.add_mul]
    exact Nat.le_trans h1 (Nat.le_add_right _ _)
theorem accN_all {ys : List BL} {c : ByteArray} {p : ByteArray → Bool} {q : Nat} {s : ByteArray} (h : Acy (ys.map edOf)) (hs : s ≠ c) (hq : ∀ x, x ∈ ys → 1 ≤ x.qty) : ((min (accN ys c p q s ys.length) 1000000001 : Nat) : Int) = capT (pv ys c p q s) := by
 have h0 : min (accN ys c p q s ys.length) 1000000001 = min (pv ys c p q s) 1000000001 := by
  rw [pv_step h hs]
  unfold accN
  rw [List.take_length]
  refine sm_cap _ (fun x hx => ?_)
  by_cases h1 : x.prt = s ∧ (x.par = c ∨ p x.par = true)
  · rw [if_pos h1, if_pos h1]
    have h2 := hq x hx
    by_cases h3 : pv ys c p q x.par ≤ 1000000001
    · rw [Nat.min_eq_left h3]; exact Or.inl rfl
    · right
      rw [Nat.min_eq_right (by omega)]
      have h4 : 1 ≤ x.qty.toNat := by omega
      have h5 : 1000000001 * 1 ≤ 1000000001 * x.qty.toNat := Nat.mul_le_mul_left _ h4
      have h6 : 1000000001 * 1 ≤ pv ys c p q x.par * x.qty.toNat := Nat.mul_le_mul (by omega) h4
      omega
  · rw [if_neg h1, if_neg h1]; exact Or.inl rfl
 unfold capT
 rw [h0]
end Go.Proofs.YtmnncinpepeocaaGreat

namespace Go.Proofs.YtmnncinpepeocaaGreat
open Go.RowKit

theorem list2 {l : List Value} (h : l.length = 2) : ∃ a b, l = [a, b] := by
 match l, h with
 | [a, b], _ => exact ⟨a, b, rfl⟩
theorem list6 {l : List Value} (h : l.length = 6) : ∃ a b c d e f, l = [a, b, c, d, e, f] := by
 match l, h with
 | [a, b, c, d, e, f], _ => exact ⟨a, b, c, d, e, f, rfl⟩
/-- The first index whose test is true, or -1. -/
def IdxR (n : Nat) (ps : Nat → Bool) (w : World) (e : Ending) (w' : World) : Prop :=
 ∃ r : Int, e = .returned (.int .i64 r) ∧ ((r = -1 ∧ ∀ j, j < n → ps j = false) ∨ (∃ k : Nat, k < n ∧ r = (k : Int) ∧ ps k = true ∧ ∀ j, j < k → ps j = false)) ∧ Hid (Below w.heap.size w w')
/-- What is left of the first k. -/
def keptN (es : List NR) (ps : Nat → Bool) : Nat → List NR
 | 0 => []
 | k + 1 => keptN es ps k ++ (if ps k = true then [] else (es[k]?).toList)
theorem keptN_none (es : List NR) (ps : Nat → Bool) : ∀ k, k ≤ es.length → (∀ j, j < k → ps j = false) → keptN es ps k = es.take k
 | 0, _, _ => by simp [keptN]
 | k + 1, hk, h => by
  rw [keptN, keptN_none es ps k (by omega) (fun j hj => h j (by omega)), h k (by omega), List.take_succ_eq_append_getElem (by omega), List.getElem?_eq_getElem (by omega)]
  rfl
theorem keptN_mem (es : List NR) (ps : Nat → Bool) : ∀ k r, r ∈ keptN es ps k → r ∈ es
 | 0, r, h => by cases h
 | k + 1, r, h => by
  rw [keptN] at h
  rcases List.mem_append.1 h with h | h
  · exact keptN_mem es ps k r h
  · split at h
    · cases h
    · cases he : es[k]? with
      | none => rw [he] at h; cases h
      | some x =>
       rw [he] at h
       have : r = x := by simpa using h
       rw [this]
       exact List.mem_of_getElem? he
theorem keptN_le (es : List NR) (ps : Nat → Bool) : ∀ k, (keptN es ps k).length ≤ k
 | 0 => Nat.le_refl _
 | k + 1 => by
  have := keptN_le es ps k
  rw [keptN, List.length_append]
  have h2 : (if ps k = true then [] else (es[k]?).toList).length ≤ 1 := by
   split
   · simp
   · cases es[k]? <;> simp
  omega
/-- The row when j records have been looked at, m of them kept. -/
structure DelSt (K : Nat) (es : List NR) (ps : Nat → Bool) (j m : Nat) (L : List Value) : Prop where
 len : L.length = es.length * K
 cnt : m = (keptN es ps j).length
 front : ∀ t, t < m * K → L[t]? = (flatN (keptN es ps j))[t]?
 rest : ∀ t, j * K ≤ t → L[t]? = (flatN es)[t]?
theorem DelSt.start {K : Nat} {es : List NR} {ps : Nat → Bool} {k : Nat} (hl : ∀ r, r ∈ es → r.cs.length = K) (hk : k < es.length) (hp : ps k = true) (hn : ∀ j, j < k → ps j = false) : DelSt K es ps (k + 1) k (flatN es) := by
 have h1 : keptN es ps (k + 1) = es.take k := by
  rw [keptN, keptN_none es ps k (by omega) hn, if_pos hp, List.append_nil]
 refine ⟨flatN_length hl, by rw [h1, List.length_take]; omega, fun t ht => ?_, fun t _ => rfl⟩
 rw [h1]
 have h2 : flatN es = flatN (es.take k) ++ flatN (es.drop k) := by
  unfold flatN
  rw [← List.flatMap_append, List.take_append_drop]
 have h3 : (flatN (es.take k)).length = k * K := by
  rw [flatN_length (K := K) (fun r hr => hl r (List.mem_of_mem_take hr)), List.length_take, Nat.min_eq_left (by omega)]
 rw [h2, List.getElem?_append_left (by omega)]
theorem DelSt.skip {K : Nat} {es : List NR} {ps : Nat → Bool} {j m : Nat} {L : List Value} (h : DelSt K es ps j m L) (hp : ps j = true) : DelSt K es ps (j + 1) m L := by
 have h1 : keptN es ps (j + 1) = keptN es ps j := by rw [keptN, if_pos hp, List.append_nil]
 exact ⟨h.len, by rw [h1]; exact h.cnt, fun t ht => by rw [h1]; exact h.front t ht, fun t ht => h.rest t (Nat.le_trans (Nat.mul_le_mul_right _ (Nat.le_succ _)) ht)⟩
theorem DelSt.keep {K : Nat} {es : List NR} {ps : Nat → Bool} {j m : Nat} {L : List Value} (h : DelSt K es ps j m L) (hl : ∀ r, r ∈ es → r.cs.length = K) (hj : j < es.length) (hm : m < j) (hp : ps j = false) : DelSt K es ps (j + 1) (m + 1) (putL L (m * K) (es[j]'hj).cs) := by
 have h1 : keptN es ps (j + 1) = keptN es ps j ++ [es[j]'hj] := by
  rw [keptN, hp, List.getElem?_eq_getElem hj]; rfl
 have hK := hl _ (List.getElem_mem hj)
 have hjn : (j + 1) * K ≤ es.length * K := Nat.mul_le_mul_right _ hj
 have hmj : (m + 1) * K ≤ j * K := Nat.mul_le_mul_right _ hm
 rw [Nat.succ_mul] at hjn hmj
 have hf : flatN (keptN es ps (j + 1)) = flatN (keptN es ps j) ++ (es[j]'hj).cs := by
  rw [h1]; unfold flatN; rw [List.flatMap_append]; simp
 have hfl : (flatN (keptN es ps j)).length = m * K := by
  rw [flatN_length (K := K) (fun r hr => hl r (keptN_mem es ps j r hr)), ← h.cnt]
 have hput : ∀ t, (putL L (m * K) (es[j]'hj).cs)[t]? = if m * K ≤ t ∧ t < m * K + (es[j]'hj).cs.length then (es[j]'hj).cs[t - m * K]? else L[t]? := fun t => putL_get _ _ _ _ (by rw [hK, h.len]; omega)
 refine ⟨by rw [putL_length]; exact h.len, by rw [h1, List.length_append, ← h.cnt]; rfl, fun t ht => ?_, fun t ht => ?_⟩
 · rw [hput t, hf]
   rw [Nat.succ_mul] at ht
   by_cases hlt : t < m * K
   · rw [if_neg (by omega), List.getElem?_append_left (by omega), h.front t hlt]
   · rw [if_pos ⟨by omega, by omega⟩, List.getElem?_append_right (by omega), hfl]
 · rw [Nat.succ_mul] at ht
   rw [hput t, if_neg (by omega)]
   exact h.rest t (by omega)
/-- Whatever is written behind what was kept. -/
theorem DelSt.fin {K : Nat} {es : List NR} {ps : Nat → Bool} {j m : Nat} {L : List Value} (h : DelSt K es ps j m L) (hl : ∀ r, r ∈ es → r.cs.length = K) (zs : List Value) : (putL L (m * K) zs).take (m * K) = flatN (keptN es ps j) := by
 have hfl : (flatN (keptN es ps j)).length = m * K := by
  rw [flatN_length (K := K) (fun r hr => hl r (keptN_mem es ps j r hr)), ← h.cnt]
 have hlow : ∀ (zs L : List Value) (o t : Nat), t < o → (putL L o zs)[t]? = L[t]? := by
  intro zs
  induction zs with
  | nil => intro L o t _; rfl
  | cons z zs ih =>
   intro L o t ht
   show (putL (L.set o z) (o + 1) zs)[t]? = _
   rw [ih _ _ _ (by omega), List.getElem?_set_ne (by omega)]
 refine List.ext_getElem? (fun t => ?_)
 rw [List.getElem?_take]
 by_cases ht : t < m * K
 · rw [if_pos ht, hlow _ _ _ _ ht, h.front t ht]
 · rw [if_neg ht, List.getElem?_eq_none (by omega)]
theorem own_cap {w : World} {base e K g n c : Nat} {xs : List Value} (h : w.ownsRow base e K (.slice (some ⟨g, 0, none⟩) n c) n xs) : n ≤ c ∧ c ≤ maxLen := by
 rcases h.2 with ⟨h1, _⟩ | ⟨g', cap, cur, h1, _, _, h2, h3, _⟩
 · cases h1
 · cases h1; exact ⟨h2, h3⟩
theorem own_cellw {w : World} {base e K g n c : Nat} {xs : List Value} (h : w.ownsRow base e K (.slice (some ⟨g, 0, none⟩) n c) n xs) (t : Nat) (ht : t < n * K) : (∃ u, w.cell? ⟨g, t, none⟩ = some u) ∧ w.frozen? ⟨g, t, none⟩ = false := by
 refine ⟨?_, h.frozenAt _⟩
 rw [h.cellAt t (by have := h.1; omega), List.getElem?_eq_getElem (by rw [h.1]; exact ht)]
 exact ⟨_, rfl⟩
theorem own_cut {w : World} {base e K g n c m : Nat} {xs : List Value} (h : w.ownsRow base e K (.slice (some ⟨g, 0, none⟩) n c) n xs) (hm : m ≤ n) : w.ownsRow base e K (.slice (some ⟨g, 0, none⟩) m c) m (xs.take (m * K)) := by
 have hmn : m * K ≤ n * K := Nat.mul_le_mul_right _ hm
 obtain ⟨h0, h⟩ := h
 rcases h with ⟨h1, _⟩ | ⟨g', cap, cur, h1, a1, a2, a3, a4, a5, a6⟩
 · cases h1
 · cases h1
   refine ⟨by rw [List.length_take]; omega, Or.inr ⟨g, c, cur, rfl, a1, a2, by omega, a4, a5, ?_⟩⟩
   rw [← a6, List.take_take, Nat.min_eq_left hmn]
theorem setCells_putC (g : Nat) : ∀ (vs : List Value) (o : Nat) (w : World), w.setCells g o vs = putC w g o vs
 | [], _, _ => rfl
 | v :: vs, o, w => setCells_putC g vs (o + 1) (w.setCell ⟨g, o, none⟩ v)
/-- 'clear' of n > 0 records of K cells. -/
theorem run_clear_row (P : Program) (w : World) (t e : TypeId) (b o n c K : Nat) (ht : P.underlying t = some (.slice e)) (hz : (∃ z, (∀ w, (zeroValue e).run P w = .ok z w) ∧ z.cells.size = K ∧ 0 < K ∧ ∀ v ∈ z.cells.toList, v.oneCell' = true)) (hn : 0 < n)
 (hc : ∀ j, j < n * K → (∃ u, w.cell? ⟨b, o + j, none⟩ = some u) ∧ w.frozen? ⟨b, o + j, none⟩ = false) :
 ∃ zs : List Value, zs.length = n * K ∧ ∀ ty, (Builtin.clear_ #[t] ty #[.slice (some ⟨b, o, none⟩) n c]).run P w = .ok (.tuple #[]) (putC w b o zs) := by
 obtain ⟨z, hv, hzk, hk0, h1⟩ := hz
 have hlen : (Builtin.zeroCells z.cells n).toList.length = n * K := by simp [Builtin.zeroCells, hzk]
 refine ⟨_, hlen, fun ty => ?_⟩
 have hone : ∀ v ∈ (Builtin.zeroCells z.cells n).toList, v.oneCell' = true := fun v hv' => by
  simp only [Builtin.zeroCells, Array.toList_map, List.mem_map] at hv'
  obtain ⟨i, _, rfl⟩ := hv'
  have hlt : i % z.cells.size < z.cells.size := Nat.mod_lt _ (by omega)
  rw [getElem!_pos z.cells _ hlt]
  exact h1 _ (by simp)
 have hst := run_storeCells_cells (P := P) b o (Builtin.zeroCells z.cells n).toList 0 w (fun j hj => by rw [Nat.add_zero]; exact Option.isSome_iff_exists.2 (hc j (by omega)).1) (fun j hj => by rw [Nat.add_zero]; exact (hc j (by omega)).2) hone
 simp only [Nat.add_zero] at hst
 obtain ⟨m, rfl⟩ : ∃ m, n = m + 1 := ⟨n - 1, by omega⟩
 simp [Builtin.clear_, run_underlying ht, hv, hst, setCells_putC]
end Go.Proofs.YtmnncinpepeocaaGreat

namespace Go.Proofs.YtmnncinpepeocaaGreat
open Go.RowKit

/-- The bills are valid, the item is one, the quantity fits. -/
def ExOk (l : List IT) (xs : List BL) (s : ByteArray) (q : Int) : Prop := BillsOk l xs ∧ 0 ≤ fiI l s ∧ 0 ≤ q ∧ q ≤ 100000
/-- How many pieces of each code. -/
noncomputable def exV (l : List IT) (xs : List BL) (s : ByteArray) (q : Int) (day : Int) (ps : List PK) (ph : Bool) (b : ByteArray) : Nat := pv (onX xs day ps) s (betw l ph) q.toNat b
def ExYes (l : List IT) (xs : List BL) (s : ByteArray) (q : Int) (day : Int) (ps : List PK) (ph : Bool) : Prop := ExOk l xs s q ∧ FitL l (exV l xs s q day ps ph)
/-- What is needed; phantoms are left out if they are gone through. -/
def needP (l : List IT) (c : ByteArray) (V : ByteArray → Nat) (ph : Bool) : List NE := (l.filter (fun r => decide (0 < V r.code ∧ r.code ≠ c ∧ ¬(ph = true ∧ r.kind = 2)))).map (fun r => ⟨r.code, (V r.code : Nat)⟩)
open Classical in
noncomputable def exB (l : List IT) (xs : List BL) (s : ByteArray) (q : Int) (day : Int) (ps : List PK) (ph : Bool) : Bool := decide (ExYes l xs s q day ps ph)
open Classical in
noncomputable def exZ (l : List IT) (xs : List BL) (s : ByteArray) (q : Int) (day : Int) (ps : List PK) (ph : Bool) : List NE := if ExYes l xs s q day ps ph then needP l s (exV l xs s q day ps ph) ph else []
open Classical in
theorem exB_yes {l : List IT} {xs : List BL} {s : ByteArray} {q day : Int} {ps : List PK} {ph : Bool} (h : ExYes l xs s q day ps ph) : exB l xs s q day ps ph = true := decide_eq_true h
open Classical in
theorem exB_no {l : List IT} {xs : List BL} {s : ByteArray} {q day : Int} {ps : List PK} {ph : Bool} (h : ¬ExYes l xs s q day ps ph) : exB l xs s q day ps ph = false := decide_eq_false h
open Classical in
theorem exB_iff {l : List IT} {xs : List BL} {s : ByteArray} {q day : Int} {ps : List PK} {ph : Bool} : exB l xs s q day ps ph = true ↔ ExYes l xs s q day ps ph := by unfold exB; exact decide_eq_true_iff
open Classical in
theorem exZ_yes {l : List IT} {xs : List BL} {s : ByteArray} {q day : Int} {ps : List PK} {ph : Bool} (h : ExYes l xs s q day ps ph) : exZ l xs s q day ps ph = needP l s (exV l xs s q day ps ph) ph := if_pos h
open Classical in
theorem exZ_no {l : List IT} {xs : List BL} {s : ByteArray} {q day : Int} {ps : List PK} {ph : Bool} (h : ¬ExYes l xs s q day ps ph) : exZ l xs s q day ps ph = [] := if_neg h
theorem needP_off (l : List IT) (c : ByteArray) (V : ByteArray → Nat) : needP l c V false = needL l c V := by
 unfold needP needL
 congr 2
 funext r
 simp
/-- Phantoms taken out of what is needed. -/
theorem needP_on {l : List IT} (h : CatOk l) (c : ByteArray) (V : ByteArray → Nat) : (needL l c V).filter (fun x => !betw l true x.code) = needP l c V true := by
 unfold needP needL
 rw [List.filter_map, List.filter_filter]
 congr 1
 refine List.filter_congr (fun r hr => ?_)
 obtain ⟨k, hk, rfl⟩ := List.getElem_of_mem hr
 have h1 : betw l true (l[k]'hk).code = decide ((l[k]'hk).kind = 2) := by
  unfold betw
  rw [← codeAt_get hk, isPh_at h hk, kindAt_get hk]; rfl
 show ((!betw l true (l[k]'hk).code) && decide (0 < V (l[k]'hk).code ∧ (l[k]'hk).code ≠ c)) = _
 rw [h1]
 by_cases h2 : (l[k]'hk).kind = 2
 · simp [h2]
 · simp [h2]
theorem needP_le (l : List IT) (c : ByteArray) (V : ByteArray → Nat) (ph : Bool) : (needP l c V ph).length ≤ l.length := by
 unfold needP
 rw [List.length_map]
 exact List.length_filter_le _ _
/-- The lines in force keep all that the bills keep. -/
theorem onX_mem {xs : List BL} {day : Int} {ps : List PK} {x : BL} (h : x ∈ onX xs day ps) : x ∈ xs := (List.mem_filter.1 h).1
theorem onX_len (xs : List BL) (day : Int) (ps : List PK) : (onX xs day ps).length ≤ xs.length := List.length_filter_le _ _
theorem onX_edges (xs : List BL) (day : Int) (ps : List PK) : (onX xs day ps).map edOf = onL xs day ps := rfl
structure OnOk (l : List IT) (ys : List BL) (lv : ByteArray → Nat) : Prop where
 len : ys.length ≤ 24
 qty : ∀ x, x ∈ ys → 1 ≤ x.qty ∧ x.qty ≤ 1000
 par : ∀ x, x ∈ ys → x.par ∈ l.map IT.code
 lvl : Lvl (ys.map edOf) lv
 lv12 : ∀ s, lv s < 12
theorem on_ok {l : List IT} {xs : List BL} (h : BillsOk l xs) (day : Int) (ps : List PK) : ∃ lv, OnOk l (onX xs day ps) lv := by
 obtain ⟨lv, h1, h2⟩ := on_acy h day ps
 refine ⟨lv, Nat.le_trans (onX_len _ _ _) h.1.2.1, fun x hx => ?_, fun x hx => ?_, h1, h2⟩
 · have := h.1.mem (onX_mem hx)
   exact ⟨this.2.2.2.1, this.2.2.2.2.1⟩
 · have := h.1.mem (onX_mem hx)
   rw [← this.codes.1]
   exact code_mem this.inb.1
/-- A code that is found stands in the catalog. -/
theorem fi_mem {l : List IT} {s : ByteArray} (h : 0 ≤ fiI l s) : s ∈ l.map IT.code ∧ ∃ k : Nat, fiI l s = (k : Int) := by
 have h1 : fiI l s = ((fiI l s).toNat : Int) := by omega
 obtain ⟨h2, h3⟩ := fi_code h1
 rw [← h3]
 exact ⟨code_mem h2, (fiI l (codeAt l (fiI l s).toNat)).toNat, by rw [h3]; exact h1⟩
theorem mem_fi {l : List IT} {s : ByteArray} (hc : CatOk l) (h : s ∈ l.map IT.code) : ∃ k : Nat, k < l.length ∧ fiI l s = (k : Int) := by
 obtain ⟨r, hr, rfl⟩ := List.mem_map.1 h
 obtain ⟨k, hk, rfl⟩ := List.getElem_of_mem hr
 exact ⟨k, hk, by rw [← codeAt_get hk]; exact cat_fi hc hk⟩
/-- A list of needs of the call's own, and whether it is one. -/
def NeOut (y : Bool) (zs : List NE) (w : World) (e : Ending) (w' : World) : Prop := ∃ v', e = .returned (.tuple #[v', .bool y]) ∧ Hid (w'.ownsRow w.heap.size 42 2 v' zs.length (NE.cells zs)) ∧ Hid (Below w.heap.size w w')
/-- Needs as records. -/
def neR (x : NE) : NR := ⟨[.string x.code, .int .i64 x.qty], 0, []⟩
theorem neR_flat : ∀ zs : List NE, flatN (zs.map neR) = NE.cells zs
 | [] => rfl
 | x :: zs => by
  show (neR x).cs ++ flatN (zs.map neR) = _
  rw [neR_flat zs]; rfl
theorem neR_kept (zs : List NE) (ps : Nat → Bool) (p : NE → Bool) (hp : ∀ j (hj : j < zs.length), ps j = p (zs[j]'hj)) : ∀ k, k ≤ zs.length → keptN (zs.map neR) ps k = ((zs.take k).filter (fun x => !p x)).map neR := by
 intro k
 induction k with
 | zero => intro _; rfl
 | succ k ih =>
  intro hk
  have hkz : k < zs.length := hk
  rw [keptN, ih (by omega), filter_take_succ hkz, List.map_append, hp k hkz, List.getElem?_map, List.getElem?_eq_getElem hkz]
  cases p (zs[k]'hkz) <;> rfl
/-- How many of a part are in one piece. -/
noncomputable def quV (l : List IT) (xs : List BL) (s t : ByteArray) (day : Int) (ps : List PK) : Nat := pv (onX xs day ps) s (betw l false) 1 t
def QuYes (l : List IT) (xs : List BL) (s t : ByteArray) (day : Int) (ps : List PK) : Prop := (BillsOk l xs ∧ 0 ≤ fiI l s ∧ 0 ≤ fiI l t) ∧ quV l xs s t day ps ≤ 1000000000
open Classical in
noncomputable def quB (l : List IT) (xs : List BL) (s t : ByteArray) (day : Int) (ps : List PK) : Bool := decide (QuYes l xs s t day ps)
open Classical in
noncomputable def quN (l : List IT) (xs : List BL) (s t : ByteArray) (day : Int) (ps : List PK) : Int := if QuYes l xs s t day ps then ((quV l xs s t day ps : Nat) : Int) else 0
open Classical in
theorem qu_yes {l : List IT} {xs : List BL} {s t : ByteArray} {day : Int} {ps : List PK} (h : QuYes l xs s t day ps) : quB l xs s t day ps = true ∧ quN l xs s t day ps = ((quV l xs s t day ps : Nat) : Int) := ⟨decide_eq_true h, if_pos h⟩
open Classical in
theorem qu_no {l : List IT} {xs : List BL} {s t : ByteArray} {day : Int} {ps : List PK} (h : ¬QuYes l xs s t day ps) : quB l xs s t day ps = false ∧ quN l xs s t day ps = 0 := ⟨decide_eq_false h, if_neg h⟩
open Classical in
theorem qu_iff {l : List IT} {xs : List BL} {s t : ByteArray} {day : Int} {ps : List PK} : quB l xs s t day ps = true ↔ QuYes l xs s t day ps := by unfold quB; exact decide_eq_true_iff
/-- A number, and whether it is one. -/
def NumOut (y : Bool) (z : Int) (w : World) (e : Ending) (w' : World) : Prop := e = .returned (.tuple #[.int .i64 z, .bool y]) ∧ Hid (Below w.heap.size w w')
end Go.Proofs.YtmnncinpepeocaaGreat

namespace Go.Proofs.YtmnncinpepeocaaGreat
open Go.RowKit

/-- A line's parent gets what its part has. -/
noncomputable def stepU (l : List IT) (day : Int) (ps : List PK) (p : Nat) (S : List Nat) (x : BL) : List Nat := if x.par = codeAt l p ∧ onB x day ps = true then S.set p (lv S p + lv S (fiI l x.prt).toNat * x.qty.toNat) else S
theorem stepU_length (l : List IT) (day : Int) (ps : List PK) (p : Nat) (S : List Nat) (x : BL) : (stepU l day ps p S x).length = S.length := by
 unfold stepU; split <;> simp
noncomputable def innU (l : List IT) (day : Int) (ps : List PK) (p : Nat) (xs : List BL) (S : List Nat) : List Nat := xs.foldl (stepU l day ps p) S
theorem innU_length (l : List IT) (day : Int) (ps : List PK) (p : Nat) (xs : List BL) : ∀ S : List Nat, (innU l day ps p xs S).length = S.length := by
 induction xs with
 | nil => intro S; rfl
 | cons x xs ih => intro S; show (innU l day ps p xs (stepU l day ps p S x)).length = _; rw [ih, stepU_length]
theorem innU_take {l : List IT} {day : Int} {ps : List PK} {p : Nat} {xs : List BL} {S : List Nat} {k : Nat} (hk : k < xs.length) : innU l day ps p (xs.take (k + 1)) S = stepU l day ps p (innU l day ps p (xs.take k) S) (xs[k]'hk) := by
 unfold innU
 rw [List.take_succ_eq_append_getElem hk, List.foldl_append]; rfl
/-- An item gets what its lines lead to; nothing else changes. -/
theorem innU_at {l : List IT} {day : Int} {ps : List PK} {p : Nat} (hp : p < l.length) : ∀ (xs : List BL) (S : List Nat), S.length = l.length → (∀ x, x ∈ xs → x.par = codeAt l p → (fiI l x.prt).toNat ≠ p) →
 lv (innU l day ps p xs S) p = lv S p + ((onL xs day ps).map (fun e => if e.1 = codeAt l p then lv S (fiI l e.2.1).toNat * e.2.2 else 0)).sum ∧ ∀ i, i ≠ p → lv (innU l day ps p xs S) i = lv S i := by
 intro xs
 induction xs with
 | nil => intro S _ _; exact ⟨rfl, fun _ _ => rfl⟩
 | cons x xs ih =>
  intro S hS hac
  have hlen : (stepU l day ps p S x).length = l.length := by rw [stepU_length, hS]
  obtain ⟨h1, h2⟩ := ih (stepU l day ps p S x) hlen (fun y hy => hac y (List.mem_cons_of_mem _ hy))
  have hoth : ∀ i, i ≠ p → lv (stepU l day ps p S x) i = lv S i := fun i hi => by
   unfold stepU
   split
   · rw [lv_set (by rw [hS]; exact hp), if_neg hi]
   · rfl
  refine ⟨?_, fun i hi => by
   show lv (innU l day ps p xs (stepU l day ps p S x)) i = _
   rw [h2 i hi, hoth i hi]⟩
  show lv (innU l day ps p xs (stepU l day ps p S x)) p = _
  rw [h1]
  have e3 : onL (x :: xs) day ps = (if onB x day ps = true then [edOf x] else []) ++ onL xs day ps := by
   unfold onL onX
   by_cases hx : onB x day ps = true
   · rw [List.filter_cons_of_pos (by simpa using hx), if_pos hx]; rfl
   · rw [List.filter_cons_of_neg (by simpa using hx), if_neg hx]; rfl
  have e4 : ((onL xs day ps).map (fun e => if e.1 = codeAt l p then lv (stepU l day ps p S x) (fiI l e.2.1).toNat * e.2.2 else 0)).sum = ((onL xs day ps).map (fun e => if e.1 = codeAt l p then lv S (fiI l e.2.1).toNat * e.2.2 else 0)).sum := by
   refine sm_congr (fun e he => ?_)
   by_cases h3 : e.1 = codeAt l p
   · rw [if_pos h3, if_pos h3]
     obtain ⟨y, hy, rfl⟩ := List.mem_map.1 he
     exact congrArg (fun z => z * (edOf y).2.2) (hoth (fiI l y.prt).toNat (hac y (List.mem_cons_of_mem _ (onX_mem hy)) h3))
   · rw [if_neg h3, if_neg h3]
  rw [e3, List.map_append, List.sum_append, e4, ← Nat.add_assoc]
  congr 1
  unfold stepU
  by_cases hx : onB x day ps = true
  · rw [if_pos hx]
    by_cases hxp : x.par = codeAt l p
    · rw [if_pos ⟨hxp, hx⟩, lv_set (by rw [hS]; exact hp), if_pos rfl]
      simp [edOf, hxp]
    · rw [if_neg (fun h => hxp h.1)]
      simp [edOf, hxp]
  · rw [if_neg hx, if_neg (fun h => hx h.2)]; rfl
/-- The items from the place k on. -/
noncomputable def upF (l : List IT) (xs : List BL) (day : Int) (ps : List PK) (ib : Nat) (O : List Nat) (k : Nat) : List Nat := (O.drop k).foldr (fun p S => innU l day ps p xs S) ((List.replicate l.length 0).set ib 1)
theorem upF_all (l : List IT) (xs : List BL) (day : Int) (ps : List PK) (ib : Nat) (O : List Nat) : upF l xs day ps ib O O.length = (List.replicate l.length 0).set ib 1 := by unfold upF; rw [List.drop_length]; rfl
theorem upF_pred {l : List IT} {xs : List BL} {day : Int} {ps : List PK} {ib : Nat} {O : List Nat} {k : Nat} (hk : k < O.length) : upF l xs day ps ib O k = innU l day ps (O[k]'hk) xs (upF l xs day ps ib O (k + 1)) := by
 unfold upF
 rw [List.drop_eq_getElem_cons hk]; rfl
theorem upF_length (l : List IT) (xs : List BL) (day : Int) (ps : List PK) (ib : Nat) (O : List Nat) (k : Nat) : (upF l xs day ps ib O k).length = l.length := by
 unfold upF
 induction O.drop k with
 | nil => simp
 | cons p L ih => rw [List.foldr_cons, innU_length]; exact ih
/-- What stands behind a place of an order. -/
theorem Ord.behind {n : Nat} {vs O : List Nat} (h : Ord n vs O) {k : Nat} (hk : k < O.length) : (O[k]'hk) < n ∧ O[k]'hk ∉ O.drop (k + 1) ∧ (∀ i, i < n → lv vs (O[k]'hk) < lv vs i → i ∈ O.drop (k + 1)) := by
 obtain ⟨h1, h2, h3⟩ := h
 refine ⟨(h2 _).1 (List.getElem_mem hk), fun hm => ?_, fun i hi hl => ?_⟩
 · obtain ⟨j, hj, e⟩ := List.getElem_of_mem hm
   rw [List.length_drop] at hj
   rw [List.getElem_drop] at e
   have h4 := (List.pairwise_iff_getElem.1 (List.nodup_iff_pairwise_ne.1 h1)) k (k + 1 + j) hk (by omega) (by omega)
   exact h4 e.symm
 · obtain ⟨j, hj, e⟩ := List.getElem_of_mem ((h2 i).2 hi)
   have hjk : k < j := by
    apply Classical.byContradiction
    intro hn
    have h4 : lv vs (O[j]'hj) ≤ lv vs (O[k]'hk) := by
     by_cases e2 : j = k
     · subst e2; exact Nat.le_refl _
     · exact h3 j k hj hk (by omega)
    rw [e] at h4
    omega
   refine List.mem_iff_getElem.2 ⟨j - (k + 1), by rw [List.length_drop]; omega, ?_⟩
   rw [List.getElem_drop, ← e]
   congr 1
   omega
/-- What stands there when the items from the place k on have been gone through. -/
theorem up_inv {l : List IT} {xs : List BL} {day : Int} {ps : List PK} {ib : Nat} {vs O : List Nat} (h : BillsOk l xs) (hv : LevOk l.length (pairs l xs) vs) (ho : Ord l.length vs O) (hb : ib < l.length) :
 ∀ (d k : Nat), k + d = O.length → ∀ i, i < l.length → lv (upF l xs day ps ib O k) i = if i ∈ O.drop k then wy (onL xs day ps) (codeAt l i) (codeAt l ib) else if i = ib then 1 else 0 := by
 intro d
 induction d with
 | zero =>
  intro k hk i hi
  obtain rfl : k = O.length := by omega
  rw [upF_all, List.drop_length, lv_set (by simpa using hb), lv_zeros]
  simp
 | succ d ih =>
  intro k hk i hi
  have hkl : k < O.length := by omega
  obtain ⟨h1, h2, h3⟩ := ho.behind hkl
  have hi2 := ih (k + 1) (by omega)
  have hlv := (bills_lvl h.1 hv).1
  have hpar : ∀ {x : BL} {p : Nat}, x ∈ xs → p < l.length → x.par = codeAt l p → lv vs p < lv vs (fiI l x.prt).toNat := fun {x p} hx hp e => by
   have h4 : lv vs (fiI l x.par).toNat < lv vs (fiI l x.prt).toNat := hlv _ (List.mem_map.2 ⟨x, hx, rfl⟩)
   rw [e, cat_fi h.1.1 hp] at h4
   simpa using h4
  obtain ⟨h5, h6⟩ := innU_at (day := day) (ps := ps) h1 xs (upF l xs day ps ib O (k + 1)) (upF_length _ _ _ _ _ _ _) (fun x hx e e2 => by
   have h4 := hpar hx h1 e
   rw [e2] at h4
   omega)
  rw [upF_pred hkl, List.drop_eq_getElem_cons hkl]
  by_cases e : i = O[k]'hkl
  · rw [if_pos (by rw [e]; exact List.mem_cons_self)]
    subst e
    rw [h5, hi2 _ hi, if_neg h2, wy_up0 (on_acy h day ps)]
    have e1 : (if (O[k]'hkl) = ib then 1 else 0) = (if codeAt l (O[k]'hkl) = codeAt l ib then 1 else 0) := by
     by_cases e2 : (O[k]'hkl) = ib
     · rw [if_pos e2, if_pos (by rw [e2])]
     · rw [if_neg e2, if_neg (fun e3 => e2 (cat_inj h.1.1 hi hb e3))]
    rw [e1]
    refine congrArg (HAdd.hAdd _) (sm_congr (fun e he => ?_))
    by_cases e2 : e.1 = codeAt l (O[k]'hkl)
    · rw [if_pos e2, if_pos e2]
      obtain ⟨x, hx, rfl⟩ := List.mem_map.1 he
      have hxm := onX_mem hx
      have hlo := h.1.mem hxm
      have h7 := h3 _ hlo.inb.2 (hpar hxm hi e2)
      have h8 := hi2 _ hlo.inb.2
      have h9 : codeAt l (pairOf l x).2 = x.prt := hlo.codes.2
      rw [if_pos h7, h9] at h8
      show lv _ (fiI l x.prt).toNat * x.qty.toNat = x.qty.toNat * _
      rw [Nat.mul_comm]
      exact congrArg (fun z => x.qty.toNat * z) h8
    · rw [if_neg e2, if_neg e2]
  · rw [h6 i e, hi2 i hi]
    have : i ∈ (O[k]'hkl) :: O.drop (k + 1) ↔ i ∈ O.drop (k + 1) := ⟨fun h => (List.mem_cons.1 h).resolve_left e, List.mem_cons_of_mem _⟩
    simp only [this]
theorem betw_off (l : List IT) : betw l false = fun _ => true := by funext s; rfl
/-- Both ways of reckoning give one number. -/
theorem up_done {l : List IT} {xs : List BL} {day : Int} {ps : List PK} {ia ib : Nat} {vs O : List Nat} {s t : ByteArray} (h : BillsOk l xs) (hv : LevOk l.length (pairs l xs) vs) (ho : Ord l.length vs O) (ha : ia < l.length) (hb : ib < l.length) (hs : codeAt l ia = s) (ht : codeAt l ib = t) :
 lv (upF l xs day ps ib O 0) ia = quV l xs s t day ps := by
 rw [up_inv h hv ho hb O.length 0 (by omega) ia ha, List.drop_zero, if_pos ((ho.2.1 ia).2 ha)]
 unfold quV pv
 rw [betw_off, thru_all, Nat.one_mul, onX_edges, hs, ht]
theorem stepU_skip {l : List IT} {day : Int} {ps : List PK} {p : Nat} {S : List Nat} {x : BL} (hp : p < S.length) (h : ¬(x.par = codeAt l p ∧ onB x day ps = true ∧ lv S (fiI l x.prt).toNat ≠ 0)) : stepU l day ps p S x = S := by
 unfold stepU
 by_cases h1 : x.par = codeAt l p ∧ onB x day ps = true
 · rw [if_pos h1]
   have h2 : lv S (fiI l x.prt).toNat = 0 := Classical.byContradiction (fun h2 => h ⟨h1.1, h1.2, h2⟩)
   rw [h2, Nat.zero_mul, Nat.add_zero, lv_get hp]
   exact List.set_getElem_self hp
 · rw [if_neg h1]
theorem stepU_add {l : List IT} {day : Int} {ps : List PK} {p : Nat} {S : List Nat} {x : BL} (h : x.par = codeAt l p ∧ onB x day ps = true ∧ lv S (fiI l x.prt).toNat ≠ 0) : stepU l day ps p S x = S.set p (lv S p + lv S (fiI l x.prt).toNat * x.qty.toNat) := by
 unfold stepU
 rw [if_pos ⟨h.1, h.2.1⟩]
end Go.Proofs.YtmnncinpepeocaaGreat

namespace Go.Proofs.YtmnncinpepeocaaGreat
open Go.RowKit

theorem own_pos {w : World} {base e K n : Nat} {v : Value} {xs : List Value} (h : w.ownsRow base e K v n xs) (h0 : 0 < n) : ∃ g c, v = .slice (some ⟨g, 0, none⟩) n c ∧ base ≤ g ∧ g < w.heap.size := by
 rcases h.2 with ⟨rfl, hx⟩ | ⟨g, cap, cur, rfl, hb, hg, _⟩
 · omega
 · exact ⟨g, cap, rfl, hb, lt_of_heap hg⟩
end Go.Proofs.YtmnncinpepeocaaGreat
