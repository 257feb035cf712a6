/-
  A stable sort of places by keys that fall, as arithmetic: rows of numbers as functions, exchanges, blocks exchanged, rotations, and what a merge in place leaves. No program is named here.
-/
import Derived.WalkKit
import Derived.Lib.Hide
namespace Go.Proofs.Ytgdoahdkidlndaa.srt

/-- x stands ahead of y: its key is greater, or the keys are equal and x is the lesser. -/
def R (key : Int → Int) (x y : Int) : Prop := key y < key x ∨ (key x = key y ∧ x < y)
theorem R.trans {key : Int → Int} {x y z : Int} (h : R key x y) (h' : R key y z) : R key x z := by unfold R at *; omega
theorem R.of_lt {key : Int → Int} {x y : Int} (h : key y < key x) : R key x y := Or.inl h
theorem R.of_not {key : Int → Int} {x y : Int} (h : ¬key x < key y) (hxy : x < y) : R key x y := by unfold R; omega
theorem R.ne {key : Int → Int} {x y : Int} (h : R key x y) : x ≠ y := by rintro rfl; unfold R at h; omega

/-- Sorted from a up to b. -/
def Srtd (key : Int → Int) (f : Nat → Int) (a b : Nat) : Prop := ∀ i j, a ≤ i → i < j → j < b → R key (f i) (f j)
/-- From a up to b stands what stood there, elsewhere nothing has changed. -/
def Into (f f' : Nat → Int) (a b : Nat) : Prop := (∀ k, (k < a ∨ b ≤ k) → f' k = f k) ∧ (∀ i, a ≤ i → i < b → ∃ i', a ≤ i' ∧ i' < b ∧ f' i = f i')
/-- All are places below n. -/
def InR (f : Nat → Int) (n : Nat) : Prop := ∀ i, i < n → 0 ≤ f i ∧ f i < n

theorem Into.refl (f : Nat → Int) (a b : Nat) : Into f f a b := ⟨fun _ _ => rfl, fun i h h' => ⟨i, h, h', rfl⟩⟩
theorem Into.trans {f g h : Nat → Int} {a b : Nat} (x : Into f g a b) (y : Into g h a b) : Into f h a b :=
  ⟨fun k hk => (y.1 k hk).trans (x.1 k hk), fun i h1 h2 => by
    obtain ⟨j, h3, h4, e⟩ := y.2 i h1 h2
    obtain ⟨j', h5, h6, e'⟩ := x.2 j h3 h4
    exact ⟨j', h5, h6, e.trans e'⟩⟩
theorem Into.widen {f g : Nat → Int} {a b a' b' : Nat} (x : Into f g a b) (ha : a' ≤ a) (hb : b ≤ b') : Into f g a' b' :=
  ⟨fun k hk => x.1 k (by omega), fun i h1 h2 => by
    by_cases h : a ≤ i ∧ i < b
    · obtain ⟨j, h3, h4, e⟩ := x.2 i h.1 h.2
      exact ⟨j, by omega, by omega, e⟩
    · exact ⟨i, h1, h2, x.1 i (by omega)⟩⟩
theorem Into.inR {f g : Nat → Int} {a b n : Nat} (x : Into f g a b) (h : InR f n) (hb : b ≤ n) : InR g n := by
  intro i hi
  by_cases hk : a ≤ i ∧ i < b
  · obtain ⟨j, h3, h4, e⟩ := x.2 i hk.1 hk.2
    rw [e]; exact h j (by omega)
  · rw [x.1 i (by omega)]; exact h i hi

/-- Two exchanged. -/
def swp (f : Nat → Int) (i j : Nat) : Nat → Int := fun k => if k = i then f j else if k = j then f i else f k
/-- Two blocks of k exchanged. -/
def swr (f : Nat → Int) (a b k : Nat) : Nat → Int := fun x => if a ≤ x ∧ x < a + k then f (x - a + b) else if b ≤ x ∧ x < b + k then f (x - b + a) else f x
/-- What stands from m up to e comes ahead of what stands from s up to m. -/
def rot (f : Nat → Int) (s m e : Nat) : Nat → Int := fun k => if k < s ∨ e ≤ k then f k else if k < s + (e - m) then f (k + (m - s)) else f (k - (e - m))

theorem swr_zero (f : Nat → Int) (a b : Nat) : swr f a b 0 = f := by
  funext x
  unfold swr
  rw [if_neg (by omega), if_neg (by omega)]
theorem swr_succ {f : Nat → Int} {a b i : Nat} (h : a + i < b) : swp (swr f a b i) (a + i) (b + i) = swr f a b (i + 1) := by
  funext x
  unfold swp swr
  repeat' split
  all_goals first | rfl | omega | (congr 1; omega)
theorem rot_id1 {f : Nat → Int} {m e : Nat} : rot f m m e = f := by
  funext k
  unfold rot
  repeat' split
  all_goals first | rfl | omega | (congr 1; omega)
theorem rot_id2 {f : Nat → Int} {s m : Nat} : rot f s m m = f := by
  funext k
  unfold rot
  repeat' split
  all_goals first | rfl | omega | (congr 1; omega)
theorem rot_gt {f : Nat → Int} {m i j : Nat} (hi : i ≤ m) (h : j < i) : rot (swr f (m - i) m j) (m - i + j) m (m + j) = rot f (m - i) m (m + j) := by
  funext k
  unfold rot swr
  repeat' split
  all_goals first | rfl | omega | (congr 1; omega)
theorem rot_lt {f : Nat → Int} {m i j : Nat} (hi : i ≤ m) (h : i < j) : rot (swr f (m - i) (m + j - i) i) (m - i) m (m + (j - i)) = rot f (m - i) m (m + j) := by
  funext k
  unfold rot swr
  repeat' split
  all_goals first | rfl | omega | (congr 1; omega)
theorem rot_eq {f : Nat → Int} {m i : Nat} (hi : i ≤ m) : swr f (m - i) m i = rot f (m - i) m (m + i) := by
  funext k
  unfold rot swr
  repeat' split
  all_goals first | rfl | omega | (congr 1; omega)
/-- One carried upwards. -/
theorem rot_up {f : Nat → Int} {a i : Nat} (h : a + 1 ≤ i) : swp (rot f a (a + 1) i) (i - 1) i = rot f a (a + 1) (i + 1) := by
  funext k
  simp only [rot, swp]
  repeat' split
  all_goals first | rfl | omega | (congr 1; omega)
/-- One carried downwards. -/
theorem rot_down {f : Nat → Int} {m i : Nat} (h : i + 1 ≤ m) : swp (rot f (i + 1) m (m + 1)) (i + 1) i = rot f i m (m + 1) := by
  funext k
  simp only [rot, swp]
  repeat' split
  all_goals first | rfl | omega | (congr 1; omega)
theorem rot_into {f : Nat → Int} {s m e a b : Nat} (hs : s ≤ m) (he : m ≤ e) (ha : a ≤ s) (hb : e ≤ b) : Into f (rot f s m e) a b := by
  refine ⟨fun k hk => ?_, fun i h1 h2 => ?_⟩
  · unfold rot; rw [if_pos (by omega)]
  · unfold rot
    repeat' split
    · exact ⟨i, h1, h2, rfl⟩
    · exact ⟨_, by omega, by omega, rfl⟩
    · exact ⟨_, by omega, by omega, rfl⟩

/-- What a merge begins with. -/
structure Pre (key : Int → Int) (f : Nat → Int) (a m b : Nat) : Prop where
  l : Srtd key f a m
  r : Srtd key f m b
  x : ∀ i j, a ≤ i → i < m → m ≤ j → j < b → f i < f j

theorem rot_lo {f : Nat → Int} {s m e k : Nat} (h : k < s) : rot f s m e k = f k := by unfold rot; rw [if_pos (by omega)]
theorem rot_hi {f : Nat → Int} {s m e k : Nat} (h : e ≤ k) : rot f s m e k = f k := by unfold rot; rw [if_pos (by omega)]
theorem rot_1 {f : Nat → Int} {s m e k : Nat} (h : s ≤ k) (h' : k < s + (e - m)) (hs : s ≤ m) (he : m ≤ e) : rot f s m e k = f (k + (m - s)) := by unfold rot; rw [if_neg (by omega), if_pos h']
theorem rot_2 {f : Nat → Int} {s m e k : Nat} (h : s + (e - m) ≤ k) (h' : k < e) : rot f s m e k = f (k - (e - m)) := by unfold rot; rw [if_neg (by omega), if_neg (by omega)]

theorem le_R {key : Int → Int} {f : Nat → Int} {a b i j : Nat} (h : Srtd key f a b) (ha : a ≤ i) (hij : i ≤ j) (hj : j < b) {y : Int} (hr : R key (f j) y) : R key (f i) y := by
  by_cases e : i = j
  · subst e; exact hr
  · exact (h i j ha (by omega) hj).trans hr
theorem R_le {key : Int → Int} {f : Nat → Int} {a b i j : Nat} (h : Srtd key f a b) (ha : a ≤ i) (hij : i ≤ j) (hj : j < b) {y : Int} (hr : R key y (f i)) : R key y (f j) := by
  by_cases e : i = j
  · subst e; exact hr
  · exact hr.trans (h i j ha (by omega) hj)

section
variable {key : Int → Int} {f : Nat → Int} {a m b s e : Nat}

theorem Pre.first (p : Pre key f a m b) (h2 : s ≤ m) (h3 : m ≤ e) (h4 : e ≤ b) : Pre key (rot f s m e) a s (s + (e - m)) := by
  refine ⟨fun i j hi hij hj => ?_, fun i j hi hij hj => ?_, fun i j hi hi' hj hj' => ?_⟩
  · rw [rot_lo (by omega), rot_lo (by omega)]; exact p.l i j hi hij (by omega)
  · rw [rot_1 hi (by omega) h2 h3, rot_1 (by omega) hj h2 h3]; exact p.r _ _ (by omega) (by omega) (by omega)
  · rw [rot_lo hi', rot_1 hj hj' h2 h3]; exact p.x _ _ hi (by omega) (by omega) (by omega)
theorem Pre.second (p : Pre key f a m b) (h1 : a ≤ s) (h3 : m ≤ e) : Pre key (rot f s m e) (s + (e - m)) e b := by
  refine ⟨fun i j hi hij hj => ?_, fun i j hi hij hj => ?_, fun i j hi hi' hj hj' => ?_⟩
  · rw [rot_2 hi (by omega), rot_2 (by omega) hj]; exact p.l _ _ (by omega) (by omega) (by omega)
  · rw [rot_hi hi, rot_hi (by omega)]; exact p.r _ _ (by omega) hij hj
  · rw [rot_2 hi hi', rot_hi hj]; exact p.x _ _ (by omega) (by omega) (by omega) hj'
theorem Pre.across (p : Pre key f a m b) (h1 : a ≤ s) (h2 : s ≤ m) (h3 : m ≤ e) (h4 : e ≤ b) (hs : s = a ∨ e = b ∨ R key (f (s - 1)) (f e)) (he : s = m ∨ e = m ∨ R key (f (e - 1)) (f s)) :
    ∀ i j, a ≤ i → i < s + (e - m) → s + (e - m) ≤ j → j < b → R key (rot f s m e i) (rot f s m e j) := by
  intro i j hi hi' hj hj'
  by_cases c1 : i < s
  · rw [rot_lo c1]
    by_cases c2 : j < e
    · rw [rot_2 hj c2]; exact p.l _ _ hi (by omega) (by omega)
    · rw [rot_hi (by omega)]
      rcases hs with hs | hs | hs
      · omega
      · omega
      · exact le_R p.l hi (by omega) (by omega) (R_le p.r (by omega) (by omega) hj' hs)
  · rw [rot_1 (by omega) hi' h2 h3]
    by_cases c2 : j < e
    · rw [rot_2 hj c2]
      rcases he with he | he | he
      · omega
      · omega
      · exact le_R p.r (by omega) (by omega) (by omega) (R_le p.l (by omega) (by omega) (by omega) he)
    · rw [rot_hi (by omega)]; exact p.r _ _ (by omega) (by omega) hj'
theorem Pre.congr (p : Pre key f a m b) {f' : Nat → Int} (h : ∀ k, a ≤ k → k < b → f' k = f k) (ham : a ≤ m) (hmb : m ≤ b) : Pre key f' a m b :=
  ⟨fun i j h1 h2 h3 => by rw [h i h1 (by omega), h j (by omega) (by omega)]; exact p.l i j h1 h2 h3, fun i j h1 h2 h3 => by rw [h i (by omega) (by omega), h j (by omega) h3]; exact p.r i j h1 h2 h3,
    fun i j h1 h2 h3 h4 => by rw [h i h1 (by omega), h j (by omega) h4]; exact p.x i j h1 h2 h3 h4⟩
theorem Pre.done (p : Pre key f a m b) (h : m = a ∨ m = b) : Srtd key f a b := by
  rcases h with rfl | rfl
  · exact p.r
  · exact p.l
theorem Pre.done_l (p : Pre key f a a b) : Srtd key f a b := p.r
theorem Pre.done_r (p : Pre key f a b b) : Srtd key f a b := p.l
/-- The two parts merged, the whole is. -/
theorem merged {g g1 g2 : Nat → Int} {mid : Nat} (h : ∀ i j, a ≤ i → i < mid → mid ≤ j → j < b → R key (g i) (g j)) (hm1 : a ≤ mid) (hm2 : mid ≤ b) (i1 : Into g g1 a mid) (s1 : Srtd key g1 a mid) (i2 : Into g1 g2 mid b) (s2 : Srtd key g2 mid b) :
    Srtd key g2 a b ∧ Into g g2 a b := by
  refine ⟨fun i j hi hij hj => ?_, (i1.widen (Nat.le_refl _) hm2).trans (i2.widen hm1 (Nat.le_refl _))⟩
  by_cases c1 : i < mid
  · by_cases c2 : j < mid
    · rw [i2.1 i (Or.inl c1), i2.1 j (Or.inl c2)]; exact s1 i j hi hij c2
    · obtain ⟨i', h3, h4, e1⟩ := i1.2 i hi c1
      obtain ⟨j', h5, h6, e2⟩ := i2.2 j (by omega) hj
      rw [i2.1 i (Or.inl c1), e1, e2, i1.1 j' (Or.inr h5)]
      exact h i' j' h3 h4 h5 h6
  · exact s2 i j (by omega) hij hj
/-- One of the left into the right. -/
theorem Pre.one_l (p : Pre key f a (a + 1) b) {i : Nat} (h1 : a + 1 ≤ i) (h2 : i ≤ b) (hl : i = a + 1 ∨ R key (f (i - 1)) (f a)) (hr : i = b ∨ R key (f a) (f i)) : Srtd key (rot f a (a + 1) i) a b := by
  intro x y hx hxy hy
  by_cases c : y < a + (i - (a + 1))
  · rw [rot_1 hx (by omega) (by omega) h1, rot_1 (by omega) c (by omega) h1]; exact p.r _ _ (by omega) (by omega) (by omega)
  · by_cases c1 : y < i
    · have e1 : y - (i - (a + 1)) = a := by omega
      rw [rot_2 (by omega) c1, e1, rot_1 hx (by omega) (by omega) h1]
      rcases hl with hl | hl
      · omega
      · exact le_R p.r (by omega) (by omega) (by omega) hl
    · rw [rot_hi (show i ≤ y by omega)]
      have hay : R key (f a) (f y) := by
        rcases hr with hr | hr
        · omega
        · exact R_le p.r (by omega) (by omega) hy hr
      by_cases c2 : x < a + (i - (a + 1))
      · rw [rot_1 hx c2 (by omega) h1]; exact p.r _ _ (by omega) (by omega) hy
      · by_cases c3 : x < i
        · rw [rot_2 (by omega) c3, show x - (i - (a + 1)) = a by omega]; exact hay
        · rw [rot_hi (by omega)]; exact p.r _ _ (by omega) hxy hy
/-- One of the right into the left. -/
theorem Pre.one_r (p : Pre key f a m (m + 1)) {i : Nat} (h1 : i ≤ m) (hl : i = a ∨ R key (f (i - 1)) (f m)) (hr : i = m ∨ R key (f m) (f i)) (ha : a ≤ i) : Srtd key (rot f i m (m + 1)) a (m + 1) := by
  intro x y hx hxy hy
  by_cases c : y < i
  · rw [rot_lo (by omega), rot_lo c]; exact p.l _ _ hx hxy (by omega)
  · by_cases c1 : y = i
    · subst c1
      rw [rot_1 (Nat.le_refl _) (by omega) h1 (by omega), show y + (m - y) = m by omega, rot_lo hxy]
      rcases hl with hl | hl
      · omega
      · exact le_R p.l hx (by omega) (by omega) hl
    · rw [rot_2 (show i + (m + 1 - m) ≤ y by omega) (by omega)]
      by_cases c2 : x < i
      · rw [rot_lo c2]; exact p.l _ _ hx (by omega) (by omega)
      · by_cases c3 : x = i
        · subst c3
          rw [rot_1 (Nat.le_refl _) (by omega) h1 (by omega), show x + (m - x) = m by omega]
          rcases hr with hr | hr
          · omega
          · exact R_le p.l ha (by omega) (by omega) hr
        · rw [rot_2 (by omega) (by omega)]; exact p.l _ _ (by omega) (by omega) (by omega)
end

/-- While f i goes down to its place. -/
structure Ins (key : Int → Int) (f : Nat → Int) (a i : Nat) (g : Nat → Int) (j : Nat) : Prop where
  out : ∀ k, (k < a ∨ i < k) → g k = f k
  here : g j = f i
  els : ∀ p, a ≤ p → p ≤ i → p ≠ j → ∃ q, a ≤ q ∧ q < i ∧ g p = f q
  srt : ∀ p q, a ≤ p → p < q → q ≤ i → p ≠ j → q ≠ j → R key (g p) (g q)
  aft : ∀ q, j < q → q ≤ i → R key (f i) (g q)

theorem Ins.start {key : Int → Int} {f g : Nat → Int} {a i : Nat} (hi : Into f g a i) (hs : Srtd key g a i) : Ins key f a i g i :=
  ⟨fun k hk => hi.1 k (by omega), hi.1 i (Or.inr (Nat.le_refl _)), fun p h1 h2 h3 => hi.2 p h1 (by omega), fun p q h1 h2 h3 h4 h5 => hs p q h1 h2 (by omega), fun q h1 h2 => by omega⟩
theorem swp_l (f : Nat → Int) (i j : Nat) : swp f i j i = f j := if_pos rfl
theorem swp_r {f : Nat → Int} {i j : Nat} (h : i ≠ j) : swp f i j j = f i := by unfold swp; rw [if_neg (fun e => h e.symm), if_pos rfl]
theorem swp_o {f : Nat → Int} {i j k : Nat} (h : k ≠ i) (h' : k ≠ j) : swp f i j k = f k := by unfold swp; rw [if_neg h, if_neg h']
theorem Ins.step {key : Int → Int} {f g : Nat → Int} {a i j : Nat} (h : Ins key f a i g (j + 1)) (ha : a ≤ j) (hj : j + 1 ≤ i) (hr : R key (f i) (g j)) : Ins key f a i (swp g (j + 1) j) j := by
  refine ⟨fun k hk => ?_, ?_, fun p h1 h2 h3 => ?_, fun p q h1 h2 h3 h4 h5 => ?_, fun q h1 h2 => ?_⟩
  · rw [swp_o (by omega) (by omega)]; exact h.out k hk
  · rw [swp_r (by omega)]; exact h.here
  · by_cases e : p = j + 1
    · subst e; rw [swp_l]; exact h.els j ha (by omega) (by omega)
    · rw [swp_o e h3]; exact h.els p h1 h2 e
  · by_cases e : p = j + 1
    · subst e; rw [swp_l, swp_o (by omega) (by omega)]; exact h.srt j q ha (by omega) h3 (by omega) (by omega)
    · rw [swp_o e h4]
      by_cases e' : q = j + 1
      · subst e'; rw [swp_l]; exact h.srt p j h1 (by omega) (by omega) e (by omega)
      · rw [swp_o e' h5]; exact h.srt p q h1 h2 h3 e e'
  · by_cases e : q = j + 1
    · subst e; rw [swp_l]; exact hr
    · rw [swp_o e (by omega)]; exact h.aft q (by omega) h2
theorem Ins.done {key : Int → Int} {f g : Nat → Int} {a i j : Nat} (h : Ins key f a i g j) (ha : a ≤ j) (hj : j ≤ i) (hb : j = a ∨ R key (g (j - 1)) (f i)) : Into f g a (i + 1) ∧ Srtd key g a (i + 1) := by
  refine ⟨⟨fun k hk => h.out k (by omega), fun p h1 h2 => ?_⟩, fun p q h1 h2 h3 => ?_⟩
  · by_cases e : p = j
    · subst e; exact ⟨i, by omega, by omega, h.here⟩
    · obtain ⟨q, h3, h4, h5⟩ := h.els p h1 (by omega) e
      exact ⟨q, h3, by omega, h5⟩
  · by_cases e : p = j
    · subst e; rw [h.here]; exact h.aft q h2 (by omega)
    · by_cases e' : q = j
      · subst e'
        rw [h.here]
        rcases hb with hb | hb
        · omega
        · by_cases e2 : p = q - 1
          · rw [e2]; exact hb
          · exact (h.srt p (q - 1) h1 (by omega) (by omega) e (by omega)).trans hb
      · exact h.srt p q h1 h2 (by omega) e e'
theorem Ins.lesser {key : Int → Int} {f g : Nat → Int} {a b i j : Nat} (h : Ins key f a i g (j + 1)) (ha : a ≤ j) (hj : j + 1 ≤ i) (hi : i < b) (hasc : ∀ p q, a ≤ p → p < q → q < b → f p < f q) (hn : ¬key (g j) < key (f i)) : R key (g j) (f i) := by
  obtain ⟨q, h1, h2, e⟩ := h.els j ha (by omega) (by omega)
  exact R.of_not hn (by rw [e]; exact hasc q i h1 h2 hi)
end Go.Proofs.Ytgdoahdkidlndaa.srt
