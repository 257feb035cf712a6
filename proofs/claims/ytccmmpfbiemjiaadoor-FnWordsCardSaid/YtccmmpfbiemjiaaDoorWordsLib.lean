/-
  The plain part of SplitWords: the words of a text, cut at single spaces. No program is named here.
-/
import Derived.WalkKit
import Derived.Lib.SplitLaws
import Derived.Lib.SlicesS
namespace Go.Proofs.YtccmmpfbiemjiaaDoor
open Go.Lib

/-- The pieces between the spaces. -/
def wordsL : List UInt8 → List (List UInt8)
  | [] => [[]]
  | c :: r => if c = 32 then [] :: wordsL r else match wordsL r with
    | [] => [[c]]
    | x :: xs => (c :: x) :: xs

theorem wordsL_plain : ∀ (x : List UInt8), 32 ∉ x → wordsL x = [x]
  | [], _ => rfl
  | c :: r, h => by
    have hc : c ≠ 32 := fun e => h (by simp [e])
    have hr : 32 ∉ r := fun e => h (by simp [e])
    rw [wordsL, if_neg hc, wordsL_plain r hr]

theorem wordsL_cut : ∀ (x y : List UInt8), 32 ∉ x → wordsL (x ++ 32 :: y) = x :: wordsL y
  | [], y, _ => by rw [List.nil_append, wordsL, if_pos rfl]
  | c :: r, y, h => by
    have hc : c ≠ 32 := fun e => h (by simp [e])
    have hr : 32 ∉ r := fun e => h (by simp [e])
    rw [List.cons_append, wordsL, if_neg hc, wordsL_cut r y hr]

theorem index_miss : ∀ (s : List UInt8), index s [32] = -1 → 32 ∉ s
  | [], _ => by simp
  | c :: r, h => by
    unfold index at h
    by_cases hp : List.isPrefixOf [32] (c :: r) = true
    · rw [if_pos hp] at h; cases h
    · rw [if_neg hp] at h
      by_cases hi : (index r [32] == -1) = true
      · have := index_miss r (beq_iff_eq.1 hi)
        have hc : ¬ 32 = c := by
          intro e; subst e; exact hp (by simp [List.isPrefixOf])
        simp [this, hc]
      · rw [if_neg hi] at h
        have := index_ge r [32]
        omega

theorem index_hit : ∀ (s : List UInt8) (i : Nat), index s [32] = (i : Int) → ∃ x y, s = x ++ 32 :: y ∧ x.length = i ∧ 32 ∉ x
  | [], i, h => by simp [index] at h
  | c :: r, i, h => by
    unfold index at h
    by_cases hp : List.isPrefixOf [32] (c :: r) = true
    · rw [if_pos hp] at h
      have hc : c = 32 := by simp [List.isPrefixOf] at hp; exact hp.symm
      exact ⟨[], r, by rw [hc]; rfl, by simp; omega, by simp⟩
    · rw [if_neg hp] at h
      by_cases hi : (index r [32] == -1) = true
      · rw [if_pos hi] at h; omega
      · rw [if_neg hi] at h
        obtain ⟨x, y, hr, hl, hx⟩ := index_hit r (i - 1) (by have := index_ge r [32]; have h2 : index r [32] ≠ -1 := fun e => hi (beq_iff_eq.2 e); omega)
        refine ⟨c :: x, y, by rw [hr]; rfl, ?_, ?_⟩
        · have := index_ge r [32]
          have h2 : index r [32] ≠ -1 := fun e => hi (beq_iff_eq.2 e)
          simp; omega
        · have hc : ¬ 32 = c := by intro e; subst e; exact hp (by simp [List.isPrefixOf])
          simp [hx, hc]

theorem splitK_words : ∀ (k : Nat) (s : List UInt8), s.count 32 ≤ k → splitK [32] 0 k s = wordsL s
  | 0, s, h => by
    rw [splitK, wordsL_plain s (List.count_eq_zero.1 (by omega))]
  | k + 1, s, h => by
    by_cases hi : index s [32] = -1
    · rw [splitK, if_pos (beq_iff_eq.2 hi), wordsL_plain s (index_miss s hi)]
    · have hge := index_ge s [32]
      obtain ⟨i, hi2⟩ : ∃ i : Nat, index s [32] = (i : Int) := ⟨(index s [32]).toNat, by omega⟩
      obtain ⟨x, y, rfl, hl, hx⟩ := index_hit s i hi2
      have hc : (x ++ 32 :: y).count 32 = y.count 32 + 1 := by
        rw [List.count_append, List.count_eq_zero.2 hx, List.count_cons_self]; omega
      rw [splitK, if_neg (by rw [beq_iff_eq]; exact hi), hi2, Int.toNat_natCast, Nat.add_zero, wordsL_cut x y hx]
      congr 1
      · rw [← hl, List.take_left]
      · rw [show i + List.length [(32 : UInt8)] = (x ++ [32]).length by simp; omega, show x ++ 32 :: y = (x ++ [32]) ++ y by simp, List.drop_left]
        exact splitK_words k y (by omega)

/-- What strings.Split gives at a space. -/
theorem split_words (s : List UInt8) : splitK [32] 0 (count s [32]) s = wordsL s := splitK_words _ s (by rw [count_one]; exact Nat.le_refl _)

theorem wordsL_ne (s : List UInt8) : wordsL s ≠ [] := by
  cases s with
  | nil => simp [wordsL]
  | cons c r =>
    unfold wordsL
    split
    · simp
    · split <;> simp

theorem wordsL_length : ∀ s : List UInt8, (wordsL s).length ≤ s.length + 1
  | [] => by simp [wordsL]
  | c :: r => by
    have := wordsL_length r
    unfold wordsL
    split
    · simp; omega
    · split
      · simp
      · rename_i h; rw [h] at this; simp at this ⊢; omega

/-- A text as a string. -/
def strOf (l : List UInt8) : ByteArray := ⟨l.toArray⟩

/-- What SplitWords answers: the words and whether there are any. -/
def splitR (l : List UInt8) : List ByteArray × Bool := if l = [] then ([], true) else if [] ∈ wordsL l then ([], false) else ((wordsL l).map strOf, true)

theorem splitR_nil : splitR [] = ([], true) := rfl
theorem splitR_no {l : List UInt8} (h0 : l ≠ []) (h : [] ∈ wordsL l) : splitR l = ([], false) := by unfold splitR; rw [if_neg h0, if_pos h]
theorem splitR_yes {l : List UInt8} (h0 : l ≠ []) (h : [] ∉ wordsL l) : splitR l = ((wordsL l).map strOf, true) := by unfold splitR; rw [if_neg h0, if_neg h]

/-- The loop: what has been cut so far (out), and where the current word begins (f). -/
structure Cut (l : List UInt8) (k f : Nat) (out : List ByteArray) : Prop where
  le : f ≤ k
  top : k ≤ l.length
  plain : 32 ∉ (l.drop f).take (k - f)
  whole : out.map (·.data.toList) ++ wordsL (l.drop f) = wordsL l
  full : ∀ x ∈ out, x.data.toList ≠ []

theorem cut_zero (l : List UInt8) : Cut l 0 0 [] := ⟨Nat.le_refl _, Nat.zero_le _, by simp, by simp, by simp⟩

theorem cut_next {l : List UInt8} {k f : Nat} {out : List ByteArray} {b : UInt8} (h : Cut l k f out) (hk : l[k]? = some b) (hb : b ≠ 32) : Cut l (k + 1) f out := by
  have hlt : k < l.length := (List.getElem?_eq_some_iff.1 hk).1
  refine ⟨by have := h.le; omega, by omega, ?_, h.whole, h.full⟩
  have hle := h.le
  rw [show k + 1 - f = (k - f) + 1 by omega, List.take_add_one, List.getElem?_drop, show f + (k - f) = k by omega, hk]
  simp only [Option.toList_some, List.mem_append, List.mem_singleton, not_or]
  exact ⟨h.plain, fun e => hb e.symm⟩

theorem drop_cut {l : List UInt8} {k f : Nat} (hf : f ≤ k) (hk : l[k]? = some 32) : l.drop f = (l.drop f).take (k - f) ++ 32 :: l.drop (k + 1) := by
  have hlt : k < l.length := (List.getElem?_eq_some_iff.1 hk).1
  conv => lhs; rw [← List.take_append_drop (k - f) (l.drop f)]
  rw [List.drop_drop, show f + (k - f) = k by omega, List.drop_eq_getElem_cons hlt]
  rw [List.getElem?_eq_getElem hlt] at hk
  rw [Option.some.inj hk]

/-- At a space that is not the first byte of a word: the word is done. -/
theorem cut_word {l : List UInt8} {k f : Nat} {out : List ByteArray} {p : ByteArray} (h : Cut l k f out) (hk : l[k]? = some 32) (hne : f < k) (hp : p.data.toList = (l.drop f).take (k - f)) : Cut l (k + 1) (k + 1) (out ++ [p]) := by
  have hlt : k < l.length := (List.getElem?_eq_some_iff.1 hk).1
  refine ⟨Nat.le_refl _, by omega, by simp, ?_, ?_⟩
  · rw [List.map_append, List.map_cons, List.map_nil, List.append_assoc, List.singleton_append, ← h.whole, drop_cut h.le hk, wordsL_cut _ _ h.plain, hp]
  · intro x hx
    rcases List.mem_append.1 hx with h1 | h1
    · exact h.full x h1
    · rw [List.mem_singleton.1 h1, hp]
      intro e
      have := congrArg List.length e
      rw [List.length_take, List.length_drop] at this
      simp at this
      omega

/-- At the end: the last word is done. -/
theorem cut_last {l : List UInt8} {f : Nat} {out : List ByteArray} {p : ByteArray} (h : Cut l l.length f out) (hne : f < l.length) (hp : p.data.toList = (l.drop f).take (l.length - f)) :
    (out ++ [p]).map (·.data.toList) = wordsL l ∧ ∀ x ∈ out ++ [p], x.data.toList ≠ [] := by
  have e : (l.drop f).take (l.length - f) = l.drop f := List.take_of_length_le (by rw [List.length_drop]; omega)
  have hpl := h.plain
  rw [e] at hpl hp
  refine ⟨?_, ?_⟩
  · rw [List.map_append, List.map_cons, List.map_nil, ← h.whole, wordsL_plain _ hpl, hp]
  · intro x hx
    rcases List.mem_append.1 hx with h1 | h1
    · exact h.full x h1
    · rw [List.mem_singleton.1 h1, hp]
      intro e2
      have := congrArg List.length e2
      rw [List.length_drop] at this
      simp at this
      omega

/-- A word without bytes. -/
theorem cut_empty {l : List UInt8} {k : Nat} {out : List ByteArray} (h : Cut l k k out) (hk : l[k]? = some 32 ∨ k = l.length) : [] ∈ wordsL l := by
  rw [← h.whole, List.mem_append]
  right
  rcases hk with hk | hk
  · rw [drop_cut (Nat.le_refl k) hk, Nat.sub_self, List.take_zero, List.nil_append, wordsL, if_pos rfl]
    simp
  · rw [hk, List.drop_length]
    simp [wordsL]

theorem strOf_data (x : ByteArray) : strOf x.data.toList = x := by cases x; simp [strOf]

/-- All words are there. -/
theorem splitR_done {l : List UInt8} {out : List ByteArray} (h0 : l ≠ []) (h : out.map (·.data.toList) = wordsL l) (hf : ∀ x ∈ out, x.data.toList ≠ []) : splitR l = (out, true) := by
  have e : [] ∉ wordsL l := by
    rw [← h]
    intro hm
    obtain ⟨x, hx, hx2⟩ := List.mem_map.1 hm
    exact hf x hx hx2
  rw [splitR_yes h0 e, ← h, List.map_map]
  congr 1
  conv => rhs; rw [← List.map_id out]
  exact List.map_congr_left fun x _ => strOf_data x
end Go.Proofs.YtccmmpfbiemjiaaDoor
