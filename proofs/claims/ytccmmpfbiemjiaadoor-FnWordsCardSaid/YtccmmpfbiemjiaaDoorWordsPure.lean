/-
  Joining and cutting again: the plain part. No program is named here.
-/
import Derived.Test.YtccmmpfbiemjiaaDoorStrs
import Derived.Test.YtccmmpfbiemjiaaDoorJoinLib
import Derived.Test.YtccmmpfbiemjiaaDoorWordsLib
namespace Go.Proofs.YtccmmpfbiemjiaaDoor
open Go.Lib

/-- Is s a word: some bytes, no space? -/
def goodB (s : ByteArray) : Bool := !s.data.toList.isEmpty && s.data.toList.all (fun c => c != 32)

theorem goodB_ne {s : ByteArray} (h : goodB s = true) : s.data.toList ≠ [] := by
  unfold goodB at h
  rw [Bool.and_eq_true] at h
  intro e
  rw [e] at h
  exact Bool.noConfusion h.1
theorem goodB_mem {s : ByteArray} (h : goodB s = true) : 32 ∉ s.data.toList := by
  unfold goodB at h
  rw [Bool.and_eq_true, List.all_eq_true] at h
  intro e
  have := h.2 32 e
  simp at this

theorem words_join : ∀ (x : List UInt8) (r : List (List UInt8)), (∀ y ∈ x :: r, 32 ∉ y) → wordsL (join (x :: r) [32]) = x :: r
  | x, [], h => by rw [join_one]; exact wordsL_plain x (h x (by simp))
  | x, y :: r, h => by
    have e : join (x :: y :: r) [32] = x ++ 32 :: join (y :: r) [32] := by
      rw [join_cons, join_cons]
      simp [joinTail]
    rw [e, wordsL_cut x _ (h x (by simp)), words_join y r (fun z hz => h z (by simp only [List.mem_cons] at hz ⊢; exact Or.inr hz))]

/-- Good strings are joined and cut again. -/
theorem split_join {ss : List ByteArray} (h : ∀ s ∈ ss, goodB s = true) : splitR (joinL ss) = (ss, true) := by
  cases ss with
  | nil => rfl
  | cons s r =>
    have hm : ∀ y ∈ s.data.toList :: r.map (·.data.toList), 32 ∉ y := by
      intro y hy
      have hy2 : y ∈ (s :: r).map (·.data.toList) := by simpa using hy
      obtain ⟨x, hx, rfl⟩ := List.mem_map.1 hy2
      exact goodB_mem (h x hx)
    have hw := words_join s.data.toList (r.map (·.data.toList)) hm
    have e : joinL (s :: r) = join (s.data.toList :: r.map (·.data.toList)) [32] := rfl
    rw [← e] at hw
    refine splitR_done ?_ (by rw [hw]; rfl) (fun x hx => goodB_ne (h x hx))
    intro e0
    rw [e0] at hw
    have : s.data.toList = [] := by
      have := (List.cons.inj hw).1
      exact this.symm
    exact goodB_ne (h s (by simp)) this

theorem join_words : ∀ l : List UInt8, join (wordsL l) [32] = l
  | [] => rfl
  | c :: r => by
    have ih := join_words r
    unfold wordsL
    by_cases hc : c = 32
    · rw [if_pos hc]
      cases hw : wordsL r with
      | nil => exact absurd hw (wordsL_ne r)
      | cons x xs =>
        rw [hw] at ih
        rw [join_cons] at ih ⊢
        rw [← ih, hc]
        simp [joinTail]
    · rw [if_neg hc]
      cases hw : wordsL r with
      | nil => exact absurd hw (wordsL_ne r)
      | cons x xs =>
        rw [hw] at ih
        simp only
        rw [join_cons] at ih ⊢
        rw [← ih]
        rfl

/-- What has been cut is joined again. -/
theorem join_split {l : List UInt8} {ss : List ByteArray} (h : splitR l = (ss, true)) : joinL ss = l := by
  unfold splitR at h
  by_cases h0 : l = []
  · rw [if_pos h0] at h
    rw [← (Prod.mk.inj h).1, h0]
    rfl
  · rw [if_neg h0] at h
    by_cases h1 : [] ∈ wordsL l
    · rw [if_pos h1] at h
      exact absurd (Prod.mk.inj h).2 (by decide)
    · rw [if_neg h1] at h
      rw [← (Prod.mk.inj h).1]
      have e : ((wordsL l).map strOf).map (·.data.toList) = wordsL l := by
        rw [List.map_map]
        conv => rhs; rw [← List.map_id (wordsL l)]
        exact List.map_congr_left fun x _ => rfl
      unfold joinL
      rw [e]
      exact join_words l

theorem join_size {ss : List ByteArray} : ss.length + bytesOf ss ≤ (joinL ss).length + 1 := by
  cases ss with
  | nil => simp [bytesOf]
  | cons x r =>
    have e : Lib.lens (r.map (·.data.toList)) = bytesOf r := by
      unfold Lib.lens bytesOf
      rw [List.map_map]
      congr 1
    have ex : x.data.toList.length = x.size := by rw [Array.length_toList]; rfl
    simp only [joinL, List.map_cons, Lib.join_cons, List.length_append, Lib.joinTail_length, e, List.length_map, List.length_cons, List.length_nil, bytesOf, List.sum_cons] at *
    omega

theorem join_bound {s : ByteArray} {qs : List ByteArray} (h : splitR s.data.toList = (qs, true)) (hs : s.size ≤ 6000) : qs.length + bytesOf qs ≤ 1048576 := by
  have h1 := join_size (ss := qs)
  have h2 : (joinL qs).length = s.size := by rw [join_split h, Array.length_toList]; rfl
  omega

theorem bytes_bound {ss : List ByteArray} {b : Nat} (h : ∀ s ∈ ss, s.size ≤ b) : bytesOf ss ≤ ss.length * b := by
  induction ss with
  | nil => simp [bytesOf]
  | cons x r ih =>
    have h1 := ih (fun s hs => h s (by simp [hs]))
    have h2 := h x (by simp)
    simp only [bytesOf, List.map_cons, List.sum_cons, List.length_cons, Nat.succ_mul] at *
    omega
end Go.Proofs.YtccmmpfbiemjiaaDoor
