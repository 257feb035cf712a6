/-
  Calendars: arithmetic. No program is named here.
-/
import Derived.WalkKit
import Derived.Lib.Hide
namespace Go.Proofs.Ytkhonlcekjckoaa

/-- A calendar is valid. -/
def IsCal (ws : List Int) (es : List (Int × Int)) : Prop :=
  ws.length = 7 ∧ es.length ≤ 20 ∧ (∀ k, k < 7 → 0 ≤ ws.getD k 0 ∧ ws.getD k 0 ≤ 24) ∧
  (∀ k, k < es.length → (0 ≤ (es.getD k (0, 0)).1 ∧ (es.getD k (0, 0)).1 ≤ 999) ∧ (0 ≤ (es.getD k (0, 0)).2 ∧ (es.getD k (0, 0)).2 ≤ 24) ∧ (0 < k → (es.getD (k - 1) (0, 0)).1 < (es.getD k (0, 0)).1))
instance (ws : List Int) (es : List (Int × Int)) : Decidable (IsCal ws es) := by unfold IsCal; infer_instance

/-- The first hours of a week are hours. -/
def WkTo (ws : List Int) (k : Nat) : Prop := ∀ j, j < k → 0 ≤ ws.getD j 0 ∧ ws.getD j 0 ≤ 24
/-- An exception is one, behind the one before it. -/
def ExAt (es : List (Int × Int)) (k : Nat) : Prop := (0 ≤ (es.getD k (0, 0)).1 ∧ (es.getD k (0, 0)).1 ≤ 999) ∧ (0 ≤ (es.getD k (0, 0)).2 ∧ (es.getD k (0, 0)).2 ≤ 24) ∧ (0 < k → (es.getD (k - 1) (0, 0)).1 < (es.getD k (0, 0)).1)
def ExTo (es : List (Int × Int)) (k : Nat) : Prop := ∀ j, j < k → ExAt es j
theorem isCal_all {ws : List Int} {es : List (Int × Int)} (h7 : ws.length = 7) (h20 : es.length ≤ 20) (hw : WkTo ws 7) (he : ExTo es es.length) : decide (IsCal ws es) = true := decide_eq_true ⟨h7, h20, hw, he⟩
theorem isCal_no7 {ws : List Int} {es : List (Int × Int)} (h : ws.length ≠ 7) : decide (IsCal ws es) = false := decide_eq_false (fun h' => h h'.1)
theorem isCal_no20 {ws : List Int} {es : List (Int × Int)} (h : 20 < es.length) : decide (IsCal ws es) = false := decide_eq_false (fun h' => by have := h'.2.1; omega)
theorem isCal_noW {ws : List Int} {es : List (Int × Int)} {k : Nat} (hk : k < 7) (hl : k < ws.length) (h : ¬(0 ≤ ws[k]'hl ∧ ws[k]'hl ≤ 24)) : decide (IsCal ws es) = false :=
  decide_eq_false (fun h' => h (by have := h'.2.2.1 k hk; simpa [List.getD, hl] using this))
theorem isCal_noE {ws : List Int} {es : List (Int × Int)} {k : Nat} (hk : k < es.length) (h : ¬ExAt es k) : decide (IsCal ws es) = false := decide_eq_false (fun h' => h (h'.2.2.2 k hk))
theorem wkTo_succ {ws : List Int} {k : Nat} (h : WkTo ws k) (hl : k < ws.length) (hk : 0 ≤ ws[k]'hl ∧ ws[k]'hl ≤ 24) : WkTo ws (k + 1) := by
  intro j hj
  by_cases e : j = k
  · subst e; simpa [List.getD, hl] using hk
  · exact h j (by omega)
theorem exTo_succ {es : List (Int × Int)} {k : Nat} (h : ExTo es k) (hk : ExAt es k) : ExTo es (k + 1) := by
  intro j hj
  by_cases e : j = k
  · subst e; exact hk
  · exact h j (by omega)
theorem getE {es : List (Int × Int)} {k : Nat} (h : k < es.length) : es.getD k (0, 0) = es[k]'h := by simp [List.getD, h]

/-- The hours of a day. -/
def hOf (ws : List Int) (es : List (Int × Int)) (d : Nat) : Int :=
  match es.find? (fun x => x.1 == (d : Int)) with
  | some x => x.2
  | none => ws.getD (d % 7) 0

theorem hOf_at {ws : List Int} {es : List (Int × Int)} {d k : Nat} (hk : k < es.length) (h : (es[k]'hk).1 = (d : Int)) (hb : ∀ j, (hj : j < k) → (es[j]'(by omega)).1 ≠ (d : Int)) : hOf ws es d = (es[k]'hk).2 := by
  have e : es.find? (fun x => x.1 == (d : Int)) = some (es[k]'hk) := by
    rw [List.find?_eq_some_iff_getElem]
    refine ⟨by simp [h], k, hk, rfl, fun j hj => ?_⟩
    simp [hb j hj]
  unfold hOf
  rw [e]
theorem hOf_none {ws : List Int} {es : List (Int × Int)} {d : Nat} (hb : ∀ j, (hj : j < es.length) → (es[j]'hj).1 ≠ (d : Int)) : hOf ws es d = ws.getD (d % 7) 0 := by
  have e : es.find? (fun x => x.1 == (d : Int)) = none := by
    rw [List.find?_eq_none]
    intro x hx
    obtain ⟨j, hj, rfl⟩ := List.getElem_of_mem hx
    simp [hb j hj]
  unfold hOf
  rw [e]
theorem hOf_bound {ws : List Int} {es : List (Int × Int)} (h : IsCal ws es) (d : Nat) : 0 ≤ hOf ws es d ∧ hOf ws es d ≤ 24 := by
  unfold hOf
  split
  · rename_i x hx
    obtain ⟨j, hj, rfl⟩ := List.getElem_of_mem (List.mem_of_find?_eq_some hx)
    have := (h.2.2.2 j hj).2.1
    simpa [List.getD, hj] using this
  · exact h.2.2.1 _ (Nat.mod_lt _ (by omega))

/-- Whether there is work on a day. -/
def wOf (ws : List Int) (es : List (Int × Int)) (d : Nat) : Int := min (hOf ws es d) 1
theorem wOf_bit {ws : List Int} {es : List (Int × Int)} (h : IsCal ws es) (d : Nat) : (wOf ws es d = 0 ∧ hOf ws es d = 0) ∨ (wOf ws es d = 1 ∧ 0 < hOf ws es d) := by
  have := hOf_bound h d
  unfold wOf
  omega

/-- The sum over the days before n. -/
def pre (f : Nat → Int) : Nat → Int
  | 0 => 0
  | n + 1 => pre f n + f n
/-- A day within the calendar's days. -/
def cl (x : Int) : Nat := (min (max x 0) 1000).toNat
/-- The sum over the days from a on and before b. -/
def cnt (f : Nat → Int) (a b : Int) : Int := if a ≤ b then pre f (cl b) - pre f (cl a) else 0

theorem cl_le (x : Int) : cl x ≤ 1000 := by unfold cl; omega
theorem cl_mono {a b : Int} (h : a ≤ b) : cl a ≤ cl b := by unfold cl; omega
theorem cl_in {x : Int} (h0 : 0 ≤ x) (h1 : x ≤ 1000) : (cl x : Int) = x := by unfold cl; omega
theorem cl_nat {n : Nat} (h : n ≤ 1000) : cl (n : Int) = n := by unfold cl; omega
theorem pre_mono {f : Nat → Int} (hf : ∀ d, 0 ≤ f d) {a b : Nat} (h : a ≤ b) : pre f a ≤ pre f b := by
  induction b with
  | zero => have : a = 0 := by omega
            subst this; exact Int.le_refl _
  | succ n ih =>
    by_cases e : a = n + 1
    · subst e; exact Int.le_refl _
    · have := ih (by omega)
      have := hf n
      simp only [pre]; omega
theorem pre_bound {f : Nat → Int} {B : Int} (hf : ∀ d, 0 ≤ f d ∧ f d ≤ B) (n : Nat) : 0 ≤ pre f n ∧ pre f n ≤ B * n := by
  induction n with
  | zero => simp [pre]
  | succ n ih =>
    have := hf n
    have e : B * ((n + 1 : Nat) : Int) = B * n + B := by push_cast; rw [Int.mul_add]; omega
    simp only [pre]
    omega
theorem pre_succ (f : Nat → Int) (n : Nat) : pre f (n + 1) = pre f n + f n := rfl
theorem cnt_bound {f : Nat → Int} {B : Int} (hf : ∀ d, 0 ≤ f d ∧ f d ≤ B) (a b : Int) : 0 ≤ cnt f a b ∧ cnt f a b ≤ B * 1000 := by
  have hB : 0 ≤ B := by have := hf 0; omega
  unfold cnt
  split
  · rename_i h
    have h1 := pre_mono (fun d => (hf d).1) (cl_mono h)
    have h2 := pre_bound hf (cl b)
    have h3 := pre_bound hf (cl a)
    have h4 : B * (cl b : Int) ≤ B * 1000 := Int.mul_le_mul_of_nonneg_left (by have := cl_le b; omega) hB
    omega
  · have : 0 ≤ B * 1000 := by omega
    omega
theorem cnt_start (f : Nat → Int) {a k : Int} (hk : k = max a 0) : cnt f a k = 0 := by
  subst hk
  unfold cnt
  rw [if_pos (by omega), show cl (max a 0) = cl a by unfold cl; omega]
  omega
theorem cnt_step (f : Nat → Int) {a : Int} {k : Nat} (hk : max a 0 ≤ (k : Int)) (h : k < 1000) : cnt f a ((k + 1 : Nat) : Int) = cnt f a k + f k := by
  unfold cnt
  rw [if_pos (by omega), if_pos (by omega), cl_nat (by omega), cl_nat (by omega)]
  simp only [pre]
  omega
theorem cnt_end (f : Nat → Int) {a b : Int} {k : Nat} (hk : max a 0 ≤ (k : Int)) (hb : (k : Int) ≤ max b (max a 0)) (h : b ≤ (k : Int) ∨ 999 < (k : Int)) : cnt f a k = cnt f a b := by
  by_cases hab : a ≤ b
  · unfold cnt
    rw [if_pos (by omega), if_pos hab]
    have e : cl (k : Int) = cl b := by unfold cl; omega
    rw [e]
  · have e : (k : Int) = max a 0 ∨ 999 < (k : Int) := by omega
    have e2 : cl (k : Int) = cl a := by unfold cl; omega
    unfold cnt
    rw [if_pos (by omega), if_neg hab, e2]
    omega
/-- Workdays between two days, whichever is first. -/
def wb (ws : List Int) (es : List (Int × Int)) (a b : Int) : Int := pre (wOf ws es) (cl b) - pre (wOf ws es) (cl a)
theorem wb_cnt (ws : List Int) (es : List (Int × Int)) (a b : Int) : cnt (wOf ws es) a b - cnt (wOf ws es) b a = wb ws es a b := by
  unfold cnt wb
  by_cases h : a ≤ b
  · by_cases h' : b ≤ a
    · have : a = b := by omega
      subst this; simp
    · rw [if_pos h, if_neg h']; omega
  · rw [if_neg h, if_pos (by omega)]; omega
end Go.Proofs.Ytkhonlcekjckoaa
