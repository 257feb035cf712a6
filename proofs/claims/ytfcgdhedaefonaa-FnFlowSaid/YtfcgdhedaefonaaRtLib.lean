/-
  What steps and routings are, and what they take, in pure terms. No walk.
-/
import Derived.Test.YtfcgdhedaefonaaRTN
import Derived.Test.YtfcgdhedaefonaaIsCodeLib
import Derived.Test.YtfcgdhedaefonaaFndLib
import Derived.Test.YtfcgdhedaefonaaStrOrd
import Derived.WalkKit
import Derived.Lib.Hide
namespace Go.Proofs.Ytfcgdhedaefonaa
open Go.RowKit

def StOk (x : ST) : Prop := isCode.codeB x.cen = true ∧ (0 ≤ x.stu ∧ x.stu ≤ 1000) ∧ (0 ≤ x.run ∧ x.run ≤ 1000)
open Classical in
noncomputable def stB (x : ST) : Bool := decide (StOk x)
open Classical in
theorem stB_yes {x : ST} (h : StOk x) : stB x = true := decide_eq_true h
open Classical in
theorem stB_no {x : ST} (h : ¬StOk x) : stB x = false := decide_eq_false h
open Classical in
theorem stB_iff {x : ST} : stB x = true ↔ StOk x := by unfold stB; exact decide_eq_true_iff
/-- The first k steps are right. -/
def StTo (xs : List ST) (k : Nat) : Prop := ∀ i (hi : i < xs.length), i < k → StOk (xs[i]'hi)
def RtOk (r : RT) : Prop := isCode.codeB r.item = true ∧ (1 ≤ r.steps.length ∧ r.steps.length ≤ 6) ∧ StTo r.steps r.steps.length
open Classical in
noncomputable def rtB (r : RT) : Bool := decide (RtOk r)
open Classical in
theorem rtB_yes {r : RT} (h : RtOk r) : rtB r = true := decide_eq_true h
open Classical in
theorem rtB_no {r : RT} (h : ¬RtOk r) : rtB r = false := decide_eq_false h
open Classical in
theorem rtB_iff {r : RT} : rtB r = true ↔ RtOk r := by unfold rtB; exact decide_eq_true_iff
theorem StTo.zero (xs : List ST) : StTo xs 0 := fun _ _ h => absurd h (Nat.not_lt_zero _)
theorem StTo.succ {xs : List ST} {k : Nat} (h : StTo xs k) (hk : k < xs.length) (h1 : StOk (xs[k]'hk)) : StTo xs (k + 1) := fun i hi hlt => by
  by_cases e : i = k
  · subst e; exact h1
  · exact h i hi (by omega)
theorem StTo.all {xs : List ST} {k : Nat} (h : StTo xs k) (hk : xs.length ≤ k) : StTo xs xs.length := fun i hi _ => h i hi (by omega)
theorem RtOk.step {r : RT} (h : RtOk r) {i : Nat} (hi : i < r.steps.length) : StOk (r.steps[i]'hi) := h.2.2 i hi hi
/-- The first k routings are right, with ascending items. -/
def RtsTo (l : List RT) (k : Nat) : Prop := ∀ i (hi : i < l.length), i < k → RtOk (l[i]'hi) ∧ ∀ (_ : 0 < i), strLt (l[i - 1]'(by omega)).item (l[i]'hi).item
def RtsOk (l : List RT) : Prop := RtsTo l l.length ∧ l.length ≤ 12
open Classical in
noncomputable def rtsB (l : List RT) : Bool := decide (RtsOk l)
open Classical in
theorem rtsB_yes {l : List RT} (h : RtsOk l) : rtsB l = true := decide_eq_true h
open Classical in
theorem rtsB_no {l : List RT} (h : ¬RtsOk l) : rtsB l = false := decide_eq_false h
open Classical in
theorem rtsB_iff {l : List RT} : rtsB l = true ↔ RtsOk l := by unfold rtsB; exact decide_eq_true_iff
theorem RtsTo.zero (l : List RT) : RtsTo l 0 := fun _ _ h => absurd h (Nat.not_lt_zero _)
theorem RtsTo.succ {l : List RT} {k : Nat} (h : RtsTo l k) (hk : k < l.length) (h1 : RtOk (l[k]'hk)) (h2 : ∀ (_ : 0 < k), strLt (l[k - 1]'(by omega)).item (l[k]'hk).item) : RtsTo l (k + 1) := by
  intro i hi hlt
  by_cases e : i = k
  · subst e; exact ⟨h1, h2⟩
  · exact h i hi (by omega)
theorem RtsTo.all {l : List RT} {k : Nat} (h : RtsTo l k) (hk : l.length ≤ k) : RtsTo l l.length := fun i hi _ => h i hi (by omega)
theorem RtsTo.no1 {l : List RT} {k : Nat} (hk : k < l.length) (h : ¬RtOk (l[k]'hk)) : rtsB l = false := rtsB_no (fun h2 => h (h2.1 k hk hk).1)
theorem RtsTo.no2 {l : List RT} {k : Nat} (hk : k < l.length) (h0 : 0 < k) (h : ¬strLt (l[k - 1]'(by omega)).item (l[k]'hk).item) : rtsB l = false := rtsB_no (fun h2 => h ((h2.1 k hk hk).2 h0))
/-- Where the routing of an item is first found, -1 for nowhere. -/
def fiR (l : List RT) (s : ByteArray) : Int := fndI (l.map RT.item) s
theorem fiR_at {l : List RT} {s : ByteArray} {k : Nat} (hk : k < l.length) (h : (l[k]'hk).item = s) (hb : ∀ j (hj : j < l.length), j < k → (l[j]'hj).item ≠ s) : fiR l s = k :=
  fnd_at (ns := l.map RT.item) (by simpa using hk) (by simpa using h) (fun j hj => by simpa using hb j (by omega) hj)
theorem fiR_no {l : List RT} {s : ByteArray} (hb : ∀ j (hj : j < l.length), (l[j]'hj).item ≠ s) : fiR l s = -1 :=
  fnd_no (ns := l.map RT.item) (fun j hj => by simpa using hb j (by simpa using hj))
/-- A number, and whether it is one. -/
def NumR (o : Option Int) (w : World) (e : Ending) (w' : World) : Prop := e = .returned (.tuple #[.int .i64 (o.getD 0), .bool o.isSome]) ∧ Below w.heap.size w w'
/-- A number is returned. -/
def IntR (z : Int) (w : World) (e : Ending) (w' : World) : Prop := e = .returned (.int .i64 z) ∧ Below w.heap.size w w'
/-- How long a step takes. -/
def stT (x : ST) (q : Int) : Int := x.stu + x.run * q
def QOk (q : Int) : Prop := 1 ≤ q ∧ q ≤ 100000
open Classical in
noncomputable def stO (x : ST) (q : Int) : Option Int := if StOk x ∧ QOk q then some (stT x q) else none
open Classical in
theorem stO_yes {x : ST} {q : Int} (h : StOk x) (hq : QOk q) : stO x q = some (stT x q) := if_pos ⟨h, hq⟩
open Classical in
theorem stO_no {x : ST} {q : Int} (h : ¬(StOk x ∧ QOk q)) : stO x q = none := if_neg h
theorem stT_lo {x : ST} {q : Int} (h : StOk x) (hq : QOk q) : 0 ≤ stT x q := by
  unfold stT
  have h1 : 0 ≤ x.run * q := Int.mul_nonneg h.2.2.1 (by have := hq.1; omega)
  have := h.2.1.1
  omega
theorem run_hi {x : ST} {q : Int} (h : StOk x) (hq : QOk q) : 0 ≤ x.run * q ∧ x.run * q ≤ 100000000 := by
  refine ⟨Int.mul_nonneg h.2.2.1 (by have := hq.1; omega), ?_⟩
  have h1 : x.run * q ≤ 1000 * q := Int.mul_le_mul_of_nonneg_right h.2.2.2 (by have := hq.1; omega)
  have := hq.2
  omega
theorem stT_hi {x : ST} {q : Int} (h : StOk x) (hq : QOk q) : stT x q ≤ 100001000 := by
  unfold stT
  have := (run_hi h hq).2
  have := h.2.1.2
  omega
/-- How long the first k steps take together. -/
def sumT (xs : List ST) (q : Int) (k : Nat) : Int := ((xs.take k).map (fun x => stT x q)).sum
theorem sumT_zero (xs : List ST) (q : Int) : sumT xs q 0 = 0 := rfl
theorem sumT_succ {xs : List ST} {q : Int} {k : Nat} (hk : k < xs.length) : sumT xs q (k + 1) = sumT xs q k + stT (xs[k]'hk) q := by
  unfold sumT
  rw [List.take_succ_eq_append_getElem hk, List.map_append, List.sum_append]
  simp only [List.map_cons, List.map_nil, List.sum_cons, List.sum_nil, Int.add_zero]
theorem sumT_bound {xs : List ST} {q : Int} (h : StTo xs xs.length) (hq : QOk q) : ∀ k, k ≤ xs.length → 0 ≤ sumT xs q k ∧ sumT xs q k ≤ 100001000 * k
  | 0, _ => by rw [sumT_zero]; omega
  | k + 1, hk => by
    have h1 := sumT_bound h hq k (by omega)
    have h2 := stT_lo (h k hk hk) hq
    have h3 := stT_hi (h k hk hk) hq
    rw [sumT_succ hk]
    omega
open Classical in
noncomputable def rtO (r : RT) (q : Int) : Option Int := if RtOk r ∧ QOk q then some (sumT r.steps q r.steps.length) else none
open Classical in
theorem rtO_yes {r : RT} {q : Int} (h : RtOk r) (hq : QOk q) : rtO r q = some (sumT r.steps q r.steps.length) := if_pos ⟨h, hq⟩
open Classical in
theorem rtO_no {r : RT} {q : Int} (h : ¬(RtOk r ∧ QOk q)) : rtO r q = none := if_neg h
/-- How long the i-th step takes, 0 for none. -/
def tAt (xs : List ST) (q : Int) (i : Nat) : Int := (xs.map (fun x => stT x q)).getD i 0
theorem tAt_get {xs : List ST} {q : Int} {i : Nat} (hi : i < xs.length) : tAt xs q i = stT (xs[i]'hi) q := by
  unfold tAt
  rw [List.getD_eq_getElem?_getD, List.getElem?_map, List.getElem?_eq_getElem hi]; rfl
/-- The first of the first k steps that take longest. -/
def bestI (xs : List ST) (q : Int) : Nat → Nat
  | 0 => 0
  | k + 1 => if tAt xs q (bestI xs q k) < tAt xs q k then k else bestI xs q k
theorem bestI_succ (xs : List ST) (q : Int) (k : Nat) : bestI xs q (k + 1) = if tAt xs q (bestI xs q k) < tAt xs q k then k else bestI xs q k := rfl
theorem bestI_one (xs : List ST) (q : Int) : bestI xs q 1 = 0 := by
  rw [bestI_succ]; split <;> rfl
theorem bestI_lt {xs : List ST} {q : Int} : ∀ k, 0 < k → bestI xs q k < k
  | 0, h => absurd h (Nat.lt_irrefl _)
  | k + 1, _ => by
    rw [bestI_succ]
    split
    · omega
    · rcases Nat.eq_zero_or_pos k with e | e
      · subst e; exact Nat.zero_lt_one
      · have := bestI_lt (xs := xs) (q := q) k e; omega
theorem bestI_max {xs : List ST} {q : Int} : ∀ k i, i < k → tAt xs q i ≤ tAt xs q (bestI xs q k) ∧ (i < bestI xs q k → tAt xs q i < tAt xs q (bestI xs q k))
  | 0, i, h => absurd h (Nat.not_lt_zero _)
  | k + 1, i, h => by
    rw [bestI_succ]
    by_cases hc : tAt xs q (bestI xs q k) < tAt xs q k
    · rw [if_pos hc]
      by_cases e : i = k
      · subst e; exact ⟨Int.le_refl _, fun h => absurd h (Nat.lt_irrefl _)⟩
      · have h1 := (bestI_max (xs := xs) (q := q) k i (by omega)).1
        exact ⟨by omega, fun _ => by omega⟩
    · rw [if_neg hc]
      by_cases e : i = k
      · subst e
        refine ⟨by omega, fun h2 => ?_⟩
        rcases Nat.eq_zero_or_pos i with e0 | e0
        · subst e0; exact absurd h2 (Nat.not_lt_zero _)
        · have := bestI_lt (xs := xs) (q := q) i e0; omega
      · exact bestI_max k i (by omega)
/-- Whatever has these properties is it. -/
theorem bestI_only {xs : List ST} {q : Int} {k b : Nat} (hb : b < k) (h1 : ∀ i, i < k → tAt xs q i ≤ tAt xs q b) (h2 : ∀ i, i < b → tAt xs q i < tAt xs q b) : bestI xs q k = b := by
  have hl := bestI_lt (xs := xs) (q := q) k (by omega)
  have h3 := bestI_max (xs := xs) (q := q) k b hb
  rcases Nat.lt_trichotomy (bestI xs q k) b with h | h | h
  · have := h2 _ h; have := h3.1; omega
  · exact h
  · have := h3.2 h; have := h1 _ hl; omega
open Classical in
noncomputable def slowI (r : RT) (q : Int) : Int := if RtOk r ∧ QOk q then (bestI r.steps q r.steps.length : Int) else -1
open Classical in
theorem slowI_yes {r : RT} {q : Int} (h : RtOk r) (hq : QOk q) : slowI r q = (bestI r.steps q r.steps.length : Int) := if_pos ⟨h, hq⟩
open Classical in
theorem slowI_no {r : RT} {q : Int} (h : ¬(RtOk r ∧ QOk q)) : slowI r q = -1 := if_neg h
/-- One piece through the first k steps, and the longest of them. -/
def preR (xs : List ST) (k : Nat) : Int := ((xs.take k).map ST.run).sum
def maxR (xs : List ST) (k : Nat) : Int := ((xs.take k).map ST.run).foldl max 0
theorem preR_zero (xs : List ST) : preR xs 0 = 0 := rfl
theorem maxR_zero (xs : List ST) : maxR xs 0 = 0 := rfl
theorem preR_succ {xs : List ST} {k : Nat} (hk : k < xs.length) : preR xs (k + 1) = preR xs k + (xs[k]'hk).run := by
  unfold preR
  rw [List.take_succ_eq_append_getElem hk, List.map_append, List.sum_append]
  simp only [List.map_cons, List.map_nil, List.sum_cons, List.sum_nil, Int.add_zero]
theorem maxR_succ {xs : List ST} {k : Nat} (hk : k < xs.length) : maxR xs (k + 1) = max (maxR xs k) (xs[k]'hk).run := by
  unfold maxR
  rw [List.take_succ_eq_append_getElem hk, List.map_append, List.foldl_append]
  rfl
theorem preR_bound {xs : List ST} (h : StTo xs xs.length) : ∀ k, k ≤ xs.length → 0 ≤ preR xs k ∧ preR xs k ≤ 1000 * k
  | 0, _ => by rw [preR_zero]; omega
  | k + 1, hk => by
    have h1 := preR_bound h k (by omega)
    have h2 := (h k hk hk).2.2
    rw [preR_succ hk]
    omega
theorem maxR_bound {xs : List ST} (h : StTo xs xs.length) : ∀ k, k ≤ xs.length → 0 ≤ maxR xs k ∧ maxR xs k ≤ 1000
  | 0, _ => by rw [maxR_zero]; omega
  | k + 1, hk => by
    have h1 := maxR_bound h k (by omega)
    have h2 := (h k hk hk).2.2
    rw [maxR_succ hk]
    omega
/-- When the k-th piece (from 1 on) has gone through the step i; 0 for none. -/
def rdy (xs : List ST) (k i : Nat) : Int := if k = 0 then 0 else preR xs (i + 1) + ((k : Int) - 1) * maxR xs (i + 1)
theorem rdy_zero (xs : List ST) (i : Nat) : rdy xs 0 i = 0 := rfl
theorem rdy_succ (xs : List ST) (k i : Nat) : rdy xs (k + 1) i = preR xs (i + 1) + (k : Int) * maxR xs (i + 1) := by
  unfold rdy
  rw [if_neg (by omega)]
  congr 2
  omega
/-- When the piece before the step i is ready. -/
def lastv (xs : List ST) (k i : Nat) : Int := if i = 0 then 0 else rdy xs (k + 1) (i - 1)
theorem lastv_zero (xs : List ST) (k : Nat) : lastv xs k 0 = 0 := rfl
theorem lastv_succ (xs : List ST) (k i : Nat) : lastv xs k (i + 1) = rdy xs (k + 1) i := by unfold lastv; rw [if_neg (by omega)]; rfl
theorem lastv_is (xs : List ST) (k i : Nat) : lastv xs k i = preR xs i + (k : Int) * maxR xs i := by
  cases i with
  | zero => rw [lastv_zero, preR_zero, maxR_zero]; simp
  | succ i => rw [lastv_succ, rdy_succ]
theorem flow_step {xs : List ST} (h : StTo xs xs.length) (k i : Nat) (hi : i < xs.length) : max (lastv xs k i) (rdy xs k i) + (xs[i]'hi).run = rdy xs (k + 1) i := by
  rw [lastv_is, rdy_succ, preR_succ hi, maxR_succ hi]
  have h1 := preR_bound h i (by omega)
  have h2 := maxR_bound h i (by omega)
  have h3 := (h i hi hi).2.2
  cases k with
  | zero =>
    rw [rdy_zero]
    simp
    omega
  | succ k =>
    rw [rdy_succ, preR_succ hi, maxR_succ hi]
    have hk : (((k + 1 : Nat) : Int)) = (k : Int) + 1 := by omega
    rw [hk]
    by_cases hm : maxR xs i ≤ (xs[i]'hi).run
    · rw [Int.max_eq_right hm]
      have h4 : ((k : Int) + 1) * maxR xs i ≤ ((k : Int) + 1) * (xs[i]'hi).run := Int.mul_le_mul_of_nonneg_left hm (by omega)
      rw [Int.add_mul, Int.one_mul] at h4 ⊢
      rw [Int.max_eq_right (by rw [Int.add_mul, Int.one_mul] at h4; omega)]
      rw [Int.add_mul, Int.one_mul]
      omega
    · have hm2 : (xs[i]'hi).run ≤ maxR xs i := by omega
      rw [Int.max_eq_left hm2, Int.add_mul, Int.one_mul]
      omega
/-- When the last of q pieces has gone through the last step. -/
def flT (xs : List ST) (q : Int) : Int := preR xs xs.length + (q - 1) * maxR xs xs.length
def FOk (q : Int) : Prop := 1 ≤ q ∧ q ≤ 200
open Classical in
noncomputable def flO (r : RT) (q : Int) : Option Int := if RtOk r ∧ FOk q then some (flT r.steps q) else none
open Classical in
theorem flO_yes {r : RT} {q : Int} (h : RtOk r) (hq : FOk q) : flO r q = some (flT r.steps q) := if_pos ⟨h, hq⟩
open Classical in
theorem flO_no {r : RT} {q : Int} (h : ¬(RtOk r ∧ FOk q)) : flO r q = none := if_neg h
theorem flT_rdy {xs : List ST} {q : Nat} (hn : 0 < xs.length) (hq : 0 < q) : rdy xs q (xs.length - 1) = flT xs q := by
  obtain ⟨k, rfl⟩ : ∃ k, q = k + 1 := ⟨q - 1, by omega⟩
  rw [rdy_succ, show xs.length - 1 + 1 = xs.length by omega]
  unfold flT
  congr 2
  omega
theorem rdy_bound {xs : List ST} (h : StTo xs xs.length) (k i : Nat) (hk : k ≤ 200) (hi : i < xs.length) (hn : xs.length ≤ 6) : 0 ≤ rdy xs k i ∧ rdy xs k i ≤ 1000000 := by
  cases k with
  | zero => rw [rdy_zero]; omega
  | succ k =>
    rw [rdy_succ]
    have h1 := preR_bound h (i + 1) (by omega)
    have h2 := maxR_bound h (i + 1) (by omega)
    have h3 : (k : Int) * maxR xs (i + 1) ≤ (k : Int) * 1000 := Int.mul_le_mul_of_nonneg_left h2.2 (by omega)
    have h4 : 0 ≤ (k : Int) * maxR xs (i + 1) := Int.mul_nonneg (by omega) h2.1
    omega
/-- Setups and runs apart. -/
def setups (xs : List ST) (k : Nat) : Int := ((xs.take k).map ST.stu).sum
theorem setups_succ {xs : List ST} {k : Nat} (hk : k < xs.length) : setups xs (k + 1) = setups xs k + (xs[k]'hk).stu := by
  unfold setups
  rw [List.take_succ_eq_append_getElem hk, List.map_append, List.sum_append]
  simp only [List.map_cons, List.map_nil, List.sum_cons, List.sum_nil, Int.add_zero]
theorem sumT_parts (xs : List ST) (q : Int) : ∀ k, k ≤ xs.length → sumT xs q k = setups xs k + preR xs k * q
  | 0, _ => by rw [sumT_zero, preR_zero]; simp [setups]
  | k + 1, hk => by
    rw [sumT_succ hk, setups_succ hk, preR_succ hk, sumT_parts xs q k (by omega), Int.add_mul]
    unfold stT
    omega
theorem sumT_joined (xs : List ST) (a b : Int) : sumT xs a xs.length + sumT xs b xs.length = sumT xs (a + b) xs.length + setups xs xs.length := by
  rw [sumT_parts xs a _ (Nat.le_refl _), sumT_parts xs b _ (Nat.le_refl _), sumT_parts xs (a + b) _ (Nat.le_refl _), Int.mul_add]
  omega
theorem setups_bound {xs : List ST} (h : StTo xs xs.length) : ∀ k, k ≤ xs.length → 0 ≤ setups xs k ∧ setups xs k ≤ 1000 * k
  | 0, _ => by simp [setups]
  | k + 1, hk => by
    have h1 := setups_bound h k (by omega)
    have h2 := (h k hk hk).2.1
    rw [setups_succ hk]
    omega
end Go.Proofs.Ytfcgdhedaefonaa
