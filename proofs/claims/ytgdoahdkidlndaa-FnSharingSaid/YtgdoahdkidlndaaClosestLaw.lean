/-
  The walk of the law FnClosest.
-/
import Derived.Test.YtgdoahdkidlndaaRows
import Derived.Test.YtgdoahdkidlndaaInts
import Derived.Test.YtgdoahdkidlndaaShareLib
import Derived.Test.YtgdoahdkidlndaaUpToLib
import Derived.Test.YtgdoahdkidlndaaIsShLib
import Derived.Test.YtgdoahdkidlndaaAppLib
import Derived.Test.YtgdoahdkidlndaaAppSpec
import Derived.Test.YtgdoahdkidlndaaAppImpl
import Derived.Test.YtgdoahdkidlndaaLrLib
import Derived.Test.YtgdoahdkidlndaaLrFacts
import Derived.Test.YtgdoahdkidlndaaLrImpl
import Derived.Test.YtgdoahdkidlndaaLrSpec
import Derived.Test.YtgdoahdkidlndaaIsSh
import Derived.Test.YtgdoahdkidlndaaIsShImpl
import Derived.Test.YtgdoahdkidlndaaSumQ
import Derived.Test.YtgdoahdkidlndaaDraw
import Derived.Test.YtgdoahdkidlndaaShareDraw2
import Derived.WalkKit
import Derived.WalkSpells
import Derived.WalkSmall
import Derived.BigQuiet
import Derived.Deep.QuietTactic
import Derived.Lib.Hide
namespace Go.Proofs.Ytgdoahdkidlndaa
open Go.RowKit

theorem lrL_at {t : Int} {ws : List Int} {k : Nat} (h : k < ws.length) : (lrL t ws)[k]? = some (lrF t ws k) := by simp [lrL, h]

/-- A cell of a slice, by its place. -/
theorem Ints.at {w : World} {v : Value} {xs : List Int} (h : Ints w v xs) {k : Nat} {x : Int} (hx : xs[k]? = some x) : ∃ (b o c : Nat), v = .slice (some ⟨b, o, none⟩) xs.length c ∧ xs.length ≤ c ∧ w.cell? ⟨b, o + k, none⟩ = some (.int .i64 x) := by
  rcases h with ⟨rfl, _⟩ | ⟨_, b, o, c, hv, hc, hcell⟩
  · simp at hx
  · exact ⟨b, o, c, hv, hc, hcell.2 k x hx⟩

/-- How far the k-th share is from the exact one. -/
def far (t : Int) (ws : List Int) (F : Nat → Int) (k : Nat) : Int := max (F k * sumL ws - t * ws.getD k 0) (-(F k * sumL ws - t * ws.getD k 0))
theorem far_bound {t : Int} {ws : List Int} (h : AreW ws) {F : Nat → Int} {k : Nat} {b : Int} (hb : b = 0 ∨ b = 1) (hF : F k = sgn t * (qq t ws k + b)) : 0 ≤ far t ws F k ∧ far t ws F k ≤ 40000000 := by
  unfold far
  rw [hF, dist_form h k hb]
  have hq := (qc (t := t) h k).2
  have hS := h.total
  rcases hb with rfl | rfl <;> simp only [Int.zero_mul, Int.one_mul, Int.mul_zero] <;> omega
theorem far_sum {t : Int} {ws : List Int} {F : Nat → Int} {k : Nat} (h : ∀ i, i < k → 0 ≤ far t ws F i ∧ far t ws F i ≤ 40000000) : 0 ≤ sumF k (far t ws F) ∧ sumF k (far t ws F) ≤ k * 40000000 := by
  have h1 := sumF_le (n := k) (f := fun _ => 0) (g := far t ws F) (fun i hi => (h i hi).1)
  have h2 := sumF_le (n := k) (f := far t ws F) (g := fun _ => 40000000) (fun i hi => (h i hi).2)
  rw [sumF_const] at h1 h2
  omega
/-- The shares by sums, as a function. -/
def appF (t : Int) (ws : List Int) (k : Nat) : Int := share t ws (k + 1) - share t ws k
theorem lr_far {t : Int} {ws : List Int} (h : AreW ws) (k : Nat) : 0 ≤ far t ws (lrF t ws) k ∧ far t ws (lrF t ws) k ≤ 40000000 := by
  obtain ⟨al, g⟩ := lr_greedy (t := t) h
  exact far_bound (F := lrF t ws) h (g.bit k) (lr_form g k)
theorem app_far {t : Int} {ws : List Int} (h : CanS t ws) (k : Nat) (hk : k < ws.length) : 0 ≤ far t ws (appF t ws) k ∧ far t ws (appF t ws) k ≤ 40000000 := by
  obtain ⟨be, h1, h2, h3⟩ := app_form h
  exact far_bound (F := appF t ws) h.2.2 (by rcases h2 k hk with e | e; exact Or.inl e; exact Or.inr e.1) (h1 k hk)
theorem closest_far {t : Int} {ws : List Int} (h : CanS t ws) : sumF ws.length (far t ws (lrF t ws)) ≤ sumF ws.length (far t ws (appF t ws)) := closest h
theorem far_at {t : Int} {ws : List Int} {F : Nat → Int} {k : Nat} (hk : k < ws.length) : far t ws F k = max (F k * sumL ws - t * ws[k]'hk) (-(F k * sumL ws - t * ws[k]'hk)) := by
  unfold far
  rw [getD_at hk]
theorem lrF_bound {t : Int} {ws : List Int} (h : CanS t ws) (k : Nat) : -1000000001 ≤ lrF t ws k ∧ lrF t ws k ≤ 1000000001 := by
  obtain ⟨al, g⟩ := lr_greedy (t := t) h.2.2
  rw [lr_form g]
  have hq := (qc (t := t) h.2.2 k).2.2.2
  have hT := TT_le h
  have hb := g.bit k
  rcases sgn_cases t with ⟨_, e⟩ | ⟨_, e⟩ <;> rw [e] <;> omega
theorem appF_bound {t : Int} {ws : List Int} (h : CanS t ws) (k : Nat) : -2000000000 ≤ appF t ws k ∧ appF t ws k ≤ 2000000000 := by
  have h1 := share_bound h k
  have h2 := share_bound h (k + 1)
  unfold appF
  omega
end Go.Proofs.Ytgdoahdkidlndaa
