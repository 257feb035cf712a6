/-
  The walks of the program's reduced form, and of its IsRatio.
-/
import Derived.Test.YtebngdinhhhkeaaRows
import Derived.Test.YtebngdinhhhkeaaRatLib
import Derived.Test.YtebngdinhhhkeaaRatGcd
import Derived.Test.YtebngdinhhhkeaaRatIs
import Derived.WalkKit
import Derived.WalkSpells
import Derived.WalkSmall
import Derived.BigQuiet
import Derived.BigRegion
import Derived.RegionTactic
import Derived.Deep.QuietTactic
import Derived.Deep.RegionHeld3
import Derived.Deep.DeepCutAuto
import Derived.Lib.Hide
namespace Go.Proofs.Ytebngdinhhhkeaa.rat
open Go.RowKit

/-- A pair of numbers as the value of a ratio, behind a call that made memory. -/
def RatRes (p : Int × Int) (w : World) (e : Ending) (w' : World) : Prop := ∃ x y : Int, e = .returned (.agg #[.int .i64 x, .int .i64 y]) ∧ Hid (p = (x, y)) ∧ Below w.heap.size w w'

/-- What a block holds is kept by a call that changes nothing below it. -/
theorem blk_keep {w w1 : World} {b B : Nat} {o : Obj} (h : w.heap[b]? = some o) (hb : Below B w w1) (hlt : b < B) : w1.heap[b]? = some o := (hb.block b hlt).trans h

/-- Both numbers of a ratio stored. -/
theorem blk_set2 {w : World} {g : Nat} {a b x y : Value} {t : TypeId} (h : w.heap[g]? = some (.cells #[a, b] t (0, 0))) :
    ((w.setCell ⟨g, 0, none⟩ x).setCell ⟨g, 1, none⟩ y).heap[g]? = some (.cells #[x, y] t (0, 0)) :=
  heap_setCell_same _ g 1 _ t y (heap_setCell_same w g 0 _ t x h)

theorem tdiv_bound (n : Int) {g : Int} (_h : 0 < g) (h0 : -2000000000000000000 ≤ n) (h1 : n ≤ 2000000000000000000) :
    -2000000000000000000 ≤ n.tdiv g ∧ n.tdiv g ≤ 2000000000000000000 ∧ wrap64 (-n.tdiv g) = -n.tdiv g := by
  have h2 : (n.tdiv g).natAbs ≤ n.natAbs := by rw [Int.natAbs_tdiv]; exact Nat.div_le_self _ _
  refine ⟨by omega, by omega, ?_⟩
  unfold wrap64; omega

set_option maxRecDepth 100000 in
set_option maxHeartbeats 400000 in
theorem reduced_any (n d : Int) (w : World) (hn : -2000000000000000000 ≤ n ∧ n ≤ 2000000000000000000) (hd : -2000000000000000000 ≤ d ∧ d ≤ 2000000000000000000) (h0 : d ≠ 0) :
    Calls Try.prog 46 #[.agg #[.int .i64 n, .int .i64 d]] w (RatRes (redN n d, redD n d) w) := by
  have hg0 := gi_pos (n := n) h0
  have hg1 := gi_le (n := n) h0
  obtain ⟨hn0, hn1⟩ := hn
  obtain ⟨hd0, hd1⟩ := hd
  have hs : d < 0 ∨ 0 < d := by omega
  rcases hs with hs | hs
  · have HC := Lib.hid (cd_neg (n := n) hs)
    go_enter Try.func46, Try.ntmps46
    go_wp2_with fail
    refine (impl_gcd n d _ (by omega) (by omega) (by omega) (by omega)).mono ?_
    rintro e w1 ⟨rfl, hb⟩
    have HR : Hid ((redN n d, redD n d) = (-n.tdiv (gi n d), -d.tdiv (gi n d))) := Lib.hid (by unfold redN redD; rw [HC.out, Int.tdiv_neg, Int.tdiv_neg])
    clear HC
    have hg2 : gi n d ≤ 2000000000000000000 := by omega
    clear hg1 h0
    generalize gi n d = g at *
    have q0 := tdiv_bound n hg0 hn0 hn1
    have q1 := tdiv_bound d hg0 hd0 hd1
    have hb0 : w1.heap[w.heap.size]? = some (.cells #[.int .i64 n, .int .i64 d] 25 (0, 0)) := blk_keep (heap_alloc2_old w _ _) hb (by simp; omega)
    have hb1 : w1.heap[w.heap.size + 1]? = some (.cells #[.int .i64 0, .int .i64 0] 25 (0, 0)) := blk_keep (heap_alloc2_new w _ _) hb (by simp)
    have c0 := cell_of_row w1 _ 0 _ _ _ hb0
    have c1 := cell_of_row w1 _ 1 _ _ _ hb0
    have r0 := cell_of_row w1 _ 0 _ _ _ hb1
    have r1 := cell_of_row w1 _ 1 _ _ _ hb1
    have f0 := frozen_of_row w1 _ 0 _ _ hb1
    have f1 := frozen_of_row w1 _ 1 _ _ hb1
    have HB := Lib.hid ((((Below.refl _ _).alloc (Nat.le_refl _) _).alloc (by simp) _).trans (hb.mono (by simp; omega)))
    clear hb
    go_wp2_with fail
    go_region
    all_goals
      go_wp2
      exact bodyPost_ret (v := .agg #[.int .i64 (-n.tdiv g), .int .i64 (-d.tdiv g)]) (results_cell_row Try.results46 _ _ _ _ _ _ _ rfl (blk_set2 hb1) Try.underlying25 rfl (by kernel_rfl)) rfl ⟨_, _, rfl, HR, ((HB.out.setCell (by simp) _).setCell (by simp) _).drew⟩
  · have HC := Lib.hid (cd_pos (n := n) hs)
    go_enter Try.func46, Try.ntmps46
    go_wp2_with fail
    refine (impl_gcd n d _ (by omega) (by omega) (by omega) (by omega)).mono ?_
    rintro e w1 ⟨rfl, hb⟩
    have HR : Hid ((redN n d, redD n d) = (n.tdiv (gi n d), d.tdiv (gi n d))) := Lib.hid (by unfold redN redD; rw [HC.out])
    clear HC
    have hg2 : gi n d ≤ 2000000000000000000 := by omega
    clear hg1 h0
    generalize gi n d = g at *
    have q0 := tdiv_bound n hg0 hn0 hn1
    have q1 := tdiv_bound d hg0 hd0 hd1
    have hb0 : w1.heap[w.heap.size]? = some (.cells #[.int .i64 n, .int .i64 d] 25 (0, 0)) := blk_keep (heap_alloc2_old w _ _) hb (by simp; omega)
    have hb1 : w1.heap[w.heap.size + 1]? = some (.cells #[.int .i64 0, .int .i64 0] 25 (0, 0)) := blk_keep (heap_alloc2_new w _ _) hb (by simp)
    have c0 := cell_of_row w1 _ 0 _ _ _ hb0
    have c1 := cell_of_row w1 _ 1 _ _ _ hb0
    have r0 := cell_of_row w1 _ 0 _ _ _ hb1
    have r1 := cell_of_row w1 _ 1 _ _ _ hb1
    have f0 := frozen_of_row w1 _ 0 _ _ hb1
    have f1 := frozen_of_row w1 _ 1 _ _ hb1
    have HB := Lib.hid ((((Below.refl _ _).alloc (Nat.le_refl _) _).alloc (by simp) _).trans (hb.mono (by simp; omega)))
    clear hb
    go_wp2_with fail
    go_region
    all_goals
      go_wp2
      exact bodyPost_ret (v := .agg #[.int .i64 (n.tdiv g), .int .i64 (d.tdiv g)]) (results_cell_row Try.results46 _ _ _ _ _ _ _ rfl (blk_set2 hb1) Try.underlying25 rfl (by kernel_rfl)) rfl ⟨_, _, rfl, HR, ((HB.out.setCell (by simp) _).setCell (by simp) _).drew⟩
end Go.Proofs.Ytebngdinhhhkeaa.rat
