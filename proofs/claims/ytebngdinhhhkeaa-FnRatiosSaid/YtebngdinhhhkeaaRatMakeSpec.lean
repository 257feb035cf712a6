/-
  The walk of the model's MakeRatio: it answers mkR.
-/
import Derived.Test.YtebngdinhhhkeaaRows
import Derived.Test.YtebngdinhhhkeaaRatLib
import Derived.Test.YtebngdinhhhkeaaRatGcd
import Derived.Test.YtebngdinhhhkeaaRatIs
import Derived.Test.YtebngdinhhhkeaaRatRed
import Derived.Test.YtebngdinhhhkeaaRatIsImpl
import Derived.WalkKit
import Derived.WalkSpells
import Derived.WalkSmall
import Derived.RegionTactic
import Derived.BigRegion
import Derived.Deep.DeepCutAuto
import Derived.Lib.Hide
namespace Go.Proofs.Ytebngdinhhhkeaa.rat
open Go.RowKit

theorem spec_isRatio_is (n d : Int) (w : World) (b : Bool) (h : okB n d = b) :
    Calls Try.prog 20 #[.agg #[.int .i64 n, .int .i64 d]] w fun e w' => e = .returned (.bool b) ∧ Below w.heap.size w w' := h ▸ spec_isRatio n d w

set_option maxRecDepth 100000 in
set_option maxHeartbeats 400000 in
theorem spec_make_no (n d : Int) (w : World) (h : d = 0 ∨ termB n = false ∨ termB d = false) :
    Calls Try.prog 30 #[.int .i64 n, .int .i64 d] w (RatRes (mkR n d) w) := by
  have HM := Lib.hid (mkR_no h)
  by_cases hd : d = 0
  · subst hd
    clear h
    go_enter Try.func30, Try.ntmps30
    go_wp2_with fail
    exact bodyPost_ret (v := .agg #[.int .i64 0, .int .i64 0]) (results_cell_row Try.results30 _ _ _ _ _ _ _ rfl (heap_alloc_new _ _) Try.underlying25 rfl (by kernel_rfl)) rfl ⟨_, _, rfl, HM, (Below.refl _ _).alloc (Nat.le_refl _) _⟩
  · have hd0 : (d == 0) = false := beq_eq_false_iff_ne.2 hd
    obtain ⟨bn, hbn⟩ : ∃ b, termB n = b := ⟨_, rfl⟩
    cases bn
    · have HN := Lib.hid (termB_false hbn)
      clear hbn h
      go_enter Try.func30, Try.ntmps30
      go_wp2_with fail
      refine (l1_in_no n _ _ _ HN.out).mono ?_
      rintro e w1 ⟨rfl, rfl⟩
      go_wp2_with fail
      exact bodyPost_ret (v := .agg #[.int .i64 0, .int .i64 0]) (results_cell_row Try.results30 _ _ _ _ _ _ _ rfl (heap_alloc_new _ _) Try.underlying25 rfl (by kernel_rfl)) rfl ⟨_, _, rfl, HM, (Below.refl _ _).alloc (Nat.le_refl _) _⟩
    · have hdf : termB d = false := by
        rcases h with h | h | h
        · exact absurd h hd
        · rw [hbn] at h; exact Bool.noConfusion h
        · exact h
      have HN := Lib.hid (termB_true hbn)
      have HD := Lib.hid (termB_false hdf)
      clear hbn h hdf
      go_enter Try.func30, Try.ntmps30
      go_wp2_with fail
      refine (l1_in_yes n _ _ _ HN.out.1 HN.out.2).mono ?_
      rintro e w1 ⟨rfl, rfl⟩
      go_wp2_with fail
      refine (l1_in_no d _ _ _ HD.out).mono ?_
      rintro e w1 ⟨rfl, rfl⟩
      go_wp2_with fail
      exact bodyPost_ret (v := .agg #[.int .i64 0, .int .i64 0]) (results_cell_row Try.results30 _ _ _ _ _ _ _ rfl (heap_alloc_new _ _) Try.underlying25 rfl (by kernel_rfl)) rfl ⟨_, _, rfl, HM, (Below.refl _ _).alloc (Nat.le_refl _) _⟩

set_option maxRecDepth 100000 in
set_option maxHeartbeats 800000 in
theorem spec_make_yes (n d : Int) (w : World) (hd : d ≠ 0) (hn0 : -2000000000000000000 ≤ n) (hn1 : n ≤ 2000000000000000000) (hd0 : -2000000000000000000 ≤ d) (hd1 : d ≤ 2000000000000000000) :
    Calls Try.prog 30 #[.int .i64 n, .int .i64 d] w (RatRes (mkR n d) w) := by
  have hdb : (d == 0) = false := beq_eq_false_iff_ne.2 hd
  have HN : Hid (termB n = true) := Lib.hid (decide_eq_true ⟨hn0, hn1⟩)
  have HD : Hid (termB d = true) := Lib.hid (decide_eq_true ⟨hd0, hd1⟩)
  have hs : d < 0 ∨ 0 < d := by omega
  rcases hs with hs | hs
  · have HRD : Hid ((redN n d, redD n d) = (-n.tdiv (gi (-n) (-d)), -d.tdiv (gi (-n) (-d)))) := Lib.hid (by rw [(red_neg hs).1, (red_neg hs).2, Int.neg_tdiv, Int.neg_tdiv])
    go_enter Try.func30, Try.ntmps30
    go_wp2_with fail
    refine (l1_in_yes n _ _ _ hn0 hn1).mono ?_
    rintro e w1 ⟨rfl, rfl⟩
    go_wp2_with fail
    refine (l1_in_yes d _ _ _ hd0 hd1).mono ?_
    rintro e w1 ⟨rfl, rfl⟩
    go_wp2_with fail
    refine (spec_gcd (-n) (-d) _ (by omega) (by omega) (by omega) (by omega)).mono ?_
    rintro e w1 ⟨rfl, hb⟩
    have HX : Hid ((redN n d, redD n d) = ((-n.tdiv (gi (-n) (-d))), (-d.tdiv (gi (-n) (-d))))) := Lib.hid HRD.out
    have g0 : 0 < gi (-n) (-d) := gi_pos (by omega)
    have g1 : gi (-n) (-d) ≤ 2000000000000000000 := by have := gi_le (n := (-n)) (d := (-d)) (by omega); omega
    clear HRD
    obtain ⟨g, hg⟩ : ∃ g, gi (-n) (-d) = g := ⟨_, rfl⟩
    rw [hg] at HX g0 g1
    rw [hg]
    clear hg
    have hb0 : w1.heap[w.heap.size]? = some (.cells #[.int .i64 0, .int .i64 0] 25 (0, 0)) := blk_keep (heap_alloc_new w _) hb (by simp)
    have B1 := Lib.hid (((Below.refl _ _).alloc (Nat.le_refl _) _).trans (hb.mono (by simp)))
    have hz1 : w.heap.size < w1.heap.size := by have := hb.size; simp at this; omega
    have HX1 := Lib.hid hb0
    have q0 := tdiv_bound n g0 hn0 hn1
    have q1 := tdiv_bound d g0 hd0 hd1
    clear hb hb0
    go_wp2_with fail
    go_region
    have HKX : Hid (okB (redN n d) (redD n d) = okB (-n.tdiv g) (-d.tdiv g)) := Lib.hid (by have h2 : redN n d = _ := congrArg Prod.fst HX.out; have h3 : redD n d = _ := congrArg Prod.snd HX.out; rw [h2, h3])
    generalize (-n.tdiv g) = x at *
    generalize (-d.tdiv g) = y at *
    obtain ⟨br, hbr⟩ : ∃ b, okB x y = b := ⟨_, rfl⟩
    have HR := Lib.hid hbr
    clear hbr
    go_wp2_with fail
    refine (spec_isRatio_is x y _ br HR.out).mono ?_
    rintro e w2 ⟨rfl, hb⟩
    have hb0 : w2.heap[w.heap.size]? = some (.cells #[.int .i64 0, .int .i64 0] 25 (0, 0)) := blk_keep (w := (w1.alloc _).drew) ((Below.heap_alloc w1 _ _ hz1).trans HX1.out) hb (by simp; omega)
    have hb1 : w2.heap[w1.heap.size]? = some (.cells #[.int .i64 x, .int .i64 y] 25 (0, 0)) := blk_keep (w := (w1.alloc _).drew) (heap_alloc_new w1 _) hb (by simp)
    have c0 := cell_of_row w2 _ 0 _ _ _ hb1
    have c1 := cell_of_row w2 _ 1 _ _ _ hb1
    have r0 := cell_of_row w2 _ 0 _ _ _ hb0
    have r1 := cell_of_row w2 _ 1 _ _ _ hb0
    have f0 := frozen_of_row w2 _ 0 _ _ hb0
    have f1 := frozen_of_row w2 _ 1 _ _ hb0
    have B2 := Lib.hid ((B1.out.alloc (by omega) _).drew.trans (hb.mono (by simp; omega)))
    clear hb
    cases br
    · have HM : Hid (mkR n d = (0, 0)) := Lib.hid (mkR_out (HKX.out.trans HR.out))
      go_wp2_with fail
      exact bodyPost_ret (v := .agg #[.int .i64 0, .int .i64 0]) (results_cell_row Try.results30 _ _ _ _ _ _ _ rfl (blk_set2 hb0) Try.underlying25 rfl (by kernel_rfl)) rfl ⟨_, _, rfl, HM, (B2.out.setCell (by simp) _).setCell (by simp) _⟩
    · have HM : Hid (mkR n d = (x, y)) := Lib.hid ((mkR_in hd HN.out HD.out (HKX.out.trans HR.out)).trans HX.out)
      go_wp2_with fail
      exact bodyPost_ret (v := .agg #[.int .i64 x, .int .i64 y]) (results_cell_row Try.results30 _ _ _ _ _ _ _ rfl (blk_set2 hb0) Try.underlying25 rfl (by kernel_rfl)) rfl ⟨_, _, rfl, HM, (B2.out.setCell (by simp) _).setCell (by simp) _⟩
  · have HRD : Hid ((redN n d, redD n d) = (n.tdiv (gi n d), d.tdiv (gi n d))) := Lib.hid (by unfold redN redD; rw [cd_pos hs])
    go_enter Try.func30, Try.ntmps30
    go_wp2_with fail
    refine (l1_in_yes n _ _ _ hn0 hn1).mono ?_
    rintro e w1 ⟨rfl, rfl⟩
    go_wp2_with fail
    refine (l1_in_yes d _ _ _ hd0 hd1).mono ?_
    rintro e w1 ⟨rfl, rfl⟩
    go_wp2_with fail
    refine (spec_gcd n d _ (by omega) (by omega) (by omega) (by omega)).mono ?_
    rintro e w1 ⟨rfl, hb⟩
    have HX : Hid ((redN n d, redD n d) = ((n.tdiv (gi n d)), (d.tdiv (gi n d)))) := Lib.hid HRD.out
    have g0 : 0 < gi n d := gi_pos (by omega)
    have g1 : gi n d ≤ 2000000000000000000 := by have := gi_le (n := n) (d := d) (by omega); omega
    clear HRD
    obtain ⟨g, hg⟩ : ∃ g, gi n d = g := ⟨_, rfl⟩
    rw [hg] at HX g0 g1
    rw [hg]
    clear hg
    have hb0 : w1.heap[w.heap.size]? = some (.cells #[.int .i64 0, .int .i64 0] 25 (0, 0)) := blk_keep (heap_alloc_new w _) hb (by simp)
    have B1 := Lib.hid (((Below.refl _ _).alloc (Nat.le_refl _) _).trans (hb.mono (by simp)))
    have hz1 : w.heap.size < w1.heap.size := by have := hb.size; simp at this; omega
    have HX1 := Lib.hid hb0
    have q0 := tdiv_bound n g0 hn0 hn1
    have q1 := tdiv_bound d g0 hd0 hd1
    clear hb hb0
    go_wp2_with fail
    go_region
    have HKX : Hid (okB (redN n d) (redD n d) = okB (n.tdiv g) (d.tdiv g)) := Lib.hid (by have h2 : redN n d = _ := congrArg Prod.fst HX.out; have h3 : redD n d = _ := congrArg Prod.snd HX.out; rw [h2, h3])
    generalize (n.tdiv g) = x at *
    generalize (d.tdiv g) = y at *
    obtain ⟨br, hbr⟩ : ∃ b, okB x y = b := ⟨_, rfl⟩
    have HR := Lib.hid hbr
    clear hbr
    go_wp2_with fail
    refine (spec_isRatio_is x y _ br HR.out).mono ?_
    rintro e w2 ⟨rfl, hb⟩
    have hb0 : w2.heap[w.heap.size]? = some (.cells #[.int .i64 0, .int .i64 0] 25 (0, 0)) := blk_keep (w := (w1.alloc _).drew) ((Below.heap_alloc w1 _ _ hz1).trans HX1.out) hb (by simp; omega)
    have hb1 : w2.heap[w1.heap.size]? = some (.cells #[.int .i64 x, .int .i64 y] 25 (0, 0)) := blk_keep (w := (w1.alloc _).drew) (heap_alloc_new w1 _) hb (by simp)
    have c0 := cell_of_row w2 _ 0 _ _ _ hb1
    have c1 := cell_of_row w2 _ 1 _ _ _ hb1
    have r0 := cell_of_row w2 _ 0 _ _ _ hb0
    have r1 := cell_of_row w2 _ 1 _ _ _ hb0
    have f0 := frozen_of_row w2 _ 0 _ _ hb0
    have f1 := frozen_of_row w2 _ 1 _ _ hb0
    have B2 := Lib.hid ((B1.out.alloc (by omega) _).drew.trans (hb.mono (by simp; omega)))
    clear hb
    cases br
    · have HM : Hid (mkR n d = (0, 0)) := Lib.hid (mkR_out (HKX.out.trans HR.out))
      go_wp2_with fail
      exact bodyPost_ret (v := .agg #[.int .i64 0, .int .i64 0]) (results_cell_row Try.results30 _ _ _ _ _ _ _ rfl (blk_set2 hb0) Try.underlying25 rfl (by kernel_rfl)) rfl ⟨_, _, rfl, HM, (B2.out.setCell (by simp) _).setCell (by simp) _⟩
    · have HM : Hid (mkR n d = (x, y)) := Lib.hid ((mkR_in hd HN.out HD.out (HKX.out.trans HR.out)).trans HX.out)
      go_wp2_with fail
      exact bodyPost_ret (v := .agg #[.int .i64 x, .int .i64 y]) (results_cell_row Try.results30 _ _ _ _ _ _ _ rfl (blk_set2 hb0) Try.underlying25 rfl (by kernel_rfl)) rfl ⟨_, _, rfl, HM, (B2.out.setCell (by simp) _).setCell (by simp) _⟩

theorem spec_make (n d : Int) (w : World) : Calls Try.prog 30 #[.int .i64 n, .int .i64 d] w (RatRes (mkR n d) w) := by
  by_cases h : d = 0 ∨ termB n = false ∨ termB d = false
  · exact spec_make_no n d w h
  · have h1 : termB n = true := by
      cases e : termB n
      · exact absurd (Or.inr (Or.inl e)) h
      · rfl
    have h2 : termB d = true := by
      cases e : termB d
      · exact absurd (Or.inr (Or.inr e)) h
      · rfl
    exact spec_make_yes n d w (fun e => h (Or.inl e)) (termB_true h1).1 (termB_true h1).2 (termB_true h2).1 (termB_true h2).2
end Go.Proofs.Ytebngdinhhhkeaa.rat
