/-
  The walks of MakeRatio, the program's and the model's: both answer mkR.
-/
import Derived.Test.YtebngdinhhhkeaaRows
import Derived.Test.YtebngdinhhhkeaaRatLib
import Derived.Test.YtebngdinhhhkeaaRatGcd
import Derived.Test.YtebngdinhhhkeaaRatIs
import Derived.Test.YtebngdinhhhkeaaRatRed
import Derived.Test.YtebngdinhhhkeaaRatIsImpl
import Derived.WalkKit
import Derived.WalkSpells
import Derived.WalkSmall
import Derived.RegionTactic
import Derived.BigRegion
import Derived.Lib.Hide
namespace Go.Proofs.Ytebngdinhhhkeaa.rat
open Go.RowKit

theorem isTerm_is (n : Int) (w : World) (b : Bool) (h : termB n = b) :
    Calls Try.prog 47 #[.int .i64 n] w fun e w' => e = .returned (.bool b) ∧ w = w' := h ▸ isTerm_any n w
theorem inRange_is (n d : Int) (w : World) (b : Bool) (h : rangeB n d = b) :
    Calls Try.prog 45 #[.agg #[.int .i64 n, .int .i64 d]] w fun e w' => e = .returned (.bool b) ∧ Below w.heap.size w w' := h ▸ inRange_any n d w

set_option maxRecDepth 100000 in
set_option maxHeartbeats 400000 in
theorem impl_make (n d : Int) (w : World) :
    Calls Try.prog 31 #[.int .i64 n, .int .i64 d] w (RatRes (mkR n d) w) := by
  by_cases hd : d = 0
  · subst hd
    have HM := Lib.hid (mkR_no (n := n) (d := 0) (Or.inl rfl))
    go_enter Try.func31, Try.ntmps31
    go_wp2_with fail
    exact bodyPost_ret (v := .agg #[.int .i64 0, .int .i64 0]) (results_cell_row Try.results31 _ _ _ _ _ _ _ rfl (heap_alloc_new _ _) Try.underlying25 rfl (by kernel_rfl)) rfl ⟨_, _, rfl, HM, (Below.refl _ _).alloc (Nat.le_refl _) _⟩
  · have hd0 : (d == 0) = false := beq_eq_false_iff_ne.2 hd
    obtain ⟨bn, hbn⟩ : ∃ b, termB n = b := ⟨_, rfl⟩
    cases bn
    · have HM := Lib.hid (mkR_no (n := n) (d := d) (Or.inr (Or.inl hbn)))
      have HN := Lib.hid hbn
      clear hbn
      go_enter Try.func31, Try.ntmps31
      go_wp2_with fail
      refine (isTerm_is n _ _ HN.out).mono ?_
      rintro e w1 ⟨rfl, rfl⟩
      go_wp2_with fail
      exact bodyPost_ret (v := .agg #[.int .i64 0, .int .i64 0]) (results_cell_row Try.results31 _ _ _ _ _ _ _ rfl (heap_alloc_new _ _) Try.underlying25 rfl (by kernel_rfl)) rfl ⟨_, _, rfl, HM, (Below.refl _ _).alloc (Nat.le_refl _) _⟩
    · obtain ⟨bd, hbd⟩ : ∃ b, termB d = b := ⟨_, rfl⟩
      cases bd
      · have HM := Lib.hid (mkR_no (n := n) (d := d) (Or.inr (Or.inr hbd)))
        have HN := Lib.hid hbn
        have HD := Lib.hid hbd
        clear hbn hbd
        go_enter Try.func31, Try.ntmps31
        go_wp2_with fail
        refine (isTerm_is n _ _ HN.out).mono ?_
        rintro e w1 ⟨rfl, rfl⟩
        go_wp2_with fail
        refine (isTerm_is d _ _ HD.out).mono ?_
        rintro e w1 ⟨rfl, rfl⟩
        go_wp2_with fail
        exact bodyPost_ret (v := .agg #[.int .i64 0, .int .i64 0]) (results_cell_row Try.results31 _ _ _ _ _ _ _ rfl (heap_alloc_new _ _) Try.underlying25 rfl (by kernel_rfl)) rfl ⟨_, _, rfl, HM, (Below.refl _ _).alloc (Nat.le_refl _) _⟩
      · have HN := Lib.hid hbn
        have HD := Lib.hid hbd
        have HK := Lib.hid (red_ok (n := n) hd)
        clear hbn hbd
        go_enter Try.func31, Try.ntmps31
        go_wp2_with fail
        refine (isTerm_is n _ _ HN.out).mono ?_
        rintro e w1 ⟨rfl, rfl⟩
        go_wp2_with fail
        refine (isTerm_is d _ _ HD.out).mono ?_
        rintro e w1 ⟨rfl, rfl⟩
        go_wp2_with fail
        refine (reduced_any n d _ (termB_true HN.out) (termB_true HD.out) hd).mono ?_
        rintro e w1 ⟨x, y, rfl, HX, hb⟩
        have hb0 : w1.heap[w.heap.size]? = some (.cells #[.int .i64 0, .int .i64 0] 25 (0, 0)) := blk_keep (heap_alloc_new w _) hb (by simp)
        have B1 := Lib.hid (((Below.refl _ _).alloc (Nat.le_refl _) _).trans (hb.mono (by simp)))
        have hz1 : w.heap.size < w1.heap.size := by have := hb.size; simp at this; omega
        have HX1 := Lib.hid hb0
        clear hb hb0
        have HKX : Hid (okB x y = rangeB x y) := Lib.hid (by have h1 := HK.out; have h2 : redN n d = x := congrArg Prod.fst HX.out; have h3 : redD n d = y := congrArg Prod.snd HX.out; rw [h2, h3] at h1; exact h1)
        have HMX : Hid (okB (redN n d) (redD n d) = okB x y) := Lib.hid (by have h2 : redN n d = x := congrArg Prod.fst HX.out; have h3 : redD n d = y := congrArg Prod.snd HX.out; rw [h2, h3])
        obtain ⟨br, hbr⟩ : ∃ b, rangeB x y = b := ⟨_, rfl⟩
        have HR := Lib.hid hbr
        clear hbr HK
        go_wp2_with fail
        refine (inRange_is x y _ br HR.out).mono ?_
        rintro e w2 ⟨rfl, hb⟩
        have hb0 : w2.heap[w.heap.size]? = some (.cells #[.int .i64 0, .int .i64 0] 25 (0, 0)) := blk_keep ((Below.heap_alloc w1 _ _ hz1).trans HX1.out) hb (by simp; omega)
        have hb1 : w2.heap[w1.heap.size]? = some (.cells #[.int .i64 x, .int .i64 y] 25 (0, 0)) := blk_keep (heap_alloc_new w1 _) hb (by simp)
        have c0 := cell_of_row w2 _ 0 _ _ _ hb1
        have c1 := cell_of_row w2 _ 1 _ _ _ hb1
        have r0 := cell_of_row w2 _ 0 _ _ _ hb0
        have r1 := cell_of_row w2 _ 1 _ _ _ hb0
        have f0 := frozen_of_row w2 _ 0 _ _ hb0
        have f1 := frozen_of_row w2 _ 1 _ _ hb0
        have B2 := Lib.hid ((B1.out.alloc (by omega) _).trans (hb.mono (by simp; omega)))
        clear hb
        cases br
        · have HM : Hid (mkR n d = (0, 0)) := Lib.hid (mkR_out (HMX.out.trans (HKX.out.trans HR.out)))
          go_wp2_with fail
          exact bodyPost_ret (v := .agg #[.int .i64 0, .int .i64 0]) (results_cell_row Try.results31 _ _ _ _ _ _ _ rfl (blk_set2 hb0) Try.underlying25 rfl (by kernel_rfl)) rfl ⟨_, _, rfl, HM, (B2.out.setCell (by simp) _).setCell (by simp) _⟩
        · have HM : Hid (mkR n d = (x, y)) := Lib.hid ((mkR_in hd HN.out HD.out (HMX.out.trans (HKX.out.trans HR.out))).trans HX.out)
          go_wp2_with fail
          exact bodyPost_ret (v := .agg #[.int .i64 x, .int .i64 y]) (results_cell_row Try.results31 _ _ _ _ _ _ _ rfl (blk_set2 hb0) Try.underlying25 rfl (by kernel_rfl)) rfl ⟨_, _, rfl, HM, (B2.out.setCell (by simp) _).setCell (by simp) _⟩
end Go.Proofs.Ytebngdinhhhkeaa.rat
