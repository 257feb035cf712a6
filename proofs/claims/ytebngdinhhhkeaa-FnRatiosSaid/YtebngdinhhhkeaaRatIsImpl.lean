/-
  The walk of the program's IsRatio: it answers okB.
-/
import Derived.Test.YtebngdinhhhkeaaRows
import Derived.Test.YtebngdinhhhkeaaRatLib
import Derived.Test.YtebngdinhhhkeaaRatGcd
import Derived.Test.YtebngdinhhhkeaaRatIs
import Derived.Test.YtebngdinhhhkeaaRatRed
import Derived.WalkKit
import Derived.WalkSpells
import Derived.WalkSmall
import Derived.Deep.RegionHeld3
import Derived.Deep.RegionWith
import Derived.Lib.Hide
namespace Go.Proofs.Ytebngdinhhhkeaa.rat
open Go.RowKit

theorem held_c {W W' : World} {a : Addr} {v : Value} (h : W.cell? a = some v) (hb : Below W.heap.size W W') : W'.cell? a = some v := (hb.cell (block_lt_of_cell h)).trans h
theorem held_b {w W W' : World} (h : Below w.heap.size w W) (hb : Below W.heap.size W W') : Below w.heap.size w W' := h.trans (hb.mono h.size)
theorem held2 {w W W' : World} {a b : Addr} {x y : Value} (h : W.cell? a = some x ∧ W.cell? b = some y ∧ Below w.heap.size w W) (hb : Below W.heap.size W W') :
    W'.cell? a = some x ∧ W'.cell? b = some y ∧ Below w.heap.size w W' := ⟨held_c h.1 hb, held_c h.2.1 hb, held_b h.2.2 hb⟩

theorem inRange_yes (n d : Int) (w : World) (h : rangeB n d = true) :
    Calls Try.prog 45 #[.agg #[.int .i64 n, .int .i64 d]] w fun e w' => e = .returned (.bool true) ∧ Below w.heap.size w w' := h ▸ inRange_any n d w
theorem inRange_no (n d : Int) (w : World) (h : rangeB n d = false) :
    Calls Try.prog 45 #[.agg #[.int .i64 n, .int .i64 d]] w fun e w' => e = .returned (.bool false) ∧ Below w.heap.size w w' := h ▸ inRange_any n d w

set_option maxRecDepth 100000 in
set_option maxHeartbeats 400000 in
theorem impl_isRatio (n d : Int) (w : World) :
    Calls Try.prog 29 #[.agg #[.int .i64 n, .int .i64 d]] w fun e w' => e = .returned (.bool (okB n d)) ∧ Below w.heap.size w w' := by
  obtain ⟨b, hr⟩ : ∃ b, rangeB n d = b := ⟨_, rfl⟩
  cases b
  · have HO := Lib.hid (okB_no_range hr)
    have HR := Lib.hid hr
    clear hr
    go_enter Try.func29, Try.ntmps29
    go_wp2_with fail
    have c0 : (w.alloc (.cells #[.int .i64 n, .int .i64 d] 25)).drew.cell? ⟨w.heap.size, 0, none⟩ = some (.int .i64 n) := cell_of_row _ _ 0 _ _ _ (heap_alloc_new w _)
    have c1 : (w.alloc (.cells #[.int .i64 n, .int .i64 d] 25)).drew.cell? ⟨w.heap.size, 1, none⟩ = some (.int .i64 d) := cell_of_row _ _ 1 _ _ _ (heap_alloc_new w _)
    have HB := Lib.hid (((Below.refl w.heap.size w).alloc (Nat.le_refl _) (.cells #[.int .i64 n, .int .i64 d] 25)).drew)
    go_region_with (first | (go_at_call 45; refine (inRange_no n d _ HR.out).mono ?_; rintro e w' ⟨rfl, hb⟩; have HB2 := Lib.hid (held_b HB.out hb); have k0 := held_c c0 hb; have k1 := held_c c1 hb; clear hb))
    all_goals
      go_wp2_with fail
      go_ret
      exact ⟨ret_bool HO.out.symm, HB2.out⟩
  · have hrng := rangeB_true hr
    have hself := red_self hr
    obtain ⟨k, hk⟩ : ∃ k, okB n d = k := ⟨_, rfl⟩
    cases k
    · have HO := Lib.hid hk
      have HY := Lib.hid (hself.2 hk)
      have HR := Lib.hid hr
      clear hk hr hself
      obtain ⟨q0, q1, q2, q3⟩ := hrng
      go_enter Try.func29, Try.ntmps29
      go_wp2_with fail
      have c0 : (w.alloc (.cells #[.int .i64 n, .int .i64 d] 25)).drew.cell? ⟨w.heap.size, 0, none⟩ = some (.int .i64 n) := cell_of_row _ _ 0 _ _ _ (heap_alloc_new w _)
      have c1 : (w.alloc (.cells #[.int .i64 n, .int .i64 d] 25)).drew.cell? ⟨w.heap.size, 1, none⟩ = some (.int .i64 d) := cell_of_row _ _ 1 _ _ _ (heap_alloc_new w _)
      have HB := Lib.hid (((Below.refl w.heap.size w).alloc (Nat.le_refl _) (.cells #[.int .i64 n, .int .i64 d] 25)).drew)
      go_region_with (first | (go_at_call 45; refine (inRange_yes n d _ HR.out).mono ?_; rintro e w' ⟨rfl, hb⟩; have HB2 := Lib.hid (held_b HB.out hb); have k0 := held_c c0 hb; have k1 := held_c c1 hb; clear hb) | (go_at_call 46; refine (reduced_any n d _ (by omega) (by omega) (by omega)).mono ?_; rintro e w'' ⟨x, y, rfl, hxy, hb⟩; have HB3 := Lib.hid (held_b HB2.out hb); have j0 := held_c k0 hb; have j1 := held_c k1 hb; clear hb; have hdy : (d == y) = false := by (have h1 := HY.out; have h2 : redD n d = y := congrArg Prod.snd hxy.out; rw [h2] at h1; exact beq_eq_false_iff_ne.2 (fun e => h1 e.symm))))
      all_goals
        go_wp2_with fail
        go_ret
        exact ⟨ret_bool HO.out.symm, HB3.out⟩
    · have HO := Lib.hid hk
      have HY := Lib.hid (hself.1 hk)
      have HR := Lib.hid hr
      clear hk hr hself
      obtain ⟨q0, q1, q2, q3⟩ := hrng
      go_enter Try.func29, Try.ntmps29
      go_wp2_with fail
      have c0 : (w.alloc (.cells #[.int .i64 n, .int .i64 d] 25)).drew.cell? ⟨w.heap.size, 0, none⟩ = some (.int .i64 n) := cell_of_row _ _ 0 _ _ _ (heap_alloc_new w _)
      have c1 : (w.alloc (.cells #[.int .i64 n, .int .i64 d] 25)).drew.cell? ⟨w.heap.size, 1, none⟩ = some (.int .i64 d) := cell_of_row _ _ 1 _ _ _ (heap_alloc_new w _)
      have HB := Lib.hid (((Below.refl w.heap.size w).alloc (Nat.le_refl _) (.cells #[.int .i64 n, .int .i64 d] 25)).drew)
      go_region_with (first | (go_at_call 45; refine (inRange_yes n d _ HR.out).mono ?_; rintro e w' ⟨rfl, hb⟩; have HB2 := Lib.hid (held_b HB.out hb); have k0 := held_c c0 hb; have k1 := held_c c1 hb; clear hb) | (go_at_call 46; refine (reduced_any n d _ (by omega) (by omega) (by omega)).mono ?_; rintro e w'' ⟨x, y, rfl, hxy, hb⟩; have HB3 := Lib.hid (held_b HB2.out hb); have j0 := held_c k0 hb; have j1 := held_c k1 hb; clear hb; obtain rfl : n = x := HY.out.1.symm.trans (congrArg Prod.fst hxy.out); obtain rfl : d = y := HY.out.2.symm.trans (congrArg Prod.snd hxy.out)))
      all_goals
        go_wp2_with fail
        go_ret
        exact ⟨ret_bool HO.out.symm, HB3.out⟩
end Go.Proofs.Ytebngdinhhhkeaa.rat
