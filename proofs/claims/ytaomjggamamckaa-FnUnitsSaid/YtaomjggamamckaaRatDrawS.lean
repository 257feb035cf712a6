/-
  The draws of ratios: from a text of bytes they give some pairs of numbers.
-/
import Derived.Test.YtaomjggamamckaaRows
import Derived.Test.YtaomjggamamckaaHold
import Derived.Test.YtaomjggamamckaaDraw
import Derived.Test.YtaomjggamamckaaDrawInt
import Derived.Test.YtaomjggamamckaaDrawMore
import Derived.Test.YtaomjggamamckaaRatM
import Derived.WalkKit
import Derived.WalkSpells
import Derived.Lib.Hide
namespace Go.Proofs.Ytaomjggamamckaa.rat
open Go.RowKit

/-- What a draw of a pair leaves. -/
def DrawsR (B b : Nat) (a : Option Addr) (n c : Nat) (w : World) (e : Ending) (w' : World) : Prop :=
  ∃ x y : Int, e = .returned (.agg #[.int .i64 x, .int .i64 y]) ∧ (-9223372036854775808 ≤ x ∧ x ≤ 9223372036854775807) ∧ (-9223372036854775808 ≤ y ∧ y ≤ 9223372036854775807) ∧ Drawn B b a n c w w'

theorem mk_in {n d x y : Int} (h : mkR n d = (x, y)) : (-9223372036854775808 ≤ x ∧ x ≤ 9223372036854775807) ∧ (-9223372036854775808 ≤ y ∧ y ≤ 9223372036854775807) := by
  have := mkR_bound h; omega

set_option maxRecDepth 100000 in
set_option maxHeartbeats 1000000 in
theorem l2_any (B b : Nat) (a : Option Addr) (n c : Nat) (w : World) (hn : n ≤ 1048576) (hcode : CodeAt B w a n) (hcur : CurAt B w b a n c) (hBw : B ≤ w.heap.size) :
    Calls Try.prog 58 #[.pointer (some ⟨b, 0, none⟩)] w (DrawsR B b a n c w) := by
  have HC := Lib.hid hcode
  have HU := Lib.hid hcur
  have hlt := hcur.lt
  clear hcode hcur
  go_enter Try.func58, Try.ntmps58
  go_wp2_with fail
  refine (l1_below B b a n c 12 _ hn (HC.out.alloc hBw _) (HU.out.alloc _) (by omega) (by omega) (by simp; omega)).mono ?_
  rintro e w1 ⟨k, rfl, hk0, hk1, hd⟩
  have HR := Lib.hid (hd.blk (heap_alloc_new w _) (by omega))
  have HD := Lib.hid hd.ofAlloc
  clear hd
  have f0 := frozen_of_row _ _ 0 _ _ HR.out
  have f1 := frozen_of_row _ _ 1 _ _ HR.out
  have r0 := cell_of_row _ _ 0 _ _ _ HR.out
  have r1 := cell_of_row _ _ 1 _ _ _ HR.out
  by_cases k0 : k = 0
  · subst k0
    go_wp2_with fail
    exact bodyPost_ret (v := .agg #[.int .i64 0, .int .i64 0]) (results_cell_row Try.results58 _ _ _ _ _ _ _ rfl (blk_set2 HR.out) Try.underlying28 rfl (by kernel_rfl)) rfl ⟨_, _, rfl, by omega, by omega, HD.out.set2 (by omega) (Nat.le_refl _)⟩
  have e0 : (k == 0) = false := beq_eq_false_iff_ne.2 k0
  by_cases k1 : k = 1
  · subst k1
    clear r0 r1 f0 f1
    have HC1 := Lib.hid (HC.out.below (HD.out.below hBw))
    have HZ : Hid (w.heap.size < w1.heap.size) := Lib.hid (lt_of_heap HR.out)
    go_wp2_with fail
    refine (l1_odd B b a n c _ hn HC1.out HD.out.cur (by have := HZ.out; omega)).mono ?_
    rintro e w2 ⟨x, rfl, hx0, hx1, hd⟩
    have HR2 := Lib.hid (hd.blk HR.out (by omega))
    have HD2 := Lib.hid (HD.out.trans hd)
    clear hd
    have HC2 := Lib.hid (HC.out.below (HD2.out.below hBw))
    have HZ2 : Hid (w.heap.size < w2.heap.size) := Lib.hid (lt_of_heap HR2.out)
    go_wp2_with fail
    have hi := ints_new w2 3 [1, 2, 1000000000, -1, 4] (by
      intro z hz; simp only [List.mem_cons, List.mem_nil_iff, or_false] at hz; omega)
    refine (l1_pickInt B b w2.heap.size 5 a n c _ hn (HC2.out.alloc (by have := HZ2.out; omega) _) (CurAt.alloc HD2.out.cur _) (by omega) (by omega) (by have := HZ2.out; simp; omega) (by have := CurAt.lt HD2.out.cur; omega) hi).mono ?_
    rintro e w3 ⟨y, rfl, hy0, hy1, hd⟩
    have HR3 := Lib.hid (hd.blk (blk_alloc HR2.out _) (by omega))
    have HD3 := Lib.hid (HD2.out.trans hd.ofAlloc)
    clear hd hi
    have f0 := frozen_of_row _ _ 0 _ _ HR3.out
    have f1 := frozen_of_row _ _ 1 _ _ HR3.out
    have r0 := cell_of_row _ _ 0 _ _ _ HR3.out
    have r1 := cell_of_row _ _ 1 _ _ _ HR3.out
    go_wp2_with fail
    exact bodyPost_ret (v := .agg #[.int .i64 x, .int .i64 y]) (results_cell_row Try.results58 _ _ _ _ _ _ _ rfl (blk_set2 HR3.out) Try.underlying28 rfl (by kernel_rfl)) rfl ⟨_, _, rfl, ⟨hx0, hx1⟩, ⟨hy0, hy1⟩, HD3.out.set2 (by omega) (Nat.le_refl _)⟩
  have e1 : (k == 1) = false := beq_eq_false_iff_ne.2 k1
  clear r0 r1 f0 f1
  have HC1 := Lib.hid (HC.out.below (HD.out.below hBw))
  have HZ : Hid (w.heap.size < w1.heap.size) := Lib.hid (lt_of_heap HR.out)
  by_cases k2 : k = 2
  · subst k2
    go_wp2_with fail
    refine (l1_below B b a n c 1000000000 _ hn HC1.out HD.out.cur (by omega) (by omega) (by have := HZ.out; omega)).mono ?_
    rintro e w2 ⟨x, rfl, hx0, hx1, hd⟩
    have HR2 := Lib.hid (hd.blk HR.out (by omega))
    have HD2 := Lib.hid (HD.out.trans hd)
    clear hd
    have HC2 := Lib.hid (HC.out.below (HD2.out.below hBw))
    have HZ2 : Hid (w.heap.size < w2.heap.size) := Lib.hid (lt_of_heap HR2.out)
    go_wp2_with fail
    refine (l1_below B b a n c 1000000000 _ hn HC2.out HD2.out.cur (by omega) (by omega) (by have := HZ2.out; omega)).mono ?_
    rintro e w3 ⟨y, rfl, hy0, hy1, hd⟩
    have HR3 := Lib.hid (hd.blk HR2.out (by omega))
    have HD3 := Lib.hid (HD2.out.trans hd)
    clear hd
    go_wp2_with fail
    refine (spec_make x (1 + y) _).mono ?_
    rintro e w4 ⟨p, q, rfl, HX, hb⟩
    have HR4 := Lib.hid (blk_below HR3.out hb)
    have HD4 := Lib.hid (HD3.out.more hb)
    clear hb
    have f0 := frozen_of_row _ _ 0 _ _ HR4.out
    have f1 := frozen_of_row _ _ 1 _ _ HR4.out
    have r0 := cell_of_row _ _ 0 _ _ _ HR4.out
    have r1 := cell_of_row _ _ 1 _ _ _ HR4.out
    go_wp2_with fail
    exact bodyPost_ret (v := .agg #[.int .i64 p, .int .i64 q]) (results_cell_row Try.results58 _ _ _ _ _ _ _ rfl (blk_set2 HR4.out) Try.underlying28 rfl (by kernel_rfl)) rfl ⟨_, _, rfl, (mk_in HX.out).1, (mk_in HX.out).2, HD4.out.set2 (by omega) (Nat.le_refl _)⟩
  · have e2 : (k == 2) = false := beq_eq_false_iff_ne.2 k2
    go_wp2_with fail
    refine (l1_below B b a n c 41 _ hn HC1.out HD.out.cur (by omega) (by omega) (by have := HZ.out; omega)).mono ?_
    rintro e w2 ⟨x, rfl, hx0, hx1, hd⟩
    have HR2 := Lib.hid (hd.blk HR.out (by omega))
    have HD2 := Lib.hid (HD.out.trans hd)
    clear hd
    have HC2 := Lib.hid (HC.out.below (HD2.out.below hBw))
    have HZ2 : Hid (w.heap.size < w2.heap.size) := Lib.hid (lt_of_heap HR2.out)
    go_wp2_with fail
    refine (l1_below B b a n c 12 _ hn HC2.out HD2.out.cur (by omega) (by omega) (by have := HZ2.out; omega)).mono ?_
    rintro e w3 ⟨y, rfl, hy0, hy1, hd⟩
    have HR3 := Lib.hid (hd.blk HR2.out (by omega))
    have HD3 := Lib.hid (HD2.out.trans hd)
    clear hd
    go_wp2_with fail
    refine (spec_make (x - 20) (1 + y) _).mono ?_
    rintro e w4 ⟨p, q, rfl, HX, hb⟩
    have HR4 := Lib.hid (blk_below HR3.out hb)
    have HD4 := Lib.hid (HD3.out.more hb)
    clear hb
    have f0 := frozen_of_row _ _ 0 _ _ HR4.out
    have f1 := frozen_of_row _ _ 1 _ _ HR4.out
    have r0 := cell_of_row _ _ 0 _ _ _ HR4.out
    have r1 := cell_of_row _ _ 1 _ _ _ HR4.out
    go_wp2_with fail
    exact bodyPost_ret (v := .agg #[.int .i64 p, .int .i64 q]) (results_cell_row Try.results58 _ _ _ _ _ _ _ rfl (blk_set2 HR4.out) Try.underlying28 rfl (by kernel_rfl)) rfl ⟨_, _, rfl, (mk_in HX.out).1, (mk_in HX.out).2, HD4.out.set2 (by omega) (Nat.le_refl _)⟩
end Go.Proofs.Ytaomjggamamckaa.rat
