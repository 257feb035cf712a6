/-
  The walks of the exact laws on items.
-/
import Derived.Test.YtmoeomeilbinhaaITTo
import Derived.Test.YtmoeomeilbinhaaITEq
import Derived.Test.YtmoeomeilbinhaaCatSpec
import Derived.Test.YtmoeomeilbinhaaCatImpl
import Derived.Test.YtmoeomeilbinhaaGrossSpec
import Derived.Test.YtmoeomeilbinhaaGrossImpl
import Derived.Test.YtmoeomeilbinhaaHold
import Derived.WalkKit
import Derived.WalkSpells
import Derived.WalkSmall
import Derived.Deep.DeepCutAuto
import Derived.Lib.Hide
namespace Go.Proofs.Ytmoeomeilbinhaa
open Go.RowKit

theorem len_max {n : Nat} (h : n ≤ 1048576) : n ≤ maxLen := by unfold maxLen; omega
theorem IT.left_ge (x : IT) : -1 ≤ IT.left x 1048576 := by unfold IT.left; split <;> omega
/-- The contracts of single items, with the cells written out. -/
theorem one_sz (x : IT) (hs : IT.Sz x) (W : World) : Calls Try.prog 14 #[.agg #[.string x.code, .string x.unt, .int .i64 x.kind, .int .i64 x.lead, .int .i64 x.rule, .int .i64 x.lsz, .int .i64 x.safe, .int .i64 x.scr], .int .i64 1048576] W fun e w' => e = .returned (.int .i64 (IT.left x 1048576)) ∧ Below W.heap.size W w' := IT.sz_one x 1048576 W (by omega) (by omega) hs
theorem one_to (x : IT) (W : World) : Calls Try.prog 16 #[.agg #[.string x.code, .string x.unt, .int .i64 x.kind, .int .i64 x.lead, .int .i64 x.rule, .int .i64 x.lsz, .int .i64 x.safe, .int .i64 x.scr]] W fun e w' => e = .returned (.agg #[.string x.code, .string x.unt, .int .i64 x.kind, .int .i64 x.lead, .int .i64 x.rule, .int .i64 x.lsz, .int .i64 x.safe, .int .i64 x.scr]) ∧ Below W.heap.size W w' := IT.to_one x W
theorem spec_findR (v : Value) (l : List IT) (s : ByteArray) (w : World) (h : IT.Is w v l) (hm : l.length ≤ maxLen) : Calls Try.prog 23 #[v, .string s] w (IntRes (fiI l s) w) :=
  (spec_findItem v l s w h hm).mono (fun e w9 h => ⟨h.1, by rw [← h.2]; exact Below.refl _ _⟩)
set_option maxRecDepth 100000 in
set_option maxHeartbeats 4000000 in
theorem ex_IsItem (x : IT) (w : World) (hs : IT.Sz x) :
    Calls Try.prog 4 #[IT.val x] w fun e w' => e = .returned (.bool true) ∧ Below w.heap.size w w' := by
  have HS := Lib.hid hs
  have HR_0 := heap_alloc_new w (.cells #[.string x.code, .string x.unt, .int .i64 x.kind, .int .i64 x.lead, .int .i64 x.rule, .int .i64 x.lsz, .int .i64 x.safe, .int .i64 x.scr] 30)
  have HB_0 : Hid (Below w.heap.size w (w.alloc (.cells #[.string x.code, .string x.unt, .int .i64 x.kind, .int .i64 x.lead, .int .i64 x.rule, .int .i64 x.lsz, .int .i64 x.safe, .int .i64 x.scr] 30))) := Lib.hid ((Below.refl _ _).alloc (Nat.le_refl _) _)
  clear hs
  have c0 := cell_of_row _ _ 0 _ _ _ HR_0
  have c1 := cell_of_row _ _ 1 _ _ _ HR_0
  have c2 := cell_of_row _ _ 2 _ _ _ HR_0
  have c3 := cell_of_row _ _ 3 _ _ _ HR_0
  have c4 := cell_of_row _ _ 4 _ _ _ HR_0
  have c5 := cell_of_row _ _ 5 _ _ _ HR_0
  have c6 := cell_of_row _ _ 6 _ _ _ HR_0
  have c7 := cell_of_row _ _ 7 _ _ _ HR_0
  unfold IT.val
  go_enter Try.func4, Try.ntmps4
  obtain ⟨y, hy⟩ : ∃ y, itB x = y := ⟨_, rfl⟩
  have HY := Lib.hid hy
  clear hy
  have hnn : (y != y) = false := by simp
  go_wp2_with fail
  refine (one_sz x HS.out _).mono ?_
  rintro e w1 ⟨rfl, hb⟩
  have HR_1 := blk_below HR_0 hb
  have HB_1 := Lib.hid (HB_0.out.trans (hb.mono HB_0.out.size))
  clear hb HR_0 HB_0 c0 c1 c2 c3 c4 c5 c6 c7
  have c0 := cell_of_row _ _ 0 _ _ _ HR_1
  have c1 := cell_of_row _ _ 1 _ _ _ HR_1
  have c2 := cell_of_row _ _ 2 _ _ _ HR_1
  have c3 := cell_of_row _ _ 3 _ _ _ HR_1
  have c4 := cell_of_row _ _ 4 _ _ _ HR_1
  have c5 := cell_of_row _ _ 5 _ _ _ HR_1
  have c6 := cell_of_row _ _ 6 _ _ _ HR_1
  have c7 := cell_of_row _ _ 7 _ _ _ HR_1
  obtain ⟨z, hz⟩ : ∃ z, IT.left x 1048576 = z := ⟨_, rfl⟩
  have hzm := IT.left_ge x
  rw [hz] at hzm
  rw [hz]
  clear hz
  by_cases hzn : z < 0
  · go_wp2_with fail
    go_ret
    exact ⟨rfl, HB_1.out⟩
  go_wp2_with fail
  refine (one_to x _).mono ?_
  rintro e w2 ⟨rfl, hb⟩
  have HR_2 := blk_below HR_1 hb
  have HB_2 := Lib.hid (HB_1.out.trans (hb.mono HB_1.out.size))
  clear hb HR_1 HB_1 c0 c1 c2 c3 c4 c5 c6 c7
  have c0 := cell_of_row _ _ 0 _ _ _ HR_2
  have c1 := cell_of_row _ _ 1 _ _ _ HR_2
  have c2 := cell_of_row _ _ 2 _ _ _ HR_2
  have c3 := cell_of_row _ _ 3 _ _ _ HR_2
  have c4 := cell_of_row _ _ 4 _ _ _ HR_2
  have c5 := cell_of_row _ _ 5 _ _ _ HR_2
  have c6 := cell_of_row _ _ 6 _ _ _ HR_2
  have c7 := cell_of_row _ _ 7 _ _ _ HR_2
  go_wp2_with fail
  refine (spec_item x _ HS.out).mono ?_
  rintro e w3 ⟨rfl, hb⟩
  have HR_3 := blk_below HR_2 hb
  have HB_3 := Lib.hid (HB_2.out.trans (hb.mono HB_2.out.size))
  clear hb HR_2 HB_2 c0 c1 c2 c3 c4 c5 c6 c7
  have c0 := cell_of_row _ _ 0 _ _ _ HR_3
  have c1 := cell_of_row _ _ 1 _ _ _ HR_3
  have c2 := cell_of_row _ _ 2 _ _ _ HR_3
  have c3 := cell_of_row _ _ 3 _ _ _ HR_3
  have c4 := cell_of_row _ _ 4 _ _ _ HR_3
  have c5 := cell_of_row _ _ 5 _ _ _ HR_3
  have c6 := cell_of_row _ _ 6 _ _ _ HR_3
  have c7 := cell_of_row _ _ 7 _ _ _ HR_3
  rw [HY.out]
  go_wp2_with fail
  refine (one_to x _).mono ?_
  rintro e w4 ⟨rfl, hb⟩
  have HR_4 := blk_below HR_3 hb
  have HB_4 := Lib.hid (HB_3.out.trans (hb.mono HB_3.out.size))
  clear hb HR_3 HB_3 c0 c1 c2 c3 c4 c5 c6 c7
  have c0 := cell_of_row _ _ 0 _ _ _ HR_4
  have c1 := cell_of_row _ _ 1 _ _ _ HR_4
  have c2 := cell_of_row _ _ 2 _ _ _ HR_4
  have c3 := cell_of_row _ _ 3 _ _ _ HR_4
  have c4 := cell_of_row _ _ 4 _ _ _ HR_4
  have c5 := cell_of_row _ _ 5 _ _ _ HR_4
  have c6 := cell_of_row _ _ 6 _ _ _ HR_4
  have c7 := cell_of_row _ _ 7 _ _ _ HR_4
  go_wp2_with fail
  refine (im_item x _ HS.out).mono ?_
  rintro e w5 ⟨rfl, hb⟩
  have HR_5 := blk_below HR_4 hb
  have HB_5 := Lib.hid (HB_4.out.trans (hb.mono HB_4.out.size))
  clear hb HR_4 HB_4 c0 c1 c2 c3 c4 c5 c6 c7
  have c0 := cell_of_row _ _ 0 _ _ _ HR_5
  have c1 := cell_of_row _ _ 1 _ _ _ HR_5
  have c2 := cell_of_row _ _ 2 _ _ _ HR_5
  have c3 := cell_of_row _ _ 3 _ _ _ HR_5
  have c4 := cell_of_row _ _ 4 _ _ _ HR_5
  have c5 := cell_of_row _ _ 5 _ _ _ HR_5
  have c6 := cell_of_row _ _ 6 _ _ _ HR_5
  have c7 := cell_of_row _ _ 7 _ _ _ HR_5
  rw [HY.out]
  go_wp2_with fail
  go_ret
  exact ⟨rfl, HB_5.out⟩

set_option maxRecDepth 100000 in
set_option maxHeartbeats 4000000 in
theorem ex_GrossOf (x : IT) (q : Int) (w : World) (hs : IT.Sz x) :
    Calls Try.prog 7 #[IT.val x, .int .i64 q] w fun e w' => e = .returned (.bool true) ∧ Below w.heap.size w w' := by
  have HS := Lib.hid hs
  have HR_0 := heap_alloc_new w (.cells #[.string x.code, .string x.unt, .int .i64 x.kind, .int .i64 x.lead, .int .i64 x.rule, .int .i64 x.lsz, .int .i64 x.safe, .int .i64 x.scr] 30)
  have HB_0 : Hid (Below w.heap.size w (w.alloc (.cells #[.string x.code, .string x.unt, .int .i64 x.kind, .int .i64 x.lead, .int .i64 x.rule, .int .i64 x.lsz, .int .i64 x.safe, .int .i64 x.scr] 30))) := Lib.hid ((Below.refl _ _).alloc (Nat.le_refl _) _)
  clear hs
  have c0 := cell_of_row _ _ 0 _ _ _ HR_0
  have c1 := cell_of_row _ _ 1 _ _ _ HR_0
  have c2 := cell_of_row _ _ 2 _ _ _ HR_0
  have c3 := cell_of_row _ _ 3 _ _ _ HR_0
  have c4 := cell_of_row _ _ 4 _ _ _ HR_0
  have c5 := cell_of_row _ _ 5 _ _ _ HR_0
  have c6 := cell_of_row _ _ 6 _ _ _ HR_0
  have c7 := cell_of_row _ _ 7 _ _ _ HR_0
  unfold IT.val
  go_enter Try.func7, Try.ntmps7
  go_wp2_with fail
  refine (one_sz x HS.out _).mono ?_
  rintro e w1 ⟨rfl, hb⟩
  have HR_1 := blk_below HR_0 hb
  have HB_1 := Lib.hid (HB_0.out.trans (hb.mono HB_0.out.size))
  clear hb HR_0 HB_0 c0 c1 c2 c3 c4 c5 c6 c7
  have c0 := cell_of_row _ _ 0 _ _ _ HR_1
  have c1 := cell_of_row _ _ 1 _ _ _ HR_1
  have c2 := cell_of_row _ _ 2 _ _ _ HR_1
  have c3 := cell_of_row _ _ 3 _ _ _ HR_1
  have c4 := cell_of_row _ _ 4 _ _ _ HR_1
  have c5 := cell_of_row _ _ 5 _ _ _ HR_1
  have c6 := cell_of_row _ _ 6 _ _ _ HR_1
  have c7 := cell_of_row _ _ 7 _ _ _ HR_1
  obtain ⟨z, hz⟩ : ∃ z, IT.left x 1048576 = z := ⟨_, rfl⟩
  have hzm := IT.left_ge x
  rw [hz] at hzm
  rw [hz]
  clear hz
  by_cases hzn : z < 0
  · go_wp2_with fail
    go_ret
    exact ⟨rfl, HB_1.out⟩
  obtain ⟨z0, y0, hy⟩ : ∃ z0 y0, grossR x q = (z0, y0) := ⟨_, _, rfl⟩
  have HY := Lib.hid hy
  clear hy
  have hnn : (y0 != y0) = false := by simp
  have hmm : (z0 != z0) = false := by simp
  go_wp2_with fail
  refine (one_to x _).mono ?_
  rintro e w2 ⟨rfl, hb⟩
  have HR_2 := blk_below HR_1 hb
  have HB_2 := Lib.hid (HB_1.out.trans (hb.mono HB_1.out.size))
  clear hb HR_1 HB_1 c0 c1 c2 c3 c4 c5 c6 c7
  have c0 := cell_of_row _ _ 0 _ _ _ HR_2
  have c1 := cell_of_row _ _ 1 _ _ _ HR_2
  have c2 := cell_of_row _ _ 2 _ _ _ HR_2
  have c3 := cell_of_row _ _ 3 _ _ _ HR_2
  have c4 := cell_of_row _ _ 4 _ _ _ HR_2
  have c5 := cell_of_row _ _ 5 _ _ _ HR_2
  have c6 := cell_of_row _ _ 6 _ _ _ HR_2
  have c7 := cell_of_row _ _ 7 _ _ _ HR_2
  go_wp2_with fail
  refine (spec_gross x q _ HS.out).mono ?_
  rintro e w3 ⟨z1, y1, rfl, hp, hb⟩
  have HR_3 := blk_below HR_2 hb
  have HB_3 := Lib.hid (HB_2.out.trans (hb.mono HB_2.out.size))
  clear hb HR_2 HB_2 c0 c1 c2 c3 c4 c5 c6 c7
  have c0 := cell_of_row _ _ 0 _ _ _ HR_3
  have c1 := cell_of_row _ _ 1 _ _ _ HR_3
  have c2 := cell_of_row _ _ 2 _ _ _ HR_3
  have c3 := cell_of_row _ _ 3 _ _ _ HR_3
  have c4 := cell_of_row _ _ 4 _ _ _ HR_3
  have c5 := cell_of_row _ _ 5 _ _ _ HR_3
  have c6 := cell_of_row _ _ 6 _ _ _ HR_3
  have c7 := cell_of_row _ _ 7 _ _ _ HR_3
  obtain ⟨rfl, rfl⟩ := Prod.mk.inj (hp.out.symm.trans HY.out)
  clear hp
  go_wp2_with fail
  refine (one_to x _).mono ?_
  rintro e w4 ⟨rfl, hb⟩
  have HR_4 := blk_below HR_3 hb
  have HB_4 := Lib.hid (HB_3.out.trans (hb.mono HB_3.out.size))
  clear hb HR_3 HB_3 c0 c1 c2 c3 c4 c5 c6 c7
  have c0 := cell_of_row _ _ 0 _ _ _ HR_4
  have c1 := cell_of_row _ _ 1 _ _ _ HR_4
  have c2 := cell_of_row _ _ 2 _ _ _ HR_4
  have c3 := cell_of_row _ _ 3 _ _ _ HR_4
  have c4 := cell_of_row _ _ 4 _ _ _ HR_4
  have c5 := cell_of_row _ _ 5 _ _ _ HR_4
  have c6 := cell_of_row _ _ 6 _ _ _ HR_4
  have c7 := cell_of_row _ _ 7 _ _ _ HR_4
  go_wp2_with fail
  refine (im_gross x q _ HS.out).mono ?_
  rintro e w5 ⟨z2, y2, rfl, hp, hb⟩
  have HR_5 := blk_below HR_4 hb
  have HB_5 := Lib.hid (HB_4.out.trans (hb.mono HB_4.out.size))
  clear hb HR_4 HB_4 c0 c1 c2 c3 c4 c5 c6 c7
  have c0 := cell_of_row _ _ 0 _ _ _ HR_5
  have c1 := cell_of_row _ _ 1 _ _ _ HR_5
  have c2 := cell_of_row _ _ 2 _ _ _ HR_5
  have c3 := cell_of_row _ _ 3 _ _ _ HR_5
  have c4 := cell_of_row _ _ 4 _ _ _ HR_5
  have c5 := cell_of_row _ _ 5 _ _ _ HR_5
  have c6 := cell_of_row _ _ 6 _ _ _ HR_5
  have c7 := cell_of_row _ _ 7 _ _ _ HR_5
  obtain ⟨rfl, rfl⟩ := Prod.mk.inj (hp.out.symm.trans HY.out)
  clear hp
  go_wp2_with fail
  go_ret
  exact ⟨rfl, HB_5.out⟩

set_option maxRecDepth 100000 in
set_option maxHeartbeats 4000000 in
theorem ex_NetOf (x : IT) (q : Int) (w : World) (hs : IT.Sz x) :
    Calls Try.prog 8 #[IT.val x, .int .i64 q] w fun e w' => e = .returned (.bool true) ∧ Below w.heap.size w w' := by
  have HS := Lib.hid hs
  have HR_0 := heap_alloc_new w (.cells #[.string x.code, .string x.unt, .int .i64 x.kind, .int .i64 x.lead, .int .i64 x.rule, .int .i64 x.lsz, .int .i64 x.safe, .int .i64 x.scr] 30)
  have HB_0 : Hid (Below w.heap.size w (w.alloc (.cells #[.string x.code, .string x.unt, .int .i64 x.kind, .int .i64 x.lead, .int .i64 x.rule, .int .i64 x.lsz, .int .i64 x.safe, .int .i64 x.scr] 30))) := Lib.hid ((Below.refl _ _).alloc (Nat.le_refl _) _)
  clear hs
  have c0 := cell_of_row _ _ 0 _ _ _ HR_0
  have c1 := cell_of_row _ _ 1 _ _ _ HR_0
  have c2 := cell_of_row _ _ 2 _ _ _ HR_0
  have c3 := cell_of_row _ _ 3 _ _ _ HR_0
  have c4 := cell_of_row _ _ 4 _ _ _ HR_0
  have c5 := cell_of_row _ _ 5 _ _ _ HR_0
  have c6 := cell_of_row _ _ 6 _ _ _ HR_0
  have c7 := cell_of_row _ _ 7 _ _ _ HR_0
  unfold IT.val
  go_enter Try.func8, Try.ntmps8
  go_wp2_with fail
  refine (one_sz x HS.out _).mono ?_
  rintro e w1 ⟨rfl, hb⟩
  have HR_1 := blk_below HR_0 hb
  have HB_1 := Lib.hid (HB_0.out.trans (hb.mono HB_0.out.size))
  clear hb HR_0 HB_0 c0 c1 c2 c3 c4 c5 c6 c7
  have c0 := cell_of_row _ _ 0 _ _ _ HR_1
  have c1 := cell_of_row _ _ 1 _ _ _ HR_1
  have c2 := cell_of_row _ _ 2 _ _ _ HR_1
  have c3 := cell_of_row _ _ 3 _ _ _ HR_1
  have c4 := cell_of_row _ _ 4 _ _ _ HR_1
  have c5 := cell_of_row _ _ 5 _ _ _ HR_1
  have c6 := cell_of_row _ _ 6 _ _ _ HR_1
  have c7 := cell_of_row _ _ 7 _ _ _ HR_1
  obtain ⟨z, hz⟩ : ∃ z, IT.left x 1048576 = z := ⟨_, rfl⟩
  have hzm := IT.left_ge x
  rw [hz] at hzm
  rw [hz]
  clear hz
  by_cases hzn : z < 0
  · go_wp2_with fail
    go_ret
    exact ⟨rfl, HB_1.out⟩
  obtain ⟨z0, y0, hy⟩ : ∃ z0 y0, netR x q = (z0, y0) := ⟨_, _, rfl⟩
  have HY := Lib.hid hy
  clear hy
  have hnn : (y0 != y0) = false := by simp
  have hmm : (z0 != z0) = false := by simp
  go_wp2_with fail
  refine (one_to x _).mono ?_
  rintro e w2 ⟨rfl, hb⟩
  have HR_2 := blk_below HR_1 hb
  have HB_2 := Lib.hid (HB_1.out.trans (hb.mono HB_1.out.size))
  clear hb HR_1 HB_1 c0 c1 c2 c3 c4 c5 c6 c7
  have c0 := cell_of_row _ _ 0 _ _ _ HR_2
  have c1 := cell_of_row _ _ 1 _ _ _ HR_2
  have c2 := cell_of_row _ _ 2 _ _ _ HR_2
  have c3 := cell_of_row _ _ 3 _ _ _ HR_2
  have c4 := cell_of_row _ _ 4 _ _ _ HR_2
  have c5 := cell_of_row _ _ 5 _ _ _ HR_2
  have c6 := cell_of_row _ _ 6 _ _ _ HR_2
  have c7 := cell_of_row _ _ 7 _ _ _ HR_2
  go_wp2_with fail
  refine (spec_net x q _ HS.out).mono ?_
  rintro e w3 ⟨z1, y1, rfl, hp, hb⟩
  have HR_3 := blk_below HR_2 hb
  have HB_3 := Lib.hid (HB_2.out.trans (hb.mono HB_2.out.size))
  clear hb HR_2 HB_2 c0 c1 c2 c3 c4 c5 c6 c7
  have c0 := cell_of_row _ _ 0 _ _ _ HR_3
  have c1 := cell_of_row _ _ 1 _ _ _ HR_3
  have c2 := cell_of_row _ _ 2 _ _ _ HR_3
  have c3 := cell_of_row _ _ 3 _ _ _ HR_3
  have c4 := cell_of_row _ _ 4 _ _ _ HR_3
  have c5 := cell_of_row _ _ 5 _ _ _ HR_3
  have c6 := cell_of_row _ _ 6 _ _ _ HR_3
  have c7 := cell_of_row _ _ 7 _ _ _ HR_3
  obtain ⟨rfl, rfl⟩ := Prod.mk.inj (hp.out.symm.trans HY.out)
  clear hp
  go_wp2_with fail
  refine (one_to x _).mono ?_
  rintro e w4 ⟨rfl, hb⟩
  have HR_4 := blk_below HR_3 hb
  have HB_4 := Lib.hid (HB_3.out.trans (hb.mono HB_3.out.size))
  clear hb HR_3 HB_3 c0 c1 c2 c3 c4 c5 c6 c7
  have c0 := cell_of_row _ _ 0 _ _ _ HR_4
  have c1 := cell_of_row _ _ 1 _ _ _ HR_4
  have c2 := cell_of_row _ _ 2 _ _ _ HR_4
  have c3 := cell_of_row _ _ 3 _ _ _ HR_4
  have c4 := cell_of_row _ _ 4 _ _ _ HR_4
  have c5 := cell_of_row _ _ 5 _ _ _ HR_4
  have c6 := cell_of_row _ _ 6 _ _ _ HR_4
  have c7 := cell_of_row _ _ 7 _ _ _ HR_4
  go_wp2_with fail
  refine (im_net x q _ HS.out).mono ?_
  rintro e w5 ⟨z2, y2, rfl, hp, hb⟩
  have HR_5 := blk_below HR_4 hb
  have HB_5 := Lib.hid (HB_4.out.trans (hb.mono HB_4.out.size))
  clear hb HR_4 HB_4 c0 c1 c2 c3 c4 c5 c6 c7
  have c0 := cell_of_row _ _ 0 _ _ _ HR_5
  have c1 := cell_of_row _ _ 1 _ _ _ HR_5
  have c2 := cell_of_row _ _ 2 _ _ _ HR_5
  have c3 := cell_of_row _ _ 3 _ _ _ HR_5
  have c4 := cell_of_row _ _ 4 _ _ _ HR_5
  have c5 := cell_of_row _ _ 5 _ _ _ HR_5
  have c6 := cell_of_row _ _ 6 _ _ _ HR_5
  have c7 := cell_of_row _ _ 7 _ _ _ HR_5
  obtain ⟨rfl, rfl⟩ := Prod.mk.inj (hp.out.symm.trans HY.out)
  clear hp
  go_wp2_with fail
  go_ret
  exact ⟨rfl, HB_5.out⟩

set_option maxRecDepth 100000 in
set_option maxHeartbeats 4000000 in
theorem ex_IsCatalog (v : Value) (xs : List IT) (w : World) (h : IT.Is w v xs) (hm : xs.length ≤ maxLen) (hs : ∀ r, r ∈ xs → IT.Sz r) :
    Calls Try.prog 5 #[v] w fun e w' => e = .returned (.bool true) ∧ Below w.heap.size w w' := by
  have HX := Lib.hid h
  have HS := Lib.hid hs
  have HSZ := Lib.hid (IT.sz_all v xs 1048576 w h (by omega) (by omega) hm hs)
  obtain ⟨a1, c1, rfl⟩ := h.slice
  clear h hs hm
  go_enter Try.func5, Try.ntmps5
  go_wp2_with fail
  refine (HSZ.out).mono ?_
  rintro e w1 ⟨z, rfl, hz0, hz1, hz2, hb⟩
  have HZ2 := Lib.hid hz2
  clear hz2
  have B_1 := Lib.hid ((Lib.hid (Below.refl w.heap.size w)).out.trans (hb.mono (Lib.hid (Below.refl w.heap.size w)).out.size))
  have hs_1 := hb.size
  have hsw_1 := hs_1
  clear hb
  by_cases hzn : z < 0
  · go_wp2_with fail
    go_ret
    exact ⟨rfl, B_1.out⟩
  have hlen : xs.length ≤ 1048576 := by have := HZ2.out (by omega); omega
  have HL := Lib.hid hlen
  clear HZ2 HSZ
  obtain ⟨y, hy⟩ : ∃ y, catB xs = y := ⟨_, rfl⟩
  have HY := Lib.hid hy
  clear hy
  have hnn : (y != y) = false := by simp
  go_wp2_with fail
  refine (IT.to_all _ xs _ (HX.out.below B_1.out) HL.out).mono ?_
  rintro e w2 ⟨vA, rfl, ho, hb⟩
  have B_2 := Lib.hid (B_1.out.trans (hb.mono B_1.out.size))
  clear B_1
  have hs_2 := hb.size
  have OA_2 := Lib.hid ho
  have LA : Hid (∀ k, vA.ownBlock = some k → w1.heap.size ≤ k ∧ k < w2.heap.size) := Lib.hid (OA_2.out.lt)
  clear hb
  clear ho
  go_wp2_with fail
  refine (spec_catalog _ xs _ (IT.is_of_row OA_2.out) (len_max HL.out) HS.out).mono ?_
  rintro e w3 ⟨rfl, hb⟩
  rw [HY.out]
  have OA_3 := Lib.hid (own_keepL OA_2.out hb)
  clear OA_2
  have B_3 := Lib.hid (B_2.out.trans (hb.mono B_2.out.size))
  clear B_2
  have hs_3 := hb.size
  clear hb
  go_wp2_with fail
  refine (IT.to_all _ xs _ (HX.out.below B_3.out) HL.out).mono ?_
  rintro e w4 ⟨vX, rfl, ho, hb⟩
  have OA_4 := Lib.hid (own_keepL OA_3.out hb)
  clear OA_3
  have B_4 := Lib.hid (B_3.out.trans (hb.mono B_3.out.size))
  clear B_3
  have hs_4 := hb.size
  have OX_4 := Lib.hid ho
  have LX : Hid (∀ k, vX.ownBlock = some k → w3.heap.size ≤ k ∧ k < w4.heap.size) := Lib.hid (OX_4.out.lt)
  clear hb
  clear ho
  go_wp2_with fail
  refine (im_catalog _ xs _ (IT.is_of_row OX_4.out) (len_max HL.out) HS.out).mono ?_
  rintro e w5 ⟨rfl, hb⟩
  rw [HY.out]
  have OA_5 := Lib.hid (own_keepL OA_4.out hb)
  clear OA_4
  have OX_5 := Lib.hid (own_keepL OX_4.out hb)
  clear OX_4
  have B_5 := Lib.hid (B_4.out.trans (hb.mono B_4.out.size))
  clear B_4
  have hs_5 := hb.size
  clear hb
  go_wp2_with fail
  refine (IT.to_all _ xs _ (HX.out.below B_5.out) HL.out).mono ?_
  rintro e w6 ⟨vC, rfl, ho, hb⟩
  have OA_6 := Lib.hid (own_keepL OA_5.out hb)
  clear OA_5
  have OX_6 := Lib.hid (own_keepL OX_5.out hb)
  clear OX_5
  have B_6 := Lib.hid (B_5.out.trans (hb.mono B_5.out.size))
  clear B_5
  have hs_6 := hb.size
  have OC_6 := Lib.hid ho
  have LC : Hid (∀ k, vC.ownBlock = some k → w5.heap.size ≤ k ∧ k < w6.heap.size) := Lib.hid (OC_6.out.lt)
  clear hb
  clear ho
  go_wp2_with fail
  refine (IT.eq_all _ _ xs _ (IT.is_of_row OX_6.out) (IT.is_of_row OC_6.out) (by have := HL.out; omega)).mono ?_
  rintro e w7 ⟨rfl, hb⟩
  have OA_7 := Lib.hid (own_keepL OA_6.out hb)
  clear OA_6
  have OX_7 := Lib.hid (own_keepL OX_6.out hb)
  clear OX_6
  have OC_7 := Lib.hid (own_keepL OC_6.out hb)
  clear OC_6
  have B_7 := Lib.hid (B_6.out.trans (hb.mono B_6.out.size))
  clear B_6
  have hs_7 := hb.size
  clear hb
  go_wp2_with fail
  go_ret
  exact ⟨rfl, B_7.out⟩

set_option maxRecDepth 100000 in
set_option maxHeartbeats 4000000 in
theorem ex_FindItem (v : Value) (xs : List IT) (s : ByteArray) (w : World) (h : IT.Is w v xs) (hm : xs.length ≤ maxLen) (hs : ∀ r, r ∈ xs → IT.Sz r) (ht : s.size ≤ maxLen) :
    Calls Try.prog 6 #[v, .string s] w fun e w' => e = .returned (.bool true) ∧ Below w.heap.size w w' := by
  have HX := Lib.hid h
  have HS := Lib.hid hs
  have HSZ := Lib.hid (IT.sz_all v xs 1048576 w h (by omega) (by omega) hm hs)
  obtain ⟨a1, c1, rfl⟩ := h.slice
  unfold maxLen at ht
  by_cases hbig : 1048576 < s.size
  · go_enter Try.func6, Try.ntmps6
    go_wp2_with fail
    go_ret
    exact ⟨rfl, Below.refl _ _⟩
  clear h hs hm
  go_enter Try.func6, Try.ntmps6
  go_wp2_with fail
  refine (HSZ.out).mono ?_
  rintro e w1 ⟨z, rfl, hz0, hz1, hz2, hb⟩
  have HZ2 := Lib.hid hz2
  clear hz2
  have B_1 := Lib.hid ((Lib.hid (Below.refl w.heap.size w)).out.trans (hb.mono (Lib.hid (Below.refl w.heap.size w)).out.size))
  have hs_1 := hb.size
  have hsw_1 := hs_1
  clear hb
  by_cases hzn : z < 0
  · go_wp2_with fail
    go_ret
    exact ⟨rfl, B_1.out⟩
  have hlen : xs.length ≤ 1048576 := by have := HZ2.out (by omega); omega
  have HL := Lib.hid hlen
  clear HZ2 HSZ
  obtain ⟨y, hy⟩ : ∃ y, fiI xs s = y := ⟨_, rfl⟩
  have HY := Lib.hid hy
  clear hy
  have hnn : (y != y) = false := by simp
  go_wp2_with fail
  refine (IT.to_all _ xs _ (HX.out.below B_1.out) HL.out).mono ?_
  rintro e w2 ⟨vA, rfl, ho, hb⟩
  have B_2 := Lib.hid (B_1.out.trans (hb.mono B_1.out.size))
  clear B_1
  have hs_2 := hb.size
  have OA_2 := Lib.hid ho
  have LA : Hid (∀ k, vA.ownBlock = some k → w1.heap.size ≤ k ∧ k < w2.heap.size) := Lib.hid (OA_2.out.lt)
  clear hb
  clear ho
  go_wp2_with fail
  refine (spec_findR _ xs s _ (IT.is_of_row OA_2.out) (len_max HL.out)).mono ?_
  rintro e w3 ⟨rfl, hb⟩
  rw [HY.out]
  have OA_3 := Lib.hid (own_keepL OA_2.out hb)
  clear OA_2
  have B_3 := Lib.hid (B_2.out.trans (hb.mono B_2.out.size))
  clear B_2
  have hs_3 := hb.size
  clear hb
  go_wp2_with fail
  refine (IT.to_all _ xs _ (HX.out.below B_3.out) HL.out).mono ?_
  rintro e w4 ⟨vX, rfl, ho, hb⟩
  have OA_4 := Lib.hid (own_keepL OA_3.out hb)
  clear OA_3
  have B_4 := Lib.hid (B_3.out.trans (hb.mono B_3.out.size))
  clear B_3
  have hs_4 := hb.size
  have OX_4 := Lib.hid ho
  have LX : Hid (∀ k, vX.ownBlock = some k → w3.heap.size ≤ k ∧ k < w4.heap.size) := Lib.hid (OX_4.out.lt)
  clear hb
  clear ho
  go_wp2_with fail
  refine (im_findItem _ xs s _ (IT.is_of_row OX_4.out) (len_max HL.out)).mono ?_
  rintro e w5 ⟨rfl, hb⟩
  rw [HY.out]
  have OA_5 := Lib.hid (own_keepL OA_4.out hb)
  clear OA_4
  have OX_5 := Lib.hid (own_keepL OX_4.out hb)
  clear OX_4
  have B_5 := Lib.hid (B_4.out.trans (hb.mono B_4.out.size))
  clear B_4
  have hs_5 := hb.size
  clear hb
  go_wp2_with fail
  refine (IT.to_all _ xs _ (HX.out.below B_5.out) HL.out).mono ?_
  rintro e w6 ⟨vC, rfl, ho, hb⟩
  have OA_6 := Lib.hid (own_keepL OA_5.out hb)
  clear OA_5
  have OX_6 := Lib.hid (own_keepL OX_5.out hb)
  clear OX_5
  have B_6 := Lib.hid (B_5.out.trans (hb.mono B_5.out.size))
  clear B_5
  have hs_6 := hb.size
  have OC_6 := Lib.hid ho
  have LC : Hid (∀ k, vC.ownBlock = some k → w5.heap.size ≤ k ∧ k < w6.heap.size) := Lib.hid (OC_6.out.lt)
  clear hb
  clear ho
  go_wp2_with fail
  refine (IT.eq_all _ _ xs _ (IT.is_of_row OX_6.out) (IT.is_of_row OC_6.out) (by have := HL.out; omega)).mono ?_
  rintro e w7 ⟨rfl, hb⟩
  have OA_7 := Lib.hid (own_keepL OA_6.out hb)
  clear OA_6
  have OX_7 := Lib.hid (own_keepL OX_6.out hb)
  clear OX_6
  have OC_7 := Lib.hid (own_keepL OC_6.out hb)
  clear OC_6
  have B_7 := Lib.hid (B_6.out.trans (hb.mono B_6.out.size))
  clear B_6
  have hs_7 := hb.size
  clear hb
  go_wp2_with fail
  go_ret
  exact ⟨rfl, B_7.out⟩

end Go.Proofs.Ytmoeomeilbinhaa
