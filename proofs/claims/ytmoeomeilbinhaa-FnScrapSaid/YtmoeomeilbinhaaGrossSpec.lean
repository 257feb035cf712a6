/-
  The model's GrossOf and NetOf.
-/
import Derived.Test.YtmoeomeilbinhaaGrossLib
import Derived.Test.YtmoeomeilbinhaaItSpec
import Derived.Test.YtmoeomeilbinhaaFloor5
import Derived.Test.YtmoeomeilbinhaaHold
import Derived.WalkKit
import Derived.WalkSpells
import Derived.WalkSmall
import Derived.BigQuiet
import Derived.Deep.QuietTactic
import Derived.Deep.DeepCutAuto
import Derived.Lib.Hide
namespace Go.Proofs.Ytmoeomeilbinhaa
open Go.RowKit

set_option maxRecDepth 100000 in
set_option maxHeartbeats 2000000 in
theorem spec_gross (x : IT) (q : Int) (w : World) (hs : IT.Sz x) : Calls Try.prog 12 #[IT.val x, .int .i64 q] w (NumRes (grossR x q) w) := by
  have HI := Lib.hid (spec_item x (w.alloc (.cells #[.string x.code, .string x.unt, .int .i64 x.kind, .int .i64 x.lead, .int .i64 x.rule, .int .i64 x.lsz, .int .i64 x.safe, .int .i64 x.scr] 25)) hs)
  have HR := heap_alloc_new w (.cells #[.string x.code, .string x.unt, .int .i64 x.kind, .int .i64 x.lead, .int .i64 x.rule, .int .i64 x.lsz, .int .i64 x.safe, .int .i64 x.scr] 25)
  have HB : Hid (Below w.heap.size w (w.alloc (.cells #[.string x.code, .string x.unt, .int .i64 x.kind, .int .i64 x.lead, .int .i64 x.rule, .int .i64 x.lsz, .int .i64 x.safe, .int .i64 x.scr] 25))) := Lib.hid ((Below.refl _ _).alloc (Nat.le_refl _) _)
  clear hs
  unfold IT.val at HI ⊢
  have c0 := cell_of_row _ _ 0 _ _ _ HR
  have c1 := cell_of_row _ _ 1 _ _ _ HR
  have c2 := cell_of_row _ _ 2 _ _ _ HR
  have c3 := cell_of_row _ _ 3 _ _ _ HR
  have c4 := cell_of_row _ _ 4 _ _ _ HR
  have c5 := cell_of_row _ _ 5 _ _ _ HR
  have c6 := cell_of_row _ _ 6 _ _ _ HR
  have c7 := cell_of_row _ _ 7 _ _ _ HR
  go_enter Try.func12, Try.ntmps12
  go_wp2_with fail
  refine HI.out.mono ?_
  rintro e w1 ⟨rfl, hb⟩
  have HR1 := blk_below HR hb
  have HB1 := Lib.hid (HB.out.trans (hb.mono HB.out.size))
  clear hb HI HR HB c0 c1 c2 c3 c4 c5 c6 c7
  have c0 := cell_of_row _ _ 0 _ _ _ HR1
  have c1 := cell_of_row _ _ 1 _ _ _ HR1
  have c2 := cell_of_row _ _ 2 _ _ _ HR1
  have c3 := cell_of_row _ _ 3 _ _ _ HR1
  have c4 := cell_of_row _ _ 4 _ _ _ HR1
  have c5 := cell_of_row _ _ 5 _ _ _ HR1
  have c6 := cell_of_row _ _ 6 _ _ _ HR1
  have c7 := cell_of_row _ _ 7 _ _ _ HR1
  rcases Bool.eq_false_or_eq_true (itB x) with hI | hI
  rotate_left
  · have HY : Hid (grossR x q = (0, false)) := Lib.hid (grossR_no (fun h => by rw [itB_yes h.1] at hI; cases hI))
    rw [hI]
    go_wp2_with fail
    go_ret2
    exact ⟨0, false, rfl, HY, HB1.out⟩
  have HOK := Lib.hid (itB_iff.1 hI)
  have hsc := HOK.out.2.2.2.2.2.2.1
  rw [hI]
  clear hI
  go_wp2_with fail
  by_cases hq : 0 ≤ q ∧ q ≤ 1000000000
  rotate_left
  · have HY : Hid (grossR x q = (0, false)) := Lib.hid (grossR_no (fun h => hq h.2))
    refine (spec_in_is q 0 1000000000 false _ (inB_no (by omega))).mono ?_
    rintro e w2 ⟨rfl, rfl⟩
    go_wp2_with fail
    go_ret2
    exact ⟨0, false, rfl, HY, HB1.out⟩
  refine (spec_in_is q 0 1000000000 true _ (inB_yes hq.1 hq.2)).mono ?_
  rintro e w2 ⟨rfl, rfl⟩
  have HY := Lib.hid (grossR_yes HOK.out hq.1 hq.2)
  obtain ⟨d, hd⟩ : ∃ d, 100 - x.scr = d := ⟨_, rfl⟩
  have hfl := ceil_up (q * 100) (show 0 < d by omega)
  rw [hd, ← hfl] at HY
  have hdb : 50 ≤ d ∧ d ≤ 100 := by omega
  have hfb : -200000000000 ≤ -(q * 100) / d ∧ -(q * 100) / d ≤ 0 := by
    refine ⟨(Int.le_ediv_iff_mul_le (by omega)).2 (by omega), ?_⟩
    have := (Int.ediv_lt_iff_lt_mul (a := -(q * 100)) (b := 1) (c := d) (by omega)).2 (by omega)
    omega
  clear hfl
  go_wp2_with fail
  refine (spec_floor5 _ _ _ (by omega) (by omega) (by omega) (by omega)).mono ?_
  rintro e w3 ⟨rfl, rfl⟩
  rw [show -q * 100 = -(q * 100) from Int.neg_mul _ _]
  go_wp2_with fail
  go_ret2
  exact ⟨_, true, rfl, HY, HB1.out⟩


set_option maxRecDepth 100000 in
set_option maxHeartbeats 2000000 in
theorem spec_net (x : IT) (q : Int) (w : World) (hs : IT.Sz x) : Calls Try.prog 25 #[IT.val x, .int .i64 q] w (NumRes (netR x q) w) := by
  have HI := Lib.hid (spec_item x (w.alloc (.cells #[.string x.code, .string x.unt, .int .i64 x.kind, .int .i64 x.lead, .int .i64 x.rule, .int .i64 x.lsz, .int .i64 x.safe, .int .i64 x.scr] 25)) hs)
  have HR := heap_alloc_new w (.cells #[.string x.code, .string x.unt, .int .i64 x.kind, .int .i64 x.lead, .int .i64 x.rule, .int .i64 x.lsz, .int .i64 x.safe, .int .i64 x.scr] 25)
  have HB : Hid (Below w.heap.size w (w.alloc (.cells #[.string x.code, .string x.unt, .int .i64 x.kind, .int .i64 x.lead, .int .i64 x.rule, .int .i64 x.lsz, .int .i64 x.safe, .int .i64 x.scr] 25))) := Lib.hid ((Below.refl _ _).alloc (Nat.le_refl _) _)
  clear hs
  unfold IT.val at HI ⊢
  have c0 := cell_of_row _ _ 0 _ _ _ HR
  have c1 := cell_of_row _ _ 1 _ _ _ HR
  have c2 := cell_of_row _ _ 2 _ _ _ HR
  have c3 := cell_of_row _ _ 3 _ _ _ HR
  have c4 := cell_of_row _ _ 4 _ _ _ HR
  have c5 := cell_of_row _ _ 5 _ _ _ HR
  have c6 := cell_of_row _ _ 6 _ _ _ HR
  have c7 := cell_of_row _ _ 7 _ _ _ HR
  go_enter Try.func25, Try.ntmps25
  go_wp2_with fail
  refine HI.out.mono ?_
  rintro e w1 ⟨rfl, hb⟩
  have HR1 := blk_below HR hb
  have HB1 := Lib.hid (HB.out.trans (hb.mono HB.out.size))
  clear hb HI HR HB c0 c1 c2 c3 c4 c5 c6 c7
  have c0 := cell_of_row _ _ 0 _ _ _ HR1
  have c1 := cell_of_row _ _ 1 _ _ _ HR1
  have c2 := cell_of_row _ _ 2 _ _ _ HR1
  have c3 := cell_of_row _ _ 3 _ _ _ HR1
  have c4 := cell_of_row _ _ 4 _ _ _ HR1
  have c5 := cell_of_row _ _ 5 _ _ _ HR1
  have c6 := cell_of_row _ _ 6 _ _ _ HR1
  have c7 := cell_of_row _ _ 7 _ _ _ HR1
  rcases Bool.eq_false_or_eq_true (itB x) with hI | hI
  rotate_left
  · have HY : Hid (netR x q = (0, false)) := Lib.hid (netR_no (fun h => by rw [itB_yes h.1] at hI; cases hI))
    rw [hI]
    go_wp2_with fail
    go_ret2
    exact ⟨0, false, rfl, HY, HB1.out⟩
  have HOK := Lib.hid (itB_iff.1 hI)
  have hsc := HOK.out.2.2.2.2.2.2.1
  rw [hI]
  clear hI
  go_wp2_with fail
  by_cases hq : 0 ≤ q ∧ q ≤ 2000000000
  rotate_left
  · have HY : Hid (netR x q = (0, false)) := Lib.hid (netR_no (fun h => hq h.2))
    refine (spec_in_is q 0 2000000000 false _ (inB_no (by omega))).mono ?_
    rintro e w2 ⟨rfl, rfl⟩
    go_wp2_with fail
    go_ret2
    exact ⟨0, false, rfl, HY, HB1.out⟩
  refine (spec_in_is q 0 2000000000 true _ (inB_yes hq.1 hq.2)).mono ?_
  rintro e w2 ⟨rfl, rfl⟩
  have HY := Lib.hid (netR_yes HOK.out hq.1 hq.2)
  obtain ⟨d, hd⟩ : ∃ d, 100 - x.scr = d := ⟨_, rfl⟩
  have hdb : 50 ≤ d ∧ d ≤ 100 := by omega
  have hp : 0 ≤ q * d ∧ q * d ≤ 200000000000 := ⟨Int.mul_nonneg hq.1 (by omega), Int.le_trans (Int.mul_le_mul_of_nonneg_right hq.2 (by omega)) (by omega)⟩
  have htd : (q * d).tdiv 100 = (q * d) / 100 := Int.tdiv_eq_ediv_of_nonneg hp.1
  rw [hd] at HY
  go_wp2_with fail
  go_ret2
  exact ⟨_, true, rfl, HY, HB1.out⟩

end Go.Proofs.Ytmoeomeilbinhaa
