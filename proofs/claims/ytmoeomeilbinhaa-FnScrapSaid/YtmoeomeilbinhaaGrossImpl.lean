/-
  The program's GrossOf and NetOf.
-/
import Derived.Test.YtmoeomeilbinhaaGrossLib
import Derived.Test.YtmoeomeilbinhaaItImpl
import Derived.Test.YtmoeomeilbinhaaHold
import Derived.WalkKit
import Derived.WalkSpells
import Derived.WalkSmall
import Derived.BigQuiet
import Derived.Deep.QuietTactic
import Derived.Deep.DeepCutAuto
import Derived.Lib.Hide
namespace Go.Proofs.Ytmoeomeilbinhaa
open Go.RowKit

set_option maxRecDepth 100000 in
set_option maxHeartbeats 2000000 in
theorem im_gross (x : IT) (q : Int) (w : World) (hs : IT.Sz x) : Calls Try.prog 11 #[IT.val x, .int .i64 q] w (NumRes (grossR x q) w) := by
  have HI := Lib.hid (im_item x (w.alloc (.cells #[.string x.code, .string x.unt, .int .i64 x.kind, .int .i64 x.lead, .int .i64 x.rule, .int .i64 x.lsz, .int .i64 x.safe, .int .i64 x.scr] 25)) hs)
  have HR := heap_alloc_new w (.cells #[.string x.code, .string x.unt, .int .i64 x.kind, .int .i64 x.lead, .int .i64 x.rule, .int .i64 x.lsz, .int .i64 x.safe, .int .i64 x.scr] 25)
  have HB : Hid (Below w.heap.size w (w.alloc (.cells #[.string x.code, .string x.unt, .int .i64 x.kind, .int .i64 x.lead, .int .i64 x.rule, .int .i64 x.lsz, .int .i64 x.safe, .int .i64 x.scr] 25))) := Lib.hid ((Below.refl _ _).alloc (Nat.le_refl _) _)
  clear hs
  unfold IT.val at HI ⊢
  have c0 := cell_of_row _ _ 0 _ _ _ HR
  have c1 := cell_of_row _ _ 1 _ _ _ HR
  have c2 := cell_of_row _ _ 2 _ _ _ HR
  have c3 := cell_of_row _ _ 3 _ _ _ HR
  have c4 := cell_of_row _ _ 4 _ _ _ HR
  have c5 := cell_of_row _ _ 5 _ _ _ HR
  have c6 := cell_of_row _ _ 6 _ _ _ HR
  have c7 := cell_of_row _ _ 7 _ _ _ HR
  go_enter Try.func11, Try.ntmps11
  go_wp2_with fail
  refine HI.out.mono ?_
  rintro e w1 ⟨rfl, hb⟩
  have HR1 := blk_below HR hb
  have HB1 := Lib.hid (HB.out.trans (hb.mono HB.out.size))
  clear hb HI HR HB c0 c1 c2 c3 c4 c5 c6 c7
  have c0 := cell_of_row _ _ 0 _ _ _ HR1
  have c1 := cell_of_row _ _ 1 _ _ _ HR1
  have c2 := cell_of_row _ _ 2 _ _ _ HR1
  have c3 := cell_of_row _ _ 3 _ _ _ HR1
  have c4 := cell_of_row _ _ 4 _ _ _ HR1
  have c5 := cell_of_row _ _ 5 _ _ _ HR1
  have c6 := cell_of_row _ _ 6 _ _ _ HR1
  have c7 := cell_of_row _ _ 7 _ _ _ HR1
  rcases Bool.eq_false_or_eq_true (itB x) with hI | hI
  rotate_left
  · have HY : Hid (grossR x q = (0, false)) := Lib.hid (grossR_no (fun h => by rw [itB_yes h.1] at hI; cases hI))
    rw [hI]
    go_wp2_with fail
    go_ret2
    exact ⟨0, false, rfl, HY, HB1.out⟩
  have HOK := Lib.hid (itB_iff.1 hI)
  have hsc := HOK.out.2.2.2.2.2.2.1
  rw [hI]
  clear hI
  go_wp2_with fail
  by_cases hq : 0 ≤ q ∧ q ≤ 1000000000
  rotate_left
  · have HY : Hid (grossR x q = (0, false)) := Lib.hid (grossR_no (fun h => hq h.2))
    refine (im_upTo q 1000000000 false _ (inB_no (by omega))).mono ?_
    rintro e w2 ⟨rfl, rfl⟩
    go_wp2_with fail
    go_ret2
    exact ⟨0, false, rfl, HY, HB1.out⟩
  refine (im_upTo q 1000000000 true _ (inB_yes hq.1 hq.2)).mono ?_
  rintro e w2 ⟨rfl, rfl⟩
  have HY := Lib.hid (grossR_yes HOK.out hq.1 hq.2)
  have HG := Lib.hid (fun W => im_good x W hsc.1 hsc.2)
  obtain ⟨d, hd⟩ : ∃ d, 100 - x.scr = d := ⟨_, rfl⟩
  have hdb : 50 ≤ d ∧ d ≤ 100 := by omega
  simp only [hd] at HY HG
  have hz : (d == 0) = false := beq_eq_false_iff_ne.2 (by omega)
  have htd : (q * 100 + d - 1).tdiv d = (q * 100 + d - 1) / d := Int.tdiv_eq_ediv_of_nonneg (by omega)
  have hdn : 0 ≤ (q * 100 + d - 1) / d ∧ (q * 100 + d - 1) / d ≤ 2000000000000000000 := by
    refine ⟨Int.ediv_nonneg (by omega) (by omega), ?_⟩
    have := Int.ediv_le_self d (show 0 ≤ q * 100 + d - 1 by omega)
    omega
  clear hd
  go_wp2_with fail
  refine (HG.out _).mono ?_
  rintro e w3 ⟨rfl, hb⟩
  have HB3 := Lib.hid (HB1.out.trans (hb.mono HB1.out.size))
  clear hb
  go_wp2_with fail
  go_ret2
  exact ⟨_, true, rfl, HY, HB3.out⟩


set_option maxRecDepth 100000 in
set_option maxHeartbeats 2000000 in
theorem im_net (x : IT) (q : Int) (w : World) (hs : IT.Sz x) : Calls Try.prog 13 #[IT.val x, .int .i64 q] w (NumRes (netR x q) w) := by
  have HI := Lib.hid (im_item x (w.alloc (.cells #[.string x.code, .string x.unt, .int .i64 x.kind, .int .i64 x.lead, .int .i64 x.rule, .int .i64 x.lsz, .int .i64 x.safe, .int .i64 x.scr] 25)) hs)
  have HR := heap_alloc_new w (.cells #[.string x.code, .string x.unt, .int .i64 x.kind, .int .i64 x.lead, .int .i64 x.rule, .int .i64 x.lsz, .int .i64 x.safe, .int .i64 x.scr] 25)
  have HB : Hid (Below w.heap.size w (w.alloc (.cells #[.string x.code, .string x.unt, .int .i64 x.kind, .int .i64 x.lead, .int .i64 x.rule, .int .i64 x.lsz, .int .i64 x.safe, .int .i64 x.scr] 25))) := Lib.hid ((Below.refl _ _).alloc (Nat.le_refl _) _)
  clear hs
  unfold IT.val at HI ⊢
  have c0 := cell_of_row _ _ 0 _ _ _ HR
  have c1 := cell_of_row _ _ 1 _ _ _ HR
  have c2 := cell_of_row _ _ 2 _ _ _ HR
  have c3 := cell_of_row _ _ 3 _ _ _ HR
  have c4 := cell_of_row _ _ 4 _ _ _ HR
  have c5 := cell_of_row _ _ 5 _ _ _ HR
  have c6 := cell_of_row _ _ 6 _ _ _ HR
  have c7 := cell_of_row _ _ 7 _ _ _ HR
  go_enter Try.func13, Try.ntmps13
  go_wp2_with fail
  refine HI.out.mono ?_
  rintro e w1 ⟨rfl, hb⟩
  have HR1 := blk_below HR hb
  have HB1 := Lib.hid (HB.out.trans (hb.mono HB.out.size))
  clear hb HI HR HB c0 c1 c2 c3 c4 c5 c6 c7
  have c0 := cell_of_row _ _ 0 _ _ _ HR1
  have c1 := cell_of_row _ _ 1 _ _ _ HR1
  have c2 := cell_of_row _ _ 2 _ _ _ HR1
  have c3 := cell_of_row _ _ 3 _ _ _ HR1
  have c4 := cell_of_row _ _ 4 _ _ _ HR1
  have c5 := cell_of_row _ _ 5 _ _ _ HR1
  have c6 := cell_of_row _ _ 6 _ _ _ HR1
  have c7 := cell_of_row _ _ 7 _ _ _ HR1
  rcases Bool.eq_false_or_eq_true (itB x) with hI | hI
  rotate_left
  · have HY : Hid (netR x q = (0, false)) := Lib.hid (netR_no (fun h => by rw [itB_yes h.1] at hI; cases hI))
    rw [hI]
    go_wp2_with fail
    go_ret2
    exact ⟨0, false, rfl, HY, HB1.out⟩
  have HOK := Lib.hid (itB_iff.1 hI)
  have hsc := HOK.out.2.2.2.2.2.2.1
  rw [hI]
  clear hI
  go_wp2_with fail
  by_cases hq : 0 ≤ q ∧ q ≤ 2000000000
  rotate_left
  · have HY : Hid (netR x q = (0, false)) := Lib.hid (netR_no (fun h => hq h.2))
    refine (im_upTo q 2000000000 false _ (inB_no (by omega))).mono ?_
    rintro e w2 ⟨rfl, rfl⟩
    go_wp2_with fail
    go_ret2
    exact ⟨0, false, rfl, HY, HB1.out⟩
  refine (im_upTo q 2000000000 true _ (inB_yes hq.1 hq.2)).mono ?_
  rintro e w2 ⟨rfl, rfl⟩
  have HY := Lib.hid (netR_yes HOK.out hq.1 hq.2)
  have HG := Lib.hid (fun W => im_good x W hsc.1 hsc.2)
  obtain ⟨d, hd⟩ : ∃ d, 100 - x.scr = d := ⟨_, rfl⟩
  have hdb : 50 ≤ d ∧ d ≤ 100 := by omega
  have hp : 0 ≤ q * d ∧ q * d ≤ 200000000000 := ⟨Int.mul_nonneg hq.1 (by omega), Int.le_trans (Int.mul_le_mul_of_nonneg_right hq.2 (by omega)) (by omega)⟩
  have htd : (q * d).tdiv 100 = (q * d) / 100 := Int.tdiv_eq_ediv_of_nonneg hp.1
  simp only [hd] at HY HG
  clear hd
  go_wp2_with fail
  refine (HG.out _).mono ?_
  rintro e w3 ⟨rfl, hb⟩
  have HB3 := Lib.hid (HB1.out.trans (hb.mono HB1.out.size))
  clear hb
  go_wp2_with fail
  go_ret2
  exact ⟨_, true, rfl, HY, HB3.out⟩

end Go.Proofs.Ytmoeomeilbinhaa
