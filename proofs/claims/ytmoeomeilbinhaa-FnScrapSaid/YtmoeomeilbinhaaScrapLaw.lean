/-
  The walk of FnScrap.
-/
import Derived.Test.YtmoeomeilbinhaaItemDraw
import Derived.Test.YtmoeomeilbinhaaGrossSpec
import Derived.Test.YtmoeomeilbinhaaGrossImpl
import Derived.Test.YtmoeomeilbinhaaLawBig
import Derived.Test.YtmoeomeilbinhaaHold
import Derived.WalkKit
import Derived.WalkSpells
import Derived.WalkSmall
import Derived.Deep.DeepCutAuto
import Derived.Lib.Hide
namespace Go.Proofs.Ytmoeomeilbinhaa
open Go.RowKit

open Classical in
theorem grossR_false {x : IT} {q z : Int} (h : grossR x q = (z, false)) : z = 0 := by
  unfold grossR at h
  split at h
  · cases h
  · exact (Prod.mk.inj h).1.symm
open Classical in
theorem grossR_true {x : IT} {q z : Int} (h : grossR x q = (z, true)) : ItOk x ∧ 0 ≤ q ∧ q ≤ 1000000000 ∧ (q * 100 + (100 - x.scr) - 1) / (100 - x.scr) = z := by
  unfold grossR at h
  split at h
  · rename_i h0
    exact ⟨h0.1, h0.2.1, h0.2.2, (Prod.mk.inj h).1⟩
  · cases h
/-- What is asked of the two net quantities. -/
theorem scrap_fact {x : IT} {q z : Int} (h : grossR x q = (z, true)) : (q = 0 ∧ z = 0 ∧ netR x z = (0, true) ∧ netR x (z - 1) = (0, false)) ∨ (1 ≤ z ∧ z ≤ 2000000000 ∧ ∃ n m : Int, netR x z = (n, true) ∧ netR x (z - 1) = (m, true) ∧ q ≤ n ∧ m < q) := by
  obtain ⟨h0, h1, h2, h3⟩ := grossR_true h
  have hsc := h0.2.2.2.2.2.2.1
  rcases gross_fits h1 h2 (show (50 : Int) ≤ 100 - x.scr by omega) (by omega) h3 with ⟨k0, k1, k2, k3⟩ | ⟨k0, k1⟩
  · by_cases hz : z = 0
    · subst hz
      simp at k2
      have hq : q = 0 := by omega
      exact Or.inl ⟨hq, rfl, by rw [netR_yes h0 (by omega) (by omega)]; simp, netR_no (fun k => by have := k.2.1; omega)⟩
    · exact Or.inr ⟨by omega, k1, _, _, netR_yes h0 (by omega) (by omega), netR_yes h0 (by omega) (by omega), k2, k3⟩
  · subst k1
    exact Or.inl ⟨k0, rfl, by rw [netR_yes h0 (by omega) (by omega)]; simp, netR_no (fun k => by have := k.2.1; omega)⟩

set_option maxRecDepth 100000 in
set_option maxHeartbeats 4000000 in
theorem walk_FnScrap (a : Option Addr) (n c : Nat) (w : World) (hm : n ≤ maxLen) (hcode : CodeAt w.heap.size w a n) :
    Calls Try.prog 3 #[.slice a n c] w fun e w' => e = .returned (.bool true) ∧ Below w.heap.size w w' := by
  unfold maxLen at hm
  have HCO := Lib.hid hcode
  clear hcode
  by_cases hbig : 1048576 < n
  · have e0 : decide ((1048576 : Int) < (n : Int)) = true := decide_eq_true (by omega)
    go_enter Try.func3, Try.ntmps3
    go_wp2_with fail
    refine (laws_big a n c _).mono ?_
    rintro e w1 ⟨rfl, rfl⟩
    go_wp2
    go_ret
    exact ⟨rfl, Below.refl _ _⟩
  have e0 : decide ((1048576 : Int) < (n : Int)) = false := decide_eq_false (by omega)
  go_enter Try.func3, Try.ntmps3
  go_wp2_with fail
  refine (laws_big a n c _).mono ?_
  rintro e w1 ⟨rfl, rfl⟩
  go_wp2_with fail
  refine (draw_gross a n c _ (by omega) HCO.out).mono ?_
  rintro e w2 ⟨x, q, rfl, hsz, hb⟩
  have HS := Lib.hid hsz
  have HB0 := Lib.hid (hb.alloc hb.size (.cells #[.string x.code, .string x.unt, .int .i64 x.kind, .int .i64 x.lead, .int .i64 x.rule, .int .i64 x.lsz, .int .i64 x.safe, .int .i64 x.scr] 25))
  have HR0 := heap_alloc_new w2 (.cells #[.string x.code, .string x.unt, .int .i64 x.kind, .int .i64 x.lead, .int .i64 x.rule, .int .i64 x.lsz, .int .i64 x.safe, .int .i64 x.scr] 25)
  clear hsz hb HCO hbig hm e0
  unfold IT.val
  go_upto_region 4 with fail
  generalize hw3 : w2.alloc (.cells #[.string x.code, .string x.unt, .int .i64 x.kind, .int .i64 x.lead, .int .i64 x.rule, .int .i64 x.lsz, .int .i64 x.safe, .int .i64 x.scr] 25) = w3 at *
  clear hw3
  have c0 := cell_of_row _ _ 0 _ _ _ HR0
  have c1 := cell_of_row _ _ 1 _ _ _ HR0
  have c2 := cell_of_row _ _ 2 _ _ _ HR0
  have c3 := cell_of_row _ _ 3 _ _ _ HR0
  have c4 := cell_of_row _ _ 4 _ _ _ HR0
  have c5 := cell_of_row _ _ 5 _ _ _ HR0
  have c6 := cell_of_row _ _ 6 _ _ _ HR0
  have c7 := cell_of_row _ _ 7 _ _ _ HR0
  go_wp2_with fail
  refine (im_gross x q _ HS.out).mono ?_
  rintro e w4 ⟨z, y, rfl, hp, hb⟩
  have HP := Lib.hid hp.out
  have HR1 := blk_below HR0 hb
  have HB1 := Lib.hid (HB0.out.trans (hb.mono HB0.out.size))
  clear hp hb HR0 HB0 c0 c1 c2 c3 c4 c5 c6 c7
  have c0 := cell_of_row _ _ 0 _ _ _ HR1
  have c1 := cell_of_row _ _ 1 _ _ _ HR1
  have c2 := cell_of_row _ _ 2 _ _ _ HR1
  have c3 := cell_of_row _ _ 3 _ _ _ HR1
  have c4 := cell_of_row _ _ 4 _ _ _ HR1
  have c5 := cell_of_row _ _ 5 _ _ _ HR1
  have c6 := cell_of_row _ _ 6 _ _ _ HR1
  have c7 := cell_of_row _ _ 7 _ _ _ HR1
  have hyy : (y != y) = false := by simp
  go_wp2_with fail
  refine (spec_gross x q _ HS.out).mono ?_
  rintro e w5 ⟨z', y', rfl, hp, hb⟩
  obtain ⟨rfl, rfl⟩ := Prod.mk.inj (hp.out.symm.trans HP.out)
  have HR2 := blk_below HR1 hb
  have HB2 := Lib.hid (HB1.out.trans (hb.mono HB1.out.size))
  clear hp hb HR1 HB1 c0 c1 c2 c3 c4 c5 c6 c7
  have c0 := cell_of_row _ _ 0 _ _ _ HR2
  have c1 := cell_of_row _ _ 1 _ _ _ HR2
  have c2 := cell_of_row _ _ 2 _ _ _ HR2
  have c3 := cell_of_row _ _ 3 _ _ _ HR2
  have c4 := cell_of_row _ _ 4 _ _ _ HR2
  have c5 := cell_of_row _ _ 5 _ _ _ HR2
  have c6 := cell_of_row _ _ 6 _ _ _ HR2
  have c7 := cell_of_row _ _ 7 _ _ _ HR2
  cases y' with
  | false =>
    have hz : (z' == 0) = true := beq_iff_eq.2 (grossR_false HP.out)
    go_wp2_with fail
    go_ret
    exact ⟨rfl, HB2.out⟩
  | true =>
    have HF := Lib.hid (scrap_fact HP.out)
    go_wp2_with fail
    refine (im_net x z' _ HS.out).mono ?_
    rintro e w6 ⟨n1, y1, rfl, hp1, hb⟩
    have HR3 := blk_below HR2 hb
    have HB3 := Lib.hid (HB2.out.trans (hb.mono HB2.out.size))
    clear hb HR2 HB2 c0 c1 c2 c3 c4 c5 c6 c7
    have c0 := cell_of_row _ _ 0 _ _ _ HR3
    have c1 := cell_of_row _ _ 1 _ _ _ HR3
    have c2 := cell_of_row _ _ 2 _ _ _ HR3
    have c3 := cell_of_row _ _ 3 _ _ _ HR3
    have c4 := cell_of_row _ _ 4 _ _ _ HR3
    have c5 := cell_of_row _ _ 5 _ _ _ HR3
    have c6 := cell_of_row _ _ 6 _ _ _ HR3
    have c7 := cell_of_row _ _ 7 _ _ _ HR3
    have HW : Hid (-9223372036854775808 ≤ z' - 1 ∧ z' - 1 ≤ 9223372036854775807) := Lib.hid (by rcases HF.out with h | h <;> omega)
    have hw0 := HW.out
    go_wp2_with fail
    refine (im_net x (z' - 1) _ HS.out).mono ?_
    rintro e w7 ⟨n2, y2, rfl, hp2, hb⟩
    have HB4 := Lib.hid (HB3.out.trans (hb.mono HB3.out.size))
    clear hb HR3 HB3 c0 c1 c2 c3 c4 c5 c6 c7
    rcases HF.out with ⟨f0, f1, f2, f3⟩ | ⟨f0, f1, m1, m2, f2, f3, f4, f5⟩
    · obtain ⟨rfl, rfl⟩ := Prod.mk.inj (hp1.out.symm.trans f2)
      obtain ⟨rfl, rfl⟩ := Prod.mk.inj (hp2.out.symm.trans f3)
      have hq0 : (q == 0) = true := beq_iff_eq.2 f0
      have hz0 : (z' == 0) = true := beq_iff_eq.2 f1
      have hge : decide (q ≤ 0) = true := decide_eq_true (by omega)
      clear hp1 hp2 f0 f1 f2 f3 HF hw0 HW HP
      go_wp2_with fail
      go_ret
      exact ⟨rfl, HB4.out⟩
    · obtain ⟨rfl, rfl⟩ := Prod.mk.inj (hp1.out.symm.trans f2)
      obtain ⟨rfl, rfl⟩ := Prod.mk.inj (hp2.out.symm.trans f3)
      have hz0 : (z' == 0) = false := beq_eq_false_iff_ne.2 (by omega)
      have hge : decide (q ≤ n1) = true := decide_eq_true f4
      have hlt : decide (n2 < q) = true := decide_eq_true f5
      clear hp1 hp2 f2 f3 HF hw0 HW HP
      go_wp2_with fail
      go_ret
      exact ⟨rfl, HB4.out⟩
end Go.Proofs.Ytmoeomeilbinhaa
