/-
 Whether a line is in force, and a line with memory of its own: the model's and the program's.
-/
import Derived.Test.YtmnncinpepeocaaGreatBLOwn
import Derived.Test.YtmnncinpepeocaaGreatBillLib
import Derived.Test.YtmnncinpepeocaaGreatCondHolds
import Derived.Test.YtmnncinpepeocaaGreatBuCI
import Derived.Test.YtmnncinpepeocaaGreatBuA
import Derived.Test.YtmnncinpepeocaaGreatCnNews
import Derived.WalkKit
import Derived.WalkSpells
import Derived.WalkSmall
import Derived.BigQuiet
import Derived.OneCell
import Derived.Deep.QuietTactic
import Derived.Deep.DeepCutAuto
import Derived.Laws.OwnMore
import Derived.Lib.Hide
namespace Go.Proofs.YtmnncinpepeocaaGreat
open Go.RowKit

theorem onB_no1 {x : BL} {day : Int} {ps : List PK} (h : ¬x.fr ≤ day) : onB x day ps = false := by unfold onB; rw [decide_eq_false h]; rfl
theorem onB_no2 {x : BL} {day : Int} {ps : List PK} (h : ¬day ≤ x.un) : onB x day ps = false := by unfold onB; rw [decide_eq_false h]; simp
theorem onB_yes {x : BL} {day : Int} {ps : List PK} (h : x.fr ≤ day) (h2 : day ≤ x.un) : onB x day ps = holdsB x.whn ps := by unfold onB; rw [decide_eq_true h, decide_eq_true h2]; rfl

set_option maxRecDepth 100000 in
set_option maxHeartbeats 1000000 in
theorem spec_on (x : BL) (u5 v2 : Value) (day : Int) (ps : List PK) (lo hi : Nat) (w : World) (h5 : CX lo hi w u5 x.whn) (hc : condB x.whn = true) (h2 : PK.Is w v2 ps) (hm : ps.length ≤ maxLen) :
 Calls Tryz.prog 62 #[.agg #[.string x.par, .string x.prt, .int .i64 x.qty, .int .i64 x.fr, .int .i64 x.un, u5], .int .i64 day, v2] w (BoolRes (onB x day ps) w) := by
 obtain ⟨a5, c5, rfl⟩ := h5.slice
 obtain ⟨t, ht, hl, h30⟩ := cond_tree (condB_iff.1 hc)
 obtain ⟨W1, hW1⟩ : ∃ W, w.alloc (.cells #[.string x.par, .string x.prt, .int .i64 x.qty, .int .i64 x.fr, .int .i64 x.un, .slice a5 x.whn.length c5] 94) = W := ⟨_, rfl⟩
 have HA : Hid (W1.heap[w.heap.size]? = some (.cells #[.string x.par, .string x.prt, .int .i64 x.qty, .int .i64 x.fr, .int .i64 x.un, .slice a5 x.whn.length c5] 94)) := Lib.hid (by rw [← hW1]; exact heap_alloc_new _ _)
 have HB : Hid (Below w.heap.size w W1) := Lib.hid (by rw [← hW1]; exact (Below.refl _ _).alloc (Nat.le_refl _) _)
 have h5i := h5.is.below HB.out
 have hev : holdsB x.whn ps = t.ev ps := by rw [hl]; exact holdsB_yes ps ht h30
 have HE : Hid (Calls Tryz.prog 99 #[.slice a5 x.whn.length c5, v2] W1 (BoolRes (holdsB x.whn ps) W1)) := Lib.hid (by
  rw [hev]
  exact spec_eval _ v2 t ps W1 ht h30 (by rw [← hl]; exact h5i) (h2.below HB.out) hm)
 have HW1 := Lib.hid hW1
 clear h5 hc h2 hW1 h5i hev hl ht h30
 by_cases h1 : x.fr ≤ day
 rotate_left
 · have HY := Lib.hid (onB_no1 (ps := ps) h1)
   have hd : decide (x.fr ≤ day) = false := decide_eq_false h1
   clear h1
   go_enter Tryz.func62, Tryz.ntmps62
   go_upto_region 1 with fail
   rw [HW1.out]
   have q3 := cell_of_row _ _ 3 _ _ _ HA.out
   go_wp2_with fail
   go_ret
   exact ⟨by rw [HY.out]; rfl, HB.out⟩
 have hd : decide (x.fr ≤ day) = true := decide_eq_true h1
 by_cases h2 : day ≤ x.un
 rotate_left
 · have HY := Lib.hid (onB_no2 (ps := ps) h2)
   have hd2 : decide (day ≤ x.un) = false := decide_eq_false h2
   clear h1 h2
   go_enter Tryz.func62, Tryz.ntmps62
   go_upto_region 1 with fail
   rw [HW1.out]
   have q3 := cell_of_row _ _ 3 _ _ _ HA.out
   have q4 := cell_of_row _ _ 4 _ _ _ HA.out
   go_wp2_with fail
   go_ret
   exact ⟨by rw [HY.out]; rfl, HB.out⟩
 have HY := Lib.hid (onB_yes (ps := ps) h1 h2)
 have hd2 : decide (day ≤ x.un) = true := decide_eq_true h2
 clear h1 h2
 go_enter Tryz.func62, Tryz.ntmps62
 go_upto_region 1 with fail
 rw [HW1.out]
 have q3 := cell_of_row _ _ 3 _ _ _ HA.out
 have q4 := cell_of_row _ _ 4 _ _ _ HA.out
 have q5 := cell_of_row _ _ 5 _ _ _ HA.out
 go_wp2_with fail
 refine HE.out.mono ?_
 rintro e w2 ⟨rfl, hb⟩
 have HBF := Lib.hid (HB.out.trans (hb.mono HB.out.size))
 clear hb
 obtain ⟨z, hz⟩ : ∃ z, holdsB x.whn ps = z := ⟨_, rfl⟩
 rw [hz] at HY ⊢
 clear hz
 go_wp2_with fail
 go_ret
 exact ⟨by rw [HY.out]; rfl, HBF.out⟩

set_option maxRecDepth 100000 in
set_option maxHeartbeats 2000000 in
/-- The program's isOn: is a day one of the line's. -/
theorem im_isOn9 (x : BL) (day : Int) (a5 : Option Addr) (c5 : Nat) (w : World) :
 Calls Tryz.prog 110 #[.agg #[.string x.par, .string x.prt, .int .i64 x.qty, .int .i64 x.fr, .int .i64 x.un, .slice a5 x.whn.length c5], .int .i64 day] w (BoolRes (decide (x.fr ≤ day) && decide (day ≤ x.un)) w) := by
 have HB : Hid (Below w.heap.size w (w.alloc (.cells #[.string x.par, .string x.prt, .int .i64 x.qty, .int .i64 x.fr, .int .i64 x.un, .slice a5 x.whn.length c5] 94))) := Lib.hid ((Below.refl _ _).alloc (Nat.le_refl _) _)
 have HA := Lib.hid (heap_alloc_new w (.cells #[.string x.par, .string x.prt, .int .i64 x.qty, .int .i64 x.fr, .int .i64 x.un, .slice a5 x.whn.length c5] 94))
 obtain ⟨z, hz⟩ : ∃ z, (decide (x.fr ≤ day) && decide (day ≤ x.un)) = z := ⟨_, rfl⟩
 have HZ := Lib.hid hz
 rw [hz]
 clear hz
 go_enter Tryz.func110, Tryz.ntmps110
 go_upto_region 1 with fail
 generalize w.alloc (.cells #[.string x.par, .string x.prt, .int .i64 x.qty, .int .i64 x.fr, .int .i64 x.un, .slice a5 x.whn.length c5] 94) = w1 at *
 have q3 := cell_of_row _ _ 3 _ _ _ HA.out
 have q4 := cell_of_row _ _ 4 _ _ _ HA.out
 by_cases h1 : x.fr ≤ day
 rotate_left
 · have HY : Hid (z = false) := Lib.hid (by rw [← HZ.out, decide_eq_false h1]; rfl)
   have hd : decide (x.fr ≤ day) = false := decide_eq_false h1
   clear h1
   go_wp2_with fail
   go_ret
   exact ⟨by rw [HY.out]; rfl, HB.out⟩
 have hd : decide (x.fr ≤ day) = true := decide_eq_true h1
 by_cases h2 : day ≤ x.un
 rotate_left
 · have HY : Hid (z = false) := Lib.hid (by rw [← HZ.out, hd, decide_eq_false h2]; rfl)
   have hd2 : decide (day ≤ x.un) = false := decide_eq_false h2
   clear h1 h2
   go_wp2_with fail
   go_ret
   exact ⟨by rw [HY.out]; rfl, HB.out⟩
 have hd2 : decide (day ≤ x.un) = true := decide_eq_true h2
 have HY : Hid (z = true) := Lib.hid (by rw [← HZ.out, hd, hd2]; rfl)
 clear h1 h2
 go_wp2_with fail
 go_ret
 exact ⟨by rw [HY.out]; rfl, HB.out⟩

set_option maxRecDepth 100000 in
set_option maxHeartbeats 1000000 in
theorem im_on (x : BL) (u5 v2 : Value) (day : Int) (ps : List PK) (lo hi : Nat) (w : World) (h5 : CX lo hi w u5 x.whn) (hs : CX.Sz x.whn) (h2 : PK.Is w v2 ps) (hm : ps.length ≤ maxLen) :
 Calls Tryz.prog 88 #[.agg #[.string x.par, .string x.prt, .int .i64 x.qty, .int .i64 x.fr, .int .i64 x.un, u5], .int .i64 day, v2] w (BoolRes (onB x day ps) w) := by
 obtain ⟨a5, c5, rfl⟩ := h5.slice
 obtain ⟨W1, hW1⟩ : ∃ W, w.alloc (.cells #[.string x.par, .string x.prt, .int .i64 x.qty, .int .i64 x.fr, .int .i64 x.un, .slice a5 x.whn.length c5] 94) = W := ⟨_, rfl⟩
 have HA : Hid (W1.heap[w.heap.size]? = some (.cells #[.string x.par, .string x.prt, .int .i64 x.qty, .int .i64 x.fr, .int .i64 x.un, .slice a5 x.whn.length c5] 94)) := Lib.hid (by rw [← hW1]; exact heap_alloc_new _ _)
 have HB : Hid (Below w.heap.size w W1) := Lib.hid (by rw [← hW1]; exact (Below.refl _ _).alloc (Nat.le_refl _) _)
 have HEW : Hid (∀ W, Below w.heap.size w W → Calls Tryz.prog 111 #[.slice a5 x.whn.length c5, v2] W (BoolRes (holdsB x.whn ps) W)) := Lib.hid (fun W hW => im_HoldsC _ v2 x.whn ps W (h5.is.below hW) hs.2 hs.1 (h2.below hW) hm)
 have HON := Lib.hid (im_isOn9 x day a5 c5 W1)
 have HW1 := Lib.hid hW1
 clear h5 hs h2 hW1
 by_cases h1 : x.fr ≤ day ∧ day ≤ x.un
 rotate_left
 · have HY : Hid (onB x day ps = false) := Lib.hid (by
    by_cases h2 : x.fr ≤ day
    · exact onB_no2 (ps := ps) (fun h => h1 ⟨h2, h⟩)
    · exact onB_no1 (ps := ps) h2)
   have hz : (decide (x.fr ≤ day) && decide (day ≤ x.un)) = false := by
    rw [Bool.and_eq_false_iff]
    by_cases h2 : x.fr ≤ day
    · exact Or.inr (decide_eq_false (fun h => h1 ⟨h2, h⟩))
    · exact Or.inl (decide_eq_false h2)
   rw [hz] at HON
   clear h1 hz
   go_enter Tryz.func88, Tryz.ntmps88
   go_upto_region 1 with fail
   rw [HW1.out]
   have q0 := cell_of_row _ _ 0 _ _ _ HA.out
   have q1 := cell_of_row _ _ 1 _ _ _ HA.out
   have q2 := cell_of_row _ _ 2 _ _ _ HA.out
   have q3 := cell_of_row _ _ 3 _ _ _ HA.out
   have q4 := cell_of_row _ _ 4 _ _ _ HA.out
   have q5 := cell_of_row _ _ 5 _ _ _ HA.out
   go_wp2_with fail
   refine HON.out.mono ?_
   rintro e w2 ⟨rfl, hb⟩
   have HBF := Lib.hid (HB.out.trans (hb.mono HB.out.size))
   clear hb
   go_wp2_with fail
   go_ret
   exact ⟨by rw [HY.out]; rfl, HBF.out⟩
 have HY := Lib.hid (onB_yes (ps := ps) h1.1 h1.2)
 have hz : (decide (x.fr ≤ day) && decide (day ≤ x.un)) = true := by rw [decide_eq_true h1.1, decide_eq_true h1.2]; rfl
 rw [hz] at HON
 clear h1 hz
 go_enter Tryz.func88, Tryz.ntmps88
 go_upto_region 1 with fail
 rw [HW1.out]
 have q0 := cell_of_row _ _ 0 _ _ _ HA.out
 have q1 := cell_of_row _ _ 1 _ _ _ HA.out
 have q2 := cell_of_row _ _ 2 _ _ _ HA.out
 have q3 := cell_of_row _ _ 3 _ _ _ HA.out
 have q4 := cell_of_row _ _ 4 _ _ _ HA.out
 have q5 := cell_of_row _ _ 5 _ _ _ HA.out
 go_wp2_with fail
 refine HON.out.mono ?_
 rintro e w2 ⟨rfl, hb⟩
 have HB2 := Lib.hid (HB.out.trans (hb.mono HB.out.size))
 have HA2 := Lib.hid (blk_below HA.out hb)
 have HE2 := Lib.hid (HEW.out w2 (HB.out.trans (hb.mono HB.out.size)))
 clear hb q0 q1 q2 q3 q4 q5
 have q5 := cell_of_row _ _ 5 _ _ _ HA2.out
 go_wp2_with fail
 refine HE2.out.mono ?_
 rintro e w3 ⟨rfl, hb⟩
 have HBF := Lib.hid (HB2.out.trans (hb.mono HB2.out.size))
 clear hb
 obtain ⟨z, hz⟩ : ∃ z, holdsB x.whn ps = z := ⟨_, rfl⟩
 rw [hz] at HY ⊢
 clear hz
 go_wp2_with fail
 go_ret
 exact ⟨by rw [HY.out]; rfl, HBF.out⟩

end Go.Proofs.YtmnncinpepeocaaGreat
