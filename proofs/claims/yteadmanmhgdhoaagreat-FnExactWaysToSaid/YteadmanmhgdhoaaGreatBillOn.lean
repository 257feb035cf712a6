/-
  Whether a line is in force, and a line with memory of its own: the model's and the program's.
-/
import Derived.Test.YteadmanmhgdhoaaGreatBLOwn
import Derived.Test.YteadmanmhgdhoaaGreatBillLib
import Derived.Test.YteadmanmhgdhoaaGreatCondHolds
import Derived.Test.YteadmanmhgdhoaaGreatBuCI
import Derived.Test.YteadmanmhgdhoaaGreatBuA
import Derived.WalkKit
import Derived.WalkSpells
import Derived.WalkSmall
import Derived.BigQuiet
import Derived.OneCell
import Derived.Deep.QuietTactic
import Derived.Deep.DeepCutAuto
import Derived.Laws.OwnMore
import Derived.Lib.Hide
namespace Go.Proofs.YteadmanmhgdhoaaGreat
open Go.RowKit

theorem onB_no1 {x : BL} {day : Int} {ps : List PK} (h : ¬x.fr ≤ day) : onB x day ps = false := by unfold onB; rw [decide_eq_false h]; rfl
theorem onB_no2 {x : BL} {day : Int} {ps : List PK} (h : ¬day ≤ x.un) : onB x day ps = false := by unfold onB; rw [decide_eq_false h]; simp
theorem onB_yes {x : BL} {day : Int} {ps : List PK} (h : x.fr ≤ day) (h2 : day ≤ x.un) : onB x day ps = holdsB x.whn ps := by unfold onB; rw [decide_eq_true h, decide_eq_true h2]; rfl

set_option maxRecDepth 100000 in
set_option maxHeartbeats 1000000 in
theorem spec_on (x : BL) (u5 v2 : Value) (day : Int) (ps : List PK) (lo hi : Nat) (w : World) (h5 : CX lo hi w u5 x.whn) (hc : condB x.whn = true) (h2 : PK.Is w v2 ps) (hm : ps.length ≤ maxLen) :
    Calls Tryz.prog 62 #[.agg #[.string x.par, .string x.prt, .int .i64 x.qty, .int .i64 x.fr, .int .i64 x.un, u5], .int .i64 day, v2] w (BoolRes (onB x day ps) w) := by
  obtain ⟨a5, c5, rfl⟩ := h5.slice
  obtain ⟨t, ht, hl, h30⟩ := cond_tree (condB_iff.1 hc)
  obtain ⟨W1, hW1⟩ : ∃ W, w.alloc (.cells #[.string x.par, .string x.prt, .int .i64 x.qty, .int .i64 x.fr, .int .i64 x.un, .slice a5 x.whn.length c5] 94) = W := ⟨_, rfl⟩
  have HA : Hid (W1.heap[w.heap.size]? = some (.cells #[.string x.par, .string x.prt, .int .i64 x.qty, .int .i64 x.fr, .int .i64 x.un, .slice a5 x.whn.length c5] 94)) := Lib.hid (by rw [← hW1]; exact heap_alloc_new _ _)
  have HB : Hid (Below w.heap.size w W1) := Lib.hid (by rw [← hW1]; exact (Below.refl _ _).alloc (Nat.le_refl _) _)
  have h5i := h5.is.below HB.out
  have hev : holdsB x.whn ps = t.ev ps := by rw [hl]; exact holdsB_yes ps ht h30
  have HE : Hid (Calls Tryz.prog 99 #[.slice a5 x.whn.length c5, v2] W1 (BoolRes (holdsB x.whn ps) W1)) := Lib.hid (by
    rw [hev]
    exact spec_eval _ v2 t ps W1 ht h30 (by rw [← hl]; exact h5i) (h2.below HB.out) hm)
  have HW1 := Lib.hid hW1
  clear h5 hc h2 hW1 h5i hev hl ht h30
  by_cases h1 : x.fr ≤ day
  rotate_left
  · have HY := Lib.hid (onB_no1 (ps := ps) h1)
    have hd : decide (x.fr ≤ day) = false := decide_eq_false h1
    clear h1
    go_enter Tryz.func62, Tryz.ntmps62
    go_upto_region 1 with fail
    rw [HW1.out]
    have q3 := cell_of_row _ _ 3 _ _ _ HA.out
    go_wp2_with fail
    go_ret
    exact ⟨by rw [HY.out]; rfl, HB.out⟩
  have hd : decide (x.fr ≤ day) = true := decide_eq_true h1
  by_cases h2 : day ≤ x.un
  rotate_left
  · have HY := Lib.hid (onB_no2 (ps := ps) h2)
    have hd2 : decide (day ≤ x.un) = false := decide_eq_false h2
    clear h1 h2
    go_enter Tryz.func62, Tryz.ntmps62
    go_upto_region 1 with fail
    rw [HW1.out]
    have q3 := cell_of_row _ _ 3 _ _ _ HA.out
    have q4 := cell_of_row _ _ 4 _ _ _ HA.out
    go_wp2_with fail
    go_ret
    exact ⟨by rw [HY.out]; rfl, HB.out⟩
  have HY := Lib.hid (onB_yes (ps := ps) h1 h2)
  have hd2 : decide (day ≤ x.un) = true := decide_eq_true h2
  clear h1 h2
  go_enter Tryz.func62, Tryz.ntmps62
  go_upto_region 1 with fail
  rw [HW1.out]
  have q3 := cell_of_row _ _ 3 _ _ _ HA.out
  have q4 := cell_of_row _ _ 4 _ _ _ HA.out
  have q5 := cell_of_row _ _ 5 _ _ _ HA.out
  go_wp2_with fail
  refine HE.out.mono ?_
  rintro e w2 ⟨rfl, hb⟩
  have HBF := Lib.hid (HB.out.trans (hb.mono HB.out.size))
  clear hb
  obtain ⟨z, hz⟩ : ∃ z, holdsB x.whn ps = z := ⟨_, rfl⟩
  rw [hz] at HY ⊢
  clear hz
  go_wp2_with fail
  go_ret
  exact ⟨by rw [HY.out]; rfl, HBF.out⟩

set_option maxRecDepth 100000 in
set_option maxHeartbeats 1000000 in
theorem im_on (x : BL) (u5 v2 : Value) (day : Int) (ps : List PK) (lo hi : Nat) (w : World) (h5 : CX lo hi w u5 x.whn) (hs : CX.Sz x.whn) (h2 : PK.Is w v2 ps) (hm : ps.length ≤ maxLen) :
    Calls Tryz.prog 88 #[.agg #[.string x.par, .string x.prt, .int .i64 x.qty, .int .i64 x.fr, .int .i64 x.un, u5], .int .i64 day, v2] w (BoolRes (onB x day ps) w) := by
  obtain ⟨a5, c5, rfl⟩ := h5.slice
  obtain ⟨W1, hW1⟩ : ∃ W, w.alloc (.cells #[.string x.par, .string x.prt, .int .i64 x.qty, .int .i64 x.fr, .int .i64 x.un, .slice a5 x.whn.length c5] 94) = W := ⟨_, rfl⟩
  have HA : Hid (W1.heap[w.heap.size]? = some (.cells #[.string x.par, .string x.prt, .int .i64 x.qty, .int .i64 x.fr, .int .i64 x.un, .slice a5 x.whn.length c5] 94)) := Lib.hid (by rw [← hW1]; exact heap_alloc_new _ _)
  have HB : Hid (Below w.heap.size w W1) := Lib.hid (by rw [← hW1]; exact (Below.refl _ _).alloc (Nat.le_refl _) _)
  have HE := Lib.hid (im_HoldsC _ v2 x.whn ps W1 (h5.is.below HB.out) hs.2 hs.1 (h2.below HB.out) hm)
  have HW1 := Lib.hid hW1
  clear h5 hs h2 hW1
  by_cases h1 : x.fr ≤ day
  rotate_left
  · have HY := Lib.hid (onB_no1 (ps := ps) h1)
    have hd : decide (x.fr ≤ day) = false := decide_eq_false h1
    clear h1
    go_enter Tryz.func88, Tryz.ntmps88
    go_upto_region 1 with fail
    rw [HW1.out]
    have q3 := cell_of_row _ _ 3 _ _ _ HA.out
    go_wp2_with fail
    go_ret
    exact ⟨by rw [HY.out]; rfl, HB.out⟩
  have hd : decide (x.fr ≤ day) = true := decide_eq_true h1
  by_cases h2 : day ≤ x.un
  rotate_left
  · have HY := Lib.hid (onB_no2 (ps := ps) h2)
    have hd2 : decide (day ≤ x.un) = false := decide_eq_false h2
    clear h1 h2
    go_enter Tryz.func88, Tryz.ntmps88
    go_upto_region 1 with fail
    rw [HW1.out]
    have q3 := cell_of_row _ _ 3 _ _ _ HA.out
    have q4 := cell_of_row _ _ 4 _ _ _ HA.out
    go_wp2_with fail
    go_ret
    exact ⟨by rw [HY.out]; rfl, HB.out⟩
  have HY := Lib.hid (onB_yes (ps := ps) h1 h2)
  have hd2 : decide (day ≤ x.un) = true := decide_eq_true h2
  clear h1 h2
  go_enter Tryz.func88, Tryz.ntmps88
  go_upto_region 1 with fail
  rw [HW1.out]
  have q3 := cell_of_row _ _ 3 _ _ _ HA.out
  have q4 := cell_of_row _ _ 4 _ _ _ HA.out
  have q5 := cell_of_row _ _ 5 _ _ _ HA.out
  go_wp2_with fail
  refine HE.out.mono ?_
  rintro e w2 ⟨rfl, hb⟩
  have HBF := Lib.hid (HB.out.trans (hb.mono HB.out.size))
  clear hb
  obtain ⟨z, hz⟩ : ∃ z, holdsB x.whn ps = z := ⟨_, rfl⟩
  rw [hz] at HY ⊢
  clear hz
  go_wp2_with fail
  go_ret
  exact ⟨by rw [HY.out]; rfl, HBF.out⟩

/-- The cells of a slice, one by one. -/
theorem cn_news {w : World} {b o : Nat} {xs : List CN} (h : CN.At w b o xs) : ∀ (j : Nat) (u : Value), (CN.cells xs)[j]? = some u → w.cell? ((⟨b, o, none⟩ : Addr).add j) = some u := by
  intro j u hu
  have hj : j < xs.length * 3 := by have := (List.getElem?_eq_some_iff.1 hu).1; rwa [CN.cells_length] at this
  have hq : j / 3 < xs.length := by omega
  have h1 := h.2 (j / 3) _ (List.getElem?_eq_getElem hq)
  have h2 := CN.cells_at xs (j / 3) _ (List.getElem?_eq_getElem hq)
  rw [Addr.add_lit]
  have hm : j % 3 = 0 ∨ j % 3 = 1 ∨ j % 3 = 2 := by omega
  rcases hm with hm | hm | hm
  · have e : j = j / 3 * 3 := by omega
    rw [e] at hu ⊢
    rw [h1.1, ← h2.1, hu]
  · have e : j = j / 3 * 3 + 1 := by omega
    rw [e] at hu ⊢
    rw [show o + (j / 3 * 3 + 1) = o + j / 3 * 3 + 1 by omega, h1.2.1, ← h2.2.1, hu]
  · have e : j = j / 3 * 3 + 2 := by omega
    rw [e] at hu ⊢
    rw [show o + (j / 3 * 3 + 2) = o + j / 3 * 3 + 2 by omega, h1.2.2, ← h2.2.2, hu]
/-- A list of nodes of the call's own. -/
def OwnC (l : List CN) (w : World) (e : Ending) (w' : World) : Prop := ∃ (a : Option Addr) (c : Nat), e = .returned (.slice a l.length c) ∧ Hid (w'.ownsRow w.heap.size 145 3 (.slice a l.length c) l.length (CN.cells l)) ∧ Hid (Below w.heap.size w w')
end Go.Proofs.YteadmanmhgdhoaaGreat
