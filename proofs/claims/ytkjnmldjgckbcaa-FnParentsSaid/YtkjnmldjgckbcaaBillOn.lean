/-
  Whether a line is in force, and a line with memory of its own: the model's and the program's.
-/
import Derived.Test.YtkjnmldjgckbcaaBLOwn
import Derived.Test.YtkjnmldjgckbcaaBillLib
import Derived.Test.YtkjnmldjgckbcaaCondHolds
import Derived.Test.YtkjnmldjgckbcaaHoldsI
import Derived.Test.YtkjnmldjgckbcaaBuA
import Derived.WalkKit
import Derived.WalkSpells
import Derived.WalkSmall
import Derived.BigQuiet
import Derived.OneCell
import Derived.Deep.QuietTactic
import Derived.Deep.DeepCutAuto
import Derived.Laws.OwnMore
import Derived.Lib.Hide
namespace Go.Proofs.Ytkjnmldjgckbcaa
open Go.RowKit

theorem onB_no1 {x : BL} {day : Int} {ps : List PK} (h : ¬x.fr ≤ day) : onB x day ps = false := by unfold onB; rw [decide_eq_false h]; rfl
theorem onB_no2 {x : BL} {day : Int} {ps : List PK} (h : ¬day ≤ x.un) : onB x day ps = false := by unfold onB; rw [decide_eq_false h]; simp
theorem onB_yes {x : BL} {day : Int} {ps : List PK} (h : x.fr ≤ day) (h2 : day ≤ x.un) : onB x day ps = holdsB x.whn ps := by unfold onB; rw [decide_eq_true h, decide_eq_true h2]; rfl

set_option maxRecDepth 100000 in
set_option maxHeartbeats 1000000 in
theorem spec_on (x : BL) (u5 v2 : Value) (day : Int) (ps : List PK) (lo hi : Nat) (w : World) (h5 : CX lo hi w u5 x.whn) (hc : condB x.whn = true) (h2 : PK.Is w v2 ps) (hm : ps.length ≤ maxLen) :
    Calls Try.prog 58 #[.agg #[.string x.par, .string x.prt, .int .i64 x.qty, .int .i64 x.fr, .int .i64 x.un, u5], .int .i64 day, v2] w (BoolRes (onB x day ps) w) := by
  obtain ⟨a5, c5, rfl⟩ := h5.slice
  obtain ⟨t, ht, hl, h30⟩ := cond_tree (condB_iff.1 hc)
  obtain ⟨W1, hW1⟩ : ∃ W, w.alloc (.cells #[.string x.par, .string x.prt, .int .i64 x.qty, .int .i64 x.fr, .int .i64 x.un, .slice a5 x.whn.length c5] 35) = W := ⟨_, rfl⟩
  have HA : Hid (W1.heap[w.heap.size]? = some (.cells #[.string x.par, .string x.prt, .int .i64 x.qty, .int .i64 x.fr, .int .i64 x.un, .slice a5 x.whn.length c5] 35)) := Lib.hid (by rw [← hW1]; exact heap_alloc_new _ _)
  have HB : Hid (Below w.heap.size w W1) := Lib.hid (by rw [← hW1]; exact (Below.refl _ _).alloc (Nat.le_refl _) _)
  have h5i := h5.is.below HB.out
  have hev : holdsB x.whn ps = t.ev ps := by rw [hl]; exact holdsB_yes ps ht h30
  have HE : Hid (Calls Try.prog 57 #[.slice a5 x.whn.length c5, v2] W1 (BoolRes (holdsB x.whn ps) W1)) := Lib.hid (by
    rw [hev]
    exact spec_eval _ v2 t ps W1 ht h30 (by rw [← hl]; exact h5i) (h2.below HB.out) hm)
  have HW1 := Lib.hid hW1
  clear h5 hc h2 hW1 h5i hev hl ht h30
  by_cases h1 : x.fr ≤ day
  rotate_left
  · have HY := Lib.hid (onB_no1 (ps := ps) h1)
    have hd : decide (x.fr ≤ day) = false := decide_eq_false h1
    clear h1
    go_enter Try.func58, Try.ntmps58
    go_upto_region 1 with fail
    rw [HW1.out]
    have q3 := cell_of_row _ _ 3 _ _ _ HA.out
    go_wp2_with fail
    go_ret
    exact ⟨by rw [HY.out]; rfl, HB.out⟩
  have hd : decide (x.fr ≤ day) = true := decide_eq_true h1
  by_cases h2 : day ≤ x.un
  rotate_left
  · have HY := Lib.hid (onB_no2 (ps := ps) h2)
    have hd2 : decide (day ≤ x.un) = false := decide_eq_false h2
    clear h1 h2
    go_enter Try.func58, Try.ntmps58
    go_upto_region 1 with fail
    rw [HW1.out]
    have q3 := cell_of_row _ _ 3 _ _ _ HA.out
    have q4 := cell_of_row _ _ 4 _ _ _ HA.out
    go_wp2_with fail
    go_ret
    exact ⟨by rw [HY.out]; rfl, HB.out⟩
  have HY := Lib.hid (onB_yes (ps := ps) h1 h2)
  have hd2 : decide (day ≤ x.un) = true := decide_eq_true h2
  clear h1 h2
  go_enter Try.func58, Try.ntmps58
  go_upto_region 1 with fail
  rw [HW1.out]
  have q3 := cell_of_row _ _ 3 _ _ _ HA.out
  have q4 := cell_of_row _ _ 4 _ _ _ HA.out
  have q5 := cell_of_row _ _ 5 _ _ _ HA.out
  go_wp2_with fail
  refine HE.out.mono ?_
  rintro e w2 ⟨rfl, hb⟩
  have HBF := Lib.hid (HB.out.trans (hb.mono HB.out.size))
  clear hb
  obtain ⟨z, hz⟩ : ∃ z, holdsB x.whn ps = z := ⟨_, rfl⟩
  rw [hz] at HY ⊢
  clear hz
  go_wp2_with fail
  go_ret
  exact ⟨by rw [HY.out]; rfl, HBF.out⟩

set_option maxRecDepth 100000 in
set_option maxHeartbeats 1000000 in
theorem im_on (x : BL) (u5 v2 : Value) (day : Int) (ps : List PK) (lo hi : Nat) (w : World) (h5 : CX lo hi w u5 x.whn) (hs : CX.Sz x.whn) (h2 : PK.Is w v2 ps) (hm : ps.length ≤ maxLen) :
    Calls Try.prog 54 #[.agg #[.string x.par, .string x.prt, .int .i64 x.qty, .int .i64 x.fr, .int .i64 x.un, u5], .int .i64 day, v2] w (BoolRes (onB x day ps) w) := by
  obtain ⟨a5, c5, rfl⟩ := h5.slice
  obtain ⟨W1, hW1⟩ : ∃ W, w.alloc (.cells #[.string x.par, .string x.prt, .int .i64 x.qty, .int .i64 x.fr, .int .i64 x.un, .slice a5 x.whn.length c5] 35) = W := ⟨_, rfl⟩
  have HA : Hid (W1.heap[w.heap.size]? = some (.cells #[.string x.par, .string x.prt, .int .i64 x.qty, .int .i64 x.fr, .int .i64 x.un, .slice a5 x.whn.length c5] 35)) := Lib.hid (by rw [← hW1]; exact heap_alloc_new _ _)
  have HB : Hid (Below w.heap.size w W1) := Lib.hid (by rw [← hW1]; exact (Below.refl _ _).alloc (Nat.le_refl _) _)
  have HE := Lib.hid (im_HoldsC _ v2 x.whn ps W1 (h5.is.below HB.out) hs.2 hs.1 (h2.below HB.out) hm)
  have HW1 := Lib.hid hW1
  clear h5 hs h2 hW1
  by_cases h1 : x.fr ≤ day
  rotate_left
  · have HY := Lib.hid (onB_no1 (ps := ps) h1)
    have hd : decide (x.fr ≤ day) = false := decide_eq_false h1
    clear h1
    go_enter Try.func54, Try.ntmps54
    go_upto_region 1 with fail
    rw [HW1.out]
    have q3 := cell_of_row _ _ 3 _ _ _ HA.out
    go_wp2_with fail
    go_ret
    exact ⟨by rw [HY.out]; rfl, HB.out⟩
  have hd : decide (x.fr ≤ day) = true := decide_eq_true h1
  by_cases h2 : day ≤ x.un
  rotate_left
  · have HY := Lib.hid (onB_no2 (ps := ps) h2)
    have hd2 : decide (day ≤ x.un) = false := decide_eq_false h2
    clear h1 h2
    go_enter Try.func54, Try.ntmps54
    go_upto_region 1 with fail
    rw [HW1.out]
    have q3 := cell_of_row _ _ 3 _ _ _ HA.out
    have q4 := cell_of_row _ _ 4 _ _ _ HA.out
    go_wp2_with fail
    go_ret
    exact ⟨by rw [HY.out]; rfl, HB.out⟩
  have HY := Lib.hid (onB_yes (ps := ps) h1 h2)
  have hd2 : decide (day ≤ x.un) = true := decide_eq_true h2
  clear h1 h2
  go_enter Try.func54, Try.ntmps54
  go_upto_region 1 with fail
  rw [HW1.out]
  have q3 := cell_of_row _ _ 3 _ _ _ HA.out
  have q4 := cell_of_row _ _ 4 _ _ _ HA.out
  have q5 := cell_of_row _ _ 5 _ _ _ HA.out
  go_wp2_with fail
  refine HE.out.mono ?_
  rintro e w2 ⟨rfl, hb⟩
  have HBF := Lib.hid (HB.out.trans (hb.mono HB.out.size))
  clear hb
  obtain ⟨z, hz⟩ : ∃ z, holdsB x.whn ps = z := ⟨_, rfl⟩
  rw [hz] at HY ⊢
  clear hz
  go_wp2_with fail
  go_ret
  exact ⟨by rw [HY.out]; rfl, HBF.out⟩

/-- The cells of a slice, one by one. -/
theorem cn_news {w : World} {b o : Nat} {xs : List CN} (h : CN.At w b o xs) : ∀ (j : Nat) (u : Value), (CN.cells xs)[j]? = some u → w.cell? ((⟨b, o, none⟩ : Addr).add j) = some u := by
  intro j u hu
  have hj : j < xs.length * 3 := by have := (List.getElem?_eq_some_iff.1 hu).1; rwa [CN.cells_length] at this
  have hq : j / 3 < xs.length := by omega
  have h1 := h.2 (j / 3) _ (List.getElem?_eq_getElem hq)
  have h2 := CN.cells_at xs (j / 3) _ (List.getElem?_eq_getElem hq)
  rw [Addr.add_lit]
  have hm : j % 3 = 0 ∨ j % 3 = 1 ∨ j % 3 = 2 := by omega
  rcases hm with hm | hm | hm
  · have e : j = j / 3 * 3 := by omega
    rw [e] at hu ⊢
    rw [h1.1, ← h2.1, hu]
  · have e : j = j / 3 * 3 + 1 := by omega
    rw [e] at hu ⊢
    rw [show o + (j / 3 * 3 + 1) = o + j / 3 * 3 + 1 by omega, h1.2.1, ← h2.2.1, hu]
  · have e : j = j / 3 * 3 + 2 := by omega
    rw [e] at hu ⊢
    rw [show o + (j / 3 * 3 + 2) = o + j / 3 * 3 + 2 by omega, h1.2.2, ← h2.2.2, hu]
/-- A list of nodes of the call's own. -/
def OwnC (l : List CN) (w : World) (e : Ending) (w' : World) : Prop := ∃ (a : Option Addr) (c : Nat), e = .returned (.slice a l.length c) ∧ Hid (w'.ownsRow w.heap.size 111 3 (.slice a l.length c) l.length (CN.cells l)) ∧ Hid (Below w.heap.size w w')
theorem infoCN : (Try.prog.info? 111).map (fun i => (i.zero, i.size, i.bytes)) = some (some (.agg #[.int .i64 0, .string ByteArray.empty, .string ByteArray.empty]), 3, 40) := by kernel_rfl
theorem ownE {base : Nat} {e : TypeId} {K : Nat} {w : World} (h : base ≤ w.heap.size) : (w.alloc (.cells #[] e (0, 0))).ownsRow base e K (.slice (some ⟨w.heap.size, 0, none⟩) 0 0) 0 [] :=
  ⟨by simp, Or.inr ⟨_, 0, #[], rfl, h, heap_alloc_new _ _, Nat.le_refl _, by unfold maxLen; omega, by simp, by simp⟩⟩

set_option maxRecDepth 100000 in
set_option maxHeartbeats 1000000 in
theorem im_clone (v : Value) (l : List CN) (w : World) (h : CN.Is w v l) (h0 : 0 < l.length) (hl : l.length ≤ 30) :
    Calls Try.prog 86 #[v] w (OwnC l w) := by
  obtain ⟨i0, hi0, hz0, hz1, hz2⟩ := info_parts infoCN
  obtain ⟨b, o, c, rfl, hc, hat⟩ := h.some h0
  have HAT := Lib.hid (hat.below ((Below.refl w.heap.size w).alloc (Nat.le_refl _) (.cells #[] 111)))
  clear h hat
  have hnil : (binOp .eql 33 (.slice (some ⟨b, o, none⟩) l.length c) (.slice none 0 0)).run Try.prog w = .ok (.bool false) w := Lib.run_eql_slice_nil w 33 111 (some ⟨b, o, none⟩) l.length c 0 0 Try.underlying33
  go_enter Try.func86, Try.ntmps86
  go_wp2_with (at_builtin; refine wpList_append_own _ rfl _ _ 33 rfl w.heap.size 111 i0 (.agg #[.int .i64 0, .string ByteArray.empty, .string ByteArray.empty]) 3 40 Try.underlying33 hi0 hz0 hz1 hz2 rfl (by decide) _ 0 [] rfl (ownE (Nat.le_refl _)) ⟨b, o, none⟩ l.length c (CN.cells l) rfl (CN.cells_length l) (cn_news HAT.out) (CN.one l) (by unfold maxLen; omega) (by omega) (by simp) ?_)
  intro v3 w3 ho hg _
  obtain ⟨a3, c3, rfl⟩ := own_sliceN ho
  have HO := Lib.hid ho
  have HB := Lib.hid (((Below.refl w.heap.size w).alloc (Nat.le_refl _) _).grown hg (by simp) (fun k hk => by cases hk; exact Nat.le_refl _))
  clear ho hg
  go_wp2_with fail
  go_ret
  exact ⟨a3, c3, rfl, HO, HB⟩
/-- A line with a row of its own. -/
def OwnL (x : BL) (w : World) (e : Ending) (w' : World) : Prop := ∃ (a : Option Addr) (c : Nat), e = .returned (.agg #[.string x.par, .string x.prt, .int .i64 x.qty, .int .i64 x.fr, .int .i64 x.un, .slice a x.whn.length c]) ∧ Hid (w'.ownsRow w.heap.size 111 3 (.slice a x.whn.length c) x.whn.length (CN.cells x.whn)) ∧ Hid (Below w.heap.size w w')
set_option maxRecDepth 100000 in
set_option maxHeartbeats 2000000 in
theorem spec_line (x : BL) (u5 : Value) (lo hi : Nat) (w : World) (h5 : CX lo hi w u5 x.whn) (h0 : 0 < x.whn.length) (hl : x.whn.length ≤ 30) :
    Calls Try.prog 68 #[.agg #[.string x.par, .string x.prt, .int .i64 x.qty, .int .i64 x.fr, .int .i64 x.un, u5]] w (OwnL x w) := by
  obtain ⟨i0, hi0, hz0, hz1, hz2⟩ := info_parts infoCN
  have hat0 := h5.is
  obtain ⟨b, o, c5', hv, hc, hat⟩ := hat0.some h0
  obtain ⟨a5, c5, rfl⟩ := h5.slice
  simp only [Value.slice.injEq] at hv
  obtain ⟨rfl, _, rfl⟩ := hv
  have hB := ((Below.refl w.heap.size w).alloc (Nat.le_refl _) (.cells #[.string x.par, .string x.prt, .int .i64 x.qty, .int .i64 x.fr, .int .i64 x.un, .slice (some ⟨b, o, none⟩) x.whn.length c5] 35)).alloc (by simp) (.cells #[.string { data := #[] }, .string { data := #[] }, .int .i64 0, .int .i64 0, .int .i64 0, .slice none 0 0] 35)
  have HA := Lib.hid (heap_alloc2_old w (.cells #[.string x.par, .string x.prt, .int .i64 x.qty, .int .i64 x.fr, .int .i64 x.un, .slice (some ⟨b, o, none⟩) x.whn.length c5] 35) (.cells #[.string { data := #[] }, .string { data := #[] }, .int .i64 0, .int .i64 0, .int .i64 0, .slice none 0 0] 35))
  have HR := Lib.hid (heap_alloc2_new w (.cells #[.string x.par, .string x.prt, .int .i64 x.qty, .int .i64 x.fr, .int .i64 x.un, .slice (some ⟨b, o, none⟩) x.whn.length c5] 35) (.cells #[.string { data := #[] }, .string { data := #[] }, .int .i64 0, .int .i64 0, .int .i64 0, .slice none 0 0] 35))
  have hs0 : ((w.alloc (.cells #[.string x.par, .string x.prt, .int .i64 x.qty, .int .i64 x.fr, .int .i64 x.un, .slice (some ⟨b, o, none⟩) x.whn.length c5] 35)).alloc (.cells #[.string { data := #[] }, .string { data := #[] }, .int .i64 0, .int .i64 0, .int .i64 0, .slice none 0 0] 35)).heap.size = w.heap.size + 1 + 1 := by simp
  have HS0 := Lib.hid hs0
  clear hs0
  have d5 := cell_of_row _ _ 5 _ _ _ (blk_alloc HA.out (.cells #[] 111))
  have HAT := Lib.hid ((hat.below hB).below ((Below.refl _ _).alloc (Nat.le_refl _) (.cells #[] 111)))
  have HBW := Lib.hid hB
  clear h5 hat hat0 hB
  go_enter Try.func68, Try.ntmps68
  go_upto_region 1 with fail
  generalize (w.alloc (.cells #[.string x.par, .string x.prt, .int .i64 x.qty, .int .i64 x.fr, .int .i64 x.un, .slice (some ⟨b, o, none⟩) x.whn.length c5] 35)).alloc (.cells #[.string { data := #[] }, .string { data := #[] }, .int .i64 0, .int .i64 0, .int .i64 0, .slice none 0 0] 35) = w1 at *
  go_wp2_with (at_builtin; refine wpList_append_own _ rfl _ _ 33 rfl w1.heap.size 111 i0 (.agg #[.int .i64 0, .string ByteArray.empty, .string ByteArray.empty]) 3 40 Try.underlying33 hi0 hz0 hz1 hz2 rfl (by decide) _ 0 [] rfl (ownE (Nat.le_refl _)) ⟨b, o, none⟩ x.whn.length c5 (CN.cells x.whn) rfl (CN.cells_length x.whn) (cn_news HAT.out) (CN.one x.whn) (by unfold maxLen; omega) (by omega) (by simp) ?_)
  intro v3 w3 ho hg _
  have hs0 := HS0.out
  obtain ⟨a3, c3, rfl⟩ := own_sliceN ho
  have HO := Lib.hid ho
  have hB3 := HBW.out.alloc (by omega) (.cells #[] 111)
  have HB := Lib.hid (hB3.grown hg (by simp; omega) (fun k hk => by cases hk; show w.heap.size ≤ w1.heap.size; omega))
  have HA := Lib.hid ((hg.block w.heap.size (by simp; omega) (by simp [Value.ownBlock]; omega)).trans (blk_alloc HA.out _))
  have HR := Lib.hid ((hg.block (w.heap.size + 1) (by simp; omega) (by simp [Value.ownBlock]; omega)).trans (blk_alloc HR.out _))
  have hs3 := hg.size
  simp at hs3
  clear ho hg d5 HAT hB3
  have d0 := cell_of_row _ _ 0 _ _ _ HA.out
  have f0 := frozen_of_row _ _ 0 _ _ HA.out
  have d1 := cell_of_row _ _ 1 _ _ _ HA.out
  have f1 := frozen_of_row _ _ 1 _ _ HA.out
  have d2 := cell_of_row _ _ 2 _ _ _ HA.out
  have f2 := frozen_of_row _ _ 2 _ _ HA.out
  have d3 := cell_of_row _ _ 3 _ _ _ HA.out
  have f3 := frozen_of_row _ _ 3 _ _ HA.out
  have d4 := cell_of_row _ _ 4 _ _ _ HA.out
  have f4 := frozen_of_row _ _ 4 _ _ HA.out
  have d5 := cell_of_row _ _ 5 _ _ _ HA.out
  have f5 := frozen_of_row _ _ 5 _ _ HA.out
  have q0 := cell_of_row _ _ 0 _ _ _ HR.out
  have y0 := frozen_of_row _ _ 0 _ _ HR.out
  have q1 := cell_of_row _ _ 1 _ _ _ HR.out
  have y1 := frozen_of_row _ _ 1 _ _ HR.out
  have q2 := cell_of_row _ _ 2 _ _ _ HR.out
  have y2 := frozen_of_row _ _ 2 _ _ HR.out
  have q3 := cell_of_row _ _ 3 _ _ _ HR.out
  have y3 := frozen_of_row _ _ 3 _ _ HR.out
  have q4 := cell_of_row _ _ 4 _ _ _ HR.out
  have y4 := frozen_of_row _ _ 4 _ _ HR.out
  have q5 := cell_of_row _ _ 5 _ _ _ HR.out
  have y5 := frozen_of_row _ _ 5 _ _ HR.out
  go_wp2_with fail
  have HRf : (w3.setCell ⟨w.heap.size, 5, none⟩ (.slice a3 x.whn.length c3)).heap[w.heap.size + 1]? = some (.cells #[.string { data := #[] }, .string { data := #[] }, .int .i64 0, .int .i64 0, .int .i64 0, .slice none 0 0] 35) := (heap_setCell_other _ _ _ _ (by simp)).trans HR.out
  refine bodyPost_ret (v := .agg #[.string x.par, .string x.prt, .int .i64 x.qty, .int .i64 x.fr, .int .i64 x.un, .slice a3 x.whn.length c3]) (results_cell_row Try.results68 _ _ _ _ #[.string x.par, .string x.prt, .int .i64 x.qty, .int .i64 x.fr, .int .i64 x.un, .slice a3 x.whn.length c3] (0, 0) _ rfl (heap_setCell_same _ _ 5 _ _ _ (heap_setCell_same _ _ 4 _ _ _ (heap_setCell_same _ _ 3 _ _ _ (heap_setCell_same _ _ 2 _ _ _ (heap_setCell_same _ _ 1 _ _ _ (heap_setCell_same _ _ 0 _ _ _ (HRf))))))) Try.underlying35 rfl (by kernel_rfl)) rfl ⟨a3, c3, rfl, Lib.hid ?_, Lib.hid ?_⟩
  · exact own_lowerN (own_setlow (own_setlow (own_setlow (own_setlow (own_setlow (own_setlow (own_setlow HO.out _ _ _ (by omega)) _ _ _ (by omega)) _ _ _ (by omega)) _ _ _ (by omega)) _ _ _ (by omega)) _ _ _ (by omega)) _ _ _ (by omega)) (by omega)
  · exact (((((((HB.out.setCell (by simp; try omega) _).setCell (by simp; try omega) _).setCell (by simp; try omega) _).setCell (by simp; try omega) _).setCell (by simp; try omega) _).setCell (by simp; try omega) _).setCell (by simp; try omega) _)

set_option maxRecDepth 100000 in
set_option maxHeartbeats 2000000 in
theorem im_copied (x : BL) (u5 : Value) (lo hi : Nat) (w : World) (h5 : CX lo hi w u5 x.whn) (h0 : 0 < x.whn.length) (hl : x.whn.length ≤ 30) :
    Calls Try.prog 56 #[.agg #[.string x.par, .string x.prt, .int .i64 x.qty, .int .i64 x.fr, .int .i64 x.un, u5]] w (OwnL x w) := by
  obtain ⟨a5, c5, rfl⟩ := h5.slice
  have hB := ((Below.refl w.heap.size w).alloc (Nat.le_refl _) (.cells #[.string x.par, .string x.prt, .int .i64 x.qty, .int .i64 x.fr, .int .i64 x.un, .slice a5 x.whn.length c5] 35)).alloc (by simp) (.cells #[.string { data := #[] }, .string { data := #[] }, .int .i64 0, .int .i64 0, .int .i64 0, .slice none 0 0] 35)
  have HA := Lib.hid (heap_alloc2_old w (.cells #[.string x.par, .string x.prt, .int .i64 x.qty, .int .i64 x.fr, .int .i64 x.un, .slice a5 x.whn.length c5] 35) (.cells #[.string { data := #[] }, .string { data := #[] }, .int .i64 0, .int .i64 0, .int .i64 0, .slice none 0 0] 35))
  have HR := Lib.hid (heap_alloc2_new w (.cells #[.string x.par, .string x.prt, .int .i64 x.qty, .int .i64 x.fr, .int .i64 x.un, .slice a5 x.whn.length c5] 35) (.cells #[.string { data := #[] }, .string { data := #[] }, .int .i64 0, .int .i64 0, .int .i64 0, .slice none 0 0] 35))
  have hs0 : ((w.alloc (.cells #[.string x.par, .string x.prt, .int .i64 x.qty, .int .i64 x.fr, .int .i64 x.un, .slice a5 x.whn.length c5] 35)).alloc (.cells #[.string { data := #[] }, .string { data := #[] }, .int .i64 0, .int .i64 0, .int .i64 0, .slice none 0 0] 35)).heap.size = w.heap.size + 1 + 1 := by simp
  have HS0 := Lib.hid hs0
  clear hs0
  have d5 := cell_of_row _ _ 5 _ _ _ HA.out
  have HIS := Lib.hid (h5.is.below hB)
  have HBW := Lib.hid hB
  clear h5 hB
  go_enter Try.func56, Try.ntmps56
  go_upto_region 1 with fail
  generalize (w.alloc (.cells #[.string x.par, .string x.prt, .int .i64 x.qty, .int .i64 x.fr, .int .i64 x.un, .slice a5 x.whn.length c5] 35)).alloc (.cells #[.string { data := #[] }, .string { data := #[] }, .int .i64 0, .int .i64 0, .int .i64 0, .slice none 0 0] 35) = w1 at *
  go_wp2_with fail
  refine (im_clone _ x.whn w1 HIS.out h0 hl).mono ?_
  rintro e w3 ⟨a3, c3, rfl, HO, HB3⟩
  have hs0 := HS0.out
  have HB := Lib.hid (HBW.out.trans (HB3.out.mono HBW.out.size))
  have HA := Lib.hid (blk_below HA.out HB3.out)
  have HR := Lib.hid (blk_below HR.out HB3.out)
  have hs3 := HB3.out.size
  clear d5 HIS HB3
  have d0 := cell_of_row _ _ 0 _ _ _ HA.out
  have f0 := frozen_of_row _ _ 0 _ _ HA.out
  have d1 := cell_of_row _ _ 1 _ _ _ HA.out
  have f1 := frozen_of_row _ _ 1 _ _ HA.out
  have d2 := cell_of_row _ _ 2 _ _ _ HA.out
  have f2 := frozen_of_row _ _ 2 _ _ HA.out
  have d3 := cell_of_row _ _ 3 _ _ _ HA.out
  have f3 := frozen_of_row _ _ 3 _ _ HA.out
  have d4 := cell_of_row _ _ 4 _ _ _ HA.out
  have f4 := frozen_of_row _ _ 4 _ _ HA.out
  have d5 := cell_of_row _ _ 5 _ _ _ HA.out
  have f5 := frozen_of_row _ _ 5 _ _ HA.out
  have q0 := cell_of_row _ _ 0 _ _ _ HR.out
  have y0 := frozen_of_row _ _ 0 _ _ HR.out
  have q1 := cell_of_row _ _ 1 _ _ _ HR.out
  have y1 := frozen_of_row _ _ 1 _ _ HR.out
  have q2 := cell_of_row _ _ 2 _ _ _ HR.out
  have y2 := frozen_of_row _ _ 2 _ _ HR.out
  have q3 := cell_of_row _ _ 3 _ _ _ HR.out
  have y3 := frozen_of_row _ _ 3 _ _ HR.out
  have q4 := cell_of_row _ _ 4 _ _ _ HR.out
  have y4 := frozen_of_row _ _ 4 _ _ HR.out
  have q5 := cell_of_row _ _ 5 _ _ _ HR.out
  have y5 := frozen_of_row _ _ 5 _ _ HR.out
  go_wp2_with fail
  have HRf : (w3.setCell ⟨w.heap.size, 5, none⟩ (.slice a3 x.whn.length c3)).heap[w.heap.size + 1]? = some (.cells #[.string { data := #[] }, .string { data := #[] }, .int .i64 0, .int .i64 0, .int .i64 0, .slice none 0 0] 35) := (heap_setCell_other _ _ _ _ (by simp)).trans HR.out
  refine bodyPost_ret (v := .agg #[.string x.par, .string x.prt, .int .i64 x.qty, .int .i64 x.fr, .int .i64 x.un, .slice a3 x.whn.length c3]) (results_cell_row Try.results56 _ _ _ _ #[.string x.par, .string x.prt, .int .i64 x.qty, .int .i64 x.fr, .int .i64 x.un, .slice a3 x.whn.length c3] (0, 0) _ rfl (heap_setCell_same _ _ 5 _ _ _ (heap_setCell_same _ _ 4 _ _ _ (heap_setCell_same _ _ 3 _ _ _ (heap_setCell_same _ _ 2 _ _ _ (heap_setCell_same _ _ 1 _ _ _ (heap_setCell_same _ _ 0 _ _ _ (HRf))))))) Try.underlying35 rfl (by kernel_rfl)) rfl ⟨a3, c3, rfl, Lib.hid ?_, Lib.hid ?_⟩
  · exact own_lowerN (own_setlow (own_setlow (own_setlow (own_setlow (own_setlow (own_setlow (own_setlow HO.out _ _ _ (by omega)) _ _ _ (by omega)) _ _ _ (by omega)) _ _ _ (by omega)) _ _ _ (by omega)) _ _ _ (by omega)) _ _ _ (by omega)) (by omega)
  · exact (((((((HB.out.setCell (by simp; try omega) _).setCell (by simp; try omega) _).setCell (by simp; try omega) _).setCell (by simp; try omega) _).setCell (by simp; try omega) _).setCell (by simp; try omega) _).setCell (by simp; try omega) _)
end Go.Proofs.Ytkjnmldjgckbcaa
