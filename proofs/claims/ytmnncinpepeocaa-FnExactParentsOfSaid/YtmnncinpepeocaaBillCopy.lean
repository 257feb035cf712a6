/-
  Lists of nodes and lines with memory of their own.
-/
import Derived.Test.YtmnncinpepeocaaCnNews
import Derived.Test.YtmnncinpepeocaaCondOwn
import Derived.Test.YtmnncinpepeocaaBLOwn
import Derived.Test.YtmnncinpepeocaaBuA
import Derived.WalkKit
import Derived.WalkSpells
import Derived.WalkSmall
import Derived.BigQuiet
import Derived.OneCell
import Derived.Deep.QuietTactic
import Derived.Deep.DeepCutAuto
import Derived.Laws.OwnMore
import Derived.Laws.AppendOwn
import Derived.Deep.RegionHeld3
import Derived.Lib.Hide
namespace Go.Proofs.Ytmnncinpepeocaa
open Go.RowKit

theorem infoCN : (Try.prog.info? 130).map (fun i => (i.zero, i.size, i.bytes)) = some (some (.agg #[.int .i64 0, .string ByteArray.empty, .string ByteArray.empty]), 3, 40) := by kernel_rfl
theorem ownE {base : Nat} {e : TypeId} {K : Nat} {w : World} (h : base ≤ w.heap.size) : (w.alloc (.cells #[] e (0, 0))).ownsRow base e K (.slice (some ⟨w.heap.size, 0, none⟩) 0 0) 0 [] :=
  ⟨by simp, Or.inr ⟨_, 0, #[], rfl, h, heap_alloc_new _ _, Nat.le_refl _, by unfold maxLen; omega, by simp, by simp⟩⟩

set_option maxRecDepth 100000 in
set_option maxHeartbeats 1000000 in
theorem im_clone (v : Value) (l : List CN) (w : World) (h : CN.Is w v l) (h0 : 0 < l.length) (hl : l.length ≤ 30) :
    Calls Try.prog 96 #[v] w (OwnC l w) := by
  obtain ⟨i0, hi0, hz0, hz1, hz2⟩ := info_parts infoCN
  obtain ⟨b, o, c, rfl, hc, hat⟩ := h.some h0
  have HAT := Lib.hid (hat.below ((Below.refl w.heap.size w).alloc (Nat.le_refl _) (.cells #[] 130)))
  clear h hat
  have hnil : (binOp .eql 35 (.slice (some ⟨b, o, none⟩) l.length c) (.slice none 0 0)).run Try.prog w = .ok (.bool false) w := Lib.run_eql_slice_nil w 35 130 (some ⟨b, o, none⟩) l.length c 0 0 Try.underlying35
  go_enter Try.func96, Try.ntmps96
  go_wp2_with (at_builtin; refine wpList_append_own _ rfl _ _ 35 rfl w.heap.size 130 i0 (.agg #[.int .i64 0, .string ByteArray.empty, .string ByteArray.empty]) 3 40 Try.underlying35 hi0 hz0 hz1 hz2 rfl (by decide) _ 0 [] rfl (ownE (Nat.le_refl _)) ⟨b, o, none⟩ l.length c (CN.cells l) rfl (CN.cells_length l) (cn_news HAT.out) (CN.one l) (by unfold maxLen; omega) (by omega) (by simp) ?_)
  intro v3 w3 ho hg _
  obtain ⟨a3, c3, rfl⟩ := own_sliceN ho
  have HO := Lib.hid ho
  have HB := Lib.hid (((Below.refl w.heap.size w).alloc (Nat.le_refl _) _).grown hg (by simp) (fun k hk => by cases hk; exact Nat.le_refl _))
  clear ho hg
  go_wp2_with fail
  go_ret
  exact ⟨a3, c3, rfl, HO, HB⟩
/-- A line with a row of its own. -/
def OwnL (x : BL) (w : World) (e : Ending) (w' : World) : Prop := ∃ (a : Option Addr) (c : Nat), e = .returned (.agg #[.string x.par, .string x.prt, .int .i64 x.qty, .int .i64 x.fr, .int .i64 x.un, .slice a x.whn.length c]) ∧ Hid (w'.ownsRow w.heap.size 130 3 (.slice a x.whn.length c) x.whn.length (CN.cells x.whn)) ∧ Hid (Below w.heap.size w w')
set_option maxRecDepth 100000 in
set_option maxHeartbeats 2000000 in
theorem spec_line (x : BL) (u5 : Value) (lo hi : Nat) (w : World) (h5 : CX lo hi w u5 x.whn) (h0 : 0 < x.whn.length) (hl : x.whn.length ≤ 30) :
    Calls Try.prog 60 #[.agg #[.string x.par, .string x.prt, .int .i64 x.qty, .int .i64 x.fr, .int .i64 x.un, u5]] w (OwnL x w) := by
  obtain ⟨i0, hi0, hz0, hz1, hz2⟩ := info_parts infoCN
  have hat0 := h5.is
  obtain ⟨b, o, c5', hv, hc, hat⟩ := hat0.some h0
  obtain ⟨a5, c5, rfl⟩ := h5.slice
  simp only [Value.slice.injEq] at hv
  obtain ⟨rfl, _, rfl⟩ := hv
  have hB := ((Below.refl w.heap.size w).alloc (Nat.le_refl _) (.cells #[.string x.par, .string x.prt, .int .i64 x.qty, .int .i64 x.fr, .int .i64 x.un, .slice (some ⟨b, o, none⟩) x.whn.length c5] 37)).alloc (by simp) (.cells #[.string { data := #[] }, .string { data := #[] }, .int .i64 0, .int .i64 0, .int .i64 0, .slice none 0 0] 37)
  have HA := Lib.hid (heap_alloc2_old w (.cells #[.string x.par, .string x.prt, .int .i64 x.qty, .int .i64 x.fr, .int .i64 x.un, .slice (some ⟨b, o, none⟩) x.whn.length c5] 37) (.cells #[.string { data := #[] }, .string { data := #[] }, .int .i64 0, .int .i64 0, .int .i64 0, .slice none 0 0] 37))
  have HR := Lib.hid (heap_alloc2_new w (.cells #[.string x.par, .string x.prt, .int .i64 x.qty, .int .i64 x.fr, .int .i64 x.un, .slice (some ⟨b, o, none⟩) x.whn.length c5] 37) (.cells #[.string { data := #[] }, .string { data := #[] }, .int .i64 0, .int .i64 0, .int .i64 0, .slice none 0 0] 37))
  have hs0 : ((w.alloc (.cells #[.string x.par, .string x.prt, .int .i64 x.qty, .int .i64 x.fr, .int .i64 x.un, .slice (some ⟨b, o, none⟩) x.whn.length c5] 37)).alloc (.cells #[.string { data := #[] }, .string { data := #[] }, .int .i64 0, .int .i64 0, .int .i64 0, .slice none 0 0] 37)).heap.size = w.heap.size + 1 + 1 := by simp
  have HS0 := Lib.hid hs0
  clear hs0
  have d5 := cell_of_row _ _ 5 _ _ _ (blk_alloc HA.out (.cells #[] 130))
  have HAT := Lib.hid ((hat.below hB).below ((Below.refl _ _).alloc (Nat.le_refl _) (.cells #[] 130)))
  have HBW := Lib.hid hB
  clear h5 hat hat0 hB
  go_enter Try.func60, Try.ntmps60
  go_upto_region 1 with fail
  generalize (w.alloc (.cells #[.string x.par, .string x.prt, .int .i64 x.qty, .int .i64 x.fr, .int .i64 x.un, .slice (some ⟨b, o, none⟩) x.whn.length c5] 37)).alloc (.cells #[.string { data := #[] }, .string { data := #[] }, .int .i64 0, .int .i64 0, .int .i64 0, .slice none 0 0] 37) = w1 at *
  go_wp2_with (at_builtin; refine wpList_append_own _ rfl _ _ 35 rfl w1.heap.size 130 i0 (.agg #[.int .i64 0, .string ByteArray.empty, .string ByteArray.empty]) 3 40 Try.underlying35 hi0 hz0 hz1 hz2 rfl (by decide) _ 0 [] rfl (ownE (Nat.le_refl _)) ⟨b, o, none⟩ x.whn.length c5 (CN.cells x.whn) rfl (CN.cells_length x.whn) (cn_news HAT.out) (CN.one x.whn) (by unfold maxLen; omega) (by omega) (by simp) ?_)
  intro v3 w3 ho hg _
  have hs0 := HS0.out
  obtain ⟨a3, c3, rfl⟩ := own_sliceN ho
  have HO := Lib.hid ho
  have hB3 := HBW.out.alloc (by omega) (.cells #[] 130)
  have HB := Lib.hid (hB3.grown hg (by simp; omega) (fun k hk => by cases hk; show w.heap.size ≤ w1.heap.size; omega))
  have HA := Lib.hid ((hg.block w.heap.size (by simp; omega) (by simp [Value.ownBlock]; omega)).trans (blk_alloc HA.out _))
  have HR := Lib.hid ((hg.block (w.heap.size + 1) (by simp; omega) (by simp [Value.ownBlock]; omega)).trans (blk_alloc HR.out _))
  have hs3 := hg.size
  simp at hs3
  clear ho hg d5 HAT hB3
  have d0 := cell_of_row _ _ 0 _ _ _ HA.out
  have f0 := frozen_of_row _ _ 0 _ _ HA.out
  have d1 := cell_of_row _ _ 1 _ _ _ HA.out
  have f1 := frozen_of_row _ _ 1 _ _ HA.out
  have d2 := cell_of_row _ _ 2 _ _ _ HA.out
  have f2 := frozen_of_row _ _ 2 _ _ HA.out
  have d3 := cell_of_row _ _ 3 _ _ _ HA.out
  have f3 := frozen_of_row _ _ 3 _ _ HA.out
  have d4 := cell_of_row _ _ 4 _ _ _ HA.out
  have f4 := frozen_of_row _ _ 4 _ _ HA.out
  have d5 := cell_of_row _ _ 5 _ _ _ HA.out
  have f5 := frozen_of_row _ _ 5 _ _ HA.out
  have q0 := cell_of_row _ _ 0 _ _ _ HR.out
  have y0 := frozen_of_row _ _ 0 _ _ HR.out
  have q1 := cell_of_row _ _ 1 _ _ _ HR.out
  have y1 := frozen_of_row _ _ 1 _ _ HR.out
  have q2 := cell_of_row _ _ 2 _ _ _ HR.out
  have y2 := frozen_of_row _ _ 2 _ _ HR.out
  have q3 := cell_of_row _ _ 3 _ _ _ HR.out
  have y3 := frozen_of_row _ _ 3 _ _ HR.out
  have q4 := cell_of_row _ _ 4 _ _ _ HR.out
  have y4 := frozen_of_row _ _ 4 _ _ HR.out
  have q5 := cell_of_row _ _ 5 _ _ _ HR.out
  have y5 := frozen_of_row _ _ 5 _ _ HR.out
  go_wp2_with fail
  have HRf : (w3.setCell ⟨w.heap.size, 5, none⟩ (.slice a3 x.whn.length c3)).heap[w.heap.size + 1]? = some (.cells #[.string { data := #[] }, .string { data := #[] }, .int .i64 0, .int .i64 0, .int .i64 0, .slice none 0 0] 37) := (heap_setCell_other _ _ _ _ (by simp)).trans HR.out
  refine bodyPost_ret (v := .agg #[.string x.par, .string x.prt, .int .i64 x.qty, .int .i64 x.fr, .int .i64 x.un, .slice a3 x.whn.length c3]) (results_cell_row Try.results60 _ _ _ _ #[.string x.par, .string x.prt, .int .i64 x.qty, .int .i64 x.fr, .int .i64 x.un, .slice a3 x.whn.length c3] (0, 0) _ rfl (heap_setCell_same _ _ 5 _ _ _ (heap_setCell_same _ _ 4 _ _ _ (heap_setCell_same _ _ 3 _ _ _ (heap_setCell_same _ _ 2 _ _ _ (heap_setCell_same _ _ 1 _ _ _ (heap_setCell_same _ _ 0 _ _ _ (HRf))))))) Try.underlying37 rfl (by kernel_rfl)) rfl ⟨a3, c3, rfl, Lib.hid ?_, Lib.hid ?_⟩
  · exact own_lowerN (own_setlow (own_setlow (own_setlow (own_setlow (own_setlow (own_setlow (own_setlow HO.out _ _ _ (by omega)) _ _ _ (by omega)) _ _ _ (by omega)) _ _ _ (by omega)) _ _ _ (by omega)) _ _ _ (by omega)) _ _ _ (by omega)) (by omega)
  · exact (((((((HB.out.setCell (by simp; try omega) _).setCell (by simp; try omega) _).setCell (by simp; try omega) _).setCell (by simp; try omega) _).setCell (by simp; try omega) _).setCell (by simp; try omega) _).setCell (by simp; try omega) _)

set_option maxRecDepth 100000 in
set_option maxHeartbeats 2000000 in
theorem im_copied (x : BL) (u5 : Value) (lo hi : Nat) (w : World) (h5 : CX lo hi w u5 x.whn) (h0 : 0 < x.whn.length) (hl : x.whn.length ≤ 30) :
    Calls Try.prog 54 #[.agg #[.string x.par, .string x.prt, .int .i64 x.qty, .int .i64 x.fr, .int .i64 x.un, u5]] w (OwnL x w) := by
  obtain ⟨a5, c5, rfl⟩ := h5.slice
  have hB := ((Below.refl w.heap.size w).alloc (Nat.le_refl _) (.cells #[.string x.par, .string x.prt, .int .i64 x.qty, .int .i64 x.fr, .int .i64 x.un, .slice a5 x.whn.length c5] 37)).alloc (by simp) (.cells #[.string { data := #[] }, .string { data := #[] }, .int .i64 0, .int .i64 0, .int .i64 0, .slice none 0 0] 37)
  have HA := Lib.hid (heap_alloc2_old w (.cells #[.string x.par, .string x.prt, .int .i64 x.qty, .int .i64 x.fr, .int .i64 x.un, .slice a5 x.whn.length c5] 37) (.cells #[.string { data := #[] }, .string { data := #[] }, .int .i64 0, .int .i64 0, .int .i64 0, .slice none 0 0] 37))
  have HR := Lib.hid (heap_alloc2_new w (.cells #[.string x.par, .string x.prt, .int .i64 x.qty, .int .i64 x.fr, .int .i64 x.un, .slice a5 x.whn.length c5] 37) (.cells #[.string { data := #[] }, .string { data := #[] }, .int .i64 0, .int .i64 0, .int .i64 0, .slice none 0 0] 37))
  have hs0 : ((w.alloc (.cells #[.string x.par, .string x.prt, .int .i64 x.qty, .int .i64 x.fr, .int .i64 x.un, .slice a5 x.whn.length c5] 37)).alloc (.cells #[.string { data := #[] }, .string { data := #[] }, .int .i64 0, .int .i64 0, .int .i64 0, .slice none 0 0] 37)).heap.size = w.heap.size + 1 + 1 := by simp
  have HS0 := Lib.hid hs0
  clear hs0
  have d5 := cell_of_row _ _ 5 _ _ _ HA.out
  have HIS := Lib.hid (h5.is.below hB)
  have HBW := Lib.hid hB
  clear h5 hB
  go_enter Try.func54, Try.ntmps54
  go_upto_region 1 with fail
  generalize (w.alloc (.cells #[.string x.par, .string x.prt, .int .i64 x.qty, .int .i64 x.fr, .int .i64 x.un, .slice a5 x.whn.length c5] 37)).alloc (.cells #[.string { data := #[] }, .string { data := #[] }, .int .i64 0, .int .i64 0, .int .i64 0, .slice none 0 0] 37) = w1 at *
  go_wp2_with fail
  refine (im_clone _ x.whn w1 HIS.out h0 hl).mono ?_
  rintro e w3 ⟨a3, c3, rfl, HO, HB3⟩
  have hs0 := HS0.out
  have HB := Lib.hid (HBW.out.trans (HB3.out.mono HBW.out.size))
  have HA := Lib.hid (blk_below HA.out HB3.out)
  have HR := Lib.hid (blk_below HR.out HB3.out)
  have hs3 := HB3.out.size
  clear d5 HIS HB3
  have d0 := cell_of_row _ _ 0 _ _ _ HA.out
  have f0 := frozen_of_row _ _ 0 _ _ HA.out
  have d1 := cell_of_row _ _ 1 _ _ _ HA.out
  have f1 := frozen_of_row _ _ 1 _ _ HA.out
  have d2 := cell_of_row _ _ 2 _ _ _ HA.out
  have f2 := frozen_of_row _ _ 2 _ _ HA.out
  have d3 := cell_of_row _ _ 3 _ _ _ HA.out
  have f3 := frozen_of_row _ _ 3 _ _ HA.out
  have d4 := cell_of_row _ _ 4 _ _ _ HA.out
  have f4 := frozen_of_row _ _ 4 _ _ HA.out
  have d5 := cell_of_row _ _ 5 _ _ _ HA.out
  have f5 := frozen_of_row _ _ 5 _ _ HA.out
  have q0 := cell_of_row _ _ 0 _ _ _ HR.out
  have y0 := frozen_of_row _ _ 0 _ _ HR.out
  have q1 := cell_of_row _ _ 1 _ _ _ HR.out
  have y1 := frozen_of_row _ _ 1 _ _ HR.out
  have q2 := cell_of_row _ _ 2 _ _ _ HR.out
  have y2 := frozen_of_row _ _ 2 _ _ HR.out
  have q3 := cell_of_row _ _ 3 _ _ _ HR.out
  have y3 := frozen_of_row _ _ 3 _ _ HR.out
  have q4 := cell_of_row _ _ 4 _ _ _ HR.out
  have y4 := frozen_of_row _ _ 4 _ _ HR.out
  have q5 := cell_of_row _ _ 5 _ _ _ HR.out
  have y5 := frozen_of_row _ _ 5 _ _ HR.out
  go_wp2_with fail
  have HRf : (w3.setCell ⟨w.heap.size, 5, none⟩ (.slice a3 x.whn.length c3)).heap[w.heap.size + 1]? = some (.cells #[.string { data := #[] }, .string { data := #[] }, .int .i64 0, .int .i64 0, .int .i64 0, .slice none 0 0] 37) := (heap_setCell_other _ _ _ _ (by simp)).trans HR.out
  refine bodyPost_ret (v := .agg #[.string x.par, .string x.prt, .int .i64 x.qty, .int .i64 x.fr, .int .i64 x.un, .slice a3 x.whn.length c3]) (results_cell_row Try.results54 _ _ _ _ #[.string x.par, .string x.prt, .int .i64 x.qty, .int .i64 x.fr, .int .i64 x.un, .slice a3 x.whn.length c3] (0, 0) _ rfl (heap_setCell_same _ _ 5 _ _ _ (heap_setCell_same _ _ 4 _ _ _ (heap_setCell_same _ _ 3 _ _ _ (heap_setCell_same _ _ 2 _ _ _ (heap_setCell_same _ _ 1 _ _ _ (heap_setCell_same _ _ 0 _ _ _ (HRf))))))) Try.underlying37 rfl (by kernel_rfl)) rfl ⟨a3, c3, rfl, Lib.hid ?_, Lib.hid ?_⟩
  · exact own_lowerN (own_setlow (own_setlow (own_setlow (own_setlow (own_setlow (own_setlow (own_setlow HO.out _ _ _ (by omega)) _ _ _ (by omega)) _ _ _ (by omega)) _ _ _ (by omega)) _ _ _ (by omega)) _ _ _ (by omega)) _ _ _ (by omega)) (by omega)
  · exact (((((((HB.out.setCell (by simp; try omega) _).setCell (by simp; try omega) _).setCell (by simp; try omega) _).setCell (by simp; try omega) _).setCell (by simp; try omega) _).setCell (by simp; try omega) _).setCell (by simp; try omega) _)
end Go.Proofs.Ytmnncinpepeocaa
