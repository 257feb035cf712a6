/-
 Slices of BillLine within a span of blocks: copies, equality, size, an argument.
-/
import Derived.Test.YtmnncinpepeocaaGreatRows
import Derived.Test.YtmnncinpepeocaaGreatBuNest
import Derived.Test.YtmnncinpepeocaaGreatBuA
import Derived.WalkKit
import Derived.WalkSpells
import Derived.WalkSmall
import Derived.BigQuiet
import Derived.Deep.QuietTactic
import Derived.Deep.DeepCutAuto
import Derived.Deep.RegionHeld3
import Derived.Laws.OwnMore
import Derived.Lib.Hide
namespace Go.Proofs.YtmnncinpepeocaaGreat
open Go.RowKit

structure BL where
 par : ByteArray
 prt : ByteArray
 qty : Int
 fr : Int
 un : Int
 whn : List CN
instance : Inhabited BL := ⟨⟨ByteArray.empty, ByteArray.empty, 0, 0, 0, []⟩⟩
/-- Its cells. -/
def BLN : RelN BL := fun lo hi w x cs => ∃ u5, cs = [.string x.par, .string x.prt, .int .i64 x.qty, .int .i64 x.fr, .int .i64 x.un, u5] ∧ CX lo hi w u5 x.whn
theorem BLN.kept : KeptN BLN := ⟨fun _ _ _ _ _ _ hs h => by
 obtain ⟨u5, rfl, h5⟩ := h
 exact ⟨u5, rfl, h5.same CnN.kept hs⟩,
 fun _ _ _ _ _ _ _ a b h => by
 obtain ⟨u5, rfl, h5⟩ := h
 exact ⟨u5, rfl, h5.mono CnN.kept a b⟩⟩
def BL.Sz (x : BL) : Prop := x.par.size ≤ maxLen ∧ x.prt.size ≤ maxLen ∧ CX.Sz x.whn
def BL.Sm (x : BL) : Prop := CX.Sm x.whn
abbrev BX := SlN 6 BLN
def BX.Sz (xs : List BL) : Prop := xs.length ≤ maxLen ∧ ∀ x, x ∈ xs → BL.Sz x
def BX.Sm (xs : List BL) : Prop := xs.length ≤ 1048576 ∧ ∀ x, x ∈ xs → BL.Sm x

set_option maxRecDepth 100000 in
set_option maxHeartbeats 2000000 in
theorem BL.to_one (x : BL) (u5 : Value) (lo hi : Nat) (w : World) (hhi : hi ≤ w.heap.size) (h5 : CX lo hi w u5 x.whn) (hm : BL.Sm x) :
 Calls Tryz.prog 69 #[.agg #[.string x.par, .string x.prt, .int .i64 x.qty, .int .i64 x.fr, .int .i64 x.un, u5]] w fun e w' => ∃ v5, e = .returned (.agg #[.string x.par, .string x.prt, .int .i64 x.qty, .int .i64 x.fr, .int .i64 x.un, v5]) ∧ CX w.heap.size w'.heap.size w' v5 x.whn ∧ Below w.heap.size w w' := by
 have HM := Lib.hid hm
 have HH := Lib.hid hhi
 clear hm hhi
 obtain ⟨HB, hz, HA, HR, HO⟩ := alloc3 w (.cells #[.string x.par, .string x.prt, .int .i64 x.qty, .int .i64 x.fr, .int .i64 x.un, u5] 102) (.cells #[.string { data := #[] }, .string { data := #[] }, .int .i64 0, .int .i64 0, .int .i64 0, .slice none 0 0] 94) (.cells #[.string x.par, .string x.prt, .int .i64 x.qty, .int .i64 x.fr, .int .i64 x.un, .slice none 0 0] 94)
 have HZ := Lib.hid hz
 clear hz
 go_enter Tryz.func69, Tryz.ntmps69
 have r5_0 := Lib.hid (h5.below CnN.kept HB)
 clear h5
 go_wp2_with fail
 generalize (((w.alloc (.cells #[.string x.par, .string x.prt, .int .i64 x.qty, .int .i64 x.fr, .int .i64 x.un, u5] 102)).alloc (.cells #[.string { data := #[] }, .string { data := #[] }, .int .i64 0, .int .i64 0, .int .i64 0, .slice none 0 0] 94)).alloc (.cells #[.string x.par, .string x.prt, .int .i64 x.qty, .int .i64 x.fr, .int .i64 x.un, .slice none 0 0] 94)) = wA0 at *
 refine (CX.to _ x.whn _ _ _ (Nat.le_trans HH.out HB.size) r5_0.out HM.out).mono ?_
 rintro e w1 ⟨vv5, rfl, ho, hb⟩
 have V5 := Lib.hid ho
 have L5 : Hid (w.heap.size + 1 + 1 < wA0.heap.size) := Lib.hid (lt_of_heap HO)
 obtain ⟨a5, p5, hv5⟩ := ho.slice
 subst hv5
 clear ho
 have HA := blk_below HA hb
 have HR := blk_below HR hb
 have HO := blk_below HO hb
 have HB := HB.trans (hb.mono HB.size)
 have hsz0 := hb.size
 clear hb
 have d0 := cell_of_row _ _ 0 _ _ _ HO
 have f0 := frozen_of_row _ _ 0 _ _ HO
 have d1 := cell_of_row _ _ 1 _ _ _ HO
 have f1 := frozen_of_row _ _ 1 _ _ HO
 have d2 := cell_of_row _ _ 2 _ _ _ HO
 have f2 := frozen_of_row _ _ 2 _ _ HO
 have d3 := cell_of_row _ _ 3 _ _ _ HO
 have f3 := frozen_of_row _ _ 3 _ _ HO
 have d4 := cell_of_row _ _ 4 _ _ _ HO
 have f4 := frozen_of_row _ _ 4 _ _ HO
 have d5 := cell_of_row _ _ 5 _ _ _ HO
 have f5 := frozen_of_row _ _ 5 _ _ HO
 have z5_ := HB
 have q0 := cell_of_row _ _ 0 _ _ _ HR
 have y0 := frozen_of_row _ _ 0 _ _ HR
 have q1 := cell_of_row _ _ 1 _ _ _ HR
 have y1 := frozen_of_row _ _ 1 _ _ HR
 have q2 := cell_of_row _ _ 2 _ _ _ HR
 have y2 := frozen_of_row _ _ 2 _ _ HR
 have q3 := cell_of_row _ _ 3 _ _ _ HR
 have y3 := frozen_of_row _ _ 3 _ _ HR
 have q4 := cell_of_row _ _ 4 _ _ _ HR
 have y4 := frozen_of_row _ _ 4 _ _ HR
 have q5 := cell_of_row _ _ 5 _ _ _ HR
 have y5 := frozen_of_row _ _ 5 _ _ HR
 go_wp2_with fail
 have HRf : (w1.setCell ⟨w.heap.size + 1 + 1, 5, none⟩ (.slice a5 x.whn.length p5)).heap[w.heap.size + 1]? = some (.cells #[.string { data := #[] }, .string { data := #[] }, .int .i64 0, .int .i64 0, .int .i64 0, .slice none 0 0] 94) := (heap_setCell_other _ _ _ _ (by simp)).trans (HR)
 refine bodyPost_ret (v := .agg #[.string x.par, .string x.prt, .int .i64 x.qty, .int .i64 x.fr, .int .i64 x.un, .slice a5 x.whn.length p5]) (results_cell_row Tryz.results69 _ _ _ _ #[.string x.par, .string x.prt, .int .i64 x.qty, .int .i64 x.fr, .int .i64 x.un, .slice a5 x.whn.length p5] (0, 0) _ rfl (heap_setCell_same _ _ 5 _ _ _ (heap_setCell_same _ _ 4 _ _ _ (heap_setCell_same _ _ 3 _ _ _ (heap_setCell_same _ _ 2 _ _ _ (heap_setCell_same _ _ 1 _ _ _ (heap_setCell_same _ _ 0 _ _ _ (HRf))))))) Tryz.underlying94 rfl (by kernel_rfl)) rfl ⟨_, rfl, ?_, ?_⟩
 · exact ((((((((V5.out).same CnN.kept (Same.set (Or.inl (by have := L5.out; omega)))).same CnN.kept (Same.set (Or.inl (by have := L5.out; omega)))).same CnN.kept (Same.set (Or.inl (by have := L5.out; omega)))).same CnN.kept (Same.set (Or.inl (by have := L5.out; omega)))).same CnN.kept (Same.set (Or.inl (by have := L5.out; omega)))).same CnN.kept (Same.set (Or.inl (by have := L5.out; omega)))).same CnN.kept (Same.set (Or.inl (by have := L5.out; omega)))).mono CnN.kept (by have := L5.out; omega) (by simp; try omega)
 · exact (((((((HB.setCell (by simp; try omega) _).setCell (by simp) _).setCell (by simp) _).setCell (by simp) _).setCell (by simp) _).setCell (by simp) _).setCell (by simp) _)

set_option maxRecDepth 100000 in
set_option maxHeartbeats 2000000 in
theorem BL.eq_one (x : BL) (u5 t5 : Value) (lo hi lo' hi' : Nat) (w : World) (h5 : CX lo hi w u5 x.whn) (g5 : CX lo' hi' w t5 x.whn) (hm : BL.Sm x) :
 Calls Tryz.prog 73 #[.agg #[.string x.par, .string x.prt, .int .i64 x.qty, .int .i64 x.fr, .int .i64 x.un, u5], .agg #[.string x.par, .string x.prt, .int .i64 x.qty, .int .i64 x.fr, .int .i64 x.un, t5]] w (YesRes w) := by
 have HM := Lib.hid hm
 clear hm
 have b0 := str_eq (rfl : x.par = x.par)
 have b1 := str_eq (rfl : x.prt = x.prt)
 have b2 : (x.qty != x.qty) = false := by simp
 have b3 : (x.fr != x.fr) = false := by simp
 have b4 : (x.un != x.un) = false := by simp
 have HB : Below w.heap.size w ((w.alloc (.cells #[.string x.par, .string x.prt, .int .i64 x.qty, .int .i64 x.fr, .int .i64 x.un, u5] 94)).alloc (.cells #[.string x.par, .string x.prt, .int .i64 x.qty, .int .i64 x.fr, .int .i64 x.un, t5] 94)) := ((Below.refl _ _).alloc (Nat.le_refl _) _).alloc (by simp) _
 have HA : ((w.alloc (.cells #[.string x.par, .string x.prt, .int .i64 x.qty, .int .i64 x.fr, .int .i64 x.un, u5] 94)).alloc (.cells #[.string x.par, .string x.prt, .int .i64 x.qty, .int .i64 x.fr, .int .i64 x.un, t5] 94)).heap[w.heap.size]? = some (.cells #[.string x.par, .string x.prt, .int .i64 x.qty, .int .i64 x.fr, .int .i64 x.un, u5] 94) := heap_alloc2_old w _ _
 have HC : ((w.alloc (.cells #[.string x.par, .string x.prt, .int .i64 x.qty, .int .i64 x.fr, .int .i64 x.un, u5] 94)).alloc (.cells #[.string x.par, .string x.prt, .int .i64 x.qty, .int .i64 x.fr, .int .i64 x.un, t5] 94)).heap[w.heap.size + 1]? = some (.cells #[.string x.par, .string x.prt, .int .i64 x.qty, .int .i64 x.fr, .int .i64 x.un, t5] 94) := heap_alloc2_new w _ _
 have r5 := Lib.hid (h5.below CnN.kept HB)
 have s5 := Lib.hid (g5.below CnN.kept HB)
 clear h5 g5
 go_enter Tryz.func73, Tryz.ntmps73
 go_wp2_with fail
 generalize (w.alloc (.cells #[.string x.par, .string x.prt, .int .i64 x.qty, .int .i64 x.fr, .int .i64 x.un, u5] 94)).alloc (.cells #[.string x.par, .string x.prt, .int .i64 x.qty, .int .i64 x.fr, .int .i64 x.un, t5] 94) = wA at *
 refine (CX.eq _ _ x.whn _ _ _ _ _ r5.out s5.out HM.out).mono ?_
 rintro e w1 ⟨rfl, hb⟩
 have HA := blk_below HA hb
 have HC := blk_below HC hb
 have HB := HB.trans (hb.mono HB.size)
 clear hb
 go_wp2_with fail
 go_ret
 exact ⟨rfl, HB⟩

set_option maxRecDepth 100000 in
set_option maxHeartbeats 2000000 in
theorem BL.sz_one (x : BL) (u5 : Value) (left : Int) (lo hi : Nat) (w : World) (h5 : CX lo hi w u5 x.whn) (hl0 : 0 ≤ left) (hl1 : left ≤ 1048576) (hs : BL.Sz x) :
 Calls Tryz.prog 66 #[.agg #[.string x.par, .string x.prt, .int .i64 x.qty, .int .i64 x.fr, .int .i64 x.un, u5], .int .i64 left] w (SzRes (BL.Sm x) w) := by
 have HS := Lib.hid hs
 clear hs
 have z_par : x.par.size ≤ 9223372036854775807 := by have := HS.out.1; unfold maxLen at this; omega
 have z_prt : x.prt.size ≤ 9223372036854775807 := by have := HS.out.2.1; unfold maxLen at this; omega
 have HB : Below w.heap.size w (w.alloc (.cells #[.string x.par, .string x.prt, .int .i64 x.qty, .int .i64 x.fr, .int .i64 x.un, u5] 102)) := (Below.refl _ _).alloc (Nat.le_refl _) _
 have HA : (w.alloc (.cells #[.string x.par, .string x.prt, .int .i64 x.qty, .int .i64 x.fr, .int .i64 x.un, u5] 102)).heap[w.heap.size]? = some (.cells #[.string x.par, .string x.prt, .int .i64 x.qty, .int .i64 x.fr, .int .i64 x.un, u5] 102) := heap_alloc_new w _
 have r5 := Lib.hid (h5.below CnN.kept HB)
 clear h5
 by_cases hc0 : left < (x.par.size : Int)
 · go_enter Tryz.func66, Tryz.ntmps66
   go_wp2_with fail
   go_ret
   exact ⟨-1, rfl, by omega, by omega, by omega, HB⟩
 by_cases hc1 : left - x.par.size < (x.prt.size : Int)
 · go_enter Tryz.func66, Tryz.ntmps66
   go_wp2_with fail
   go_ret
   exact ⟨-1, rfl, by omega, by omega, by omega, HB⟩
 go_enter Tryz.func66, Tryz.ntmps66
 go_wp2_with fail
 generalize (w.alloc (.cells #[.string x.par, .string x.prt, .int .i64 x.qty, .int .i64 x.fr, .int .i64 x.un, u5] 102)) = wA at *
 refine (CX.sz _ x.whn _ _ _ _ r5.out (by omega) (by omega) HS.out.2.2).mono ?_
 rintro e w1 ⟨m1, rfl, hl20, hl21, hq, hb⟩
 have Q5 := Lib.hid hq
 have HA := blk_below HA hb
 have HB := HB.trans (hb.mono HB.size)
 clear hb hq
 by_cases hn5 : m1 < 0
 · go_wp2_with fail
   go_ret
   exact ⟨-1, rfl, by omega, by omega, by omega, HB⟩
 go_wp2_with fail
 go_ret
 exact ⟨m1, rfl, by omega, by omega, fun _ => Q5.out (by omega), HB⟩

theorem BX.info : (Tryz.prog.info? 94).map (fun i => (i.zero, i.size, i.bytes)) = some (some (.agg #[.string ByteArray.empty, .string ByteArray.empty, .int .i64 0, .int .i64 0, .int .i64 0, .slice none 0 0]), 6, 80) := by kernel_rfl

set_option maxRecDepth 100000 in
set_option maxHeartbeats 2000000 in
theorem BX.to (v : Value) (xs : List BL) (lo hi : Nat) (w : World) (hhi : hi ≤ w.heap.size) (h : BX lo hi w v xs) (hm : BX.Sm xs) : Calls Tryz.prog 24 #[v] w (CpRes BX xs w) := by
 obtain ⟨i0, hif, hz0, hz1, hz2⟩ := info_parts BX.info
 obtain ⟨hm, hM⟩ := hm
 have HM := Lib.hid hM
 have HX := Lib.hid h
 have HH := Lib.hid hhi
 obtain ⟨a, c, rfl⟩ := h.slice
 clear h hM hhi
 go_enter Tryz.func24, Tryz.ntmps24
 go_wp2_with (at_make; refine wpList_make_full _ rfl _ _ 25 rfl w.heap.size 94 i0 (.agg #[.string ByteArray.empty, .string ByteArray.empty, .int .i64 0, .int .i64 0, .int .i64 0, .slice none 0 0]) 6 Tryz.underlying25 hif hz0 hz1 _ _ _ _ xs.length rfl rfl rfl rfl (by rw [hz2]; omega) (by unfold maxLen; omega) (Nat.le_refl _) ?_)
 intro w0 hown0 hgrow0
 have hb0 : Below w.heap.size w w0 := (Below.refl _ _).grown hgrow0 (Nat.le_refl _) (fun k h => by cases h)
 have hown1 := PartN.start BLN hown0
 clear hown0 hgrow0
 go_wp2
 go_loopw [4] (fun i wr => ∃ k : Nat, k ≤ xs.length ∧ i = .int .i64 k ∧ PartN 6 BLN 94 w.heap.size xs.length xs k wr ∧ Below w.heap.size w wr) (fun i _ => xs.length - (intOf i).toNat)
 case atStart => exact ⟨0, Nat.zero_le _, rfl, hown1, hb0⟩
 case round =>
  obtain ⟨k, hk, rfl, hown, hb⟩ := hrel
  have HO := Lib.hid hown
  have HB := Lib.hid hb
  clear hown hown1 hb
  by_cases hlt : k < xs.length
  · obtain ⟨b2, o2, c2, cs, hv2, hc2, hb2, hl, hr, hcell⟩ := (HX.out.below BLN.kept HB.out).get k hlt
    simp only [Value.slice.injEq] at hv2
    obtain ⟨rfl, _, rfl⟩ := hv2
    have HSM := Lib.hid (HM.out _ (List.getElem_mem hlt))
    obtain ⟨u5, rfl, r5⟩ := hr
    have e0 := hcell 0 (by omega)
    have e1 := hcell 1 (by omega)
    have e2 := hcell 2 (by omega)
    have e3 := hcell 3 (by omega)
    have e4 := hcell 4 (by omega)
    have e5 := hcell 5 (by omega)
    have HLT := Lib.hid hlt
    obtain ⟨x, hx⟩ : ∃ x, xs[k]'hlt = x := ⟨_, rfl⟩
    have HXK : Hid (∃ h : k < xs.length, xs[k]'h = x) := Lib.hid ⟨hlt, hx⟩
    rw [hx] at r5 e0 e1 e2 e3 e4 HSM
    simp only [List.getElem?_cons_zero, List.getElem?_cons_succ, Nat.add_zero] at e0 e1 e2 e3 e4 e5
    clear hcell hx hc2 hb2
    have R5 := Lib.hid r5
    clear r5
    have HP := Lib.hid (BL.to_one x u5 _ _ wr (Nat.le_trans HH.out HB.out.size) R5.out HSM.out)
    go_wp2_with fail
    refine HP.out.mono ?_
    rintro e w2 ⟨v5, rfl, s5, hb2⟩
    have hg := HO.out.lt
    have HN0 : Hid (NextN 6 BLN 94 w.heap.size xs.length xs k [.string x.par, .string x.prt, .int .i64 x.qty, .int .i64 x.fr, .int .i64 x.un, v5] 0 w2) := Lib.hid (by
     obtain ⟨hlt2, hx2⟩ := HXK.out
     refine (HO.out.keep BLN.kept hb2).next HLT.out rfl hlt2 ?_
     rw [hx2]
     exact ⟨v5, rfl, s5.mono CnN.kept (by omega) (Nat.le_refl _)⟩)
    obtain ⟨sa5, sc5, hs5⟩ := s5.slice
    subst hs5
    obtain ⟨⟨o_0, ho_0⟩, fo_0⟩ := HN0.out.cell (k * 6) (by have := HLT.out; omega)
    obtain ⟨⟨o_1, ho_1⟩, fo_1⟩ := HN0.out.cell (k * 6 + 1) (by have := HLT.out; omega)
    obtain ⟨⟨o_2, ho_2⟩, fo_2⟩ := HN0.out.cell (k * 6 + 2) (by have := HLT.out; omega)
    obtain ⟨⟨o_3, ho_3⟩, fo_3⟩ := HN0.out.cell (k * 6 + 3) (by have := HLT.out; omega)
    obtain ⟨⟨o_4, ho_4⟩, fo_4⟩ := HN0.out.cell (k * 6 + 4) (by have := HLT.out; omega)
    obtain ⟨⟨o_5, ho_5⟩, fo_5⟩ := HN0.out.cell (k * 6 + 5) (by have := HLT.out; omega)
    have HN1 : Hid (PartN 6 BLN 94 w.heap.size xs.length xs (k + 1) ((((((w2.setCell ⟨w.heap.size, k * 6, none⟩ (.string x.par)).setCell ⟨w.heap.size, k * 6 + 1, none⟩ (.string x.prt)).setCell ⟨w.heap.size, k * 6 + 2, none⟩ (.int .i64 x.qty)).setCell ⟨w.heap.size, k * 6 + 3, none⟩ (.int .i64 x.fr)).setCell ⟨w.heap.size, k * 6 + 4, none⟩ (.int .i64 x.un)).setCell ⟨w.heap.size, k * 6 + 5, none⟩ (.slice sa5 x.whn.length sc5))) := Lib.hid (by
     have h9 := (((((((HN0.out).set BLN.kept (j := 0) rfl).set BLN.kept (j := 1) rfl).set BLN.kept (j := 2) rfl).set BLN.kept (j := 3) rfl).set BLN.kept (j := 4) rfl).set BLN.kept (j := 5) rfl).all rfl
     exact h9)
    have HB1 : Hid (Below w.heap.size w ((((((w2.setCell ⟨w.heap.size, k * 6, none⟩ (.string x.par)).setCell ⟨w.heap.size, k * 6 + 1, none⟩ (.string x.prt)).setCell ⟨w.heap.size, k * 6 + 2, none⟩ (.int .i64 x.qty)).setCell ⟨w.heap.size, k * 6 + 3, none⟩ (.int .i64 x.fr)).setCell ⟨w.heap.size, k * 6 + 4, none⟩ (.int .i64 x.un)).setCell ⟨w.heap.size, k * 6 + 5, none⟩ (.slice sa5 x.whn.length sc5))) := Lib.hid (((((((HB.out.trans (hb2.mono HB.out.size)).setCell (Nat.le_refl _) _).setCell (Nat.le_refl _) _).setCell (Nat.le_refl _) _).setCell (Nat.le_refl _) _).setCell (Nat.le_refl _) _).setCell (Nat.le_refl _) _)
    clear e0 e1 e2 e3 e4 e5 HP HN0 hg hb2 HO s5
    go_wp2_with fail
    go_roundw
    case rel => exact ⟨k + 1, by omega, by go_num, HN1.out, HB1.out⟩
    case measure => simp [intOf]; omega
  · have HE := Lib.hid (HO.out.done BLN.kept (by omega))
    go_wp2
    go_ret
    exact ⟨_, rfl, HE.out, HB.out⟩

set_option maxRecDepth 100000 in
set_option maxHeartbeats 2000000 in
theorem BX.eq (v v' : Value) (xs : List BL) (lo hi lo' hi' : Nat) (w : World) (h : BX lo hi w v xs) (h' : BX lo' hi' w v' xs) (hm : BX.Sm xs) : Calls Tryz.prog 28 #[v, v'] w (YesRes w) := by
 obtain ⟨hm, hM⟩ := hm
 have HM := Lib.hid hM
 have HX := Lib.hid h
 have HY := Lib.hid h'
 obtain ⟨a, c, rfl⟩ := h.slice
 obtain ⟨a', c', rfl⟩ := h'.slice
 have hnn : ((xs.length : Int) != (xs.length : Int)) = false := by simp
 clear h h' hM
 go_enter Tryz.func28, Tryz.ntmps28
 go_wp2
 go_loopw [5] (fun i wr => ∃ k : Nat, k ≤ xs.length ∧ i = .int .i64 k ∧ Below w.heap.size w wr) (fun i _ => xs.length - (intOf i).toNat)
 case atStart => exact ⟨0, Nat.zero_le _, rfl, Below.refl _ _⟩
 case round =>
  obtain ⟨k, hk, rfl, hb⟩ := hrel
  have HB := Lib.hid hb
  clear hb
  by_cases hlt : k < xs.length
  · obtain ⟨b2, o2, c2, cs, hv2, hc2, _, _, hr, hcell⟩ := (HX.out.below BLN.kept HB.out).get k hlt
    simp only [Value.slice.injEq] at hv2
    obtain ⟨rfl, _, rfl⟩ := hv2
    obtain ⟨b3, o3, c3, cs3, hv3, hc3, _, _, hr3, hcell3⟩ := (HY.out.below BLN.kept HB.out).get k hlt
    simp only [Value.slice.injEq] at hv3
    obtain ⟨rfl, _, rfl⟩ := hv3
    have HSM := Lib.hid (HM.out _ (List.getElem_mem hlt))
    obtain ⟨u5, rfl, r5⟩ := hr
    obtain ⟨t5, rfl, s5⟩ := hr3
    have e0 := hcell 0 (by omega)
    have e1 := hcell 1 (by omega)
    have e2 := hcell 2 (by omega)
    have e3 := hcell 3 (by omega)
    have e4 := hcell 4 (by omega)
    have e5 := hcell 5 (by omega)
    have ed0 := hcell3 0 (by omega)
    have ed1 := hcell3 1 (by omega)
    have ed2 := hcell3 2 (by omega)
    have ed3 := hcell3 3 (by omega)
    have ed4 := hcell3 4 (by omega)
    have ed5 := hcell3 5 (by omega)
    have HLT := Lib.hid hlt
    clear hcell hcell3
    generalize xs[k]'hlt = x at *
    simp only [List.getElem?_cons_zero, List.getElem?_cons_succ, Nat.add_zero] at e0 e1 e2 e3 e4 e5 ed0 ed1 ed2 ed3 ed4 ed5
    have R5 := Lib.hid r5
    have S5 := Lib.hid s5
    clear r5 s5
    have HP : Hid (∀ W, Below wr.heap.size wr W → Calls Tryz.prog 73 #[.agg #[.string x.par, .string x.prt, .int .i64 x.qty, .int .i64 x.fr, .int .i64 x.un, u5], .agg #[.string x.par, .string x.prt, .int .i64 x.qty, .int .i64 x.fr, .int .i64 x.un, t5]] W (YesRes W)) := Lib.hid (fun W hW => BL.eq_one x u5 t5 _ _ _ _ W (R5.out.below CnN.kept hW) (S5.out.below CnN.kept hW) HSM.out)
    go_upto_region 6 with fail
    go_region_held3 (fun W' => Hid (Below wr.heap.size wr W') ∧ W'.cell? ⟨b2, o2 + k * 6, none⟩ = some (.string x.par) ∧ W'.cell? ⟨b2, o2 + k * 6 + 1, none⟩ = some (.string x.prt) ∧ W'.cell? ⟨b2, o2 + k * 6 + 2, none⟩ = some (.int .i64 x.qty) ∧ W'.cell? ⟨b2, o2 + k * 6 + 3, none⟩ = some (.int .i64 x.fr) ∧ W'.cell? ⟨b2, o2 + k * 6 + 4, none⟩ = some (.int .i64 x.un) ∧ W'.cell? ⟨b2, o2 + k * 6 + 5, none⟩ = some (u5) ∧ W'.cell? ⟨b3, o3 + k * 6, none⟩ = some (.string x.par) ∧ W'.cell? ⟨b3, o3 + k * 6 + 1, none⟩ = some (.string x.prt) ∧ W'.cell? ⟨b3, o3 + k * 6 + 2, none⟩ = some (.int .i64 x.qty) ∧ W'.cell? ⟨b3, o3 + k * 6 + 3, none⟩ = some (.int .i64 x.fr) ∧ W'.cell? ⟨b3, o3 + k * 6 + 4, none⟩ = some (.int .i64 x.un) ∧ W'.cell? ⟨b3, o3 + k * 6 + 5, none⟩ = some (t5))
     (first | assumption | exact hold12 e0 e1 e2 e3 e4 e5 ed0 ed1 ed2 ed3 ed4 ed5 (hold_call (by assumption) (by assumption)) | exact hold12 e0 e1 e2 e3 e4 e5 ed0 ed1 ed2 ed3 ed4 ed5 (Below.refl _ _).drew)
     (first | (go_at_call 73; refine (HP.out _ (by first | exact (by assumption : Hid (Below wr.heap.size wr _) ∧ _).1.out | exact Below.refl _ _ | exact (Below.refl _ _).drew)).mono ?_; rintro e w' ⟨rfl, hb⟩; have hle := hold_le (by assumption) hb))
    all_goals
     go_wp2_with fail
     go_roundw
     case rel => exact ⟨k + 1, by have := HLT.out; omega, by go_num, HB.out.trans ((by assumption : Hid (Below wr.heap.size wr _) ∧ _).1.out.mono HB.out.size)⟩
     case measure => have := HLT.out; simp [intOf]; omega
  · go_wp2
    go_ret
    exact ⟨rfl, HB.out⟩

set_option maxRecDepth 100000 in
set_option maxHeartbeats 2000000 in
theorem BX.sz (v : Value) (xs : List BL) (left : Int) (lo hi : Nat) (w : World) (h : BX lo hi w v xs) (h0 : 0 ≤ left) (h1 : left ≤ 1048576) (hz : BX.Sz xs) : Calls Tryz.prog 20 #[v, .int .i64 left] w (SzRes (BX.Sm xs) w) := by
 obtain ⟨hm, hs⟩ := hz
 unfold maxLen at hm
 have HX := Lib.hid h
 have HS := Lib.hid hs
 obtain ⟨a, c, rfl⟩ := h.slice
 clear h hs
 by_cases hb : left < xs.length
 · go_enter Tryz.func20, Tryz.ntmps20
   go_wp2_with fail
   go_ret
   exact ⟨-1, rfl, by omega, by omega, by omega, Below.refl _ _⟩
 have HLE : Hid (xs.length ≤ 1048576) := Lib.hid (by omega)
 go_enter Tryz.func20, Tryz.ntmps20
 go_wp2_with fail
 go_loopw [1, 5] (fun t i wr => ∃ (k : Nat) (m : Int), k ≤ xs.length ∧ i = .int .i64 k ∧ t = .int .i64 m ∧ 0 ≤ m ∧ m ≤ 1048576 ∧ Hid (∀ x, x ∈ xs.take k → BL.Sm x) ∧ Hid (Below w.heap.size w wr)) (fun _ i _ => xs.length - (intOf i).toNat)
 case atStart => exact ⟨0, left - xs.length, Nat.zero_le _, rfl, rfl, by omega, by omega, Lib.hid (fun x hx => by simp at hx), Lib.hid (Below.refl _ _)⟩
 case round =>
  obtain ⟨k, m, hk, rfl, rfl, hm0, hm1, HQ, HB⟩ := hrel
  by_cases hlt : k < xs.length
  · obtain ⟨b2, o2, c2, cs, hv2, hc2, _, _, hr, hcell⟩ := (HX.out.below BLN.kept HB.out).get k hlt
    simp only [Value.slice.injEq] at hv2
    obtain ⟨rfl, _, rfl⟩ := hv2
    have HSZ := Lib.hid (HS.out _ (List.getElem_mem hlt))
    have HT : Hid (xs.take (k + 1) = xs.take k ++ [xs[k]'hlt]) := Lib.hid (List.take_succ_eq_append_getElem hlt)
    obtain ⟨u5, rfl, r5⟩ := hr
    have e0 := hcell 0 (by omega)
    have e1 := hcell 1 (by omega)
    have e2 := hcell 2 (by omega)
    have e3 := hcell 3 (by omega)
    have e4 := hcell 4 (by omega)
    have e5 := hcell 5 (by omega)
    clear hcell
    generalize xs[k]'hlt = x at *
    simp only [List.getElem?_cons_zero, List.getElem?_cons_succ, Nat.add_zero] at e0 e1 e2 e3 e4 e5
    have HP := Lib.hid (BL.sz_one x u5 m _ _ wr r5 hm0 hm1 HSZ.out)
    clear r5
    go_wp2_with fail
    refine HP.out.mono ?_
    rintro e w2 ⟨z, rfl, hz0, hz1, hq, hb2⟩
    have HQ2 := Lib.hid hq
    have HB2 := Lib.hid (HB.out.trans (hb2.mono HB.out.size))
    clear hq hb2 HP
    by_cases hn : z < 0
    · go_wp2_with fail
      go_ret
      exact ⟨-1, rfl, by omega, by omega, by omega, HB2.out⟩
    · go_wp2_with fail
      go_roundw
      case rel => exact ⟨k + 1, z, by omega, by go_num, rfl, by omega, by omega, Lib.hid (fun y hy => by
       rw [HT.out] at hy
       rcases List.mem_append.1 hy with hy | hy
       · exact HQ.out y hy
       · obtain rfl := List.mem_singleton.1 hy
         exact HQ2.out (by omega)), HB2⟩
      case measure => simp [intOf]; omega
  · have HQA : Hid (∀ x, x ∈ xs → BL.Sm x) := Lib.hid (by have := HQ.out; rwa [List.take_of_length_le (by omega)] at this)
    go_wp2_with fail
    go_ret
    exact ⟨m, rfl, by omega, by omega, fun _ => ⟨HLE.out, HQA.out⟩, HB.out⟩

section
open Go.ChangeShapes Go.WideShapes Go.ChangeAt Go.Joins
theorem BL.cellsOf : Tryz.prog.cellsOf 102 = 6 := by kernel_rfl
set_option maxRecDepth 100000 in
theorem BL.opened {H : Type} {enc : TypeId × Value → H} {W : World} {n : Nat} {cs : List Value} {x : DataW H × List MemPlace} (h : DataW.trod enc Tryz.prog W 0 (fun _ => true) true n 102 cs = some x) :
 ∃ r : BL, BLN 0 W.heap.size W r cs ∧ BL.Sz r := by
 obtain ⟨xs, k, hk, hxy, hcl, hxl, hf⟩ := DataW.trod_struct Tryz.underlying102 h
 rw [BL.cellsOf] at hcl
 match cs, hcl with
 | [v0, v1, v2, v3, v4, v5], _ =>
  match xs, hxl with
  | [y0, y1, y2, y3, y4, y5], _ =>
   have g0 : DataW.trod enc Tryz.prog W 0 (fun _ => true) true k 9 (([v0, v1, v2, v3, v4, v5].drop 0).take (Tryz.prog.cellsOf 9)) = _ := hf 0 _ rfl
   rw [show Tryz.prog.cellsOf 9 = 1 by kernel_rfl] at g0
   have g1 : DataW.trod enc Tryz.prog W 0 (fun _ => true) true k 9 (([v0, v1, v2, v3, v4, v5].drop 1).take (Tryz.prog.cellsOf 9)) = _ := hf 1 _ rfl
   rw [show Tryz.prog.cellsOf 9 = 1 by kernel_rfl] at g1
   have g2 : DataW.trod enc Tryz.prog W 0 (fun _ => true) true k 3 (([v0, v1, v2, v3, v4, v5].drop 2).take (Tryz.prog.cellsOf 3)) = _ := hf 2 _ rfl
   rw [show Tryz.prog.cellsOf 3 = 1 by kernel_rfl] at g2
   have g3 : DataW.trod enc Tryz.prog W 0 (fun _ => true) true k 3 (([v0, v1, v2, v3, v4, v5].drop 3).take (Tryz.prog.cellsOf 3)) = _ := hf 3 _ rfl
   rw [show Tryz.prog.cellsOf 3 = 1 by kernel_rfl] at g3
   have g4 : DataW.trod enc Tryz.prog W 0 (fun _ => true) true k 3 (([v0, v1, v2, v3, v4, v5].drop 4).take (Tryz.prog.cellsOf 3)) = _ := hf 4 _ rfl
   rw [show Tryz.prog.cellsOf 3 = 1 by kernel_rfl] at g4
   have g5 : DataW.trod enc Tryz.prog W 0 (fun _ => true) true k 100 (([v0, v1, v2, v3, v4, v5].drop 5).take (Tryz.prog.cellsOf 100)) = _ := hf 5 _ rfl
   rw [show Tryz.prog.cellsOf 100 = 1 by kernel_rfl] at g5
   simp at g0 g1 g2 g3 g4 g5
   obtain ⟨s0, e0, _, z0⟩ := DataW.trod_string Tryz.underlying9 g0
   simp at e0
   obtain ⟨s1, e1, _, z1⟩ := DataW.trod_string Tryz.underlying9 g1
   simp at e1
   obtain ⟨s2, e2, _, _⟩ := DataW.trod_int Tryz.underlying3 g2
   simp at e2
   obtain ⟨s3, e3, _, _⟩ := DataW.trod_int Tryz.underlying3 g3
   simp at e3
   obtain ⟨s4, e4, _, _⟩ := DataW.trod_int Tryz.underlying3 g4
   simp at e4
   obtain ⟨s5, e5, z5⟩ := CX.opened g5
   exact ⟨⟨s0, s1, s2, s3, s4, s5⟩, ⟨v5, by rw [e0, e1, e2, e3, e4], e5⟩, ⟨z0, z1, z5⟩⟩
end
section
open Go.ChangeShapes Go.WideShapes Go.ChangeAt Go.Joins
theorem BX.opened {H : Type} {enc : TypeId × Value → H} {W : World} {fuel : Nat} {v : Value} {y : DataW H × List MemPlace} (hf : DataW.trod enc Tryz.prog W 0 (fun _ => true) true fuel 44 [v] = some y) :
 ∃ xs : List BL, BX 0 W.heap.size W v xs ∧ BX.Sz xs :=
 slN_open (Q := BL.Sz) Tryz.underlying44 BL.cellsOf (by decide) (fun _ _ _ h _ => BL.opened h) hf
end
end Go.Proofs.YtmnncinpepeocaaGreat
