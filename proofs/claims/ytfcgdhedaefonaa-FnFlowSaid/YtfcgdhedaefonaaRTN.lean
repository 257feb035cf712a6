/-
  Slices of Routing within a span of blocks: copies, equality, size, an argument.
-/
import Derived.Test.YtfcgdhedaefonaaRows
import Derived.Test.YtfcgdhedaefonaaNestSX
import Derived.Test.YtfcgdhedaefonaaNest
import Derived.Test.YtfcgdhedaefonaaNestRes
import Derived.Test.YtfcgdhedaefonaaHold
import Derived.Test.YtfcgdhedaefonaaHoldN
import Derived.Test.YtfcgdhedaefonaaHoldMore
import Derived.Test.YtfcgdhedaefonaaStrQ
import Derived.WalkKit
import Derived.WalkSpells
import Derived.WalkSmall
import Derived.BigQuiet
import Derived.Deep.QuietTactic
import Derived.Deep.DeepCutAuto
import Derived.Deep.RegionHeld3
import Derived.Laws.OwnMore
import Derived.Lib.Hide
namespace Go.Proofs.Ytfcgdhedaefonaa
open Go.RowKit

structure RT where
  item : ByteArray
  steps : List ST
instance : Inhabited RT := ⟨⟨ByteArray.empty, []⟩⟩
/-- Its cells. -/
def RTN : RelN RT := fun lo hi w x cs => ∃ u1, cs = [.string x.item, u1] ∧ SX lo hi w u1 x.steps
theorem RTN.kept : KeptN RTN := ⟨fun _ _ _ _ _ _ hs h => by
  obtain ⟨u1, rfl, h1⟩ := h
  exact ⟨u1, rfl, h1.same StN.kept hs⟩,
  fun _ _ _ _ _ _ _ a b h => by
  obtain ⟨u1, rfl, h1⟩ := h
  exact ⟨u1, rfl, h1.mono StN.kept a b⟩⟩
def RT.Sz (x : RT) : Prop := x.item.size ≤ maxLen ∧ SX.Sz x.steps
def RT.Sm (x : RT) : Prop := SX.Sm x.steps
abbrev RU := SlN 2 RTN
def RU.Sz (xs : List RT) : Prop := xs.length ≤ maxLen ∧ ∀ x, x ∈ xs → RT.Sz x
def RU.Sm (xs : List RT) : Prop := xs.length ≤ 1048576 ∧ ∀ x, x ∈ xs → RT.Sm x

set_option maxRecDepth 100000 in
set_option maxHeartbeats 2000000 in
theorem RT.to_one (x : RT) (u1 : Value) (lo hi : Nat) (w : World) (hhi : hi ≤ w.heap.size) (h1 : SX lo hi w u1 x.steps) (hm : RT.Sm x) :
    Calls Try.prog 27 #[.agg #[.string x.item, u1]] w fun e w' => ∃ v1, e = .returned (.agg #[.string x.item, v1]) ∧ SX w.heap.size w'.heap.size w' v1 x.steps ∧ Below w.heap.size w w' := by
  have HM := Lib.hid hm
  have HH := Lib.hid hhi
  clear hm hhi
  obtain ⟨HB, hz, HA, HR, HO⟩ := alloc3 w (.cells #[.string x.item, u1] 42) (.cells #[.string { data := #[] }, .slice none 0 0] 26) (.cells #[.string x.item, .slice none 0 0] 26)
  have HZ := Lib.hid hz
  clear hz
  go_enter Try.func27, Try.ntmps27
  have r1_0 := Lib.hid (h1.below StN.kept HB)
  clear h1
  go_wp2_with fail
  generalize (((w.alloc (.cells #[.string x.item, u1] 42)).alloc (.cells #[.string { data := #[] }, .slice none 0 0] 26)).alloc (.cells #[.string x.item, .slice none 0 0] 26)) = wA0 at *
  refine (SX.to _ x.steps _ _ _ (Nat.le_trans HH.out HB.size) r1_0.out HM.out).mono ?_
  rintro e w1 ⟨vv1, rfl, ho, hb⟩
  have V1 := Lib.hid ho
  have L1 : Hid (w.heap.size + 1 + 1 < wA0.heap.size) := Lib.hid (lt_of_heap HO)
  obtain ⟨a1, p1, hv1⟩ := ho.slice
  subst hv1
  clear ho
  have HA := blk_below HA hb
  have HR := blk_below HR hb
  have HO := blk_below HO hb
  have HB := HB.trans (hb.mono HB.size)
  have hsz0 := hb.size
  clear hb
  have d0 := cell_of_row _ _ 0 _ _ _ HO
  have f0 := frozen_of_row _ _ 0 _ _ HO
  have d1 := cell_of_row _ _ 1 _ _ _ HO
  have f1 := frozen_of_row _ _ 1 _ _ HO
  have z1_ := HB
  have q0 := cell_of_row _ _ 0 _ _ _ HR
  have y0 := frozen_of_row _ _ 0 _ _ HR
  have q1 := cell_of_row _ _ 1 _ _ _ HR
  have y1 := frozen_of_row _ _ 1 _ _ HR
  go_wp2_with fail
  have HRf : (w1.setCell ⟨w.heap.size + 1 + 1, 1, none⟩ (.slice a1 x.steps.length p1)).heap[w.heap.size + 1]? = some (.cells #[.string { data := #[] }, .slice none 0 0] 26) := (heap_setCell_other _ _ _ _ (by simp)).trans (HR)
  refine bodyPost_ret (v := .agg #[.string x.item, .slice a1 x.steps.length p1]) (results_cell_row Try.results27 _ _ _ _ #[.string x.item, .slice a1 x.steps.length p1] (0, 0) _ rfl (heap_setCell_same _ _ 1 _ _ _ (heap_setCell_same _ _ 0 _ _ _ (HRf))) Try.underlying26 rfl (by kernel_rfl)) rfl ⟨_, rfl, ?_, ?_⟩
  · exact ((((V1.out).same StN.kept (Same.set (Or.inl (by have := L1.out; omega)))).same StN.kept (Same.set (Or.inl (by have := L1.out; omega)))).same StN.kept (Same.set (Or.inl (by have := L1.out; omega)))).mono StN.kept (by have := L1.out; omega) (by simp; try omega)
  · exact (((HB.setCell (by simp; try omega) _).setCell (by simp) _).setCell (by simp) _)

set_option maxRecDepth 100000 in
set_option maxHeartbeats 2000000 in
theorem RT.eq_one (x : RT) (u1 t1 : Value) (lo hi lo' hi' : Nat) (w : World) (h1 : SX lo hi w u1 x.steps) (g1 : SX lo' hi' w t1 x.steps) (hm : RT.Sm x) :
    Calls Try.prog 29 #[.agg #[.string x.item, u1], .agg #[.string x.item, t1]] w (YesRes w) := by
  have HM := Lib.hid hm
  clear hm
  have b0 := str_eq (rfl : x.item = x.item)
  have HB : Below w.heap.size w ((w.alloc (.cells #[.string x.item, u1] 26)).alloc (.cells #[.string x.item, t1] 26)) := ((Below.refl _ _).alloc (Nat.le_refl _) _).alloc (by simp) _
  have HA : ((w.alloc (.cells #[.string x.item, u1] 26)).alloc (.cells #[.string x.item, t1] 26)).heap[w.heap.size]? = some (.cells #[.string x.item, u1] 26) := heap_alloc2_old w _ _
  have HC : ((w.alloc (.cells #[.string x.item, u1] 26)).alloc (.cells #[.string x.item, t1] 26)).heap[w.heap.size + 1]? = some (.cells #[.string x.item, t1] 26) := heap_alloc2_new w _ _
  have r1 := Lib.hid (h1.below StN.kept HB)
  have s1 := Lib.hid (g1.below StN.kept HB)
  clear h1 g1
  go_enter Try.func29, Try.ntmps29
  go_wp2_with fail
  generalize (w.alloc (.cells #[.string x.item, u1] 26)).alloc (.cells #[.string x.item, t1] 26) = wA at *
  refine (SX.eq _ _ x.steps _ _ _ _ _ r1.out s1.out HM.out).mono ?_
  rintro e w1 ⟨rfl, hb⟩
  have HA := blk_below HA hb
  have HC := blk_below HC hb
  have HB := HB.trans (hb.mono HB.size)
  clear hb
  go_wp2_with fail
  go_ret
  exact ⟨rfl, HB⟩

set_option maxRecDepth 100000 in
set_option maxHeartbeats 2000000 in
theorem RT.sz_one (x : RT) (u1 : Value) (left : Int) (lo hi : Nat) (w : World) (h1 : SX lo hi w u1 x.steps) (hl0 : 0 ≤ left) (hl1 : left ≤ 1048576) (hs : RT.Sz x) :
    Calls Try.prog 25 #[.agg #[.string x.item, u1], .int .i64 left] w (SzRes (RT.Sm x) w) := by
  have HS := Lib.hid hs
  clear hs
  have z_item : x.item.size ≤ 9223372036854775807 := by have := HS.out.1; unfold maxLen at this; omega
  have HB : Below w.heap.size w (w.alloc (.cells #[.string x.item, u1] 42)) := (Below.refl _ _).alloc (Nat.le_refl _) _
  have HA : (w.alloc (.cells #[.string x.item, u1] 42)).heap[w.heap.size]? = some (.cells #[.string x.item, u1] 42) := heap_alloc_new w _
  have r1 := Lib.hid (h1.below StN.kept HB)
  clear h1
  by_cases hc0 : left < (x.item.size : Int)
  · go_enter Try.func25, Try.ntmps25
    go_wp2_with fail
    go_ret
    exact ⟨-1, rfl, by omega, by omega, by omega, HB⟩
  go_enter Try.func25, Try.ntmps25
  go_wp2_with fail
  generalize (w.alloc (.cells #[.string x.item, u1] 42)) = wA at *
  refine (SX.sz _ x.steps _ _ _ _ r1.out (by omega) (by omega) HS.out.2).mono ?_
  rintro e w1 ⟨m1, rfl, hl20, hl21, hq, hb⟩
  have Q1 := Lib.hid hq
  have HA := blk_below HA hb
  have HB := HB.trans (hb.mono HB.size)
  clear hb hq
  by_cases hn1 : m1 < 0
  · go_wp2_with fail
    go_ret
    exact ⟨-1, rfl, by omega, by omega, by omega, HB⟩
  go_wp2_with fail
  go_ret
  exact ⟨m1, rfl, by omega, by omega, fun _ => Q1.out (by omega), HB⟩

theorem RU.info : (Try.prog.info? 26).map (fun i => (i.zero, i.size, i.bytes)) = some (some (.agg #[.string ByteArray.empty, .slice none 0 0]), 2, 40) := by kernel_rfl

set_option maxRecDepth 100000 in
set_option maxHeartbeats 2000000 in
theorem RU.to (v : Value) (xs : List RT) (lo hi : Nat) (w : World) (hhi : hi ≤ w.heap.size) (h : RU lo hi w v xs) (hm : RU.Sm xs) : Calls Try.prog 32 #[v] w (CpRes RU xs w) := by
  obtain ⟨i0, hif, hz0, hz1, hz2⟩ := info_parts RU.info
  obtain ⟨hm, hM⟩ := hm
  have HM := Lib.hid hM
  have HX := Lib.hid h
  have HH := Lib.hid hhi
  obtain ⟨a, c, rfl⟩ := h.slice
  clear h hM hhi
  go_enter Try.func32, Try.ntmps32
  go_wp2_with (at_make; refine wpList_make_full _ rfl _ _ 51 rfl w.heap.size 26 i0 (.agg #[.string ByteArray.empty, .slice none 0 0]) 2 Try.underlying51 hif hz0 hz1 _ _ _ _ xs.length rfl rfl rfl rfl (by rw [hz2]; omega) (by unfold maxLen; omega) (Nat.le_refl _) ?_)
  intro w0 hown0 hgrow0
  have hb0 : Below w.heap.size w w0 := (Below.refl _ _).grown hgrow0 (Nat.le_refl _) (fun k h => by cases h)
  have hown1 := PartN.start RTN hown0
  clear hown0 hgrow0
  go_wp2
  go_loopw [4] (fun i wr => ∃ k : Nat, k ≤ xs.length ∧ i = .int .i64 k ∧ PartN 2 RTN 26 w.heap.size xs.length xs k wr ∧ Below w.heap.size w wr) (fun i _ => xs.length - (intOf i).toNat)
  case atStart => exact ⟨0, Nat.zero_le _, rfl, hown1, hb0⟩
  case round =>
    obtain ⟨k, hk, rfl, hown, hb⟩ := hrel
    have HO := Lib.hid hown
    have HB := Lib.hid hb
    clear hown hown1 hb
    by_cases hlt : k < xs.length
    · obtain ⟨b2, o2, c2, cs, hv2, hc2, hb2, hl, hr, hcell⟩ := (HX.out.below RTN.kept HB.out).get k hlt
      simp only [Value.slice.injEq] at hv2
      obtain ⟨rfl, _, rfl⟩ := hv2
      have HSM := Lib.hid (HM.out _ (List.getElem_mem hlt))
      obtain ⟨u1, rfl, r1⟩ := hr
      have e0 := hcell 0 (by omega)
      have e1 := hcell 1 (by omega)
      have HLT := Lib.hid hlt
      obtain ⟨x, hx⟩ : ∃ x, xs[k]'hlt = x := ⟨_, rfl⟩
      have HXK : Hid (∃ h : k < xs.length, xs[k]'h = x) := Lib.hid ⟨hlt, hx⟩
      rw [hx] at r1 e0 HSM
      simp only [List.getElem?_cons_zero, List.getElem?_cons_succ, Nat.add_zero] at e0 e1
      clear hcell hx hc2 hb2
      have R1 := Lib.hid r1
      clear r1
      have HP := Lib.hid (RT.to_one x u1 _ _ wr (Nat.le_trans HH.out HB.out.size) R1.out HSM.out)
      go_wp2_with fail
      refine HP.out.mono ?_
      rintro e w2 ⟨v1, rfl, s1, hb2⟩
      have hg := HO.out.lt
      have HN0 : Hid (NextN 2 RTN 26 w.heap.size xs.length xs k [.string x.item, v1] 0 w2) := Lib.hid (by
        obtain ⟨hlt2, hx2⟩ := HXK.out
        refine (HO.out.keep RTN.kept hb2).next HLT.out rfl hlt2 ?_
        rw [hx2]
        exact ⟨v1, rfl, s1.mono StN.kept (by omega) (Nat.le_refl _)⟩)
      obtain ⟨sa1, sc1, hs1⟩ := s1.slice
      subst hs1
      obtain ⟨⟨o_0, ho_0⟩, fo_0⟩ := HN0.out.cell (k * 2) (by have := HLT.out; omega)
      obtain ⟨⟨o_1, ho_1⟩, fo_1⟩ := HN0.out.cell (k * 2 + 1) (by have := HLT.out; omega)
      have HN1 : Hid (PartN 2 RTN 26 w.heap.size xs.length xs (k + 1) ((w2.setCell ⟨w.heap.size, k * 2, none⟩ (.string x.item)).setCell ⟨w.heap.size, k * 2 + 1, none⟩ (.slice sa1 x.steps.length sc1))) := Lib.hid (by
        have h9 := (((HN0.out).set RTN.kept (j := 0) rfl).set RTN.kept (j := 1) rfl).all rfl
        exact h9)
      have HB1 : Hid (Below w.heap.size w ((w2.setCell ⟨w.heap.size, k * 2, none⟩ (.string x.item)).setCell ⟨w.heap.size, k * 2 + 1, none⟩ (.slice sa1 x.steps.length sc1))) := Lib.hid (((HB.out.trans (hb2.mono HB.out.size)).setCell (Nat.le_refl _) _).setCell (Nat.le_refl _) _)
      clear e0 e1 HP HN0 hg hb2 HO s1
      go_wp2_with fail
      go_roundw
      case rel => exact ⟨k + 1, by omega, by go_num, HN1.out, HB1.out⟩
      case measure => simp [intOf]; omega
    · have HE := Lib.hid (HO.out.done RTN.kept (by omega))
      go_wp2
      go_ret
      exact ⟨_, rfl, HE.out, HB.out⟩

set_option maxRecDepth 100000 in
set_option maxHeartbeats 2000000 in
theorem RU.eq (v v' : Value) (xs : List RT) (lo hi lo' hi' : Nat) (w : World) (h : RU lo hi w v xs) (h' : RU lo' hi' w v' xs) (hm : RU.Sm xs) : Calls Try.prog 34 #[v, v'] w (YesRes w) := by
  obtain ⟨hm, hM⟩ := hm
  have HM := Lib.hid hM
  have HX := Lib.hid h
  have HY := Lib.hid h'
  obtain ⟨a, c, rfl⟩ := h.slice
  obtain ⟨a', c', rfl⟩ := h'.slice
  have hnn : ((xs.length : Int) != (xs.length : Int)) = false := by simp
  clear h h' hM
  go_enter Try.func34, Try.ntmps34
  go_wp2
  go_loopw [5] (fun i wr => ∃ k : Nat, k ≤ xs.length ∧ i = .int .i64 k ∧ Below w.heap.size w wr) (fun i _ => xs.length - (intOf i).toNat)
  case atStart => exact ⟨0, Nat.zero_le _, rfl, Below.refl _ _⟩
  case round =>
    obtain ⟨k, hk, rfl, hb⟩ := hrel
    have HB := Lib.hid hb
    clear hb
    by_cases hlt : k < xs.length
    · obtain ⟨b2, o2, c2, cs, hv2, hc2, _, _, hr, hcell⟩ := (HX.out.below RTN.kept HB.out).get k hlt
      simp only [Value.slice.injEq] at hv2
      obtain ⟨rfl, _, rfl⟩ := hv2
      obtain ⟨b3, o3, c3, cs3, hv3, hc3, _, _, hr3, hcell3⟩ := (HY.out.below RTN.kept HB.out).get k hlt
      simp only [Value.slice.injEq] at hv3
      obtain ⟨rfl, _, rfl⟩ := hv3
      have HSM := Lib.hid (HM.out _ (List.getElem_mem hlt))
      obtain ⟨u1, rfl, r1⟩ := hr
      obtain ⟨t1, rfl, s1⟩ := hr3
      have e0 := hcell 0 (by omega)
      have e1 := hcell 1 (by omega)
      have ed0 := hcell3 0 (by omega)
      have ed1 := hcell3 1 (by omega)
      have HLT := Lib.hid hlt
      clear hcell hcell3
      generalize xs[k]'hlt = x at *
      simp only [List.getElem?_cons_zero, List.getElem?_cons_succ, Nat.add_zero] at e0 e1 ed0 ed1
      have R1 := Lib.hid r1
      have S1 := Lib.hid s1
      clear r1 s1
      have HP : Hid (∀ W, Below wr.heap.size wr W → Calls Try.prog 29 #[.agg #[.string x.item, u1], .agg #[.string x.item, t1]] W (YesRes W)) := Lib.hid (fun W hW => RT.eq_one x u1 t1 _ _ _ _ W (R1.out.below StN.kept hW) (S1.out.below StN.kept hW) HSM.out)
      go_upto_region 6 with fail
      go_region_held3 (fun W' => Hid (Below wr.heap.size wr W') ∧ W'.cell? ⟨b2, o2 + k * 2, none⟩ = some (.string x.item) ∧ W'.cell? ⟨b2, o2 + k * 2 + 1, none⟩ = some (u1) ∧ W'.cell? ⟨b3, o3 + k * 2, none⟩ = some (.string x.item) ∧ W'.cell? ⟨b3, o3 + k * 2 + 1, none⟩ = some (t1))
        (first | assumption | exact hold4 e0 e1 ed0 ed1 (hold_call (by assumption) (by assumption)) | exact hold4 e0 e1 ed0 ed1 (Below.refl _ _).drew)
        (first | (go_at_call 29; refine (HP.out _ (by first | exact (by assumption : Hid (Below wr.heap.size wr _) ∧ _).1.out | exact Below.refl _ _ | exact (Below.refl _ _).drew)).mono ?_; rintro e w' ⟨rfl, hb⟩; have hle := hold_le (by assumption) hb))
      all_goals
        go_wp2_with fail
        go_roundw
        case rel => exact ⟨k + 1, by have := HLT.out; omega, by go_num, HB.out.trans ((by assumption : Hid (Below wr.heap.size wr _) ∧ _).1.out.mono HB.out.size)⟩
        case measure => have := HLT.out; simp [intOf]; omega
    · go_wp2
      go_ret
      exact ⟨rfl, HB.out⟩

set_option maxRecDepth 100000 in
set_option maxHeartbeats 2000000 in
theorem RU.sz (v : Value) (xs : List RT) (left : Int) (lo hi : Nat) (w : World) (h : RU lo hi w v xs) (h0 : 0 ≤ left) (h1 : left ≤ 1048576) (hz : RU.Sz xs) : Calls Try.prog 30 #[v, .int .i64 left] w (SzRes (RU.Sm xs) w) := by
  obtain ⟨hm, hs⟩ := hz
  unfold maxLen at hm
  have HX := Lib.hid h
  have HS := Lib.hid hs
  obtain ⟨a, c, rfl⟩ := h.slice
  clear h hs
  by_cases hb : left < xs.length
  · go_enter Try.func30, Try.ntmps30
    go_wp2_with fail
    go_ret
    exact ⟨-1, rfl, by omega, by omega, by omega, Below.refl _ _⟩
  have HLE : Hid (xs.length ≤ 1048576) := Lib.hid (by omega)
  go_enter Try.func30, Try.ntmps30
  go_wp2_with fail
  go_loopw [1, 5] (fun t i wr => ∃ (k : Nat) (m : Int), k ≤ xs.length ∧ i = .int .i64 k ∧ t = .int .i64 m ∧ 0 ≤ m ∧ m ≤ 1048576 ∧ Hid (∀ x, x ∈ xs.take k → RT.Sm x) ∧ Hid (Below w.heap.size w wr)) (fun _ i _ => xs.length - (intOf i).toNat)
  case atStart => exact ⟨0, left - xs.length, Nat.zero_le _, rfl, rfl, by omega, by omega, Lib.hid (fun x hx => by simp at hx), Lib.hid (Below.refl _ _)⟩
  case round =>
    obtain ⟨k, m, hk, rfl, rfl, hm0, hm1, HQ, HB⟩ := hrel
    by_cases hlt : k < xs.length
    · obtain ⟨b2, o2, c2, cs, hv2, hc2, _, _, hr, hcell⟩ := (HX.out.below RTN.kept HB.out).get k hlt
      simp only [Value.slice.injEq] at hv2
      obtain ⟨rfl, _, rfl⟩ := hv2
      have HSZ := Lib.hid (HS.out _ (List.getElem_mem hlt))
      have HT : Hid (xs.take (k + 1) = xs.take k ++ [xs[k]'hlt]) := Lib.hid (List.take_succ_eq_append_getElem hlt)
      obtain ⟨u1, rfl, r1⟩ := hr
      have e0 := hcell 0 (by omega)
      have e1 := hcell 1 (by omega)
      clear hcell
      generalize xs[k]'hlt = x at *
      simp only [List.getElem?_cons_zero, List.getElem?_cons_succ, Nat.add_zero] at e0 e1
      have HP := Lib.hid (RT.sz_one x u1 m _ _ wr r1 hm0 hm1 HSZ.out)
      clear r1
      go_wp2_with fail
      refine HP.out.mono ?_
      rintro e w2 ⟨z, rfl, hz0, hz1, hq, hb2⟩
      have HQ2 := Lib.hid hq
      have HB2 := Lib.hid (HB.out.trans (hb2.mono HB.out.size))
      clear hq hb2 HP
      by_cases hn : z < 0
      · go_wp2_with fail
        go_ret
        exact ⟨-1, rfl, by omega, by omega, by omega, HB2.out⟩
      · go_wp2_with fail
        go_roundw
        case rel => exact ⟨k + 1, z, by omega, by go_num, rfl, by omega, by omega, Lib.hid (fun y hy => by
          rw [HT.out] at hy
          rcases List.mem_append.1 hy with hy | hy
          · exact HQ.out y hy
          · obtain rfl := List.mem_singleton.1 hy
            exact HQ2.out (by omega)), HB2⟩
        case measure => simp [intOf]; omega
    · have HQA : Hid (∀ x, x ∈ xs → RT.Sm x) := Lib.hid (by have := HQ.out; rwa [List.take_of_length_le (by omega)] at this)
      go_wp2_with fail
      go_ret
      exact ⟨m, rfl, by omega, by omega, fun _ => ⟨HLE.out, HQA.out⟩, HB.out⟩

section
open Go.ChangeShapes Go.WideShapes Go.ChangeAt Go.Joins
theorem RT.cellsOf : Try.prog.cellsOf 42 = 2 := by kernel_rfl
set_option maxRecDepth 100000 in
theorem RT.opened {H : Type} {enc : TypeId × Value → H} {W : World} {n : Nat} {cs : List Value} {x : DataW H × List MemPlace} (h : DataW.trod enc Try.prog W 0 (fun _ => true) true n 42 cs = some x) :
    ∃ r : RT, RTN 0 W.heap.size W r cs ∧ RT.Sz r := by
  obtain ⟨xs, k, hk, hxy, hcl, hxl, hf⟩ := DataW.trod_struct Try.underlying42 h
  rw [RT.cellsOf] at hcl
  match cs, hcl with
  | [v0, v1], _ =>
    match xs, hxl with
    | [y0, y1], _ =>
      have g0 : DataW.trod enc Try.prog W 0 (fun _ => true) true k 9 (([v0, v1].drop 0).take (Try.prog.cellsOf 9)) = _ := hf 0 _ rfl
      rw [show Try.prog.cellsOf 9 = 1 by kernel_rfl] at g0
      have g1 : DataW.trod enc Try.prog W 0 (fun _ => true) true k 40 (([v0, v1].drop 1).take (Try.prog.cellsOf 40)) = _ := hf 1 _ rfl
      rw [show Try.prog.cellsOf 40 = 1 by kernel_rfl] at g1
      simp at g0 g1
      obtain ⟨s0, e0, _, z0⟩ := DataW.trod_string Try.underlying9 g0
      simp at e0
      obtain ⟨s1, e1, z1⟩ := SX.opened g1
      exact ⟨⟨s0, s1⟩, ⟨v1, by rw [e0], e1⟩, ⟨z0, z1⟩⟩
end
section
open Go.ChangeShapes Go.WideShapes Go.ChangeAt Go.Joins
theorem RU.opened {H : Type} {enc : TypeId × Value → H} {W : World} {fuel : Nat} {v : Value} {y : DataW H × List MemPlace} (hf : DataW.trod enc Try.prog W 0 (fun _ => true) true fuel 48 [v] = some y) :
    ∃ xs : List RT, RU 0 W.heap.size W v xs ∧ RU.Sz xs :=
  slN_open (Q := RT.Sz) Try.underlying48 RT.cellsOf (by decide) (fun _ _ _ h _ => RT.opened h) hf
end
end Go.Proofs.Ytfcgdhedaefonaa
