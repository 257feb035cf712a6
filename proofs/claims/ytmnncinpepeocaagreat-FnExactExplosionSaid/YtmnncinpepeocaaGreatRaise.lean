/-
 The program's raisedLevels: the least labelling, found by raising one at a time.
-/
import Derived.Test.YtmnncinpepeocaaGreatLevImpl
import Derived.WalkKit
import Derived.WalkSpells
import Derived.WalkSmall
import Derived.BigQuiet
import Derived.OneCell
import Derived.Deep.QuietTactic
import Derived.Deep.DeepCutAuto
import Derived.Deep.RegionHeld3
import Derived.Lib.Hide
namespace Go.Proofs.YtmnncinpepeocaaGreat
open Go.RowKit

/-- The sum of the numbers in the first n cells of a block. -/
def sumW (w : World) (g n : Nat) : Nat := ((List.range n).map (fun i => (intOf ((w.cell? ⟨g, i, none⟩).getD (.bool false))).toNat)).sum
theorem sumW_row {w : World} {base e g n c : Nat} {vs : List Nat} (h : w.ownsRow base e 1 (.slice (some ⟨g, 0, none⟩) n c) n (cellsLv vs)) (hl : vs.length = n) : sumW w g n = vs.sum := by
 unfold sumW
 congr 1
 refine List.ext_getElem (by simp [hl]) (fun i h1 h2 => ?_)
 have hi : i < n := by simpa using h1
 simp only [List.getElem_map, List.getElem_range]
 rw [h.cellAt i (by omega), cellsLv_get (by omega), lv_get h2]
 simp [intOf]
theorem cell_set_same {w : World} {g i : Nat} {u x : Value} (h : w.cell? ⟨g, i, none⟩ = some u) : (w.setCell ⟨g, i, none⟩ x).cell? ⟨g, i, none⟩ = some x := World.cell?_setCell_same _ _ _ h
/-- What raisedLevels gives. -/
def RaiseRes (n : Nat) (ps : List Lk) (w : World) (e : Ending) (w' : World) : Prop :=
 ∃ (v' : Value) (vs : List Nat) (y : Bool), e = .returned (.tuple #[v', .bool y]) ∧ Hid ((y = true ∧ LevOk n ps vs) ∨ (y = false ∧ (¬∃ u, Sol ps u) ∧ vs = [])) ∧ Hid (w'.ownsRow w.heap.size 3 1 v' vs.length (cellsLv vs)) ∧ Hid (Below w.heap.size w w')

set_option maxRecDepth 100000 in
set_option maxHeartbeats 2000000 in
theorem im_raised (v : Value) (n : Nat) (ps : List Lk) (base : Nat) (w : World) (h : w.ownsRow base 173 2 v ps.length (cellsK ps)) (hn : n ≤ 12) (hp : ps.length ≤ 24) (hin : Inb n ps) :
 Calls Tryz.prog 124 #[.int .i64 (n : Int), v] w (RaiseRes n ps w) := by
 obtain ⟨i0, hif, hz0, hz1, hz2⟩ := info_parts infoN
 have HL := Lib.hid h
 have HIN := Lib.hid hin
 have hwn : IntKind.i64.wrap (n : Int) = (n : Int) := (IntKind.wrap_i64 _).trans (by omega)
 obtain ⟨a, c, rfl⟩ := own_slice h
 clear h hin
 go_enter Tryz.func124, Tryz.ntmps124
 go_wp2
 go_step3
 go_wp2_with (at_make; refine wpList_make_full _ rfl _ _ 37 rfl w.heap.size 3 i0 (.int .i64 0) 1 Tryz.underlying37 hif hz0 hz1 _ _ _ _ n rfl rfl rfl rfl (by rw [hz2]; omega) (by unfold maxLen; omega) (Nat.le_refl _) ?_)
 intro w0 hown0 hgrow0
 have hb0 := Lib.hid ((Below.refl _ _).grown hgrow0 (Nat.le_refl _) (fun k h => by cases h))
 have HO0 : Hid (w0.ownsRow w.heap.size 3 1 (.slice (some ⟨w.heap.size, 0, none⟩) n n) n (cellsLv (List.replicate n 0))) := Lib.hid (by
  have h := hown0
  rw [← cellsLv_zeros]
  simpa [toList_madeCells_one, Value.cells] using h)
 clear hown0 hgrow0
 go_wp2
 go_step3
 go_wp2
 go_loopw [13] (fun _ wr => ∃ (vs : List Nat), Hid (PState n ps vs) ∧ Hid (wr.ownsRow w.heap.size 3 1 (.slice (some ⟨w.heap.size, 0, none⟩) n n) n (cellsLv vs)) ∧ Hid (Below w.heap.size w wr)) (fun _ wr => n * n + 1 - sumW wr w.heap.size n)
 case atStart => exact ⟨_, Lib.hid (PState.start n ps), HO0, hb0⟩
 case round =>
  clear HO0 hb0
  obtain ⟨vs, HP, HO, HB⟩ := hrel
  have HSM := Lib.hid (sumW_row HO.out HP.out.1)
  go_wp2_with fail
  go_loopw [13] (fun i wr => ∃ (k : Nat), k ≤ ps.length ∧ i = .int .i64 k ∧ Hid (DoneTo k ps vs) ∧ Hid (wr.ownsRow w.heap.size 3 1 (.slice (some ⟨w.heap.size, 0, none⟩) n n) n (cellsLv vs)) ∧ Hid (Below w.heap.size w wr)) (fun i _ => ps.length - (intOf i).toNat)
  case atStart => exact ⟨0, Nat.zero_le _, rfl, Lib.hid (DoneTo.zero ps vs), HO, HB⟩
  case round =>
   clear HO HB
   obtain ⟨k, hk, rfl, HD, HO, HB⟩ := hrel
   by_cases hlt : k < ps.length
   rotate_left
   · have HLV := Lib.hid (HP.out.done HD.out (by omega))
     have hvl := HP.out.1
     have HO2 : Hid (wr.ownsRow w.heap.size 3 1 (.slice (some ⟨w.heap.size, 0, none⟩) n n) vs.length (cellsLv vs)) := Lib.hid (by rw [hvl]; exact HO.out)
     clear hvl
     go_wp2_with fail
     go_ret2
     exact ⟨_, vs, true, rfl, Lib.hid (Or.inl ⟨rfl, HLV.out⟩), HO2, HB⟩
   have HLT := Lib.hid hlt
   obtain ⟨g, cap, hv, hg⟩ := own_read HL.out (by omega)
   simp only [Value.slice.injEq] at hv
   obtain ⟨rfl, _, rfl⟩ := hv
   have hkey := cellsK_get ps k hlt
   have e0 := ((HB.out.cell (p := ⟨g, k * 2, none⟩) hg).trans (HL.out.cellAt (k * 2) (by omega))).trans hkey.1
   have e1 := ((HB.out.cell (p := ⟨g, k * 2 + 1, none⟩) hg).trans (HL.out.cellAt (k * 2 + 1) (by omega))).trans hkey.2
   have hi1 := (HIN.out _ (List.getElem_mem hlt)).1
   have hi2 := (HIN.out _ (List.getElem_mem hlt)).2
   have HKD := Lib.hid (fun hd => HD.out.succ hlt hd)
   have HMEM := Lib.hid (List.getElem_mem hlt)
   have hvl := HP.out.1
   clear hkey hg
   generalize hpp : ps[k]'hlt = pp at *
   obtain ⟨pa, pb⟩ := pp
   simp only at e0 e1 hi1 hi2 HKD
   clear hpp
   have HPA := Lib.hid (HP.out.2.2 pa hi1)
   have HPB := Lib.hid (HP.out.2.2 pb hi2)
   obtain ⟨W1, hW1⟩ : ∃ W, wr.alloc (.cells #[.int .i64 (pa : Int), .int .i64 (pb : Int)] 173) = W := ⟨_, rfl⟩
   have HW1 := Lib.hid hW1
   have HA : W1.heap[wr.heap.size]? = some (.cells #[.int .i64 (pa : Int), .int .i64 (pb : Int)] 173) := by rw [← hW1]; exact heap_alloc_new _ _
   have hBA : Below wr.heap.size wr W1 := by rw [← hW1]; exact (Below.refl _ _).alloc (Nat.le_refl _) _
   have HBW := Lib.hid (HB.out.trans (hBA.mono HB.out.size))
   have HO1 := Lib.hid (own_keepL HO.out hBA)
   have hwr := (HO.out.lt w.heap.size rfl).2
   have q0 := cell_of_row _ _ 0 _ _ _ HA
   have q1 := cell_of_row _ _ 1 _ _ _ HA
   have qa := (HO1.out.cellAt pa (by omega)).trans (cellsLv_get (v := vs) (by omega))
   have qb := (HO1.out.cellAt pb (by omega)).trans (cellsLv_get (v := vs) (by omega))
   have fb := HO1.out.frozenAt pb
   have hp0 : (0 : Int) ≤ (pa : Int) := by omega
   have hp1 : (pa : Int) < (n : Int) := by omega
   have hp2 : (0 : Int) ≤ (pb : Int) := by omega
   have hp3 : (pb : Int) < (n : Int) := by omega
   clear hW1 hBA HO
   by_cases hd : lv vs pa + 1 ≤ lv vs pb
   · have HN := Lib.hid (HKD.out hd)
     have hdd : decide (lv vs pa < lv vs pb) = true := decide_eq_true (by omega)
     clear hd HPA HPB
     go_upto_region 5 with fail
     rw [HW1.out]
     clear HW1 HA e0 e1
     generalize lv vs pa = xa at *
     generalize lv vs pb = xb at *
     go_region
     all_goals
      go_wp2_with fail
      go_roundw
      case rel => exact ⟨k + 1, by have := HLT.out; omega, by go_num, HN, HO1, Lib.hid HBW.out.drew⟩
      case measure => have := HLT.out; simp [intOf]; omega
   · have hdd : decide (lv vs pa < lv vs pb) = false := decide_eq_false (by omega)
     have hwa : IntKind.i64.wrap (((lv vs pa : Nat) : Int) + 1) = ((lv vs pa : Nat) : Int) + 1 := (IntKind.wrap_i64 _).trans (by have := HPA.out; omega)
     have hcast : ((lv vs pa + 1 : Nat) : Int) = ((lv vs pa : Nat) : Int) + 1 := by omega
     have HST : Hid (∀ W : World, W.ownsRow w.heap.size 3 1 (.slice (some ⟨w.heap.size, 0, none⟩) n n) n (cellsLv vs) → (W.setCell ⟨w.heap.size, pb, none⟩ (.int .i64 (((lv vs pa : Nat) : Int) + 1))).ownsRow w.heap.size 3 1 (.slice (some ⟨w.heap.size, 0, none⟩) n n) n (cellsLv (vs.set pb (lv vs pa + 1)))) := Lib.hid (fun W hW => by
      have h := (hW.stored pb (.int .i64 ((lv vs pa + 1 : Nat) : Int))).1
      rw [cellsLv_set, hcast] at h
      exact h)
     have HNE : Hid (lv vs pa + 1 = n → ¬∃ u, Sol ps u) := Lib.hid (fun e => HP.out.none HIN.out HMEM.out e)
     have HPN : Hid (lv vs pa + 1 ≠ n → PState n ps (vs.set pb (lv vs pa + 1))) := Lib.hid (fun e => HP.out.raise HMEM.out hi2 e hi1)
     have HLS : Hid (lv vs pa + 1 ≠ n → n * n + 1 - (vs.set pb (lv vs pa + 1)).sum < n * n + 1 - vs.sum) := Lib.hid (fun e => HP.out.less (p := (pa, pb)) hi2 hd (HPN.out e))
     clear hd HPB HKD hcast
     go_upto_region 5 with fail
     rw [HW1.out]
     clear HW1 HA e0 e1
     generalize hv2 : vs.set pb (lv vs pa + 1) = vs2 at *
     clear hv2
     generalize lv vs pa = xa at *
     generalize lv vs pb = xb at *
     go_region
     all_goals
      have q0' : W1.drew.cell? ⟨wr.heap.size, 0, none⟩ = some (.int .i64 (pa : Int)) := q0
      have q1' : W1.drew.cell? ⟨wr.heap.size, 1, none⟩ = some (.int .i64 (pb : Int)) := q1
      have qa' : W1.drew.cell? ⟨w.heap.size, pa, none⟩ = some (.int .i64 (xa : Int)) := qa
      have qb' : W1.drew.cell? ⟨w.heap.size, pb, none⟩ = some (.int .i64 (xb : Int)) := qb
      have fb' : W1.drew.frozen? ⟨w.heap.size, pb, none⟩ = false := fb
      have HO2 : Hid (W1.drew.ownsRow w.heap.size 3 1 (.slice (some ⟨w.heap.size, 0, none⟩) n n) n (cellsLv vs)) := HO1
      have HB2 : Hid (Below w.heap.size w W1.drew) := Lib.hid HBW.out.drew
      go_upto_region 6 with fail
      clear HO1 HBW qa qb q0 q1 fb
      generalize hW2 : W1.drew = W2 at *
      clear hW2
      have HO3 := Lib.hid (HST.out W2 HO2.out)
      have hvl2 : vs2.length = n := by have h := HO3.out.1; rw [cellsLv_length] at h; omega
      have HB3 := Lib.hid (HB2.out.setCell (p := ⟨w.heap.size, pb, none⟩) (Nat.le_refl _) (.int .i64 ((xa : Int) + 1)))
      have q1s : (W2.setCell ⟨w.heap.size, pb, none⟩ (.int .i64 ((xa : Int) + 1))).cell? ⟨wr.heap.size, 1, none⟩ = some (.int .i64 (pb : Int)) := (cell_same (heap_setCell_other _ _ _ _ (by simp; omega))).trans q1'
      have qbs : (W2.setCell ⟨w.heap.size, pb, none⟩ (.int .i64 ((xa : Int) + 1))).cell? ⟨w.heap.size, pb, none⟩ = some (.int .i64 ((xa : Int) + 1)) := cell_set_same qb'
      go_region
      all_goals
       go_upto_region 7 with fail
       generalize hW3 : W2.setCell ⟨w.heap.size, pb, none⟩ (.int .i64 ((xa : Int) + 1)) = W3 at *
       have q1t : W3.drew.cell? ⟨wr.heap.size, 1, none⟩ = some (.int .i64 (pb : Int)) := q1s
       have qbt : W3.drew.cell? ⟨w.heap.size, pb, none⟩ = some (.int .i64 ((xa : Int) + 1)) := qbs
       have HO4 : Hid (W3.drew.ownsRow w.heap.size 3 1 (.slice (some ⟨w.heap.size, 0, none⟩) n n) n (cellsLv vs2)) := HO3
       have HB4 : Hid (Below w.heap.size w W3.drew) := Lib.hid HB3.out.drew
       clear HO3 HB3 q1s qbs hW3
       by_cases hen : xa + 1 = n
       · have HNS := Lib.hid (HNE.out hen)
         have hq : (((xa : Int) + 1) == (n : Int)) = true := beq_iff_eq.2 (by omega)
         clear hen
         go_wp2_with fail
         go_ret2
         exact ⟨_, [], false, rfl, Lib.hid (Or.inr ⟨rfl, HNS.out, rfl⟩), Lib.hid ⟨rfl, Or.inl ⟨rfl, rfl⟩⟩, HB4⟩
       · have HPN2 := Lib.hid (HPN.out hen)
         have HLS2 := Lib.hid (HLS.out hen)
         have HS4 := Lib.hid (sumW_row HO4.out hvl2)
         have hq : (((xa : Int) + 1) == (n : Int)) = false := beq_eq_false_iff_ne.2 (by omega)
         clear hen
         go_wp2_with fail
         go_roundw
         case rel => exact ⟨vs2, HPN2, HO4, HB4⟩
         case measure => rw [HS4.out, HSM.out]; exact HLS2.out
end Go.Proofs.YtmnncinpepeocaaGreat
