/-
  The verifier's own copies of Step.
-/
import Derived.Test.YtfcgdhedaefonaaRows
import Derived.Test.YtfcgdhedaefonaaRecLib
import Derived.Test.YtfcgdhedaefonaaSTRec
import Derived.Test.YtfcgdhedaefonaaHold
import Derived.Test.YtfcgdhedaefonaaHoldN
import Derived.WalkKit
import Derived.WalkSpells
import Derived.WalkSmall
import Derived.BigQuiet
import Derived.Deep.QuietTactic
import Derived.Deep.DeepCutAuto
import Derived.Deep.RegionHeld3
import Derived.Laws.OwnMore
import Derived.Lib.Hide
namespace Go.Proofs.Ytfcgdhedaefonaa
open Go.RowKit

theorem ST.info : (Try.prog.info? 34).map (fun i => (i.zero, i.size, i.bytes)) = some (some (.agg #[.string ByteArray.empty, .int .i64 0, .int .i64 0]), 3, 32) := by kernel_rfl

set_option maxRecDepth 100000 in
set_option maxHeartbeats 1000000 in
theorem ST.to_one (r : ST) (w : World) :
    Calls Try.prog 23 #[ST.val r] w fun e w' => e = .returned (ST.val r) ∧ Below w.heap.size w w' := by
  obtain ⟨cen, stu, run⟩ := r
  unfold ST.val
  go_enter Try.func23, Try.ntmps23
  go_wp2_with fail
  obtain ⟨hB, hz, r0, r1, r2⟩ := alloc3 w (.cells #[.string cen, .int .i64 stu, .int .i64 run] 35) (.cells #[.string cen, .int .i64 stu, .int .i64 run] 34) (.cells #[.string cen, .int .i64 stu, .int .i64 run] 34)
  exact bodyPost_ret (v := .agg #[.string cen, .int .i64 stu, .int .i64 run]) (results_cell_row Try.results23 _ _ _ _ _ _ _ rfl r1 Try.underlying34 rfl (by kernel_rfl)) rfl ⟨rfl, hB⟩

/-- A copy, the call's own. -/
def ST.Copy (xs : List ST) (w : World) (e : Ending) (w' : World) : Prop := ∃ v, e = .returned v ∧ w'.ownsRow w.heap.size 34 3 v xs.length (ST.cells xs) ∧ Below w.heap.size w w'

set_option maxRecDepth 100000 in
set_option maxHeartbeats 1000000 in
theorem ST.to_all (v : Value) (xs : List ST) (w : World) (h : ST.Is w v xs) (hm : xs.length ≤ 1048576) :
    Calls Try.prog 54 #[v] w (ST.Copy xs w) := by
  obtain ⟨i0, hi, hz0, hz1, hz2⟩ := info_parts ST.info
  have HX := Lib.hid h
  obtain ⟨a, c, rfl⟩ := h.slice
  clear h
  go_enter Try.func54, Try.ntmps54
  go_wp2_with (at_make; refine wpList_make_full _ rfl _ _ 24 rfl w.heap.size 34 i0 (.agg #[.string ByteArray.empty, .int .i64 0, .int .i64 0]) 3 Try.underlying24 hi hz0 hz1 _ _ _ _ xs.length rfl rfl rfl rfl (by rw [hz2]; omega) (by unfold maxLen; omega) (Nat.le_refl _) ?_)
  intro w0 hown0 hgrow0
  have hb0 : Below w.heap.size w w0 := (Below.refl _ _).grown hgrow0 (Nat.le_refl _) (fun k h => by cases h)
  have hown1 := RowL.start (ST.cells_length xs) hown0
  generalize (madeCells #[.string ByteArray.empty, .int .i64 0, .int .i64 0] (xs.length * 3)).toList = zz at *
  clear hown0
  go_wp2
  go_loopw [4] (fun i wr => ∃ k : Nat, k ≤ xs.length ∧ i = .int .i64 k ∧ RowL w.heap.size 34 3 (ST.cells xs) zz w.heap.size xs.length xs.length (k * 3) wr ∧ Below w.heap.size w wr) (fun i _ => xs.length - (intOf i).toNat)
  case atStart => exact ⟨0, Nat.zero_le _, rfl, by rw [Nat.zero_mul]; exact hown1, hb0⟩
  case round =>
    obtain ⟨k, hk, rfl, hown, hb⟩ := hrel
    have HO := Lib.hid hown
    clear hown hown1
    by_cases hlt : k < xs.length
    · obtain ⟨b2, o2, c2, hv2, hc2, hcell2⟩ := HX.out.some (by omega)
      simp only [Value.slice.injEq] at hv2
      obtain ⟨rfl, _, rfl⟩ := hv2
      obtain ⟨e1, e2, e3⟩ := (hcell2.below hb).at k hlt
      have HC := Lib.hid (ST.cells_at xs k _ (List.getElem?_eq_getElem hlt))
      generalize xs[k]'hlt = x at *
      have HP := Lib.hid (ST.to_one x wr)
      unfold ST.val at HP
      go_wp2_with fail
      refine HP.out.mono ?_
      rintro e w2 ⟨rfl, hb2⟩
      have HO2 := Lib.hid (HO.out.keep hb2)
      have HB2 := Lib.hid (hb.trans (hb2.mono hb.size))
      clear e1 e2 e3 hb2 HO HP
      obtain ⟨⟨u0, hu0⟩, fz0⟩ := HO2.out.cell (k * 3) (by omega)
      obtain ⟨⟨u1, hu1⟩, fz1⟩ := HO2.out.cell (k * 3 + 1) (by omega)
      obtain ⟨⟨u2, hu2⟩, fz2⟩ := HO2.out.cell (k * 3 + 2) (by omega)
      have HS := Lib.hid (((HO2.out.set (HC.out.1)).set (HC.out.2.1)).set (HC.out.2.2))
      have HB3 : Hid (Below w.heap.size w (((w2.setCell ⟨w.heap.size, k * 3, none⟩ (.string x.cen)).setCell ⟨w.heap.size, k * 3 + 1, none⟩ (.int .i64 x.stu)).setCell ⟨w.heap.size, k * 3 + 2, none⟩ (.int .i64 x.run))) := Lib.hid ((((HB2.out.setCell (Nat.le_refl _) _).setCell (Nat.le_refl _) _).setCell (Nat.le_refl _) _))
      go_wp2_with fail
      go_roundw
      case rel => exact ⟨k + 1, by omega, by go_num, by rw [show (k + 1) * 3 = k * 3 + 1 + 1 + 1 by omega]; exact HS.out, HB3.out⟩
      case measure => simp [intOf]; omega
    · have hke : k = xs.length := by omega
      have HE := Lib.hid (HO.out.done (by rw [hke]))
      clear hke
      go_wp2
      go_ret
      exact ⟨_, rfl, HE.out, hb⟩
end Go.Proofs.Ytfcgdhedaefonaa
