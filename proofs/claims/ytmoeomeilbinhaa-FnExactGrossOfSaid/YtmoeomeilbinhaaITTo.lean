/-
  The verifier's own copies of Item.
-/
import Derived.Test.YtmoeomeilbinhaaRows
import Derived.Test.YtmoeomeilbinhaaRecLib
import Derived.Test.YtmoeomeilbinhaaITRec
import Derived.Test.YtmoeomeilbinhaaHold
import Derived.Test.YtmoeomeilbinhaaHoldN
import Derived.WalkKit
import Derived.WalkSpells
import Derived.WalkSmall
import Derived.BigQuiet
import Derived.Deep.QuietTactic
import Derived.Deep.DeepCutAuto
import Derived.Deep.RegionHeld3
import Derived.Laws.OwnMore
import Derived.Lib.Hide
namespace Go.Proofs.Ytmoeomeilbinhaa
open Go.RowKit

theorem IT.info : (Try.prog.info? 25).map (fun i => (i.zero, i.size, i.bytes)) = some (some (.agg #[.string ByteArray.empty, .string ByteArray.empty, .int .i64 0, .int .i64 0, .int .i64 0, .int .i64 0, .int .i64 0, .int .i64 0]), 8, 80) := by kernel_rfl

set_option maxRecDepth 100000 in
set_option maxHeartbeats 1000000 in
theorem IT.to_one (r : IT) (w : World) :
    Calls Try.prog 16 #[IT.val r] w fun e w' => e = .returned (IT.val r) ∧ Below w.heap.size w w' := by
  obtain ⟨code, unt, kind, lead, rule, lsz, safe, scr⟩ := r
  unfold IT.val
  go_enter Try.func16, Try.ntmps16
  go_wp2_with fail
  obtain ⟨hB, hz, r0, r1, r2⟩ := alloc3 w (.cells #[.string code, .string unt, .int .i64 kind, .int .i64 lead, .int .i64 rule, .int .i64 lsz, .int .i64 safe, .int .i64 scr] 30) (.cells #[.string code, .string unt, .int .i64 kind, .int .i64 lead, .int .i64 rule, .int .i64 lsz, .int .i64 safe, .int .i64 scr] 25) (.cells #[.string code, .string unt, .int .i64 kind, .int .i64 lead, .int .i64 rule, .int .i64 lsz, .int .i64 safe, .int .i64 scr] 25)
  exact bodyPost_ret (v := .agg #[.string code, .string unt, .int .i64 kind, .int .i64 lead, .int .i64 rule, .int .i64 lsz, .int .i64 safe, .int .i64 scr]) (results_cell_row Try.results16 _ _ _ _ _ _ _ rfl r1 Try.underlying25 rfl (by kernel_rfl)) rfl ⟨rfl, hB⟩

/-- A copy, the call's own. -/
def IT.Copy (xs : List IT) (w : World) (e : Ending) (w' : World) : Prop := ∃ v, e = .returned v ∧ w'.ownsRow w.heap.size 25 8 v xs.length (IT.cells xs) ∧ Below w.heap.size w w'

set_option maxRecDepth 100000 in
set_option maxHeartbeats 1000000 in
theorem IT.to_all (v : Value) (xs : List IT) (w : World) (h : IT.Is w v xs) (hm : xs.length ≤ 1048576) :
    Calls Try.prog 20 #[v] w (IT.Copy xs w) := by
  obtain ⟨i0, hi, hz0, hz1, hz2⟩ := info_parts IT.info
  have HX := Lib.hid h
  obtain ⟨a, c, rfl⟩ := h.slice
  clear h
  go_enter Try.func20, Try.ntmps20
  go_wp2_with (at_make; refine wpList_make_full _ rfl _ _ 38 rfl w.heap.size 25 i0 (.agg #[.string ByteArray.empty, .string ByteArray.empty, .int .i64 0, .int .i64 0, .int .i64 0, .int .i64 0, .int .i64 0, .int .i64 0]) 8 Try.underlying38 hi hz0 hz1 _ _ _ _ xs.length rfl rfl rfl rfl (by rw [hz2]; omega) (by unfold maxLen; omega) (Nat.le_refl _) ?_)
  intro w0 hown0 hgrow0
  have hb0 : Below w.heap.size w w0 := (Below.refl _ _).grown hgrow0 (Nat.le_refl _) (fun k h => by cases h)
  have hown1 := RowL.start (IT.cells_length xs) hown0
  generalize (madeCells #[.string ByteArray.empty, .string ByteArray.empty, .int .i64 0, .int .i64 0, .int .i64 0, .int .i64 0, .int .i64 0, .int .i64 0] (xs.length * 8)).toList = zz at *
  clear hown0
  go_wp2
  go_loopw [4] (fun i wr => ∃ k : Nat, k ≤ xs.length ∧ i = .int .i64 k ∧ RowL w.heap.size 25 8 (IT.cells xs) zz w.heap.size xs.length xs.length (k * 8) wr ∧ Below w.heap.size w wr) (fun i _ => xs.length - (intOf i).toNat)
  case atStart => exact ⟨0, Nat.zero_le _, rfl, by rw [Nat.zero_mul]; exact hown1, hb0⟩
  case round =>
    obtain ⟨k, hk, rfl, hown, hb⟩ := hrel
    have HO := Lib.hid hown
    clear hown hown1
    by_cases hlt : k < xs.length
    · obtain ⟨b2, o2, c2, hv2, hc2, hcell2⟩ := HX.out.some (by omega)
      simp only [Value.slice.injEq] at hv2
      obtain ⟨rfl, _, rfl⟩ := hv2
      obtain ⟨e1, e2, e3, e4, e5, e6, e7, e8⟩ := (hcell2.below hb).at k hlt
      have HC := Lib.hid (IT.cells_at xs k _ (List.getElem?_eq_getElem hlt))
      generalize xs[k]'hlt = x at *
      have HP := Lib.hid (IT.to_one x wr)
      unfold IT.val at HP
      go_wp2_with fail
      refine HP.out.mono ?_
      rintro e w2 ⟨rfl, hb2⟩
      have HO2 := Lib.hid (HO.out.keep hb2)
      have HB2 := Lib.hid (hb.trans (hb2.mono hb.size))
      clear e1 e2 e3 e4 e5 e6 e7 e8 hb2 HO HP
      obtain ⟨⟨u0, hu0⟩, fz0⟩ := HO2.out.cell (k * 8) (by omega)
      obtain ⟨⟨u1, hu1⟩, fz1⟩ := HO2.out.cell (k * 8 + 1) (by omega)
      obtain ⟨⟨u2, hu2⟩, fz2⟩ := HO2.out.cell (k * 8 + 2) (by omega)
      obtain ⟨⟨u3, hu3⟩, fz3⟩ := HO2.out.cell (k * 8 + 3) (by omega)
      obtain ⟨⟨u4, hu4⟩, fz4⟩ := HO2.out.cell (k * 8 + 4) (by omega)
      obtain ⟨⟨u5, hu5⟩, fz5⟩ := HO2.out.cell (k * 8 + 5) (by omega)
      obtain ⟨⟨u6, hu6⟩, fz6⟩ := HO2.out.cell (k * 8 + 6) (by omega)
      obtain ⟨⟨u7, hu7⟩, fz7⟩ := HO2.out.cell (k * 8 + 7) (by omega)
      have HS := Lib.hid ((((((((HO2.out.set (HC.out.1)).set (HC.out.2.1)).set (HC.out.2.2.1)).set (HC.out.2.2.2.1)).set (HC.out.2.2.2.2.1)).set (HC.out.2.2.2.2.2.1)).set (HC.out.2.2.2.2.2.2.1)).set (HC.out.2.2.2.2.2.2.2))
      have HB3 : Hid (Below w.heap.size w ((((((((w2.setCell ⟨w.heap.size, k * 8, none⟩ (.string x.code)).setCell ⟨w.heap.size, k * 8 + 1, none⟩ (.string x.unt)).setCell ⟨w.heap.size, k * 8 + 2, none⟩ (.int .i64 x.kind)).setCell ⟨w.heap.size, k * 8 + 3, none⟩ (.int .i64 x.lead)).setCell ⟨w.heap.size, k * 8 + 4, none⟩ (.int .i64 x.rule)).setCell ⟨w.heap.size, k * 8 + 5, none⟩ (.int .i64 x.lsz)).setCell ⟨w.heap.size, k * 8 + 6, none⟩ (.int .i64 x.safe)).setCell ⟨w.heap.size, k * 8 + 7, none⟩ (.int .i64 x.scr))) := Lib.hid (((((((((HB2.out.setCell (Nat.le_refl _) _).setCell (Nat.le_refl _) _).setCell (Nat.le_refl _) _).setCell (Nat.le_refl _) _).setCell (Nat.le_refl _) _).setCell (Nat.le_refl _) _).setCell (Nat.le_refl _) _).setCell (Nat.le_refl _) _))
      go_wp2_with fail
      go_roundw
      case rel => exact ⟨k + 1, by omega, by go_num, by rw [show (k + 1) * 8 = k * 8 + 1 + 1 + 1 + 1 + 1 + 1 + 1 + 1 by omega]; exact HS.out, HB3.out⟩
      case measure => simp [intOf]; omega
    · have hke : k = xs.length := by omega
      have HE := Lib.hid (HO.out.done (by rw [hke]))
      clear hke
      go_wp2
      go_ret
      exact ⟨_, rfl, HE.out, hb⟩
end Go.Proofs.Ytmoeomeilbinhaa
