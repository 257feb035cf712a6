/-
  The verifier's own helpers on rules: a copy, equal ones are found equal, how large they are.
-/
import Derived.Test.YtaomjggamamckaaRows
import Derived.Test.YtaomjggamamckaaRules
import Derived.Test.YtaomjggamamckaaUnitRow
import Derived.Test.YtaomjggamamckaaExcsRow
import Derived.Test.YtaomjggamamckaaRatM
import Derived.Test.YtaomjggamamckaaFind
import Derived.Test.YtaomjggamamckaaHold
import Derived.Test.YtaomjggamamckaaHoldN
import Derived.WalkKit
import Derived.WalkSpells
import Derived.WalkSmall
import Derived.BigQuiet
import Derived.Deep.QuietTactic
import Derived.Deep.RegionHeld3
import Derived.Lib.Hide
namespace Go.Proofs.Ytaomjggamamckaa
open Go.RowKit

theorem infoU : (Try.prog.info? 79).map (fun i => (i.zero, i.size, i.bytes)) = some (some (.agg #[.string ByteArray.empty, .string ByteArray.empty, .int .i64 0, .int .i64 0]), 4, 48) := by kernel_rfl

set_option maxRecDepth 100000 in
set_option maxHeartbeats 1000000 in
theorem to_unit (r : UR) (w : World) :
    Calls Try.prog 51 #[urV r] w fun e w' => e = .returned (urV r) ∧ Below w.heap.size w w' := by
  obtain ⟨src, dst, num, den⟩ := r
  unfold urV
  go_enter Try.func51, Try.ntmps51
  go_wp2_with fail
  obtain ⟨hB, hz, r0, r1, r2⟩ := alloc3 w (.cells #[.string src, .string dst, .int .i64 num, .int .i64 den] 76) (.cells #[.string { data := #[] }, .string { data := #[] }, .int .i64 0, .int .i64 0] 79) (.cells #[.string src, .string dst, .int .i64 0, .int .i64 0] 79)
  generalize (((w.alloc (.cells #[.string src, .string dst, .int .i64 num, .int .i64 den] 76)).alloc (.cells #[.string { data := #[] }, .string { data := #[] }, .int .i64 0, .int .i64 0] 79)).alloc (.cells #[.string src, .string dst, .int .i64 0, .int .i64 0] 79)) = w3 at *
  refine (rat.to_ratio num den _).mono ?_
  rintro e w4 ⟨rfl, hb⟩
  have R1 := blk_below r1 hb
  have R2 := blk_below r2 hb
  have HB4 := Lib.hid (hB.trans (hb.mono hB.size))
  have hsz4 : w.heap.size + 1 + 1 + 1 ≤ w4.heap.size := by have := hb.size; omega
  clear r0 r1 r2 hb hB hz
  have c0 := cell_of_row _ _ 0 _ _ _ R2
  have c1 := cell_of_row _ _ 1 _ _ _ R2
  have c2 := cell_of_row _ _ 2 _ _ _ R2
  have c3 := cell_of_row _ _ 3 _ _ _ R2
  have f2 := frozen_of_row _ _ 2 _ _ R2
  have f3 := frozen_of_row _ _ 3 _ _ R2
  have d0 := cell_of_row _ _ 0 _ _ _ R1
  have d1 := cell_of_row _ _ 1 _ _ _ R1
  have d2 := cell_of_row _ _ 2 _ _ _ R1
  have d3 := cell_of_row _ _ 3 _ _ _ R1
  have g0 := frozen_of_row _ _ 0 _ _ R1
  have g1 := frozen_of_row _ _ 1 _ _ R1
  have g2 := frozen_of_row _ _ 2 _ _ R1
  have g3 := frozen_of_row _ _ 3 _ _ R1
  go_wp2_with fail
  exact bodyPost_ret (v := .agg #[.string src, .string dst, .int .i64 num, .int .i64 den]) (results_cell_row Try.results51 _ _ _ _ #[.string src, .string dst, .int .i64 num, .int .i64 den] (0, 0) _ rfl (blk_set4 (blk_other (blk_other R1 (by omega)) (by omega))) Try.underlying79 rfl (by kernel_rfl)) rfl
    ⟨rfl, (((((HB4.out.setCell (by simp; omega) _).setCell (by simp; omega) _).setCell (by simp) _).setCell (by simp) _).setCell (by simp) _).setCell (by simp) _⟩

/-- A copy of rules, the call's own. -/
def CopyR (rs : List UR) (w : World) (e : Ending) (w' : World) : Prop := ∃ v, e = .returned v ∧ w'.ownsRow w.heap.size 79 4 v rs.length (halfR rs rs.length rs.length) ∧ Below w.heap.size w w'

set_option maxRecDepth 100000 in
set_option maxHeartbeats 1000000 in
theorem to_units (v : Value) (rs : List UR) (w : World) (h : Rules w v rs) (hm : rs.length ≤ 1048576) :
    Calls Try.prog 24 #[v] w (CopyR rs w) := by
  obtain ⟨i0, hi, hz0, hz1, hz2⟩ := info_parts infoU
  have HX := Lib.hid h
  obtain ⟨a, c, rfl⟩ := h.slice
  clear h
  go_enter Try.func24, Try.ntmps24
  go_wp2_with (at_make; refine wpList_make_full _ rfl _ _ 24 rfl w.heap.size 79 i0 (.agg #[.string ByteArray.empty, .string ByteArray.empty, .int .i64 0, .int .i64 0]) 4 Try.underlying24 hi hz0 hz1 _ _ _ _ rs.length rfl rfl rfl rfl (by rw [hz2]; omega) (by unfold maxLen; omega) (Nat.le_refl _) ?_)
  intro w0 hown0 hgrow0
  have hb0 : Below w.heap.size w w0 := (Below.refl _ _).grown hgrow0 (Nat.le_refl _) (fun k h => by cases h)
  have hown1 : w0.ownsRow w.heap.size 79 4 (.slice (some ⟨w.heap.size, 0, none⟩) rs.length rs.length) rs.length (halfR rs rs.length 0) := by
    rw [← halfR_made rs]; exact hown0
  clear hown0
  go_wp2
  go_loopw [4] (fun i wr => ∃ k : Nat, k ≤ rs.length ∧ i = .int .i64 k ∧ wr.ownsRow w.heap.size 79 4 (.slice (some ⟨w.heap.size, 0, none⟩) rs.length rs.length) rs.length (halfR rs rs.length k) ∧ Below w.heap.size w wr) (fun i _ => rs.length - (intOf i).toNat)
  case atStart => exact ⟨0, Nat.zero_le _, rfl, hown1, hb0⟩
  case round =>
    obtain ⟨k, hk, rfl, hown, hb⟩ := hrel
    have HO := Lib.hid hown
    clear hown hown1
    by_cases hlt : k < rs.length
    · obtain ⟨b2, o2, c2, hv2, hc2, hcell2⟩ := HX.out.some (by omega)
      simp only [Value.slice.injEq] at hv2
      obtain ⟨rfl, _, rfl⟩ := hv2
      obtain ⟨e1, e2, e3, e4⟩ := (hcell2.below hb).at k hlt
      have HG : Hid (rs.getD k default = rs[k]'hlt) := Lib.hid (by simp [List.getD, hlt])
      generalize rs[k]'hlt = x at *
      have HP := Lib.hid (to_unit x wr)
      unfold urV at HP
      go_wp2_with fail
      refine HP.out.mono ?_
      rintro e w2 ⟨rfl, hb2⟩
      have HO2 := Lib.hid (kept_any HO.out hb2)
      have HB2 := Lib.hid (hb.trans (hb2.mono hb.size))
      clear e1 e2 e3 e4 hb2 HO HP
      have fz0 := HO2.out.frozenAt (k * 4)
      have fz1 := HO2.out.frozenAt (k * 4 + 1)
      have fz2 := HO2.out.frozenAt (k * 4 + 2)
      have fz3 := HO2.out.frozenAt (k * 4 + 3)
      obtain ⟨u0, hu0⟩ : ∃ u, w2.cell? ⟨w.heap.size, k * 4, none⟩ = some u := ⟨_, (HO2.out.cellAt (k * 4) (by omega)).trans (halfR_at (by omega))⟩
      obtain ⟨u1, hu1⟩ : ∃ u, w2.cell? ⟨w.heap.size, k * 4 + 1, none⟩ = some u := ⟨_, (HO2.out.cellAt (k * 4 + 1) (by omega)).trans (halfR_at (by omega))⟩
      obtain ⟨u2, hu2⟩ : ∃ u, w2.cell? ⟨w.heap.size, k * 4 + 2, none⟩ = some u := ⟨_, (HO2.out.cellAt (k * 4 + 2) (by omega)).trans (halfR_at (by omega))⟩
      obtain ⟨u3, hu3⟩ : ∃ u, w2.cell? ⟨w.heap.size, k * 4 + 3, none⟩ = some u := ⟨_, (HO2.out.cellAt (k * 4 + 3) (by omega)).trans (halfR_at (by omega))⟩
      have HS1 := Lib.hid (HO2.out.stored (k * 4) (.string x.src))
      have HS2 := Lib.hid (HS1.out.1.stored (k * 4 + 1) (.string x.dst))
      have HS3 := Lib.hid (HS2.out.1.stored (k * 4 + 2) (.int .i64 x.num))
      have HS4 := Lib.hid (HS3.out.1.stored (k * 4 + 3) (.int .i64 x.den))
      have HS5 : Hid (((((w2.setCell ⟨w.heap.size, k * 4, none⟩ (.string x.src)).setCell ⟨w.heap.size, k * 4 + 1, none⟩ (.string x.dst)).setCell ⟨w.heap.size, k * 4 + 2, none⟩ (.int .i64 x.num)).setCell ⟨w.heap.size, k * 4 + 3, none⟩ (.int .i64 x.den)).ownsRow w.heap.size 79 4 (.slice (some ⟨w.heap.size, 0, none⟩) rs.length rs.length) rs.length (halfR rs rs.length (k + 1))) := Lib.hid (by
        have h3 := HS4.out.1
        rw [← HG.out, halfR_succ hlt, HG.out] at h3
        exact h3)
      have HB3 : Hid (Below w.heap.size w ((((w2.setCell ⟨w.heap.size, k * 4, none⟩ (.string x.src)).setCell ⟨w.heap.size, k * 4 + 1, none⟩ (.string x.dst)).setCell ⟨w.heap.size, k * 4 + 2, none⟩ (.int .i64 x.num)).setCell ⟨w.heap.size, k * 4 + 3, none⟩ (.int .i64 x.den))) := Lib.hid ((((HB2.out.setCell (Nat.le_refl _) _).setCell (Nat.le_refl _) _).setCell (Nat.le_refl _) _).setCell (Nat.le_refl _) _)
      clear HS1 HS2 HS3 HS4
      go_wp2_with fail
      go_roundw
      case rel => exact ⟨k + 1, by omega, by go_num, HS5.out, HB3.out⟩
      case measure => simp [intOf]; omega
    · have hke : k = rs.length := by omega
      have HE : Hid (wr.ownsRow w.heap.size 79 4 (.slice (some ⟨w.heap.size, 0, none⟩) rs.length rs.length) rs.length (halfR rs rs.length rs.length)) := Lib.hid (by have h3 := HO.out; rw [hke] at h3; exact h3)
      clear hke
      go_wp2
      go_ret
      exact ⟨_, rfl, HE.out, hb⟩
end Go.Proofs.Ytaomjggamamckaa
