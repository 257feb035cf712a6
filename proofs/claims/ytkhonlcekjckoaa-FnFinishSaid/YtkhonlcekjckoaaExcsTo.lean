/-
  The verifier's own helpers on exceptions: a copy, equal ones are found equal.
-/
import Derived.Test.YtkhonlcekjckoaaRows
import Derived.Test.YtkhonlcekjckoaaExcs
import Derived.Test.YtkhonlcekjckoaaExcsRow
import Derived.Test.YtkhonlcekjckoaaHold
import Derived.WalkKit
import Derived.WalkSpells
import Derived.WalkSmall
import Derived.BigQuiet
import Derived.Deep.QuietTactic
import Derived.Deep.RegionHeld3
import Derived.Lib.Hide
namespace Go.Proofs.Ytkhonlcekjckoaa
open Go.RowKit

theorem infoE : (Try.prog.info? 56).map (fun i => (i.zero, i.size, i.bytes)) = some (some (.agg #[.int .i64 0, .int .i64 0]), 2, 16) := by kernel_rfl

set_option maxRecDepth 100000 in
set_option maxHeartbeats 400000 in
theorem to_exc (n d : Int) (w : World) :
    Calls Try.prog 61 #[.agg #[.int .i64 n, .int .i64 d]] w fun e w' => e = .returned (.agg #[.int .i64 n, .int .i64 d]) ∧ Below w.heap.size w w' := by
  go_enter Try.func61, Try.ntmps61
  go_wp2_with fail
  exact bodyPost_ret (v := .agg #[.int .i64 n, .int .i64 d]) (results_cell_row Try.results61 _ _ _ _ #[.int .i64 n, .int .i64 d] (0, 0) _ rfl ((Below.heap_alloc _ _ _ (by simp)).trans (heap_alloc2_new w _ _)) Try.underlying56 rfl (by kernel_rfl)) rfl ⟨rfl, (((Below.refl _ _).alloc (Nat.le_refl _) _).alloc (by simp) _).alloc (by simp; omega) _⟩

/-- A copy of exceptions, the call's own. -/
def CopyE (es : List (Int × Int)) (w : World) (e : Ending) (w' : World) : Prop := ∃ v, e = .returned v ∧ w'.ownsRow w.heap.size 56 2 v es.length (halfE es es.length es.length) ∧ Below w.heap.size w w'

set_option maxRecDepth 100000 in
set_option maxHeartbeats 1000000 in
theorem to_excs (v : Value) (es : List (Int × Int)) (w : World) (h : Excs w v es) (hm : es.length ≤ 1048576) :
    Calls Try.prog 51 #[v] w (CopyE es w) := by
  obtain ⟨i0, hi, hz0, hz1, hz2⟩ := info_parts infoE
  have HX := Lib.hid h
  obtain ⟨a, c, rfl⟩ := h.slice
  clear h
  go_enter Try.func51, Try.ntmps51
  go_wp2_with (at_make; refine wpList_make_full _ rfl _ _ 25 rfl w.heap.size 56 i0 (.agg #[.int .i64 0, .int .i64 0]) 2 Try.underlying25 hi hz0 hz1 _ _ _ _ es.length rfl rfl rfl rfl (by rw [hz2]; omega) (by unfold maxLen; omega) (Nat.le_refl _) ?_)
  intro w0 hown0 hgrow0
  have hb0 : Below w.heap.size w w0 := (Below.refl _ _).grown hgrow0 (Nat.le_refl _) (fun k h => by cases h)
  have hown1 : w0.ownsRow w.heap.size 56 2 (.slice (some ⟨w.heap.size, 0, none⟩) es.length es.length) es.length (halfE es es.length 0) := by
    rw [← halfE_made es]; exact hown0
  clear hown0
  go_wp2
  go_loopw [4] (fun i wr => ∃ k : Nat, k ≤ es.length ∧ i = .int .i64 k ∧ wr.ownsRow w.heap.size 56 2 (.slice (some ⟨w.heap.size, 0, none⟩) es.length es.length) es.length (halfE es es.length k) ∧ Below w.heap.size w wr) (fun i _ => es.length - (intOf i).toNat)
  case atStart => exact ⟨0, Nat.zero_le _, rfl, hown1, hb0⟩
  case round =>
    obtain ⟨k, hk, rfl, hown, hb⟩ := hrel
    have HO := Lib.hid hown
    clear hown hown1
    by_cases hlt : k < es.length
    · obtain ⟨b2, o2, c2, hv2, hc2, hcell2⟩ := HX.out.some (by omega)
      simp only [Value.slice.injEq] at hv2
      obtain ⟨rfl, _, rfl⟩ := hv2
      have e1 := (hcell2.below hb).fst k hlt
      have e2 := (hcell2.below hb).snd k hlt
      have HG : Hid (es.getD k (0, 0) = es[k]'hlt) := Lib.hid (by simp [List.getD, hlt])
      generalize es[k]'hlt = x at *
      go_wp2_with fail
      refine (to_exc _ _ _).mono ?_
      rintro e w2 ⟨rfl, hb2⟩
      have HO2 := Lib.hid (kept_any HO.out hb2)
      have HB2 := Lib.hid (hb.trans (hb2.mono hb.size))
      clear e1 e2 hb2 HO
      have hfz := HO2.out.frozenAt (k * 2)
      have hfz1 := HO2.out.frozenAt (k * 2 + 1)
      have hcl : ∃ u, w2.cell? ⟨w.heap.size, k * 2, none⟩ = some u := ⟨_, (HO2.out.cellAt (k * 2) (by omega)).trans (halfE_at (by omega))⟩
      have hcl1 : ∃ u, w2.cell? ⟨w.heap.size, k * 2 + 1, none⟩ = some u := ⟨_, (HO2.out.cellAt (k * 2 + 1) (by omega)).trans (halfE_at (by omega))⟩
      obtain ⟨u, hu⟩ := hcl
      obtain ⟨u1, hu1⟩ := hcl1
      have HS1 := Lib.hid (HO2.out.stored (k * 2) (.int .i64 x.1))
      have HS2 := Lib.hid (HS1.out.1.stored (k * 2 + 1) (.int .i64 x.2))
      have HS3 : Hid (((w2.setCell ⟨w.heap.size, k * 2, none⟩ (.int .i64 x.1)).setCell ⟨w.heap.size, k * 2 + 1, none⟩ (.int .i64 x.2)).ownsRow w.heap.size 56 2 (.slice (some ⟨w.heap.size, 0, none⟩) es.length es.length) es.length (halfE es es.length (k + 1))) := Lib.hid (by
        have h3 := HS2.out.1
        rw [← HG.out, halfE_succ hlt, HG.out] at h3
        exact h3)
      have HB3 := Lib.hid ((HB2.out.grown HS1.out.2 HB2.out.size (fun j hj => by cases hj; exact Nat.le_refl _)).grown HS2.out.2 (Nat.le_trans HB2.out.size HS1.out.2.size) (fun j hj => by cases hj; exact Nat.le_refl _))
      go_wp2_with fail
      go_roundw
      case rel => exact ⟨k + 1, by omega, by go_num, HS3.out, HB3.out⟩
      case measure => simp [intOf]; omega
    · have hke : k = es.length := by omega
      have HE : Hid (wr.ownsRow w.heap.size 56 2 (.slice (some ⟨w.heap.size, 0, none⟩) es.length es.length) es.length (halfE es es.length es.length)) := Lib.hid (by have h3 := HO.out; rw [hke] at h3; exact h3)
      clear hke
      go_wp2
      go_ret
      exact ⟨_, rfl, HE.out, hb⟩
end Go.Proofs.Ytkhonlcekjckoaa
