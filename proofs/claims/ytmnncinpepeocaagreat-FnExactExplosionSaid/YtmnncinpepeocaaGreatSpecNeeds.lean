/-
 The model's l10Needs.
-/
import Derived.Test.YtmnncinpepeocaaGreatBuWay
import Derived.Test.YtmnncinpepeocaaGreatBuA
import Derived.Test.YtmnncinpepeocaaGreatLevSpec
import Derived.WalkKit
import Derived.WalkSpells
import Derived.WalkSmall
import Derived.BigQuiet
import Derived.OneCell
import Derived.Deep.QuietTactic
import Derived.Deep.DeepCutAuto
import Derived.Deep.RegionHeld3
import Derived.Laws.OwnMore
import Derived.Lib.Hide
namespace Go.Proofs.YtmnncinpepeocaaGreat
open Go.RowKit

theorem infoNE' : (Tryz.prog.info? 42).map (fun i => (i.zero, i.size, i.bytes)) = some (some (.agg #[.string ByteArray.empty, .int .i64 0]), 2, 24) := by kernel_rfl
/-- What l10Needs gives. -/
def SnRes (l : List IT) (U : Nat → Nat) (w : World) (e : Ending) (w' : World) : Prop :=
 (¬(∀ i, i < l.length → U i ≤ 1000000000) ∧ ∃ v', e = .returned (.tuple #[v', .bool false]) ∧ Hid (w'.ownsRow w.heap.size 42 2 v' ([] : List NE).length (NE.cells [])) ∧ Hid (Below w.heap.size w w')) ∨
 ((∀ i, i < l.length → U i ≤ 1000000000) ∧ ∃ v', e = .returned (.tuple #[v', .bool true]) ∧ Hid (w'.ownsRow w.heap.size 42 2 v' (nzL l U l.length).length (NE.cells (nzL l U l.length))) ∧ Hid (Below w.heap.size w w'))

set_option maxRecDepth 100000 in
set_option maxHeartbeats 4000000 in
theorem spec_needs (base : Nat) (v vn : Value) (l : List IT) (S : List Nat) (w : World) (h : IT.Is w v l) (hS : S.length = l.length) (hl : l.length ≤ 12) (hown : w.ownsRow base 3 1 vn l.length (cellsCap S)) :
 Calls Tryz.prog 51 #[v, vn] w (SnRes l (lv S) w) := by
 obtain ⟨i0, hif, hz0, hz1, hz2⟩ := info_parts infoNE'
 have HI := Lib.hid h
 have HV := Lib.hid hown
 obtain ⟨a, c, rfl⟩ := h.slice
 obtain ⟨an, cn, rfl⟩ := own_sliceN hown
 have HW0 : Hid ((w.alloc (.cells #[] 42)).ownsRow w.heap.size 42 2 (.slice (some ⟨w.heap.size, 0, none⟩) 0 0) 0 []) := Lib.hid (own_empty (Nat.le_refl _))
 have HB0 : Hid (Below w.heap.size w (w.alloc (.cells #[] 42))) := Lib.hid ((Below.refl _ _).alloc (Nat.le_refl _) _)
 clear h hown
 go_enter Tryz.func51, Tryz.ntmps51
 go_wp2_with fail
 go_loopw [6, 7] (fun x i wr => ∃ (k : Nat) (a' : Option Addr) (c' : Nat), k ≤ l.length ∧ i = .int .i64 k ∧ x = .slice a' (nzL l (lv S) k).length c' ∧ Hid (∀ i, i < k → lv S i ≤ 1000000000) ∧ Hid (wr.ownsRow w.heap.size 42 2 (.slice a' (nzL l (lv S) k).length c') (nzL l (lv S) k).length (NE.cells (nzL l (lv S) k))) ∧ Hid (Below w.heap.size w wr)) (fun _ i _ => l.length - (intOf i).toNat)
 case atStart => exact ⟨0, _, _, Nat.zero_le _, rfl, rfl, Lib.hid (fun i hi => by omega), HW0, HB0⟩
 case round =>
  clear HW0 HB0
  obtain ⟨k, a', c', hk, rfl, rfl, HF, HO, HB⟩ := hrel
  by_cases hlt : k < l.length
  rotate_left
  · have hke : k = l.length := by omega
    subst hke
    go_wp2_with fail
    go_ret2
    exact Or.inr ⟨HF.out, _, rfl, HO, HB⟩
  have HLT := Lib.hid hlt
  obtain ⟨gn, cg, hvg, hg1, hg2⟩ := own_pos HV.out (show 0 < l.length by omega)
  simp only [Value.slice.injEq] at hvg
  obtain ⟨rfl, _, rfl⟩ := hvg
  obtain ⟨bI, oI, cI, hvI, hcI, hatI⟩ := HI.out.some (show 0 < l.length by omega)
  simp only [Value.slice.injEq] at hvI
  obtain ⟨rfl, _, rfl⟩ := hvI
  have HCE : Hid (∀ W', Below w.heap.size w W' → W'.cell? ⟨bI, oI + k * 8, none⟩ = some (.string (codeAt l k)) ∧ W'.cell? ⟨gn, k, none⟩ = some (.int .i64 (capI (lv S k)))) := Lib.hid (fun W' hW => ⟨by
   rw [codeAt_get hlt]; exact ((hatI.below hW).at k hlt).1, by
   rw [(own_keepL HV.out hW).cellAt k (by omega)]; exact cellsCap_get (by rw [hS]; exact hlt)⟩)
  have hen := (HCE.out _ HB.out).2
  have hk0 : (0 : Int) ≤ (k : Int) := by omega
  have hk1 : (k : Int) < (l.length : Int) := by omega
  clear hatI hcI
  by_cases hfit : lv S k ≤ 1000000000
  rotate_left
  · rw [capI_no hfit] at hen
    have HN : Hid (¬∀ i, i < l.length → lv S i ≤ 1000000000) := Lib.hid (fun h => hfit (h k hlt))
    have HBF : Hid (Below w.heap.size w (wr.alloc (.cells #[] 42))) := Lib.hid (HB.out.alloc HB.out.size _)
    have HOF : Hid ((wr.alloc (.cells #[] 42)).ownsRow w.heap.size 42 2 (.slice (some ⟨wr.heap.size, 0, none⟩) 0 0) 0 []) := Lib.hid (own_empty HB.out.size)
    clear hfit
    go_wp2_with fail
    go_ret2
    exact Or.inl ⟨HN.out, _, rfl, HOF, HBF⟩
  rw [capI_yes hfit] at hen
  have HF2 : Hid (∀ i, i < k + 1 → lv S i ≤ 1000000000) := Lib.hid (fun i hi => by
   by_cases e : i = k
   · subst e; exact hfit
   · exact HF.out i (by omega))
  have hneg : decide (((lv S k : Nat) : Int) < 0) = false := decide_eq_false (by omega)
  by_cases hpos : 0 < lv S k
  rotate_left
  · have HE : Hid (nzL l (lv S) (k + 1) = nzL l (lv S) k) := Lib.hid (nzL_no hpos)
    have hz : lv S k = 0 := by omega
    rw [hz, show ((0 : Nat) : Int) = 0 from rfl] at hen
    clear hfit hpos hneg hz
    go_wp2_with fail
    go_roundw
    case rel => exact ⟨k + 1, _, _, HLT.out, by go_num, by rw [HE.out], HF2, by rw [HE.out]; exact HO, HB⟩
    case measure => have := HLT.out; simp [intOf]; omega
  have HE : Hid (nzL l (lv S) (k + 1) = nzL l (lv S) k ++ [⟨codeAt l k, (lv S k : Nat)⟩]) := Lib.hid (nzL_yes hpos)
  have hd : decide (0 < lv S k) = true := decide_eq_true hpos
  have hle := nzL_le l (lv S) k
  have hcp : capI (lv S k) = ((lv S k : Nat) : Int) := capI_yes hfit
  rw [hcp] at HCE
  clear hfit hcp
  generalize lv S k = z at *
  generalize codeAt l k = cd at *
  go_upto_region 8 with fail
  go_region_held3 (fun W' => W'.cell? ⟨bI, oI + k * 8, none⟩ = some (.string cd) ∧ W'.cell? ⟨gn, k, none⟩ = some (.int .i64 (z : Int)))
   (first | assumption | exact HCE.out _ HB.out | exact HCE.out _ HB.out.drew | exact HCE.out _ (HB.out.alloc HB.out.size _) | exact HCE.out _ (HB.out.drew.alloc HB.out.size _))
   (first
    | (refine step_append_row rfl (.tmp 26) (.tmp 37) 29 rfl w.heap.size 42 i0 (.agg #[.string ByteArray.empty, .int .i64 0]) 2 24 Tryz.underlying29 hif hz0 hz1 hz2 rfl (by decide) (.slice a' (nzL l (lv S) k).length c') (nzL l (lv S) k).length (NE.cells (nzL l (lv S) k)) (by simp [Act.eval]) (own_keepL (w := wr.drew) (by exact HO.out) ((Below.refl _ _).alloc (Nat.le_refl _) _)) ⟨wr.heap.size, 0, none⟩ 1 1 [.string cd, .int .i64 (z : Int)] (by simp [Act.eval]) rfl (new_2 wr.drew _ _ _) (by intro u hu; simp at hu; rcases hu with rfl | rfl <;> rfl) (by unfold maxLen; omega) (by omega) (by have := HB.out.size; simp; omega) ?_; intro v' w5 hown hgrow; obtain ⟨p2, q2, rfl⟩ := own_sliceN hown; have HBF : Hid (Below w.heap.size w w5) := Lib.hid ((HB.out.drew.alloc HB.out.size _).grown hgrow (by have := HB.out.size; simp; omega) (fun g hg => (HO.out.lt g hg).1)); have hS5 := HCE.out _ HBF.out; have HO5 := Lib.hid hown; clear hown hgrow))
  all_goals
   rw [show NE.cells (nzL l (lv S) k) ++ [Value.string cd, Value.int .i64 (z : Int)] = NE.cells (nzL l (lv S) k ++ [⟨cd, (z : Nat)⟩]) from (NE.cells_snoc (nzL l (lv S) k) ⟨cd, (z : Nat)⟩).symm, ← HE.out, show (nzL l (lv S) k).length + 1 = (nzL l (lv S) (k + 1)).length from by rw [HE.out, List.length_append]; rfl] at HO5
   rw [show (nzL l (lv S) k).length + 1 = (nzL l (lv S) (k + 1)).length from by rw [HE.out, List.length_append]; rfl]
   go_wp2_with fail
   go_roundw
   case rel => exact ⟨k + 1, _, _, HLT.out, by go_num, rfl, HF2, HO5, HBF⟩
   case measure => have := HLT.out; simp [intOf]; omega
end Go.Proofs.YtmnncinpepeocaaGreat
