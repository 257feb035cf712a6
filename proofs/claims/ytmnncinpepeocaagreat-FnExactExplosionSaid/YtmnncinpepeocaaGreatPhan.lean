/-
 Whether an item is a phantom.
-/
import Derived.Test.YtmnncinpepeocaaGreatBuMem
import Derived.Test.YtmnncinpepeocaaGreatBuWay
import Derived.WalkKit
import Derived.WalkSpells
import Derived.WalkSmall
import Derived.BigQuiet
import Derived.OneCell
import Derived.Deep.QuietTactic
import Derived.Deep.DeepCutAuto
import Derived.Deep.RegionHeld3
import Derived.StillTailTactics
import Derived.Laws.EntriesVeiled
import Derived.Laws.OwnMore
import Derived.Lib.Hide
namespace Go.Proofs.YtmnncinpepeocaaGreat
open Go.RowKit

set_option maxRecDepth 100000 in
set_option maxHeartbeats 1000000 in
/-- An item is a phantom. -/
theorem im_phantom (v1 v2 : Value) (l : List IT) (s : ByteArray) (k : Nat) (w : World) (h : IT.Is w v1 l) (hv2 : ∃ (a : Option Addr) (n k : Nat), v2 = .slice a n k) (hm : l.length ≤ maxLen) (hf : fiI l s = (k : Int)) :
 Calls Tryz.prog 57 #[.agg #[v1, v2], .string s] w (BoolRes (betw l true s) w) := by
 have hk := (fi_code hf).1
 obtain ⟨b, o, c, rfl, hc, hat⟩ := h.some (by omega)
 obtain ⟨a2, n2, k2, rfl⟩ := hv2
 obtain ⟨W1, hW1⟩ : ∃ W, w.alloc (.cells #[.slice (some ⟨b, o, none⟩) l.length c, .slice a2 n2 k2] 71) = W := ⟨_, rfl⟩
 have HA : Hid (W1.heap[w.heap.size]? = some (.cells #[.slice (some ⟨b, o, none⟩) l.length c, .slice a2 n2 k2] 71)) := Lib.hid (by rw [← hW1]; exact heap_alloc_new _ _)
 have HB : Hid (Below w.heap.size w W1) := Lib.hid (by rw [← hW1]; exact (Below.refl _ _).alloc (Nat.le_refl _) _)
 have HI := Lib.hid (h.below HB.out)
 have d2 := ((hat.below HB.out).at k hk).2.2.1
 have HW1 := Lib.hid hW1
 have HF := Lib.hid hf
 obtain ⟨z, hz⟩ : ∃ z, (l[k]'hk).kind = z := ⟨_, rfl⟩
 rw [hz] at d2
 have HY : Hid (betw l true s = (z == 2)) := Lib.hid (by
  unfold betw isPh
  rw [hf, Int.toNat_natCast, kindAt_get hk, hz]
  simp
  rfl)
 have hk0 : (0 : Int) ≤ (k : Int) := by omega
 have hk1 : (k : Int) < (l.length : Int) := by omega
 have c0 := cell_of_row _ _ 0 _ _ _ HA.out
 clear h hat hW1 hz hf
 go_enter Tryz.func57, Tryz.ntmps57
 go_upto_region 1 with fail
 rw [HW1.out]
 clear HW1
 refine wp_region_held_drew (S := (fun W' => Hid (Below W1.heap.size W1 W') ∧ W'.cell? ⟨w.heap.size, 0, none⟩ = some (.slice (some ⟨b, o, none⟩) l.length c) ∧ W'.cell? ⟨b, o + k * 8 + 2, none⟩ = some (.int .i64 z))) (by kernel_rfl) (hold2 c0 d2 (Below.refl _ _).drew) (fun hHeld => ?_)
 refine wpAnyH_take (i := 0) (oi := { dst := some 5, op := Op.fieldAddr 71 (Operand.tmp 2) 0, type := 0, pos := _, after := #[], guard := none }) (v := ?vr1x1) rfl (by kernel_rfl) (by kernel_rfl) (by kernel_rfl) (fun _ _ _ h => h) (Or.inl ⟨by rfl, ?yr1x1⟩) (by assumption) ?rr1x1
 case yr1x1 => (intro w' hSw; (try dsimp only at hSw); go_simp; (try with_reducible rfl))
 refine wpAnyH_take (i := 1) (oi := { dst := some 6, op := Op.load 24 (Operand.tmp 5), type := 24, pos := _, after := #[{ on := 0, ground := Ground.data }], guard := none }) (v := ?vr1x2) rfl (by kernel_rfl) (by kernel_rfl) (by kernel_rfl) (fun _ _ _ h => h) (Or.inl ⟨by rfl, ?yr1x2⟩) (by assumption) ?rr1x2
 case yr1x2 => (intro w' hSw; (try dsimp only at hSw); go_simp; (try with_reducible rfl))
 refine wpAnyH_take (i := 2) (oi := { dst := some 7, op := Op.fieldAddr 71 (Operand.tmp 2) 0, type := 0, pos := _, after := #[], guard := none }) (v := ?vr1x3) rfl (by kernel_rfl) (by kernel_rfl) (by kernel_rfl) (fun _ _ _ h => h) (Or.inl ⟨by rfl, ?yr1x3⟩) (by assumption) ?rr1x3
 case yr1x3 => (intro w' hSw; (try dsimp only at hSw); go_simp; (try with_reducible rfl))
 (try simp only [Act.put, List.setIfInBounds_toArray, List.set_cons_zero, List.set_cons_succ])
 refine wpAnyH_take (i := 3) (oi := { dst := some 8, op := Op.load 24 (Operand.tmp 7), type := 24, pos := _, after := #[{ on := 2, ground := Ground.data }], guard := none }) (v := ?vr1x4) rfl (by kernel_rfl) (by kernel_rfl) (by kernel_rfl) (fun _ _ _ h => h) (Or.inl ⟨by rfl, ?yr1x4⟩) (by assumption) ?rr1x4
 case yr1x4 => (intro w' hSw; (try dsimp only at hSw); go_simp; (try with_reducible rfl))
 refine wpAnyH_take (i := 4) (oi := { dst := some 9, op := Op.move (Operand.tmp 1), type := 9, pos := _, after := #[], guard := none }) (v := ?vr1x5) rfl (by kernel_rfl) (by kernel_rfl) (by kernel_rfl) (fun _ _ _ h => h) (Or.inl ⟨by rfl, ?yr1x5⟩) (by assumption) ?rr1x5
 case yr1x5 => (intro w' hSw; (try dsimp only at hSw); go_simp; (try with_reducible rfl))
 (try simp only [Act.put, List.setIfInBounds_toArray, List.set_cons_zero, List.set_cons_succ])
 refine wpAnyH_ready (rs := [5]) (by kernel_rfl) (by simp) ?_
 refine AllReadyH.cons (o := { dst := some 10, op := Op.call { callee := Callee.value (Operand.func 86), args := #[Operand.tmp 8, Operand.tmp 9], argTypes := #[24, 9] }, type := 3, pos := _, after := #[{ on := 3, ground := Ground.data }, { on := 4, ground := Ground.data }], guard := none }) rfl (fun K hK => ?_) AllReadyH.nil
 go_simp
 refine (im_findItem _ l s _ (HI.out.below (by first | exact (by assumption : Hid (Below W1.heap.size W1 _) ∧ _).1.out | exact Below.refl _ _ | exact (Below.refl _ _).drew)) hm).mono ?_; rintro e w' ⟨rfl, hb⟩; rw [HF.out]; have hb2 : Below _ _ w' := hb
 (try go_wp2_with fail)
 refine hK.out _ _ ?_ (fun hHeld => ?_)
 · (try dsimp only); first | assumption | exact hold2 c0 d2 (hold_call (by assumption) (by assumption))
 clear hK K
 (try simp only [Act.put, List.setIfInBounds_toArray, List.set_cons_zero, List.set_cons_succ])
 refine wpAnyH_take (i := 6) (oi := { dst := some 11, op := Op.indexAddr 24 (Operand.tmp 6) (Operand.tmp 10), type := 0, pos := _, after := #[{ on := 1, ground := Ground.data }, { on := 5, ground := Ground.data }], guard := none }) (v := ?vr1x6) rfl (by kernel_rfl) (by kernel_rfl) (by kernel_rfl) (fun _ _ _ h => h) (Or.inl ⟨by rfl, ?yr1x6⟩) (by assumption) ?rr1x6
 case yr1x6 => (intro w' hSw; (try dsimp only at hSw); go_simp; (try with_reducible rfl))
 refine wpAnyH_take (i := 7) (oi := { dst := some 12, op := Op.fieldAddr 33 (Operand.tmp 11) 2, type := 0, pos := _, after := #[{ on := 6, ground := Ground.data }], guard := none }) (v := ?vr1x7) rfl (by kernel_rfl) (by kernel_rfl) (by kernel_rfl) (fun _ _ _ h => h) (Or.inl ⟨by rfl, ?yr1x7⟩) (by assumption) ?rr1x7
 case yr1x7 => (intro w' hSw; (try dsimp only at hSw); go_simp; (try with_reducible rfl))
 refine wpAnyH_take (i := 8) (oi := { dst := some 13, op := Op.load 3 (Operand.tmp 12), type := 3, pos := _, after := #[{ on := 7, ground := Ground.data }], guard := none }) (v := ?vr1x8) rfl (by kernel_rfl) (by kernel_rfl) (by kernel_rfl) (fun _ _ _ h => h) (Or.inl ⟨by rfl, ?yr1x8⟩) (by assumption) ?rr1x8
 case yr1x8 => (intro w' hSw; (try dsimp only at hSw); go_simp; (try with_reducible rfl))
 (try simp only [Act.put, List.setIfInBounds_toArray, List.set_cons_zero, List.set_cons_succ])
 refine wpAnyH_take (i := 9) (oi := { dst := some 14, op := Op.binOp BinOp.eql 3 (Operand.tmp 13) (Operand.const (Value.int IntKind.i64 2)) 3, type := 4, pos := _, after := #[{ on := 8, ground := Ground.data }], guard := none }) (v := ?vr1x9) rfl (by kernel_rfl) (by kernel_rfl) (by kernel_rfl) (fun _ _ _ h => h) (Or.inl ⟨by rfl, ?yr1x9⟩) (by assumption) ?rr1x9
 case yr1x9 => (intro w' hSw; (try dsimp only at hSw); go_simp; (try with_reducible rfl))
 refine wpAnyH_take (i := 10) (oi := { dst := some 4, op := Op.assign (Operand.tmp 14), type := 4, pos := _, after := #[{ on := 9, ground := Ground.data }, { on := 5, ground := Ground.chain }, { on := 0, ground := Ground.phase }, { on := 1, ground := Ground.phase }, { on := 2, ground := Ground.phase }, { on := 3, ground := Ground.phase }, { on := 4, ground := Ground.phase }, { on := 5, ground := Ground.phase }, { on := 6, ground := Ground.phase }, { on := 7, ground := Ground.phase }, { on := 8, ground := Ground.phase }, { on := 9, ground := Ground.phase }], guard := none }) (v := ?vr1x10) rfl (by kernel_rfl) (by kernel_rfl) (by kernel_rfl) (fun _ _ _ h => h) (Or.inl ⟨by rfl, ?yr1x10⟩) (by assumption) ?rr1x10
 case yr1x10 => (intro w' hSw; (try dsimp only at hSw); go_simp; (try with_reducible rfl))
 (try simp only [Act.put, List.setIfInBounds_toArray, List.set_cons_zero, List.set_cons_succ])
 refine wpAnyH_done (by kernel_rfl) ?_ _
 have hS := (by assumption : Hid (Below W1.heap.size W1 _) ∧ _)
 have HBF := Lib.hid (HB.out.trans (hS.1.out.mono HB.out.size))
 go_wp2_with fail
 go_ret
 exact ⟨by rw [HY.out]; rfl, HBF.out⟩
end Go.Proofs.YtmnncinpepeocaaGreat
