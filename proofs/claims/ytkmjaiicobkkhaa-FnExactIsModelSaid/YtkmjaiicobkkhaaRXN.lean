/-
  Slices of slices (CondNodeSS) within a span of blocks: copies, equality, size, an argument.
-/
import Derived.Test.YtkmjaiicobkkhaaRows
import Derived.Test.YtkmjaiicobkkhaaNest
import Derived.Test.YtkmjaiicobkkhaaNestFlat
import Derived.Test.YtkmjaiicobkkhaaHold
import Derived.Test.YtkmjaiicobkkhaaHoldN
import Derived.Test.YtkmjaiicobkkhaaFind
import Derived.WalkKit
import Derived.WalkSpells
import Derived.WalkSmall
import Derived.BigQuiet
import Derived.Deep.QuietTactic
import Derived.Deep.DeepCutAuto
import Derived.Deep.RegionHeld3
import Derived.Laws.OwnMore
import Derived.Lib.Hide
namespace Go.Proofs.Ytkmjaiicobkkhaa
open Go.RowKit

def RXN : RelN (List CN) := fun lo hi w x cs => ∃ u0, cs = [u0] ∧ CX lo hi w u0 x
theorem RXN.kept : KeptN RXN := ⟨fun _ _ _ _ _ _ hs h => by
  obtain ⟨u0, rfl, h0⟩ := h
  exact ⟨u0, rfl, h0.same CnN.kept hs⟩,
  fun _ _ _ _ _ _ _ a b h => by
  obtain ⟨u0, rfl, h0⟩ := h
  exact ⟨u0, rfl, h0.mono CnN.kept a b⟩⟩
abbrev RX := SlN 1 RXN
def RX.Sz (xs : List (List CN)) : Prop := xs.length ≤ maxLen ∧ ∀ x, x ∈ xs → CX.Sz x
def RX.Sm (xs : List (List CN)) : Prop := xs.length ≤ 1048576 ∧ ∀ x, x ∈ xs → CX.Sm x

theorem RX.info : (Try.prog.info? 33).map (fun i => (i.zero, i.size, i.bytes)) = some (some (.slice none 0 0), 1, 24) := by kernel_rfl

set_option maxRecDepth 100000 in
set_option maxHeartbeats 2000000 in
theorem RX.to (v : Value) (xs : List (List CN)) (lo hi : Nat) (w : World) (hhi : hi ≤ w.heap.size) (h : RX lo hi w v xs) (hm : RX.Sm xs) : Calls Try.prog 75 #[v] w (CpRes RX xs w) := by
  obtain ⟨i0, hif, hz0, hz1, hz2⟩ := info_parts RX.info
  obtain ⟨hm, hM⟩ := hm
  have HM := Lib.hid hM
  have HX := Lib.hid h
  have HH := Lib.hid hhi
  obtain ⟨a, c, rfl⟩ := h.slice
  clear h hM hhi
  go_enter Try.func75, Try.ntmps75
  go_wp2_with (at_make; refine wpList_make_full _ rfl _ _ 25 rfl w.heap.size 33 i0 (.slice none 0 0) 1 Try.underlying25 hif hz0 hz1 _ _ _ _ xs.length rfl rfl rfl rfl (by rw [hz2]; omega) (by unfold maxLen; omega) (Nat.le_refl _) ?_)
  intro w0 hown0 hgrow0
  have hb0 : Below w.heap.size w w0 := (Below.refl _ _).grown hgrow0 (Nat.le_refl _) (fun k h => by cases h)
  have hown1 := PartN.start RXN hown0
  clear hown0 hgrow0
  go_wp2
  go_loopw [4] (fun i wr => ∃ k : Nat, k ≤ xs.length ∧ i = .int .i64 k ∧ PartN 1 RXN 33 w.heap.size xs.length xs k wr ∧ Below w.heap.size w wr) (fun i _ => xs.length - (intOf i).toNat)
  case atStart => exact ⟨0, Nat.zero_le _, rfl, hown1, hb0⟩
  case round =>
    obtain ⟨k, hk, rfl, hown, hb⟩ := hrel
    have HO := Lib.hid hown
    have HB := Lib.hid hb
    clear hown hown1 hb
    by_cases hlt : k < xs.length
    · obtain ⟨b2, o2, c2, cs, hv2, hc2, hb2, hl, hr, hcell⟩ := (HX.out.below RXN.kept HB.out).get k hlt
      simp only [Value.slice.injEq] at hv2
      obtain ⟨rfl, _, rfl⟩ := hv2
      have HSM := Lib.hid (HM.out _ (List.getElem_mem hlt))
      obtain ⟨u0, rfl, r0⟩ := hr
      have e0 := hcell 0 (by omega)
      have HLT := Lib.hid hlt
      obtain ⟨x, hx⟩ : ∃ x, xs[k]'hlt = x := ⟨_, rfl⟩
      have HXK : Hid (∃ h : k < xs.length, xs[k]'h = x) := Lib.hid ⟨hlt, hx⟩
      rw [hx] at r0 HSM
      simp only [List.getElem?_cons_zero, Nat.add_zero, Nat.mul_one] at e0
      clear hcell hx hc2 hb2
      have R0 := Lib.hid r0
      clear r0
      have HP := Lib.hid (CX.to u0 x _ _ wr (Nat.le_trans HH.out HB.out.size) R0.out HSM.out)
      go_wp2_with fail
      refine HP.out.mono ?_
      rintro e w2 ⟨v0, rfl, s0, hb2⟩
      have hg := HO.out.lt
      have HN0 : Hid (NextN 1 RXN 33 w.heap.size xs.length xs k [v0] 0 w2) := Lib.hid (by
        obtain ⟨hlt2, hx2⟩ := HXK.out
        refine (HO.out.keep RXN.kept hb2).next HLT.out rfl hlt2 ?_
        rw [hx2]
        exact ⟨v0, rfl, s0.mono CnN.kept (by omega) (Nat.le_refl _)⟩)
      obtain ⟨sa0, sc0, hs0⟩ := s0.slice
      subst hs0
      obtain ⟨⟨o_0, ho_0⟩, fo_0⟩ := HN0.out.cell (k) (by have := HLT.out; omega)
      have HN1 : Hid (PartN 1 RXN 33 w.heap.size xs.length xs (k + 1) (w2.setCell ⟨w.heap.size, k, none⟩ (.slice sa0 x.length sc0))) := Lib.hid (by
        have h9 := ((HN0.out).set RXN.kept (j := 0) rfl).all rfl
        simpa using h9)
      have HB1 : Hid (Below w.heap.size w (w2.setCell ⟨w.heap.size, k, none⟩ (.slice sa0 x.length sc0))) := Lib.hid ((HB.out.trans (hb2.mono HB.out.size)).setCell (Nat.le_refl _) _)
      clear e0 HP HN0 hg hb2 HO s0
      go_wp2_with fail
      go_roundw
      case rel => exact ⟨k + 1, by omega, by go_num, HN1.out, HB1.out⟩
      case measure => simp [intOf]; omega
    · have HE := Lib.hid (HO.out.done RXN.kept (by omega))
      go_wp2
      go_ret
      exact ⟨_, rfl, HE.out, HB.out⟩

set_option maxRecDepth 100000 in
set_option maxHeartbeats 2000000 in
theorem RX.eq (v v' : Value) (xs : List (List CN)) (lo hi lo' hi' : Nat) (w : World) (h : RX lo hi w v xs) (h' : RX lo' hi' w v' xs) (hm : RX.Sm xs) : Calls Try.prog 79 #[v, v'] w (YesRes w) := by
  obtain ⟨hm, hM⟩ := hm
  have HM := Lib.hid hM
  have HX := Lib.hid h
  have HY := Lib.hid h'
  obtain ⟨a, c, rfl⟩ := h.slice
  obtain ⟨a', c', rfl⟩ := h'.slice
  have hnn : ((xs.length : Int) != (xs.length : Int)) = false := by simp
  clear h h' hM
  go_enter Try.func79, Try.ntmps79
  go_wp2
  go_loopw [5] (fun i wr => ∃ k : Nat, k ≤ xs.length ∧ i = .int .i64 k ∧ Below w.heap.size w wr) (fun i _ => xs.length - (intOf i).toNat)
  case atStart => exact ⟨0, Nat.zero_le _, rfl, Below.refl _ _⟩
  case round =>
    obtain ⟨k, hk, rfl, hb⟩ := hrel
    have HB := Lib.hid hb
    clear hb
    by_cases hlt : k < xs.length
    · obtain ⟨b2, o2, c2, cs, hv2, hc2, _, _, hr, hcell⟩ := (HX.out.below RXN.kept HB.out).get k hlt
      simp only [Value.slice.injEq] at hv2
      obtain ⟨rfl, _, rfl⟩ := hv2
      obtain ⟨b3, o3, c3, cs3, hv3, hc3, _, _, hr3, hcell3⟩ := (HY.out.below RXN.kept HB.out).get k hlt
      simp only [Value.slice.injEq] at hv3
      obtain ⟨rfl, _, rfl⟩ := hv3
      have HSM := Lib.hid (HM.out _ (List.getElem_mem hlt))
      obtain ⟨u0, rfl, r0⟩ := hr
      obtain ⟨t0, rfl, s0⟩ := hr3
      have e0 := hcell 0 (by omega)
      have ed0 := hcell3 0 (by omega)
      have HLT := Lib.hid hlt
      clear hcell hcell3
      generalize xs[k]'hlt = x at *
      simp only [List.getElem?_cons_zero, Nat.add_zero, Nat.mul_one] at e0 ed0
      have R0 := Lib.hid r0
      have S0 := Lib.hid s0
      clear r0 s0
      have HP : Hid (∀ W, Below wr.heap.size wr W → Calls Try.prog 106 #[u0, t0] W (YesRes W)) := Lib.hid (fun W hW => CX.eq u0 t0 x _ _ _ _ W (R0.out.below CnN.kept hW) (S0.out.below CnN.kept hW) HSM.out)
      go_upto_region 6 with fail
      go_region_held3 (fun W' => Hid (Below wr.heap.size wr W') ∧ W'.cell? ⟨b2, o2 + k, none⟩ = some (u0) ∧ W'.cell? ⟨b3, o3 + k, none⟩ = some (t0))
        (first | assumption | exact hold2 e0 ed0 (hold_call (by assumption) (by assumption)) | exact hold2 e0 ed0 (Below.refl _ _).drew)
        (first | (go_at_call 106; refine (HP.out _ (by first | exact (by assumption : Hid (Below wr.heap.size wr _) ∧ _).1.out | exact Below.refl _ _ | exact (Below.refl _ _).drew)).mono ?_; rintro e w' ⟨rfl, hb⟩; have hle := hold_le (by assumption) hb))
      all_goals
        go_wp2_with fail
        go_roundw
        case rel => exact ⟨k + 1, by have := HLT.out; omega, by go_num, HB.out.trans ((by assumption : Hid (Below wr.heap.size wr _) ∧ _).1.out.mono HB.out.size)⟩
        case measure => have := HLT.out; simp [intOf]; omega
    · go_wp2
      go_ret
      exact ⟨rfl, HB.out⟩

set_option maxRecDepth 100000 in
set_option maxHeartbeats 2000000 in
theorem RX.sz (v : Value) (xs : List (List CN)) (left : Int) (lo hi : Nat) (w : World) (h : RX lo hi w v xs) (h0 : 0 ≤ left) (h1 : left ≤ 1048576) (hz : RX.Sz xs) : Calls Try.prog 73 #[v, .int .i64 left] w (SzRes (RX.Sm xs) w) := by
  obtain ⟨hm, hs⟩ := hz
  unfold maxLen at hm
  have HX := Lib.hid h
  have HS := Lib.hid hs
  obtain ⟨a, c, rfl⟩ := h.slice
  clear h hs
  by_cases hb : left < xs.length
  · go_enter Try.func73, Try.ntmps73
    go_wp2_with fail
    go_ret
    exact ⟨-1, rfl, by omega, by omega, by omega, Below.refl _ _⟩
  have HLE : Hid (xs.length ≤ 1048576) := Lib.hid (by omega)
  go_enter Try.func73, Try.ntmps73
  go_wp2_with fail
  go_loopw [1, 5] (fun t i wr => ∃ (k : Nat) (m : Int), k ≤ xs.length ∧ i = .int .i64 k ∧ t = .int .i64 m ∧ 0 ≤ m ∧ m ≤ 1048576 ∧ Hid (∀ x, x ∈ xs.take k → CX.Sm x) ∧ Hid (Below w.heap.size w wr)) (fun _ i _ => xs.length - (intOf i).toNat)
  case atStart => exact ⟨0, left - xs.length, Nat.zero_le _, rfl, rfl, by omega, by omega, Lib.hid (fun x hx => by simp at hx), Lib.hid (Below.refl _ _)⟩
  case round =>
    obtain ⟨k, m, hk, rfl, rfl, hm0, hm1, HQ, HB⟩ := hrel
    by_cases hlt : k < xs.length
    · obtain ⟨b2, o2, c2, cs, hv2, hc2, _, _, hr, hcell⟩ := (HX.out.below RXN.kept HB.out).get k hlt
      simp only [Value.slice.injEq] at hv2
      obtain ⟨rfl, _, rfl⟩ := hv2
      have HSZ := Lib.hid (HS.out _ (List.getElem_mem hlt))
      have HT : Hid (xs.take (k + 1) = xs.take k ++ [xs[k]'hlt]) := Lib.hid (List.take_succ_eq_append_getElem hlt)
      obtain ⟨u0, rfl, r0⟩ := hr
      have e0 := hcell 0 (by omega)
      clear hcell
      generalize xs[k]'hlt = x at *
      simp only [List.getElem?_cons_zero, Nat.add_zero, Nat.mul_one] at e0
      have HP := Lib.hid (CX.sz u0 x m _ _ wr r0 hm0 hm1 HSZ.out)
      clear r0
      go_wp2_with fail
      refine HP.out.mono ?_
      rintro e w2 ⟨z, rfl, hz0, hz1, hq, hb2⟩
      have HQ2 := Lib.hid hq
      have HB2 := Lib.hid (HB.out.trans (hb2.mono HB.out.size))
      clear hq hb2 HP
      by_cases hn : z < 0
      · go_wp2_with fail
        go_ret
        exact ⟨-1, rfl, by omega, by omega, by omega, HB2.out⟩
      · go_wp2_with fail
        go_roundw
        case rel => exact ⟨k + 1, z, by omega, by go_num, rfl, by omega, by omega, Lib.hid (fun y hy => by
          rw [HT.out] at hy
          rcases List.mem_append.1 hy with hy | hy
          · exact HQ.out y hy
          · obtain rfl := List.mem_singleton.1 hy
            exact HQ2.out (by omega)), HB2⟩
        case measure => simp [intOf]; omega
    · have HQA : Hid (∀ x, x ∈ xs → CX.Sm x) := Lib.hid (by have := HQ.out; rwa [List.take_of_length_le (by omega)] at this)
      go_wp2_with fail
      go_ret
      exact ⟨m, rfl, by omega, by omega, fun _ => ⟨HLE.out, HQA.out⟩, HB.out⟩

section
open Go.ChangeShapes Go.WideShapes Go.ChangeAt Go.Joins
theorem RX.opened {H : Type} {enc : TypeId × Value → H} {W : World} {fuel : Nat} {v : Value} {y : DataW H × List MemPlace} (hf : DataW.trod enc Try.prog W 0 (fun _ => true) true fuel 49 [v] = some y) :
    ∃ xs : List (List CN), RX 0 W.heap.size W v xs ∧ RX.Sz xs := by
  refine slN_open (Q := CX.Sz) Try.underlying49 (by kernel_rfl) (by decide) (fun n cs z h hl => ?_) hf
  match cs, hl with
  | [v0], _ =>
    obtain ⟨xs, h1, h2⟩ := CX.opened h
    exact ⟨xs, ⟨v0, rfl, h1⟩, h2⟩
end
end Go.Proofs.Ytkmjaiicobkkhaa
