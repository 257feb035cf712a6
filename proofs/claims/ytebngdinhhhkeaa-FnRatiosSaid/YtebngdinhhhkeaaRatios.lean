/-
  Proved: for every text of bytes, the law FnRatios returns true: of the ratios drawn from it sums and products do not depend on the order, quotients and sums are undone, and comparisons agree both ways. The text reads afterwards as before. No condition.
-/
import Derived.Test.YtebngdinhhhkeaaRows
import Derived.Test.YtebngdinhhhkeaaCodeKit
import Derived.Test.YtebngdinhhhkeaaHold
import Derived.Test.YtebngdinhhhkeaaRatIsKit
import Derived.Test.YtebngdinhhhkeaaRatFacts
import Derived.Test.YtebngdinhhhkeaaRatDraw2
import Derived.BigRegion
import Derived.IntWalk
import Derived.Deep.RegionHeld3
import Derived.Deep.DeepCutAuto
import Derived.WalkKit
import Derived.ProofKit
import Derived.OpenShut
import Derived.Carry
import Derived.Deep.DeepHandedRow
import Derived.Lib.Hide
namespace Go.Proofs.Ytebngdinhhhkeaa.rat.ratios
open Go.ChangeShapes Go.WideShapes Go.ChangeAt Go.RowKit
open Go.ChangeMaps (open_string shut_string)

theorem own : ownKnob Try.prog.godebug = none := by kernel_rfl
theorem laidOut : laidOutB Try.prog = true := by kernel_rfl
theorem pair_ne {a b c d : Int} (h : ¬ (a = c ∧ b = d)) : a ≠ c ∨ (a = c ∧ b ≠ d) := by
  by_cases e : a = c
  · exact Or.inr ⟨e, fun e2 => h ⟨e, e2⟩⟩
  · exact Or.inl e

set_option linter.unusedSimpArgs false in
set_option maxRecDepth 100000 in
set_option maxHeartbeats 2000000 in
theorem law_walk (a : Option Addr) (n c : Nat) (w : World) (hm : n ≤ maxLen) (hcode : CodeAt w.heap.size w a n) :
    Calls Try.prog 3 #[.slice a n c] w fun e w' => e = .returned (.bool true) ∧ Below w.heap.size w w' := by
  have hm2 := hm
  unfold maxLen at hm2
  have HC := Lib.hid hcode
  clear hcode
  by_cases hbig : 1048576 < n
  · go_enter Try.func3, Try.ntmps3
    go_wp2_with (first | (go_at_call 14; go_in) | fail)
    go_ret
    exact ⟨rfl, Below.refl _ _⟩
  have hn : n ≤ 1048576 := by omega
  go_enter Try.func3, Try.ntmps3
  go_wp2_with (first | (go_at_call 14; go_in) | fail)
  refine (draw_addRatios a n c _ hn HC.out).mono ?_
  rintro e w1 ⟨a1, a2, b1, b2, rfl, hb⟩
  have B1 := Lib.hid (((hb.alloc hb.size (.cells #[.int .i64 a1, .int .i64 a2] 25))).alloc (by have := hb.size; simp; omega) (.cells #[.int .i64 b1, .int .i64 b2] 25))
  have HA := Lib.hid (heap_alloc2_old w1 (.cells #[.int .i64 a1, .int .i64 a2] 25) (.cells #[.int .i64 b1, .int .i64 b2] 25))
  have HB := Lib.hid (heap_alloc2_new w1 (.cells #[.int .i64 a1, .int .i64 a2] 25) (.cells #[.int .i64 b1, .int .i64 b2] 25))
  clear hb
  go_wp2_with fail
  have hB1 := B1.out
  generalize (w1.alloc (.cells #[.int .i64 a1, .int .i64 a2] 25)).alloc (.cells #[.int .i64 b1, .int .i64 b2] 25) = V1 at *
  refine (draw_divideRatios a n c _ hn ((HC.out.below hB1).mono hB1.size)).mono ?_
  rintro e w2 ⟨c1, c2, d1, d2, rfl, hb⟩
  have B2 := Lib.hid (((hB1.trans (hb.mono hB1.size)).alloc (by have := hb.size; have := hB1.size; omega) (.cells #[.int .i64 c1, .int .i64 c2] 25)).alloc (by have := hb.size; have := hB1.size; simp; omega) (.cells #[.int .i64 d1, .int .i64 d2] 25))
  have HA2 := Lib.hid (blk_alloc (blk_alloc (blk_below HA.out hb) (.cells #[.int .i64 c1, .int .i64 c2] 25)) (.cells #[.int .i64 d1, .int .i64 d2] 25))
  have HB2 := Lib.hid (blk_alloc (blk_alloc (blk_below HB.out hb) (.cells #[.int .i64 c1, .int .i64 c2] 25)) (.cells #[.int .i64 d1, .int .i64 d2] 25))
  have HCC := Lib.hid (heap_alloc2_old w2 (.cells #[.int .i64 c1, .int .i64 c2] 25) (.cells #[.int .i64 d1, .int .i64 d2] 25))
  have HD := Lib.hid (heap_alloc2_new w2 (.cells #[.int .i64 c1, .int .i64 c2] 25) (.cells #[.int .i64 d1, .int .i64 d2] 25))
  clear hb hB1 HA HB B1
  obtain ⟨s1, s2, HS⟩ : ∃ x y, Hid (addR a1 a2 b1 b2 = (x, y)) := ⟨_, _, Lib.hid rfl⟩
  obtain ⟨m1, m2, HM⟩ : ∃ x y, Hid (mulR a1 a2 b1 b2 = (x, y)) := ⟨_, _, Lib.hid rfl⟩
  obtain ⟨q1, q2, HQ⟩ : ∃ x y, Hid (divR c1 c2 d1 d2 = (x, y)) := ⟨_, _, Lib.hid rfl⟩
  have HS2 : Hid (addR b1 b2 a1 a2 = (s1, s2)) := Lib.hid ((addR_comm _ _ _ _).trans HS.out)
  have HM2 : Hid (mulR b1 b2 a1 a2 = (m1, m2)) := Lib.hid ((mulR_comm _ _ _ _).trans HM.out)
  go_upto_region 5 with fail
  generalize (w2.alloc (.cells #[.int .i64 c1, .int .i64 c2] 25)).alloc (.cells #[.int .i64 d1, .int .i64 d2] 25) = V at *
  have kc0 := cell_of_row _ _ 0 _ _ _ HA2.out
  have kc1 := cell_of_row _ _ 1 _ _ _ HA2.out
  have kc2 := cell_of_row _ _ 0 _ _ _ HB2.out
  have kc3 := cell_of_row _ _ 1 _ _ _ HB2.out
  go_cut [38] (fun s38 wx => s38 = .bool false ∧ Hid (Below V.heap.size V wx))
  case first =>
    refine wp_region_noPanic ?_
    refine wp_region_held_drew (S := (fun W' => Hid (Below V.heap.size V W') ∧ W'.cell? ⟨w1.heap.size, 0, none⟩ = some (.int .i64 a1) ∧ W'.cell? ⟨w1.heap.size, 1, none⟩ = some (.int .i64 a2) ∧ W'.cell? ⟨w1.heap.size + 1, 0, none⟩ = some (.int .i64 b1) ∧ W'.cell? ⟨w1.heap.size + 1, 1, none⟩ = some (.int .i64 b2))) (by kernel_rfl) (hold4 kc0 kc1 kc2 kc3 (Below.refl _ _).drew) (fun hHeld => ?_)
    refine wpAnyH_take (i := 0) (oi := { dst := some 23, op := Op.load 25 (Operand.tmp 3), type := 25, pos := _, after := #[], guard := none }) (v := ?vp1) rfl (by kernel_rfl) (by kernel_rfl) (by kernel_rfl) (fun _ _ _ h => h) (Or.inl ⟨by rfl, ?yp1⟩) (by assumption) ?rp1
    case yp1 => (intro w' hSw; (try dsimp only at hSw); go_simp; (try with_reducible rfl))
    (try simp only [Act.put, List.setIfInBounds_toArray, List.set_cons_zero, List.set_cons_succ])
    refine wpAnyH_take (i := 1) (oi := { dst := some 24, op := Op.load 25 (Operand.tmp 4), type := 25, pos := _, after := #[], guard := none }) (v := ?vp2) rfl (by kernel_rfl) (by kernel_rfl) (by kernel_rfl) (fun _ _ _ h => h) (Or.inl ⟨by rfl, ?yp2⟩) (by assumption) ?rp2
    case yp2 => (intro w' hSw; (try dsimp only at hSw); go_simp; (try with_reducible rfl))
    (try simp only [Act.put, List.setIfInBounds_toArray, List.set_cons_zero, List.set_cons_succ])
    refine wpAnyH_take (i := 3) (oi := { dst := some 26, op := Op.load 25 (Operand.tmp 4), type := 25, pos := _, after := #[], guard := none }) (v := ?vp3) rfl (by kernel_rfl) (by kernel_rfl) (by kernel_rfl) (fun _ _ _ h => h) (Or.inl ⟨by rfl, ?yp3⟩) (by assumption) ?rp3
    case yp3 => (intro w' hSw; (try dsimp only at hSw); go_simp; (try with_reducible rfl))
    (try simp only [Act.put, List.setIfInBounds_toArray, List.set_cons_zero, List.set_cons_succ])
    refine wpAnyH_take (i := 4) (oi := { dst := some 27, op := Op.load 25 (Operand.tmp 3), type := 25, pos := _, after := #[], guard := none }) (v := ?vp4) rfl (by kernel_rfl) (by kernel_rfl) (by kernel_rfl) (fun _ _ _ h => h) (Or.inl ⟨by rfl, ?yp4⟩) (by assumption) ?rp4
    case yp4 => (intro w' hSw; (try dsimp only at hSw); go_simp; (try with_reducible rfl))
    (try simp only [Act.put, List.setIfInBounds_toArray, List.set_cons_zero, List.set_cons_succ])
    refine wpAnyH_ready (rs := [2]) (by kernel_rfl) (by simp) ?_
    refine AllReadyH.cons (o := { dst := some 25, op := Op.call { callee := Callee.value (Operand.func 17), args := #[Operand.tmp 23, Operand.tmp 24], argTypes := #[25, 25] }, type := 25, pos := _, after := #[{ on := 0, ground := Ground.data }, { on := 1, ground := Ground.data }], guard := none }) rfl (fun K hK => ?_) AllReadyH.nil
    go_simp
    refine (impl_add_is a1 a2 b1 b2 _ s1 s2 HS.out).mono ?_; rintro e w' ⟨rfl, hb⟩
    (try go_wp2_with fail)
    refine hK.out _ _ ?_ (fun hHeld => ?_)
    · (try dsimp only); first | assumption | exact hold4 kc0 kc1 kc2 kc3 (hold_call (by assumption) (by assumption))
    clear hK K
    (try simp only [Act.put, List.setIfInBounds_toArray, List.set_cons_zero, List.set_cons_succ])
    refine wpAnyH_ready (rs := [5]) (by kernel_rfl) (by simp) ?_
    refine AllReadyH.cons (o := { dst := some 28, op := Op.call { callee := Callee.value (Operand.func 17), args := #[Operand.tmp 26, Operand.tmp 27], argTypes := #[25, 25] }, type := 25, pos := _, after := #[{ on := 3, ground := Ground.data }, { on := 4, ground := Ground.data }, { on := 2, ground := Ground.chain }], guard := none }) rfl (fun K hK => ?_) AllReadyH.nil
    go_simp
    refine (impl_add_is b1 b2 a1 a2 _ s1 s2 HS2.out).mono ?_; rintro e w' ⟨rfl, hb⟩
    (try go_wp2_with fail)
    refine hK.out _ _ ?_ (fun hHeld => ?_)
    · (try dsimp only); first | assumption | exact hold4 kc0 kc1 kc2 kc3 (hold_call (by assumption) (by assumption))
    clear hK K
    (try simp only [Act.put, List.setIfInBounds_toArray, List.set_cons_zero, List.set_cons_succ])
    refine wpAnyH_take (i := 6) (oi := { dst := some 29, op := Op.binOp BinOp.neq 25 (Operand.tmp 25) (Operand.tmp 28) 25, type := 4, pos := _, after := #[{ on := 2, ground := Ground.data }, { on := 5, ground := Ground.data }], guard := none }) (v := ?vp5) rfl (by kernel_rfl) (by kernel_rfl) (by kernel_rfl) (fun _ _ _ h => h) (Or.inl ⟨by rfl, ?yp5⟩) (by assumption) ?rp5
    case yp5 => (intro w' hSw; (try dsimp only at hSw); go_simp; (try with_reducible rfl))
    (try simp only [Act.put, List.setIfInBounds_toArray, List.set_cons_zero, List.set_cons_succ])
    refine wpAnyH_take (i := 7) (oi := { dst := some 30, op := Op.move (Operand.tmp 29), type := 4, pos := _, after := #[{ on := 6, ground := Ground.data }, { on := 5, ground := Ground.chain }], guard := none }) (v := ?vp6) rfl (by kernel_rfl) (by kernel_rfl) (by kernel_rfl) (fun _ _ _ h => h) (Or.inl ⟨by rfl, ?yp6⟩) (by assumption) ?rp6
    case yp6 => (intro w' hSw; (try dsimp only at hSw); go_simp; (try with_reducible rfl))
    (try simp only [Act.put, List.setIfInBounds_toArray, List.set_cons_zero, List.set_cons_succ])
    refine wpAnyH_take (i := 8) (oi := { dst := some 31, op := Op.load 25 (Operand.tmp 3), type := 25, pos := _, after := #[{ on := 7, ground := Ground.guard }], guard := some (7, false) }) (v := ?vp7) rfl (by kernel_rfl) (by kernel_rfl) (by kernel_rfl) (fun _ _ _ h => h) (Or.inl ⟨by rfl, ?yp7⟩) (by assumption) ?rp7
    case yp7 => (intro w' hSw; (try dsimp only at hSw); go_simp; (try with_reducible rfl))
    (try simp only [Act.put, List.setIfInBounds_toArray, List.set_cons_zero, List.set_cons_succ])
    refine wpAnyH_take (i := 9) (oi := { dst := some 32, op := Op.load 25 (Operand.tmp 4), type := 25, pos := _, after := #[{ on := 7, ground := Ground.guard }], guard := some (7, false) }) (v := ?vp8) rfl (by kernel_rfl) (by kernel_rfl) (by kernel_rfl) (fun _ _ _ h => h) (Or.inl ⟨by rfl, ?yp8⟩) (by assumption) ?rp8
    case yp8 => (intro w' hSw; (try dsimp only at hSw); go_simp; (try with_reducible rfl))
    (try simp only [Act.put, List.setIfInBounds_toArray, List.set_cons_zero, List.set_cons_succ])
    refine wpAnyH_take (i := 11) (oi := { dst := some 34, op := Op.load 25 (Operand.tmp 4), type := 25, pos := _, after := #[{ on := 7, ground := Ground.guard }], guard := some (7, false) }) (v := ?vp9) rfl (by kernel_rfl) (by kernel_rfl) (by kernel_rfl) (fun _ _ _ h => h) (Or.inl ⟨by rfl, ?yp9⟩) (by assumption) ?rp9
    case yp9 => (intro w' hSw; (try dsimp only at hSw); go_simp; (try with_reducible rfl))
    (try simp only [Act.put, List.setIfInBounds_toArray, List.set_cons_zero, List.set_cons_succ])
    refine wpAnyH_take (i := 12) (oi := { dst := some 35, op := Op.load 25 (Operand.tmp 3), type := 25, pos := _, after := #[{ on := 7, ground := Ground.guard }], guard := some (7, false) }) (v := ?vp10) rfl (by kernel_rfl) (by kernel_rfl) (by kernel_rfl) (fun _ _ _ h => h) (Or.inl ⟨by rfl, ?yp10⟩) (by assumption) ?rp10
    case yp10 => (intro w' hSw; (try dsimp only at hSw); go_simp; (try with_reducible rfl))
    (try simp only [Act.put, List.setIfInBounds_toArray, List.set_cons_zero, List.set_cons_succ])
    refine wpAnyH_ready (rs := [10]) (by kernel_rfl) (by simp) ?_
    refine AllReadyH.cons (o := { dst := some 33, op := Op.call { callee := Callee.value (Operand.func 18), args := #[Operand.tmp 31, Operand.tmp 32], argTypes := #[25, 25] }, type := 25, pos := _, after := #[{ on := 8, ground := Ground.data }, { on := 9, ground := Ground.data }, { on := 7, ground := Ground.chain }, { on := 7, ground := Ground.guard }], guard := some (7, false) }) rfl (fun K hK => ?_) AllReadyH.nil
    go_simp
    refine (impl_mul_is a1 a2 b1 b2 _ m1 m2 HM.out).mono ?_; rintro e w' ⟨rfl, hb⟩
    (try go_wp2_with fail)
    refine hK.out _ _ ?_ (fun hHeld => ?_)
    · (try dsimp only); first | assumption | exact hold4 kc0 kc1 kc2 kc3 (hold_call (by assumption) (by assumption))
    clear hK K
    (try simp only [Act.put, List.setIfInBounds_toArray, List.set_cons_zero, List.set_cons_succ])
    refine wpAnyH_ready (rs := [13]) (by kernel_rfl) (by simp) ?_
    refine AllReadyH.cons (o := { dst := some 36, op := Op.call { callee := Callee.value (Operand.func 18), args := #[Operand.tmp 34, Operand.tmp 35], argTypes := #[25, 25] }, type := 25, pos := _, after := #[{ on := 11, ground := Ground.data }, { on := 12, ground := Ground.data }, { on := 10, ground := Ground.chain }, { on := 7, ground := Ground.guard }], guard := some (7, false) }) rfl (fun K hK => ?_) AllReadyH.nil
    go_simp
    refine (impl_mul_is b1 b2 a1 a2 _ m1 m2 HM2.out).mono ?_; rintro e w' ⟨rfl, hb⟩
    (try go_wp2_with fail)
    refine hK.out _ _ ?_ (fun hHeld => ?_)
    · (try dsimp only); first | assumption | exact hold4 kc0 kc1 kc2 kc3 (hold_call (by assumption) (by assumption))
    clear hK K
    (try simp only [Act.put, List.setIfInBounds_toArray, List.set_cons_zero, List.set_cons_succ])
    refine wpAnyH_take (i := 14) (oi := { dst := some 37, op := Op.binOp BinOp.neq 25 (Operand.tmp 33) (Operand.tmp 36) 25, type := 4, pos := _, after := #[{ on := 10, ground := Ground.data }, { on := 13, ground := Ground.data }, { on := 7, ground := Ground.guard }], guard := some (7, false) }) (v := ?vp11) rfl (by kernel_rfl) (by kernel_rfl) (by kernel_rfl) (fun _ _ _ h => h) (Or.inl ⟨by rfl, ?yp11⟩) (by assumption) ?rp11
    case yp11 => (intro w' hSw; (try dsimp only at hSw); go_simp; (try with_reducible rfl))
    (try simp only [Act.put, List.setIfInBounds_toArray, List.set_cons_zero, List.set_cons_succ])
    refine wpAnyH_take (i := 15) (oi := { dst := some 38, op := Op.pick (Operand.tmp 30) (Operand.const (Value.bool true)) (Operand.tmp 37), type := 4, pos := _, after := #[{ on := 7, ground := Ground.data }, { on := 14, ground := Ground.data }], guard := none }) (v := ?vp12) rfl (by kernel_rfl) (by kernel_rfl) (by kernel_rfl) (fun _ _ _ h => h) (Or.inl ⟨by rfl, ?yp12⟩) (by assumption) ?rp12
    case yp12 => (intro w' hSw; (try dsimp only at hSw); go_simp; (try with_reducible rfl))
    (try simp only [Act.put, List.setIfInBounds_toArray, List.set_cons_zero, List.set_cons_succ])
    refine wpAnyH_done (by kernel_rfl) ?_ _
    refine NoPanic.normal ?_
    have hfin := (by assumption : Hid (Below V.heap.size V _) ∧ _).1
    go_wp2_with fail
    go_meet
    exact ⟨rfl, hfin⟩
  obtain ⟨rfl, HV⟩ := hcut
  have HA3 := Lib.hid (blk_below HA2.out HV.out)
  have HB3 := Lib.hid (blk_below HB2.out HV.out)
  have HC3 := Lib.hid (blk_below HCC.out HV.out)
  have HD3 := Lib.hid (blk_below HD.out HV.out)
  have B3 := Lib.hid (B2.out.trans (HV.out.mono B2.out.size))
  clear kc0 kc1 kc2 kc3 HA2 HB2 HCC HD HV B2
  rename World => V3
  have kc0 := cell_of_row _ _ 0 _ _ _ HC3.out
  have kc1 := cell_of_row _ _ 1 _ _ _ HC3.out
  have kc2 := cell_of_row _ _ 0 _ _ _ HD3.out
  have kc3 := cell_of_row _ _ 1 _ _ _ HD3.out
  go_wp2_with fail
  refine (impl_div_is c1 c2 d1 d2 _ q1 q2 HQ.out).mono ?_
  rintro e w3 ⟨rfl, hb⟩
  have B4 := Lib.hid ((B3.out.trans (hb.mono B3.out.size)).alloc (by have := hb.size; have := B3.out.size; omega) (.cells #[.int .i64 q1, .int .i64 q2] 25))
  have HA4 := Lib.hid (blk_alloc (blk_below HA3.out hb) (.cells #[.int .i64 q1, .int .i64 q2] 25))
  have HB4 := Lib.hid (blk_alloc (blk_below HB3.out hb) (.cells #[.int .i64 q1, .int .i64 q2] 25))
  have HC4 := Lib.hid (blk_alloc (blk_below HC3.out hb) (.cells #[.int .i64 q1, .int .i64 q2] 25))
  have HD4 := Lib.hid (blk_alloc (blk_below HD3.out hb) (.cells #[.int .i64 q1, .int .i64 q2] 25))
  have HQ4 := Lib.hid (heap_alloc_new w3 (.cells #[.int .i64 q1, .int .i64 q2] 25))
  clear hb kc0 kc1 kc2 kc3 HA3 HB3 HC3 HD3 B3
  go_upto_region 8 with fail
  generalize w3.alloc (.cells #[.int .i64 q1, .int .i64 q2] 25) = V4 at *
  have kc0 := cell_of_row _ _ 0 _ _ _ HQ4.out
  have kc1 := cell_of_row _ _ 1 _ _ _ HQ4.out
  have kc2 := cell_of_row _ _ 0 _ _ _ HC4.out
  have kc3 := cell_of_row _ _ 1 _ _ _ HC4.out
  have kc4 := cell_of_row _ _ 0 _ _ _ HD4.out
  have kc5 := cell_of_row _ _ 1 _ _ _ HD4.out
  obtain ⟨kq, HQK⟩ : ∃ b, Hid (okB q1 q2 = b) := ⟨_, Lib.hid rfl⟩
  go_cut [50] (fun s50 wx => s50 = .bool false ∧ Hid (Below V4.heap.size V4 wx))
  case first =>
    cases kq
    · skip
      refine wp_region_noPanic ?_
      refine wp_region_held_drew (S := (fun W' => Hid (Below V4.heap.size V4 W') ∧ W'.cell? ⟨w3.heap.size, 0, none⟩ = some (.int .i64 q1) ∧ W'.cell? ⟨w3.heap.size, 1, none⟩ = some (.int .i64 q2) ∧ W'.cell? ⟨w2.heap.size, 0, none⟩ = some (.int .i64 c1) ∧ W'.cell? ⟨w2.heap.size, 1, none⟩ = some (.int .i64 c2) ∧ W'.cell? ⟨w2.heap.size + 1, 0, none⟩ = some (.int .i64 d1) ∧ W'.cell? ⟨w2.heap.size + 1, 1, none⟩ = some (.int .i64 d2))) (by kernel_rfl) (hold6 kc0 kc1 kc2 kc3 kc4 kc5 (Below.refl _ _).drew) (fun hHeld => ?_)
      refine wpAnyH_take (i := 0) (oi := { dst := some 42, op := Op.load 25 (Operand.tmp 7), type := 25, pos := _, after := #[], guard := none }) (v := ?vq1) rfl (by kernel_rfl) (by kernel_rfl) (by kernel_rfl) (fun _ _ _ h => h) (Or.inl ⟨by rfl, ?yq1⟩) (by assumption) ?rq1
      case yq1 => (intro w' hSw; (try dsimp only at hSw); go_simp; (try with_reducible rfl))
      (try simp only [Act.put, List.setIfInBounds_toArray, List.set_cons_zero, List.set_cons_succ])
      refine wpAnyH_ready (rs := [1]) (by kernel_rfl) (by simp) ?_
      refine AllReadyH.cons (o := { dst := some 43, op := Op.call { callee := Callee.value (Operand.func 20), args := #[Operand.tmp 42], argTypes := #[25] }, type := 4, pos := _, after := #[{ on := 0, ground := Ground.data }], guard := none }) rfl (fun K hK => ?_) AllReadyH.nil
      go_simp
      refine (spec_isRatio_is q1 q2 _ _ HQK.out).mono ?_; rintro e w' ⟨rfl, hb⟩
      (try go_wp2_with fail)
      refine hK.out _ _ ?_ (fun hHeld => ?_)
      · (try dsimp only); first | assumption | exact hold6 kc0 kc1 kc2 kc3 kc4 kc5 (hold_call (by assumption) (by assumption))
      clear hK K
      (try simp only [Act.put, List.setIfInBounds_toArray, List.set_cons_zero, List.set_cons_succ])
      refine wpAnyH_take (i := 2) (oi := { dst := some 44, op := Op.move (Operand.tmp 43), type := 4, pos := _, after := #[{ on := 1, ground := Ground.data }, { on := 1, ground := Ground.chain }], guard := none }) (v := ?vq2) rfl (by kernel_rfl) (by kernel_rfl) (by kernel_rfl) (fun _ _ _ h => h) (Or.inl ⟨by rfl, ?yq2⟩) (by assumption) ?rq2
      case yq2 => (intro w' hSw; (try dsimp only at hSw); go_simp; (try with_reducible rfl))
      (try simp only [Act.put, List.setIfInBounds_toArray, List.set_cons_zero, List.set_cons_succ])
      refine wpAnyH_take (i := 3) (oi := { dst := some 45, op := Op.load 25 (Operand.tmp 7), type := 25, pos := _, after := #[{ on := 2, ground := Ground.guard }], guard := some (2, true) }) (v := undef) rfl (by kernel_rfl) (by kernel_rfl) (by kernel_rfl) (fun _ _ _ h => h) (Or.inr ⟨by rfl, rfl⟩) (by assumption) ?_
      (try simp only [Act.put, List.setIfInBounds_toArray, List.set_cons_zero, List.set_cons_succ])
      refine wpAnyH_take (i := 4) (oi := { dst := some 46, op := Op.load 25 (Operand.tmp 6), type := 25, pos := _, after := #[{ on := 2, ground := Ground.guard }], guard := some (2, true) }) (v := undef) rfl (by kernel_rfl) (by kernel_rfl) (by kernel_rfl) (fun _ _ _ h => h) (Or.inr ⟨by rfl, rfl⟩) (by assumption) ?_
      (try simp only [Act.put, List.setIfInBounds_toArray, List.set_cons_zero, List.set_cons_succ])
      refine wpAnyH_take (i := 5) (oi := { dst := some 47, op := Op.call { callee := Callee.value (Operand.func 18), args := #[Operand.tmp 45, Operand.tmp 46], argTypes := #[25, 25] }, type := 25, pos := _, after := #[{ on := 3, ground := Ground.data }, { on := 4, ground := Ground.data }, { on := 2, ground := Ground.chain }, { on := 2, ground := Ground.guard }], guard := some (2, true) }) (v := undef) rfl (by kernel_rfl) (by kernel_rfl) (by kernel_rfl) (fun _ _ _ h => h) (Or.inr ⟨by rfl, rfl⟩) (by assumption) ?_
      (try simp only [Act.put, List.setIfInBounds_toArray, List.set_cons_zero, List.set_cons_succ])
      refine wpAnyH_take (i := 6) (oi := { dst := some 48, op := Op.load 25 (Operand.tmp 5), type := 25, pos := _, after := #[{ on := 2, ground := Ground.guard }], guard := some (2, true) }) (v := undef) rfl (by kernel_rfl) (by kernel_rfl) (by kernel_rfl) (fun _ _ _ h => h) (Or.inr ⟨by rfl, rfl⟩) (by assumption) ?_
      (try simp only [Act.put, List.setIfInBounds_toArray, List.set_cons_zero, List.set_cons_succ])
      refine wpAnyH_take (i := 7) (oi := { dst := some 49, op := Op.binOp BinOp.neq 25 (Operand.tmp 47) (Operand.tmp 48) 25, type := 4, pos := _, after := #[{ on := 5, ground := Ground.data }, { on := 6, ground := Ground.data }, { on := 2, ground := Ground.guard }], guard := some (2, true) }) (v := undef) rfl (by kernel_rfl) (by kernel_rfl) (by kernel_rfl) (fun _ _ _ h => h) (Or.inr ⟨by rfl, rfl⟩) (by assumption) ?_
      (try simp only [Act.put, List.setIfInBounds_toArray, List.set_cons_zero, List.set_cons_succ])
      refine wpAnyH_take (i := 8) (oi := { dst := some 50, op := Op.pick (Operand.tmp 44) (Operand.tmp 49) (Operand.const (Value.bool false)), type := 4, pos := _, after := #[{ on := 2, ground := Ground.data }, { on := 7, ground := Ground.data }], guard := none }) (v := ?vq3) rfl (by kernel_rfl) (by kernel_rfl) (by kernel_rfl) (fun _ _ _ h => h) (Or.inl ⟨by rfl, ?yq3⟩) (by assumption) ?rq3
      case yq3 => (intro w' hSw; (try dsimp only at hSw); go_simp; (try with_reducible rfl))
      (try simp only [Act.put, List.setIfInBounds_toArray, List.set_cons_zero, List.set_cons_succ])
      refine wpAnyH_done (by kernel_rfl) ?_ _
      refine NoPanic.normal ?_
      have hfin := (by assumption : Hid (Below V4.heap.size V4 _) ∧ _).1
      go_wp2_with fail
      go_meet
      exact ⟨rfl, hfin⟩
    · have HQM : Hid (mulR q1 q2 d1 d2 = (c1, c2)) := Lib.hid (div_mul HQ.out HQK.out)
      refine wp_region_noPanic ?_
      refine wp_region_held_drew (S := (fun W' => Hid (Below V4.heap.size V4 W') ∧ W'.cell? ⟨w3.heap.size, 0, none⟩ = some (.int .i64 q1) ∧ W'.cell? ⟨w3.heap.size, 1, none⟩ = some (.int .i64 q2) ∧ W'.cell? ⟨w2.heap.size, 0, none⟩ = some (.int .i64 c1) ∧ W'.cell? ⟨w2.heap.size, 1, none⟩ = some (.int .i64 c2) ∧ W'.cell? ⟨w2.heap.size + 1, 0, none⟩ = some (.int .i64 d1) ∧ W'.cell? ⟨w2.heap.size + 1, 1, none⟩ = some (.int .i64 d2))) (by kernel_rfl) (hold6 kc0 kc1 kc2 kc3 kc4 kc5 (Below.refl _ _).drew) (fun hHeld => ?_)
      refine wpAnyH_take (i := 0) (oi := { dst := some 42, op := Op.load 25 (Operand.tmp 7), type := 25, pos := _, after := #[], guard := none }) (v := ?vr1) rfl (by kernel_rfl) (by kernel_rfl) (by kernel_rfl) (fun _ _ _ h => h) (Or.inl ⟨by rfl, ?yr1⟩) (by assumption) ?rr1
      case yr1 => (intro w' hSw; (try dsimp only at hSw); go_simp; (try with_reducible rfl))
      (try simp only [Act.put, List.setIfInBounds_toArray, List.set_cons_zero, List.set_cons_succ])
      refine wpAnyH_ready (rs := [1]) (by kernel_rfl) (by simp) ?_
      refine AllReadyH.cons (o := { dst := some 43, op := Op.call { callee := Callee.value (Operand.func 20), args := #[Operand.tmp 42], argTypes := #[25] }, type := 4, pos := _, after := #[{ on := 0, ground := Ground.data }], guard := none }) rfl (fun K hK => ?_) AllReadyH.nil
      go_simp
      refine (spec_isRatio_is q1 q2 _ _ HQK.out).mono ?_; rintro e w' ⟨rfl, hb⟩
      (try go_wp2_with fail)
      refine hK.out _ _ ?_ (fun hHeld => ?_)
      · (try dsimp only); first | assumption | exact hold6 kc0 kc1 kc2 kc3 kc4 kc5 (hold_call (by assumption) (by assumption))
      clear hK K
      (try simp only [Act.put, List.setIfInBounds_toArray, List.set_cons_zero, List.set_cons_succ])
      refine wpAnyH_take (i := 2) (oi := { dst := some 44, op := Op.move (Operand.tmp 43), type := 4, pos := _, after := #[{ on := 1, ground := Ground.data }, { on := 1, ground := Ground.chain }], guard := none }) (v := ?vr2) rfl (by kernel_rfl) (by kernel_rfl) (by kernel_rfl) (fun _ _ _ h => h) (Or.inl ⟨by rfl, ?yr2⟩) (by assumption) ?rr2
      case yr2 => (intro w' hSw; (try dsimp only at hSw); go_simp; (try with_reducible rfl))
      (try simp only [Act.put, List.setIfInBounds_toArray, List.set_cons_zero, List.set_cons_succ])
      refine wpAnyH_take (i := 3) (oi := { dst := some 45, op := Op.load 25 (Operand.tmp 7), type := 25, pos := _, after := #[{ on := 2, ground := Ground.guard }], guard := some (2, true) }) (v := ?vr3) rfl (by kernel_rfl) (by kernel_rfl) (by kernel_rfl) (fun _ _ _ h => h) (Or.inl ⟨by rfl, ?yr3⟩) (by assumption) ?rr3
      case yr3 => (intro w' hSw; (try dsimp only at hSw); go_simp; (try with_reducible rfl))
      (try simp only [Act.put, List.setIfInBounds_toArray, List.set_cons_zero, List.set_cons_succ])
      refine wpAnyH_take (i := 4) (oi := { dst := some 46, op := Op.load 25 (Operand.tmp 6), type := 25, pos := _, after := #[{ on := 2, ground := Ground.guard }], guard := some (2, true) }) (v := ?vr4) rfl (by kernel_rfl) (by kernel_rfl) (by kernel_rfl) (fun _ _ _ h => h) (Or.inl ⟨by rfl, ?yr4⟩) (by assumption) ?rr4
      case yr4 => (intro w' hSw; (try dsimp only at hSw); go_simp; (try with_reducible rfl))
      (try simp only [Act.put, List.setIfInBounds_toArray, List.set_cons_zero, List.set_cons_succ])
      refine wpAnyH_take (i := 6) (oi := { dst := some 48, op := Op.load 25 (Operand.tmp 5), type := 25, pos := _, after := #[{ on := 2, ground := Ground.guard }], guard := some (2, true) }) (v := ?vr5) rfl (by kernel_rfl) (by kernel_rfl) (by kernel_rfl) (fun _ _ _ h => h) (Or.inl ⟨by rfl, ?yr5⟩) (by assumption) ?rr5
      case yr5 => (intro w' hSw; (try dsimp only at hSw); go_simp; (try with_reducible rfl))
      (try simp only [Act.put, List.setIfInBounds_toArray, List.set_cons_zero, List.set_cons_succ])
      refine wpAnyH_ready (rs := [5]) (by kernel_rfl) (by simp) ?_
      refine AllReadyH.cons (o := { dst := some 47, op := Op.call { callee := Callee.value (Operand.func 18), args := #[Operand.tmp 45, Operand.tmp 46], argTypes := #[25, 25] }, type := 25, pos := _, after := #[{ on := 3, ground := Ground.data }, { on := 4, ground := Ground.data }, { on := 2, ground := Ground.chain }, { on := 2, ground := Ground.guard }], guard := some (2, true) }) rfl (fun K hK => ?_) AllReadyH.nil
      go_simp
      refine (impl_mul_is q1 q2 d1 d2 _ c1 c2 HQM.out).mono ?_; rintro e w' ⟨rfl, hb⟩
      (try go_wp2_with fail)
      refine hK.out _ _ ?_ (fun hHeld => ?_)
      · (try dsimp only); first | assumption | exact hold6 kc0 kc1 kc2 kc3 kc4 kc5 (hold_call (by assumption) (by assumption))
      clear hK K
      (try simp only [Act.put, List.setIfInBounds_toArray, List.set_cons_zero, List.set_cons_succ])
      refine wpAnyH_take (i := 7) (oi := { dst := some 49, op := Op.binOp BinOp.neq 25 (Operand.tmp 47) (Operand.tmp 48) 25, type := 4, pos := _, after := #[{ on := 5, ground := Ground.data }, { on := 6, ground := Ground.data }, { on := 2, ground := Ground.guard }], guard := some (2, true) }) (v := ?vr6) rfl (by kernel_rfl) (by kernel_rfl) (by kernel_rfl) (fun _ _ _ h => h) (Or.inl ⟨by rfl, ?yr6⟩) (by assumption) ?rr6
      case yr6 => (intro w' hSw; (try dsimp only at hSw); go_simp; (try with_reducible rfl))
      (try simp only [Act.put, List.setIfInBounds_toArray, List.set_cons_zero, List.set_cons_succ])
      refine wpAnyH_take (i := 8) (oi := { dst := some 50, op := Op.pick (Operand.tmp 44) (Operand.tmp 49) (Operand.const (Value.bool false)), type := 4, pos := _, after := #[{ on := 2, ground := Ground.data }, { on := 7, ground := Ground.data }], guard := none }) (v := ?vr7) rfl (by kernel_rfl) (by kernel_rfl) (by kernel_rfl) (fun _ _ _ h => h) (Or.inl ⟨by rfl, ?yr7⟩) (by assumption) ?rr7
      case yr7 => (intro w' hSw; (try dsimp only at hSw); go_simp; (try with_reducible rfl))
      (try simp only [Act.put, List.setIfInBounds_toArray, List.set_cons_zero, List.set_cons_succ])
      refine wpAnyH_done (by kernel_rfl) ?_ _
      refine NoPanic.normal ?_
      have hfin := (by assumption : Hid (Below V4.heap.size V4 _) ∧ _).1
      go_wp2_with fail
      go_meet
      exact ⟨rfl, hfin⟩
  obtain ⟨rfl, HV⟩ := hcut
  have HA5 := Lib.hid (blk_below HA4.out HV.out)
  have HB5 := Lib.hid (blk_below HB4.out HV.out)
  have B5 := Lib.hid (B4.out.trans (HV.out.mono B4.out.size))
  clear kc0 kc1 kc2 kc3 kc4 kc5 HA4 HB4 HC4 HD4 HQ4 HV B4
  rename World => V5
  have kc0 := cell_of_row _ _ 0 _ _ _ HA5.out
  have kc1 := cell_of_row _ _ 1 _ _ _ HA5.out
  have kc2 := cell_of_row _ _ 0 _ _ _ HB5.out
  have kc3 := cell_of_row _ _ 1 _ _ _ HB5.out
  go_wp2_with fail
  refine (impl_add_is a1 a2 b1 b2 _ s1 s2 HS.out).mono ?_
  rintro e w4 ⟨rfl, hb⟩
  have B6 := Lib.hid ((B5.out.trans (hb.mono B5.out.size)).alloc (by have := hb.size; have := B5.out.size; omega) (.cells #[.int .i64 s1, .int .i64 s2] 25))
  have HA6 := Lib.hid (blk_alloc (blk_below HA5.out hb) (.cells #[.int .i64 s1, .int .i64 s2] 25))
  have HB6 := Lib.hid (blk_alloc (blk_below HB5.out hb) (.cells #[.int .i64 s1, .int .i64 s2] 25))
  have HS6 := Lib.hid (heap_alloc_new w4 (.cells #[.int .i64 s1, .int .i64 s2] 25))
  clear hb kc0 kc1 kc2 kc3 HA5 HB5 B5
  go_upto_region 11 with fail
  generalize w4.alloc (.cells #[.int .i64 s1, .int .i64 s2] 25) = V6 at *
  have kc0 := cell_of_row _ _ 0 _ _ _ HS6.out
  have kc1 := cell_of_row _ _ 1 _ _ _ HS6.out
  have kc2 := cell_of_row _ _ 0 _ _ _ HA6.out
  have kc3 := cell_of_row _ _ 1 _ _ _ HA6.out
  have kc4 := cell_of_row _ _ 0 _ _ _ HB6.out
  have kc5 := cell_of_row _ _ 1 _ _ _ HB6.out
  obtain ⟨ks, HSK⟩ : ∃ b, Hid (okB s1 s2 = b) := ⟨_, Lib.hid rfl⟩
  go_cut [63] (fun s63 wx => s63 = .bool false ∧ Hid (Below V6.heap.size V6 wx))
  case first =>
    cases ks
    · skip
      refine wp_region_noPanic ?_
      refine wp_region_held_drew (S := (fun W' => Hid (Below V6.heap.size V6 W') ∧ W'.cell? ⟨w4.heap.size, 0, none⟩ = some (.int .i64 s1) ∧ W'.cell? ⟨w4.heap.size, 1, none⟩ = some (.int .i64 s2) ∧ W'.cell? ⟨w1.heap.size, 0, none⟩ = some (.int .i64 a1) ∧ W'.cell? ⟨w1.heap.size, 1, none⟩ = some (.int .i64 a2) ∧ W'.cell? ⟨w1.heap.size + 1, 0, none⟩ = some (.int .i64 b1) ∧ W'.cell? ⟨w1.heap.size + 1, 1, none⟩ = some (.int .i64 b2))) (by kernel_rfl) (hold6 kc0 kc1 kc2 kc3 kc4 kc5 (Below.refl _ _).drew) (fun hHeld => ?_)
      refine wpAnyH_take (i := 0) (oi := { dst := some 54, op := Op.load 25 (Operand.tmp 8), type := 25, pos := _, after := #[], guard := none }) (v := ?vs1) rfl (by kernel_rfl) (by kernel_rfl) (by kernel_rfl) (fun _ _ _ h => h) (Or.inl ⟨by rfl, ?ys1⟩) (by assumption) ?rs1
      case ys1 => (intro w' hSw; (try dsimp only at hSw); go_simp; (try with_reducible rfl))
      (try simp only [Act.put, List.setIfInBounds_toArray, List.set_cons_zero, List.set_cons_succ])
      refine wpAnyH_ready (rs := [1]) (by kernel_rfl) (by simp) ?_
      refine AllReadyH.cons (o := { dst := some 55, op := Op.call { callee := Callee.value (Operand.func 20), args := #[Operand.tmp 54], argTypes := #[25] }, type := 4, pos := _, after := #[{ on := 0, ground := Ground.data }], guard := none }) rfl (fun K hK => ?_) AllReadyH.nil
      go_simp
      refine (spec_isRatio_is s1 s2 _ _ HSK.out).mono ?_; rintro e w' ⟨rfl, hb⟩
      (try go_wp2_with fail)
      refine hK.out _ _ ?_ (fun hHeld => ?_)
      · (try dsimp only); first | assumption | exact hold6 kc0 kc1 kc2 kc3 kc4 kc5 (hold_call (by assumption) (by assumption))
      clear hK K
      (try simp only [Act.put, List.setIfInBounds_toArray, List.set_cons_zero, List.set_cons_succ])
      refine wpAnyH_take (i := 2) (oi := { dst := some 56, op := Op.move (Operand.tmp 55), type := 4, pos := _, after := #[{ on := 1, ground := Ground.data }, { on := 1, ground := Ground.chain }], guard := none }) (v := ?vs2) rfl (by kernel_rfl) (by kernel_rfl) (by kernel_rfl) (fun _ _ _ h => h) (Or.inl ⟨by rfl, ?ys2⟩) (by assumption) ?rs2
      case ys2 => (intro w' hSw; (try dsimp only at hSw); go_simp; (try with_reducible rfl))
      (try simp only [Act.put, List.setIfInBounds_toArray, List.set_cons_zero, List.set_cons_succ])
      refine wpAnyH_take (i := 3) (oi := { dst := some 57, op := Op.load 25 (Operand.tmp 8), type := 25, pos := _, after := #[{ on := 2, ground := Ground.guard }], guard := some (2, true) }) (v := undef) rfl (by kernel_rfl) (by kernel_rfl) (by kernel_rfl) (fun _ _ _ h => h) (Or.inr ⟨by rfl, rfl⟩) (by assumption) ?_
      (try simp only [Act.put, List.setIfInBounds_toArray, List.set_cons_zero, List.set_cons_succ])
      refine wpAnyH_take (i := 4) (oi := { dst := some 58, op := Op.load 25 (Operand.tmp 4), type := 25, pos := _, after := #[{ on := 2, ground := Ground.guard }], guard := some (2, true) }) (v := undef) rfl (by kernel_rfl) (by kernel_rfl) (by kernel_rfl) (fun _ _ _ h => h) (Or.inr ⟨by rfl, rfl⟩) (by assumption) ?_
      (try simp only [Act.put, List.setIfInBounds_toArray, List.set_cons_zero, List.set_cons_succ])
      refine wpAnyH_take (i := 5) (oi := { dst := some 59, op := Op.call { callee := Callee.value (Operand.func 21), args := #[Operand.tmp 58], argTypes := #[25] }, type := 25, pos := _, after := #[{ on := 4, ground := Ground.data }, { on := 2, ground := Ground.chain }, { on := 2, ground := Ground.guard }], guard := some (2, true) }) (v := undef) rfl (by kernel_rfl) (by kernel_rfl) (by kernel_rfl) (fun _ _ _ h => h) (Or.inr ⟨by rfl, rfl⟩) (by assumption) ?_
      (try simp only [Act.put, List.setIfInBounds_toArray, List.set_cons_zero, List.set_cons_succ])
      refine wpAnyH_take (i := 6) (oi := { dst := some 60, op := Op.call { callee := Callee.value (Operand.func 17), args := #[Operand.tmp 57, Operand.tmp 59], argTypes := #[25, 25] }, type := 25, pos := _, after := #[{ on := 3, ground := Ground.data }, { on := 5, ground := Ground.data }, { on := 5, ground := Ground.chain }, { on := 2, ground := Ground.guard }], guard := some (2, true) }) (v := undef) rfl (by kernel_rfl) (by kernel_rfl) (by kernel_rfl) (fun _ _ _ h => h) (Or.inr ⟨by rfl, rfl⟩) (by assumption) ?_
      (try simp only [Act.put, List.setIfInBounds_toArray, List.set_cons_zero, List.set_cons_succ])
      refine wpAnyH_take (i := 7) (oi := { dst := some 61, op := Op.load 25 (Operand.tmp 3), type := 25, pos := _, after := #[{ on := 2, ground := Ground.guard }], guard := some (2, true) }) (v := undef) rfl (by kernel_rfl) (by kernel_rfl) (by kernel_rfl) (fun _ _ _ h => h) (Or.inr ⟨by rfl, rfl⟩) (by assumption) ?_
      (try simp only [Act.put, List.setIfInBounds_toArray, List.set_cons_zero, List.set_cons_succ])
      refine wpAnyH_take (i := 8) (oi := { dst := some 62, op := Op.binOp BinOp.neq 25 (Operand.tmp 60) (Operand.tmp 61) 25, type := 4, pos := _, after := #[{ on := 6, ground := Ground.data }, { on := 7, ground := Ground.data }, { on := 2, ground := Ground.guard }], guard := some (2, true) }) (v := undef) rfl (by kernel_rfl) (by kernel_rfl) (by kernel_rfl) (fun _ _ _ h => h) (Or.inr ⟨by rfl, rfl⟩) (by assumption) ?_
      (try simp only [Act.put, List.setIfInBounds_toArray, List.set_cons_zero, List.set_cons_succ])
      refine wpAnyH_take (i := 9) (oi := { dst := some 63, op := Op.pick (Operand.tmp 56) (Operand.tmp 62) (Operand.const (Value.bool false)), type := 4, pos := _, after := #[{ on := 2, ground := Ground.data }, { on := 8, ground := Ground.data }], guard := none }) (v := ?vs3) rfl (by kernel_rfl) (by kernel_rfl) (by kernel_rfl) (fun _ _ _ h => h) (Or.inl ⟨by rfl, ?ys3⟩) (by assumption) ?rs3
      case ys3 => (intro w' hSw; (try dsimp only at hSw); go_simp; (try with_reducible rfl))
      (try simp only [Act.put, List.setIfInBounds_toArray, List.set_cons_zero, List.set_cons_succ])
      refine wpAnyH_done (by kernel_rfl) ?_ _
      refine NoPanic.normal ?_
      have hfin := (by assumption : Hid (Below V6.heap.size V6 _) ∧ _).1
      go_wp2_with fail
      go_meet
      exact ⟨rfl, hfin⟩
    · have HSA : Hid (addR s1 s2 (-b1) b2 = (a1, a2)) := Lib.hid (add_sub HS.out HSK.out)
      have HN : Hid (negR b1 b2 = (-b1, b2)) := Lib.hid (negR_yes (ok_of_addR HS.out HSK.out).2)
      refine wp_region_noPanic ?_
      refine wp_region_held_drew (S := (fun W' => Hid (Below V6.heap.size V6 W') ∧ W'.cell? ⟨w4.heap.size, 0, none⟩ = some (.int .i64 s1) ∧ W'.cell? ⟨w4.heap.size, 1, none⟩ = some (.int .i64 s2) ∧ W'.cell? ⟨w1.heap.size, 0, none⟩ = some (.int .i64 a1) ∧ W'.cell? ⟨w1.heap.size, 1, none⟩ = some (.int .i64 a2) ∧ W'.cell? ⟨w1.heap.size + 1, 0, none⟩ = some (.int .i64 b1) ∧ W'.cell? ⟨w1.heap.size + 1, 1, none⟩ = some (.int .i64 b2))) (by kernel_rfl) (hold6 kc0 kc1 kc2 kc3 kc4 kc5 (Below.refl _ _).drew) (fun hHeld => ?_)
      refine wpAnyH_take (i := 0) (oi := { dst := some 54, op := Op.load 25 (Operand.tmp 8), type := 25, pos := _, after := #[], guard := none }) (v := ?vt1) rfl (by kernel_rfl) (by kernel_rfl) (by kernel_rfl) (fun _ _ _ h => h) (Or.inl ⟨by rfl, ?yt1⟩) (by assumption) ?rt1
      case yt1 => (intro w' hSw; (try dsimp only at hSw); go_simp; (try with_reducible rfl))
      (try simp only [Act.put, List.setIfInBounds_toArray, List.set_cons_zero, List.set_cons_succ])
      refine wpAnyH_ready (rs := [1]) (by kernel_rfl) (by simp) ?_
      refine AllReadyH.cons (o := { dst := some 55, op := Op.call { callee := Callee.value (Operand.func 20), args := #[Operand.tmp 54], argTypes := #[25] }, type := 4, pos := _, after := #[{ on := 0, ground := Ground.data }], guard := none }) rfl (fun K hK => ?_) AllReadyH.nil
      go_simp
      refine (spec_isRatio_is s1 s2 _ _ HSK.out).mono ?_; rintro e w' ⟨rfl, hb⟩
      (try go_wp2_with fail)
      refine hK.out _ _ ?_ (fun hHeld => ?_)
      · (try dsimp only); first | assumption | exact hold6 kc0 kc1 kc2 kc3 kc4 kc5 (hold_call (by assumption) (by assumption))
      clear hK K
      (try simp only [Act.put, List.setIfInBounds_toArray, List.set_cons_zero, List.set_cons_succ])
      refine wpAnyH_take (i := 2) (oi := { dst := some 56, op := Op.move (Operand.tmp 55), type := 4, pos := _, after := #[{ on := 1, ground := Ground.data }, { on := 1, ground := Ground.chain }], guard := none }) (v := ?vt2) rfl (by kernel_rfl) (by kernel_rfl) (by kernel_rfl) (fun _ _ _ h => h) (Or.inl ⟨by rfl, ?yt2⟩) (by assumption) ?rt2
      case yt2 => (intro w' hSw; (try dsimp only at hSw); go_simp; (try with_reducible rfl))
      (try simp only [Act.put, List.setIfInBounds_toArray, List.set_cons_zero, List.set_cons_succ])
      refine wpAnyH_take (i := 3) (oi := { dst := some 57, op := Op.load 25 (Operand.tmp 8), type := 25, pos := _, after := #[{ on := 2, ground := Ground.guard }], guard := some (2, true) }) (v := ?vt3) rfl (by kernel_rfl) (by kernel_rfl) (by kernel_rfl) (fun _ _ _ h => h) (Or.inl ⟨by rfl, ?yt3⟩) (by assumption) ?rt3
      case yt3 => (intro w' hSw; (try dsimp only at hSw); go_simp; (try with_reducible rfl))
      (try simp only [Act.put, List.setIfInBounds_toArray, List.set_cons_zero, List.set_cons_succ])
      refine wpAnyH_take (i := 4) (oi := { dst := some 58, op := Op.load 25 (Operand.tmp 4), type := 25, pos := _, after := #[{ on := 2, ground := Ground.guard }], guard := some (2, true) }) (v := ?vt4) rfl (by kernel_rfl) (by kernel_rfl) (by kernel_rfl) (fun _ _ _ h => h) (Or.inl ⟨by rfl, ?yt4⟩) (by assumption) ?rt4
      case yt4 => (intro w' hSw; (try dsimp only at hSw); go_simp; (try with_reducible rfl))
      (try simp only [Act.put, List.setIfInBounds_toArray, List.set_cons_zero, List.set_cons_succ])
      refine wpAnyH_take (i := 7) (oi := { dst := some 61, op := Op.load 25 (Operand.tmp 3), type := 25, pos := _, after := #[{ on := 2, ground := Ground.guard }], guard := some (2, true) }) (v := ?vt5) rfl (by kernel_rfl) (by kernel_rfl) (by kernel_rfl) (fun _ _ _ h => h) (Or.inl ⟨by rfl, ?yt5⟩) (by assumption) ?rt5
      case yt5 => (intro w' hSw; (try dsimp only at hSw); go_simp; (try with_reducible rfl))
      (try simp only [Act.put, List.setIfInBounds_toArray, List.set_cons_zero, List.set_cons_succ])
      refine wpAnyH_ready (rs := [5]) (by kernel_rfl) (by simp) ?_
      refine AllReadyH.cons (o := { dst := some 59, op := Op.call { callee := Callee.value (Operand.func 21), args := #[Operand.tmp 58], argTypes := #[25] }, type := 25, pos := _, after := #[{ on := 4, ground := Ground.data }, { on := 2, ground := Ground.chain }, { on := 2, ground := Ground.guard }], guard := some (2, true) }) rfl (fun K hK => ?_) AllReadyH.nil
      go_simp
      refine (impl_neg_is b1 b2 _ (-b1) b2 HN.out).mono ?_; rintro e w' ⟨rfl, hb⟩
      (try go_wp2_with fail)
      refine hK.out _ _ ?_ (fun hHeld => ?_)
      · (try dsimp only); first | assumption | exact hold6 kc0 kc1 kc2 kc3 kc4 kc5 (hold_call (by assumption) (by assumption))
      clear hK K
      (try simp only [Act.put, List.setIfInBounds_toArray, List.set_cons_zero, List.set_cons_succ])
      refine wpAnyH_ready (rs := [6]) (by kernel_rfl) (by simp) ?_
      refine AllReadyH.cons (o := { dst := some 60, op := Op.call { callee := Callee.value (Operand.func 17), args := #[Operand.tmp 57, Operand.tmp 59], argTypes := #[25, 25] }, type := 25, pos := _, after := #[{ on := 3, ground := Ground.data }, { on := 5, ground := Ground.data }, { on := 5, ground := Ground.chain }, { on := 2, ground := Ground.guard }], guard := some (2, true) }) rfl (fun K hK => ?_) AllReadyH.nil
      go_simp
      refine (impl_add_is s1 s2 (-b1) b2 _ a1 a2 HSA.out).mono ?_; rintro e w' ⟨rfl, hb⟩
      (try go_wp2_with fail)
      refine hK.out _ _ ?_ (fun hHeld => ?_)
      · (try dsimp only); first | assumption | exact hold6 kc0 kc1 kc2 kc3 kc4 kc5 (hold_call (by assumption) (by assumption))
      clear hK K
      (try simp only [Act.put, List.setIfInBounds_toArray, List.set_cons_zero, List.set_cons_succ])
      refine wpAnyH_take (i := 8) (oi := { dst := some 62, op := Op.binOp BinOp.neq 25 (Operand.tmp 60) (Operand.tmp 61) 25, type := 4, pos := _, after := #[{ on := 6, ground := Ground.data }, { on := 7, ground := Ground.data }, { on := 2, ground := Ground.guard }], guard := some (2, true) }) (v := ?vt6) rfl (by kernel_rfl) (by kernel_rfl) (by kernel_rfl) (fun _ _ _ h => h) (Or.inl ⟨by rfl, ?yt6⟩) (by assumption) ?rt6
      case yt6 => (intro w' hSw; (try dsimp only at hSw); go_simp; (try with_reducible rfl))
      (try simp only [Act.put, List.setIfInBounds_toArray, List.set_cons_zero, List.set_cons_succ])
      refine wpAnyH_take (i := 9) (oi := { dst := some 63, op := Op.pick (Operand.tmp 56) (Operand.tmp 62) (Operand.const (Value.bool false)), type := 4, pos := _, after := #[{ on := 2, ground := Ground.data }, { on := 8, ground := Ground.data }], guard := none }) (v := ?vt7) rfl (by kernel_rfl) (by kernel_rfl) (by kernel_rfl) (fun _ _ _ h => h) (Or.inl ⟨by rfl, ?yt7⟩) (by assumption) ?rt7
      case yt7 => (intro w' hSw; (try dsimp only at hSw); go_simp; (try with_reducible rfl))
      (try simp only [Act.put, List.setIfInBounds_toArray, List.set_cons_zero, List.set_cons_succ])
      refine wpAnyH_done (by kernel_rfl) ?_ _
      refine NoPanic.normal ?_
      have hfin := (by assumption : Hid (Below V6.heap.size V6 _) ∧ _).1
      go_wp2_with fail
      go_meet
      exact ⟨rfl, hfin⟩
  obtain ⟨rfl, HV⟩ := hcut
  have HA7 := Lib.hid (blk_below HA6.out HV.out)
  have HB7 := Lib.hid (blk_below HB6.out HV.out)
  have B7 := Lib.hid (B6.out.trans (HV.out.mono B6.out.size))
  clear kc0 kc1 kc2 kc3 kc4 kc5 HA6 HB6 HS6 HV B6
  rename World => V7
  have kc0 := cell_of_row _ _ 0 _ _ _ HA7.out
  have kc1 := cell_of_row _ _ 1 _ _ _ HA7.out
  have kc2 := cell_of_row _ _ 0 _ _ _ HB7.out
  have kc3 := cell_of_row _ _ 1 _ _ _ HB7.out
  obtain ⟨x, HX⟩ : ∃ x, Hid (cmpR a1 a2 b1 b2 = x) := ⟨_, Lib.hid rfl⟩
  obtain ⟨y, HY⟩ : ∃ y, Hid (cmpR b1 b2 a1 a2 = y) := ⟨_, Lib.hid rfl⟩
  have HCB := Lib.hid (cmp_both a1 a2 b1 b2)
  rw [HX.out, HY.out] at HCB
  go_wp2_with fail
  refine (impl_cmp_is a1 a2 b1 b2 _ x HX.out).mono ?_
  rintro e w5 ⟨rfl, hb⟩
  have HA8 := Lib.hid (blk_below HA7.out hb)
  have HB8 := Lib.hid (blk_below HB7.out hb)
  have B8 := Lib.hid (B7.out.trans (hb.mono B7.out.size))
  clear hb kc0 kc1 kc2 kc3 HA7 HB7 B7
  have kc0 := cell_of_row _ _ 0 _ _ _ HA8.out
  have kc1 := cell_of_row _ _ 1 _ _ _ HA8.out
  have kc2 := cell_of_row _ _ 0 _ _ _ HB8.out
  have kc3 := cell_of_row _ _ 1 _ _ _ HB8.out
  go_wp2_with fail
  refine (impl_cmp_is b1 b2 a1 a2 _ y HY.out).mono ?_
  rintro e w6 ⟨rfl, hb⟩
  have HA9 := Lib.hid (blk_below HA8.out hb)
  have HB9 := Lib.hid (blk_below HB8.out hb)
  have B9 := Lib.hid (B8.out.trans (hb.mono B8.out.size))
  clear hb kc0 kc1 kc2 kc3 HA8 HB8 B8
  have kc0 := cell_of_row _ _ 0 _ _ _ HA9.out
  have kc1 := cell_of_row _ _ 1 _ _ _ HA9.out
  have kc2 := cell_of_row _ _ 0 _ _ _ HB9.out
  have kc3 := cell_of_row _ _ 1 _ _ _ HB9.out
  by_cases h2 : x = 2 ∧ y = 2
  · obtain ⟨rfl, rfl⟩ := h2
    clear HX HY HCB
    go_wp2_with fail
    go_ret
    exact ⟨rfl, B9.out⟩
  have HCB2 : Hid (x ≠ 2 ∧ x = -y ∧ (-1 ≤ y ∧ y ≤ 1) ∧ (x = 0 ↔ a1 = b1 ∧ a2 = b2)) := Lib.hid (by rcases HCB.out with h | h; exact absurd h h2; exact h)
  have hx2 : (x == 2) = false := beq_eq_false_iff_ne.2 HCB2.out.1
  have hxy : (x == -y) = true := beq_iff_eq.2 HCB2.out.2.1
  obtain ⟨hy0, hy1⟩ := HCB2.out.2.2.1
  clear h2 HX HY HCB
  by_cases hx0 : x = 0
  · obtain ⟨e1, e2⟩ := HCB2.out.2.2.2.1 hx0
    have hxz : (x == 0) = true := beq_iff_eq.2 hx0
    subst e1 e2
    clear hx0
    go_wp2_with fail
    go_ret
    exact ⟨rfl, B9.out⟩
  · have hxz : (x == 0) = false := beq_eq_false_iff_ne.2 hx0
    have hne := pair_ne (fun h => hx0 (HCB2.out.2.2.2.2 h))
    clear hx0
    rcases hne with hne | ⟨hne, hn2⟩
    · have hab : (a1 == b1) = false := beq_eq_false_iff_ne.2 hne
      clear hne
      go_wp2_with fail
      go_ret
      exact ⟨rfl, B9.out⟩
    · subst hne
      have hab : (a2 == b2) = false := beq_eq_false_iff_ne.2 hn2
      clear hn2
      go_wp2_with fail
      go_ret
      exact ⟨rfl, B9.out⟩

set_option maxRecDepth 100000 in
theorem contract (H : Type) (enc : TypeId × Value → H) (W : World) (base : Nat) (args : Array Value) (ds gs : List (DataW H)) (before : List MemPlace)
    (hval : ∀ (j : Nat) t v, Try.f3.params[j]? = some t → args[j]? = some v → Value.okWide Try.prog W .any base t v)
    (hW : DataW.Whole enc Try.prog Try.f3.params.toList Rows.fnRatiosSpec.vars false W args.toList ds gs before) :
    Calls Try.prog 3 args W fun e W' => ∃ v, e = .returned v ∧ Rows.fnRatiosSpec.post enc Try.prog Try.f3 false true false false W args v W' := by
  have hW' := hW
  obtain ⟨p, q, hA0, hV, rfl, hfz, hnd⟩ := hW
  have hA : DataW.TrodAll enc Try.prog W 0 (fun _ => true) true Try.f3.params.toList args.toList ds p := hA0
  rw [Try.params3] at hA hval
  obtain ⟨v0, vs0, d0, ds0, p0, q0, hargs, rfl, rfl, h0, r0⟩ := trodAll_cons hA
  obtain ⟨rfl, rfl, rfl⟩ := trodAll_nil r0
  obtain rfl : args = #[v0] := by cases args; simp_all
  obtain ⟨rfl, rfl⟩ := trodVars_none hV
  have h0k := h0
  have hlt0 : ∀ x ∈ p0, x.block < W.heap.size := fun x hx => by simpa using hW'.lt x (by simp [hx])
  obtain ⟨a0, n0, c0, rfl, w0, k0⟩ := bytes_open (hval 0 22 v0 rfl rfl) h0
  clear hA0
  simp only [List.append_nil] at hW'
  refine (law_walk a0 n0 c0 W w0 k0).mono fun e W' ⟨he, hb⟩ => ?_
  subst he
  exact ⟨_, rfl, _, _, _, [], _, [], hW', trodAll_mk1 (shut_bool Try.underlying4 _), trodAll_cons_mk (Below.trod laidOut (by kernel_rfl) (of_decide_eq_true (by kernel_rfl)) h0k hb hlt0) trodAll_mk0, rfl, hb.frame _, fun h => by cases h⟩

set_option maxRecDepth 100000 in
theorem lifted (os : Os) (started : os.Started) (H : Type) (enc : TypeId × Value → H) :
    ReturnsInHanded {} Try.checked os 3 .any (Rows.fnRatiosSpec.pre6 enc Try.prog Try.f3 Rows.fnRatiosRow.domain false) (Rows.fnRatiosSpec.post enc Try.prog Try.f3 false true false false) := by
  refine returnsInHanded_of_change (C := Try.checked) own started (by kernel_rfl) Try.func3
    (ChangeSpec.witness6 (enc := enc) (C := Try.checked) false ⟨#[], #[.slice none 0 0], []⟩ 8 (by kernel_rfl) (by kernel_rfl) (by kernel_rfl) (by kernel_rfl)) ?_
  intro W base args ds gs before hval hW _ _
  exact contract H enc W base args ds gs before hval hW

theorem holds : Rows.FnRatiosSaid :=
  OpenClaim.holds_of_wide 3 Try.f3 rfl rfl rfl rfl rfl rfl rfl ⟨rfl, rfl, rfl, rfl, rfl⟩ rfl rfl rfl rfl rfl (by kernel_rfl) Try.func3 (by kernel_rfl)
    (of_decide_eq_true (by kernel_rfl)) (by unfold Func.isWrapper; first | (rw [if_pos (by decide +kernel)]; kernel_rfl) | (rw [if_neg (by decide +kernel)]; exact ⟨rfl, rfl⟩))
    (fun os started H enc _ => lifted os started H enc)
end Go.Proofs.Ytebngdinhhhkeaa.rat.ratios
