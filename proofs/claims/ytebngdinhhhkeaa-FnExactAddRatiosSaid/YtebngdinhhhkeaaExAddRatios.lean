/-
  Proved: for all numbers, the program's AddRatios answers as its model (the law FnExactAddRatios returns true), and the arguments read afterwards as before. No condition.
-/
import Derived.Test.YtebngdinhhhkeaaRows
import Derived.Test.YtebngdinhhhkeaaRatKit
import Derived.Test.YtebngdinhhhkeaaHold
import Derived.Test.YtebngdinhhhkeaaRatOps
import Derived.Test.YtebngdinhhhkeaaRatOps2
import Derived.Deep.RegionHeld3
import Derived.Deep.DeepCutAuto
import Derived.WalkKit
import Derived.ProofKit
import Derived.OpenShut
import Derived.Carry
import Derived.Deep.DeepHandedRow
import Derived.Lib.Hide
namespace Go.Proofs.Ytebngdinhhhkeaa.rat.xAddRatios
open Go.ChangeShapes Go.WideShapes Go.ChangeAt Go.RowKit
open Go.ChangeMaps (open_string shut_string)

theorem own : ownKnob Try.prog.godebug = none := by kernel_rfl
theorem laidOut : laidOutB Try.prog = true := by kernel_rfl
set_option maxRecDepth 100000 in
set_option maxHeartbeats 1600000 in
theorem law_walk (a b c d : Int) (w : World) : Calls Try.prog 7 #[.agg #[.int .i64 a, .int .i64 b], .agg #[.int .i64 c, .int .i64 d]] w fun e w' => e = .returned (.bool true) ∧ Below w.heap.size w w' := by
  go_enter Try.func7, Try.ntmps7
  go_upto_region 1 with fail
  have hx := heap_alloc2_old w (.cells #[.int .i64 a, .int .i64 b] 35) (.cells #[.int .i64 c, .int .i64 d] 35)
  have hy := heap_alloc2_new w (.cells #[.int .i64 a, .int .i64 b] 35) (.cells #[.int .i64 c, .int .i64 d] 35)
  have B0 := Lib.hid (((Below.refl w.heap.size w).alloc (Nat.le_refl _) (.cells #[.int .i64 a, .int .i64 b] 35)).alloc (by simp) (.cells #[.int .i64 c, .int .i64 d] 35))
  generalize (w.alloc (.cells #[.int .i64 a, .int .i64 b] 35)).alloc (.cells #[.int .i64 c, .int .i64 d] 35) = W0 at *
  have c0 := cell_of_row W0 _ 0 _ _ _ hx
  have c1 := cell_of_row W0 _ 1 _ _ _ hx
  have c2 := cell_of_row W0 _ 0 _ _ _ hy
  have c3 := cell_of_row W0 _ 1 _ _ _ hy
  have HX0 := Lib.hid hx
  have HY0 := Lib.hid hy
  clear hx hy
  go_cut [5] (fun s5 wx => ∃ (g : Nat) (x y : Int), s5 = .pointer (some ⟨g, 0, none⟩) ∧ Hid (addR a b c d = (x, y)) ∧ Hid (wx.heap[g]? = some (.cells #[.int .i64 x, .int .i64 y] 25 (0, 0))) ∧ Hid (Below W0.heap.size W0 wx))
  case first =>
    go_region_held3 (fun W' => Hid (Below W0.heap.size W0 W') ∧ W'.cell? ⟨w.heap.size, 0, none⟩ = some (.int .i64 a) ∧ W'.cell? ⟨w.heap.size, 1, none⟩ = some (.int .i64 b) ∧ W'.cell? ⟨w.heap.size + 1, 0, none⟩ = some (.int .i64 c) ∧ W'.cell? ⟨w.heap.size + 1, 1, none⟩ = some (.int .i64 d))
      (first | assumption | exact hold4 c0 c1 c2 c3 (hold_call (by assumption) (by assumption)) | exact hold4 c0 c1 c2 c3 (hold_realloc (by assumption) (by first | assumption | exact Nat.le_refl _)) | exact hold4 c0 c1 c2 c3 (hold_alloc (by assumption)) | exact hold4 c0 c1 c2 c3 (hold_set2 (by assumption) (by first | assumption | exact Nat.le_refl _)) | exact hold4 c0 c1 c2 c3 (Below.refl _ _).drew)
      (first | (go_at_call 28; refine (to_ratio _ _ _).mono ?_; rintro e w' ⟨rfl, hb⟩; have hle := hold_le (by assumption) hb; (try have hmade := blk_below hmade hb); (try have hmade := made_drew hb); (try have hmade := made hb); (try have hr0 := cell_of_row _ _ 0 _ _ _ hmade); (try have hr1 := cell_of_row _ _ 1 _ _ _ hmade); (try have hf0 := frozen_of_row _ _ 0 _ _ hmade); (try have hf1 := frozen_of_row _ _ 1 _ _ hmade)) | (go_at_call 33; refine (spec_add a b c d _).mono ?_; rintro e w' ⟨x, y, rfl, HX, hb⟩; have hle := hold_le (by assumption) hb; (try have hmade := blk_below hmade hb); (try have hmade := made_drew hb); (try have hmade := made hb); (try have hr0 := cell_of_row _ _ 0 _ _ _ hmade); (try have hr1 := cell_of_row _ _ 1 _ _ _ hmade); (try have hf0 := frozen_of_row _ _ 0 _ _ hmade); (try have hf1 := frozen_of_row _ _ 1 _ _ hmade)))
    all_goals
      go_wp2_with fail
      go_meet
      exact ⟨_, x, y, rfl, HX, Lib.hid (by first | exact heap_alloc_new _ _ | exact blk_set2 (by assumption)), (by assumption : Hid (Below W0.heap.size W0 _) ∧ _).1⟩
  case rest =>
    obtain ⟨g, x, y, rfl, HX, HG, HB⟩ := hcut
    have HX1 := Lib.hid (blk_below HX0.out HB.out)
    have HY1 := Lib.hid (blk_below HY0.out HB.out)
    have B1 := Lib.hid (B0.out.trans (HB.out.mono B0.out.size))
    clear c0 c1 c2 c3 HX0 HY0 HB
    have c0 := cell_of_row wc _ 0 _ _ _ HX1.out
    have c1 := cell_of_row wc _ 1 _ _ _ HX1.out
    have c2 := cell_of_row wc _ 0 _ _ _ HY1.out
    have c3 := cell_of_row wc _ 1 _ _ _ HY1.out
    go_upto_region 2 with fail
    go_cut [6] (fun s6 wx => ∃ (g2 : Nat), s6 = .pointer (some ⟨g2, 0, none⟩) ∧ Hid (wx.heap[g2]? = some (.cells #[.int .i64 x, .int .i64 y] 25 (0, 0))) ∧ Hid (Below wc.heap.size wc wx))
    case first =>
      go_region_held3 (fun W' => Hid (Below wc.heap.size wc W') ∧ W'.cell? ⟨w.heap.size, 0, none⟩ = some (.int .i64 a) ∧ W'.cell? ⟨w.heap.size, 1, none⟩ = some (.int .i64 b) ∧ W'.cell? ⟨w.heap.size + 1, 0, none⟩ = some (.int .i64 c) ∧ W'.cell? ⟨w.heap.size + 1, 1, none⟩ = some (.int .i64 d))
      (first | assumption | exact hold4 c0 c1 c2 c3 (hold_call (by assumption) (by assumption)) | exact hold4 c0 c1 c2 c3 (hold_realloc (by assumption) (by first | assumption | exact Nat.le_refl _)) | exact hold4 c0 c1 c2 c3 (hold_alloc (by assumption)) | exact hold4 c0 c1 c2 c3 (hold_set2 (by assumption) (by first | assumption | exact Nat.le_refl _)) | exact hold4 c0 c1 c2 c3 (Below.refl _ _).drew)
      (first | (go_at_call 28; refine (to_ratio _ _ _).mono ?_; rintro e w' ⟨rfl, hb⟩; have hle := hold_le (by assumption) hb; (try have hmade := blk_below hmade hb); (try have hmade := made_drew hb); (try have hmade := made hb); (try have hr0 := cell_of_row _ _ 0 _ _ _ hmade); (try have hr1 := cell_of_row _ _ 1 _ _ _ hmade); (try have hf0 := frozen_of_row _ _ 0 _ _ hmade); (try have hf1 := frozen_of_row _ _ 1 _ _ hmade)) | (go_at_call 17; refine (impl_add a b c d _).mono ?_; rintro e w' ⟨x2, y2, rfl, HX2, hb⟩; have hle := hold_le (by assumption) hb; (try have hmade := blk_below hmade hb); (try have hmade := made_drew hb); (try have hmade := made hb); (try have hr0 := cell_of_row _ _ 0 _ _ _ hmade); (try have hr1 := cell_of_row _ _ 1 _ _ _ hmade); (try have hf0 := frozen_of_row _ _ 0 _ _ hmade); (try have hf1 := frozen_of_row _ _ 1 _ _ hmade)))
      all_goals
        obtain rfl : x = _ := congrArg Prod.fst (HX.out.symm.trans HX2.out)
        obtain rfl : y = _ := congrArg Prod.snd (HX.out.symm.trans HX2.out)
        go_wp2_with fail
        go_meet
        exact ⟨_, rfl, Lib.hid (by first | exact heap_alloc_new _ _ | exact blk_set2 (by assumption)), (by assumption : Hid (Below wc.heap.size wc _) ∧ _).1⟩
    case rest =>
      obtain ⟨g2, rfl, HG2, HB⟩ := hcut
      have B2 := Lib.hid (B1.out.trans (HB.out.mono B1.out.size))
      have hg := blk_below HG.out HB.out
      rename_i wd
      clear c0 c1 c2 c3
      have e0 := cell_of_row _ _ 0 _ _ _ hg
      have e1 := cell_of_row _ _ 1 _ _ _ hg
      have e2 := cell_of_row _ _ 0 _ _ _ HG2.out
      have e3 := cell_of_row _ _ 1 _ _ _ HG2.out
      clear hg
      go_wp2_with fail
      refine (eq_ratio x y _).mono ?_
      rintro e w5 ⟨rfl, hb⟩
      have B5 := Lib.hid (B2.out.trans (hb.mono B2.out.size))
      clear hb
      go_wp2_with fail
      go_ret
      exact ⟨rfl, B5.out⟩

set_option maxRecDepth 100000 in
theorem contract (H : Type) (enc : TypeId × Value → H) (W : World) (base : Nat) (args : Array Value) (ds gs : List (DataW H)) (before : List MemPlace)
    (hval : ∀ (j : Nat) t v, Try.f7.params[j]? = some t → args[j]? = some v → Value.okWide Try.prog W .any base t v)
    (hW : DataW.Whole enc Try.prog Try.f7.params.toList Rows.fnExactAddRatiosSpec.vars false W args.toList ds gs before) :
    Calls Try.prog 7 args W fun e W' => ∃ v, e = .returned v ∧ Rows.fnExactAddRatiosSpec.post enc Try.prog Try.f7 false true false false W args v W' := by
  have hW' := hW
  obtain ⟨p, q, hA0, hV, rfl, hfz, hnd⟩ := hW
  have hA : DataW.TrodAll enc Try.prog W 0 (fun _ => true) true Try.f7.params.toList args.toList ds p := hA0
  rw [Try.params7] at hA hval
  obtain ⟨v0, vs0, d0, ds0, p0, q0, hargs, rfl, rfl, h0, r0⟩ := trodAll_cons hA
  obtain ⟨v1, vs1, d1, ds1, p1, q1, rfl, rfl, rfl, h1, r1⟩ := trodAll_cons r0
  obtain ⟨rfl, rfl, rfl⟩ := trodAll_nil r1
  obtain rfl : args = #[v0, v1] := by cases args; simp_all
  obtain ⟨rfl, rfl⟩ := trodVars_none hV
  obtain ⟨a0, b0, rfl, rfl, rfl, w0, x0⟩ := ratio_open (hval 0 35 v0 rfl rfl) h0
  obtain ⟨a1, b1, rfl, rfl, rfl, w1, x1⟩ := ratio_open (hval 1 35 v1 rfl rfl) h1
  clear hA0
  simp only [List.append_nil] at hW'
  refine (law_walk a0 b0 a1 b1 W).mono fun e W' ⟨he, hb⟩ => ?_
  subst he
  exact ⟨_, rfl, _, _, _, [], [], [], hW', trodAll_mk1 (shut_bool Try.underlying4 _), trodAll_cons_mk (ratio_shut w0 x0) (trodAll_cons_mk (ratio_shut w1 x1) trodAll_mk0), rfl, hb.frame _, fun h => by cases h⟩

set_option maxRecDepth 100000 in
theorem lifted (os : Os) (started : os.Started) (H : Type) (enc : TypeId × Value → H) :
    ReturnsInHanded {} Try.checked os 7 .any (Rows.fnExactAddRatiosSpec.pre6 enc Try.prog Try.f7 Rows.fnExactAddRatiosRow.domain false) (Rows.fnExactAddRatiosSpec.post enc Try.prog Try.f7 false true false false) := by
  refine returnsInHanded_of_change (C := Try.checked) own started (by kernel_rfl) Try.func7
    (ChangeSpec.witness6 (enc := enc) (C := Try.checked) false ⟨#[], #[.agg #[.int .i64 0, .int .i64 0], .agg #[.int .i64 0, .int .i64 0]], []⟩ 8 (by kernel_rfl) (by kernel_rfl) (by kernel_rfl) (by kernel_rfl)) ?_
  intro W base args ds gs before hval hW _ _
  exact contract H enc W base args ds gs before hval hW

theorem holds : Rows.FnExactAddRatiosSaid :=
  OpenClaim.holds_of_wide 7 Try.f7 rfl rfl rfl rfl rfl rfl rfl ⟨rfl, rfl, rfl, rfl, rfl⟩ rfl rfl rfl rfl rfl (by kernel_rfl) Try.func7 (by kernel_rfl)
    (of_decide_eq_true (by kernel_rfl)) (by unfold Func.isWrapper; first | (rw [if_pos (by decide +kernel)]; kernel_rfl) | (rw [if_neg (by decide +kernel)]; exact ⟨rfl, rfl⟩))
    (fun os started H enc _ => lifted os started H enc)
end Go.Proofs.Ytebngdinhhhkeaa.rat.xAddRatios
