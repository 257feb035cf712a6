/-
  Proved: for every total and every two slices of numbers, the program's IsSharing answers as its model and leaves its arguments as they were (the law FnExactIsSharing returns true); the arguments read afterwards as before. No condition.
-/
import Derived.Test.YtgdoahdkidlndaaRows
import Derived.Test.YtgdoahdkidlndaaInts
import Derived.Test.YtgdoahdkidlndaaIntsKit
import Derived.Test.YtgdoahdkidlndaaIntsTo
import Derived.Test.YtgdoahdkidlndaaIntsEq
import Derived.Test.YtgdoahdkidlndaaIsShImpl
import Derived.Test.YtgdoahdkidlndaaIsShSpec
import Derived.WalkKit
import Derived.ProofKit
import Derived.OpenShut
import Derived.Carry
import Derived.Deep.DeepHandedRow
import Derived.Lib.Hide
namespace Go.Proofs.Ytgdoahdkidlndaa.share.xIsSharing
open Go.ChangeShapes Go.WideShapes Go.ChangeAt Go.RowKit
open Go.ChangeMaps (open_string shut_string)

theorem own : ownKnob Try.prog.godebug = none := by kernel_rfl
theorem laidOut : laidOutB Try.prog = true := by kernel_rfl
set_option maxRecDepth 100000 in
set_option maxHeartbeats 1000000 in
theorem law_walk (t : Int) (v u : Value) (xs ss : List Int) (w : World) (h : Ints w v xs) (hm : xs.length ≤ maxLen) (h' : Ints w u ss) (hm' : ss.length ≤ maxLen) : Calls Try.prog 9 #[.int .i64 t, v, u] w fun e w' => e = .returned (.bool true) ∧ Below w.heap.size w w' := by
  unfold maxLen at hm hm'
  have H := Lib.hid h
  have U := Lib.hid h'
  obtain ⟨a, c, rfl⟩ := h.slice
  obtain ⟨a', c', rfl⟩ := h'.slice
  clear h h'
  by_cases hbig : 1048576 < xs.length
  · go_enter Try.func9, Try.ntmps9
    go_wp2_with fail
    go_ret
    exact ⟨rfl, Below.refl _ _⟩
  by_cases hbig' : 1048576 < ss.length
  · go_enter Try.func9, Try.ntmps9
    go_wp2_with fail
    go_ret
    exact ⟨rfl, Below.refl _ _⟩
  · go_enter Try.func9, Try.ntmps9
    go_wp2_with fail
    refine (to_ints _ xs _ H.out (by omega)).mono ?_
    rintro e w1 ⟨v1, rfl, h1, hb⟩
    have H1 := Lib.hid h1
    have B1 := Lib.hid hb
    clear h1 hb
    go_wp2_with fail
    refine (to_ints _ ss _ (U.out.below B1.out) (by omega)).mono ?_
    rintro e w2 ⟨v2, rfl, h2, hb⟩
    have H2 := Lib.hid h2
    have H12 := Lib.hid (H1.out.below hb)
    have B2 := Lib.hid (B1.out.trans (hb.mono B1.out.size))
    clear h2 hb
    go_wp2_with fail
    refine (spec_isSh t v1 v2 xs ss _ H12.out H2.out (by omega)).mono ?_
    rintro e w3 ⟨rfl, hb⟩
    have B3 := Lib.hid (B2.out.trans (hb.mono B2.out.size))
    clear hb
    obtain ⟨y, hy⟩ : ∃ y, decide (IsSh t xs ss) = y := ⟨_, rfl⟩
    rw [hy]
    have HY := Lib.hid hy
    clear hy
    go_wp2_with fail
    refine (to_ints _ xs _ (H.out.below B3.out) (by omega)).mono ?_
    rintro e w4 ⟨v4, rfl, h4, hb⟩
    have H4 := Lib.hid h4
    have B4 := Lib.hid (B3.out.trans (hb.mono B3.out.size))
    clear h4 hb
    go_wp2_with fail
    refine (to_ints _ ss _ (U.out.below B4.out) (by omega)).mono ?_
    rintro e w5 ⟨v5, rfl, h5, hb⟩
    have H5 := Lib.hid h5
    have H45 := Lib.hid (H4.out.below hb)
    have B5 := Lib.hid (B4.out.trans (hb.mono B4.out.size))
    clear h5 hb
    go_wp2_with fail
    refine (impl_isSh t v4 v5 xs ss _ H45.out H5.out (by omega)).mono ?_
    rintro e w6 ⟨rfl, hb⟩
    rw [HY.out]
    have H46 := Lib.hid (H45.out.below hb)
    have H56 := Lib.hid (H5.out.below hb)
    have B6 := Lib.hid (B5.out.trans (hb.mono B5.out.size))
    clear hb
    have hny : (y != y) = false := by simp
    go_wp2_with fail
    refine (to_ints _ xs _ (H.out.below B6.out) (by omega)).mono ?_
    rintro e w7 ⟨v7, rfl, h7, hb⟩
    have H7 := Lib.hid h7
    have H47 := Lib.hid (H46.out.below hb)
    have H57 := Lib.hid (H56.out.below hb)
    have B7 := Lib.hid (B6.out.trans (hb.mono B6.out.size))
    clear h7 hb
    go_wp2_with fail
    refine (eq_ints v4 v7 xs _ H47.out H7.out (by omega)).mono ?_
    rintro e w8 ⟨rfl, hb⟩
    have H58 := Lib.hid (H57.out.below hb)
    have B8 := Lib.hid (B7.out.trans (hb.mono B7.out.size))
    clear hb
    go_wp2_with fail
    refine (to_ints _ ss _ (U.out.below B8.out) (by omega)).mono ?_
    rintro e w9 ⟨v9, rfl, h9, hb⟩
    have H9 := Lib.hid h9
    have H59 := Lib.hid (H58.out.below hb)
    have B9 := Lib.hid (B8.out.trans (hb.mono B8.out.size))
    clear h9 hb
    go_wp2_with fail
    refine (eq_ints v5 v9 ss _ H59.out H9.out (by omega)).mono ?_
    rintro e w10 ⟨rfl, hb⟩
    have B10 := Lib.hid (B9.out.trans (hb.mono B9.out.size))
    clear hb
    go_wp2_with fail
    go_ret
    exact ⟨rfl, B10.out⟩

set_option maxRecDepth 100000 in
theorem contract (H : Type) (enc : TypeId × Value → H) (W : World) (base : Nat) (args : Array Value) (ds gs : List (DataW H)) (before : List MemPlace)
    (hval : ∀ (j : Nat) t v, Try.f9.params[j]? = some t → args[j]? = some v → Value.okWide Try.prog W .any base t v)
    (hW : DataW.Whole enc Try.prog Try.f9.params.toList Rows.fnExactIsSharingSpec.vars false W args.toList ds gs before) :
    Calls Try.prog 9 args W fun e W' => ∃ v, e = .returned v ∧ Rows.fnExactIsSharingSpec.post enc Try.prog Try.f9 false true false false W args v W' := by
  have hW' := hW
  obtain ⟨p, q, hA0, hV, rfl, hfz, hnd⟩ := hW
  have hA : DataW.TrodAll enc Try.prog W 0 (fun _ => true) true Try.f9.params.toList args.toList ds p := hA0
  rw [Try.params9] at hA hval
  obtain ⟨v0, vs0, d0, ds0, p0, q0, hargs, rfl, rfl, h0, r0⟩ := trodAll_cons hA
  obtain ⟨v1, vs1, d1, ds1, p1, q1, rfl, rfl, rfl, h1, r1⟩ := trodAll_cons r0
  obtain ⟨v2, vs2, d2, ds2, p2, q2, rfl, rfl, rfl, h2, r2⟩ := trodAll_cons r1
  obtain ⟨rfl, rfl, rfl⟩ := trodAll_nil r2
  obtain rfl : args = #[v0, v1, v2] := by cases args; simp_all
  obtain ⟨rfl, rfl⟩ := trodVars_none hV
  have h1k := h1
  have h2k := h2
  have hlt1 : ∀ x ∈ p1, x.block < W.heap.size := fun x hx => by simpa using hW'.lt x (by simp [hx])
  have hlt2 : ∀ x ∈ p2, x.block < W.heap.size := fun x hx => by simpa using hW'.lt x (by simp [hx])
  obtain ⟨a0, rfl, rfl, rfl, w0⟩ := open_int Try.underlying3 (hval 0 3 v0 rfl rfl) h0
  obtain ⟨xs1, i1, m1, b1⟩ := ints_open (hval 1 24 v1 rfl rfl) h1
  obtain ⟨xs2, i2, m2, b2⟩ := ints_open (hval 2 24 v2 rfl rfl) h2
  clear hA0
  simp only [List.append_nil, List.nil_append] at hW'
  refine (law_walk a0 _ _ xs1 xs2 W i1 m1 i2 m2).mono fun e W' ⟨he, hb⟩ => ?_
  subst he
  exact ⟨_, rfl, _, _, _, [], _, [], hW', trodAll_mk1 (shut_bool Try.underlying4 _), trodAll_cons_mk (shut_int Try.underlying3 w0) (trodAll_cons_mk (Below.trod laidOut (by kernel_rfl) (of_decide_eq_true (by kernel_rfl)) h1k hb hlt1) (trodAll_cons_mk (Below.trod laidOut (by kernel_rfl) (of_decide_eq_true (by kernel_rfl)) h2k hb hlt2) trodAll_mk0)), rfl, hb.frame _, fun h => by cases h⟩

set_option maxRecDepth 100000 in
theorem lifted (os : Os) (started : os.Started) (H : Type) (enc : TypeId × Value → H) :
    ReturnsInHanded {} Try.checked os 9 .any (Rows.fnExactIsSharingSpec.pre6 enc Try.prog Try.f9 Rows.fnExactIsSharingRow.domain false) (Rows.fnExactIsSharingSpec.post enc Try.prog Try.f9 false true false false) := by
  refine returnsInHanded_of_change (C := Try.checked) own started (by kernel_rfl) Try.func9
    (ChangeSpec.witness6 (enc := enc) (C := Try.checked) false ⟨#[], #[.int .i64 0, .slice none 0 0, .slice none 0 0], []⟩ 8 (by kernel_rfl) (by kernel_rfl) (by kernel_rfl) (by kernel_rfl)) ?_
  intro W base args ds gs before hval hW _ _
  exact contract H enc W base args ds gs before hval hW

theorem holds : Rows.FnExactIsSharingSaid :=
  OpenClaim.holds_of_wide 9 Try.f9 rfl rfl rfl rfl rfl rfl rfl ⟨rfl, rfl, rfl, rfl, rfl⟩ rfl rfl rfl rfl rfl (by kernel_rfl) Try.func9 (by kernel_rfl)
    (of_decide_eq_true (by kernel_rfl)) (by unfold Func.isWrapper; first | (rw [if_pos (by decide +kernel)]; kernel_rfl) | (rw [if_neg (by decide +kernel)]; exact ⟨rfl, rfl⟩))
    (fun os started H enc _ => lifted os started H enc)
end Go.Proofs.Ytgdoahdkidlndaa.share.xIsSharing
