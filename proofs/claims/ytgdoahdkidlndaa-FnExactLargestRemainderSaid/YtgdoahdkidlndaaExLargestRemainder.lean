/-
  Proved: for every total and every slice of numbers, the program's LargestRemainder answers as its model, twice, leaves its argument as it was, and its answer owns its memory (the law FnExactLargestRemainder returns true); the arguments read afterwards as before. No condition.
-/
import Derived.Test.YtgdoahdkidlndaaRows
import Derived.Test.YtgdoahdkidlndaaInts
import Derived.Test.YtgdoahdkidlndaaIntsKit
import Derived.Test.YtgdoahdkidlndaaIntsTo
import Derived.Test.YtgdoahdkidlndaaIntsEq
import Derived.Test.YtgdoahdkidlndaaIntsMark
import Derived.Test.YtgdoahdkidlndaaUpTo
import Derived.Test.YtgdoahdkidlndaaAppSpec
import Derived.Test.YtgdoahdkidlndaaLrFacts
import Derived.Test.YtgdoahdkidlndaaLrSpec
import Derived.Test.YtgdoahdkidlndaaLrImpl
import Derived.WalkKit
import Derived.ProofKit
import Derived.OpenShut
import Derived.Carry
import Derived.Deep.DeepHandedRow
import Derived.Lib.Hide
namespace Go.Proofs.Ytgdoahdkidlndaa.share.xLargestRemainder
open Go.ChangeShapes Go.WideShapes Go.ChangeAt Go.RowKit
open Go.ChangeMaps (open_string shut_string)

theorem own : ownKnob Try.prog.godebug = none := by kernel_rfl
theorem laidOut : laidOutB Try.prog = true := by kernel_rfl
/-- What LargestRemainder answers. -/
theorem both (t : Int) (xs : List Int) : ∃ (ys : List Int) (y : Bool), ys.length ≤ 40 ∧ ∀ (v : Value) (w : World), xs.length ≤ 1048577 → Ints w v xs →
    Calls Try.prog 20 #[.int .i64 t, v] w (ListRes ys y w) ∧ Calls Try.prog 13 #[.int .i64 t, v] w (ListOwn ys y w) := by
  by_cases h : CanS t xs
  · exact ⟨lrL t xs, true, by rw [lrL_length]; exact h.2.2.1, fun v w _ h1 => ⟨spec_lr_yes t v xs w h1 h, impl_lr_yes t v xs w h1 h⟩⟩
  · exact ⟨[], false, by simp, fun v w hm h1 => ⟨spec_lr_no t v xs w h1 hm h, impl_lr_no t v xs w h1 hm h⟩⟩

set_option maxRecDepth 100000 in
set_option maxHeartbeats 1000000 in
theorem law_walk (t : Int) (v : Value) (xs : List Int) (w : World) (h : Ints w v xs) (hm : xs.length ≤ maxLen) : Calls Try.prog 8 #[.int .i64 t, v] w fun e w' => e = .returned (.bool true) ∧ Below w.heap.size w w' := by
  unfold maxLen at hm
  have H := Lib.hid h
  obtain ⟨a, c, rfl⟩ := h.slice
  clear h
  by_cases hbig : 1048576 < xs.length
  · go_enter Try.func8, Try.ntmps8
    go_wp2_with fail
    go_ret
    exact ⟨rfl, Below.refl _ _⟩
  · obtain ⟨ys, y, hyl, hxy⟩ := both t xs
    have HXY := Lib.hid hxy
    clear hxy
    go_enter Try.func8, Try.ntmps8
    go_wp2_with fail
    refine (to_ints _ xs _ H.out (by omega)).mono ?_
    rintro e w1 ⟨v1, rfl, h1, hb1⟩
    have H1 := Lib.hid h1
    have B1 := Lib.hid hb1
    clear h1 hb1
    go_wp2_with fail
    refine ((HXY.out v1 _ (by omega) H1.out).1).mono ?_
    rintro e w2 ⟨v2, rfl, h2, hb⟩
    have HW := Lib.hid h2
    have B2 := Lib.hid (B1.out.trans (hb.mono B1.out.size))
    clear h2 hb H1 B1
    go_wp2_with fail
    refine (to_intsO _ xs _ (H.out.below B2.out) (by omega)).mono ?_
    rintro e w3 ⟨x3, rfl, h3, hb⟩
    have X3 := Lib.hid h3
    have C3 := Lib.hid hb
    have B3 := Lib.hid (B2.out.trans (hb.mono B2.out.size))
    have HLE : Hid (w2.heap.size ≤ w3.heap.size) := Lib.hid hb.size
    clear h3 hb
    go_wp2_with fail
    refine ((HXY.out x3 _ (by omega) (ints_of_row rfl X3.out)).2).mono ?_
    rintro e w4 ⟨g4, rfl, h4, hb⟩
    have G4 := Lib.hid h4
    have X4 := Lib.hid (kept_below X3.out hb)
    have C4 := Lib.hid (C3.out.trans (hb.mono C3.out.size))
    have B4 := Lib.hid (B3.out.trans (hb.mono B3.out.size))
    have HSEP : Hid (∀ j, x3.ownBlock = some j → g4.ownBlock = some j → False) := Lib.hid (fun j hx hg => by
      have h1 := (X3.out.lt j hx).2
      have h2 := (G4.out.lt j hg).1
      omega)
    clear h4 hb X3 C3
    have hny : (y != y) = false := by simp
    go_wp2_with fail
    refine (eq_ints g4 v2 ys _ (ints_of_row rfl G4.out) (HW.out.below C4.out) (by omega)).mono ?_
    rintro e w5 ⟨rfl, hb⟩
    have G5 := Lib.hid (kept_below G4.out hb)
    have X5 := Lib.hid (kept_below X4.out hb)
    have C5 := Lib.hid (C4.out.trans (hb.mono C4.out.size))
    have B5 := Lib.hid (B4.out.trans (hb.mono B4.out.size))
    clear hb G4 X4 C4 B4
    go_wp2_with fail
    refine (to_ints _ xs _ (H.out.below B5.out) (by omega)).mono ?_
    rintro e w6 ⟨v6, rfl, h6, hb⟩
    have H6 := Lib.hid h6
    have G6 := Lib.hid (kept_below G5.out hb)
    have X6 := Lib.hid (kept_below X5.out hb)
    have C6 := Lib.hid (C5.out.trans (hb.mono C5.out.size))
    have B6 := Lib.hid (B5.out.trans (hb.mono B5.out.size))
    clear h6 hb G5 X5 C5 B5
    go_wp2_with fail
    refine (eq_ints x3 v6 xs _ (ints_of_row rfl X6.out) H6.out (by omega)).mono ?_
    rintro e w7 ⟨rfl, hb⟩
    have G7 := Lib.hid (kept_below G6.out hb)
    have X7 := Lib.hid (kept_below X6.out hb)
    have C7 := Lib.hid (C6.out.trans (hb.mono C6.out.size))
    have B7 := Lib.hid (B6.out.trans (hb.mono B6.out.size))
    clear hb G6 X6 C6 B6 H6
    go_wp2_with fail
    refine (mark_one w2.heap.size x3 _ xs.length _ _ rfl X7.out (by omega)).mono ?_
    rintro e w8 ⟨rfl, _, hg8⟩
    have G8 := Lib.hid (own_apart G7.out hg8 (fun j hg hx => HSEP.out j hx hg))
    have hr : ∀ k, x3.ownBlock = some k → w2.heap.size ≤ k := fun k hk => (X7.out.lt k hk).1
    have C8 := Lib.hid (C7.out.grown hg8 C7.out.size hr)
    have B8 := Lib.hid (B7.out.grown hg8 B7.out.size (fun k hk => Nat.le_trans B2.out.size (hr k hk)))
    clear hg8 hr G7 X7 C7 B7
    go_wp2_with fail
    refine (eq_ints g4 v2 ys _ (ints_of_row rfl G8.out) (HW.out.below C8.out) (by omega)).mono ?_
    rintro e w9 ⟨rfl, hb⟩
    have G9 := Lib.hid (kept_below G8.out hb)
    have C9 := Lib.hid (C8.out.trans (hb.mono C8.out.size))
    have B9 := Lib.hid (B8.out.trans (hb.mono B8.out.size))
    clear hb G8 C8 B8
    go_wp2_with fail
    refine (mark_one w3.heap.size g4 _ ys.length _ _ rfl G9.out (by omega)).mono ?_
    rintro e w10 ⟨rfl, ho, hg10⟩
    have M10 := Lib.hid ho
    have hr : ∀ k, g4.ownBlock = some k → w3.heap.size ≤ k := fun k hk => (G9.out.lt k hk).1
    have C10 := Lib.hid (C9.out.grown hg10 C9.out.size (fun k hk => Nat.le_trans HLE.out (hr k hk)))
    have B10 := Lib.hid (B9.out.grown hg10 B9.out.size (fun k hk => Nat.le_trans B3.out.size (hr k hk)))
    clear ho hg10 hr G9 C9 B9
    go_wp2_with fail
    refine (held_one w3.heap.size g4 _ ys.length _ rfl M10.out (by omega)).mono ?_
    rintro e w11 ⟨rfl, hb⟩
    have M11 := Lib.hid (kept_below M10.out hb)
    have C11 := Lib.hid (C10.out.trans (hb.mono C10.out.size))
    have B11 := Lib.hid (B10.out.trans (hb.mono B10.out.size))
    clear hb M10 C10 B10
    have hqq : ((1 + (ys.length : Int)) != 1 + (ys.length : Int)) = false := by simp
    go_wp2_with fail
    refine (to_ints _ xs _ (H.out.below B11.out) (by omega)).mono ?_
    rintro e w12 ⟨v12, rfl, h12, hb⟩
    have H12 := Lib.hid h12
    have M12 := Lib.hid (kept_below M11.out hb)
    have C12 := Lib.hid (C11.out.trans (hb.mono C11.out.size))
    have B12 := Lib.hid (B11.out.trans (hb.mono B11.out.size))
    clear h12 hb M11 C11 B11
    go_wp2_with fail
    refine ((HXY.out v12 _ (by omega) H12.out).2).mono ?_
    rintro e w13 ⟨g13, rfl, h13, hb⟩
    have G13 := Lib.hid h13
    have M13 := Lib.hid (kept_below M12.out hb)
    have C13 := Lib.hid (C12.out.trans (hb.mono C12.out.size))
    have B13 := Lib.hid (B12.out.trans (hb.mono B12.out.size))
    clear h13 hb M12 C12 B12 H12
    go_wp2_with fail
    refine (eq_ints g13 v2 ys _ (ints_of_row rfl G13.out) (HW.out.below C13.out) (by omega)).mono ?_
    rintro e w14 ⟨rfl, hb⟩
    have M14 := Lib.hid (kept_below M13.out hb)
    have B14 := Lib.hid (B13.out.trans (hb.mono B13.out.size))
    clear hb M13 C13 B13 G13
    go_wp2_with fail
    refine (held_one w3.heap.size g4 _ ys.length _ rfl M14.out (by omega)).mono ?_
    rintro e w15 ⟨rfl, hb⟩
    have B15 := Lib.hid (B14.out.trans (hb.mono B14.out.size))
    clear hb
    go_wp2_with fail
    go_ret
    exact ⟨rfl, B15.out⟩

set_option maxRecDepth 100000 in
theorem contract (H : Type) (enc : TypeId × Value → H) (W : World) (base : Nat) (args : Array Value) (ds gs : List (DataW H)) (before : List MemPlace)
    (hval : ∀ (j : Nat) t v, Try.f8.params[j]? = some t → args[j]? = some v → Value.okWide Try.prog W .any base t v)
    (hW : DataW.Whole enc Try.prog Try.f8.params.toList Rows.fnExactLargestRemainderSpec.vars false W args.toList ds gs before) :
    Calls Try.prog 8 args W fun e W' => ∃ v, e = .returned v ∧ Rows.fnExactLargestRemainderSpec.post enc Try.prog Try.f8 false true false false W args v W' := by
  have hW' := hW
  obtain ⟨p, q, hA0, hV, rfl, hfz, hnd⟩ := hW
  have hA : DataW.TrodAll enc Try.prog W 0 (fun _ => true) true Try.f8.params.toList args.toList ds p := hA0
  rw [Try.params8] at hA hval
  obtain ⟨v0, vs0, d0, ds0, p0, q0, hargs, rfl, rfl, h0, r0⟩ := trodAll_cons hA
  obtain ⟨v1, vs1, d1, ds1, p1, q1, rfl, rfl, rfl, h1, r1⟩ := trodAll_cons r0
  obtain ⟨rfl, rfl, rfl⟩ := trodAll_nil r1
  obtain rfl : args = #[v0, v1] := by cases args; simp_all
  obtain ⟨rfl, rfl⟩ := trodVars_none hV
  have h1k := h1
  have hlt1 : ∀ x ∈ p1, x.block < W.heap.size := fun x hx => by simpa using hW'.lt x (by simp [hx])
  obtain ⟨a0, rfl, rfl, rfl, w0⟩ := open_int Try.underlying3 (hval 0 3 v0 rfl rfl) h0
  obtain ⟨xs1, i1, m1, b1⟩ := ints_open (hval 1 24 v1 rfl rfl) h1
  clear hA0
  simp only [List.append_nil, List.nil_append] at hW'
  refine (law_walk a0 _ xs1 W i1 m1).mono fun e W' ⟨he, hb⟩ => ?_
  subst he
  exact ⟨_, rfl, _, _, _, [], _, [], hW', trodAll_mk1 (shut_bool Try.underlying4 _), trodAll_cons_mk (shut_int Try.underlying3 w0) (trodAll_cons_mk (Below.trod laidOut (by kernel_rfl) (of_decide_eq_true (by kernel_rfl)) h1k hb hlt1) trodAll_mk0), rfl, hb.frame _, fun h => by cases h⟩

set_option maxRecDepth 100000 in
theorem lifted (os : Os) (started : os.Started) (H : Type) (enc : TypeId × Value → H) :
    ReturnsInHanded {} Try.checked os 8 .any (Rows.fnExactLargestRemainderSpec.pre6 enc Try.prog Try.f8 Rows.fnExactLargestRemainderRow.domain false) (Rows.fnExactLargestRemainderSpec.post enc Try.prog Try.f8 false true false false) := by
  refine returnsInHanded_of_change (C := Try.checked) own started (by kernel_rfl) Try.func8
    (ChangeSpec.witness6 (enc := enc) (C := Try.checked) false ⟨#[], #[.int .i64 0, .slice none 0 0], []⟩ 8 (by kernel_rfl) (by kernel_rfl) (by kernel_rfl) (by kernel_rfl)) ?_
  intro W base args ds gs before hval hW _ _
  exact contract H enc W base args ds gs before hval hW

theorem holds : Rows.FnExactLargestRemainderSaid :=
  OpenClaim.holds_of_wide 8 Try.f8 rfl rfl rfl rfl rfl rfl rfl ⟨rfl, rfl, rfl, rfl, rfl⟩ rfl rfl rfl rfl rfl (by kernel_rfl) Try.func8 (by kernel_rfl)
    (of_decide_eq_true (by kernel_rfl)) (by unfold Func.isWrapper; first | (rw [if_pos (by decide +kernel)]; kernel_rfl) | (rw [if_neg (by decide +kernel)]; exact ⟨rfl, rfl⟩))
    (fun os started H enc _ => lifted os started H enc)
end Go.Proofs.Ytgdoahdkidlndaa.share.xLargestRemainder
