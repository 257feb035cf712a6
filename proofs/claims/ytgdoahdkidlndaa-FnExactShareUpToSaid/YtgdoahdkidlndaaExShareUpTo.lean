/-
  Proved: for every total, every slice of numbers and every k, the program's ShareUpTo answers as its model and leaves its argument as it was (the law FnExactShareUpTo returns true); the arguments read afterwards as before. No condition.
-/
import Derived.Test.YtgdoahdkidlndaaRows
import Derived.Test.YtgdoahdkidlndaaInts
import Derived.Test.YtgdoahdkidlndaaIntsKit
import Derived.Test.YtgdoahdkidlndaaIntsTo
import Derived.Test.YtgdoahdkidlndaaIntsEq
import Derived.Test.YtgdoahdkidlndaaUpTo
import Derived.Test.YtgdoahdkidlndaaRunning
import Derived.WalkKit
import Derived.ProofKit
import Derived.OpenShut
import Derived.Carry
import Derived.Deep.DeepHandedRow
import Derived.Lib.Hide
namespace Go.Proofs.Ytgdoahdkidlndaa.share.xShareUpTo
open Go.ChangeShapes Go.WideShapes Go.ChangeAt Go.RowKit
open Go.ChangeMaps (open_string shut_string)

theorem own : ownKnob Try.prog.godebug = none := by kernel_rfl
theorem laidOut : laidOutB Try.prog = true := by kernel_rfl
/-- What ShareUpTo answers. -/
theorem upTo_both (t : Int) (xs : List Int) (k : Int) : ∃ (x : Int) (y : Bool), ∀ (v v2 : Value) (w w2 : World), xs.length ≤ 1048577 → Ints w v xs → Ints w2 v2 xs →
    Calls Try.prog 24 #[.int .i64 t, v, .int .i64 k] w (PairRes x y w) ∧ Calls Try.prog 15 #[.int .i64 t, v2, .int .i64 k] w2 (PairRes x y w2) := by
  by_cases h : UpOk t xs k
  · obtain ⟨m, rfl⟩ : ∃ m : Nat, k = (m : Int) := ⟨k.toNat, by have := h.2.1; omega⟩
    exact ⟨share t xs m, true, fun v v2 w w2 _ h1 h2 => ⟨spec_upTo_yes t v xs m w h1 h.1 (by have := h.2.2; omega), impl_upTo_yes t v2 xs m w2 h2 h.1 (by have := h.2.2; omega)⟩⟩
  · exact ⟨0, false, fun v v2 w w2 hm h1 h2 => ⟨spec_upTo_no t v xs k w h1 hm h, impl_upTo_no t v2 xs k w2 h2 hm h⟩⟩

set_option maxRecDepth 100000 in
set_option maxHeartbeats 1000000 in
theorem law_walk (t : Int) (v : Value) (xs : List Int) (k : Int) (w : World) (h : Ints w v xs) (hm : xs.length ≤ maxLen) : Calls Try.prog 6 #[.int .i64 t, v, .int .i64 k] w fun e w' => e = .returned (.bool true) ∧ Below w.heap.size w w' := by
  unfold maxLen at hm
  have H := Lib.hid h
  obtain ⟨a, c, rfl⟩ := h.slice
  clear h
  by_cases hbig : 1048576 < xs.length
  · go_enter Try.func6, Try.ntmps6
    go_wp2_with fail
    go_ret
    exact ⟨rfl, Below.refl _ _⟩
  · obtain ⟨x, y, hxy⟩ := upTo_both t xs k
    have HXY := Lib.hid hxy
    clear hxy
    go_enter Try.func6, Try.ntmps6
    go_wp2_with fail
    refine (to_ints _ xs _ H.out (by omega)).mono ?_
    rintro e w1 ⟨v1, rfl, h1, hb1⟩
    have H1 := Lib.hid h1
    have B1 := Lib.hid hb1
    clear h1 hb1
    go_wp2_with fail
    refine ((HXY.out v1 v1 _ _ (by omega) H1.out H1.out).1).mono ?_
    rintro e w2 ⟨rfl, hb⟩
    have B2 := Lib.hid (B1.out.trans (hb.mono B1.out.size))
    clear hb
    go_wp2_with fail
    refine (to_ints _ xs _ (H.out.below B2.out) (by omega)).mono ?_
    rintro e w3 ⟨v3, rfl, h3, hb⟩
    have H3 := Lib.hid h3
    have B3 := Lib.hid (B2.out.trans (hb.mono B2.out.size))
    clear h3 hb
    go_wp2_with fail
    refine ((HXY.out v3 v3 _ _ (by omega) H3.out H3.out).2).mono ?_
    rintro e w4 ⟨rfl, hb⟩
    have H4 := Lib.hid (H3.out.below hb)
    have B4 := Lib.hid (B3.out.trans (hb.mono B3.out.size))
    clear hb
    have hne : (x != x) = false := by simp
    have hny : (y != y) = false := by simp
    go_wp2_with fail
    refine (to_ints _ xs _ (H.out.below B4.out) (by omega)).mono ?_
    rintro e w5 ⟨v5, rfl, h5, hb⟩
    have H5 := Lib.hid h5
    have H45 := Lib.hid (H4.out.below hb)
    have B5 := Lib.hid (B4.out.trans (hb.mono B4.out.size))
    clear h5 hb
    go_wp2_with fail
    refine (eq_ints v3 v5 xs _ H45.out H5.out (by omega)).mono ?_
    rintro e w6 ⟨rfl, hb⟩
    have B6 := Lib.hid (B5.out.trans (hb.mono B5.out.size))
    clear hb
    go_wp2_with fail
    go_ret
    exact ⟨rfl, B6.out⟩

set_option maxRecDepth 100000 in
theorem contract (H : Type) (enc : TypeId × Value → H) (W : World) (base : Nat) (args : Array Value) (ds gs : List (DataW H)) (before : List MemPlace)
    (hval : ∀ (j : Nat) t v, Try.f6.params[j]? = some t → args[j]? = some v → Value.okWide Try.prog W .any base t v)
    (hW : DataW.Whole enc Try.prog Try.f6.params.toList Rows.fnExactShareUpToSpec.vars false W args.toList ds gs before) :
    Calls Try.prog 6 args W fun e W' => ∃ v, e = .returned v ∧ Rows.fnExactShareUpToSpec.post enc Try.prog Try.f6 false true false false W args v W' := by
  have hW' := hW
  obtain ⟨p, q, hA0, hV, rfl, hfz, hnd⟩ := hW
  have hA : DataW.TrodAll enc Try.prog W 0 (fun _ => true) true Try.f6.params.toList args.toList ds p := hA0
  rw [Try.params6] at hA hval
  obtain ⟨v0, vs0, d0, ds0, p0, q0, hargs, rfl, rfl, h0, r0⟩ := trodAll_cons hA
  obtain ⟨v1, vs1, d1, ds1, p1, q1, rfl, rfl, rfl, h1, r1⟩ := trodAll_cons r0
  obtain ⟨v2, vs2, d2, ds2, p2, q2, rfl, rfl, rfl, h2, r2⟩ := trodAll_cons r1
  obtain ⟨rfl, rfl, rfl⟩ := trodAll_nil r2
  obtain rfl : args = #[v0, v1, v2] := by cases args; simp_all
  obtain ⟨rfl, rfl⟩ := trodVars_none hV
  have h1k := h1
  have hlt1 : ∀ x ∈ p1, x.block < W.heap.size := fun x hx => by simpa using hW'.lt x (by simp [hx])
  obtain ⟨a0, rfl, rfl, rfl, w0⟩ := open_int Try.underlying3 (hval 0 3 v0 rfl rfl) h0
  obtain ⟨xs1, i1, m1, b1⟩ := ints_open (hval 1 24 v1 rfl rfl) h1
  obtain ⟨a2, rfl, rfl, rfl, w2⟩ := open_int Try.underlying3 (hval 2 3 v2 rfl rfl) h2
  clear hA0
  simp only [List.append_nil, List.nil_append] at hW'
  refine (law_walk a0 _ xs1 a2 W i1 m1).mono fun e W' ⟨he, hb⟩ => ?_
  subst he
  exact ⟨_, rfl, _, _, _, [], _, [], hW', trodAll_mk1 (shut_bool Try.underlying4 _), trodAll_cons_mk (shut_int Try.underlying3 w0) (trodAll_cons_mk (Below.trod laidOut (by kernel_rfl) (of_decide_eq_true (by kernel_rfl)) h1k hb hlt1) (trodAll_cons_mk (shut_int Try.underlying3 w2) trodAll_mk0)), rfl, hb.frame _, fun h => by cases h⟩

set_option maxRecDepth 100000 in
theorem lifted (os : Os) (started : os.Started) (H : Type) (enc : TypeId × Value → H) :
    ReturnsInHanded {} Try.checked os 6 .any (Rows.fnExactShareUpToSpec.pre6 enc Try.prog Try.f6 Rows.fnExactShareUpToRow.domain false) (Rows.fnExactShareUpToSpec.post enc Try.prog Try.f6 false true false false) := by
  refine returnsInHanded_of_change (C := Try.checked) own started (by kernel_rfl) Try.func6
    (ChangeSpec.witness6 (enc := enc) (C := Try.checked) false ⟨#[], #[.int .i64 0, .slice none 0 0, .int .i64 0], []⟩ 8 (by kernel_rfl) (by kernel_rfl) (by kernel_rfl) (by kernel_rfl)) ?_
  intro W base args ds gs before hval hW _ _
  exact contract H enc W base args ds gs before hval hW

theorem holds : Rows.FnExactShareUpToSaid :=
  OpenClaim.holds_of_wide 6 Try.f6 rfl rfl rfl rfl rfl rfl rfl ⟨rfl, rfl, rfl, rfl, rfl⟩ rfl rfl rfl rfl rfl (by kernel_rfl) Try.func6 (by kernel_rfl)
    (of_decide_eq_true (by kernel_rfl)) (by unfold Func.isWrapper; first | (rw [if_pos (by decide +kernel)]; kernel_rfl) | (rw [if_neg (by decide +kernel)]; exact ⟨rfl, rfl⟩))
    (fun os started H enc _ => lifted os started H enc)
end Go.Proofs.Ytgdoahdkidlndaa.share.xShareUpTo
