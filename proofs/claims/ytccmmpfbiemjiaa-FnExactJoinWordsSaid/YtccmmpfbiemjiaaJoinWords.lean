/-
  Proved: for every slice of strings, the program's JoinWords answers as its model spec.JoinWords and leaves its argument as it was (the law FnExactJoinWords returns true); the slice reads afterwards as before. No condition.
-/
import Derived.Test.YtccmmpfbiemjiaaRows
import Derived.Test.YtccmmpfbiemjiaaStrs
import Derived.Test.YtccmmpfbiemjiaaStrsWalk
import Derived.Test.YtccmmpfbiemjiaaJoinWalk
import Derived.Test.YtccmmpfbiemjiaaShelf
import Derived.WalkKit
import Derived.ProofKit
import Derived.Carry
import Derived.Lib.Hide
namespace Go.Proofs.Ytccmmpfbiemjiaa
open Go.ChangeShapes Go.WideShapes Go.ChangeAt Go.RowKit
open Go.ChangeMaps (open_string shut_string)

theorem impl_join (v : Value) (ss : List ByteArray) (w : World) (h : Strs w v ss) (hm : ss.length + bytesOf ss ≤ 1048576) :
    Calls Try.prog 10 #[v] w fun e w' => e = .returned (.string (joinS ss)) ∧ Below w.heap.size w w' := by
  rcases h with ⟨rfl, a, c, rfl⟩ | ⟨hne, b, o, c, rfl, hc, hcell⟩
  · go_enter Try.func10, Try.ntmps10
    go_wp2_with fail
    refine (Try.strings_Join_none a c _ _).mono ?_
    rintro e w1 ⟨rfl, rfl⟩
    go_wp2
    go_ret
    exact ⟨rfl, Below.refl _ _⟩
  · have hl := joinS_size ss
    rw [← ba_length] at hl
    have hl2 : (Lib.join (ss.map (·.data.toList)) [32]).length ≤ 1048576 := Nat.le_trans hl hm
    have HL := Lib.hid hl2
    clear hl hl2
    go_enter Try.func10, Try.ntmps10
    go_wp2_with fail
    refine (Try.strings_Join b o c ss _ _ hcell.2 hcell.1 (by omega) hc (Nat.le_trans HL.out (by omega))).mono ?_
    rintro e w1 ⟨rfl, hb⟩
    go_wp2
    go_ret
    exact ⟨rfl, hb⟩

/-- The walk of the law. -/
theorem join_walk (v : Value) (ss : List ByteArray) (w : World) (h : Strs w v ss) (hm : ss.length ≤ maxLen) (hs : ∀ s ∈ ss, s.size ≤ maxLen) :
    Calls Try.prog 4 #[v] w fun e w' => e = .returned (.bool true) ∧ Below w.heap.size w w' := by
  have HS := Lib.hid hs
  have HM := Lib.hid hm
  have H := Lib.hid h
  clear hs hm h
  go_enter Try.func4, Try.ntmps4
  go_wp2_with fail
  refine (sz_strs v ss 1048576 _ H.out (by omega) (by omega) HM.out HS.out).mono ?_
  rintro e w1 ⟨r, rfl, hr1, hr2, hr3, rfl⟩
  have HR := Lib.hid hr3
  clear hr3
  by_cases hr : r < 0
  · go_wp2_with fail
    go_ret
    exact ⟨rfl, Below.refl _ _⟩
  · have HZ : Hid (ss.length + bytesOf ss ≤ 1048576) := Lib.hid (by have := HR.out (by omega); omega)
    clear HR
    go_wp2_with fail
    refine (to_strs v ss _ H.out (by have := HZ.out; omega)).mono ?_
    rintro e w2 ⟨v2, rfl, h2, hb2⟩
    have H2 := Lib.hid h2
    have B2 := Lib.hid hb2
    clear h2 hb2
    go_wp2_with fail
    refine (spec_join v2 ss _ H2.out HZ.out).mono ?_
    rintro e w3 ⟨rfl, rfl⟩
    go_wp2_with fail
    refine (to_strs v ss _ (H.out.below B2.out) (by have := HZ.out; omega)).mono ?_
    rintro e w4 ⟨v4, rfl, h4, hb4⟩
    have H4 := Lib.hid h4
    have B4 := Lib.hid (B2.out.trans (hb4.mono B2.out.size))
    clear h4 hb4
    go_wp2_with fail
    refine (impl_join v4 ss _ H4.out HZ.out).mono ?_
    rintro e w5 ⟨rfl, hb5⟩
    have H5 := Lib.hid (H4.out.below hb5)
    have B5 := Lib.hid (B4.out.trans (hb5.mono B4.out.size))
    clear hb5
    generalize joinS ss = js
    have ej : (js.data.toList != js.data.toList) = false := by simp
    go_wp2_with fail
    refine (to_strs v ss _ (H.out.below B5.out) (by have := HZ.out; omega)).mono ?_
    rintro e w6 ⟨v6, rfl, h6, hb6⟩
    have H6 := Lib.hid h6
    have H56 := Lib.hid (H5.out.below hb6)
    have B6 := Lib.hid (B5.out.trans (hb6.mono B5.out.size))
    clear h6 hb6
    go_wp2_with fail
    refine (eq_strs v4 v6 ss _ H56.out H6.out (by have := HZ.out; omega)).mono ?_
    rintro e w7 ⟨rfl, hb7⟩
    have B7 := Lib.hid (B6.out.trans (hb7.mono B6.out.size))
    clear hb7
    go_wp2_with fail
    go_ret
    exact ⟨rfl, B7.out⟩

namespace joinWords
theorem own : ownKnob Try.prog.godebug = none := by kernel_rfl
theorem laidOut : laidOutB Try.prog = true := by kernel_rfl

set_option maxRecDepth 100000 in
theorem lifted (os : Os) (started : os.Started) (H : Type) (enc : TypeId × Value → H) :
    ReturnsInHanded {} Try.checked os 4 .any (Rows.fnExactJoinWordsSpec.pre6 enc Try.prog Try.f4 Rows.fnExactJoinWordsRow.domain false) (Rows.fnExactJoinWordsSpec.post enc Try.prog Try.f4 false true false false) := by
  refine returnsInHanded_of_change (C := Try.checked) own started (by kernel_rfl) Try.func4
    (ChangeSpec.witness6 (enc := enc) (C := Try.checked) false ⟨#[], #[.slice none 0 0], []⟩ 8 (by kernel_rfl) (by kernel_rfl) (by kernel_rfl) (by kernel_rfl)) ?_
  intro W base args ds gs before hval0 hW _ _
  have hval : ∀ (j : Nat) t v, Try.f4.params[j]? = some t → args[j]? = some v → Value.okWide Try.prog W .any base t v := hval0
  have hW' := hW
  obtain ⟨p, q, hA0, hV, rfl, _, _⟩ := hW
  have hA : DataW.TrodAll enc Try.prog W 0 (fun _ => true) true Try.f4.params.toList args.toList ds p := hA0
  rw [Try.params4] at hA hval
  obtain ⟨v0, d0, rfl, rfl, h0⟩ := trodAll_one hA
  obtain ⟨rfl, rfl⟩ := trodVars_none hV
  have h0k := h0
  have hlt : ∀ x ∈ p, x.block < W.heap.size := fun x hx => by simpa using hW'.lt x (by simpa using hx)
  have back : ∀ W', Below W.heap.size W W' → DataW.TrodAll enc Try.prog W' 0 (fun b => decide (b < W.heap.size)) true [23] [v0] [d0] p := fun W' hb =>
    trodAll_mk1 (Below.trod laidOut (by kernel_rfl) (of_decide_eq_true (by kernel_rfl)) h0k hb hlt)
  obtain ⟨a0, len, cap, rfl⟩ := okWide_slice Try.underlying23 (hval 0 23 v0 rfl rfl)
  have hstr : ∃ ss : List ByteArray, Strs W (.slice a0 len cap) ss ∧ ss.length ≤ maxLen ∧ ∀ s ∈ ss, s.size ≤ maxLen := by
    obtain ⟨fuel, hf⟩ := h0
    rcases open_strings Try.underlying23 Try.underlying9 (by kernel_rfl : Try.prog.cellsOf 9 = 1) hf with ⟨hcs, hx⟩ | ⟨a, len', cap', ss, hcs, _, hl, hm, hz, hx, hcell, hws⟩
    · simp only [Value.cells, List.cons.injEq, Value.slice.injEq, and_true] at hcs
      obtain ⟨rfl, rfl, rfl⟩ := hcs
      exact ⟨[], Or.inl ⟨rfl, _, _, rfl⟩, Nat.zero_le _, by simp⟩
    · simp only [Value.cells, List.cons.injEq, Value.slice.injEq, and_true] at hcs
      obtain ⟨rfl, rfl, rfl⟩ := hcs
      rw [if_pos rfl] at hz
      refine ⟨ss.take len, strs_open hl hz hcell (fun i hi => cell_block (hcell i hi)), Nat.le_trans (List.length_take_le _ _) (Nat.le_trans hl hm), fun s h => hws s (List.mem_of_mem_take h)⟩
  obtain ⟨ss, hs, hm, hz⟩ := hstr
  clear hA0 hval0
  simp only [List.append_nil] at hW'
  refine (join_walk _ ss W hs hm hz).mono fun e W' ⟨he, hb⟩ => ?_
  subst he
  exact ⟨_, rfl, _, _, _, [], _, [], hW', trodAll_mk1 (shut_bool Try.underlying4 _), back W' hb, rfl, hb.frame _, fun h => by cases h⟩

theorem holds : Rows.FnExactJoinWordsSaid :=
  OpenClaim.holds_of_wide 4 Try.f4 rfl rfl rfl rfl rfl rfl rfl ⟨rfl, rfl, rfl, rfl, rfl⟩ rfl rfl rfl rfl rfl (by kernel_rfl) Try.func4 (by kernel_rfl)
    (of_decide_eq_true (by kernel_rfl)) (by unfold Func.isWrapper; first | (rw [if_pos (by decide +kernel)]; kernel_rfl) | (rw [if_neg (by decide +kernel)]; exact ⟨rfl, rfl⟩))
    (fun os started H enc _ => lifted os started H enc)
end joinWords
end Go.Proofs.Ytccmmpfbiemjiaa
