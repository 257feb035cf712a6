/-
  The walk of the law FnChangesJoined, given what the program owes.
-/
import Derived.Test.YtdhldokpojghdaaChgLawP
import Derived.WalkKit
import Derived.WalkSpells
import Derived.WalkSmall
import Derived.BigQuiet
import Derived.OneCell
import Derived.Deep.QuietTactic
import Derived.Deep.DeepCutAuto
import Derived.Deep.RegionHeld3
import Derived.Laws.OwnMore
import Derived.Lib.Hide
namespace Go.Proofs.Ytdhldokpojghdaa
open Go.RowKit

set_option maxRecDepth 100000 in
set_option maxHeartbeats 8000000 in
theorem walk_FnChangesJoined (him : ImplApplyChanges) (a : Option Addr) (n c : Nat) (w : World) (hm : n ≤ maxLen) (hcode : CodeAt w.heap.size w a n) :
    Calls Try.prog 5 #[.slice a n c] w fun e w' => e = .returned (.bool true) ∧ Below w.heap.size w w' := by
  unfold maxLen at hm
  have HIM := Lib.hid him
  have HCO := Lib.hid hcode
  clear hcode him
  by_cases hbig : 1048576 < n
  · have e0 : decide ((1048576 : Int) < (n : Int)) = true := decide_eq_true (by omega)
    go_enter Try.func5, Try.ntmps5
    go_wp2_with fail
    refine (laws_big a n c _).mono ?_
    rintro e w1 ⟨rfl, rfl⟩
    go_wp2
    go_ret
    exact ⟨rfl, Below.refl _ _⟩
  have e0 : decide ((1048576 : Int) < (n : Int)) = false := decide_eq_false (by omega)
  go_enter Try.func5, Try.ntmps5
  go_wp2_with fail
  refine (laws_big a n c _).mono ?_
  rintro e w1 ⟨rfl, rfl⟩
  go_wp2_with fail
  refine (draw_applyChanges a n c _ (by omega) HCO.out).mono ?_
  rintro e w2 ⟨p, q, l, p2, q2, ls, g3, q3, cs, rfl, HL6, HL9, HC3, HZ, HZ2, HZ3, HI, HBX, HQ, HB0⟩
  obtain ⟨lo, hi, hx⟩ := HBX.out
  have HX := Lib.hid hx
  have HCI := Lib.hid (CH.is_of_row HQ.out)
  have hc3 := HC3.out
  have HLM : Hid (l.length ≤ maxLen) := Lib.hid (by have := HL6.out; unfold maxLen; omega)
  clear hx HBX HCO hbig hm e0 HQ HC3 HL6 HL9
  go_wp2_with fail
  refine (HIM.out _ _ l ls _ cs lo hi w2 HI.out HLM.out HZ.out HX.out HZ2.out HCI.out (by unfold maxLen; omega) HZ3.out).mono ?_
  rintro e w3 ⟨v3, rfl, HO3, HB3⟩
  have HW3 := Lib.hid (HB0.out.trans (HB3.out.mono HB0.out.size))
  have HF := Lib.hid (few_aps l ls cs)
  obtain ⟨o, ho⟩ : ∃ o, apsO l ls cs = o := ⟨_, rfl⟩
  have HOO := Lib.hid ho
  rw [ho] at HO3 HF
  rw [ho]
  clear ho
  obtain ⟨y, hy⟩ : ∃ y, o.isSome = y := ⟨_, rfl⟩
  have HYY := Lib.hid hy
  rw [hy]
  clear hy
  have hyy : (y != y) = false := by simp
  obtain ⟨p4, q4, rfl⟩ := HO3.out.slice
  go_wp2_with fail
  refine (spec_applyChanges _ _ _ l ls cs lo hi w3 (HI.out.below HB3.out) (HX.out.below BLN.kept HB3.out) (HCI.out.below HB3.out) HLM.out HZ.out HZ2.out (by unfold maxLen; omega) HZ3.out).mono ?_
  rintro e w4 ⟨v4, rfl, HO4, HB4⟩
  rw [HOO.out, HYY.out]
  have HS4 := Lib.hid (HO3.out.below HB4.out)
  have HB24 := Lib.hid (HB3.out.trans (HB4.out.mono HB3.out.size))
  clear HO4 HO3 HB3 HB4 HW3
  have HI4 := Lib.hid (HI.out.below HB24.out)
  have HX4 := Lib.hid (HX.out.below BLN.kept HB24.out)
  have HC4 := Lib.hid (HCI.out.below HB24.out)
  have HW4 := Lib.hid (HB0.out.trans (HB24.out.mono HB0.out.size))
  clear HI HX HCI HB0 HB24
  rcases cs with _ | ⟨x1, _ | ⟨x2, _ | ⟨x3, _ | ⟨x4, rest⟩⟩⟩⟩
  rotate_right
  · exfalso
    simp at hc3
  · clear hc3
    have HJ := Lib.hid (joined l ls [] [] (by simp))
    have HOO2 : Hid (apsO l ls ([] ++ []) = o) := HOO
    rw [HOO2.out] at HJ
    have HA : Hid (CH.Is w4 (.slice (some ⟨g3, 0, none⟩) 0 q3) []) := Lib.hid (CH.is_nil _ _ _)
    have HBB : Hid (CH.Is w4 (.slice (some ⟨g3, 0, none⟩) 0 q3) []) := Lib.hid (CH.is_nil _ _ _)
    have HZA : Hid (∀ r, r ∈ ([] : List CH) → CH.Sz r) := Lib.hid (fun r hr => by cases hr)
    have HZB : Hid (∀ r, r ∈ ([] : List CH) → CH.Sz r) := Lib.hid (fun r hr => by cases hr)
    clear HC4 HOO HOO2
    simp only [List.length_nil]
    go_wp2_with fail
    refine (HIM.out _ _ l ls _ [] lo hi w4 HI4.out HLM.out HZ.out HX4.out HZ2.out HA.out (by simp [maxLen]) HZA.out).mono ?_
    rintro e w5 ⟨v5, rfl, HO5, HB5⟩
    have HS5 := Lib.hid (HS4.out.below HB5.out)
    have HSA := Lib.hid (aps_sz (l := l) (cs := []) HZ2.out HZA.out)
    obtain ⟨o1, ho1⟩ : ∃ o, apsO l ls [] = o := ⟨_, rfl⟩
    rw [ho1] at HO5 HSA HJ
    rw [ho1]
    clear ho1
    have HW5 := Lib.hid (HW4.out.trans (HB5.out.mono HW4.out.size))
    obtain ⟨p5, q5, rfl⟩ := HO5.out.slice
    go_wp2_with fail
    refine (HIM.out _ _ l (o1.getD []) _ [] w4.heap.size w5.heap.size w5 (HI4.out.below HB5.out) HLM.out HZ.out HO5.out.sl HSA.out (HBB.out.below HB5.out) (by simp [maxLen]) HZB.out).mono ?_
    rintro e w6 ⟨v6, rfl, HO6, HB6⟩
    have HW6 := Lib.hid (HW5.out.trans (HB6.out.mono HW5.out.size))
    have HS6 := Lib.hid (HS5.out.below HB6.out)
    obtain ⟨p6, q6, rfl⟩ := HO6.out.slice
    cases o1 with
    | none =>
      have hon := HJ.out.1 rfl
      subst hon
      have hyf : y = false := HYY.out.symm
      subst hyf
      clear hyy
      go_wp2_with fail
      go_ret
      exact ⟨rfl, HW6.out⟩
    | some zs =>
      have hjo := HJ.out.2 zs rfl
      have HO6b := HO6
      simp only [Option.getD_some] at HO6b
      simp only [Option.getD_some]
      rw [hjo] at HO6b
      rw [hjo, HYY.out]
      clear hjo HO6
      have hye : (y == y) = true := by simp
      go_wp2_with fail
      refine (laws_sameLines _ _ (o.getD []) _ _ _ _ _ HS6.out.sl HO6b.out.sl HF.out.sm).mono ?_
      rintro e w7 ⟨rfl, hb⟩
      have HW7 := Lib.hid (HW6.out.trans (hb.mono HW6.out.size))
      clear hb
      go_wp2_with fail
      go_ret
      exact ⟨rfl, HW7.out⟩
  · clear hc3
    have hqx : 1 ≤ q3 := by
      obtain ⟨_, _, qx, hvx, hqx, _⟩ := HC4.out.some (by simp)
      simp only [Value.slice.injEq] at hvx
      obtain ⟨_, _, rfl⟩ := hvx
      simpa using hqx
    have HJ := Lib.hid (joined l ls [] [x1] (by simp))
    have HOO2 : Hid (apsO l ls ([] ++ [x1]) = o) := HOO
    rw [HOO2.out] at HJ
    have HA : Hid (CH.Is w4 (.slice (some ⟨g3, 0, none⟩) 0 q3) []) := Lib.hid (CH.is_nil _ _ _)
    have HBB : Hid (CH.Is w4 (.slice (some ⟨g3, 0, none⟩) 1 q3) [x1]) := Lib.hid (by simpa using HC4.out)
    have HZA : Hid (∀ r, r ∈ ([] : List CH) → CH.Sz r) := Lib.hid (fun r hr => by cases hr)
    have HZB : Hid (∀ r, r ∈ ([x1] : List CH) → CH.Sz r) := Lib.hid HZ3.out
    clear HC4 HOO HOO2
    simp only [List.length_cons, List.length_nil, Nat.zero_add]
    go_wp2_with fail
    refine (HIM.out _ _ l ls _ [] lo hi w4 HI4.out HLM.out HZ.out HX4.out HZ2.out HA.out (by simp [maxLen]) HZA.out).mono ?_
    rintro e w5 ⟨v5, rfl, HO5, HB5⟩
    have HS5 := Lib.hid (HS4.out.below HB5.out)
    have HSA := Lib.hid (aps_sz (l := l) (cs := []) HZ2.out HZA.out)
    obtain ⟨o1, ho1⟩ : ∃ o, apsO l ls [] = o := ⟨_, rfl⟩
    rw [ho1] at HO5 HSA HJ
    rw [ho1]
    clear ho1
    have HW5 := Lib.hid (HW4.out.trans (HB5.out.mono HW4.out.size))
    obtain ⟨p5, q5, rfl⟩ := HO5.out.slice
    go_wp2_with fail
    refine (HIM.out _ _ l (o1.getD []) _ [x1] w4.heap.size w5.heap.size w5 (HI4.out.below HB5.out) HLM.out HZ.out HO5.out.sl HSA.out (HBB.out.below HB5.out) (by simp [maxLen]) HZB.out).mono ?_
    rintro e w6 ⟨v6, rfl, HO6, HB6⟩
    have HW6 := Lib.hid (HW5.out.trans (HB6.out.mono HW5.out.size))
    have HS6 := Lib.hid (HS5.out.below HB6.out)
    obtain ⟨p6, q6, rfl⟩ := HO6.out.slice
    cases o1 with
    | none =>
      have hon := HJ.out.1 rfl
      subst hon
      have hyf : y = false := HYY.out.symm
      subst hyf
      clear hyy
      go_wp2_with fail
      go_ret
      exact ⟨rfl, HW6.out⟩
    | some zs =>
      have hjo := HJ.out.2 zs rfl
      have HO6b := HO6
      simp only [Option.getD_some] at HO6b
      simp only [Option.getD_some]
      rw [hjo] at HO6b
      rw [hjo, HYY.out]
      clear hjo HO6
      have hye : (y == y) = true := by simp
      go_wp2_with fail
      refine (laws_sameLines _ _ (o.getD []) _ _ _ _ _ HS6.out.sl HO6b.out.sl HF.out.sm).mono ?_
      rintro e w7 ⟨rfl, hb⟩
      have HW7 := Lib.hid (HW6.out.trans (hb.mono HW6.out.size))
      clear hb
      go_wp2_with fail
      go_ret
      exact ⟨rfl, HW7.out⟩
  · clear hc3
    have hqx : 2 ≤ q3 := by
      obtain ⟨_, _, qx, hvx, hqx, _⟩ := HC4.out.some (by simp)
      simp only [Value.slice.injEq] at hvx
      obtain ⟨_, _, rfl⟩ := hvx
      simpa using hqx
    have HJ := Lib.hid (joined l ls [x1] [x2] (by simp))
    have HOO2 : Hid (apsO l ls ([x1] ++ [x2]) = o) := HOO
    rw [HOO2.out] at HJ
    have HA : Hid (CH.Is w4 (.slice (some ⟨g3, 0, none⟩) 1 q3) [x1]) := Lib.hid (CH.is_part (cs := []) (ds := [x1]) (es := [x2]) HC4.out (by simp) 0 q3 rfl (by simp; omega))
    have HBB : Hid (CH.Is w4 (.slice (some ⟨g3, 5, none⟩) 1 (q3 - 1)) [x2]) := Lib.hid (CH.is_part (cs := [x1]) (ds := [x2]) (es := []) (by simpa using HC4.out) (by simp) 5 (q3 - 1) rfl (by simp; omega))
    have HZA : Hid (∀ r, r ∈ ([x1] : List CH) → CH.Sz r) := Lib.hid (fun r hr => HZ3.out r (by simp at hr ⊢; simp [hr]))
    have HZB : Hid (∀ r, r ∈ ([x2] : List CH) → CH.Sz r) := Lib.hid (fun r hr => HZ3.out r (List.mem_cons_of_mem _ hr))
    clear HC4 HOO HOO2
    simp only [List.length_cons, List.length_nil, Nat.zero_add, Nat.reduceAdd]
    go_wp2_with fail
    refine (HIM.out _ _ l ls _ [x1] lo hi w4 HI4.out HLM.out HZ.out HX4.out HZ2.out HA.out (by simp [maxLen]) HZA.out).mono ?_
    rintro e w5 ⟨v5, rfl, HO5, HB5⟩
    have HS5 := Lib.hid (HS4.out.below HB5.out)
    have HSA := Lib.hid (aps_sz (l := l) (cs := [x1]) HZ2.out HZA.out)
    obtain ⟨o1, ho1⟩ : ∃ o, apsO l ls [x1] = o := ⟨_, rfl⟩
    rw [ho1] at HO5 HSA HJ
    rw [ho1]
    clear ho1
    have HW5 := Lib.hid (HW4.out.trans (HB5.out.mono HW4.out.size))
    obtain ⟨p5, q5, rfl⟩ := HO5.out.slice
    go_wp2_with fail
    refine (HIM.out _ _ l (o1.getD []) _ [x2] w4.heap.size w5.heap.size w5 (HI4.out.below HB5.out) HLM.out HZ.out HO5.out.sl HSA.out (HBB.out.below HB5.out) (by simp [maxLen]) HZB.out).mono ?_
    rintro e w6 ⟨v6, rfl, HO6, HB6⟩
    have HW6 := Lib.hid (HW5.out.trans (HB6.out.mono HW5.out.size))
    have HS6 := Lib.hid (HS5.out.below HB6.out)
    obtain ⟨p6, q6, rfl⟩ := HO6.out.slice
    cases o1 with
    | none =>
      have hon := HJ.out.1 rfl
      subst hon
      have hyf : y = false := HYY.out.symm
      subst hyf
      clear hyy
      go_wp2_with fail
      go_ret
      exact ⟨rfl, HW6.out⟩
    | some zs =>
      have hjo := HJ.out.2 zs rfl
      have HO6b := HO6
      simp only [Option.getD_some] at HO6b
      simp only [Option.getD_some]
      rw [hjo] at HO6b
      rw [hjo, HYY.out]
      clear hjo HO6
      have hye : (y == y) = true := by simp
      go_wp2_with fail
      refine (laws_sameLines _ _ (o.getD []) _ _ _ _ _ HS6.out.sl HO6b.out.sl HF.out.sm).mono ?_
      rintro e w7 ⟨rfl, hb⟩
      have HW7 := Lib.hid (HW6.out.trans (hb.mono HW6.out.size))
      clear hb
      go_wp2_with fail
      go_ret
      exact ⟨rfl, HW7.out⟩
  · clear hc3
    have hqx : 3 ≤ q3 := by
      obtain ⟨_, _, qx, hvx, hqx, _⟩ := HC4.out.some (by simp)
      simp only [Value.slice.injEq] at hvx
      obtain ⟨_, _, rfl⟩ := hvx
      simpa using hqx
    have HJ := Lib.hid (joined l ls [x1] [x2, x3] (by simp))
    have HOO2 : Hid (apsO l ls ([x1] ++ [x2, x3]) = o) := HOO
    rw [HOO2.out] at HJ
    have HA : Hid (CH.Is w4 (.slice (some ⟨g3, 0, none⟩) 1 q3) [x1]) := Lib.hid (CH.is_part (cs := []) (ds := [x1]) (es := [x2, x3]) HC4.out (by simp) 0 q3 rfl (by simp; omega))
    have HBB : Hid (CH.Is w4 (.slice (some ⟨g3, 5, none⟩) 2 (q3 - 1)) [x2, x3]) := Lib.hid (CH.is_part (cs := [x1]) (ds := [x2, x3]) (es := []) (by simpa using HC4.out) (by simp) 5 (q3 - 1) rfl (by simp; omega))
    have HZA : Hid (∀ r, r ∈ ([x1] : List CH) → CH.Sz r) := Lib.hid (fun r hr => HZ3.out r (by simp at hr ⊢; simp [hr]))
    have HZB : Hid (∀ r, r ∈ ([x2, x3] : List CH) → CH.Sz r) := Lib.hid (fun r hr => HZ3.out r (List.mem_cons_of_mem _ hr))
    clear HC4 HOO HOO2
    simp only [List.length_cons, List.length_nil, Nat.zero_add, Nat.reduceAdd]
    go_wp2_with fail
    refine (HIM.out _ _ l ls _ [x1] lo hi w4 HI4.out HLM.out HZ.out HX4.out HZ2.out HA.out (by simp [maxLen]) HZA.out).mono ?_
    rintro e w5 ⟨v5, rfl, HO5, HB5⟩
    have HS5 := Lib.hid (HS4.out.below HB5.out)
    have HSA := Lib.hid (aps_sz (l := l) (cs := [x1]) HZ2.out HZA.out)
    obtain ⟨o1, ho1⟩ : ∃ o, apsO l ls [x1] = o := ⟨_, rfl⟩
    rw [ho1] at HO5 HSA HJ
    rw [ho1]
    clear ho1
    have HW5 := Lib.hid (HW4.out.trans (HB5.out.mono HW4.out.size))
    obtain ⟨p5, q5, rfl⟩ := HO5.out.slice
    go_wp2_with fail
    refine (HIM.out _ _ l (o1.getD []) _ [x2, x3] w4.heap.size w5.heap.size w5 (HI4.out.below HB5.out) HLM.out HZ.out HO5.out.sl HSA.out (HBB.out.below HB5.out) (by simp [maxLen]) HZB.out).mono ?_
    rintro e w6 ⟨v6, rfl, HO6, HB6⟩
    have HW6 := Lib.hid (HW5.out.trans (HB6.out.mono HW5.out.size))
    have HS6 := Lib.hid (HS5.out.below HB6.out)
    obtain ⟨p6, q6, rfl⟩ := HO6.out.slice
    cases o1 with
    | none =>
      have hon := HJ.out.1 rfl
      subst hon
      have hyf : y = false := HYY.out.symm
      subst hyf
      clear hyy
      go_wp2_with fail
      go_ret
      exact ⟨rfl, HW6.out⟩
    | some zs =>
      have hjo := HJ.out.2 zs rfl
      have HO6b := HO6
      simp only [Option.getD_some] at HO6b
      simp only [Option.getD_some]
      rw [hjo] at HO6b
      rw [hjo, HYY.out]
      clear hjo HO6
      have hye : (y == y) = true := by simp
      go_wp2_with fail
      refine (laws_sameLines _ _ (o.getD []) _ _ _ _ _ HS6.out.sl HO6b.out.sl HF.out.sm).mono ?_
      rintro e w7 ⟨rfl, hb⟩
      have HW7 := Lib.hid (HW6.out.trans (hb.mono HW6.out.size))
      clear hb
      go_wp2_with fail
      go_ret
      exact ⟨rfl, HW7.out⟩
end Go.Proofs.Ytdhldokpojghdaa
