/-
  The walks of negation, rounding and comparison of ratios, the program's and the model's.
-/
import Derived.Test.YtebngdinhhhkeaaRows
import Derived.Test.YtebngdinhhhkeaaRatLib
import Derived.Test.YtebngdinhhhkeaaRatAlg
import Derived.Test.YtebngdinhhhkeaaRatGcd
import Derived.Test.YtebngdinhhhkeaaRatIs
import Derived.Test.YtebngdinhhhkeaaRatRed
import Derived.Test.YtebngdinhhhkeaaRatIsImpl
import Derived.Test.YtebngdinhhhkeaaRatMake
import Derived.Test.YtebngdinhhhkeaaRatMakeSpec
import Derived.Test.YtebngdinhhhkeaaRatBox
import Derived.Test.YtebngdinhhhkeaaRatOps
import Derived.Test.YtebngdinhhhkeaaRatRound
import Derived.WalkKit
import Derived.WalkSpells
import Derived.WalkSmall
import Derived.Lib.Hide
namespace Go.Proofs.Ytebngdinhhhkeaa.rat
open Go.RowKit


theorem wrap_neg {x : Int} (h0 : -2000000000 ≤ x) (h1 : x ≤ 2000000000) : wrap64 (-x) = -x := by unfold wrap64; omega
set_option maxRecDepth 100000 in
set_option maxHeartbeats 800000 in
theorem impl_neg (a b : Int) (w : World) : Calls Try.prog 21 #[.agg #[.int .i64 a, .int .i64 b]] w (RatRes (negR a b) w) := by
  rcases Bool.eq_false_or_eq_true (okB a b) with hA | hA
  · have HA := Lib.hid hA
    have HM := Lib.hid (negR_yes hA)
    obtain ⟨⟨q0, q1, q2, q3⟩, _⟩ := okB_true hA
    have hw := wrap_neg (x := a) (by omega) (by omega)
    clear hA
    go_enter Try.func21, Try.ntmps21
    go_wp2_with fail
    refine (impl_isRatio_is a b _ _ HA.out).mono ?_
    rintro e w1 ⟨rfl, hb⟩
    have H1 := Lib.hid ((boxR w a b).keep hb)
    clear hb
    obtain ⟨c0, c1, r0, r1, f0, f1⟩ := H1.out.cells
    go_wp2_with fail
    exact bodyPost_ret (v := .agg #[.int .i64 (-a), .int .i64 b]) (results_cell_row Try.results21 _ _ _ _ _ _ _ rfl (blk_set2 H1.out.r) Try.underlying25 rfl (by kernel_rfl)) rfl ⟨_, _, rfl, HM, H1.out.set _ _⟩
  · have HA := Lib.hid hA
    have HM := Lib.hid (negR_no hA)
    clear hA
    go_enter Try.func21, Try.ntmps21
    go_wp2_with fail
    refine (impl_isRatio_is a b _ _ HA.out).mono ?_
    rintro e w1 ⟨rfl, hb⟩
    have H1 := Lib.hid ((boxR w a b).keep hb)
    clear hb
    obtain ⟨c0, c1, r0, r1, f0, f1⟩ := H1.out.cells
    go_wp2_with fail
    exact bodyPost_ret (v := .agg #[.int .i64 0, .int .i64 0]) (results_cell_row Try.results21 _ _ _ _ _ _ _ rfl (blk_set2 H1.out.r) Try.underlying25 rfl (by kernel_rfl)) rfl ⟨_, _, rfl, HM, H1.out.set _ _⟩
set_option maxRecDepth 100000 in
set_option maxHeartbeats 800000 in
theorem spec_neg (a b : Int) (w : World) : Calls Try.prog 34 #[.agg #[.int .i64 a, .int .i64 b]] w (RatRes (negR a b) w) := by
  rcases Bool.eq_false_or_eq_true (okB a b) with hA | hA
  · have HA := Lib.hid hA
    have HM := Lib.hid (negR_yes hA)
    obtain ⟨⟨q0, q1, q2, q3⟩, _⟩ := okB_true hA
    have hw := wrap_neg (x := a) (by omega) (by omega)
    clear hA
    go_enter Try.func34, Try.ntmps34
    go_wp2_with fail
    refine (spec_isRatio_is a b _ _ HA.out).mono ?_
    rintro e w1 ⟨rfl, hb⟩
    have H1 := Lib.hid ((boxR w a b).keep hb)
    clear hb
    obtain ⟨c0, c1, r0, r1, f0, f1⟩ := H1.out.cells
    go_wp2_with fail
    exact bodyPost_ret (v := .agg #[.int .i64 (-a), .int .i64 b]) (results_cell_row Try.results34 _ _ _ _ _ _ _ rfl (blk_set2 H1.out.r) Try.underlying25 rfl (by kernel_rfl)) rfl ⟨_, _, rfl, HM, H1.out.set _ _⟩
  · have HA := Lib.hid hA
    have HM := Lib.hid (negR_no hA)
    clear hA
    go_enter Try.func34, Try.ntmps34
    go_wp2_with fail
    refine (spec_isRatio_is a b _ _ HA.out).mono ?_
    rintro e w1 ⟨rfl, hb⟩
    have H1 := Lib.hid ((boxR w a b).keep hb)
    clear hb
    obtain ⟨c0, c1, r0, r1, f0, f1⟩ := H1.out.cells
    go_wp2_with fail
    exact bodyPost_ret (v := .agg #[.int .i64 0, .int .i64 0]) (results_cell_row Try.results34 _ _ _ _ _ _ _ rfl (blk_set2 H1.out.r) Try.underlying25 rfl (by kernel_rfl)) rfl ⟨_, _, rfl, HM, H1.out.set _ _⟩
set_option maxRecDepth 100000 in
set_option maxHeartbeats 800000 in
theorem impl_floor (a b : Int) (w : World) : Calls Try.prog 24 #[.agg #[.int .i64 a, .int .i64 b]] w fun e w' => e = .returned (.int .i64 (floorR a b)) ∧ Below w.heap.size w w' := by
  rcases Bool.eq_false_or_eq_true (okB a b) with hA | hA
  · have HA := Lib.hid hA
    have HM := Lib.hid (floorR_yes hA)
    obtain ⟨⟨q0, q1, q2, q3⟩, _⟩ := okB_true hA
    clear hA
    have hz : (b == 0) = false := beq_eq_false_iff_ne.2 (by omega)
    have q := tdiv_bound a (show 0 < b by omega) (by omega) (by omega)
    by_cases hm : a.tmod b < 0
    · have HV := Lib.hid (floorV_neg (show 0 < b by omega) hm)
      go_enter Try.func24, Try.ntmps24
      go_wp2_with fail
      refine (impl_isRatio_is a b _ _ HA.out).mono ?_
      rintro e w1 ⟨rfl, hb⟩
      have H1 := Lib.hid ((boxO w a b).keep hb)
      clear hb
      obtain ⟨c0, c1⟩ := H1.out.cells
      go_wp2_with fail
      go_ret
      exact ⟨ret_int (HV.out.trans HM.out.symm), H1.out.below⟩
    · have HV := Lib.hid (floorV_pos (show 0 < b by omega) hm)
      have hm0 : 0 ≤ a.tmod b := by omega
      clear hm
      go_enter Try.func24, Try.ntmps24
      go_wp2_with fail
      refine (impl_isRatio_is a b _ _ HA.out).mono ?_
      rintro e w1 ⟨rfl, hb⟩
      have H1 := Lib.hid ((boxO w a b).keep hb)
      clear hb
      obtain ⟨c0, c1⟩ := H1.out.cells
      go_wp2_with fail
      go_ret
      exact ⟨ret_int (HV.out.trans HM.out.symm), H1.out.below⟩
  · have HA := Lib.hid hA
    have HM := Lib.hid (floorR_no hA)
    clear hA
    go_enter Try.func24, Try.ntmps24
    go_wp2_with fail
    refine (impl_isRatio_is a b _ _ HA.out).mono ?_
    rintro e w1 ⟨rfl, hb⟩
    have H1 := Lib.hid ((boxO w a b).keep hb)
    clear hb
    obtain ⟨c0, c1⟩ := H1.out.cells
    go_wp2_with fail
    go_ret
    exact ⟨ret_int HM.out.symm, H1.out.below⟩
set_option maxRecDepth 100000 in
set_option maxHeartbeats 800000 in
theorem spec_floor (a b : Int) (w : World) : Calls Try.prog 37 #[.agg #[.int .i64 a, .int .i64 b]] w fun e w' => e = .returned (.int .i64 (floorR a b)) ∧ Below w.heap.size w w' := by
  rcases Bool.eq_false_or_eq_true (okB a b) with hA | hA
  · have HA := Lib.hid hA
    have HM := Lib.hid (floorR_yes hA)
    obtain ⟨⟨q0, q1, q2, q3⟩, _⟩ := okB_true hA
    clear hA
    have hw := wrap_neg (x := a) (by omega) (by omega)
    obtain ⟨v0, v1⟩ := floorV_bound (a := a) (b := b) (by omega) (by omega) (by omega)
    have hw2 := wrap_neg (x := floorV a b) (by omega) (by omega)
    go_enter Try.func37, Try.ntmps37
    go_wp2_with fail
    refine (spec_isRatio_is a b _ _ HA.out).mono ?_
    rintro e w1 ⟨rfl, hb⟩
    have H1 := Lib.hid ((boxO w a b).keep hb)
    clear hb
    obtain ⟨c0, c1⟩ := H1.out.cells
    go_wp2_with fail
    refine (spec_floorV a b _ (by omega) (by omega) (by omega) (by omega)).mono ?_
    rintro e w2 ⟨rfl, rfl⟩
    go_wp2_with fail
    go_ret
    exact ⟨ret_int HM.out.symm, H1.out.below⟩
  · have HA := Lib.hid hA
    have HM := Lib.hid (floorR_no hA)
    clear hA
    go_enter Try.func37, Try.ntmps37
    go_wp2_with fail
    refine (spec_isRatio_is a b _ _ HA.out).mono ?_
    rintro e w1 ⟨rfl, hb⟩
    have H1 := Lib.hid ((boxO w a b).keep hb)
    clear hb
    obtain ⟨c0, c1⟩ := H1.out.cells
    go_wp2_with fail
    go_ret
    exact ⟨ret_int HM.out.symm, H1.out.below⟩
set_option maxRecDepth 100000 in
set_option maxHeartbeats 800000 in
theorem spec_ceil (a b : Int) (w : World) : Calls Try.prog 38 #[.agg #[.int .i64 a, .int .i64 b]] w fun e w' => e = .returned (.int .i64 (ceilR a b)) ∧ Below w.heap.size w w' := by
  rcases Bool.eq_false_or_eq_true (okB a b) with hA | hA
  · have HA := Lib.hid hA
    have HM := Lib.hid (ceilR_yes hA)
    obtain ⟨⟨q0, q1, q2, q3⟩, _⟩ := okB_true hA
    clear hA
    have hw := wrap_neg (x := a) (by omega) (by omega)
    obtain ⟨v0, v1⟩ := floorV_bound (a := (-a)) (b := b) (by omega) (by omega) (by omega)
    have hw2 := wrap_neg (x := floorV (-a) b) (by omega) (by omega)
    go_enter Try.func38, Try.ntmps38
    go_wp2_with fail
    refine (spec_isRatio_is a b _ _ HA.out).mono ?_
    rintro e w1 ⟨rfl, hb⟩
    have H1 := Lib.hid ((boxO w a b).keep hb)
    clear hb
    obtain ⟨c0, c1⟩ := H1.out.cells
    go_wp2_with fail
    refine (spec_floorV (-a) b _ (by omega) (by omega) (by omega) (by omega)).mono ?_
    rintro e w2 ⟨rfl, rfl⟩
    go_wp2_with fail
    go_ret
    exact ⟨ret_int HM.out.symm, H1.out.below⟩
  · have HA := Lib.hid hA
    have HM := Lib.hid (ceilR_no hA)
    clear hA
    go_enter Try.func38, Try.ntmps38
    go_wp2_with fail
    refine (spec_isRatio_is a b _ _ HA.out).mono ?_
    rintro e w1 ⟨rfl, hb⟩
    have H1 := Lib.hid ((boxO w a b).keep hb)
    clear hb
    obtain ⟨c0, c1⟩ := H1.out.cells
    go_wp2_with fail
    go_ret
    exact ⟨ret_int HM.out.symm, H1.out.below⟩
theorem floorR_bound (x y : Int) : -2000000000 ≤ floorR x y ∧ floorR x y ≤ 2000000000 := by
  rcases Bool.eq_false_or_eq_true (okB x y) with hA | hA
  · rw [floorR_yes hA]
    obtain ⟨⟨q0, q1, q2, q3⟩, _⟩ := okB_true hA
    have := floorV_bound (a := x) (b := y) (by omega) (by omega) (by omega)
    omega
  · rw [floorR_no hA]; omega
set_option maxRecDepth 100000 in
set_option maxHeartbeats 800000 in
theorem impl_ceil (a b : Int) (w : World) : Calls Try.prog 25 #[.agg #[.int .i64 a, .int .i64 b]] w fun e w' => e = .returned (.int .i64 (ceilR a b)) ∧ Below w.heap.size w w' := by
  have HC := Lib.hid (ceil_neg a b)
  go_enter Try.func25, Try.ntmps25
  go_wp2_with fail
  refine (impl_neg a b _).mono ?_
  rintro e w1 ⟨x, y, rfl, HX, hb⟩
  have H1 := Lib.hid ((boxO w a b).keep hb)
  obtain ⟨v0, v1⟩ := floorR_bound x y
  have hw := wrap_neg (x := floorR x y) (by omega) (by omega)
  have HV : Hid (-floorR x y = ceilR a b) := Lib.hid (by have := HC.out; rw [HX.out] at this; exact this)
  clear hb
  go_wp2_with fail
  refine (impl_floor x y _).mono ?_
  rintro e w2 ⟨rfl, hb⟩
  have H2 := Lib.hid (H1.out.keep hb)
  clear hb
  go_wp2_with fail
  go_ret
  exact ⟨ret_int HV.out, H2.out.below⟩
set_option maxRecDepth 100000 in
set_option maxHeartbeats 800000 in
theorem impl_cmp (a b c d : Int) (w : World) : Calls Try.prog 22 #[.agg #[.int .i64 a, .int .i64 b], .agg #[.int .i64 c, .int .i64 d]] w fun e w' => e = .returned (.int .i64 (cmpR a b c d)) ∧ Below w.heap.size w w' := by
  rcases Bool.eq_false_or_eq_true (okB a b) with hA | hA
  rotate_left
  · have HA := Lib.hid hA
    have HM := Lib.hid (cmpR_no1 (c := c) (d := d) hA)
    clear hA
    go_enter Try.func22, Try.ntmps22
    go_wp2_with fail
    refine (impl_isRatio_is a b _ _ HA.out).mono ?_
    rintro e w1 ⟨rfl, hb⟩
    have H1 := Lib.hid ((boxes w a b c d).keep hb)
    clear hb
    obtain ⟨c0, c1, c2, c3⟩ := H1.out.cells
    go_wp2_with fail
    go_ret
    exact ⟨ret_int HM.out.symm, H1.out.below⟩
  rcases Bool.eq_false_or_eq_true (okB c d) with hC | hC
  rotate_left
  · have HA := Lib.hid hA
    have HC := Lib.hid hC
    have HM := Lib.hid (cmpR_no2 (a := a) (b := b) hC)
    clear hA hC
    go_enter Try.func22, Try.ntmps22
    go_wp2_with fail
    refine (impl_isRatio_is a b _ _ HA.out).mono ?_
    rintro e w1 ⟨rfl, hb⟩
    have H1 := Lib.hid ((boxes w a b c d).keep hb)
    clear hb
    obtain ⟨c0, c1, c2, c3⟩ := H1.out.cells
    go_wp2_with fail
    refine (impl_isRatio_is c d _ _ HC.out).mono ?_
    rintro e w2 ⟨rfl, hb⟩
    have H2 := Lib.hid (H1.out.keep hb)
    clear hb c0 c1 c2 c3
    obtain ⟨c0, c1, c2, c3⟩ := H2.out.cells
    go_wp2_with fail
    go_ret
    exact ⟨ret_int HM.out.symm, H2.out.below⟩
  · have HA := Lib.hid hA
    have HC := Lib.hid hC
    have HE := Lib.hid (cmpR_yes hA hC)
    obtain ⟨p0, p1, _, _, _⟩ := prods hA hC
    clear hA hC
    go_enter Try.func22, Try.ntmps22
    go_wp2_with fail
    refine (impl_isRatio_is a b _ _ HA.out).mono ?_
    rintro e w1 ⟨rfl, hb⟩
    have H1 := Lib.hid ((boxes w a b c d).keep hb)
    clear hb
    obtain ⟨c0, c1, c2, c3⟩ := H1.out.cells
    go_wp2_with fail
    refine (impl_isRatio_is c d _ _ HC.out).mono ?_
    rintro e w2 ⟨rfl, hb⟩
    have H2 := Lib.hid (H1.out.keep hb)
    clear hb c0 c1 c2 c3
    obtain ⟨c0, c1, c2, c3⟩ := H2.out.cells
    go_wp2_with fail
    refine (cmp_int (a * d) (c * b) _).mono ?_
    rintro e w3 ⟨rfl, rfl⟩
    go_wp2_with fail
    go_ret
    exact ⟨ret_int HE.out.symm, H2.out.below⟩
set_option maxRecDepth 100000 in
set_option maxHeartbeats 800000 in
theorem spec_cmp (a b c d : Int) (w : World) : Calls Try.prog 26 #[.agg #[.int .i64 a, .int .i64 b], .agg #[.int .i64 c, .int .i64 d]] w fun e w' => e = .returned (.int .i64 (cmpR a b c d)) ∧ Below w.heap.size w w' := by
  rcases Bool.eq_false_or_eq_true (okB a b) with hA | hA
  rotate_left
  · have HA := Lib.hid hA
    have HM := Lib.hid (cmpR_no1 (c := c) (d := d) hA)
    clear hA
    go_enter Try.func26, Try.ntmps26
    go_wp2_with fail
    refine (spec_isRatio_is a b _ _ HA.out).mono ?_
    rintro e w1 ⟨rfl, hb⟩
    have H1 := Lib.hid ((boxes w a b c d).keep hb)
    clear hb
    obtain ⟨c0, c1, c2, c3⟩ := H1.out.cells
    go_wp2_with fail
    go_ret
    exact ⟨ret_int HM.out.symm, H1.out.below⟩
  rcases Bool.eq_false_or_eq_true (okB c d) with hC | hC
  rotate_left
  · have HA := Lib.hid hA
    have HC := Lib.hid hC
    have HM := Lib.hid (cmpR_no2 (a := a) (b := b) hC)
    clear hA hC
    go_enter Try.func26, Try.ntmps26
    go_wp2_with fail
    refine (spec_isRatio_is a b _ _ HA.out).mono ?_
    rintro e w1 ⟨rfl, hb⟩
    have H1 := Lib.hid ((boxes w a b c d).keep hb)
    clear hb
    obtain ⟨c0, c1, c2, c3⟩ := H1.out.cells
    go_wp2_with fail
    refine (spec_isRatio_is c d _ _ HC.out).mono ?_
    rintro e w2 ⟨rfl, hb⟩
    have H2 := Lib.hid (H1.out.keep hb)
    clear hb c0 c1 c2 c3
    obtain ⟨c0, c1, c2, c3⟩ := H2.out.cells
    go_wp2_with fail
    go_ret
    exact ⟨ret_int HM.out.symm, H2.out.below⟩
  · have HA := Lib.hid hA
    have HC := Lib.hid hC
    have HE := Lib.hid (cmpR_yes hA hC)
    obtain ⟨p0, p1, _, _, _⟩ := prods hA hC
    clear hA hC
    rcases Int.lt_trichotomy (a * d) (c * b) with h | h | h
    · have HV := Lib.hid (cmpV_lt h)
      go_enter Try.func26, Try.ntmps26
      go_wp2_with fail
      refine (spec_isRatio_is a b _ _ HA.out).mono ?_
      rintro e w1 ⟨rfl, hb⟩
      have H1 := Lib.hid ((boxes w a b c d).keep hb)
      clear hb
      obtain ⟨c0, c1, c2, c3⟩ := H1.out.cells
      go_wp2_with fail
      refine (spec_isRatio_is c d _ _ HC.out).mono ?_
      rintro e w2 ⟨rfl, hb⟩
      have H2 := Lib.hid (H1.out.keep hb)
      clear hb c0 c1 c2 c3
      obtain ⟨c0, c1, c2, c3⟩ := H2.out.cells
      go_wp2_with fail
      go_ret
      exact ⟨ret_int (HV.out.symm.trans HE.out.symm), H2.out.below⟩
    · have h1 : ¬ a * d < c * b := by omega
      have h2 : ¬ c * b < a * d := by omega
      have HV := Lib.hid (cmpV_eq h1 h2)
      clear h
      go_enter Try.func26, Try.ntmps26
      go_wp2_with fail
      refine (spec_isRatio_is a b _ _ HA.out).mono ?_
      rintro e w1 ⟨rfl, hb⟩
      have H1 := Lib.hid ((boxes w a b c d).keep hb)
      clear hb
      obtain ⟨c0, c1, c2, c3⟩ := H1.out.cells
      go_wp2_with fail
      refine (spec_isRatio_is c d _ _ HC.out).mono ?_
      rintro e w2 ⟨rfl, hb⟩
      have H2 := Lib.hid (H1.out.keep hb)
      clear hb c0 c1 c2 c3
      obtain ⟨c0, c1, c2, c3⟩ := H2.out.cells
      go_wp2_with fail
      go_ret
      exact ⟨ret_int (HV.out.symm.trans HE.out.symm), H2.out.below⟩
    · have h1 : ¬ a * d < c * b := by omega
      have HV := Lib.hid (cmpV_gt h)
      go_enter Try.func26, Try.ntmps26
      go_wp2_with fail
      refine (spec_isRatio_is a b _ _ HA.out).mono ?_
      rintro e w1 ⟨rfl, hb⟩
      have H1 := Lib.hid ((boxes w a b c d).keep hb)
      clear hb
      obtain ⟨c0, c1, c2, c3⟩ := H1.out.cells
      go_wp2_with fail
      refine (spec_isRatio_is c d _ _ HC.out).mono ?_
      rintro e w2 ⟨rfl, hb⟩
      have H2 := Lib.hid (H1.out.keep hb)
      clear hb c0 c1 c2 c3
      obtain ⟨c0, c1, c2, c3⟩ := H2.out.cells
      go_wp2_with fail
      go_ret
      exact ⟨ret_int (HV.out.symm.trans HE.out.symm), H2.out.below⟩
end Go.Proofs.Ytebngdinhhhkeaa.rat
