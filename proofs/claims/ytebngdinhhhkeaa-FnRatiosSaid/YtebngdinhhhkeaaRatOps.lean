/-
  The walks of sums, products and quotients of ratios, the program's and the model's.
-/
import Derived.Test.YtebngdinhhhkeaaRows
import Derived.Test.YtebngdinhhhkeaaRatLib
import Derived.Test.YtebngdinhhhkeaaRatAlg
import Derived.Test.YtebngdinhhhkeaaRatGcd
import Derived.Test.YtebngdinhhhkeaaRatIs
import Derived.Test.YtebngdinhhhkeaaRatRed
import Derived.Test.YtebngdinhhhkeaaRatIsImpl
import Derived.Test.YtebngdinhhhkeaaRatMake
import Derived.Test.YtebngdinhhhkeaaRatMakeSpec
import Derived.Test.YtebngdinhhhkeaaRatBox
import Derived.WalkKit
import Derived.WalkSpells
import Derived.WalkSmall
import Derived.Lib.Hide
namespace Go.Proofs.Ytebngdinhhhkeaa.rat
open Go.RowKit


/-- Both are ratios: the bounds of the products. -/
theorem prods {a b c d : Int} (h : okB a b = true) (h2 : okB c d = true) :
    (-1000000000000000000 ≤ a * d ∧ a * d ≤ 1000000000000000000) ∧ (-1000000000000000000 ≤ c * b ∧ c * b ≤ 1000000000000000000) ∧ (-1000000000000000000 ≤ b * d ∧ b * d ≤ 1000000000000000000) ∧
    (-1000000000000000000 ≤ a * c ∧ a * c ≤ 1000000000000000000) ∧ (-1000000000000000000 ≤ b * c ∧ b * c ≤ 1000000000000000000) := by
  obtain ⟨r, _⟩ := okB_true h
  obtain ⟨q, _⟩ := okB_true h2
  exact ⟨mul_bound (by omega) (by omega) (by omega) (by omega), mul_bound (by omega) (by omega) (by omega) (by omega), mul_bound (by omega) (by omega) (by omega) (by omega),
    mul_bound (by omega) (by omega) (by omega) (by omega), mul_bound (by omega) (by omega) (by omega) (by omega)⟩

set_option maxRecDepth 100000 in
set_option maxHeartbeats 800000 in
theorem impl_add (a b c d : Int) (w : World) : Calls Try.prog 17 #[.agg #[.int .i64 a, .int .i64 b], .agg #[.int .i64 c, .int .i64 d]] w (RatRes (addR a b c d) w) := by
  rcases Bool.eq_false_or_eq_true (okB a b) with hA | hA
  rotate_left
  · have HA := Lib.hid hA
    have HM := Lib.hid (addR_no1 (c := c) (d := d) hA)
    clear hA
    go_enter Try.func17, Try.ntmps17
    go_wp2_with fail
    refine (impl_isRatio_is a b _ _ HA.out).mono ?_
    rintro e w1 ⟨rfl, hb⟩
    have H1 := Lib.hid ((box2 w a b c d).keep hb)
    clear hb
    obtain ⟨c0, c1, c2, c3, r0, r1, f0, f1⟩ := H1.out.cells
    go_wp2_with fail
    exact bodyPost_ret (v := .agg #[.int .i64 0, .int .i64 0]) (results_cell_row Try.results17 _ _ _ _ _ _ _ rfl (blk_set2 H1.out.r) Try.underlying25 rfl (by kernel_rfl)) rfl ⟨_, _, rfl, HM, H1.out.set _ _⟩
  rcases Bool.eq_false_or_eq_true (okB c d) with hC | hC
  rotate_left
  · have HA := Lib.hid hA
    have HC := Lib.hid hC
    have HM := Lib.hid (addR_no2 (a := a) (b := b) hC)
    clear hA hC
    go_enter Try.func17, Try.ntmps17
    go_wp2_with fail
    refine (impl_isRatio_is a b _ _ HA.out).mono ?_
    rintro e w1 ⟨rfl, hb⟩
    have H1 := Lib.hid ((box2 w a b c d).keep hb)
    clear hb
    obtain ⟨c0, c1, c2, c3, r0, r1, f0, f1⟩ := H1.out.cells
    go_wp2_with fail
    refine (impl_isRatio_is c d _ _ HC.out).mono ?_
    rintro e w2 ⟨rfl, hb⟩
    have H2 := Lib.hid (H1.out.keep hb)
    clear hb c0 c1 c2 c3 r0 r1 f0 f1
    obtain ⟨c0, c1, c2, c3, r0, r1, f0, f1⟩ := H2.out.cells
    go_wp2_with fail
    exact bodyPost_ret (v := .agg #[.int .i64 0, .int .i64 0]) (results_cell_row Try.results17 _ _ _ _ _ _ _ rfl (blk_set2 H2.out.r) Try.underlying25 rfl (by kernel_rfl)) rfl ⟨_, _, rfl, HM, H2.out.set _ _⟩
  · have HA := Lib.hid hA
    have HC := Lib.hid hC
    have HE := Lib.hid (addR_yes hA hC)
    obtain ⟨p0, p1, p2, p3, p4⟩ := prods hA hC
    clear hA hC
    go_enter Try.func17, Try.ntmps17
    go_wp2_with fail
    refine (impl_isRatio_is a b _ _ HA.out).mono ?_
    rintro e w1 ⟨rfl, hb⟩
    have H1 := Lib.hid ((box2 w a b c d).keep hb)
    clear hb
    obtain ⟨c0, c1, c2, c3, r0, r1, f0, f1⟩ := H1.out.cells
    go_wp2_with fail
    refine (impl_isRatio_is c d _ _ HC.out).mono ?_
    rintro e w2 ⟨rfl, hb⟩
    have H2 := Lib.hid (H1.out.keep hb)
    clear hb c0 c1 c2 c3 r0 r1 f0 f1
    obtain ⟨c0, c1, c2, c3, r0, r1, f0, f1⟩ := H2.out.cells
    go_wp2_with fail
    refine (impl_make (a * d + c * b) (b * d) _).mono ?_
    rintro e w3 ⟨x, y, rfl, HX, hb⟩
    have H3 := Lib.hid (H2.out.keep hb)
    have HM : Hid (addR a b c d = (x, y)) := Lib.hid (HE.out.trans HX.out)
    clear hb c0 c1 c2 c3 r0 r1 f0 f1
    obtain ⟨c0, c1, c2, c3, r0, r1, f0, f1⟩ := H3.out.cells
    go_wp2_with fail
    exact bodyPost_ret (v := .agg #[.int .i64 x, .int .i64 y]) (results_cell_row Try.results17 _ _ _ _ _ _ _ rfl (blk_set2 H3.out.r) Try.underlying25 rfl (by kernel_rfl)) rfl ⟨_, _, rfl, HM, H3.out.set _ _⟩

set_option maxRecDepth 100000 in
set_option maxHeartbeats 800000 in
theorem impl_mul (a b c d : Int) (w : World) : Calls Try.prog 18 #[.agg #[.int .i64 a, .int .i64 b], .agg #[.int .i64 c, .int .i64 d]] w (RatRes (mulR a b c d) w) := by
  rcases Bool.eq_false_or_eq_true (okB a b) with hA | hA
  rotate_left
  · have HA := Lib.hid hA
    have HM := Lib.hid (mulR_no1 (c := c) (d := d) hA)
    clear hA
    go_enter Try.func18, Try.ntmps18
    go_wp2_with fail
    refine (impl_isRatio_is a b _ _ HA.out).mono ?_
    rintro e w1 ⟨rfl, hb⟩
    have H1 := Lib.hid ((box2 w a b c d).keep hb)
    clear hb
    obtain ⟨c0, c1, c2, c3, r0, r1, f0, f1⟩ := H1.out.cells
    go_wp2_with fail
    exact bodyPost_ret (v := .agg #[.int .i64 0, .int .i64 0]) (results_cell_row Try.results18 _ _ _ _ _ _ _ rfl (blk_set2 H1.out.r) Try.underlying25 rfl (by kernel_rfl)) rfl ⟨_, _, rfl, HM, H1.out.set _ _⟩
  rcases Bool.eq_false_or_eq_true (okB c d) with hC | hC
  rotate_left
  · have HA := Lib.hid hA
    have HC := Lib.hid hC
    have HM := Lib.hid (mulR_no2 (a := a) (b := b) hC)
    clear hA hC
    go_enter Try.func18, Try.ntmps18
    go_wp2_with fail
    refine (impl_isRatio_is a b _ _ HA.out).mono ?_
    rintro e w1 ⟨rfl, hb⟩
    have H1 := Lib.hid ((box2 w a b c d).keep hb)
    clear hb
    obtain ⟨c0, c1, c2, c3, r0, r1, f0, f1⟩ := H1.out.cells
    go_wp2_with fail
    refine (impl_isRatio_is c d _ _ HC.out).mono ?_
    rintro e w2 ⟨rfl, hb⟩
    have H2 := Lib.hid (H1.out.keep hb)
    clear hb c0 c1 c2 c3 r0 r1 f0 f1
    obtain ⟨c0, c1, c2, c3, r0, r1, f0, f1⟩ := H2.out.cells
    go_wp2_with fail
    exact bodyPost_ret (v := .agg #[.int .i64 0, .int .i64 0]) (results_cell_row Try.results18 _ _ _ _ _ _ _ rfl (blk_set2 H2.out.r) Try.underlying25 rfl (by kernel_rfl)) rfl ⟨_, _, rfl, HM, H2.out.set _ _⟩
  · have HA := Lib.hid hA
    have HC := Lib.hid hC
    have HE := Lib.hid (mulR_yes hA hC)
    obtain ⟨p0, p1, p2, p3, p4⟩ := prods hA hC
    clear hA hC
    go_enter Try.func18, Try.ntmps18
    go_wp2_with fail
    refine (impl_isRatio_is a b _ _ HA.out).mono ?_
    rintro e w1 ⟨rfl, hb⟩
    have H1 := Lib.hid ((box2 w a b c d).keep hb)
    clear hb
    obtain ⟨c0, c1, c2, c3, r0, r1, f0, f1⟩ := H1.out.cells
    go_wp2_with fail
    refine (impl_isRatio_is c d _ _ HC.out).mono ?_
    rintro e w2 ⟨rfl, hb⟩
    have H2 := Lib.hid (H1.out.keep hb)
    clear hb c0 c1 c2 c3 r0 r1 f0 f1
    obtain ⟨c0, c1, c2, c3, r0, r1, f0, f1⟩ := H2.out.cells
    go_wp2_with fail
    refine (impl_make (a * c) (b * d) _).mono ?_
    rintro e w3 ⟨x, y, rfl, HX, hb⟩
    have H3 := Lib.hid (H2.out.keep hb)
    have HM : Hid (mulR a b c d = (x, y)) := Lib.hid (HE.out.trans HX.out)
    clear hb c0 c1 c2 c3 r0 r1 f0 f1
    obtain ⟨c0, c1, c2, c3, r0, r1, f0, f1⟩ := H3.out.cells
    go_wp2_with fail
    exact bodyPost_ret (v := .agg #[.int .i64 x, .int .i64 y]) (results_cell_row Try.results18 _ _ _ _ _ _ _ rfl (blk_set2 H3.out.r) Try.underlying25 rfl (by kernel_rfl)) rfl ⟨_, _, rfl, HM, H3.out.set _ _⟩

set_option maxRecDepth 100000 in
set_option maxHeartbeats 800000 in
theorem impl_div (a b c d : Int) (w : World) : Calls Try.prog 19 #[.agg #[.int .i64 a, .int .i64 b], .agg #[.int .i64 c, .int .i64 d]] w (RatRes (divR a b c d) w) := by
  rcases Bool.eq_false_or_eq_true (okB a b) with hA | hA
  rotate_left
  · have HA := Lib.hid hA
    have HM := Lib.hid (divR_no1 (c := c) (d := d) hA)
    clear hA
    go_enter Try.func19, Try.ntmps19
    go_wp2_with fail
    refine (impl_isRatio_is a b _ _ HA.out).mono ?_
    rintro e w1 ⟨rfl, hb⟩
    have H1 := Lib.hid ((box2 w a b c d).keep hb)
    clear hb
    obtain ⟨c0, c1, c2, c3, r0, r1, f0, f1⟩ := H1.out.cells
    go_wp2_with fail
    exact bodyPost_ret (v := .agg #[.int .i64 0, .int .i64 0]) (results_cell_row Try.results19 _ _ _ _ _ _ _ rfl (blk_set2 H1.out.r) Try.underlying25 rfl (by kernel_rfl)) rfl ⟨_, _, rfl, HM, H1.out.set _ _⟩
  rcases Bool.eq_false_or_eq_true (okB c d) with hC | hC
  rotate_left
  · have HA := Lib.hid hA
    have HC := Lib.hid hC
    have HM := Lib.hid (divR_no2 (a := a) (b := b) hC)
    clear hA hC
    go_enter Try.func19, Try.ntmps19
    go_wp2_with fail
    refine (impl_isRatio_is a b _ _ HA.out).mono ?_
    rintro e w1 ⟨rfl, hb⟩
    have H1 := Lib.hid ((box2 w a b c d).keep hb)
    clear hb
    obtain ⟨c0, c1, c2, c3, r0, r1, f0, f1⟩ := H1.out.cells
    go_wp2_with fail
    refine (impl_isRatio_is c d _ _ HC.out).mono ?_
    rintro e w2 ⟨rfl, hb⟩
    have H2 := Lib.hid (H1.out.keep hb)
    clear hb c0 c1 c2 c3 r0 r1 f0 f1
    obtain ⟨c0, c1, c2, c3, r0, r1, f0, f1⟩ := H2.out.cells
    go_wp2_with fail
    exact bodyPost_ret (v := .agg #[.int .i64 0, .int .i64 0]) (results_cell_row Try.results19 _ _ _ _ _ _ _ rfl (blk_set2 H2.out.r) Try.underlying25 rfl (by kernel_rfl)) rfl ⟨_, _, rfl, HM, H2.out.set _ _⟩
  · have HA := Lib.hid hA
    have HC := Lib.hid hC
    have HE := Lib.hid (divR_yes hA hC)
    obtain ⟨p0, p1, p2, p3, p4⟩ := prods hA hC
    clear hA hC
    go_enter Try.func19, Try.ntmps19
    go_wp2_with fail
    refine (impl_isRatio_is a b _ _ HA.out).mono ?_
    rintro e w1 ⟨rfl, hb⟩
    have H1 := Lib.hid ((box2 w a b c d).keep hb)
    clear hb
    obtain ⟨c0, c1, c2, c3, r0, r1, f0, f1⟩ := H1.out.cells
    go_wp2_with fail
    refine (impl_isRatio_is c d _ _ HC.out).mono ?_
    rintro e w2 ⟨rfl, hb⟩
    have H2 := Lib.hid (H1.out.keep hb)
    clear hb c0 c1 c2 c3 r0 r1 f0 f1
    obtain ⟨c0, c1, c2, c3, r0, r1, f0, f1⟩ := H2.out.cells
    go_wp2_with fail
    refine (impl_make (a * d) (b * c) _).mono ?_
    rintro e w3 ⟨x, y, rfl, HX, hb⟩
    have H3 := Lib.hid (H2.out.keep hb)
    have HM : Hid (divR a b c d = (x, y)) := Lib.hid (HE.out.trans HX.out)
    clear hb c0 c1 c2 c3 r0 r1 f0 f1
    obtain ⟨c0, c1, c2, c3, r0, r1, f0, f1⟩ := H3.out.cells
    go_wp2_with fail
    exact bodyPost_ret (v := .agg #[.int .i64 x, .int .i64 y]) (results_cell_row Try.results19 _ _ _ _ _ _ _ rfl (blk_set2 H3.out.r) Try.underlying25 rfl (by kernel_rfl)) rfl ⟨_, _, rfl, HM, H3.out.set _ _⟩

set_option maxRecDepth 100000 in
set_option maxHeartbeats 800000 in
theorem spec_add (a b c d : Int) (w : World) : Calls Try.prog 33 #[.agg #[.int .i64 a, .int .i64 b], .agg #[.int .i64 c, .int .i64 d]] w (RatRes (addR a b c d) w) := by
  rcases Bool.eq_false_or_eq_true (okB a b) with hA | hA
  rotate_left
  · have HA := Lib.hid hA
    have HM := Lib.hid (addR_no1 (c := c) (d := d) hA)
    clear hA
    go_enter Try.func33, Try.ntmps33
    go_wp2_with fail
    refine (spec_isRatio_is a b _ _ HA.out).mono ?_
    rintro e w1 ⟨rfl, hb⟩
    have H1 := Lib.hid ((box2 w a b c d).keep hb)
    clear hb
    obtain ⟨c0, c1, c2, c3, r0, r1, f0, f1⟩ := H1.out.cells
    go_wp2_with fail
    exact bodyPost_ret (v := .agg #[.int .i64 0, .int .i64 0]) (results_cell_row Try.results33 _ _ _ _ _ _ _ rfl (blk_set2 H1.out.r) Try.underlying25 rfl (by kernel_rfl)) rfl ⟨_, _, rfl, HM, H1.out.set _ _⟩
  rcases Bool.eq_false_or_eq_true (okB c d) with hC | hC
  rotate_left
  · have HA := Lib.hid hA
    have HC := Lib.hid hC
    have HM := Lib.hid (addR_no2 (a := a) (b := b) hC)
    clear hA hC
    go_enter Try.func33, Try.ntmps33
    go_wp2_with fail
    refine (spec_isRatio_is a b _ _ HA.out).mono ?_
    rintro e w1 ⟨rfl, hb⟩
    have H1 := Lib.hid ((box2 w a b c d).keep hb)
    clear hb
    obtain ⟨c0, c1, c2, c3, r0, r1, f0, f1⟩ := H1.out.cells
    go_wp2_with fail
    refine (spec_isRatio_is c d _ _ HC.out).mono ?_
    rintro e w2 ⟨rfl, hb⟩
    have H2 := Lib.hid (H1.out.keep hb)
    clear hb c0 c1 c2 c3 r0 r1 f0 f1
    obtain ⟨c0, c1, c2, c3, r0, r1, f0, f1⟩ := H2.out.cells
    go_wp2_with fail
    exact bodyPost_ret (v := .agg #[.int .i64 0, .int .i64 0]) (results_cell_row Try.results33 _ _ _ _ _ _ _ rfl (blk_set2 H2.out.r) Try.underlying25 rfl (by kernel_rfl)) rfl ⟨_, _, rfl, HM, H2.out.set _ _⟩
  · have HA := Lib.hid hA
    have HC := Lib.hid hC
    have HE := Lib.hid (addR_yes hA hC)
    obtain ⟨p0, p1, p2, p3, p4⟩ := prods hA hC
    clear hA hC
    go_enter Try.func33, Try.ntmps33
    go_wp2_with fail
    refine (spec_isRatio_is a b _ _ HA.out).mono ?_
    rintro e w1 ⟨rfl, hb⟩
    have H1 := Lib.hid ((box2 w a b c d).keep hb)
    clear hb
    obtain ⟨c0, c1, c2, c3, r0, r1, f0, f1⟩ := H1.out.cells
    go_wp2_with fail
    refine (spec_isRatio_is c d _ _ HC.out).mono ?_
    rintro e w2 ⟨rfl, hb⟩
    have H2 := Lib.hid (H1.out.keep hb)
    clear hb c0 c1 c2 c3 r0 r1 f0 f1
    obtain ⟨c0, c1, c2, c3, r0, r1, f0, f1⟩ := H2.out.cells
    go_wp2_with fail
    refine (spec_make (a * d + c * b) (b * d) _).mono ?_
    rintro e w3 ⟨x, y, rfl, HX, hb⟩
    have H3 := Lib.hid (H2.out.keep hb)
    have HM : Hid (addR a b c d = (x, y)) := Lib.hid (HE.out.trans HX.out)
    clear hb c0 c1 c2 c3 r0 r1 f0 f1
    obtain ⟨c0, c1, c2, c3, r0, r1, f0, f1⟩ := H3.out.cells
    go_wp2_with fail
    exact bodyPost_ret (v := .agg #[.int .i64 x, .int .i64 y]) (results_cell_row Try.results33 _ _ _ _ _ _ _ rfl (blk_set2 H3.out.r) Try.underlying25 rfl (by kernel_rfl)) rfl ⟨_, _, rfl, HM, H3.out.set _ _⟩

set_option maxRecDepth 100000 in
set_option maxHeartbeats 800000 in
theorem spec_mul (a b c d : Int) (w : World) : Calls Try.prog 35 #[.agg #[.int .i64 a, .int .i64 b], .agg #[.int .i64 c, .int .i64 d]] w (RatRes (mulR a b c d) w) := by
  rcases Bool.eq_false_or_eq_true (okB a b) with hA | hA
  rotate_left
  · have HA := Lib.hid hA
    have HM := Lib.hid (mulR_no1 (c := c) (d := d) hA)
    clear hA
    go_enter Try.func35, Try.ntmps35
    go_wp2_with fail
    refine (spec_isRatio_is a b _ _ HA.out).mono ?_
    rintro e w1 ⟨rfl, hb⟩
    have H1 := Lib.hid ((box2 w a b c d).keep hb)
    clear hb
    obtain ⟨c0, c1, c2, c3, r0, r1, f0, f1⟩ := H1.out.cells
    go_wp2_with fail
    exact bodyPost_ret (v := .agg #[.int .i64 0, .int .i64 0]) (results_cell_row Try.results35 _ _ _ _ _ _ _ rfl (blk_set2 H1.out.r) Try.underlying25 rfl (by kernel_rfl)) rfl ⟨_, _, rfl, HM, H1.out.set _ _⟩
  rcases Bool.eq_false_or_eq_true (okB c d) with hC | hC
  rotate_left
  · have HA := Lib.hid hA
    have HC := Lib.hid hC
    have HM := Lib.hid (mulR_no2 (a := a) (b := b) hC)
    clear hA hC
    go_enter Try.func35, Try.ntmps35
    go_wp2_with fail
    refine (spec_isRatio_is a b _ _ HA.out).mono ?_
    rintro e w1 ⟨rfl, hb⟩
    have H1 := Lib.hid ((box2 w a b c d).keep hb)
    clear hb
    obtain ⟨c0, c1, c2, c3, r0, r1, f0, f1⟩ := H1.out.cells
    go_wp2_with fail
    refine (spec_isRatio_is c d _ _ HC.out).mono ?_
    rintro e w2 ⟨rfl, hb⟩
    have H2 := Lib.hid (H1.out.keep hb)
    clear hb c0 c1 c2 c3 r0 r1 f0 f1
    obtain ⟨c0, c1, c2, c3, r0, r1, f0, f1⟩ := H2.out.cells
    go_wp2_with fail
    exact bodyPost_ret (v := .agg #[.int .i64 0, .int .i64 0]) (results_cell_row Try.results35 _ _ _ _ _ _ _ rfl (blk_set2 H2.out.r) Try.underlying25 rfl (by kernel_rfl)) rfl ⟨_, _, rfl, HM, H2.out.set _ _⟩
  · have HA := Lib.hid hA
    have HC := Lib.hid hC
    have HE := Lib.hid (mulR_yes hA hC)
    obtain ⟨p0, p1, p2, p3, p4⟩ := prods hA hC
    clear hA hC
    go_enter Try.func35, Try.ntmps35
    go_wp2_with fail
    refine (spec_isRatio_is a b _ _ HA.out).mono ?_
    rintro e w1 ⟨rfl, hb⟩
    have H1 := Lib.hid ((box2 w a b c d).keep hb)
    clear hb
    obtain ⟨c0, c1, c2, c3, r0, r1, f0, f1⟩ := H1.out.cells
    go_wp2_with fail
    refine (spec_isRatio_is c d _ _ HC.out).mono ?_
    rintro e w2 ⟨rfl, hb⟩
    have H2 := Lib.hid (H1.out.keep hb)
    clear hb c0 c1 c2 c3 r0 r1 f0 f1
    obtain ⟨c0, c1, c2, c3, r0, r1, f0, f1⟩ := H2.out.cells
    go_wp2_with fail
    refine (spec_make (a * c) (b * d) _).mono ?_
    rintro e w3 ⟨x, y, rfl, HX, hb⟩
    have H3 := Lib.hid (H2.out.keep hb)
    have HM : Hid (mulR a b c d = (x, y)) := Lib.hid (HE.out.trans HX.out)
    clear hb c0 c1 c2 c3 r0 r1 f0 f1
    obtain ⟨c0, c1, c2, c3, r0, r1, f0, f1⟩ := H3.out.cells
    go_wp2_with fail
    exact bodyPost_ret (v := .agg #[.int .i64 x, .int .i64 y]) (results_cell_row Try.results35 _ _ _ _ _ _ _ rfl (blk_set2 H3.out.r) Try.underlying25 rfl (by kernel_rfl)) rfl ⟨_, _, rfl, HM, H3.out.set _ _⟩

set_option maxRecDepth 100000 in
set_option maxHeartbeats 800000 in
theorem spec_div (a b c d : Int) (w : World) : Calls Try.prog 36 #[.agg #[.int .i64 a, .int .i64 b], .agg #[.int .i64 c, .int .i64 d]] w (RatRes (divR a b c d) w) := by
  rcases Bool.eq_false_or_eq_true (okB a b) with hA | hA
  rotate_left
  · have HA := Lib.hid hA
    have HM := Lib.hid (divR_no1 (c := c) (d := d) hA)
    clear hA
    go_enter Try.func36, Try.ntmps36
    go_wp2_with fail
    refine (spec_isRatio_is a b _ _ HA.out).mono ?_
    rintro e w1 ⟨rfl, hb⟩
    have H1 := Lib.hid ((box2 w a b c d).keep hb)
    clear hb
    obtain ⟨c0, c1, c2, c3, r0, r1, f0, f1⟩ := H1.out.cells
    go_wp2_with fail
    exact bodyPost_ret (v := .agg #[.int .i64 0, .int .i64 0]) (results_cell_row Try.results36 _ _ _ _ _ _ _ rfl (blk_set2 H1.out.r) Try.underlying25 rfl (by kernel_rfl)) rfl ⟨_, _, rfl, HM, H1.out.set _ _⟩
  rcases Bool.eq_false_or_eq_true (okB c d) with hC | hC
  rotate_left
  · have HA := Lib.hid hA
    have HC := Lib.hid hC
    have HM := Lib.hid (divR_no2 (a := a) (b := b) hC)
    clear hA hC
    go_enter Try.func36, Try.ntmps36
    go_wp2_with fail
    refine (spec_isRatio_is a b _ _ HA.out).mono ?_
    rintro e w1 ⟨rfl, hb⟩
    have H1 := Lib.hid ((box2 w a b c d).keep hb)
    clear hb
    obtain ⟨c0, c1, c2, c3, r0, r1, f0, f1⟩ := H1.out.cells
    go_wp2_with fail
    refine (spec_isRatio_is c d _ _ HC.out).mono ?_
    rintro e w2 ⟨rfl, hb⟩
    have H2 := Lib.hid (H1.out.keep hb)
    clear hb c0 c1 c2 c3 r0 r1 f0 f1
    obtain ⟨c0, c1, c2, c3, r0, r1, f0, f1⟩ := H2.out.cells
    go_wp2_with fail
    exact bodyPost_ret (v := .agg #[.int .i64 0, .int .i64 0]) (results_cell_row Try.results36 _ _ _ _ _ _ _ rfl (blk_set2 H2.out.r) Try.underlying25 rfl (by kernel_rfl)) rfl ⟨_, _, rfl, HM, H2.out.set _ _⟩
  · have HA := Lib.hid hA
    have HC := Lib.hid hC
    have HE := Lib.hid (divR_yes hA hC)
    obtain ⟨p0, p1, p2, p3, p4⟩ := prods hA hC
    clear hA hC
    by_cases hz : c = 0
    · subst hz
      have HM : Hid (divR a b 0 d = (0, 0)) := Lib.hid (HE.out.trans (mkR_no (Or.inl (Int.mul_zero b))))
      go_enter Try.func36, Try.ntmps36
      go_wp2_with fail
      refine (spec_isRatio_is a b _ _ HA.out).mono ?_
      rintro e w1 ⟨rfl, hb⟩
      have H1 := Lib.hid ((box2 w a b 0 d).keep hb)
      clear hb
      obtain ⟨c0, c1, c2, c3, r0, r1, f0, f1⟩ := H1.out.cells
      go_wp2_with fail
      refine (spec_isRatio_is 0 d _ _ HC.out).mono ?_
      rintro e w2 ⟨rfl, hb⟩
      have H2 := Lib.hid (H1.out.keep hb)
      clear hb c0 c1 c2 c3 r0 r1 f0 f1
      obtain ⟨c0, c1, c2, c3, r0, r1, f0, f1⟩ := H2.out.cells
      go_wp2_with fail
      exact bodyPost_ret (v := .agg #[.int .i64 0, .int .i64 0]) (results_cell_row Try.results36 _ _ _ _ _ _ _ rfl (blk_set2 H2.out.r) Try.underlying25 rfl (by kernel_rfl)) rfl ⟨_, _, rfl, HM, H2.out.set _ _⟩
    · have hz2 : (c == 0) = false := beq_eq_false_iff_ne.2 hz
      go_enter Try.func36, Try.ntmps36
      go_wp2_with fail
      refine (spec_isRatio_is a b _ _ HA.out).mono ?_
      rintro e w1 ⟨rfl, hb⟩
      have H1 := Lib.hid ((box2 w a b c d).keep hb)
      clear hb
      obtain ⟨c0, c1, c2, c3, r0, r1, f0, f1⟩ := H1.out.cells
      go_wp2_with fail
      refine (spec_isRatio_is c d _ _ HC.out).mono ?_
      rintro e w2 ⟨rfl, hb⟩
      have H2 := Lib.hid (H1.out.keep hb)
      clear hb c0 c1 c2 c3 r0 r1 f0 f1
      obtain ⟨c0, c1, c2, c3, r0, r1, f0, f1⟩ := H2.out.cells
      go_wp2_with fail
      refine (spec_make (a * d) (b * c) _).mono ?_
      rintro e w3 ⟨x, y, rfl, HX, hb⟩
      have H3 := Lib.hid (H2.out.keep hb)
      have HM : Hid (divR a b c d = (x, y)) := Lib.hid (HE.out.trans HX.out)
      clear hb c0 c1 c2 c3 r0 r1 f0 f1
      obtain ⟨c0, c1, c2, c3, r0, r1, f0, f1⟩ := H3.out.cells
      go_wp2_with fail
      exact bodyPost_ret (v := .agg #[.int .i64 x, .int .i64 y]) (results_cell_row Try.results36 _ _ _ _ _ _ _ rfl (blk_set2 H3.out.r) Try.underlying25 rfl (by kernel_rfl)) rfl ⟨_, _, rfl, HM, H3.out.set _ _⟩

end Go.Proofs.Ytebngdinhhhkeaa.rat
