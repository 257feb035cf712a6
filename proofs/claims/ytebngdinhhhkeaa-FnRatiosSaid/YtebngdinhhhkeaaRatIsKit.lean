/-
  Contracts at given values, for the laws of ratios.
-/
import Derived.Test.YtebngdinhhhkeaaRows
import Derived.Test.YtebngdinhhhkeaaHold
import Derived.Test.YtebngdinhhhkeaaRatFacts
import Derived.Test.YtebngdinhhhkeaaRatOps
import Derived.Test.YtebngdinhhhkeaaRatOps2
import Derived.WalkKit
import Derived.WalkSpells
import Derived.Lib.Hide
namespace Go.Proofs.Ytebngdinhhhkeaa.rat
open Go.RowKit

theorem impl_floor_is (a b : Int) (w : World) (v : Int) (h : floorR a b = v) : Calls Try.prog 24 #[.agg #[.int .i64 a, .int .i64 b]] w fun e w' => e = .returned (.int .i64 v) ∧ Below w.heap.size w w' := h ▸ impl_floor a b w
theorem impl_ceil_is (a b : Int) (w : World) (v : Int) (h : ceilR a b = v) : Calls Try.prog 25 #[.agg #[.int .i64 a, .int .i64 b]] w fun e w' => e = .returned (.int .i64 v) ∧ Below w.heap.size w w' := h ▸ impl_ceil a b w
theorem spec_cmp_is (a b c d : Int) (w : World) (v : Int) (h : cmpR a b c d = v) : Calls Try.prog 26 #[.agg #[.int .i64 a, .int .i64 b], .agg #[.int .i64 c, .int .i64 d]] w fun e w' => e = .returned (.int .i64 v) ∧ Below w.heap.size w w' := h ▸ spec_cmp a b c d w
theorem impl_cmp_is (a b c d : Int) (w : World) (v : Int) (h : cmpR a b c d = v) : Calls Try.prog 22 #[.agg #[.int .i64 a, .int .i64 b], .agg #[.int .i64 c, .int .i64 d]] w fun e w' => e = .returned (.int .i64 v) ∧ Below w.heap.size w w' := h ▸ impl_cmp a b c d w

/-- A result of a known value. -/
def RatIs (x y : Int) (w : World) (e : Ending) (w' : World) : Prop := e = .returned (.agg #[.int .i64 x, .int .i64 y]) ∧ Below w.heap.size w w'
theorem ratIs {p : Int × Int} {x y : Int} {w : World} {e : Ending} {w' : World} (h : RatRes p w e w') (hp : p = (x, y)) : RatIs x y w e w' := by
  obtain ⟨u, v, rfl, hu, hb⟩ := h
  have he := hu.out.symm.trans hp
  injection he with e1 e2
  subst e1 e2
  exact ⟨rfl, hb⟩
theorem impl_neg_is (a b : Int) (w : World) (x y : Int) (h : negR a b = (x, y)) : Calls Try.prog 21 #[.agg #[.int .i64 a, .int .i64 b]] w (RatIs x y w) := (impl_neg a b w).mono fun _ _ k => ratIs k h
theorem impl_add_is (a b c d : Int) (w : World) (x y : Int) (h : addR a b c d = (x, y)) : Calls Try.prog 17 #[.agg #[.int .i64 a, .int .i64 b], .agg #[.int .i64 c, .int .i64 d]] w (RatIs x y w) := (impl_add a b c d w).mono fun _ _ k => ratIs k h
theorem impl_mul_is (a b c d : Int) (w : World) (x y : Int) (h : mulR a b c d = (x, y)) : Calls Try.prog 18 #[.agg #[.int .i64 a, .int .i64 b], .agg #[.int .i64 c, .int .i64 d]] w (RatIs x y w) := (impl_mul a b c d w).mono fun _ _ k => ratIs k h
theorem impl_div_is (a b c d : Int) (w : World) (x y : Int) (h : divR a b c d = (x, y)) : Calls Try.prog 19 #[.agg #[.int .i64 a, .int .i64 b], .agg #[.int .i64 c, .int .i64 d]] w (RatIs x y w) := (impl_div a b c d w).mono fun _ _ k => ratIs k h
end Go.Proofs.Ytebngdinhhhkeaa.rat
