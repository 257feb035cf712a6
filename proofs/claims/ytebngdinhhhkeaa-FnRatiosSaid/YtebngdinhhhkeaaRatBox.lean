/-
  Two ratios boxed, and the cell of a result: what a call finds of them.
-/
import Derived.Test.YtebngdinhhhkeaaRows
import Derived.Test.YtebngdinhhhkeaaRatLib
import Derived.Test.YtebngdinhhhkeaaRatAlg
import Derived.Test.YtebngdinhhhkeaaRatGcd
import Derived.Test.YtebngdinhhhkeaaRatIs
import Derived.Test.YtebngdinhhhkeaaRatRed
import Derived.Test.YtebngdinhhhkeaaRatIsImpl
import Derived.Test.YtebngdinhhhkeaaRatMake
import Derived.Test.YtebngdinhhhkeaaRatMakeSpec
import Derived.WalkKit
import Derived.WalkSpells
import Derived.WalkSmall
import Derived.Lib.Hide
namespace Go.Proofs.Ytebngdinhhhkeaa.rat
open Go.RowKit

theorem impl_isRatio_is (n d : Int) (w : World) (b : Bool) (h : okB n d = b) :
    Calls Try.prog 29 #[.agg #[.int .i64 n, .int .i64 d]] w fun e w' => e = .returned (.bool b) ∧ Below w.heap.size w w' := h ▸ impl_isRatio n d w

/-- Two boxes and the result's cells lie behind w. -/
structure Box2 (w W : World) (a b c d : Int) : Prop where
  x : W.heap[w.heap.size]? = some (.cells #[.int .i64 a, .int .i64 b] 25 (0, 0))
  y : W.heap[w.heap.size + 1]? = some (.cells #[.int .i64 c, .int .i64 d] 25 (0, 0))
  r : W.heap[w.heap.size + 1 + 1]? = some (.cells #[.int .i64 0, .int .i64 0] 25 (0, 0))
  lt : w.heap.size + 1 + 1 < W.heap.size
  below : Below w.heap.size w W
theorem Box2.keep {w W W' : World} {a b c d : Int} (h : Box2 w W a b c d) (hb : Below W.heap.size W W') : Box2 w W' a b c d :=
  ⟨blk_keep h.x hb (by have := h.lt; omega), blk_keep h.y hb (by have := h.lt; omega), blk_keep h.r hb h.lt, Nat.lt_of_lt_of_le h.lt hb.size, h.below.trans (hb.mono h.below.size)⟩
theorem box2 (w : World) (a b c d : Int) :
    Box2 w (((w.alloc (.cells #[.int .i64 a, .int .i64 b] 25)).alloc (.cells #[.int .i64 c, .int .i64 d] 25)).alloc (.cells #[.int .i64 0, .int .i64 0] 25)) a b c d where
  x := (Below.heap_alloc _ _ _ (by simp; omega)).trans (heap_alloc2_old w _ _)
  y := (Below.heap_alloc _ _ _ (by simp)).trans (heap_alloc2_new w _ _)
  r := by simpa using heap_alloc_new ((w.alloc (.cells #[.int .i64 a, .int .i64 b] 25)).alloc (.cells #[.int .i64 c, .int .i64 d] 25)) (.cells #[.int .i64 0, .int .i64 0] 25)
  lt := by simp
  below := (((Below.refl _ _).alloc (Nat.le_refl _) _).alloc (by simp) _).alloc (by simp; omega) _
theorem Box2.cells {w W : World} {a b c d : Int} (h : Box2 w W a b c d) :
    W.cell? ⟨w.heap.size, 0, none⟩ = some (.int .i64 a) ∧ W.cell? ⟨w.heap.size, 1, none⟩ = some (.int .i64 b) ∧ W.cell? ⟨w.heap.size + 1, 0, none⟩ = some (.int .i64 c) ∧ W.cell? ⟨w.heap.size + 1, 1, none⟩ = some (.int .i64 d) ∧
    W.cell? ⟨w.heap.size + 1 + 1, 0, none⟩ = some (.int .i64 0) ∧ W.cell? ⟨w.heap.size + 1 + 1, 1, none⟩ = some (.int .i64 0) ∧ W.frozen? ⟨w.heap.size + 1 + 1, 0, none⟩ = false ∧ W.frozen? ⟨w.heap.size + 1 + 1, 1, none⟩ = false :=
  ⟨cell_of_row W _ 0 _ _ _ h.x, cell_of_row W _ 1 _ _ _ h.x, cell_of_row W _ 0 _ _ _ h.y, cell_of_row W _ 1 _ _ _ h.y, cell_of_row W _ 0 _ _ _ h.r, cell_of_row W _ 1 _ _ _ h.r, frozen_of_row W _ 0 _ _ h.r, frozen_of_row W _ 1 _ _ h.r⟩
theorem Box2.set {w W : World} {a b c d : Int} (h : Box2 w W a b c d) (x y : Value) :
    Below w.heap.size w ((W.setCell ⟨w.heap.size + 1 + 1, 0, none⟩ x).setCell ⟨w.heap.size + 1 + 1, 1, none⟩ y) := (h.below.setCell (by simp; omega) _).setCell (by simp; omega) _

/-- Two boxes (a result that is no struct). -/
structure Box (w W : World) (a b c d : Int) : Prop where
  x : W.heap[w.heap.size]? = some (.cells #[.int .i64 a, .int .i64 b] 25 (0, 0))
  y : W.heap[w.heap.size + 1]? = some (.cells #[.int .i64 c, .int .i64 d] 25 (0, 0))
  lt : w.heap.size + 1 < W.heap.size
  below : Below w.heap.size w W
theorem Box.keep {w W W' : World} {a b c d : Int} (h : Box w W a b c d) (hb : Below W.heap.size W W') : Box w W' a b c d :=
  ⟨blk_keep h.x hb (by have := h.lt; omega), blk_keep h.y hb (by have := h.lt; omega), Nat.lt_of_lt_of_le h.lt hb.size, h.below.trans (hb.mono h.below.size)⟩
theorem boxes (w : World) (a b c d : Int) :
    Box w ((w.alloc (.cells #[.int .i64 a, .int .i64 b] 25)).alloc (.cells #[.int .i64 c, .int .i64 d] 25)) a b c d where
  x := heap_alloc2_old w _ _
  y := heap_alloc2_new w _ _
  lt := by simp
  below := ((Below.refl _ _).alloc (Nat.le_refl _) _).alloc (by simp) _
theorem Box.cells {w W : World} {a b c d : Int} (h : Box w W a b c d) :
    W.cell? ⟨w.heap.size, 0, none⟩ = some (.int .i64 a) ∧ W.cell? ⟨w.heap.size, 1, none⟩ = some (.int .i64 b) ∧ W.cell? ⟨w.heap.size + 1, 0, none⟩ = some (.int .i64 c) ∧ W.cell? ⟨w.heap.size + 1, 1, none⟩ = some (.int .i64 d) :=
  ⟨cell_of_row W _ 0 _ _ _ h.x, cell_of_row W _ 1 _ _ _ h.x, cell_of_row W _ 0 _ _ _ h.y, cell_of_row W _ 1 _ _ _ h.y⟩
/-- One box and the result's cells. -/
structure BoxR (w W : World) (a b : Int) : Prop where
  x : W.heap[w.heap.size]? = some (.cells #[.int .i64 a, .int .i64 b] 25 (0, 0))
  r : W.heap[w.heap.size + 1]? = some (.cells #[.int .i64 0, .int .i64 0] 25 (0, 0))
  lt : w.heap.size + 1 < W.heap.size
  below : Below w.heap.size w W
theorem BoxR.keep {w W W' : World} {a b : Int} (h : BoxR w W a b) (hb : Below W.heap.size W W') : BoxR w W' a b :=
  ⟨blk_keep h.x hb (by have := h.lt; omega), blk_keep h.r hb h.lt, Nat.lt_of_lt_of_le h.lt hb.size, h.below.trans (hb.mono h.below.size)⟩
theorem boxR (w : World) (a b : Int) : BoxR w ((w.alloc (.cells #[.int .i64 a, .int .i64 b] 25)).alloc (.cells #[.int .i64 0, .int .i64 0] 25)) a b where
  x := heap_alloc2_old w _ _
  r := heap_alloc2_new w _ _
  lt := by simp
  below := ((Below.refl _ _).alloc (Nat.le_refl _) _).alloc (by simp) _
theorem BoxR.cells {w W : World} {a b : Int} (h : BoxR w W a b) :
    W.cell? ⟨w.heap.size, 0, none⟩ = some (.int .i64 a) ∧ W.cell? ⟨w.heap.size, 1, none⟩ = some (.int .i64 b) ∧
    W.cell? ⟨w.heap.size + 1, 0, none⟩ = some (.int .i64 0) ∧ W.cell? ⟨w.heap.size + 1, 1, none⟩ = some (.int .i64 0) ∧ W.frozen? ⟨w.heap.size + 1, 0, none⟩ = false ∧ W.frozen? ⟨w.heap.size + 1, 1, none⟩ = false :=
  ⟨cell_of_row W _ 0 _ _ _ h.x, cell_of_row W _ 1 _ _ _ h.x, cell_of_row W _ 0 _ _ _ h.r, cell_of_row W _ 1 _ _ _ h.r, frozen_of_row W _ 0 _ _ h.r, frozen_of_row W _ 1 _ _ h.r⟩
theorem BoxR.set {w W : World} {a b : Int} (h : BoxR w W a b) (x y : Value) :
    Below w.heap.size w ((W.setCell ⟨w.heap.size + 1, 0, none⟩ x).setCell ⟨w.heap.size + 1, 1, none⟩ y) := (h.below.setCell (by simp) _).setCell (by simp) _
/-- One box. -/
structure BoxO (w W : World) (a b : Int) : Prop where
  x : W.heap[w.heap.size]? = some (.cells #[.int .i64 a, .int .i64 b] 25 (0, 0))
  lt : w.heap.size < W.heap.size
  below : Below w.heap.size w W
theorem BoxO.keep {w W W' : World} {a b : Int} (h : BoxO w W a b) (hb : Below W.heap.size W W') : BoxO w W' a b :=
  ⟨blk_keep h.x hb h.lt, Nat.lt_of_lt_of_le h.lt hb.size, h.below.trans (hb.mono h.below.size)⟩
theorem boxO (w : World) (a b : Int) : BoxO w (w.alloc (.cells #[.int .i64 a, .int .i64 b] 25)) a b where
  x := heap_alloc_new w _
  lt := by simp
  below := (Below.refl _ _).alloc (Nat.le_refl _) _
theorem BoxO.cells {w W : World} {a b : Int} (h : BoxO w W a b) : W.cell? ⟨w.heap.size, 0, none⟩ = some (.int .i64 a) ∧ W.cell? ⟨w.heap.size, 1, none⟩ = some (.int .i64 b) :=
  ⟨cell_of_row W _ 0 _ _ _ h.x, cell_of_row W _ 1 _ _ _ h.x⟩
end Go.Proofs.Ytebngdinhhhkeaa.rat
