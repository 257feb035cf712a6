/-
  Blocks laid one behind another, and stored into. No program is named here.
-/
import Derived.Test.YtfcgdhedaefonaaHold
import Derived.WalkKit
import Derived.WalkSmall
import Derived.Laws.Rows
namespace Go.Proofs.Ytfcgdhedaefonaa
open Go.RowKit

/-- Three blocks are laid. -/
theorem alloc3 (w : World) (o0 o1 o2 : Obj) : Below w.heap.size w (((w.alloc o0).alloc o1).alloc o2) ∧ (((w.alloc o0).alloc o1).alloc o2).heap.size = w.heap.size + 1 + 1 + 1 ∧
    (((w.alloc o0).alloc o1).alloc o2).heap[w.heap.size]? = some o0 ∧ (((w.alloc o0).alloc o1).alloc o2).heap[w.heap.size + 1]? = some o1 ∧ (((w.alloc o0).alloc o1).alloc o2).heap[w.heap.size + 1 + 1]? = some o2 := by
  have e2 : ((w.alloc o0).alloc o1).heap.size = w.heap.size + 1 + 1 := by simp
  have h2 := heap_alloc_new ((w.alloc o0).alloc o1) o2
  rw [e2] at h2
  exact ⟨(((Below.refl _ w).alloc (Nat.le_refl _) _).alloc (by simp) _).alloc (by simp; omega) _, by simp, blk_alloc (blk_alloc (heap_alloc_new w _) _) _, blk_alloc (heap_alloc2_new w _ _) _, h2⟩
/-- Four cells of a block are stored. -/
theorem blk_set4 {w : World} {g : Nat} {a b c d x y z u : Value} {t : TypeId} (h : w.heap[g]? = some (.cells #[a, b, c, d] t (0, 0))) :
    ((((w.setCell ⟨g, 0, none⟩ x).setCell ⟨g, 1, none⟩ y).setCell ⟨g, 2, none⟩ z).setCell ⟨g, 3, none⟩ u).heap[g]? = some (.cells #[x, y, z, u] t (0, 0)) :=
  heap_setCell_same _ g 3 _ t u (heap_setCell_same _ g 2 _ t z (heap_setCell_same _ g 1 _ t y (heap_setCell_same w g 0 _ t x h)))
theorem blk_other {w : World} {g g' i : Nat} {x : Value} {o : Obj} (h : w.heap[g]? = some o) (hne : g ≠ g') : (w.setCell ⟨g', i, none⟩ x).heap[g]? = some o := (heap_setCell_other w ⟨g', i, none⟩ g x hne).trans h
end Go.Proofs.Ytfcgdhedaefonaa
