/-
  What keeps a draw: writes into memory of one's own.
-/
import Derived.Test.YtfcgdhedaefonaaDraw
import Derived.Test.YtfcgdhedaefonaaDrawMore
import Derived.Test.YtfcgdhedaefonaaHold
import Derived.WalkKit
import Derived.WalkSmall
import Derived.Laws.OwnMore
import Derived.Lib.Hide
namespace Go.Proofs.Ytfcgdhedaefonaa
open Go.RowKit

section
variable {B b : Nat} {a : Option Addr} {n c : Nat} {w w1 w2 : World}
/-- What does not touch the cursor keeps the draw. -/
theorem Drawn.row {o : Option Nat} (h : Drawn B b a n c w w1) (hb : b < w.heap.size) (hg : w1.grownBy w2 o) (ho : ∀ k, o = some k → w.heap.size ≤ k) : Drawn B b a n c w w2 := by
  obtain ⟨hB, i, z, h1, h2, h3, hk⟩ := h.cur
  have hs := h.grown.size
  refine ⟨⟨hB, i, z, h1, h2, h3, (hg.block b (lt_of_heap hk) (fun e => by have := ho b e.symm; omega)).trans hk⟩, ?_⟩
  refine ⟨hg.os.trans h.grown.os, hg.tape.trans h.grown.tape, hg.output.trans h.grown.output, Nat.le_trans h.grown.size hg.size, fun k hk1 hk2 => ?_⟩
  exact (hg.block k (by omega) (fun e => by have := ho k e.symm; omega)).trans (h.grown.block k hk1 hk2)
theorem Drawn.set1 {g i : Nat} {x : Value} (h : Drawn B b a n c w w1) (hb : b < w.heap.size) (hg : w.heap.size ≤ g) : Drawn B b a n c w (w1.setCell ⟨g, i, none⟩ x) :=
  h.row hb (grown_set w1 g i x) (fun k e => by cases e; exact hg)
theorem Drawn.al (h : Drawn B b a n c w w1) (hb : b < w.heap.size) (o : Obj) : Drawn B b a n c w (w1.alloc o) :=
  h.row hb (World.grownBy_alloc w1 o none) (fun k e => by cases e)
theorem own_hdC {base e size : Nat} {v : Value} {k : Nat} {xs : List Value} (h : w1.ownsRow base e size v k xs) (hd : w1.grownBy w2 (some b)) (hb : b < base) : w2.ownsRow base e size v k xs :=
  h.kept hd (by
    cases hv : v.ownBlock with
    | none => exact Or.inl rfl
    | some j => exact Or.inr (fun e => by have := (h.lt j hv).1; cases e; omega))
end
theorem blk8_c0 {w1 : World} {g : Nat} {z0 z1 z2 z3 z4 z5 z6 z7 y : Value} {t : TypeId} (h : w1.heap[g]? = some (.cells #[z0, z1, z2, z3, z4, z5, z6, z7] t (0, 0))) : (w1.setCell ⟨g, 0, none⟩ y).heap[g]? = some (.cells #[y, z1, z2, z3, z4, z5, z6, z7] t (0, 0)) := heap_setCell_same w1 g 0 #[z0, z1, z2, z3, z4, z5, z6, z7] t y h
theorem blk8_c1 {w1 : World} {g : Nat} {z0 z1 z2 z3 z4 z5 z6 z7 y : Value} {t : TypeId} (h : w1.heap[g]? = some (.cells #[z0, z1, z2, z3, z4, z5, z6, z7] t (0, 0))) : (w1.setCell ⟨g, 1, none⟩ y).heap[g]? = some (.cells #[z0, y, z2, z3, z4, z5, z6, z7] t (0, 0)) := heap_setCell_same w1 g 1 #[z0, z1, z2, z3, z4, z5, z6, z7] t y h
theorem blk8_c2 {w1 : World} {g : Nat} {z0 z1 z2 z3 z4 z5 z6 z7 y : Value} {t : TypeId} (h : w1.heap[g]? = some (.cells #[z0, z1, z2, z3, z4, z5, z6, z7] t (0, 0))) : (w1.setCell ⟨g, 2, none⟩ y).heap[g]? = some (.cells #[z0, z1, y, z3, z4, z5, z6, z7] t (0, 0)) := heap_setCell_same w1 g 2 #[z0, z1, z2, z3, z4, z5, z6, z7] t y h
theorem blk8_c3 {w1 : World} {g : Nat} {z0 z1 z2 z3 z4 z5 z6 z7 y : Value} {t : TypeId} (h : w1.heap[g]? = some (.cells #[z0, z1, z2, z3, z4, z5, z6, z7] t (0, 0))) : (w1.setCell ⟨g, 3, none⟩ y).heap[g]? = some (.cells #[z0, z1, z2, y, z4, z5, z6, z7] t (0, 0)) := heap_setCell_same w1 g 3 #[z0, z1, z2, z3, z4, z5, z6, z7] t y h
theorem blk8_c4 {w1 : World} {g : Nat} {z0 z1 z2 z3 z4 z5 z6 z7 y : Value} {t : TypeId} (h : w1.heap[g]? = some (.cells #[z0, z1, z2, z3, z4, z5, z6, z7] t (0, 0))) : (w1.setCell ⟨g, 4, none⟩ y).heap[g]? = some (.cells #[z0, z1, z2, z3, y, z5, z6, z7] t (0, 0)) := heap_setCell_same w1 g 4 #[z0, z1, z2, z3, z4, z5, z6, z7] t y h
theorem blk8_c5 {w1 : World} {g : Nat} {z0 z1 z2 z3 z4 z5 z6 z7 y : Value} {t : TypeId} (h : w1.heap[g]? = some (.cells #[z0, z1, z2, z3, z4, z5, z6, z7] t (0, 0))) : (w1.setCell ⟨g, 5, none⟩ y).heap[g]? = some (.cells #[z0, z1, z2, z3, z4, y, z6, z7] t (0, 0)) := heap_setCell_same w1 g 5 #[z0, z1, z2, z3, z4, z5, z6, z7] t y h
theorem blk8_c6 {w1 : World} {g : Nat} {z0 z1 z2 z3 z4 z5 z6 z7 y : Value} {t : TypeId} (h : w1.heap[g]? = some (.cells #[z0, z1, z2, z3, z4, z5, z6, z7] t (0, 0))) : (w1.setCell ⟨g, 6, none⟩ y).heap[g]? = some (.cells #[z0, z1, z2, z3, z4, z5, y, z7] t (0, 0)) := heap_setCell_same w1 g 6 #[z0, z1, z2, z3, z4, z5, z6, z7] t y h
theorem blk8_c7 {w1 : World} {g : Nat} {z0 z1 z2 z3 z4 z5 z6 z7 y : Value} {t : TypeId} (h : w1.heap[g]? = some (.cells #[z0, z1, z2, z3, z4, z5, z6, z7] t (0, 0))) : (w1.setCell ⟨g, 7, none⟩ y).heap[g]? = some (.cells #[z0, z1, z2, z3, z4, z5, z6, y] t (0, 0)) := heap_setCell_same w1 g 7 #[z0, z1, z2, z3, z4, z5, z6, z7] t y h
/-- All 8 cells of a block stored. -/
theorem blk_set8r {w1 : World} {g : Nat} {z0 z1 z2 z3 z4 z5 z6 z7 y0 y1 y2 y3 y4 y5 y6 y7 : Value} {t : TypeId} (h : w1.heap[g]? = some (.cells #[z0, z1, z2, z3, z4, z5, z6, z7] t (0, 0))) : ((((((((w1.setCell ⟨g, 0, none⟩ y0).setCell ⟨g, 1, none⟩ y1).setCell ⟨g, 2, none⟩ y2).setCell ⟨g, 3, none⟩ y3).setCell ⟨g, 4, none⟩ y4).setCell ⟨g, 5, none⟩ y5).setCell ⟨g, 6, none⟩ y6).setCell ⟨g, 7, none⟩ y7).heap[g]? = some (.cells #[y0, y1, y2, y3, y4, y5, y6, y7] t (0, 0)) :=
  (blk8_c7 (blk8_c6 (blk8_c5 (blk8_c4 (blk8_c3 (blk8_c2 (blk8_c1 (blk8_c0 h))))))))
theorem Drawn.set8r {B b : Nat} {a : Option Addr} {n c : Nat} {w w1 : World} {g : Nat} {y0 y1 y2 y3 y4 y5 y6 y7 : Value} (h : Drawn B b a n c w w1) (hb : b < w.heap.size) (hg : w.heap.size ≤ g) : Drawn B b a n c w ((((((((w1.setCell ⟨g, 0, none⟩ y0).setCell ⟨g, 1, none⟩ y1).setCell ⟨g, 2, none⟩ y2).setCell ⟨g, 3, none⟩ y3).setCell ⟨g, 4, none⟩ y4).setCell ⟨g, 5, none⟩ y5).setCell ⟨g, 6, none⟩ y6).setCell ⟨g, 7, none⟩ y7) :=
  ((((((((h.set1 hb hg).set1 hb hg).set1 hb hg).set1 hb hg).set1 hb hg).set1 hb hg).set1 hb hg).set1 hb hg)
theorem blk_oth8r {w1 : World} {g k : Nat} {y0 y1 y2 y3 y4 y5 y6 y7 : Value} {o : Obj} (h : w1.heap[k]? = some o) (hne : k ≠ g) : ((((((((w1.setCell ⟨g, 0, none⟩ y0).setCell ⟨g, 1, none⟩ y1).setCell ⟨g, 2, none⟩ y2).setCell ⟨g, 3, none⟩ y3).setCell ⟨g, 4, none⟩ y4).setCell ⟨g, 5, none⟩ y5).setCell ⟨g, 6, none⟩ y6).setCell ⟨g, 7, none⟩ y7).heap[k]? = some o :=
  ((heap_setCell_other _ _ _ _ hne).trans ((heap_setCell_other _ _ _ _ hne).trans ((heap_setCell_other _ _ _ _ hne).trans ((heap_setCell_other _ _ _ _ hne).trans ((heap_setCell_other _ _ _ _ hne).trans ((heap_setCell_other _ _ _ _ hne).trans ((heap_setCell_other _ _ _ _ hne).trans ((heap_setCell_other _ _ _ _ hne).trans h))))))))
end Go.Proofs.Ytfcgdhedaefonaa
