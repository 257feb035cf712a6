/-
  Words on draws beside what a call or a store leaves.
-/
import Derived.Test.YtfcgdhedaefonaaRows
import Derived.Test.YtfcgdhedaefonaaHold
import Derived.Test.YtfcgdhedaefonaaDraw
import Derived.WalkKit
import Derived.Lib.Hide
namespace Go.Proofs.Ytfcgdhedaefonaa
open Go.RowKit

theorem grown_below {b : Nat} {w w' : World} (h : Below w.heap.size w w') : w.grownBy w' (some b) := ⟨h.os, h.tape, h.output, h.size, fun k hk _ => h.block k hk⟩
theorem CurAt.keep {B b : Nat} {w w' : World} {a : Option Addr} {n c : Nat} (h : CurAt B w b a n c) (hb : Below w.heap.size w w') : CurAt B w' b a n c := by
  obtain ⟨hB, i, x, h1, h2, h3, hk⟩ := h
  exact ⟨hB, i, x, h1, h2, h3, blk_below hk hb⟩
theorem Drawn.more {B b : Nat} {a : Option Addr} {n c : Nat} {w w1 w2 : World} (h : Drawn B b a n c w w1) (hb : Below w1.heap.size w1 w2) : Drawn B b a n c w w2 := ⟨CurAt.keep h.cur hb, h.grown.trans (grown_below hb)⟩
/-- A block other than the cursor's stays. -/
theorem Drawn.blk {B b g : Nat} {a : Option Addr} {n c : Nat} {w w1 : World} {o : Obj} (h : Drawn B b a n c w w1) (hg : w.heap[g]? = some o) (hne : g ≠ b) : w1.heap[g]? = some o := by
  rw [h.grown.block g (lt_of_heap hg) (fun e => hne (Option.some.inj e))]; exact hg
theorem Drawn.set2 {B b g : Nat} {a : Option Addr} {n c : Nat} {w w1 : World} {x y : Value} (h : Drawn B b a n c w w1) (hne : b ≠ g) (hg : w.heap.size ≤ g) :
    Drawn B b a n c w ((w1.setCell ⟨g, 0, none⟩ x).setCell ⟨g, 1, none⟩ y) := by
  obtain ⟨⟨hB, i, z, h1, h2, h3, hk⟩, gr⟩ := h
  refine ⟨⟨hB, i, z, h1, h2, h3, (heap_setCell_other _ _ _ _ (by simpa using hne)).trans ((heap_setCell_other _ _ _ _ (by simpa using hne)).trans hk)⟩, ?_⟩
  refine ⟨gr.os, gr.tape, gr.output, by simpa using gr.size, fun k hk2 hn => ?_⟩
  rw [heap_setCell_other _ _ _ _ (by simp; omega), heap_setCell_other _ _ _ _ (by simp; omega)]
  exact gr.block k hk2 hn

end Go.Proofs.Ytfcgdhedaefonaa
