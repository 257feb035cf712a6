/-
  What a statement whose order is open keeps of the memory that it began with: words for the held condition of such a region. No program is named here.
-/
import Derived.Below
import Derived.WalkKit
import Derived.WalkSmall
import Derived.Laws.Rows
import Derived.Lib.Hide
namespace Go.Proofs.Ytfcgdhedaefonaa
open Go.RowKit

theorem lt_of_heap {W : World} {g : Nat} {o : Obj} (h : W.heap[g]? = some o) : g < W.heap.size := by
  rcases Nat.lt_or_ge g W.heap.size with hlt | hge
  · exact hlt
  · rw [Array.getElem?_eq_none (by omega)] at h; cases h
theorem blk_below {w w1 : World} {b : Nat} {o : Obj} (h : w.heap[b]? = some o) (hb : Below w.heap.size w w1) : w1.heap[b]? = some o := (hb.block b (lt_of_heap h)).trans h
theorem blk_alloc {w : World} {b : Nat} {o : Obj} (h : w.heap[b]? = some o) (o' : Obj) : (w.alloc o').heap[b]? = some o := (Below.heap_alloc w o' b (lt_of_heap h)).trans h

/-- A cell of the beginning. -/
theorem hold_c {B W : World} {p : Addr} {v : Value} (h : B.cell? p = some v) (hB : Below B.heap.size B W) : W.cell? p = some v := (hB.cell (block_lt_of_cell h)).trans h
theorem hold_call {p : Prop} {B W W' : World} (h : Hid (Below B.heap.size B W) ∧ p) (hb : Below W.heap.size W W') : Below B.heap.size B W' := h.1.out.trans (hb.mono h.1.out.size)
theorem hold_alloc {p : Prop} {B W : World} {o : Obj} (h : Hid (Below B.heap.size B W) ∧ p) : Below B.heap.size B (W.alloc o) := h.1.out.alloc h.1.out.size o
theorem hold_realloc {p : Prop} {B W : World} {o o' : Obj} (h : Hid (Below B.heap.size B (W.alloc o)) ∧ p) (hle : B.heap.size ≤ W.heap.size) : Below B.heap.size B (W.alloc o') :=
  (show Below B.heap.size B W from ⟨h.1.out.os, h.1.out.tape, h.1.out.output, hle, fun k hk => (Below.heap_alloc W o k (by omega)).symm.trans (h.1.out.block k hk)⟩).alloc hle o'
theorem hold_set {p : Prop} {B W : World} {g i : Nat} {x : Value} (h : Hid (Below B.heap.size B W) ∧ p) (hg : B.heap.size ≤ g) : Below B.heap.size B (W.setCell ⟨g, i, none⟩ x) := h.1.out.setCell hg _
theorem hold_set2 {p : Prop} {B W : World} {g i j : Nat} {x y : Value} (h : Hid (Below B.heap.size B W) ∧ p) (hg : B.heap.size ≤ g) : Below B.heap.size B ((W.setCell ⟨g, i, none⟩ x).setCell ⟨g, j, none⟩ y) := (h.1.out.setCell hg _).setCell hg _
theorem hold_le {p : Prop} {B W W' : World} (h : Hid (Below B.heap.size B W) ∧ p) (hb : Below W.heap.size W W') : B.heap.size ≤ W'.heap.size := Nat.le_trans h.1.out.size hb.size
/-- A block that the statement has made, behind a call. -/
theorem made {W W' : World} {o : Obj} (hb : Below (W.alloc o).heap.size (W.alloc o) W') : W'.heap[W.heap.size]? = some o := blk_below (heap_alloc_new W o) hb
theorem made_drew {W W' : World} {o : Obj} (hb : Below (W.alloc o).drew.heap.size (W.alloc o).drew W') : W'.heap[W.heap.size]? = some o := blk_below (w := (W.alloc o).drew) (heap_alloc_new W o) hb
theorem hold0 {B W : World}   (hB : Below B.heap.size B W) : Hid (Below B.heap.size B W) ∧ True := ⟨Lib.hid hB, trivial⟩
theorem hold1 {B W : World} {p0 : Addr} {v0 : Value} (c0 : B.cell? p0 = some v0) (hB : Below B.heap.size B W) : Hid (Below B.heap.size B W) ∧ W.cell? p0 = some v0 := ⟨Lib.hid hB, hold_c c0 hB⟩
theorem hold2 {B W : World} {p0 : Addr} {v0 : Value} {p1 : Addr} {v1 : Value} (c0 : B.cell? p0 = some v0) (c1 : B.cell? p1 = some v1) (hB : Below B.heap.size B W) : Hid (Below B.heap.size B W) ∧ W.cell? p0 = some v0 ∧ W.cell? p1 = some v1 := ⟨Lib.hid hB, hold_c c0 hB, hold_c c1 hB⟩
theorem hold3 {B W : World} {p0 : Addr} {v0 : Value} {p1 : Addr} {v1 : Value} {p2 : Addr} {v2 : Value} (c0 : B.cell? p0 = some v0) (c1 : B.cell? p1 = some v1) (c2 : B.cell? p2 = some v2) (hB : Below B.heap.size B W) : Hid (Below B.heap.size B W) ∧ W.cell? p0 = some v0 ∧ W.cell? p1 = some v1 ∧ W.cell? p2 = some v2 := ⟨Lib.hid hB, hold_c c0 hB, hold_c c1 hB, hold_c c2 hB⟩
theorem hold4 {B W : World} {p0 : Addr} {v0 : Value} {p1 : Addr} {v1 : Value} {p2 : Addr} {v2 : Value} {p3 : Addr} {v3 : Value} (c0 : B.cell? p0 = some v0) (c1 : B.cell? p1 = some v1) (c2 : B.cell? p2 = some v2) (c3 : B.cell? p3 = some v3) (hB : Below B.heap.size B W) : Hid (Below B.heap.size B W) ∧ W.cell? p0 = some v0 ∧ W.cell? p1 = some v1 ∧ W.cell? p2 = some v2 ∧ W.cell? p3 = some v3 := ⟨Lib.hid hB, hold_c c0 hB, hold_c c1 hB, hold_c c2 hB, hold_c c3 hB⟩
theorem hold5 {B W : World} {p0 : Addr} {v0 : Value} {p1 : Addr} {v1 : Value} {p2 : Addr} {v2 : Value} {p3 : Addr} {v3 : Value} {p4 : Addr} {v4 : Value} (c0 : B.cell? p0 = some v0) (c1 : B.cell? p1 = some v1) (c2 : B.cell? p2 = some v2) (c3 : B.cell? p3 = some v3) (c4 : B.cell? p4 = some v4) (hB : Below B.heap.size B W) : Hid (Below B.heap.size B W) ∧ W.cell? p0 = some v0 ∧ W.cell? p1 = some v1 ∧ W.cell? p2 = some v2 ∧ W.cell? p3 = some v3 ∧ W.cell? p4 = some v4 := ⟨Lib.hid hB, hold_c c0 hB, hold_c c1 hB, hold_c c2 hB, hold_c c3 hB, hold_c c4 hB⟩
theorem hold6 {B W : World} {p0 : Addr} {v0 : Value} {p1 : Addr} {v1 : Value} {p2 : Addr} {v2 : Value} {p3 : Addr} {v3 : Value} {p4 : Addr} {v4 : Value} {p5 : Addr} {v5 : Value} (c0 : B.cell? p0 = some v0) (c1 : B.cell? p1 = some v1) (c2 : B.cell? p2 = some v2) (c3 : B.cell? p3 = some v3) (c4 : B.cell? p4 = some v4) (c5 : B.cell? p5 = some v5) (hB : Below B.heap.size B W) : Hid (Below B.heap.size B W) ∧ W.cell? p0 = some v0 ∧ W.cell? p1 = some v1 ∧ W.cell? p2 = some v2 ∧ W.cell? p3 = some v3 ∧ W.cell? p4 = some v4 ∧ W.cell? p5 = some v5 := ⟨Lib.hid hB, hold_c c0 hB, hold_c c1 hB, hold_c c2 hB, hold_c c3 hB, hold_c c4 hB, hold_c c5 hB⟩
theorem hold7 {B W : World} {p0 : Addr} {v0 : Value} {p1 : Addr} {v1 : Value} {p2 : Addr} {v2 : Value} {p3 : Addr} {v3 : Value} {p4 : Addr} {v4 : Value} {p5 : Addr} {v5 : Value} {p6 : Addr} {v6 : Value} (c0 : B.cell? p0 = some v0) (c1 : B.cell? p1 = some v1) (c2 : B.cell? p2 = some v2) (c3 : B.cell? p3 = some v3) (c4 : B.cell? p4 = some v4) (c5 : B.cell? p5 = some v5) (c6 : B.cell? p6 = some v6) (hB : Below B.heap.size B W) : Hid (Below B.heap.size B W) ∧ W.cell? p0 = some v0 ∧ W.cell? p1 = some v1 ∧ W.cell? p2 = some v2 ∧ W.cell? p3 = some v3 ∧ W.cell? p4 = some v4 ∧ W.cell? p5 = some v5 ∧ W.cell? p6 = some v6 := ⟨Lib.hid hB, hold_c c0 hB, hold_c c1 hB, hold_c c2 hB, hold_c c3 hB, hold_c c4 hB, hold_c c5 hB, hold_c c6 hB⟩
theorem hold8 {B W : World} {p0 : Addr} {v0 : Value} {p1 : Addr} {v1 : Value} {p2 : Addr} {v2 : Value} {p3 : Addr} {v3 : Value} {p4 : Addr} {v4 : Value} {p5 : Addr} {v5 : Value} {p6 : Addr} {v6 : Value} {p7 : Addr} {v7 : Value} (c0 : B.cell? p0 = some v0) (c1 : B.cell? p1 = some v1) (c2 : B.cell? p2 = some v2) (c3 : B.cell? p3 = some v3) (c4 : B.cell? p4 = some v4) (c5 : B.cell? p5 = some v5) (c6 : B.cell? p6 = some v6) (c7 : B.cell? p7 = some v7) (hB : Below B.heap.size B W) : Hid (Below B.heap.size B W) ∧ W.cell? p0 = some v0 ∧ W.cell? p1 = some v1 ∧ W.cell? p2 = some v2 ∧ W.cell? p3 = some v3 ∧ W.cell? p4 = some v4 ∧ W.cell? p5 = some v5 ∧ W.cell? p6 = some v6 ∧ W.cell? p7 = some v7 := ⟨Lib.hid hB, hold_c c0 hB, hold_c c1 hB, hold_c c2 hB, hold_c c3 hB, hold_c c4 hB, hold_c c5 hB, hold_c c6 hB, hold_c c7 hB⟩
end Go.Proofs.Ytfcgdhedaefonaa
