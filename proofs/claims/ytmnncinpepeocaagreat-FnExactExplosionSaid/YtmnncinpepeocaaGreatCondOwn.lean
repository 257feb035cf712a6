/-
 Small laws on rows of a call's own. No program is named here.
-/
import Derived.Test.YtmnncinpepeocaaGreatBuA
import Derived.Test.YtmnncinpepeocaaGreatBuRec
import Derived.WalkKit
import Derived.WalkSmall
import Derived.Laws.Rows
import Derived.Laws.AppendOwn
import Derived.Laws.OwnMore
import Derived.Lib.Hide
namespace Go.Proofs.YtmnncinpepeocaaGreat
open Go.RowKit

theorem own_downL {w : World} {base base' e size : Nat} {v : Value} {n : Nat} {xs : List Value} (h : w.ownsRow base e size v n xs) (hle : base' ≤ base) : w.ownsRow base' e size v n xs :=
 ⟨h.1, h.2.imp id (fun ⟨g, cap, cur, hv, hb, r⟩ => ⟨g, cap, cur, hv, Nat.le_trans hle hb, r⟩)⟩
theorem own_capL {w : World} {base e size g n cap : Nat} {xs : List Value} (h : w.ownsRow base e size (.slice (some ⟨g, 0, none⟩) n cap) n xs) : n ≤ cap := by
 rcases h.2 with ⟨h1, _⟩ | ⟨g', cap', cur, h1, _, _, hnc, _⟩
 · cases h1
 · cases h1; exact hnc
/-- The cells of a row, as an append reads them. -/
theorem own_newsL {w : World} {base e size g n cap : Nat} {xs : List Value} (h : w.ownsRow base e size (.slice (some ⟨g, 0, none⟩) n cap) n xs) : ∀ j u, xs[j]? = some u → w.cell? ((⟨g, 0, none⟩ : Addr).add j) = some u := fun j u hu => by
 have hj : j < n * size := by have := (List.getElem?_eq_some_iff.1 hu).1; rw [h.1] at this; exact this
 rw [Addr.add_lit, Nat.zero_add, h.cellAt j hj, hu]
theorem CN.one : ∀ (xs : List CN) (u : Value), u ∈ CN.cells xs → u.oneCell' = true := by
 intro xs
 induction xs with
 | nil => intro u hu; cases hu
 | cons x xs ih =>
  intro u hu
  rw [CN.cells_cons] at hu
  simp only [List.mem_cons] at hu
  rcases hu with rfl | rfl | rfl | hu
  · rfl
  · rfl
  · rfl
  · exact ih u hu
theorem newL3 (W : World) (x y z : Value) (t : TypeId) : ∀ j u, [x, y, z][j]? = some u → (W.alloc (.cells #[x, y, z] t)).cell? ((⟨W.heap.size, 0, none⟩ : Addr).add j) = some u := fun j u hu => by
 match j, hu with
 | 0, hu => simp at hu; subst hu; exact cell_of_row _ _ 0 _ _ _ (heap_alloc_new _ _)
 | 1, hu => simp at hu; subst hu; exact cell_of_row _ _ 1 _ _ _ (heap_alloc_new _ _)
 | 2, hu => simp at hu; subst hu; exact cell_of_row _ _ 2 _ _ _ (heap_alloc_new _ _)
theorem own_nnL {w : World} {base e size n : Nat} {v : Value} {xs : List Value} (h : w.ownsRow base e size v n xs) (hn : ¬v = .slice none 0 0) : ∃ g c, v = .slice (some ⟨g, 0, none⟩) n c := by
 rcases h.2 with ⟨h1, _⟩ | ⟨g, cap, cur, h1, _⟩
 · exact absurd h1 hn
 · exact ⟨g, cap, h1⟩
theorem blk_grownL {w w' : World} {g : Nat} {x : Obj} {o : Option Nat} (h : w.heap[g]? = some x) (hg : w.grownBy w' o) (hne : some g ≠ o) : w'.heap[g]? = some x := (hg.block g (lt_of_heap h) hne).trans h
theorem set_grownL (w : World) (p : Addr) (u : Value) : w.grownBy (w.setCell p u) (some p.block) := ⟨rfl, rfl, rfl, by simp, fun k _ hk => heap_setCell_other w p k u (fun e => hk (by rw [e]))⟩
end Go.Proofs.YtmnncinpepeocaaGreat
