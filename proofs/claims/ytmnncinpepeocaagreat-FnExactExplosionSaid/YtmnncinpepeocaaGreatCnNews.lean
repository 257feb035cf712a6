/-
 The nodes of a slice, one by one; a list of nodes of the call's own.
-/
import Derived.Test.YtmnncinpepeocaaGreatRows
import Derived.Test.YtmnncinpepeocaaGreatBuRec
import Derived.Test.YtmnncinpepeocaaGreatBLN
import Derived.WalkKit
import Derived.WalkSpells
import Derived.WalkSmall
import Derived.Laws.OwnMore
import Derived.Lib.Hide
namespace Go.Proofs.YtmnncinpepeocaaGreat
open Go.RowKit

/-- The cells of a slice, one by one. -/
theorem cn_news {w : World} {b o : Nat} {xs : List CN} (h : CN.At w b o xs) : ∀ (j : Nat) (u : Value), (CN.cells xs)[j]? = some u → w.cell? ((⟨b, o, none⟩ : Addr).add j) = some u := by
 intro j u hu
 have hj : j < xs.length * 3 := by have := (List.getElem?_eq_some_iff.1 hu).1; rwa [CN.cells_length] at this
 have hq : j / 3 < xs.length := by omega
 have h1 := h.2 (j / 3) _ (List.getElem?_eq_getElem hq)
 have h2 := CN.cells_at xs (j / 3) _ (List.getElem?_eq_getElem hq)
 rw [Addr.add_lit]
 have hm : j % 3 = 0 ∨ j % 3 = 1 ∨ j % 3 = 2 := by omega
 rcases hm with hm | hm | hm
 · have e : j = j / 3 * 3 := by omega
   rw [e] at hu ⊢
   rw [h1.1, ← h2.1, hu]
 · have e : j = j / 3 * 3 + 1 := by omega
   rw [e] at hu ⊢
   rw [show o + (j / 3 * 3 + 1) = o + j / 3 * 3 + 1 by omega, h1.2.1, ← h2.2.1, hu]
 · have e : j = j / 3 * 3 + 2 := by omega
   rw [e] at hu ⊢
   rw [show o + (j / 3 * 3 + 2) = o + j / 3 * 3 + 2 by omega, h1.2.2, ← h2.2.2, hu]
/-- A list of nodes of the call's own. -/
def OwnC (l : List CN) (w : World) (e : Ending) (w' : World) : Prop := ∃ (a : Option Addr) (c : Nat), e = .returned (.slice a l.length c) ∧ Hid (w'.ownsRow w.heap.size 145 3 (.slice a l.length c) l.length (CN.cells l)) ∧ Hid (Below w.heap.size w w')
end Go.Proofs.YtmnncinpepeocaaGreat
