/-
  Rows of pairs that a call has made. No program is named here.
-/
import Derived.Test.YtaomjggamamckaaExcs
import Derived.WalkKit
import Derived.ProofKit
import Derived.Laws.Rows
import Derived.Laws.AppendOwn
import Derived.Laws.OwnMore
namespace Go.Proofs.Ytaomjggamamckaa
open Go.RowKit

theorem kept_any {w w' : World} {base e size : Nat} {v : Value} {n : Nat} {xs : List Value} (h : w.ownsRow base e size v n xs) (hb : Below w.heap.size w w') : w'.ownsRow base e size v n xs :=
  h.kept (grown_of_below hb none) (by
    cases hv : v.ownBlock
    · exact Or.inl rfl
    · exact Or.inr (by simp))

/-- A store below the row leaves it. -/
theorem own_set {w : World} {base e size : Nat} {v : Value} {n : Nat} {xs : List Value} (h : w.ownsRow base e size v n xs) (g i : Nat) (x : Value) (hg : g < base) : (w.setCell ⟨g, i, none⟩ x).ownsRow base e size v n xs :=
  h.kept (row := some g) ⟨rfl, rfl, rfl, by simp, fun k _ hk => heap_setCell_other w ⟨g, i, none⟩ k x (fun e => hk (by simp [e]))⟩ (by
    cases hv : v.ownBlock with
    | none => exact Or.inl rfl
    | some j => exact Or.inr (fun e => by have := (h.lt j hv).1; cases e; omega))
theorem own_sl {w : World} {base e size : Nat} {v : Value} {n : Nat} {xs : List Value} (h : w.ownsRow base e size v n xs) : ∃ (a : Option Addr) (c : Nat), v = .slice a n c := by
  rcases h.2 with ⟨rfl, rfl⟩ | ⟨g, cap, cur, rfl, _⟩
  · exact ⟨none, 0, rfl⟩
  · exact ⟨_, _, rfl⟩
theorem blk_pair {w : World} {g : Nat} {a b x y : Value} {t : TypeId} (h : w.heap[g]? = some (.cells #[a, b] t (0, 0))) :
    ((w.setCell ⟨g, 0, none⟩ x).setCell ⟨g, 1, none⟩ y).heap[g]? = some (.cells #[x, y] t (0, 0)) :=
  heap_setCell_same _ g 1 _ t y (heap_setCell_same w g 0 _ t x h)

/-- The j-th cell of a row of pairs. -/
def cellE (es : List (Int × Int)) (j : Nat) : Value := if j % 2 = 0 then .int .i64 (es.getD (j / 2) (0, 0)).1 else .int .i64 (es.getD (j / 2) (0, 0)).2
/-- A row of n pairs, of which the first k are those of es, the others 0. -/
def halfE (es : List (Int × Int)) (n k : Nat) : List Value := (List.range (n * 2)).map fun j => if j < k * 2 then cellE es j else .int .i64 0

theorem halfE_length (es : List (Int × Int)) (n k : Nat) : (halfE es n k).length = n * 2 := by simp [halfE]
theorem halfE_at {es : List (Int × Int)} {n k j : Nat} (hj : j < n * 2) : (halfE es n k)[j]? = some (if j < k * 2 then cellE es j else .int .i64 0) := by simp [halfE, hj]
theorem cellE_even (es : List (Int × Int)) (k : Nat) : cellE es (k * 2) = .int .i64 (es.getD k (0, 0)).1 := by
  unfold cellE
  rw [if_pos (by omega), show k * 2 / 2 = k by omega]
theorem cellE_odd (es : List (Int × Int)) (k : Nat) : cellE es (k * 2 + 1) = .int .i64 (es.getD k (0, 0)).2 := by
  unfold cellE
  rw [if_neg (by omega), show (k * 2 + 1) / 2 = k by omega]
theorem halfE_made (es : List (Int × Int)) (n : Nat) : (madeCells #[.int .i64 0, .int .i64 0] (n * 2)).toList = halfE es n 0 := by
  apply List.ext_getElem?
  intro j
  by_cases hj : j < n * 2
  · rw [halfE_at hj, if_neg (by omega)]
    rcases Nat.mod_two_eq_zero_or_one j with e | e <;> simp [madeCells, hj, e]
  · rw [List.getElem?_eq_none (by simp [size_madeCells]; omega), List.getElem?_eq_none (by rw [halfE_length]; omega)]
theorem halfE_succ {es : List (Int × Int)} {n k : Nat} (hk : k < n) : ((halfE es n k).set (k * 2) (.int .i64 (es.getD k (0, 0)).1)).set (k * 2 + 1) (.int .i64 (es.getD k (0, 0)).2) = halfE es n (k + 1) := by
  apply List.ext_getElem?
  intro j
  rw [List.getElem?_set, List.getElem?_set, List.length_set, halfE_length]
  by_cases hj : j < n * 2
  · rw [halfE_at hj, halfE_at hj]
    by_cases e1 : k * 2 + 1 = j
    · subst e1
      rw [if_pos rfl, if_pos (by omega), if_pos (by omega), cellE_odd]
    · rw [if_neg e1]
      by_cases e0 : k * 2 = j
      · subst e0
        rw [if_pos rfl, if_pos (by omega), if_pos (by omega), cellE_even]
      · rw [if_neg e0]
        by_cases e2 : j < k * 2
        · rw [if_pos e2, if_pos (by omega)]
        · rw [if_neg e2, if_neg (by omega)]
  · rw [if_neg (by omega), if_neg (by omega), List.getElem?_eq_none (by rw [halfE_length]; omega), List.getElem?_eq_none (by rw [halfE_length]; omega)]

theorem excs_of_row {w : World} {base e : Nat} {v : Value} {es : List (Int × Int)} {n k : Nat} (hn : n = es.length) (hk : es.length ≤ k) (h : w.ownsRow base e 2 v n (halfE es n k)) : Excs w v es := by
  subst hn
  rcases h.2 with ⟨rfl, hx⟩ | ⟨g, cap, cur, rfl, hb, hg, hnc, hcm, hcs, htake⟩
  · exact Or.inl ⟨List.eq_nil_of_length_eq_zero hx, _, _, rfl⟩
  · by_cases h0 : es = []
    · subst h0
      exact Or.inl ⟨rfl, _, _, rfl⟩
    · refine Or.inr ⟨h0, g, 0, cap, rfl, hnc, (h.lt g rfl).2, fun j x hx => ?_⟩
      have hj : j < es.length := (List.getElem?_eq_some_iff.1 hx).1
      have hd : es.getD j (0, 0) = x := by rw [List.getD, hx]; rfl
      rw [Nat.zero_add, h.cellAt (j * 2) (by omega), h.cellAt (j * 2 + 1) (by omega), halfE_at (by omega), halfE_at (by omega), if_pos (by omega), if_pos (by omega), cellE_even, cellE_odd, hd]
      exact ⟨rfl, rfl⟩
end Go.Proofs.Ytaomjggamamckaa
