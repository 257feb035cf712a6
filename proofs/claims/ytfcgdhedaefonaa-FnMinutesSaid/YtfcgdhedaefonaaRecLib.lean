/-
  A row that is written cell by cell. No program is named here.
-/
import Derived.WalkKit
import Derived.Laws.Rows
import Derived.Laws.AppendOwn
import Derived.Laws.OwnMore
import Derived.Maps.AppendAt
import Derived.Lib.Hide
namespace Go.Proofs.Ytfcgdhedaefonaa
open Go.RowKit

/-- The row when j of its cells are those of M. -/
def halfL (M xs : List Value) (j : Nat) : List Value := M.take j ++ xs.drop j
theorem halfL_zero (M xs : List Value) : halfL M xs 0 = xs := by simp [halfL]
theorem halfL_all {M xs : List Value} {n : Nat} (hM : M.length = n) (hx : xs.length = n) : halfL M xs n = M := by
  unfold halfL
  rw [List.take_of_length_le (by omega), List.drop_eq_nil_of_le (by omega), List.append_nil]
theorem halfL_length {M xs : List Value} {j : Nat} (h : xs.length = M.length) (hj : j ≤ M.length) : (halfL M xs j).length = M.length := by
  unfold halfL
  rw [List.length_append, List.length_take, List.length_drop]
  omega
theorem halfL_set {M xs : List Value} {j : Nat} {u : Value} (h : xs.length = M.length) (hu : M[j]? = some u) : (halfL M xs j).set j u = halfL M xs (j + 1) := by
  have hj : j < M.length := (List.getElem?_eq_some_iff.1 hu).1
  apply List.ext_getElem?
  intro i
  rw [List.getElem?_set, halfL_length h (by omega)]
  have hl : (M.take j).length = j := by rw [List.length_take]; omega
  have hl1 : (M.take (j + 1)).length = j + 1 := by rw [List.length_take]; omega
  unfold halfL
  by_cases hij : j = i
  · subst hij
    rw [if_pos rfl, if_pos hj, List.getElem?_append_left (by omega), List.getElem?_take_of_lt (by omega), hu]
  · rw [if_neg hij]
    by_cases hlt : i < j
    · rw [List.getElem?_append_left (by omega), List.getElem?_append_left (by omega), List.getElem?_take_of_lt hlt, List.getElem?_take_of_lt (by omega)]
    · rw [List.getElem?_append_right (by omega), List.getElem?_append_right (by omega), hl, hl1, List.getElem?_drop, List.getElem?_drop, show j + (i - j) = i by omega, show j + 1 + (i - (j + 1)) = i by omega]
/-- A row of n records of size cells, of which j cells are those of M. -/
def RowL (base e size : Nat) (M xs : List Value) (g n cap j : Nat) (w : World) : Prop := xs.length = M.length ∧ M.length = n * size ∧ j ≤ M.length ∧ w.ownsRow base e size (.slice (some ⟨g, 0, none⟩) n cap) n (halfL M xs j)
theorem RowL.keep {base e size : Nat} {M xs : List Value} {g n cap j : Nat} {w w' : World} (h : RowL base e size M xs g n cap j w) (hb : Below w.heap.size w w') : RowL base e size M xs g n cap j w' :=
  ⟨h.1, h.2.1, h.2.2.1, h.2.2.2.kept (row := none) ⟨hb.os, hb.tape, hb.output, hb.size, fun k hk _ => hb.block k hk⟩ (Or.inr (by simp [Value.ownBlock]))⟩
theorem RowL.cell {base e size : Nat} {M xs : List Value} {g n cap j : Nat} {w : World} (h : RowL base e size M xs g n cap j w) (i : Nat) (hi : i < n * size) : (∃ u, w.cell? ⟨g, i, none⟩ = some u) ∧ w.frozen? ⟨g, i, none⟩ = false := by
  refine ⟨?_, h.2.2.2.frozenAt i⟩
  rw [h.2.2.2.cellAt i hi]
  exact ⟨_, List.getElem?_eq_getElem (by rw [halfL_length h.1 h.2.2.1, h.2.1]; exact hi)⟩
theorem RowL.set {base e size : Nat} {M xs : List Value} {g n cap j : Nat} {w : World} (h : RowL base e size M xs g n cap j w) {u : Value} (hu : M[j]? = some u) : RowL base e size M xs g n cap (j + 1) (w.setCell ⟨g, j, none⟩ u) := by
  have h1 := (h.2.2.2.stored j u).1
  rw [halfL_set h.1 hu] at h1
  exact ⟨h.1, h.2.1, (List.getElem?_eq_some_iff.1 hu).1, h1⟩
theorem RowL.done {base e size : Nat} {M xs : List Value} {g n cap j : Nat} {w : World} (h : RowL base e size M xs g n cap j w) (hj : j = n * size) : w.ownsRow base e size (.slice (some ⟨g, 0, none⟩) n cap) n M := by
  have h1 := h.2.2.2
  subst hj
  rw [halfL_all h.2.1 (h.1.trans h.2.1)] at h1
  exact h1
theorem RowL.start {base e size : Nat} {M xs : List Value} {g n cap : Nat} {w : World} (hM : M.length = n * size) (h : w.ownsRow base e size (.slice (some ⟨g, 0, none⟩) n cap) n xs) : RowL base e size M xs g n cap 0 w :=
  ⟨h.1.trans hM.symm, hM, Nat.zero_le _, by rw [halfL_zero]; exact h⟩
theorem grown_setL {w w' : World} {g j : Nat} {u : Value} (h : w.grownBy w' (some g)) : w.grownBy (w'.setCell ⟨g, j, none⟩ u) (some g) :=
  h.trans ⟨rfl, rfl, rfl, by simp, fun k _ hk => heap_setCell_other w' ⟨g, j, none⟩ k u (fun e => hk (by simp [e]))⟩
theorem cellL_grown {W W' : World} {p : Addr} {v : Value} (h : W.cell? p = some v) {o : Option Nat} (hd : W.grownBy W' o) (hne : o ≠ some p.block) : W'.cell? p = some v := hd.cell h (fun e => hne (by rw [← e]))
/-- Cells that have just been laid. -/
theorem newL1 (W : World) (x : Value) (t : TypeId) : ∀ j u, [x][j]? = some u → (W.alloc (.cells #[x] t)).cell? ((⟨W.heap.size, 0, none⟩ : Addr).add j) = some u := fun j u hu => by
  match j, hu with
  | 0, hu => simp at hu; subst hu; exact cell_of_row _ _ 0 _ _ _ (heap_alloc_new _ _)
/-- An append to a row of one's own, as one step of a region that draws. -/
theorem step_append_ownL {P : Program} {ops : Array Oper} {o : Oper} {ac : Act} {w : World} {K : Act → World → Prop} {Q : Exit → Act → World → Prop} {X : Prop}
    (hg : o.guard = none) (s x : Operand) (t : TypeId) (hop : o.op = Op.call { callee := Callee.builtin Builtin.append, args := #[s, x], argTypes := #[t, t] })
    (base : Nat) (e : TypeId) (i : TypeInfo) (z : Value) (size bytes : Nat) (h1 : P.underlying t = some (.slice e)) (h2 : P.info? e = some i) (h3 : i.zero = some z) (h4 : i.size = size) (h5 : i.bytes = bytes) (h6 : z.cells.size = size) (h7 : 0 < size)
    (v : Value) (k : Nat) (olds : List Value) (hs : ac.eval s = v) (hown : w.ownsRow base e size v k olds)
    (ad : Addr) (m cc : Nat) (news : List Value) (hx : ac.eval x = .slice (some ad) m cc) (hn : news.length = m * size) (hc : ∀ j u, news[j]? = some u → w.cell? (ad.add j) = some u) (h1c : ∀ u ∈ news, u.oneCell' = true)
    (b1 : k + m ≤ maxLen) (b2 : (k + m) * bytes ≤ 140737488355328) (hbase : base ≤ w.heap.size)
    (hK : ∀ v' w', w'.ownsRow base e size v' (k + m) (olds ++ news) → w.grownBy w' v.ownBlock → K (ac.put o.dst v') w') :
    if Region.wanted o (yielded ops ac.tmps) = true then Oper.wp P o ac w K Q else X := by
  have hw : Region.wanted o (yielded ops ac.tmps) = true := by simp [Region.wanted, hg]
  rw [if_pos hw]
  obtain ⟨v', w', hrun, r1, r2, _⟩ := run_append_own (P := P) w base t o.type e i z size bytes h1 h2 h3 h4 h5 h6 h7 v k olds hown ad m cc news hn hc h1c b1 b2 hbase
  unfold Oper.wp
  simp [execOp, hop, resolve, invoke, builtin, hs, hx, hrun, Result.andThen]
  exact hK v' w' r1 r2
theorem own_someL {w : World} {base e size n : Nat} {v : Value} {xs : List Value} (h : w.ownsRow base e size v (n + 1) xs) : ∃ g c, v = .slice (some ⟨g, 0, none⟩) (n + 1) c := by
  rcases h.2 with ⟨_, h1⟩ | ⟨g, cap, cur, h1, _⟩
  · omega
  · exact ⟨g, cap, h1⟩
theorem cell_blockL {w : World} {a : Addr} {n : Nat} {v : Value} (h : w.cell? (a.add n) = some v) : a.block < w.heap.size := by
  have e : (a.add n).block = a.block := by unfold Addr.add; split <;> rfl
  rw [← e]
  exact block_lt_of_cell h
theorem grown_of_belowL {w w' : World} (h : Below w.heap.size w w') (row : Option Nat) : w.grownBy w' row := ⟨h.os, h.tape, h.output, h.size, fun k hk _ => h.block k hk⟩
theorem own_keepL {base e size : Nat} {v : Value} {n : Nat} {xs : List Value} {w w' : World} (h : w.ownsRow base e size v n xs) (hb : Below w.heap.size w w') : w'.ownsRow base e size v n xs :=
  h.kept (row := none) ⟨hb.os, hb.tape, hb.output, hb.size, fun k hk _ => hb.block k hk⟩ (by
    cases hv : v.ownBlock with
    | none => exact Or.inl rfl
    | some b => exact Or.inr (by simp))
end Go.Proofs.Ytfcgdhedaefonaa
