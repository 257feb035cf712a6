/-
  Rows of rules that a call has made. No program is named here.
-/
import Derived.Test.YtaomjggamamckaaRules
import Derived.WalkKit
import Derived.ProofKit
import Derived.Laws.Rows
import Derived.Laws.AppendOwn
import Derived.Laws.OwnMore
namespace Go.Proofs.Ytaomjggamamckaa
open Go.RowKit

/-- The j-th cell of a row of rules. -/
def cellR (rs : List UR) (j : Nat) : Value :=
  if j % 4 = 0 then .string (rs.getD (j / 4) default).src else if j % 4 = 1 then .string (rs.getD (j / 4) default).dst else if j % 4 = 2 then .int .i64 (rs.getD (j / 4) default).num else .int .i64 (rs.getD (j / 4) default).den
/-- The j-th cell of a row of empty rules. -/
def zeroR (j : Nat) : Value := if j % 4 < 2 then .string ByteArray.empty else .int .i64 0
/-- A row of n rules, of which the first k are those of rs, the others empty. -/
def halfR (rs : List UR) (n k : Nat) : List Value := (List.range (n * 4)).map fun j => if j < k * 4 then cellR rs j else zeroR j
theorem halfR_length (rs : List UR) (n k : Nat) : (halfR rs n k).length = n * 4 := by simp [halfR]
theorem halfR_at {rs : List UR} {n k j : Nat} (hj : j < n * 4) : (halfR rs n k)[j]? = some (if j < k * 4 then cellR rs j else zeroR j) := by simp [halfR, hj]
theorem cellR_0 (rs : List UR) (k : Nat) : cellR rs (k * 4) = .string (rs.getD k default).src := by
  unfold cellR; rw [if_pos (by omega), show k * 4 / 4 = k by omega]
theorem cellR_1 (rs : List UR) (k : Nat) : cellR rs (k * 4 + 1) = .string (rs.getD k default).dst := by
  unfold cellR; rw [if_neg (by omega), if_pos (by omega), show (k * 4 + 1) / 4 = k by omega]
theorem cellR_2 (rs : List UR) (k : Nat) : cellR rs (k * 4 + 2) = .int .i64 (rs.getD k default).num := by
  unfold cellR; rw [if_neg (by omega), if_neg (by omega), if_pos (by omega), show (k * 4 + 2) / 4 = k by omega]
theorem cellR_3 (rs : List UR) (k : Nat) : cellR rs (k * 4 + 3) = .int .i64 (rs.getD k default).den := by
  unfold cellR; rw [if_neg (by omega), if_neg (by omega), if_neg (by omega), show (k * 4 + 3) / 4 = k by omega]
theorem halfR_made (rs : List UR) (n : Nat) : (madeCells #[.string ByteArray.empty, .string ByteArray.empty, .int .i64 0, .int .i64 0] (n * 4)).toList = halfR rs n 0 := by
  apply List.ext_getElem?
  intro j
  by_cases hj : j < n * 4
  · rw [halfR_at hj, if_neg (by omega)]
    have h4 : j % 4 = 0 ∨ j % 4 = 1 ∨ j % 4 = 2 ∨ j % 4 = 3 := by omega
    rcases h4 with e | e | e | e <;> simp [madeCells, hj, e, zeroR]
  · rw [List.getElem?_eq_none (by simp [size_madeCells]; omega), List.getElem?_eq_none (by rw [halfR_length]; omega)]
theorem halfR_succ {rs : List UR} {n k : Nat} (hk : k < n) :
    ((((halfR rs n k).set (k * 4) (.string (rs.getD k default).src)).set (k * 4 + 1) (.string (rs.getD k default).dst)).set (k * 4 + 2) (.int .i64 (rs.getD k default).num)).set (k * 4 + 3) (.int .i64 (rs.getD k default).den) = halfR rs n (k + 1) := by
  apply List.ext_getElem?
  intro j
  rw [List.getElem?_set, List.getElem?_set, List.getElem?_set, List.getElem?_set, List.length_set, List.length_set, List.length_set, halfR_length]
  by_cases hj : j < n * 4
  · rw [halfR_at hj, halfR_at hj]
    by_cases e3 : k * 4 + 3 = j
    · subst e3; rw [if_pos rfl, if_pos (by omega), if_pos (by omega), cellR_3]
    · rw [if_neg e3]
      by_cases e2 : k * 4 + 2 = j
      · subst e2; rw [if_pos rfl, if_pos (by omega), if_pos (by omega), cellR_2]
      · rw [if_neg e2]
        by_cases e1 : k * 4 + 1 = j
        · subst e1; rw [if_pos rfl, if_pos (by omega), if_pos (by omega), cellR_1]
        · rw [if_neg e1]
          by_cases e0 : k * 4 = j
          · subst e0; rw [if_pos rfl, if_pos (by omega), if_pos (by omega), cellR_0]
          · rw [if_neg e0]
            by_cases e4 : j < k * 4
            · rw [if_pos e4, if_pos (by omega)]
            · rw [if_neg e4, if_neg (by omega)]
  · rw [if_neg (by omega), if_neg (by omega), if_neg (by omega), if_neg (by omega), List.getElem?_eq_none (by rw [halfR_length]; omega), List.getElem?_eq_none (by rw [halfR_length]; omega)]
theorem rules_of_row {w : World} {base e : Nat} {v : Value} {rs : List UR} {n k : Nat} (hn : n = rs.length) (hk : rs.length ≤ k) (h : w.ownsRow base e 4 v n (halfR rs n k)) : Rules w v rs := by
  subst hn
  rcases h.2 with ⟨rfl, hx⟩ | ⟨g, cap, cur, rfl, hb, hg, hnc, hcm, hcs, htake⟩
  · exact Or.inl ⟨List.eq_nil_of_length_eq_zero hx, _, _, rfl⟩
  · by_cases h0 : rs = []
    · subst h0
      exact Or.inl ⟨rfl, _, _, rfl⟩
    · refine Or.inr ⟨h0, g, 0, cap, rfl, hnc, (h.lt g rfl).2, fun j x hx => ?_⟩
      have hj : j < rs.length := (List.getElem?_eq_some_iff.1 hx).1
      have hd : rs.getD j default = x := by rw [List.getD, hx]; rfl
      rw [Nat.zero_add, h.cellAt (j * 4) (by omega), h.cellAt (j * 4 + 1) (by omega), h.cellAt (j * 4 + 2) (by omega), h.cellAt (j * 4 + 3) (by omega),
        halfR_at (by omega), halfR_at (by omega), halfR_at (by omega), halfR_at (by omega), if_pos (by omega), if_pos (by omega), if_pos (by omega), if_pos (by omega), cellR_0, cellR_1, cellR_2, cellR_3, hd]
      exact ⟨rfl, rfl, rfl, rfl⟩
end Go.Proofs.Ytaomjggamamckaa
