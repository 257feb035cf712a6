/-
  (What the exact walks of chapter 9 share.)
  The walks of the exact laws on bills of material.
-/
import Derived.Test.YtmnncinpepeocaaBillPar
import Derived.Test.YtmnncinpepeocaaBuA2
import Derived.Test.YtmnncinpepeocaaBuBk
import Derived.Test.YtmnncinpepeocaaBillCopy
import Derived.Test.YtmnncinpepeocaaBillLines
import Derived.Test.YtmnncinpepeocaaBuRec
import Derived.Test.YtmnncinpepeocaaBuRec2
import Derived.Test.YtmnncinpepeocaaBuA
import Derived.WalkKit
import Derived.WalkSpells
import Derived.WalkSmall
import Derived.Deep.DeepCutAuto
import Derived.Lib.Hide
namespace Go.Proofs.Ytmnncinpepeocaa
open Go.RowKit

theorem BX.heldI (base top : Nat) (v : Value) (x : Int) (k : Nat) (rs rs' : List NR) (w : World) (hx : x = (k : Int)) (hmk : BX.IsMk k rs rs') (h : OwnN 6 5 3 37 130 (base) (top) w v rs') (hsm : ∀ j (hj : j < rs.length), (rs[j]'hj).n ≤ 1048577) (hn : rs.length ≤ 1048577) (hk0 : 0 < k) (hk1 : BX.pos k rs rs.length ≤ 1000000000) :
    Calls Try.prog 29 #[v, .int .i64 x] w fun e w' => e = .returned (.int .i64 ((BX.pos k rs rs.length : Nat) : Int)) ∧ Below w.heap.size w w' := by
  subst hx
  exact BX.heldO base top v k rs rs' w hmk h hsm hn hk0 hk1
theorem tot_filter (p : BL → Bool) : ∀ xs : List BL, BX.tot (xs.filter p) ≤ BX.tot xs
  | [] => Nat.le_refl _
  | x :: xs => by
    have h := tot_filter p xs
    rw [List.filter_cons]
    unfold BX.tot at h ⊢
    split
    · simp only [List.map_cons, List.sum_cons]; omega
    · simp only [List.map_cons, List.sum_cons]; omega
theorem linesR_sub {l : List IT} {xs : List BL} {par : ByteArray} {day : Int} {ps : List PK} (hm : BX.Sm xs) : BX.Sm (linesR l xs par day ps) ∧ BX.tot (linesR l xs par day ps) ≤ BX.tot xs ∧ (linesR l xs par day ps).length ≤ xs.length := by
  unfold linesR
  split
  · refine ⟨⟨Nat.le_trans (List.length_filter_le _ _) hm.1, fun x hx => hm.2 x (List.mem_filter.1 hx).1⟩, tot_filter _ _, List.length_filter_le _ _⟩
  · exact ⟨⟨Nat.zero_le _, fun x hx => by cases hx⟩, Nat.zero_le _, Nat.zero_le _⟩
theorem parentsR_len (l : List IT) (xs : List BL) (prt : ByteArray) (day : Int) (ps : List PK) : (parentsR l xs prt day ps).length ≤ l.length := by
  unfold parentsR
  split
  · rw [List.length_map]; exact List.length_filter_le _ _
  · exact Nat.zero_le _
theorem LevOut.len {l : List IT} {xs : List BL} {v : List Nat} (h : LevOut l xs v) : v.length ≤ l.length := by
  rcases h with ⟨_, h⟩ | ⟨_, rfl⟩
  · rw [h.1]; exact Nat.le_refl _
  · exact Nat.zero_le _
/-- Levels as numbers. -/
def lvI (v : List Nat) : List Int := v.map (fun n : Nat => ((n : Nat) : Int))
theorem lvI_row {w : World} {base : Nat} {v : Value} {vs : List Nat} (h : w.ownsRow base 3 1 v vs.length (cellsLv vs)) : w.ownsRow base 3 1 v vs.length ((lvI vs).map (Value.int .i64)) := by
  unfold lvI
  rw [← cellsLv_eq]; exact h
theorem lvI_len (vs : List Nat) : (lvI vs).length = vs.length := by simp [lvI]
theorem strs_rowN {w : World} {base e : Nat} {v : Value} {n : Nat} {ns : List ByteArray} (hn : n = ns.length) (h : w.ownsRow base e 1 v n (ns.map Value.string)) : Strs w v ns := by
  subst hn
  rcases h.2 with ⟨rfl, hx⟩ | ⟨g, cap, cur, rfl, hb, hg, hnc, hcm, hcs, htake⟩
  · exact Or.inl ⟨List.eq_nil_of_length_eq_zero hx, _, _, rfl⟩
  · by_cases h0 : ns = []
    · subst h0; exact Or.inl ⟨rfl, _, _, rfl⟩
    · refine Or.inr ⟨h0, g, 0, cap, rfl, hnc, (h.lt g rfl).2, fun j x hx => ?_⟩
      have hj : j < ns.length := (List.getElem?_eq_some_iff.1 hx).1
      rw [Nat.zero_add, h.cellAt j (by omega), List.getElem?_map, hx]
      rfl
theorem markT1 (base : Nat) (v : Value) (x : Int) (n : Nat) (xs : List Value) (w : World) (hx : x = 1) (hown : w.ownsRow base 9 1 v n xs) (hn : n ≤ 1048577) :
    Calls Try.prog 31 #[v, .int .i64 x] w (Marked base v 1 n w) := by
  subst hx
  exact mark_strs base v 1 n xs w hown hn (by decide) (by decide)
theorem heldT1 (base : Nat) (v : Value) (x : Int) (n : Nat) (w : World) (hx : x = 1) (hown : w.ownsRow base 9 1 v n (marksFrom 1 n)) (hn : n ≤ 1048577) :
    Calls Try.prog 32 #[v, .int .i64 x] w fun e w' => e = .returned (.int .i64 ((1 + n : Nat) : Int)) ∧ Below w.heap.size w w' := by
  subst hx
  exact held_strs base v 1 n w hown hn (by decide) (by decide)

end Go.Proofs.Ytmnncinpepeocaa
