/-
  Conditions read from a text, as the program reads them: pure. No program is named here.
-/
import Derived.Test.YtghofgjlmfdnpaaCondRead
import Derived.Test.YtghofgjlmfdnpaaIsCodeLib
import Derived.Lib.IndexAny
import Derived.Lib.IndexBytes
namespace Go.Proofs.Ytghofgjlmfdnpaa

/-- What is left of the text, and the nodes so far. -/
abbrev PS := ByteArray × List CN
def pRest (q t : ByteArray) : ByteArray := q.extract t.size q.size
def pAdd (x : CN) (s : PS) : Option PS := if s.2.length < 30 then some (s.1, s.2 ++ [x]) else none
def pLoop (t : ByteArray) (x : CN) (S : PS → Option PS) : Nat → PS → Option PS
  | 0, _ => none
  | f + 1, s => if takes s.1 t 0 = true then (S (pRest s.1 t, s.2)).bind (fun r => (pAdd x r).bind (pLoop t x S f)) else some s
def pMore (t : ByteArray) (x : CN) (S : PS → Option PS) (s : PS) : Option PS := pLoop t x S (s.1.size + 1) s
def pChain (t : ByteArray) (x : CN) (S : PS → Option PS) (s : PS) : Option PS := (S s).bind (pMore t x S)
/-- Where a word ends. -/
def pEnd (q : ByteArray) : Nat := if Lib.indexAny q.data.toList [32, 41] < 0 then q.size else (Lib.indexAny q.data.toList [32, 41]).toNat
/-- A text cut at the first '='. -/
def pCut (s : ByteArray) : ByteArray × ByteArray := if 0 ≤ Lib.indexByte s.data.toList 61 then (s.extract 0 (Lib.indexByte s.data.toList 61).toNat, s.extract ((Lib.indexByte s.data.toList 61).toNat + 1) s.size) else (s, eB)
def pWord (q : ByteArray) : ByteArray := q.extract 0 (pEnd q)
noncomputable def pLeaf (s : PS) : Option PS :=
  if pWord s.1 = tTrue then pAdd nTrue (s.1.extract (pEnd s.1) s.1.size, s.2)
  else if (isCode.codeB (pCut (pWord s.1)).1 && isCode.codeB (pCut (pWord s.1)).2) = true then pAdd ⟨1, (pCut (pWord s.1)).1, (pCut (pWord s.1)).2⟩ (s.1.extract (pEnd s.1) s.1.size, s.2)
  else none
def pShut (s : PS) : Option PS := if takes s.1 tShut 0 = true then some (pRest s.1 tShut, s.2) else none
def pOr (S : PS → Option PS) : PS → Option PS := pChain tOr nOr (pChain tAnd nAnd S)
noncomputable def pOp : Nat → PS → Option PS
  | 0 => fun s => if takes s.1 tNot 0 = true then none else if takes s.1 tOpen 0 = true then none else pLeaf s
  | n + 1 => fun s =>
    if takes s.1 tNot 0 = true then (pOp n (pRest s.1 tNot, s.2)).bind (pAdd nNot)
    else if takes s.1 tOpen 0 = true then (pOr (pOp n) (pRest s.1 tOpen, s.2)).bind pShut
    else pLeaf s
/-- What the program's ParseCond answers. -/
noncomputable def pPar (s : ByteArray) : List CN × Bool :=
  match pOr (pOp 30) (s, []) with
  | some (q, l) => if q.size = 0 then (l, true) else ([], false)
  | none => ([], false)

/-- What is read leaves no more text, and at most 30 nodes. -/
def Shr (S : PS → Option PS) : Prop := ∀ s r : PS, S s = some r → s.2.length ≤ 30 → r.1.size ≤ s.1.size ∧ r.2.length ≤ 30
theorem pRest_size (q t : ByteArray) : (pRest q t).size = q.size - t.size := by
  unfold pRest
  rw [ByteArray.size_extract]
  omega
theorem add_some {x : CN} {s r : PS} (h : pAdd x s = some r) : r.1 = s.1 ∧ r.2 = s.2 ++ [x] ∧ s.2.length < 30 := by
  unfold pAdd at h
  split at h
  · rename_i hl
    obtain rfl := Option.some.inj h
    exact ⟨rfl, rfl, hl⟩
  · cases h
theorem bind_some {α β : Type} {o : Option α} {f : α → Option β} {r : β} (h : o.bind f = some r) : ∃ a, o = some a ∧ f a = some r := by
  cases o with
  | none => cases h
  | some a => exact ⟨a, rfl, h⟩
theorem shr_loop {t : ByteArray} {x : CN} {S : PS → Option PS} (hS : Shr S) : ∀ f, Shr (pLoop t x S f)
  | 0 => fun s r h => by cases h
  | f + 1 => fun s r h hl => by
    unfold pLoop at h
    split at h
    · obtain ⟨u, h1, h2⟩ := bind_some h
      obtain ⟨v, h3, h4⟩ := bind_some h2
      have k1 := hS _ _ h1 hl
      obtain ⟨e1, e2, e3⟩ := add_some h3
      have k2 := shr_loop hS f v r h4 (by rw [e2, List.length_append, List.length_singleton]; omega)
      rw [e1] at k2
      have k3 := pRest_size s.1 t
      simp only at k1
      exact ⟨by omega, k2.2⟩
    · obtain rfl := Option.some.inj h
      exact ⟨Nat.le_refl _, hl⟩
theorem loop_fuel {t : ByteArray} {x : CN} {S : PS → Option PS} (hS : Shr S) (ht : 1 ≤ t.size) : ∀ (f g : Nat) (s : PS), s.2.length ≤ 30 → s.1.size < f → s.1.size < g → pLoop t x S f s = pLoop t x S g s
  | 0, _, _, _, h, _ => absurd h (Nat.not_lt_zero _)
  | _ + 1, 0, _, _, _, h => absurd h (Nat.not_lt_zero _)
  | f + 1, g + 1, s, hl, h1, h2 => by
    unfold pLoop
    by_cases hc : takes s.1 t 0 = true
    · rw [if_pos hc, if_pos hc]
      have h3 := (takes_yes hc).1
      cases hS1 : S (pRest s.1 t, s.2) with
      | none => rfl
      | some u =>
        have k1 := hS _ _ hS1 hl
        have k3 := pRest_size s.1 t
        simp only at k1
        show (pAdd x u).bind _ = (pAdd x u).bind _
        cases hA : pAdd x u with
        | none => rfl
        | some v =>
          obtain ⟨e1, e2, e3⟩ := add_some hA
          exact loop_fuel hS ht f g v (by rw [e2, List.length_append, List.length_singleton]; omega) (by rw [e1]; omega) (by rw [e1]; omega)
    · rw [if_neg hc, if_neg hc]
theorem more_off {t : ByteArray} {x : CN} {S : PS → Option PS} {s : PS} (hc : takes s.1 t 0 = false) : pMore t x S s = some s := by
  show (if takes s.1 t 0 = true then _ else _) = _
  rw [if_neg (by rw [hc]; exact Bool.noConfusion)]
theorem more_on {t : ByteArray} {x : CN} {S : PS → Option PS} (hS : Shr S) (ht : 1 ≤ t.size) {s : PS} (hl : s.2.length ≤ 30) (hc : takes s.1 t 0 = true) :
    pMore t x S s = (S (pRest s.1 t, s.2)).bind (fun r => (pAdd x r).bind (pMore t x S)) := by
  show (if takes s.1 t 0 = true then _ else _) = _
  rw [if_pos hc]
  have h3 := (takes_yes hc).1
  cases hS1 : S (pRest s.1 t, s.2) with
  | none => rfl
  | some u =>
    have k1 := hS _ _ hS1 hl
    have k3 := pRest_size s.1 t
    simp only at k1
    show (pAdd x u).bind _ = (pAdd x u).bind _
    cases hA : pAdd x u with
    | none => rfl
    | some v =>
      obtain ⟨e1, e2, e3⟩ := add_some hA
      exact loop_fuel hS ht _ _ v (by rw [e2, List.length_append, List.length_singleton]; omega) (by rw [e1]; omega) (by omega)
theorem shr_chain {t : ByteArray} {x : CN} {S : PS → Option PS} (hS : Shr S) : Shr (pChain t x S) := fun s r h hl => by
  obtain ⟨u, h1, h2⟩ := bind_some h
  have k1 := hS _ _ h1 hl
  have k2 := shr_loop hS _ u r h2 k1.2
  exact ⟨by omega, k2.2⟩
theorem shr_or {S : PS → Option PS} (hS : Shr S) : Shr (pOr S) := shr_chain (shr_chain hS)
theorem shr_leaf : Shr pLeaf := fun s r h hl => by
  have he : (s.1.extract (pEnd s.1) s.1.size).size ≤ s.1.size := by rw [ByteArray.size_extract]; omega
  unfold pLeaf at h
  split at h
  · obtain ⟨e1, e2, e3⟩ := add_some h
    simp only at e1 e2 e3
    rw [e1, e2, List.length_append, List.length_singleton]
    exact ⟨he, by omega⟩
  · split at h
    · obtain ⟨e1, e2, e3⟩ := add_some h
      simp only at e1 e2 e3
      rw [e1, e2, List.length_append, List.length_singleton]
      exact ⟨he, by omega⟩
    · cases h
theorem shr_op : ∀ n, Shr (pOp n)
  | 0 => fun s r h hl => by
    unfold pOp at h
    split at h
    · cases h
    · split at h
      · cases h
      · exact shr_leaf s r h hl
  | n + 1 => fun s r h hl => by
    unfold pOp at h
    split at h
    · obtain ⟨u, h1, h2⟩ := bind_some h
      have k1 := shr_op n _ _ h1 hl
      obtain ⟨e1, e2, e3⟩ := add_some h2
      have k3 := pRest_size s.1 tNot
      simp only at k1
      rw [e1, e2, List.length_append, List.length_singleton]
      exact ⟨by omega, by omega⟩
    · split at h
      · obtain ⟨u, h1, h2⟩ := bind_some h
        have k1 := shr_or (shr_op n) _ _ h1 hl
        have k3 := pRest_size s.1 tOpen
        have k4 := pRest_size u.1 tShut
        simp only at k1
        unfold pShut at h2
        split at h2
        · obtain rfl := Option.some.inj h2
          exact ⟨by simp only; omega, k1.2⟩
        · cases h2
      · exact shr_leaf s r h hl
end Go.Proofs.Ytghofgjlmfdnpaa
