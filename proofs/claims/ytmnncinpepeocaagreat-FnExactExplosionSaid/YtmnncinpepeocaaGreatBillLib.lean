/-
 What bills of material are, the levels of items, the lines of a parent, the parents of a part.
-/
import Derived.Test.YtmnncinpepeocaaGreatBLN
import Derived.Test.YtmnncinpepeocaaGreatBuCat
import Derived.Test.YtmnncinpepeocaaGreatBuCond
import Derived.Test.YtmnncinpepeocaaGreatBuA
import Derived.Lib.Hide
namespace Go.Proofs.YtmnncinpepeocaaGreat
open Go.RowKit

def kindAt (l : List IT) (k : Nat) : Int := match l[k]? with
 | some r => r.kind
 | none => 0
theorem kindAt_get {l : List IT} {k : Nat} (hk : k < l.length) : kindAt l k = (l[k]'hk).kind := by
 unfold kindAt; rw [List.getElem?_eq_getElem hk]
/-- An item is found, or it isn't. -/
theorem fi_cases (l : List IT) (s : ByteArray) : (∃ k, k < l.length ∧ fiI l s = (k : Int)) ∨ fiI l s = -1 := by
 rcases fnd_cases (l.map IT.code) s with ⟨k, hk, _, h, _⟩ | h
 · exact Or.inl ⟨k, by simpa using hk, h⟩
 · exact Or.inr h.1
/-- A line that stands by itself. -/
def LineOk (l : List IT) (x : BL) : Prop :=
 0 ≤ fiI l x.par ∧ 0 ≤ fiI l x.prt ∧ ¬kindAt l (fiI l x.par).toNat = 0 ∧ 1 ≤ x.qty ∧ x.qty ≤ 1000 ∧ 0 ≤ x.fr ∧ x.fr ≤ x.un ∧ x.un ≤ 999 ∧ condB x.whn = true
open Classical in
noncomputable def lineB (l : List IT) (x : BL) : Bool := decide (LineOk l x)
open Classical in
theorem lineB_yes {l : List IT} {x : BL} (h : LineOk l x) : lineB l x = true := decide_eq_true h
open Classical in
theorem lineB_no {l : List IT} {x : BL} (h : ¬LineOk l x) : lineB l x = false := decide_eq_false h
open Classical in
theorem lineB_iff {l : List IT} {x : BL} : lineB l x = true ↔ LineOk l x := by unfold lineB; exact decide_eq_true_iff
/-- A line as a link between numbers of items. -/
noncomputable def pairOf (l : List IT) (x : BL) : Lk := ((fiI l x.par).toNat, (fiI l x.prt).toNat)
noncomputable def pairs (l : List IT) (xs : List BL) : List Lk := xs.map (pairOf l)
theorem pairs_length (l : List IT) (xs : List BL) : (pairs l xs).length = xs.length := by simp [pairs]
theorem pairs_get {l : List IT} {xs : List BL} {k : Nat} (hk : k < xs.length) : (pairs l xs)[k]'(by rw [pairs_length]; exact hk) = pairOf l (xs[k]'hk) := by simp [pairs]
/-- The first k lines stand by themselves. -/
def LinesTo (l : List IT) (xs : List BL) (k : Nat) : Prop := ∀ i (hi : i < xs.length), i < k → LineOk l (xs[i]'hi)
theorem LinesTo.zero (l : List IT) (xs : List BL) : LinesTo l xs 0 := fun _ _ h => absurd h (Nat.not_lt_zero _)
theorem LinesTo.succ {l : List IT} {xs : List BL} {k : Nat} (h : LinesTo l xs k) (hk : k < xs.length) (h1 : LineOk l (xs[k]'hk)) : LinesTo l xs (k + 1) := fun i hi hlt => by
 by_cases e : i = k
 · subst e; exact h1
 · exact h i hi (by omega)
/-- All lines stand by themselves. -/
def LinesOk (l : List IT) (xs : List BL) : Prop := CatOk l ∧ xs.length ≤ 24 ∧ LinesTo l xs xs.length
open Classical in
noncomputable def linesB (l : List IT) (xs : List BL) : Bool := decide (LinesOk l xs)
open Classical in
theorem linesB_yes {l : List IT} {xs : List BL} (h : LinesOk l xs) : linesB l xs = true := decide_eq_true h
open Classical in
theorem linesB_no {l : List IT} {xs : List BL} (h : ¬LinesOk l xs) : linesB l xs = false := decide_eq_false h
open Classical in
theorem linesB_iff {l : List IT} {xs : List BL} : linesB l xs = true ↔ LinesOk l xs := by unfold linesB; exact decide_eq_true_iff
/-- Bills of material. -/
def BillsOk (l : List IT) (xs : List BL) : Prop := LinesOk l xs ∧ ∃ u, Sol (pairs l xs) u
open Classical in
noncomputable def billsB (l : List IT) (xs : List BL) : Bool := decide (BillsOk l xs)
open Classical in
theorem billsB_yes {l : List IT} {xs : List BL} (h : BillsOk l xs) : billsB l xs = true := decide_eq_true h
open Classical in
theorem billsB_no {l : List IT} {xs : List BL} (h : ¬BillsOk l xs) : billsB l xs = false := decide_eq_false h
open Classical in
theorem billsB_iff {l : List IT} {xs : List BL} : billsB l xs = true ↔ BillsOk l xs := by unfold billsB; exact decide_eq_true_iff
theorem LineOk.inb {l : List IT} {x : BL} (h : LineOk l x) : (pairOf l x).1 < l.length ∧ (pairOf l x).2 < l.length := by
 obtain ⟨h0, h1, _⟩ := h
 unfold pairOf
 constructor
 · rcases fi_cases l x.par with ⟨k, hk, e⟩ | e
   · simp only; rw [e]; simpa using hk
   · omega
 · rcases fi_cases l x.prt with ⟨k, hk, e⟩ | e
   · simp only; rw [e]; simpa using hk
   · omega
theorem LineOk.fi {l : List IT} {x : BL} (h : LineOk l x) : fiI l x.par = ((pairOf l x).1 : Int) ∧ fiI l x.prt = ((pairOf l x).2 : Int) := by
 obtain ⟨h0, h1, _⟩ := h
 unfold pairOf
 constructor
 · simp only; omega
 · simp only; omega
theorem LinesOk.inb {l : List IT} {xs : List BL} (h : LinesOk l xs) : Inb l.length (pairs l xs) := fun p hp => by
 obtain ⟨x, hx, he⟩ := List.mem_map.1 hp
 obtain ⟨k, hk, hxk⟩ := List.getElem_of_mem hx
 rw [← he, ← hxk]
 exact (h.2.2 k hk hk).inb
/-- What the levels are: the least labelling; none where there are no bills. -/
def LevOut (l : List IT) (xs : List BL) (v : List Nat) : Prop := (BillsOk l xs ∧ LevOk l.length (pairs l xs) v) ∨ (¬BillsOk l xs ∧ v = [])
theorem LevOut.eq {l : List IT} {xs : List BL} {v v' : List Nat} (h : LevOut l xs v) (h' : LevOut l xs v') : v = v' := by
 rcases h with ⟨h0, h⟩ | ⟨h0, rfl⟩
 · rcases h' with ⟨h1, h'⟩ | ⟨h1, rfl⟩
   · exact h.eq h'
   · exact absurd h0 h1
 · rcases h' with ⟨h1, h'⟩ | ⟨h1, rfl⟩
   · exact absurd h1 h0
   · rfl
/-- The levels found, as values. -/
def cellsLv (v : List Nat) : List Value := v.map (fun n : Nat => Value.int .i64 ((n : Nat) : Int))
theorem cellsLv_length (v : List Nat) : (cellsLv v).length = v.length := by simp [cellsLv]
theorem cellsLv_eq (v : List Nat) : cellsLv v = (v.map (fun n : Nat => ((n : Nat) : Int))).map (Value.int .i64) := by simp [cellsLv]
theorem cellsLv_get {v : List Nat} {i : Nat} (h : i < v.length) : (cellsLv v)[i]? = some (.int .i64 ((lv v i : Nat) : Int)) := by
 unfold cellsLv
 rw [List.getElem?_map, List.getElem?_eq_getElem h, lv_get h]; rfl
theorem cellsLv_set (v : List Nat) (b x : Nat) : (cellsLv v).set b (.int .i64 (x : Int)) = cellsLv (v.set b x) := by
 unfold cellsLv
 rw [List.map_set]
theorem cellsLv_zeros (n : Nat) : List.replicate n (Value.int .i64 0) = cellsLv (List.replicate n 0) := by
 unfold cellsLv
 rw [List.map_replicate]; rfl
/-- A line is in force. -/
noncomputable def onB (x : BL) (day : Int) (ps : List PK) : Bool := decide (x.fr ≤ day) && decide (day ≤ x.un) && holdsB x.whn ps
/-- The lines of a parent that are in force. -/
noncomputable def ofB (par : ByteArray) (day : Int) (ps : List PK) (x : BL) : Bool := decide (x.par = par) && onB x day ps
noncomputable def linesR (l : List IT) (xs : List BL) (par : ByteArray) (day : Int) (ps : List PK) : List BL := if billsB l xs then xs.filter (ofB par day ps) else []
/-- A line of the parent in force that has the part. -/
noncomputable def hasB (par prt : ByteArray) (day : Int) (ps : List PK) (x : BL) : Bool := decide (x.par = par) && decide (x.prt = prt) && onB x day ps
noncomputable def parB (xs : List BL) (prt : ByteArray) (day : Int) (ps : List PK) (r : IT) : Bool := xs.any (hasB r.code prt day ps)
noncomputable def parentsR (l : List IT) (xs : List BL) (prt : ByteArray) (day : Int) (ps : List PK) : List ByteArray := if billsB l xs then (l.filter (parB xs prt day ps)).map IT.code else []
theorem filter_take_succ {α : Type} {p : α → Bool} {xs : List α} {k : Nat} (hk : k < xs.length) : (xs.take (k + 1)).filter p = (xs.take k).filter p ++ (if p (xs[k]'hk) then [xs[k]'hk] else []) := by
 rw [List.take_succ_eq_append_getElem hk, List.filter_append]
 congr 1
 simp [List.filter_cons]
theorem any_take_succ {α : Type} {p : α → Bool} {xs : List α} {k : Nat} (hk : k < xs.length) : (xs.take (k + 1)).any p = ((xs.take k).any p || p (xs[k]'hk)) := by
 rw [List.take_succ_eq_append_getElem hk, List.any_append]
 simp
end Go.Proofs.YtmnncinpepeocaaGreat
