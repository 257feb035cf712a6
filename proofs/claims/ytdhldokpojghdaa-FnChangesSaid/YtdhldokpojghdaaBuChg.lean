import Derived.Test.YtdhldokpojghdaaBLN
import Derived.Test.YtdhldokpojghdaaBuCat
import Derived.Test.YtdhldokpojghdaaBuCond
import Derived.Test.YtdhldokpojghdaaBuA
import Derived.Lib.Hide
import Derived.Test.YtdhldokpojghdaaBuRec
namespace Go.Proofs.Ytdhldokpojghdaa
open Go.RowKit

def kindAt (l : List IT) (k : Nat) : Int := match l[k]? with
  | some r => r.kind
  | none => 0
theorem kindAt_get {l : List IT} {k : Nat} (hk : k < l.length) : kindAt l k = (l[k]'hk).kind := by
  unfold kindAt; rw [List.getElem?_eq_getElem hk]
/-- An item is found, or it isn't. -/
theorem fi_cases (l : List IT) (s : ByteArray) : (∃ k, k < l.length ∧ fiI l s = (k : Int)) ∨ fiI l s = -1 := by
  rcases fnd_cases (l.map IT.code) s with ⟨k, hk, _, h, _⟩ | h
  · exact Or.inl ⟨k, by simpa using hk, h⟩
  · exact Or.inr h.1
/-- A line that stands by itself. -/
def LineOk (l : List IT) (x : BL) : Prop :=
  0 ≤ fiI l x.par ∧ 0 ≤ fiI l x.prt ∧ ¬kindAt l (fiI l x.par).toNat = 0 ∧ 1 ≤ x.qty ∧ x.qty ≤ 1000 ∧ 0 ≤ x.fr ∧ x.fr ≤ x.un ∧ x.un ≤ 999 ∧ condB x.whn = true
open Classical in
noncomputable def lineB (l : List IT) (x : BL) : Bool := decide (LineOk l x)
open Classical in
theorem lineB_yes {l : List IT} {x : BL} (h : LineOk l x) : lineB l x = true := decide_eq_true h
open Classical in
theorem lineB_no {l : List IT} {x : BL} (h : ¬LineOk l x) : lineB l x = false := decide_eq_false h
open Classical in
theorem lineB_iff {l : List IT} {x : BL} : lineB l x = true ↔ LineOk l x := by unfold lineB; exact decide_eq_true_iff
/-- A line as a link between numbers of items. -/
noncomputable def pairOf (l : List IT) (x : BL) : Lk := ((fiI l x.par).toNat, (fiI l x.prt).toNat)
noncomputable def pairs (l : List IT) (xs : List BL) : List Lk := xs.map (pairOf l)
theorem pairs_length (l : List IT) (xs : List BL) : (pairs l xs).length = xs.length := by simp [pairs]
theorem pairs_get {l : List IT} {xs : List BL} {k : Nat} (hk : k < xs.length) : (pairs l xs)[k]'(by rw [pairs_length]; exact hk) = pairOf l (xs[k]'hk) := by simp [pairs]
/-- The first k lines stand by themselves. -/
def LinesTo (l : List IT) (xs : List BL) (k : Nat) : Prop := ∀ i (hi : i < xs.length), i < k → LineOk l (xs[i]'hi)
theorem LinesTo.zero (l : List IT) (xs : List BL) : LinesTo l xs 0 := fun _ _ h => absurd h (Nat.not_lt_zero _)
theorem LinesTo.succ {l : List IT} {xs : List BL} {k : Nat} (h : LinesTo l xs k) (hk : k < xs.length) (h1 : LineOk l (xs[k]'hk)) : LinesTo l xs (k + 1) := fun i hi hlt => by
  by_cases e : i = k
  · subst e; exact h1
  · exact h i hi (by omega)
/-- All lines stand by themselves. -/
def LinesOk (l : List IT) (xs : List BL) : Prop := CatOk l ∧ xs.length ≤ 24 ∧ LinesTo l xs xs.length
open Classical in
noncomputable def linesB (l : List IT) (xs : List BL) : Bool := decide (LinesOk l xs)
open Classical in
theorem linesB_yes {l : List IT} {xs : List BL} (h : LinesOk l xs) : linesB l xs = true := decide_eq_true h
open Classical in
theorem linesB_no {l : List IT} {xs : List BL} (h : ¬LinesOk l xs) : linesB l xs = false := decide_eq_false h
open Classical in
theorem linesB_iff {l : List IT} {xs : List BL} : linesB l xs = true ↔ LinesOk l xs := by unfold linesB; exact decide_eq_true_iff
/-- Bills of material. -/
def BillsOk (l : List IT) (xs : List BL) : Prop := LinesOk l xs ∧ ∃ u, Sol (pairs l xs) u
open Classical in
noncomputable def billsB (l : List IT) (xs : List BL) : Bool := decide (BillsOk l xs)
open Classical in
theorem billsB_yes {l : List IT} {xs : List BL} (h : BillsOk l xs) : billsB l xs = true := decide_eq_true h
open Classical in
theorem billsB_no {l : List IT} {xs : List BL} (h : ¬BillsOk l xs) : billsB l xs = false := decide_eq_false h
open Classical in
theorem billsB_iff {l : List IT} {xs : List BL} : billsB l xs = true ↔ BillsOk l xs := by unfold billsB; exact decide_eq_true_iff
theorem LineOk.inb {l : List IT} {x : BL} (h : LineOk l x) : (pairOf l x).1 < l.length ∧ (pairOf l x).2 < l.length := by
  obtain ⟨h0, h1, _⟩ := h
  unfold pairOf
  constructor
  · rcases fi_cases l x.par with ⟨k, hk, e⟩ | e
    · simp only; rw [e]; simpa using hk
    · omega
  · rcases fi_cases l x.prt with ⟨k, hk, e⟩ | e
    · simp only; rw [e]; simpa using hk
    · omega
theorem LineOk.fi {l : List IT} {x : BL} (h : LineOk l x) : fiI l x.par = ((pairOf l x).1 : Int) ∧ fiI l x.prt = ((pairOf l x).2 : Int) := by
  obtain ⟨h0, h1, _⟩ := h
  unfold pairOf
  constructor
  · simp only; omega
  · simp only; omega
theorem LinesOk.inb {l : List IT} {xs : List BL} (h : LinesOk l xs) : Inb l.length (pairs l xs) := fun p hp => by
  obtain ⟨x, hx, he⟩ := List.mem_map.1 hp
  obtain ⟨k, hk, hxk⟩ := List.getElem_of_mem hx
  rw [← he, ← hxk]
  exact (h.2.2 k hk hk).inb
/-- What the levels are: the least labelling; none where there are no bills. -/
def LevOut (l : List IT) (xs : List BL) (v : List Nat) : Prop := (BillsOk l xs ∧ LevOk l.length (pairs l xs) v) ∨ (¬BillsOk l xs ∧ v = [])
theorem LevOut.eq {l : List IT} {xs : List BL} {v v' : List Nat} (h : LevOut l xs v) (h' : LevOut l xs v') : v = v' := by
  rcases h with ⟨h0, h⟩ | ⟨h0, rfl⟩
  · rcases h' with ⟨h1, h'⟩ | ⟨h1, rfl⟩
    · exact h.eq h'
    · exact absurd h0 h1
  · rcases h' with ⟨h1, h'⟩ | ⟨h1, rfl⟩
    · exact absurd h1 h0
    · rfl
/-- The levels found, as values. -/
def cellsLv (v : List Nat) : List Value := v.map (fun n : Nat => Value.int .i64 ((n : Nat) : Int))
theorem cellsLv_length (v : List Nat) : (cellsLv v).length = v.length := by simp [cellsLv]
theorem cellsLv_eq (v : List Nat) : cellsLv v = (v.map (fun n : Nat => ((n : Nat) : Int))).map (Value.int .i64) := by simp [cellsLv]
theorem cellsLv_get {v : List Nat} {i : Nat} (h : i < v.length) : (cellsLv v)[i]? = some (.int .i64 ((lv v i : Nat) : Int)) := by
  unfold cellsLv
  rw [List.getElem?_map, List.getElem?_eq_getElem h, lv_get h]; rfl
theorem cellsLv_set (v : List Nat) (b x : Nat) : (cellsLv v).set b (.int .i64 (x : Int)) = cellsLv (v.set b x) := by
  unfold cellsLv
  rw [List.map_set]
theorem cellsLv_zeros (n : Nat) : List.replicate n (Value.int .i64 0) = cellsLv (List.replicate n 0) := by
  unfold cellsLv
  rw [List.map_replicate]; rfl
/-- A line is in force. -/
noncomputable def onB (x : BL) (day : Int) (ps : List PK) : Bool := decide (x.fr ≤ day) && decide (day ≤ x.un) && holdsB x.whn ps
/-- The lines of a parent that are in force. -/
noncomputable def ofB (par : ByteArray) (day : Int) (ps : List PK) (x : BL) : Bool := decide (x.par = par) && onB x day ps
noncomputable def linesR (l : List IT) (xs : List BL) (par : ByteArray) (day : Int) (ps : List PK) : List BL := if billsB l xs then xs.filter (ofB par day ps) else []
/-- A line of the parent in force that has the part. -/
noncomputable def hasB (par prt : ByteArray) (day : Int) (ps : List PK) (x : BL) : Bool := decide (x.par = par) && decide (x.prt = prt) && onB x day ps
noncomputable def parB (xs : List BL) (prt : ByteArray) (day : Int) (ps : List PK) (r : IT) : Bool := xs.any (hasB r.code prt day ps)
noncomputable def parentsR (l : List IT) (xs : List BL) (prt : ByteArray) (day : Int) (ps : List PK) : List ByteArray := if billsB l xs then (l.filter (parB xs prt day ps)).map IT.code else []
theorem filter_take_succ {α : Type} {p : α → Bool} {xs : List α} {k : Nat} (hk : k < xs.length) : (xs.take (k + 1)).filter p = (xs.take k).filter p ++ (if p (xs[k]'hk) then [xs[k]'hk] else []) := by
  rw [List.take_succ_eq_append_getElem hk, List.filter_append]
  congr 1
  simp [List.filter_cons]
theorem any_take_succ {α : Type} {p : α → Bool} {xs : List α} {k : Nat} (hk : k < xs.length) : (xs.take (k + 1)).any p = ((xs.take k).any p || p (xs[k]'hk)) := by
  rw [List.take_succ_eq_append_getElem hk, List.any_append]
  simp
end Go.Proofs.Ytdhldokpojghdaa

namespace Go.Proofs.Ytdhldokpojghdaa
open Go.RowKit

theorem mem_bills {l : List IT} {xs : List BL} (h : BillsOk l xs) {x : BL} (hx : x ∈ xs) : LineOk l x := by
  obtain ⟨k, hk, rfl⟩ := List.getElem_of_mem hx
  exact h.1.2.2 k hk hk
theorem lines_of_mem {l : List IT} {xs : List BL} (h : ∀ x, x ∈ xs → LineOk l x) : LinesTo l xs xs.length := fun _ hi _ => h _ (List.getElem_mem hi)
theorem fi_pos_len {l : List IT} {s : ByteArray} (h : 0 ≤ fiI l s) : (fiI l s).toNat < l.length := by
  rcases fi_cases l s with ⟨k, hk, e⟩ | e
  · rw [e]; simpa using hk
  · omega
/-- A change that can be applied. -/
def ChOk (l : List IT) (x : CH) : Prop := CatOk l ∧ (0 ≤ x.dy ∧ x.dy ≤ 999) ∧ 0 ≤ fiI l x.pa ∧ 0 ≤ fiI l x.ou ∧ ((x.inn = ByteArray.empty ∧ x.qy = 0) ∨ (0 ≤ fiI l x.inn ∧ 0 ≤ x.qy ∧ x.qy ≤ 1000))
open Classical in
noncomputable def chB (l : List IT) (x : CH) : Bool := decide (ChOk l x)
open Classical in
theorem chB_yes {l : List IT} {x : CH} (h : ChOk l x) : chB l x = true := decide_eq_true h
open Classical in
theorem chB_no {l : List IT} {x : CH} (h : ¬ChOk l x) : chB l x = false := decide_eq_false h
open Classical in
theorem chB_iff {l : List IT} {x : CH} : chB l x = true ↔ ChOk l x := by unfold chB; exact decide_eq_true_iff
/-- The change meets the line. -/
def Hit (x : CH) (y : BL) : Prop := y.par = x.pa ∧ y.prt = x.ou ∧ x.dy ≤ y.un
/-- The line until the day before. -/
def aft1 (x : CH) (y : BL) : List BL := if y.fr < x.dy then [{ y with un := x.dy - 1 }] else []
/-- The line that goes on. -/
def aftL (x : CH) (y : BL) : BL := { y with fr := if y.fr < x.dy then x.dy else y.fr, prt := x.inn, qty := if 0 < x.qy then x.qy else y.qty }
open Classical in
noncomputable def aft2 (x : CH) (y : BL) : List BL := if x.inn = ByteArray.empty then [] else [aftL x y]
open Classical in
noncomputable def aft (x : CH) (y : BL) : List BL := if Hit x y then aft1 x y ++ aft2 x y else [y]
/-- The lines after a change. -/
noncomputable def chgL (x : CH) (ys : List BL) : List BL := ys.flatMap (aft x)
open Classical in
theorem aft_no {x : CH} {y : BL} (h : ¬Hit x y) : aft x y = [y] := if_neg h
open Classical in
theorem aft_yes {x : CH} {y : BL} (h : Hit x y) : aft x y = aft1 x y ++ aft2 x y := if_pos h
theorem aft1_yes {x : CH} {y : BL} (h : y.fr < x.dy) : aft1 x y = [{ y with un := x.dy - 1 }] := if_pos h
theorem aft1_no {x : CH} {y : BL} (h : ¬y.fr < x.dy) : aft1 x y = [] := if_neg h
open Classical in
theorem aft2_no {x : CH} {y : BL} (h : x.inn = ByteArray.empty) : aft2 x y = [] := if_pos h
open Classical in
theorem aft2_yes {x : CH} {y : BL} (h : ¬x.inn = ByteArray.empty) : aft2 x y = [aftL x y] := if_neg h
theorem aft_len (x : CH) (y : BL) : (aft x y).length ≤ 2 := by
  by_cases h : Hit x y
  · rw [aft_yes h, List.length_append]
    have h1 : (aft1 x y).length ≤ 1 := by unfold aft1; split <;> simp
    have h2 : (aft2 x y).length ≤ 1 := by unfold aft2; split <;> simp
    omega
  · rw [aft_no h]; simp
theorem chgL_take {x : CH} {ys : List BL} {k : Nat} (hk : k < ys.length) : chgL x (ys.take (k + 1)) = chgL x (ys.take k) ++ aft x (ys[k]'hk) := by
  unfold chgL
  rw [List.take_succ_eq_append_getElem hk, List.flatMap_append]
  simp
theorem chgL_len (x : CH) : ∀ ys : List BL, (chgL x ys).length ≤ 2 * ys.length
  | [] => by simp [chgL]
  | y :: ys => by
    have h1 := chgL_len x ys
    have h2 := aft_len x y
    have h3 : chgL x (y :: ys) = aft x y ++ chgL x ys := rfl
    rw [h3, List.length_append, List.length_cons]; omega
/-- What lines after a change are: the parent and the condition stay, the part stays or is the new one. -/
theorem aft_mem {x : CH} {y z : BL} (h : z ∈ aft x y) : z.par = y.par ∧ z.whn = y.whn ∧ (z.prt = y.prt ∨ z.prt = x.inn) := by
  by_cases hh : Hit x y
  · rw [aft_yes hh] at h
    rcases List.mem_append.1 h with h | h
    · unfold aft1 at h
      split at h
      · simp at h; subst h; exact ⟨rfl, rfl, Or.inl rfl⟩
      · simp at h
    · unfold aft2 at h
      split at h
      · simp at h
      · simp at h; subst h; exact ⟨rfl, rfl, Or.inr rfl⟩
  · rw [aft_no hh] at h
    simp at h; subst h; exact ⟨rfl, rfl, Or.inl rfl⟩
theorem chgL_sz {x : CH} {ys : List BL} (hx : CH.Sz x) (hs : BX.Sz ys) (hl : 2 * ys.length ≤ maxLen) : BX.Sz (chgL x ys) := by
  refine ⟨Nat.le_trans (chgL_len x ys) hl, fun z hz => ?_⟩
  obtain ⟨y, hy, hz⟩ := List.mem_flatMap.1 hz
  obtain ⟨h1, h2, h3⟩ := aft_mem hz
  have h4 := hs.2 y hy
  refine ⟨by rw [h1]; exact h4.1, ?_, by rw [h2]; exact h4.2.2⟩
  rcases h3 with h3 | h3
  · rw [h3]; exact h4.2.1
  · rw [h3]; exact hx.2.2
theorem chgL_sm {x : CH} {ys : List BL} (hs : BX.Sm ys) (hl : ys.length ≤ 24) : BX.Sm (chgL x ys) := by
  refine ⟨by have := chgL_len x ys; omega, fun z hz => ?_⟩
  obtain ⟨y, hy, hz⟩ := List.mem_flatMap.1 hz
  have h2 := (aft_mem hz).2.1
  have h4 := hs.2 y hy
  unfold BL.Sm at h4 ⊢
  rw [h2]; exact h4
/-- The change applies. -/
def ApOk (l : List IT) (ys : List BL) (x : CH) : Prop := BillsOk l ys ∧ ChOk l x ∧ BillsOk l (chgL x ys)
open Classical in
/-- What a change makes of bills. -/
noncomputable def apO (l : List IT) (ys : List BL) (x : CH) : Option (List BL) := if ApOk l ys x then some (chgL x ys) else none
open Classical in
theorem apO_yes {l : List IT} {ys : List BL} {x : CH} (h : ApOk l ys x) : apO l ys x = some (chgL x ys) := if_pos h
open Classical in
theorem apO_no {l : List IT} {ys : List BL} {x : CH} (h : ¬ApOk l ys x) : apO l ys x = none := if_neg h
theorem apO_some {l : List IT} {ys zs : List BL} {x : CH} (h : apO l ys x = some zs) : ApOk l ys x ∧ zs = chgL x ys := by
  by_cases h1 : ApOk l ys x
  · rw [apO_yes h1] at h; exact ⟨h1, (Option.some.inj h).symm⟩
  · rw [apO_no h1] at h; cases h
/-- Changes one after the other. -/
noncomputable def foldO (l : List IT) : List CH → List BL → Option (List BL)
  | [], ys => some ys
  | x :: cs, ys => match apO l ys x with
    | some zs => foldO l cs zs
    | none => none
theorem foldO_append (l : List IT) : ∀ (cs ds : List CH) (ys : List BL), foldO l (cs ++ ds) ys = (match foldO l cs ys with | some zs => foldO l ds zs | none => none)
  | [], ds, ys => rfl
  | x :: cs, ds, ys => by
    show (match apO l ys x with | some zs => foldO l (cs ++ ds) zs | none => none) = (match (match apO l ys x with | some zs => foldO l cs zs | none => none) with | some zs => foldO l ds zs | none => none)
    cases apO l ys x with
    | none => rfl
    | some zs => exact foldO_append l cs ds zs
theorem foldO_bills (l : List IT) : ∀ (cs : List CH) (ys zs : List BL), BillsOk l ys → foldO l cs ys = some zs → BillsOk l zs
  | [], ys, zs, h, e => by
    have : ys = zs := Option.some.inj e
    rw [← this]; exact h
  | x :: cs, ys, zs, h, e => by
    have e2 : (match apO l ys x with | some zs => foldO l cs zs | none => none) = some zs := e
    cases h1 : apO l ys x with
    | none => rw [h1] at e2; cases e2
    | some us =>
      rw [h1] at e2
      obtain ⟨h2, h3⟩ := apO_some h1
      subst h3
      exact foldO_bills l cs _ zs h2.2.2 e2
theorem foldO_take {l : List IT} {cs : List CH} {ys : List BL} {k : Nat} (hk : k < cs.length) : foldO l (cs.take (k + 1)) ys = (match foldO l (cs.take k) ys with | some zs => apO l zs (cs[k]'hk) | none => none) := by
  rw [List.take_succ_eq_append_getElem hk, foldO_append]
  cases foldO l (cs.take k) ys with
  | none => rfl
  | some zs =>
    show (match apO l zs (cs[k]'hk) with | some us => foldO l [] us | none => none) = apO l zs (cs[k]'hk)
    cases apO l zs (cs[k]'hk) <;> rfl
theorem foldO_none {l : List IT} {cs : List CH} {ys : List BL} {k : Nat} (h : foldO l (cs.take k) ys = none) : foldO l cs ys = none := by
  have h1 : cs = cs.take k ++ cs.drop k := (List.take_append_drop k cs).symm
  rw [h1, foldO_append, h]
open Classical in
noncomputable def apsO (l : List IT) (ys : List BL) (cs : List CH) : Option (List BL) := if BillsOk l ys ∧ cs.length ≤ 8 then foldO l cs ys else none
open Classical in
theorem apsO_yes {l : List IT} {ys : List BL} {cs : List CH} (h : BillsOk l ys) (h2 : cs.length ≤ 8) : apsO l ys cs = foldO l cs ys := if_pos ⟨h, h2⟩
open Classical in
theorem apsO_no {l : List IT} {ys : List BL} {cs : List CH} (h : ¬(BillsOk l ys ∧ cs.length ≤ 8)) : apsO l ys cs = none := if_neg h
/-- A line on one day alone. -/
def dayL (d : Int) (x : BL) : BL := { x with fr := d, un := d }
def isOn (d : Int) (x : BL) : Bool := decide (x.fr ≤ d) && decide (d ≤ x.un)
/-- The lines of a day. -/
def onD (d : Int) (ys : List BL) : List BL := (ys.filter (isOn d)).map (dayL d)
open Classical in
noncomputable def billsOnR (l : List IT) (ys : List BL) (d : Int) : List BL := if billsB l ys then onD d ys else []
theorem billsOnR_yes {l : List IT} {ys : List BL} {d : Int} (h : billsB l ys = true) : billsOnR l ys d = onD d ys := if_pos h
theorem billsOnR_no {l : List IT} {ys : List BL} {d : Int} (h : billsB l ys = false) : billsOnR l ys d = [] := if_neg (by rw [h]; decide)
theorem isOn_iff {d : Int} {x : BL} : isOn d x = true ↔ x.fr ≤ d ∧ d ≤ x.un := by unfold isOn; simp
theorem isOn_no {d : Int} {x : BL} : isOn d x = false ↔ ¬(x.fr ≤ d ∧ d ≤ x.un) := by
  rw [← isOn_iff]; simp
theorem onD_take {d : Int} {ys : List BL} {k : Nat} (hk : k < ys.length) : onD d (ys.take (k + 1)) = onD d (ys.take k) ++ (if isOn d (ys[k]'hk) then [dayL d (ys[k]'hk)] else []) := by
  unfold onD
  rw [filter_take_succ hk, List.map_append]
  split <;> rfl
theorem onD_append (d : Int) (xs ys : List BL) : onD d (xs ++ ys) = onD d xs ++ onD d ys := by
  unfold onD; rw [List.filter_append, List.map_append]
theorem onD_len (d : Int) (ys : List BL) : (onD d ys).length ≤ ys.length := by
  unfold onD; rw [List.length_map]; exact List.length_filter_le _ _
theorem onD_mem {d : Int} {ys : List BL} {z : BL} (h : z ∈ onD d ys) : ∃ y, y ∈ ys ∧ z = dayL d y := by
  obtain ⟨y, hy, e⟩ := List.mem_map.1 h
  exact ⟨y, (List.mem_filter.1 hy).1, e.symm⟩
theorem onD_sz {d : Int} {ys : List BL} (h : BX.Sz ys) : BX.Sz (onD d ys) := ⟨Nat.le_trans (onD_len _ _) h.1, fun z hz => by
  obtain ⟨y, hy, rfl⟩ := onD_mem hz
  exact h.2 y hy⟩
theorem onD_sm {d : Int} {ys : List BL} (h : BX.Sm ys) : BX.Sm (onD d ys) := ⟨Nat.le_trans (onD_len _ _) h.1, fun z hz => by
  obtain ⟨y, hy, rfl⟩ := onD_mem hz
  exact h.2 y hy⟩
/-- Two lines are one. -/
def Joins (p x : BL) : Prop := p.par = x.par ∧ p.prt = x.prt ∧ p.qty = x.qty ∧ p.un + 1 = x.fr ∧ p.whn = x.whn
open Classical in
/-- One line more, joined with the last one if they are one. -/
noncomputable def tidyS (acc : List BL) (x : BL) : List BL := match acc.getLast? with
  | some p => if Joins p x then acc.dropLast ++ [{ p with un := x.un }] else acc ++ [x]
  | none => acc ++ [x]
noncomputable def tidyL (ys : List BL) : List BL := ys.foldl tidyS []
noncomputable def tidyR (l : List IT) (ys : List BL) : List BL := if billsB l ys then tidyL ys else []
theorem tidyR_yes {l : List IT} {ys : List BL} (h : billsB l ys = true) : tidyR l ys = tidyL ys := if_pos h
theorem tidyR_no {l : List IT} {ys : List BL} (h : billsB l ys = false) : tidyR l ys = [] := if_neg (by rw [h]; decide)
theorem tidyS_nil (x : BL) : tidyS [] x = [x] := rfl
open Classical in
theorem tidyS_yes {acc : List BL} {p x : BL} (h : Joins p x) : tidyS (acc ++ [p]) x = acc ++ [{ p with un := x.un }] := by
  unfold tidyS
  rw [List.getLast?_concat]
  show (if Joins p x then _ else _) = _
  rw [if_pos h, List.dropLast_concat]
open Classical in
theorem tidyS_no {acc : List BL} {p x : BL} (h : ¬Joins p x) : tidyS (acc ++ [p]) x = acc ++ [p] ++ [x] := by
  unfold tidyS
  rw [List.getLast?_concat]
  show (if Joins p x then _ else _) = _
  rw [if_neg h]
theorem snoc_cases (acc : List BL) : acc = [] ∨ ∃ ae p, acc = ae ++ [p] := by
  rcases List.eq_nil_or_concat acc with h | ⟨ae, p, h⟩
  · exact Or.inl h
  · exact Or.inr ⟨ae, p, by rw [h]; simp⟩
theorem tidyL_take {ys : List BL} {k : Nat} (hk : k < ys.length) : tidyL (ys.take (k + 1)) = tidyS (tidyL (ys.take k)) (ys[k]'hk) := by
  unfold tidyL
  rw [List.take_succ_eq_append_getElem hk, List.foldl_append]; rfl
theorem tidyS_len (acc : List BL) (x : BL) : (tidyS acc x).length ≤ acc.length + 1 := by
  rcases snoc_cases acc with rfl | ⟨ae, p, rfl⟩
  · rw [tidyS_nil]; simp
  · by_cases h : Joins p x
    · rw [tidyS_yes h]; simp
    · rw [tidyS_no h]; simp
theorem foldS_len : ∀ (ys acc : List BL), (ys.foldl tidyS acc).length ≤ acc.length + ys.length
  | [], acc => by simp
  | y :: ys, acc => by
    have h1 := foldS_len ys (tidyS acc y)
    have h2 := tidyS_len acc y
    rw [List.foldl_cons, List.length_cons]; omega
theorem tidyL_len (ys : List BL) : (tidyL ys).length ≤ ys.length := by
  have := foldS_len ys []
  simpa [tidyL] using this
/-- What holds of all lines and does not speak of when they end holds of tidied ones. -/
theorem tidyS_all {P : BL → Prop} (hP : ∀ (p : BL) (u : Int), P p → P { p with un := u }) {acc : List BL} {x : BL} (h : ∀ y, y ∈ acc → P y) (hx : P x) : ∀ y, y ∈ tidyS acc x → P y := by
  rcases snoc_cases acc with rfl | ⟨ae, p, rfl⟩
  · rw [tidyS_nil]; intro y hy; simp at hy; rw [hy]; exact hx
  · by_cases h1 : Joins p x
    · rw [tidyS_yes h1]
      intro y hy
      rcases List.mem_append.1 hy with h2 | h2
      · exact h y (List.mem_append_left _ h2)
      · simp at h2; rw [h2]; exact hP p _ (h p (by simp))
    · rw [tidyS_no h1]
      intro y hy
      rcases List.mem_append.1 hy with h2 | h2
      · exact h y h2
      · simp at h2; rw [h2]; exact hx
theorem tidyL_all {P : BL → Prop} (hP : ∀ (p : BL) (u : Int), P p → P { p with un := u }) {ys : List BL} (h : ∀ y, y ∈ ys → P y) : ∀ y, y ∈ tidyL ys → P y := by
  have key : ∀ (ys acc : List BL), (∀ y, y ∈ acc → P y) → (∀ y, y ∈ ys → P y) → ∀ y, y ∈ ys.foldl tidyS acc → P y := by
    intro ys
    induction ys with
    | nil => intro acc h1 _; exact h1
    | cons y ys ih =>
      intro acc h1 h2
      rw [List.foldl_cons]
      exact ih _ (tidyS_all hP h1 (h2 y (by simp))) (fun z hz => h2 z (List.mem_cons_of_mem _ hz))
  exact key ys [] (fun y hy => by cases hy) h
theorem tidyL_sz {ys : List BL} (h : BX.Sz ys) : BX.Sz (tidyL ys) := ⟨Nat.le_trans (tidyL_len _) h.1, tidyL_all (P := BL.Sz) (fun _ _ h => h) h.2⟩
theorem tidyL_sm {ys : List BL} (h : BX.Sm ys) : BX.Sm (tidyL ys) := ⟨Nat.le_trans (tidyL_len _) h.1, tidyL_all (P := BL.Sm) (fun _ _ h => h) h.2⟩
end Go.Proofs.Ytdhldokpojghdaa

namespace Go.Proofs.Ytdhldokpojghdaa
open Go.RowKit

open Classical in
/-- What a change makes of a line on a day. -/
noncomputable def wantY (x : CH) (d : Int) (y : BL) : BL := if x.dy ≤ d ∧ y.par = x.pa ∧ y.prt = x.ou then { y with prt := x.inn, qty := if 0 < x.qy then x.qy else y.qty } else y
open Classical in
noncomputable def hasPrt (y : BL) : Bool := decide (¬y.prt = ByteArray.empty)
noncomputable def wantL (x : CH) (d : Int) (ys : List BL) : List BL := (ys.map (wantY x d)).filter hasPrt
open Classical in
theorem wantY_yes {x : CH} {d : Int} {y : BL} (h : x.dy ≤ d ∧ y.par = x.pa ∧ y.prt = x.ou) : wantY x d y = { y with prt := x.inn, qty := if 0 < x.qy then x.qy else y.qty } := if_pos h
open Classical in
theorem wantY_no {x : CH} {d : Int} {y : BL} (h : ¬(x.dy ≤ d ∧ y.par = x.pa ∧ y.prt = x.ou)) : wantY x d y = y := if_neg h
open Classical in
theorem hasPrt_yes {y : BL} (h : ¬y.prt = ByteArray.empty) : hasPrt y = true := decide_eq_true h
open Classical in
theorem hasPrt_no {y : BL} (h : y.prt = ByteArray.empty) : hasPrt y = false := decide_eq_false (fun h2 => h2 h)
theorem wantL_take {x : CH} {d : Int} {ys : List BL} {k : Nat} (hk : k < ys.length) : wantL x d (ys.take (k + 1)) = wantL x d (ys.take k) ++ (if hasPrt (wantY x d (ys[k]'hk)) then [wantY x d (ys[k]'hk)] else []) := by
  unfold wantL
  rw [List.take_succ_eq_append_getElem hk, List.map_append, List.filter_append]
  congr 1
  rw [List.map_cons, List.map_nil, List.filter_cons]
  split <;> rfl
theorem onD_one_yes {d : Int} {y : BL} (h : y.fr ≤ d ∧ d ≤ y.un) : onD d [y] = [dayL d y] := by
  unfold onD; rw [List.filter_cons, if_pos (isOn_iff.2 h)]; rfl
theorem onD_one_no {d : Int} {y : BL} (h : ¬(y.fr ≤ d ∧ d ≤ y.un)) : onD d [y] = [] := by
  unfold onD; rw [List.filter_cons, if_neg (by rw [isOn_iff]; exact h)]; rfl
theorem onD_nil (d : Int) : onD d [] = [] := rfl
/-- One line after a change, on a day. -/
theorem onD_aft {x : CH} {d : Int} {y : BL} (hp : ¬y.prt = ByteArray.empty) : onD d (aft x y) = wantL x d (onD d [y]) := by
  by_cases hon : y.fr ≤ d ∧ d ≤ y.un
  · rw [onD_one_yes hon]
    by_cases hh : Hit x y
    · rw [aft_yes hh, onD_append]
      obtain ⟨h1, h2, h3⟩ := hh
      by_cases hd : x.dy ≤ d
      · have e1 : onD d (aft1 x y) = [] := by
          by_cases hf : y.fr < x.dy
          · rw [aft1_yes hf]; exact onD_one_no (by simp only; omega)
          · rw [aft1_no hf]; rfl
        have hw : wantY x d (dayL d y) = { dayL d y with prt := x.inn, qty := if 0 < x.qy then x.qy else y.qty } := wantY_yes ⟨hd, h1, h2⟩
        rw [e1, List.nil_append]
        show _ = ([wantY x d (dayL d y)]).filter hasPrt
        rw [hw, List.filter_cons]
        by_cases he : x.inn = ByteArray.empty
        · rw [aft2_no he, if_neg (by rw [hasPrt_no (y := { dayL d y with prt := x.inn, qty := if 0 < x.qy then x.qy else y.qty }) he]; decide)]; rfl
        · rw [aft2_yes he, if_pos (hasPrt_yes (y := { dayL d y with prt := x.inn, qty := if 0 < x.qy then x.qy else y.qty }) he)]
          rw [onD_one_yes (by unfold aftL; simp only; split <;> omega)]
          rfl
      · have hf : y.fr < x.dy := by omega
        have e2 : onD d (aft2 x y) = [] := by
          by_cases he : x.inn = ByteArray.empty
          · rw [aft2_no he]; rfl
          · rw [aft2_yes he]; exact onD_one_no (by unfold aftL; simp only; rw [if_pos hf]; omega)
        have hw : wantY x d (dayL d y) = dayL d y := wantY_no (fun h => hd h.1)
        rw [e2, List.append_nil, aft1_yes hf]
        show _ = ([wantY x d (dayL d y)]).filter hasPrt
        rw [hw, List.filter_cons, if_pos (hasPrt_yes (y := dayL d y) hp), onD_one_yes (by simp only; omega)]
        rfl
    · rw [aft_no hh, onD_one_yes hon]
      have hw : wantY x d (dayL d y) = dayL d y := wantY_no (fun ⟨h1, h2, h3⟩ => hh ⟨h2, h3, by omega⟩)
      show _ = ([wantY x d (dayL d y)]).filter hasPrt
      rw [hw, List.filter_cons, if_pos (hasPrt_yes (y := dayL d y) hp)]
      rfl
  · rw [onD_one_no hon]
    by_cases hh : Hit x y
    · rw [aft_yes hh, onD_append]
      obtain ⟨h1, h2, h3⟩ := hh
      have e1 : onD d (aft1 x y) = [] := by
        by_cases hf : y.fr < x.dy
        · rw [aft1_yes hf]; exact onD_one_no (by simp only; omega)
        · rw [aft1_no hf]; rfl
      have e2 : onD d (aft2 x y) = [] := by
        by_cases he : x.inn = ByteArray.empty
        · rw [aft2_no he]; rfl
        · rw [aft2_yes he]; exact onD_one_no (by unfold aftL; simp only; split <;> omega)
      rw [e1, e2]; rfl
    · rw [aft_no hh, onD_one_no hon]; rfl
theorem wantL_append (x : CH) (d : Int) (xs ys : List BL) : wantL x d (xs ++ ys) = wantL x d xs ++ wantL x d ys := by
  unfold wantL; rw [List.map_append, List.filter_append]
/-- The lines after a change, on a day. -/
theorem onD_chg {x : CH} {d : Int} : ∀ {ys : List BL}, (∀ y, y ∈ ys → ¬y.prt = ByteArray.empty) → onD d (chgL x ys) = wantL x d (onD d ys)
  | [], _ => rfl
  | y :: ys, h => by
    have h1 : chgL x (y :: ys) = aft x y ++ chgL x ys := rfl
    have h2 : onD d (y :: ys) = onD d [y] ++ onD d ys := onD_append d [y] ys
    rw [h1, h2, onD_append, wantL_append, onD_aft (h y (by simp)), onD_chg (fun z hz => h z (List.mem_cons_of_mem _ hz))]
theorem cat_code {l : List IT} {s : ByteArray} (hc : CatOk l) (h : 0 ≤ fiI l s) : ¬s = ByteArray.empty := by
  intro e
  subst e
  rcases fnd_cases (l.map IT.code) ByteArray.empty with ⟨k, hk, h1, _⟩ | h1
  · have hk2 : k < l.length := by simpa using hk
    have h3 : (l[k]'hk2).code = ByteArray.empty := by simpa using h1
    have h4 := (hc.1 k hk2 hk2).1.1
    rw [h3] at h4
    rw [isCode.codeB_len (by decide)] at h4
    cases h4
  · have h2 : fiI l ByteArray.empty = -1 := h1.1
    omega
theorem line_prt {l : List IT} {y : BL} (hc : CatOk l) (h : LineOk l y) : ¬y.prt = ByteArray.empty := cat_code hc h.2.1
/-! Tidied lines. -/
theorem tidyS_on {d : Int} {acc : List BL} {x : BL} (h : ∀ y, y ∈ acc → y.fr ≤ y.un) (hx : x.fr ≤ x.un) : onD d (tidyS acc x) = onD d acc ++ onD d [x] := by
  rcases snoc_cases acc with rfl | ⟨ae, p, rfl⟩
  · rfl
  · by_cases h1 : Joins p x
    · rw [tidyS_yes h1, onD_append, onD_append, List.append_assoc]
      congr 1
      have hp := h p (by simp)
      obtain ⟨a1, a2, a3, a4, a5⟩ := h1
      by_cases o1 : p.fr ≤ d ∧ d ≤ p.un
      · rw [onD_one_yes (y := { p with un := x.un }) (by simp only; omega), onD_one_yes o1, onD_one_no (y := x) (by omega)]; rfl
      · by_cases o2 : x.fr ≤ d ∧ d ≤ x.un
        · rw [onD_one_yes (y := { p with un := x.un }) (by simp only; omega), onD_one_no o1, onD_one_yes o2]
          unfold dayL
          simp only [List.nil_append]
          rw [a1, a2, a3, a5]
        · rw [onD_one_no (y := { p with un := x.un }) (by simp only; omega), onD_one_no o1, onD_one_no o2]; rfl
    · rw [tidyS_no h1, onD_append]
theorem tidyS_fr {acc : List BL} {x : BL} (h : ∀ y, y ∈ acc → y.fr ≤ y.un) (hx : x.fr ≤ x.un) : ∀ y, y ∈ tidyS acc x → y.fr ≤ y.un := by
  rcases snoc_cases acc with rfl | ⟨ae, p, rfl⟩
  · rw [tidyS_nil]; intro y hy; simp at hy; rw [hy]; exact hx
  · by_cases h1 : Joins p x
    · rw [tidyS_yes h1]
      intro y hy
      rcases List.mem_append.1 hy with h2 | h2
      · exact h y (List.mem_append_left _ h2)
      · simp at h2
        have hp := h p (by simp)
        have := h1.2.2.2.1
        rw [h2]
        show p.fr ≤ x.un
        omega
    · rw [tidyS_no h1]
      intro y hy
      rcases List.mem_append.1 hy with h2 | h2
      · exact h y h2
      · simp at h2; rw [h2]; exact hx
theorem foldS_on {d : Int} : ∀ (ys acc : List BL), (∀ y, y ∈ acc → y.fr ≤ y.un) → (∀ y, y ∈ ys → y.fr ≤ y.un) → onD d (ys.foldl tidyS acc) = onD d acc ++ onD d ys
  | [], acc, _, _ => by simp [onD_nil]
  | y :: ys, acc, h, hy => by
    have h2 : onD d (y :: ys) = onD d [y] ++ onD d ys := onD_append d [y] ys
    rw [List.foldl_cons, foldS_on ys _ (tidyS_fr h (hy y (by simp))) (fun z hz => hy z (List.mem_cons_of_mem _ hz)), tidyS_on h (hy y (by simp)), h2, List.append_assoc]
theorem onD_tidy {d : Int} {ys : List BL} (h : ∀ y, y ∈ ys → y.fr ≤ y.un) : onD d (tidyL ys) = onD d ys := by
  have := foldS_on (d := d) ys [] (fun y hy => by cases hy) h
  rw [onD_nil, List.nil_append] at this
  exact this
/-- No two that stand beside each other are one. -/
def Apt : List BL → Prop
  | [] => True
  | [_] => True
  | x :: y :: zs => ¬Joins x y ∧ Apt (y :: zs)
theorem apt_snoc : ∀ {ae : List BL} {p x : BL}, Apt (ae ++ [p]) → ¬Joins p x → Apt (ae ++ [p] ++ [x])
  | [], p, x, _, h => ⟨h, trivial⟩
  | [a], p, x, h, h2 => ⟨h.1, h2, trivial⟩
  | a :: b :: ae, p, x, h, h2 => by
    have h3 : Apt ((b :: ae) ++ [p] ++ [x]) := apt_snoc (ae := b :: ae) h.2 h2
    exact ⟨h.1, h3⟩
theorem apt_last : ∀ {ae : List BL} {p p' : BL}, Apt (ae ++ [p]) → p'.par = p.par → p'.prt = p.prt → p'.qty = p.qty → p'.fr = p.fr → p'.whn = p.whn → Apt (ae ++ [p'])
  | [], _, _, _, _, _, _, _, _ => trivial
  | [a], p, p', h, h1, h2, h3, h4, h5 => ⟨fun j => h.1 ⟨by rw [j.1, h1], by rw [j.2.1, h2], by rw [j.2.2.1, h3], by rw [j.2.2.2.1, h4], by rw [j.2.2.2.2, h5]⟩, trivial⟩
  | a :: b :: ae, p, p', h, h1, h2, h3, h4, h5 => ⟨h.1, apt_last (ae := b :: ae) h.2 h1 h2 h3 h4 h5⟩
theorem tidyS_apt {acc : List BL} {x : BL} (h : Apt acc) : Apt (tidyS acc x) := by
  rcases snoc_cases acc with rfl | ⟨ae, p, rfl⟩
  · exact trivial
  · by_cases h1 : Joins p x
    · rw [tidyS_yes h1]; exact apt_last h rfl rfl rfl rfl rfl
    · rw [tidyS_no h1]; exact apt_snoc h h1
theorem foldS_apt : ∀ (ys acc : List BL), Apt acc → Apt (ys.foldl tidyS acc)
  | [], _, h => h
  | _ :: ys, _, h => foldS_apt ys _ (tidyS_apt h)
theorem tidyL_apt (ys : List BL) : Apt (tidyL ys) := foldS_apt ys [] trivial
theorem foldS_id : ∀ (ys acc : List BL), Apt (acc ++ ys) → ys.foldl tidyS acc = acc ++ ys
  | [], acc, _ => by simp
  | y :: ys, acc, h => by
    have h1 : tidyS acc y = acc ++ [y] := by
      rcases snoc_cases acc with rfl | ⟨ae, p, rfl⟩
      · rfl
      · refine tidyS_no ?_
        have key : ∀ (ae : List BL), Apt (ae ++ p :: y :: ys) → ¬Joins p y := by
          intro ae
          induction ae with
          | nil => intro h; exact h.1
          | cons a ae ih =>
            intro h
            cases ae with
            | nil => exact ih h.2
            | cons b bs => exact ih h.2
        exact key ae (by simpa using h)
    rw [List.foldl_cons, h1, foldS_id ys (acc ++ [y]) (by simpa using h)]
    simp
theorem tidy_tidy (ys : List BL) : tidyL (tidyL ys) = tidyL ys := by
  have := foldS_id (tidyL ys) [] (by simpa using tidyL_apt ys)
  simpa [tidyL] using this
/-- A change that changes nothing is tidied away. -/
theorem tidyS_same {x : CH} {y : BL} (hx : x.inn = x.ou) (hq : x.qy = 0) (he : ¬x.inn = ByteArray.empty) (acc : List BL) : (aft x y).foldl tidyS acc = tidyS acc y := by
  by_cases hh : Hit x y
  · have hprt : x.inn = y.prt := by rw [hx]; exact hh.2.1.symm
    rw [aft_yes hh, aft2_yes he]
    have hL : aftL x y = { y with fr := if y.fr < x.dy then x.dy else y.fr } := by
      unfold aftL
      rw [hprt, hq]; rfl
    by_cases hf : y.fr < x.dy
    · rw [aft1_yes hf, hL, if_pos hf]
      show tidyS (tidyS acc { y with un := x.dy - 1 }) { y with fr := x.dy } = tidyS acc y
      rcases snoc_cases acc with rfl | ⟨ae, p, rfl⟩
      · have h1 : tidyS [] { y with un := x.dy - 1 } = [] ++ [{ y with un := x.dy - 1 }] := rfl
        rw [h1]
        exact tidyS_yes (acc := []) (p := { y with un := x.dy - 1 }) (x := { y with fr := x.dy }) ⟨rfl, rfl, rfl, by simp only; omega, rfl⟩
      · by_cases h1 : Joins p y
        · rw [tidyS_yes (x := { y with un := x.dy - 1 }) h1, tidyS_yes h1]
          exact tidyS_yes (p := { p with un := x.dy - 1 }) (x := { y with fr := x.dy }) ⟨h1.1, h1.2.1, h1.2.2.1, by simp only; omega, h1.2.2.2.2⟩
        · rw [tidyS_no (x := { y with un := x.dy - 1 }) h1, tidyS_no h1]
          exact tidyS_yes (acc := ae ++ [p]) (p := { y with un := x.dy - 1 }) (x := { y with fr := x.dy }) ⟨rfl, rfl, rfl, by simp only; omega, rfl⟩
    · rw [aft1_no hf, hL, if_neg hf]; rfl
  · rw [aft_no hh]; rfl
theorem foldS_same {x : CH} (hx : x.inn = x.ou) (hq : x.qy = 0) (he : ¬x.inn = ByteArray.empty) : ∀ (ys acc : List BL), (chgL x ys).foldl tidyS acc = ys.foldl tidyS acc
  | [], _ => rfl
  | y :: ys, acc => by
    have h1 : chgL x (y :: ys) = aft x y ++ chgL x ys := rfl
    rw [h1, List.foldl_append, tidyS_same hx hq he, foldS_same hx hq he ys, List.foldl_cons]
theorem tidy_same {x : CH} (hx : x.inn = x.ou) (hq : x.qy = 0) (he : ¬x.inn = ByteArray.empty) (ys : List BL) : tidyL (chgL x ys) = tidyL ys := foldS_same hx hq he ys []
/-- Tidied bills are bills. -/
theorem tidyS_pairs {l : List IT} {acc : List BL} {x : BL} : ∀ p, p ∈ pairs l (tidyS acc x) → p ∈ pairs l (acc ++ [x]) := by
  rcases snoc_cases acc with rfl | ⟨ae, q, rfl⟩
  · intro p hp; exact hp
  · by_cases h1 : Joins q x
    · rw [tidyS_yes h1]
      intro p hp
      obtain ⟨y, hy, rfl⟩ := List.mem_map.1 hp
      rcases List.mem_append.1 hy with h2 | h2
      · exact List.mem_map.2 ⟨y, by simp [h2], rfl⟩
      · simp at h2
        exact List.mem_map.2 ⟨q, by simp, by rw [h2]; rfl⟩
    · rw [tidyS_no h1]; intro p hp; exact hp
theorem foldS_pairs {l : List IT} : ∀ (ys acc : List BL) (p : Lk), p ∈ pairs l (ys.foldl tidyS acc) → p ∈ pairs l (acc ++ ys)
  | [], acc, p, h => by simpa using h
  | y :: ys, acc, p, h => by
    rw [List.foldl_cons] at h
    have h1 := foldS_pairs ys _ p h
    obtain ⟨z, hz, e⟩ := List.mem_map.1 h1
    rcases List.mem_append.1 hz with h2 | h2
    · have h3 : p ∈ pairs l (tidyS acc y) := List.mem_map.2 ⟨z, h2, e⟩
      have h4 := tidyS_pairs p h3
      obtain ⟨z2, hz2, e2⟩ := List.mem_map.1 h4
      exact List.mem_map.2 ⟨z2, by
        rcases List.mem_append.1 hz2 with h5 | h5
        · simp [h5]
        · simp at h5; simp [h5], e2⟩
    · exact List.mem_map.2 ⟨z, by simp [h2], e⟩
theorem tidyS_line {l : List IT} {acc : List BL} {x : BL} (h : ∀ y, y ∈ acc → LineOk l y) (hx : LineOk l x) : ∀ y, y ∈ tidyS acc x → LineOk l y := by
  rcases snoc_cases acc with rfl | ⟨ae, p, rfl⟩
  · rw [tidyS_nil]; intro y hy; simp at hy; rw [hy]; exact hx
  · by_cases h1 : Joins p x
    · rw [tidyS_yes h1]
      intro y hy
      rcases List.mem_append.1 hy with h2 | h2
      · exact h y (List.mem_append_left _ h2)
      · simp at h2
        obtain ⟨a1, a2, a3, a4, a5, a6, a7, a8, a9⟩ := h p (by simp)
        obtain ⟨b1, b2, b3, b4, b5, b6, b7, b8, b9⟩ := hx
        have := h1.2.2.2.1
        rw [h2]
        exact ⟨a1, a2, a3, a4, a5, a6, by show p.fr ≤ x.un; omega, b8, a9⟩
    · rw [tidyS_no h1]
      intro y hy
      rcases List.mem_append.1 hy with h2 | h2
      · exact h y h2
      · simp at h2; rw [h2]; exact hx
theorem foldS_line {l : List IT} : ∀ (ys acc : List BL), (∀ y, y ∈ acc → LineOk l y) → (∀ y, y ∈ ys → LineOk l y) → ∀ y, y ∈ ys.foldl tidyS acc → LineOk l y
  | [], _, h, _ => h
  | y :: ys, _, h, hy => foldS_line ys _ (tidyS_line h (hy y (by simp))) (fun z hz => hy z (List.mem_cons_of_mem _ hz))
theorem tidy_bills {l : List IT} {ys : List BL} (h : BillsOk l ys) : BillsOk l (tidyL ys) := by
  refine ⟨⟨h.1.1, Nat.le_trans (tidyL_len ys) h.1.2.1, lines_of_mem (foldS_line ys [] (fun y hy => by cases hy) (fun y hy => mem_bills h hy))⟩, ?_⟩
  obtain ⟨u, hu⟩ := h.2
  exact ⟨u, fun p hp => hu p (by simpa using foldS_pairs ys [] p hp)⟩
theorem bills_fr {l : List IT} {ys : List BL} (h : BillsOk l ys) : ∀ y, y ∈ ys → y.fr ≤ y.un := fun _ hy => (mem_bills h hy).2.2.2.2.2.2.1
end Go.Proofs.Ytdhldokpojghdaa
