/-
  Conditions read from a text, as the model reads them. No program is named here.
-/
import Derived.Test.YtghofgjlmfdnpaaCondLib
import Derived.Test.YtghofgjlmfdnpaaCondTree
import Derived.Lib.Hide
namespace Go.Proofs.Ytghofgjlmfdnpaa

/-- A reader: how far it has come, what it has read, whether it is lost. -/
structure RS where
  i : Nat
  out : List CN
  bad : Bool
def RS.push (r : RS) (x : CN) : RS := ⟨r.i, r.out ++ [x], r.bad⟩
def RS.spoil (r : RS) : RS := ⟨r.i, r.out, true⟩
def RS.on (r : RS) (n : Nat) : RS := ⟨r.i + n, r.out, r.bad⟩
/-- A text stands at a place. -/
def takes (s t : ByteArray) (i : Nat) : Bool := decide (i + t.size ≤ s.size ∧ s.extract i (i + t.size) = t)
theorem takes_yes {s t : ByteArray} {i : Nat} (h : takes s t i = true) : i + t.size ≤ s.size ∧ s.extract i (i + t.size) = t := of_decide_eq_true h
/-- A byte of a name. -/
def isW (c : Nat) : Bool := decide ((65 ≤ c ∧ c ≤ 90) ∨ (48 ≤ c ∧ c ≤ 57) ∨ c = 45)
/-- Where a name ends. -/
def wEnd (s : ByteArray) : Nat → Nat → Nat
  | 0, i => i
  | f + 1, i => if h : i < s.size then (if isW (s[i]'h).toNat = true then wEnd s f (i + 1) else i) else i
def rdLoop (s t : ByteArray) (x : CN) (S : RS → RS) : Nat → RS → RS
  | 0, r => r
  | f + 1, r => if r.bad = false ∧ takes s t r.i = true then rdLoop s t x S f ((S (r.on t.size)).push x) else r
def nAnd : CN := ⟨3, eB, eB⟩
def nOr : CN := ⟨4, eB, eB⟩
def nNot : CN := ⟨2, eB, eB⟩
def nTrue : CN := ⟨0, eB, eB⟩
def rdAnd (s : ByteArray) (S : RS → RS) (r : RS) : RS := rdLoop s tAnd nAnd S s.size (S r)
def rdOr (s : ByteArray) (S : RS → RS) (r : RS) : RS := rdLoop s tOr nOr (rdAnd s S) s.size (rdAnd s S r)
def rdLeaf (s : ByteArray) (r : RS) : RS :=
  if takes s tEq (wEnd s s.size r.i) = true then
    ⟨wEnd s s.size (wEnd s s.size r.i + 1), r.out ++ [⟨1, s.extract r.i (wEnd s s.size r.i), s.extract (wEnd s s.size r.i + 1) (wEnd s s.size (wEnd s s.size r.i + 1))⟩], r.bad⟩
  else ⟨wEnd s s.size r.i, r.out ++ [nTrue], if s.extract r.i (wEnd s s.size r.i) = tTrue then r.bad else true⟩
/-- What is read in parentheses. -/
def rdShut (s : ByteArray) (r : RS) : RS := if takes s tShut r.i = true then r.on 1 else r.spoil
def rdSimple (s : ByteArray) : Nat → RS → RS
  | 0, r => r.spoil
  | n + 1, r =>
    if 30 < r.out.length then r.spoil
    else if takes s tOpen r.i = true then rdShut s (rdOr s (rdSimple s n) (r.on 1))
    else if takes s tNot r.i = true then (rdSimple s n (r.on 1)).push nNot
    else rdLeaf s r

theorem wEnd_ge (s : ByteArray) : ∀ (f i : Nat), i ≤ wEnd s f i
  | 0, _ => Nat.le_refl _
  | f + 1, i => by
    unfold wEnd
    split
    · split
      · exact Nat.le_trans (Nat.le_succ i) (wEnd_ge s f (i + 1))
      · exact Nat.le_refl _
    · exact Nat.le_refl _
theorem wEnd_le (s : ByteArray) : ∀ (f i : Nat), i ≤ s.size → wEnd s f i ≤ s.size
  | 0, _, h => h
  | f + 1, i, h => by
    unfold wEnd
    split
    · split
      · exact wEnd_le s f (i + 1) (by omega)
      · exact h
    · exact h
/-- With fuel enough the end is one more step's. -/
theorem wEnd_fuel (s : ByteArray) : ∀ (f g i : Nat), s.size ≤ f + i → s.size ≤ g + i → wEnd s f i = wEnd s g i
  | 0, 0, _, _, _ => rfl
  | 0, g + 1, i, h, _ => by
    show i = wEnd s (g + 1) i
    unfold wEnd
    rw [dif_neg (by omega)]
  | f + 1, 0, i, _, h => by
    show wEnd s (f + 1) i = i
    unfold wEnd
    rw [dif_neg (by omega)]
  | f + 1, g + 1, i, h1, h2 => by
    unfold wEnd
    split
    · split
      · exact wEnd_fuel s f g (i + 1) (by omega) (by omega)
      · rfl
    · rfl
theorem wEnd_on {s : ByteArray} {i : Nat} (h : i < s.size) (hw : isW (s[i]'h).toNat = true) : wEnd s s.size i = wEnd s s.size (i + 1) := by
  have e : wEnd s s.size i = wEnd s (s.size + 1) i := wEnd_fuel s _ _ _ (by omega) (by omega)
  rw [e]
  show (if h : i < s.size then _ else _) = _
  rw [dif_pos h, if_pos hw]
theorem wEnd_off {s : ByteArray} {i : Nat} (h : ∀ hi : i < s.size, isW (s[i]'hi).toNat = false) : wEnd s s.size i = i := by
  have e : wEnd s s.size i = wEnd s (s.size + 1) i := wEnd_fuel s _ _ _ (by omega) (by omega)
  rw [e]
  show (if h : i < s.size then _ else _) = _
  split
  · rename_i hi
    rw [h hi]; rfl
  · rfl
/-- A part of the reader goes on, and reads no more than it goes. -/
def Goes (s : ByteArray) (S : RS → RS) : Prop := ∀ r : RS, r.i ≤ s.size → r.i ≤ (S r).i ∧ (S r).i ≤ s.size ∧ (S r).out.length ≤ r.out.length + 1 + ((S r).i - r.i)
theorem goes_loop {s t : ByteArray} {x : CN} {S : RS → RS} (hS : Goes s S) (ht : 2 ≤ t.size) : ∀ (f : Nat) (r : RS), r.i ≤ s.size → r.i ≤ (rdLoop s t x S f r).i ∧ (rdLoop s t x S f r).i ≤ s.size ∧ (rdLoop s t x S f r).out.length ≤ r.out.length + ((rdLoop s t x S f r).i - r.i)
  | 0, r, h => ⟨Nat.le_refl _, h, by show r.out.length ≤ r.out.length + (r.i - r.i); omega⟩
  | f + 1, r, h => by
    unfold rdLoop
    split
    · rename_i hc
      have h1 := (takes_yes hc.2).1
      have h2 := hS (r.on t.size) h1
      have h3 := goes_loop (x := x) hS ht f ((S (r.on t.size)).push x) h2.2.1
      have e1 : ((S (r.on t.size)).push x).i = (S (r.on t.size)).i := rfl
      have e2 : ((S (r.on t.size)).push x).out.length = (S (r.on t.size)).out.length + 1 := by simp [RS.push]
      have e3 : (r.on t.size).i = r.i + t.size := rfl
      have e4 : (r.on t.size).out = r.out := rfl
      rw [e1, e2] at h3
      rw [e3, e4] at h2
      omega
    · exact ⟨Nat.le_refl _, h, by omega⟩
theorem goes_and {s : ByteArray} {S : RS → RS} (hS : Goes s S) : Goes s (rdAnd s S) := fun r h => by
  have h1 := hS r h
  have h2 := goes_loop (t := tAnd) (x := nAnd) hS (by decide) s.size (S r) h1.2.1
  unfold rdAnd
  omega
theorem goes_or {s : ByteArray} {S : RS → RS} (hS : Goes s S) : Goes s (rdOr s S) := fun r h => by
  have h1 := goes_and hS r h
  have h2 := goes_loop (t := tOr) (x := nOr) (goes_and hS) (by decide) s.size (rdAnd s S r) h1.2.1
  unfold rdOr
  omega
theorem goes_leaf (s : ByteArray) : Goes s (rdLeaf s) := fun r h => by
  have h1 := wEnd_ge s s.size r.i
  have h2 := wEnd_le s s.size r.i h
  unfold rdLeaf
  split
  · rename_i hc
    have h3 := (takes_yes hc).1
    have e : tEq.size = 1 := rfl
    have h4 := wEnd_ge s s.size (wEnd s s.size r.i + 1)
    have h5 := wEnd_le s s.size (wEnd s s.size r.i + 1) (by omega)
    refine ⟨by simp only; omega, by simp only; omega, ?_⟩
    simp only [List.length_append, List.length_singleton]
    omega
  · refine ⟨by simp only; omega, by simp only; omega, ?_⟩
    simp only [List.length_append, List.length_singleton]
    omega
theorem goes_simple (s : ByteArray) : ∀ n : Nat, Goes s (rdSimple s n)
  | 0 => fun r h => ⟨Nat.le_refl _, h, by show r.out.length ≤ _; omega⟩
  | n + 1 => fun r h => by
    unfold rdSimple
    split
    · exact ⟨Nat.le_refl _, h, by show r.out.length ≤ _; omega⟩
    · split
      · rename_i hc
        have h1 := (takes_yes hc).1
        have e : tOpen.size = 1 := rfl
        have h2 := goes_or (goes_simple s n) (r.on 1) (by show r.i + 1 ≤ _; omega)
        have e3 : (r.on 1).i = r.i + 1 := rfl
        have e4 : (r.on 1).out = r.out := rfl
        rw [e3, e4] at h2
        unfold rdShut
        split
        · rename_i hs
          have h3 := (takes_yes hs).1
          have e5 : tShut.size = 1 := rfl
          show r.i ≤ (rdOr s (rdSimple s n) (r.on 1)).i + 1 ∧ (rdOr s (rdSimple s n) (r.on 1)).i + 1 ≤ s.size ∧ (rdOr s (rdSimple s n) (r.on 1)).out.length ≤ r.out.length + 1 + ((rdOr s (rdSimple s n) (r.on 1)).i + 1 - r.i)
          omega
        · show r.i ≤ (rdOr s (rdSimple s n) (r.on 1)).i ∧ (rdOr s (rdSimple s n) (r.on 1)).i ≤ s.size ∧ (rdOr s (rdSimple s n) (r.on 1)).out.length ≤ r.out.length + 1 + ((rdOr s (rdSimple s n) (r.on 1)).i - r.i)
          omega
      · split
        · rename_i hc
          have h1 := (takes_yes hc).1
          have e : tNot.size = 1 := rfl
          have h2 := goes_simple s n (r.on 1) (by show r.i + 1 ≤ _; omega)
          have e3 : (r.on 1).i = r.i + 1 := rfl
          have e4 : (r.on 1).out = r.out := rfl
          rw [e3, e4] at h2
          have e5 : ((rdSimple s n (r.on 1)).push nNot).out.length = (rdSimple s n (r.on 1)).out.length + 1 := by simp [RS.push]
          show r.i ≤ (rdSimple s n (r.on 1)).i ∧ (rdSimple s n (r.on 1)).i ≤ s.size ∧ ((rdSimple s n (r.on 1)).push nNot).out.length ≤ _ + ((rdSimple s n (r.on 1)).i - r.i)
          rw [e5]
          omega
        · exact goes_leaf s r h
/-- With fuel enough a loop is one step and the loop. -/
theorem rdLoop_fuel {s t : ByteArray} {x : CN} {S : RS → RS} (hS : Goes s S) (ht : 1 ≤ t.size) : ∀ (f g : Nat) (r : RS), r.i ≤ s.size → s.size ≤ f + r.i → s.size ≤ g + r.i → rdLoop s t x S f r = rdLoop s t x S g r
  | 0, 0, _, _, _, _ => rfl
  | 0, g + 1, r, h, h1, _ => by
    show r = rdLoop s t x S (g + 1) r
    unfold rdLoop
    rw [if_neg (fun hc => by have := (takes_yes hc.2).1; omega)]
  | f + 1, 0, r, h, _, h1 => by
    show rdLoop s t x S (f + 1) r = r
    unfold rdLoop
    rw [if_neg (fun hc => by have := (takes_yes hc.2).1; omega)]
  | f + 1, g + 1, r, h, h1, h2 => by
    unfold rdLoop
    split
    · rename_i hc
      have h3 := (takes_yes hc.2).1
      have h4 := hS (r.on t.size) h3
      have e3 : (r.on t.size).i = r.i + t.size := rfl
      rw [e3] at h4
      exact rdLoop_fuel hS ht f g _ h4.2.1 (by show s.size ≤ f + (S (r.on t.size)).i; omega) (by show s.size ≤ g + (S (r.on t.size)).i; omega)
    · rfl
theorem rdLoop_on {s t : ByteArray} {x : CN} {S : RS → RS} (hS : Goes s S) (ht : 1 ≤ t.size) {r : RS} (h : r.i ≤ s.size) (hb : r.bad = false) (hc : takes s t r.i = true) : rdLoop s t x S s.size r = rdLoop s t x S s.size ((S (r.on t.size)).push x) := by
  have e : rdLoop s t x S s.size r = rdLoop s t x S (s.size + 1) r := rdLoop_fuel hS ht _ _ r h (by omega) (by omega)
  rw [e]
  show (if r.bad = false ∧ takes s t r.i = true then _ else _) = _
  rw [if_pos ⟨hb, hc⟩]
theorem rdLoop_off {s t : ByteArray} {x : CN} {S : RS → RS} {r : RS} (hc : ¬(r.bad = false ∧ takes s t r.i = true)) : ∀ f, rdLoop s t x S f r = r
  | 0 => rfl
  | f + 1 => by
    show (if r.bad = false ∧ takes s t r.i = true then _ else _) = _
    rw [if_neg hc]
/-- What ParseCond answers. -/
noncomputable def parR (s : ByteArray) : List CN × Bool :=
  if (rdOr s (rdSimple s 31) ⟨0, [], false⟩).bad = false ∧ (rdOr s (rdSimple s 31) ⟨0, [], false⟩).i = s.size ∧ condB (rdOr s (rdSimple s 31) ⟨0, [], false⟩).out = true then ((rdOr s (rdSimple s 31) ⟨0, [], false⟩).out, true) else ([], false)
end Go.Proofs.Ytghofgjlmfdnpaa
