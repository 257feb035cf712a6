/-
  A row of the call's own whose records lead, by one cell each, into rows of its own too, all apart: what keeps it, how it is written, marked and longer. No program is named here.
-/
import Derived.Test.YtfcgdhedaefonaaNest
import Derived.Test.YtfcgdhedaefonaaRecLib
import Derived.OneCell
import Derived.WalkKit
import Derived.Laws.Rows
import Derived.Laws.AppendOwn
import Derived.Laws.OwnMore
import Derived.Lib.Hide
namespace Go.Proofs.Ytfcgdhedaefonaa
open Go.RowKit

/-- They share no block. -/
def Apart (a b : Value) : Prop := ∀ k, a.ownBlock = some k → b.ownBlock ≠ some k
theorem Apart.symm {a b : Value} (h : Apart a b) : Apart b a := fun k hb ha => h k ha hb
/-- The block lies in the span. -/
def InSp (lo hi : Nat) (v : Value) : Prop := ∀ k, v.ownBlock = some k → lo ≤ k ∧ k < hi
theorem InSp.mono {lo hi lo' hi' : Nat} {v : Value} (h : InSp lo hi v) (a : lo' ≤ lo) (b : hi ≤ hi') : InSp lo' hi' v := fun k hk => ⟨Nat.le_trans a (h k hk).1, Nat.lt_of_lt_of_le (h k hk).2 b⟩
theorem InSp.apart {lo hi lo' hi' : Nat} {v u : Value} (h : InSp lo hi v) (h' : InSp lo' hi' u) (ho : hi ≤ lo' ∨ hi' ≤ lo) : Apart v u := fun k hk hu => by
  have := h k hk
  have := h' k hu
  omega
/-- Only blocks of the span may have changed. -/
structure ChgIn (lo hi : Nat) (w w' : World) : Prop where
  os : w'.os = w.os
  tape : w'.tape = w.tape
  output : w'.output = w.output
  size : w.heap.size ≤ w'.heap.size
  block : ∀ k, k < w.heap.size → (k < lo ∨ hi ≤ k) → w'.heap[k]? = w.heap[k]?
theorem ChgIn.refl (lo hi : Nat) (w : World) : ChgIn lo hi w w := ⟨rfl, rfl, rfl, Nat.le_refl _, fun _ _ _ => rfl⟩
theorem ChgIn.trans {lo hi : Nat} {a b c : World} (h : ChgIn lo hi a b) (k : ChgIn lo hi b c) : ChgIn lo hi a c :=
  ⟨k.os.trans h.os, k.tape.trans h.tape, k.output.trans h.output, Nat.le_trans h.size k.size, fun i hi h2 => (k.block i (Nat.lt_of_lt_of_le hi h.size) h2).trans (h.block i hi h2)⟩
theorem ChgIn.of_grown {lo hi : Nat} {w w' : World} {v : Value} (h : w.grownBy w' v.ownBlock) (hs : InSp lo hi v) : ChgIn lo hi w w' :=
  ⟨h.os, h.tape, h.output, h.size, fun k hk ho => h.block k hk (fun e => by have := hs k e.symm; omega)⟩
theorem ChgIn.of_below {lo hi : Nat} {w w' : World} (h : Below w.heap.size w w') : ChgIn lo hi w w' := ⟨h.os, h.tape, h.output, h.size, fun k hk _ => h.block k hk⟩
theorem ChgIn.set {lo hi : Nat} {w : World} {g i : Nat} {x : Value} (h : lo ≤ g) (h' : g < hi) : ChgIn lo hi w (w.setCell ⟨g, i, none⟩ x) :=
  ⟨rfl, rfl, rfl, by simp, fun k _ ho => heap_setCell_other _ _ _ _ (by simp; omega)⟩
/-- What was there ahead of the span. -/
theorem ChgIn.below {lo hi : Nat} {w0 w w' : World} (h : Below w0.heap.size w0 w) (k : ChgIn lo hi w w') (hl : w0.heap.size ≤ lo) : Below w0.heap.size w0 w' :=
  h.trans ⟨k.os, k.tape, k.output, k.size, fun i hi => k.block i (Nat.lt_of_lt_of_le hi h.size) (Or.inl (by omega))⟩
theorem ChgIn.mono {lo hi lo' hi' : Nat} {w w' : World} (h : ChgIn lo hi w w') (a : lo' ≤ lo) (b : hi ≤ hi') : ChgIn lo' hi' w w' := ⟨h.os, h.tape, h.output, h.size, fun k hk ho => h.block k hk (by omega)⟩
theorem ChgIn.row {lo hi base e K : Nat} {w w' : World} {v : Value} {n : Nat} {xs : List Value} (h : w.ownsRow base e K v n xs) (k : ChgIn lo hi w w') (hs : ∀ b, v.ownBlock = some b → b < lo ∨ hi ≤ b) : w'.ownsRow base e K v n xs := by
  rcases h with ⟨h1, h | ⟨g, cap, cur, rfl, a, b, r⟩⟩
  · exact ⟨h1, Or.inl h⟩
  · exact ⟨h1, Or.inr ⟨g, cap, cur, rfl, a, (k.block g (Array.getElem?_eq_some_iff.1 b).1 (hs g rfl)).trans b, r⟩⟩
/-- Rows of two types share no block. -/
theorem apart_type {w : World} {b e K b' e' K' : Nat} {v v' : Value} {n n' : Nat} {xs xs' : List Value} (h : w.ownsRow b e K v n xs) (h' : w.ownsRow b' e' K' v' n' xs') (hne : e ≠ e') : Apart v v' := by
  intro k hk hk'
  rcases h.2 with ⟨rfl, _⟩ | ⟨g, cap, cur, rfl, _, hg, _⟩
  · cases hk
  · rcases h'.2 with ⟨rfl, _⟩ | ⟨g', cap', cur', rfl, _, hg', _⟩
    · cases hk'
    · simp only [Value.ownBlock, Option.some.injEq] at hk hk'
      subst hk
      subst hk'
      rw [hg] at hg'
      injection hg' with h1
      injection h1 with _ h2
      exact hne h2

/-- A record: its cells; of the cell that leads on: how long the row is and its cells. -/
structure NR where
  cs : List Value
  n : Nat
  ins : List Value
def NR.setc (r : NR) (i : Nat) (x : Value) : NR := ⟨r.cs.set i x, r.n, r.ins⟩
def NR.setu (r : NR) (i : Nat) (x : Value) (n : Nat) (ins : List Value) : NR := ⟨r.cs.set i x, n, ins⟩
def NR.seti (r : NR) (ins : List Value) : NR := ⟨r.cs, r.n, ins⟩
/-- The cells of them all. -/
def flatN (rs : List NR) : List Value := rs.flatMap NR.cs
theorem flatN_length {K : Nat} : ∀ {rs : List NR}, (∀ r, r ∈ rs → r.cs.length = K) → (flatN rs).length = rs.length * K
  | [], _ => by simp [flatN]
  | r :: rs, h => by
    have h1 := flatN_length (rs := rs) (fun x hx => h x (List.mem_cons_of_mem _ hx))
    have h2 := h r List.mem_cons_self
    simp only [flatN, List.flatMap_cons, List.length_append, List.length_cons] at h1 ⊢
    rw [h1, h2, Nat.succ_mul]; omega
theorem flatN_get {K : Nat} : ∀ {rs : List NR}, (∀ r, r ∈ rs → r.cs.length = K) → ∀ (j : Nat) (hj : j < rs.length) (i : Nat), i < K → (flatN rs)[j * K + i]? = (rs[j]'hj).cs[i]?
  | [], _, j, hj, _, _ => by simp at hj
  | r :: rs, h, j, hj, i, hi => by
    have h2 := h r List.mem_cons_self
    have e : flatN (r :: rs) = r.cs ++ flatN rs := rfl
    cases j with
    | zero => rw [e, Nat.zero_mul, Nat.zero_add, List.getElem?_append_left (by omega)]; rfl
    | succ j =>
      have h1 := flatN_get (rs := rs) (fun x hx => h x (List.mem_cons_of_mem _ hx)) j (by simpa using hj) i hi
      rw [e, List.getElem?_append_right (by rw [h2, Nat.succ_mul]; omega), h2, show (j + 1) * K + i - K = j * K + i by rw [Nat.succ_mul]; omega, h1]
      rfl
theorem flatN_set {K : Nat} : ∀ {rs : List NR}, (∀ r, r ∈ rs → r.cs.length = K) → ∀ (j : Nat) (hj : j < rs.length) (i : Nat) (x : Value) (n : Nat) (ins : List Value), i < K → (flatN rs).set (j * K + i) x = flatN (rs.set j ⟨(rs[j]'hj).cs.set i x, n, ins⟩)
  | [], _, j, hj, _, _, _, _, _ => by simp at hj
  | r :: rs, h, j, hj, i, x, n, ins, hi => by
    have h2 := h r List.mem_cons_self
    have e : flatN (r :: rs) = r.cs ++ flatN rs := rfl
    cases j with
    | zero =>
      rw [e, Nat.zero_mul, Nat.zero_add, List.set_append_left _ _ (by omega)]
      rfl
    | succ j =>
      have h1 := flatN_set (rs := rs) (fun x hx => h x (List.mem_cons_of_mem _ hx)) j (by simpa using hj) i x n ins hi
      rw [e, List.set_append_right _ _ (by rw [h2, Nat.succ_mul]; omega), h2, show (j + 1) * K + i - K = j * K + i by rw [Nat.succ_mul]; omega, h1]
      rfl
/-- v is a row of them, between base and top; cell s of each leads on. -/
structure OwnN (K s Ki e ei base top : Nat) (w : World) (v : Value) (rs : List NR) : Prop where
  len : ∀ r, r ∈ rs → r.cs.length = K
  row : w.ownsRow base e K v rs.length (flatN rs)
  sp : InSp base top v
  sub : ∀ j (hj : j < rs.length), ∃ u, (rs[j]'hj).cs[s]? = some u ∧ w.ownsRow base ei Ki u (rs[j]'hj).n (rs[j]'hj).ins ∧ InSp base top u
  ap : ∀ i j (hi : i < rs.length) (hj : j < rs.length), i ≠ j → ∀ u u', (rs[i]'hi).cs[s]? = some u → (rs[j]'hj).cs[s]? = some u' → Apart u u'
theorem OwnN.nil (K s Ki e ei base top : Nat) (w : World) : OwnN K s Ki e ei base top w (.slice none 0 0) [] :=
  ⟨fun r h => (by cases h), ⟨by simp [flatN], Or.inl ⟨rfl, rfl⟩⟩, fun k h => (by cases h), fun j hj => (by simp at hj), fun i j hi => (by simp at hi)⟩
theorem OwnN.below {K s Ki e ei base top : Nat} {w w' : World} {v : Value} {rs : List NR} (h : OwnN K s Ki e ei base top w v rs) (hb : Below w.heap.size w w') : OwnN K s Ki e ei base top w' v rs :=
  ⟨h.len, own_keepL h.row hb, h.sp, fun j hj => by obtain ⟨u, a, b, c⟩ := h.sub j hj; exact ⟨u, a, own_keepL b hb, c⟩, h.ap⟩
theorem OwnN.top {K s Ki e ei base top top' : Nat} {w : World} {v : Value} {rs : List NR} (h : OwnN K s Ki e ei base top w v rs) (ht : top ≤ top') : OwnN K s Ki e ei base top' w v rs :=
  ⟨h.len, h.row, h.sp.mono (Nat.le_refl _) ht, fun j hj => by obtain ⟨u, a, b, c⟩ := h.sub j hj; exact ⟨u, a, b, c.mono (Nat.le_refl _) ht⟩, h.ap⟩
theorem OwnN.lower {K s Ki e ei base base' top : Nat} {w : World} {v : Value} {rs : List NR} (h : OwnN K s Ki e ei base top w v rs) (ht : base' ≤ base) : OwnN K s Ki e ei base' top w v rs := by
  have lower : ∀ {e K : Nat} {v : Value} {n : Nat} {xs : List Value}, w.ownsRow base e K v n xs → w.ownsRow base' e K v n xs := fun h => by
    rcases h with ⟨h1, h | ⟨g, cap, cur, a, b, r⟩⟩
    · exact ⟨h1, Or.inl h⟩
    · exact ⟨h1, Or.inr ⟨g, cap, cur, a, Nat.le_trans ht b, r⟩⟩
  exact ⟨h.len, lower h.row, h.sp.mono ht (Nat.le_refl _), fun j hj => by obtain ⟨u, a, b, c⟩ := h.sub j hj; exact ⟨u, a, lower b, c.mono ht (Nat.le_refl _)⟩, h.ap⟩
/-- A change elsewhere. -/
theorem OwnN.far {K s Ki e ei base top lo hi : Nat} {w w' : World} {v : Value} {rs : List NR} (h : OwnN K s Ki e ei base top w v rs) (hc : ChgIn lo hi w w') (ho : top ≤ lo ∨ hi ≤ base) : OwnN K s Ki e ei base top w' v rs :=
  ⟨h.len, hc.row h.row (fun b hb => by have := h.sp b hb; omega), h.sp, fun j hj => by
    obtain ⟨u, a, b, c⟩ := h.sub j hj
    exact ⟨u, a, hc.row b (fun k hk => by have := c k hk; omega), c⟩, h.ap⟩
theorem OwnN.slice {K s Ki e ei base top : Nat} {w : World} {v : Value} {rs : List NR} (h : OwnN K s Ki e ei base top w v rs) : ∃ (a : Option Addr) (c : Nat), v = .slice a rs.length c := by
  rcases h.row.2 with ⟨rfl, h0⟩ | ⟨g, cap, cur, rfl, -⟩
  · exact ⟨_, _, by rw [h0]⟩
  · exact ⟨_, _, rfl⟩
theorem OwnN.at0 {K s Ki e ei base top : Nat} {w : World} {v : Value} {rs : List NR} (h : OwnN K s Ki e ei base top w v rs) (h0 : 0 < rs.length) : ∃ g cap : Nat, v = .slice (some ⟨g, 0, none⟩) rs.length cap ∧ g < w.heap.size ∧ base ≤ g ∧ g < top := by
  rcases h.row.2 with ⟨rfl, h1⟩ | ⟨g, cap, cur, rfl, -⟩
  · omega
  · exact ⟨g, cap, rfl, (h.row.lt g rfl).2, (h.sp g rfl).1, (h.sp g rfl).2⟩
theorem OwnN.cell {K s Ki e ei base top : Nat} {w : World} {g n c : Nat} {rs : List NR} (h : OwnN K s Ki e ei base top w (.slice (some ⟨g, 0, none⟩) n c) rs) (j : Nat) (hj : j < rs.length) (i : Nat) (hi : i < K) : w.cell? ⟨g, j * K + i, none⟩ = (rs[j]'hj).cs[i]? := by
  have hn : n = rs.length := by
    obtain ⟨a, c', e⟩ := h.slice
    injection e
  subst hn
  have hlt : j * K + i < rs.length * K := by
    have : (j + 1) * K ≤ rs.length * K := Nat.mul_le_mul_right _ hj
    rw [Nat.succ_mul] at this
    omega
  rw [h.row.cellAt _ hlt, flatN_get h.len j hj i hi]
/-- A cell that leads nowhere is written. -/
theorem OwnN.setc {K s Ki e ei base top : Nat} {w : World} {g n c : Nat} {rs : List NR} (hne : e ≠ ei) (h : OwnN K s Ki e ei base top w (.slice (some ⟨g, 0, none⟩) n c) rs) (j : Nat) (hj : j < rs.length) (i : Nat) (hi : i < K) (his : i ≠ s) (x : Value) :
    OwnN K s Ki e ei base top (w.setCell ⟨g, j * K + i, none⟩ x) (.slice (some ⟨g, 0, none⟩) n c) (rs.set j ((rs[j]'hj).setc i x)) := by
  have hn : n = rs.length := by
    obtain ⟨a, c', e⟩ := h.slice
    injection e
  subst hn
  have hst := (h.row.stored (j * K + i) x).1
  rw [flatN_set h.len j hj i x (rs[j]'hj).n (rs[j]'hj).ins hi] at hst
  have hcs : ∀ q (hq : q < (rs.set j ((rs[j]'hj).setc i x)).length), ((rs.set j ((rs[j]'hj).setc i x))[q]'hq).cs[s]? = (rs[q]'(by simpa using hq)).cs[s]? ∧ ((rs.set j ((rs[j]'hj).setc i x))[q]'hq).n = (rs[q]'(by simpa using hq)).n ∧ ((rs.set j ((rs[j]'hj).setc i x))[q]'hq).ins = (rs[q]'(by simpa using hq)).ins := by
    intro q hq
    rw [List.getElem_set]
    split
    · rename_i e; subst e
      refine ⟨?_, rfl, rfl⟩
      show ((rs[j]'hj).cs.set i x)[s]? = _
      rw [List.getElem?_set_ne his]
    · exact ⟨rfl, rfl, rfl⟩
  refine ⟨fun r hr => ?_, by simpa [NR.setc] using hst, h.sp, fun q hq => ?_, fun p q hp hq hpq u u' hu hu' => ?_⟩
  · rcases List.mem_or_eq_of_mem_set hr with h1 | rfl
    · exact h.len r h1
    · show ((rs[j]'hj).cs.set i x).length = K
      rw [List.length_set]; exact h.len _ (List.getElem_mem hj)
  · obtain ⟨h1, h2, h3⟩ := hcs q hq
    obtain ⟨u, a, b, c2⟩ := h.sub q (by simpa using hq)
    refine ⟨u, h1.trans a, ?_, c2⟩
    rw [h2, h3]
    exact ownsRow_setCell_other b (fun e2 => apart_type h.row b hne g rfl e2) x
  · exact h.ap p q (by simpa using hp) (by simpa using hq) hpq u u' ((hcs p hp).1.symm.trans hu) ((hcs q hq).1.symm.trans hu')
/-- The cell that leads on is written: into a row of its own, apart from the others. -/
theorem OwnN.setu {K s Ki e ei base top : Nat} {w : World} {g n c : Nat} {rs : List NR} (hne : e ≠ ei) (h : OwnN K s Ki e ei base top w (.slice (some ⟨g, 0, none⟩) n c) rs) (j : Nat) (hj : j < rs.length) (hs : s < K) (x : Value) (m : Nat) (ins : List Value)
    (hx : w.ownsRow base ei Ki x m ins) (hsp : InSp base top x) (hap : ∀ q (hq : q < rs.length), q ≠ j → ∀ u, (rs[q]'hq).cs[s]? = some u → Apart u x) :
    OwnN K s Ki e ei base top (w.setCell ⟨g, j * K + s, none⟩ x) (.slice (some ⟨g, 0, none⟩) n c) (rs.set j ((rs[j]'hj).setu s x m ins)) := by
  have hn : n = rs.length := by
    obtain ⟨a, c', e⟩ := h.slice
    injection e
  subst hn
  have hst := (h.row.stored (j * K + s) x).1
  rw [flatN_set h.len j hj s x m ins hs] at hst
  have hlen := h.len _ (List.getElem_mem hj)
  have hcj : ((rs[j]'hj).cs.set s x)[s]? = some x := by rw [List.getElem?_set_self (by omega)]
  refine ⟨fun r hr => ?_, by simpa [NR.setu] using hst, h.sp, fun q hq => ?_, fun p q hp hq hpq u u' hu hu' => ?_⟩
  · rcases List.mem_or_eq_of_mem_set hr with h1 | rfl
    · exact h.len r h1
    · show ((rs[j]'hj).cs.set s x).length = K
      rw [List.length_set]; exact hlen
  · simp only [List.getElem_set]
    split
    · exact ⟨x, hcj, ownsRow_setCell_other hx (fun e2 => apart_type h.row hx hne g rfl e2) x, hsp⟩
    · obtain ⟨u, a, b, c2⟩ := h.sub q (by simpa using hq)
      exact ⟨u, a, ownsRow_setCell_other b (fun e2 => apart_type h.row b hne g rfl e2) x, c2⟩
  · simp only [List.getElem_set] at hu hu'
    split at hu
    · rename_i e1
      subst e1
      rw [if_neg hpq] at hu'
      have : u = x := Option.some.inj (hu.symm.trans hcj)
      subst this
      exact (hap q (by simpa using hq) (fun e => hpq e.symm) u' hu').symm
    · rename_i e1
      split at hu'
      · rename_i e2
        have : u' = x := Option.some.inj (hu'.symm.trans hcj)
        subst this
        exact hap p (by simpa using hp) (fun e => e1 e.symm) u hu
      · exact h.ap p q (by simpa using hp) (by simpa using hq) hpq u u' hu hu'
/-- Cells stored one behind the other. -/
def putC (w : World) (g o : Nat) : List Value → World
  | [] => w
  | x :: xs => putC (w.setCell ⟨g, o, none⟩ x) g (o + 1) xs
def putL (L : List Value) (o : Nat) : List Value → List Value
  | [] => L
  | x :: xs => putL (L.set o x) (o + 1) xs
theorem putC_size (g : Nat) : ∀ (xs : List Value) (w : World) (o : Nat), (putC w g o xs).heap.size = w.heap.size
  | [], _, _ => rfl
  | x :: xs, w, o => (putC_size g xs _ _).trans (by simp)
theorem putC_grown (g : Nat) : ∀ (xs : List Value) (w : World) (o : Nat), w.grownBy (putC w g o xs) (some g)
  | [], _, _ => World.grownBy.refl _ _
  | _ :: xs, w, _ => World.grownBy.trans (grown_setL (World.grownBy.refl w (some g))) (putC_grown g xs _ _)
theorem putL_length : ∀ (xs L : List Value) (o : Nat), (putL L o xs).length = L.length
  | [], _, _ => rfl
  | x :: xs, L, o => (putL_length xs _ _).trans (by simp)
theorem putL_get : ∀ (xs L : List Value) (o i : Nat), o + xs.length ≤ L.length → (putL L o xs)[i]? = if o ≤ i ∧ i < o + xs.length then xs[i - o]? else L[i]?
  | [], L, o, i, _ => by rw [if_neg (by simp only [List.length_nil]; omega)]; rfl
  | x :: xs, L, o, i, h => by
    have h1 := putL_get xs (L.set o x) (o + 1) i (by simp at h ⊢; omega)
    show (putL (L.set o x) (o + 1) xs)[i]? = _
    rw [h1]
    simp only [List.length_cons] at h ⊢
    by_cases hi : i = o
    · subst hi
      rw [if_neg (by omega), if_pos (by omega), List.getElem?_set_self (by omega), Nat.sub_self]
      rfl
    · by_cases hr : o + 1 ≤ i ∧ i < o + 1 + xs.length
      · rw [if_pos hr, if_pos (by omega), show i - o = (i - (o + 1)) + 1 by omega]
        rfl
      · rw [if_neg hr, if_neg (by omega), List.getElem?_set_ne (by omega)]
theorem own_putC {base e K g n c : Nat} : ∀ (xs : List Value) {w : World} {L : List Value} (o : Nat), w.ownsRow base e K (.slice (some ⟨g, 0, none⟩) n c) n L → (putC w g o xs).ownsRow base e K (.slice (some ⟨g, 0, none⟩) n c) n (putL L o xs)
  | [], _, _, _, h => h
  | x :: xs, _, _, o, h => own_putC xs (o + 1) (h.stored o x).1
/-- A whole record is written. -/
theorem OwnN.put {K s Ki e ei base top : Nat} {w : World} {g n c : Nat} {rs : List NR} (hne : e ≠ ei) (h : OwnN K s Ki e ei base top w (.slice (some ⟨g, 0, none⟩) n c) rs) (k : Nat) (hk : k < rs.length) (hs : s < K) (cs : List Value) (hl : cs.length = K) (u : Value) (hu : cs[s]? = some u) (m : Nat) (ins : List Value)
    (hx : w.ownsRow base ei Ki u m ins) (hsp : InSp base top u) (hap : ∀ q (hq : q < rs.length), q ≠ k → ∀ x, (rs[q]'hq).cs[s]? = some x → Apart x u) :
    OwnN K s Ki e ei base top (putC w g (k * K) cs) (.slice (some ⟨g, 0, none⟩) n c) (rs.set k ⟨cs, m, ins⟩) := by
  have hn : n = rs.length := by
    obtain ⟨a, c', e⟩ := h.slice
    injection e
  subst hn
  have hlen : ∀ r, r ∈ rs.set k ⟨cs, m, ins⟩ → r.cs.length = K := fun r hr => by
    rcases List.mem_or_eq_of_mem_set hr with h1 | rfl
    · exact h.len r h1
    · exact hl
  have hf : putL (flatN rs) (k * K) cs = flatN (rs.set k ⟨cs, m, ins⟩) := by
    have hL := flatN_length h.len
    have hL2 := flatN_length hlen
    rw [List.length_set] at hL2
    have hkk : k * K + K ≤ rs.length * K := by
      have : (k + 1) * K ≤ rs.length * K := Nat.mul_le_mul_right _ hk
      rw [Nat.succ_mul] at this
      omega
    refine List.ext_getElem? (fun i => ?_)
    rw [putL_get cs _ _ _ (by omega), hl]
    by_cases hi : i < rs.length * K
    · have hK : 0 < K := by omega
      have hq : i / K < rs.length := Nat.div_lt_of_lt_mul (by rw [Nat.mul_comm]; exact hi)
      have hd : i / K * K + i % K = i := by rw [Nat.mul_comm]; exact Nat.div_add_mod i K
      have hm := Nat.mod_lt i hK
      have a1 := flatN_get h.len (i / K) hq (i % K) hm
      have a2 := flatN_get hlen (i / K) (by simpa using hq) (i % K) hm
      rw [hd] at a1 a2
      rw [a1, a2, List.getElem_set]
      by_cases e2 : k = i / K
      · rw [if_pos e2]
        subst e2
        rw [if_pos (by omega), show i - i / K * K = i % K by omega]
      · rw [if_neg e2, if_neg]
        intro ⟨h1, h2⟩
        apply e2
        have : k ≤ i / K := by rw [Nat.le_div_iff_mul_le hK]; exact h1
        have : i / K < k + 1 := by rw [Nat.div_lt_iff_lt_mul hK, Nat.succ_mul]; exact h2
        omega
    · rw [if_neg (by omega), List.getElem?_eq_none (by omega), List.getElem?_eq_none (by omega)]
  have hg := putC_grown g cs w (k * K)
  have hst := own_putC (g := g) cs (k * K) h.row
  rw [hf] at hst
  have kept : ∀ {x : Value} {q : Nat} {xs : List Value}, w.ownsRow base ei Ki x q xs → (putC w g (k * K) cs).ownsRow base ei Ki x q xs := fun {x q xs} hx => hx.kept hg (by
    cases hv : x.ownBlock with
    | none => exact Or.inl rfl
    | some b => exact Or.inr (fun e2 => apart_type h.row hx hne b e2.symm hv))
  refine ⟨hlen, by simpa using hst, h.sp, fun q hq => ?_, fun p q hp hq hpq x x' hx1 hx2 => ?_⟩
  · simp only [List.getElem_set]
    split
    · exact ⟨u, hu, kept hx, hsp⟩
    · obtain ⟨x, a, b, c2⟩ := h.sub q (by simpa using hq)
      exact ⟨x, a, kept b, c2⟩
  · simp only [List.getElem_set] at hx1 hx2
    split at hx1
    · rename_i e1
      subst e1
      rw [if_neg hpq] at hx2
      have : x = u := Option.some.inj (hx1.symm.trans hu)
      subst this
      exact (hap q (by simpa using hq) (fun e => hpq e.symm) x' hx2).symm
    · rename_i e1
      split at hx2
      · have : x' = u := Option.some.inj (hx2.symm.trans hu)
        subst this
        exact hap p (by simpa using hp) (fun e => e1 e.symm) x hx1
      · exact h.ap p q (by simpa using hp) (by simpa using hq) hpq x x' hx1 hx2
theorem OwnN.topw {K s Ki e ei base top top' : Nat} {w : World} {v : Value} {rs : List NR} (h : OwnN K s Ki e ei base top w v rs) (ht : top' = top) : OwnN K s Ki e ei base top' w v rs := by rw [ht]; exact h
theorem OwnN.cellw {K s Ki e ei base top : Nat} {w : World} {g n c : Nat} {rs : List NR} (h : OwnN K s Ki e ei base top w (.slice (some ⟨g, 0, none⟩) n c) rs) (j : Nat) (hj : j < rs.length) (i : Nat) (hi : i < K) : (∃ u, w.cell? ⟨g, j * K + i, none⟩ = some u) ∧ w.frozen? ⟨g, j * K + i, none⟩ = false := by
  have hn : n = rs.length := by
    obtain ⟨a, c', e⟩ := h.slice
    injection e
  subst hn
  refine ⟨?_, h.row.frozenAt _⟩
  rw [h.cell j hj i hi, List.getElem?_eq_getElem (by rw [h.len _ (List.getElem_mem hj)]; exact hi)]
  exact ⟨_, rfl⟩
theorem own_sliceN {w : World} {base e K : Nat} {v : Value} {n : Nat} {xs : List Value} (h : w.ownsRow base e K v n xs) : ∃ (a : Option Addr) (c : Nat), v = .slice a n c := by
  rcases h.2 with ⟨rfl, rfl⟩ | ⟨g, cap, cur, rfl, -⟩
  · exact ⟨_, _, rfl⟩
  · exact ⟨_, _, rfl⟩
theorem own_lowerN {w : World} {base base' e K : Nat} {v : Value} {n : Nat} {xs : List Value} (h : w.ownsRow base e K v n xs) (hle : base' ≤ base) : w.ownsRow base' e K v n xs := by
  rcases h with ⟨h1, h | ⟨g, cap, cur, a, b, r⟩⟩
  · exact ⟨h1, Or.inl h⟩
  · exact ⟨h1, Or.inr ⟨g, cap, cur, a, Nat.le_trans hle b, r⟩⟩
theorem own_setlow {w : World} {base e K : Nat} {v : Value} {n : Nat} {xs : List Value} (h : w.ownsRow base e K v n xs) (g i : Nat) (x : Value) (hg : g < base) : (w.setCell ⟨g, i, none⟩ x).ownsRow base e K v n xs :=
  ownsRow_setCell_other h (fun e2 => by have := (h.lt g e2).1; omega) x
/-- A row that is led into is written. -/
theorem OwnN.seti {K s Ki e ei base top : Nat} {w w' : World} {v u : Value} {rs : List NR} (hne : e ≠ ei) (h : OwnN K s Ki e ei base top w v rs) (j : Nat) (hj : j < rs.length) (hu : (rs[j]'hj).cs[s]? = some u) (hg : w.grownBy w' u.ownBlock) (ins : List Value)
    (hx : w'.ownsRow base ei Ki u (rs[j]'hj).n ins) : OwnN K s Ki e ei base top w' v (rs.set j ((rs[j]'hj).seti ins)) := by
  obtain ⟨u0, hu0, hr0, hs0⟩ := h.sub j hj
  have hu1 : u0 = u := Option.some.inj (hu0.symm.trans hu)
  subst hu1
  have hcs : ∀ q (hq : q < (rs.set j ((rs[j]'hj).seti ins)).length), ((rs.set j ((rs[j]'hj).seti ins))[q]'hq).cs = (rs[q]'(by simpa using hq)).cs := by
    intro q hq
    rw [List.getElem_set]
    split
    · rename_i e; subst e; rfl
    · rfl
  have hfl : flatN (rs.set j ((rs[j]'hj).seti ins)) = flatN rs := by
    unfold flatN
    rw [List.flatMap_def, List.flatMap_def]
    congr 1
    refine List.ext_getElem (by simp) (fun q h1 h2 => ?_)
    simp only [List.getElem_map]
    exact hcs q (by simpa using h1)
  have kept : ∀ {e K : Nat} {v : Value} {n : Nat} {xs : List Value}, w.ownsRow base e K v n xs → Apart v u0 → w'.ownsRow base e K v n xs := fun {e K v n xs} hr ha => hr.kept hg (by
    cases hv : v.ownBlock with
    | none => exact Or.inl rfl
    | some k => exact Or.inr (fun e2 => ha k hv e2.symm))
  refine ⟨fun r hr => ?_, by rw [hfl]; simpa using kept h.row (apart_type h.row hr0 hne), h.sp, fun q hq => ?_, fun p q hp hq hpq x x' hx1 hx2 => ?_⟩
  · rcases List.mem_or_eq_of_mem_set hr with h1 | rfl
    · exact h.len r h1
    · show (rs[j]'hj).cs.length = K
      exact h.len _ (List.getElem_mem hj)
  · by_cases e : j = q
    · subst e
      refine ⟨u0, by rw [hcs]; exact hu0, ?_, hs0⟩
      simp only [List.getElem_set_self]
      exact hx
    · obtain ⟨x, a, b, c⟩ := h.sub q (by simpa using hq)
      refine ⟨x, by rw [hcs]; exact a, ?_, c⟩
      simp only [List.getElem_set_ne e]
      exact kept b (h.ap q j (by simpa using hq) hj (fun e2 => e e2.symm) x u0 a hu0)
  · exact h.ap p q (by simpa using hp) (by simpa using hq) hpq x x' (by rw [← hcs p hp]; exact hx1) (by rw [← hcs q hq]; exact hx2)
/-- The record at k, by name: written cell by cell. -/
theorem OwnN.startK {K s Ki e ei base top : Nat} {w : World} {v : Value} {rs : List NR} (h : OwnN K s Ki e ei base top w v rs) (k : Nat) (hk : k < rs.length) : OwnN K s Ki e ei base top w v (rs.set k (rs[k]'hk)) := by
  rw [List.set_getElem_self]; exact h
theorem OwnN.setcK {K s Ki e ei base top : Nat} {w : World} {g n c k : Nat} {rs : List NR} {r : NR} (h : OwnN K s Ki e ei base top w (.slice (some ⟨g, 0, none⟩) n c) (rs.set k r)) (hne : e ≠ ei) (hk : k < rs.length) (i : Nat) (hi : i < K) (his : i ≠ s) (x : Value) :
    OwnN K s Ki e ei base top (w.setCell ⟨g, k * K + i, none⟩ x) (.slice (some ⟨g, 0, none⟩) n c) (rs.set k (r.setc i x)) := by
  have h1 := h.setc hne k (by simpa using hk) i hi his x
  simpa using h1
theorem OwnN.subK {K s Ki e ei base top : Nat} {w : World} {v : Value} {k : Nat} {rs : List NR} {r : NR} (h : OwnN K s Ki e ei base top w v (rs.set k r)) (hk : k < rs.length) {u : Value} (hu : r.cs[s]? = some u) : w.ownsRow base ei Ki u r.n r.ins ∧ InSp base top u := by
  obtain ⟨u2, a, b, c⟩ := h.sub k (by simpa using hk)
  simp only [List.getElem_set_self] at a b
  have : u2 = u := Option.some.inj (a.symm.trans hu)
  subst this
  exact ⟨b, c⟩
theorem OwnN.setiK {K s Ki e ei base top : Nat} {w w' : World} {v u : Value} {k : Nat} {rs : List NR} {r : NR} (h : OwnN K s Ki e ei base top w v (rs.set k r)) (hne : e ≠ ei) (hk : k < rs.length) (hu : r.cs[s]? = some u) (hg : w.grownBy w' u.ownBlock) (ins : List Value) (hx : w'.ownsRow base ei Ki u r.n ins) :
    OwnN K s Ki e ei base top w' v (rs.set k (r.seti ins)) := by
  have h1 := h.seti hne k (by simpa using hk) (by simpa using hu) hg ins (by simpa using hx)
  simpa using h1
theorem OwnN.cellwK {K s Ki e ei base top : Nat} {w : World} {g n c k : Nat} {rs : List NR} {r : NR} (h : OwnN K s Ki e ei base top w (.slice (some ⟨g, 0, none⟩) n c) (rs.set k r)) (hk : k < rs.length) (i : Nat) (hi : i < K) : (∃ u, w.cell? ⟨g, k * K + i, none⟩ = some u) ∧ w.frozen? ⟨g, k * K + i, none⟩ = false :=
  h.cellw k (by simpa using hk) i hi
theorem OwnN.cellK {K s Ki e ei base top : Nat} {w : World} {g n c k : Nat} {rs : List NR} {r : NR} (h : OwnN K s Ki e ei base top w (.slice (some ⟨g, 0, none⟩) n c) (rs.set k r)) (hk : k < rs.length) (i : Nat) (hi : i < K) : w.cell? ⟨g, k * K + i, none⟩ = r.cs[i]? := by
  have h1 := h.cell k (by simpa using hk) i hi
  simpa using h1
theorem held_keepN {w W W' : World} {g i : Nat} {v : Value} (hg : g < w.heap.size) (hc : W.cell? ⟨g, i, none⟩ = some v) (hb : Below w.heap.size w W) (hb1 : Below W.heap.size W W') :
    W'.cell? ⟨g, i, none⟩ = some v ∧ Below w.heap.size w W' :=
  ⟨(hb1.cell (p := ⟨g, i, none⟩) (Nat.lt_of_lt_of_le hg hb.size)).trans hc, hb.trans (hb1.mono hb.size)⟩
/-- An empty list made of nothing. -/
theorem OwnN.empty {K s Ki e ei base : Nat} {w : World} (h : base ≤ w.heap.size) : OwnN K s Ki e ei base (w.alloc (.cells #[] e (0, 0))).heap.size (w.alloc (.cells #[] e (0, 0))) (.slice (some ⟨w.heap.size, 0, none⟩) 0 0) [] :=
  ⟨fun r h => (by cases h), ⟨by simp [flatN], Or.inr ⟨_, 0, #[], rfl, h, heap_alloc_new _ _, Nat.le_refl _, by unfold maxLen; omega, by simp, by simp [flatN]⟩⟩, fun k hk => (by cases hk; exact ⟨h, by simp⟩), fun j hj => (by simp at hj), fun i j hi => (by simp at hi)⟩
/-- One more. -/
theorem OwnN.push {K s Ki e ei base top : Nat} {w w' : World} {v v' : Value} {rs : List NR} (hne : e ≠ ei) (h : OwnN K s Ki e ei base top w v rs) (r : NR) (u : Value) (hl : r.cs.length = K) (hu : r.cs[s]? = some u) (hx : w.ownsRow base ei Ki u r.n r.ins)
    (hap : ∀ q (hq : q < rs.length) x, (rs[q]'hq).cs[s]? = some x → Apart x u) (hr : w'.ownsRow base e K v' (rs.length + 1) (flatN rs ++ r.cs)) (hg : w.grownBy w' v.ownBlock) : OwnN K s Ki e ei base w'.heap.size w' v' (rs ++ [r]) := by
  have hfl : flatN (rs ++ [r]) = flatN rs ++ r.cs := by simp [flatN]
  have kept : ∀ {x : Value} {n : Nat} {xs : List Value}, w.ownsRow base ei Ki x n xs → w'.ownsRow base ei Ki x n xs := fun {x n xs} hx => hx.kept hg (by
    cases hv : x.ownBlock with
    | none => exact Or.inl rfl
    | some k => exact Or.inr (fun e2 => apart_type h.row hx hne k e2.symm hv))
  refine ⟨fun x hx => ?_, by rw [hfl]; simpa using hr, fun k hk => hr.lt k hk, fun q hq => ?_, fun p q hp hq hpq x x' hx1 hx2 => ?_⟩
  · rcases List.mem_append.1 hx with h1 | h1
    · exact h.len x h1
    · obtain rfl := List.mem_singleton.1 h1; exact hl
  · by_cases hlt : q < rs.length
    · obtain ⟨x, a, b, c⟩ := h.sub q hlt
      simp only [List.getElem_append_left hlt]
      exact ⟨x, a, kept b, fun k hk => (kept b).lt k hk⟩
    · have hq' : q = rs.length := by simp at hq; omega
      subst hq'
      simp only [List.getElem_concat_length]
      exact ⟨u, hu, kept hx, fun k hk => (kept hx).lt k hk⟩
  · simp only [List.getElem_append, List.getElem_singleton] at hx1 hx2
    split at hx1
    · rename_i h1
      split at hx2
      · rename_i h2
        exact h.ap p q h1 h2 hpq x x' hx1 hx2
      · have : x' = u := Option.some.inj (hx2.symm.trans hu)
        subst this
        exact hap p h1 x hx1
    · rename_i h1
      split at hx2
      · rename_i h2
        have : x = u := Option.some.inj (hx1.symm.trans hu)
        subst this
        exact (hap q h2 x' hx2).symm
      · simp at hp hq; omega
end Go.Proofs.Ytfcgdhedaefonaa
