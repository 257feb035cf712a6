/-
  The state of the draw of a calendar: its parts, and what keeps them.
-/
import Derived.Test.YtkhonlcekjckoaaRows
import Derived.Test.YtkhonlcekjckoaaExcs
import Derived.Test.YtkhonlcekjckoaaExcsRow
import Derived.Test.YtkhonlcekjckoaaCalDraw
import Derived.Test.YtkhonlcekjckoaaDraw
import Derived.Test.YtkhonlcekjckoaaDrawMore
import Derived.Test.YtkhonlcekjckoaaDrawInt
import Derived.Test.YtkhonlcekjckoaaHold
import Derived.Deep.RegionLaw
import Derived.OwnWalk
namespace Go.Proofs.Ytkhonlcekjckoaa
open Go.RowKit

theorem own_hd' {W0 W : World} {base e size : Nat} {v : Value} {k : Nat} {xs : List Value} {g : Nat} (h : W0.ownsRow base e size v k xs) (hd : W0.grownBy W (some g)) (hb : g < base) : W.ownsRow base e size v k xs :=
  own_hd h hd hb
/-- Where the parts lie: the cursor, the result, the calendar, the week. -/
structure Lie (b R O gw E0 : Nat) : Prop where
  bR : b < R
  RO : R < O
  Rg : R < gw
  gO : gw ≠ O
  OE : O < E0
  gE : gw < E0

/-- The state: w is the world of the beginning, W that at hand; the calendar's cells hold the week and the exceptions. -/
structure CS (B b R O gw E0 : Nat) (a : Option Addr) (n c : Nat) (w W : World) (ws : List Int) (vx : Value) (es : List (Int × Int)) : Prop where
  cur : CurAt B W b a n c
  gr : w.grownBy W (some b)
  row : W.heap[R]? = some (.cells #[.slice none 0 0, .slice none 0 0] 27 (0, 0))
  out : W.heap[O]? = some (.cells #[.slice (some ⟨gw, 0, none⟩) 7 7, vx] 27 (0, 0))
  wk : W.ownsRow R 3 1 (.slice (some ⟨gw, 0, none⟩) 7 7) 7 (ws.map (Value.int .i64))
  ex : W.ownsRow E0 56 2 vx es.length (halfE es es.length es.length)

variable {B b R O gw E0 : Nat} {a : Option Addr} {n c : Nat} {w W W' : World} {ws : List Int} {vx : Value} {es : List (Int × Int)}

theorem CS.alloc (h : CS B b R O gw E0 a n c w W ws vx es) (o : Obj) : CS B b R O gw E0 a n c w (W.alloc o) ws vx es :=
  ⟨h.cur.alloc o, h.gr.trans (World.grownBy_alloc W o _), blk_alloc h.row o, blk_alloc h.out o, h.wk.alloc o, h.ex.alloc o⟩
theorem CS.drew (h : CS B b R O gw E0 a n c w W ws vx es) : CS B b R O gw E0 a n c w W.drew ws vx es := ⟨h.cur, ⟨h.gr.os, h.gr.tape, h.gr.output, h.gr.size, h.gr.block⟩, h.row, h.out, h.wk, h.ex⟩
theorem CS.drawn (h : CS B b R O gw E0 a n c w W ws vx es) (l : Lie b R O gw E0) (hd : Drawn B b a n c W W') : CS B b R O gw E0 a n c w W' ws vx es := by
  have l1 := l.bR
  have l2 := l.RO
  have l3 := l.OE
  exact ⟨hd.cur, h.gr.trans hd.grown, hd.blk h.row (by omega), hd.blk h.out (by omega), own_hd h.wk hd.grown (by omega), own_hd h.ex hd.grown (by omega)⟩
theorem CS.lt (h : CS B b R O gw E0 a n c w W ws vx es) : O < W.heap.size := lt_of_heap h.out
theorem CS.c0 (h : CS B b R O gw E0 a n c w W ws vx es) : W.cell? ⟨O, 0, none⟩ = some (.slice (some ⟨gw, 0, none⟩) 7 7) := cell_of_row _ _ 0 _ _ _ h.out
theorem CS.c1 (h : CS B b R O gw E0 a n c w W ws vx es) : W.cell? ⟨O, 1, none⟩ = some vx := cell_of_row _ _ 1 _ _ _ h.out
theorem CS.f1 (h : CS B b R O gw E0 a n c w W ws vx es) : W.frozen? ⟨O, 1, none⟩ = false := frozen_of_row _ _ 1 _ _ h.out
theorem CS.f0 (h : CS B b R O gw E0 a n c w W ws vx es) : W.frozen? ⟨O, 0, none⟩ = false := frozen_of_row _ _ 0 _ _ h.out

theorem halfE_push (es : List (Int × Int)) (x y : Int) : halfE es es.length es.length ++ [Value.int .i64 x, Value.int .i64 y] = halfE (es ++ [(x, y)]) (es ++ [(x, y)]).length (es ++ [(x, y)]).length := by
  apply List.ext_getElem?
  intro j
  have hl : (es ++ [(x, y)]).length = es.length + 1 := by simp
  by_cases h1 : j < es.length * 2
  · rw [List.getElem?_append_left (by rw [halfE_length]; exact h1), halfE_at h1, halfE_at (by rw [hl]; omega), if_pos h1, if_pos (by rw [hl]; omega)]
    have e : (es ++ [(x, y)]).getD (j / 2) (0, 0) = es.getD (j / 2) (0, 0) := by
      rw [List.getD, List.getD, List.getElem?_append_left (by omega)]
    unfold cellE
    rw [e]
  · rw [List.getElem?_append_right (by rw [halfE_length]; omega), halfE_length]
    by_cases h2 : j < (es.length + 1) * 2
    · rw [halfE_at (by rw [hl]; omega), if_pos (by rw [hl]; omega)]
      have e : (es ++ [(x, y)]).getD es.length (0, 0) = (x, y) := by simp [List.getD]
      rcases (show j = es.length * 2 ∨ j = es.length * 2 + 1 by omega) with rfl | rfl
      · rw [cellE_even, e, Nat.sub_self]; rfl
      · rw [cellE_odd, e, Nat.add_sub_cancel_left]; rfl
    · rw [List.getElem?_eq_none (by simp; omega), List.getElem?_eq_none (by rw [halfE_length, hl]; omega)]

/-- An exception more, appended and stored. -/
theorem CS.push (h : CS B b R O gw E0 a n c w W ws vx es) (l : Lie b R O gw E0) {v' : Value} {x y : Int} (hw : w.heap.size = R)
    (ho : W'.ownsRow E0 56 2 v' (es.length + 1) (halfE es es.length es.length ++ [.int .i64 x, .int .i64 y])) (hg : W.grownBy W' vx.ownBlock) :
    CS B b R O gw E0 a n c w (W'.setCell ⟨O, 1, none⟩ v') ws v' (es ++ [(x, y)]) := by
  have l1 := l.bR
  have l2 := l.RO
  have l3 := l.OE
  have l4 := l.gE
  have l5 := l.Rg
  have l6 := l.gO
  have hx : ∀ k, k < E0 → k < W.heap.size → W'.heap[k]? = W.heap[k]? := fun k h1 h2 => hg.block k h2 (fun e => by have := (h.ex.lt k e.symm).1; omega)
  have hout : W'.heap[O]? = some (.cells #[.slice (some ⟨gw, 0, none⟩) 7 7, vx] 27 (0, 0)) := (hx O l3 h.lt).trans h.out
  obtain ⟨hB, i, z, h1, h2, h3, hk⟩ := h.cur
  have hgw : W'.ownsRow R 3 1 (.slice (some ⟨gw, 0, none⟩) 7 7) 7 (ws.map (Value.int .i64)) := h.wk.kept hg (Or.inr (fun e => by have := (h.ex.lt gw e.symm).1; omega))
  refine ⟨⟨hB, i, z, h1, h2, h3, ?_⟩, ⟨?_, ?_, ?_, ?_, fun k hk1 hk2 => ?_⟩, ?_, ?_, ?_, ?_⟩
  · rw [heap_setCell_other _ _ _ _ (by simp; omega), hx b (by omega) (lt_of_heap hk)]; exact hk
  · exact hg.os.trans h.gr.os
  · exact hg.tape.trans h.gr.tape
  · exact hg.output.trans h.gr.output
  · have := h.gr.size; have := hg.size; simp; omega
  · rw [heap_setCell_other _ _ _ _ (by simp; omega), hx k (by omega) (Nat.lt_of_lt_of_le hk1 h.gr.size)]
    exact h.gr.block k hk1 hk2
  · rw [heap_setCell_other _ _ _ _ (by simp; omega), hx R (by omega) (lt_of_heap h.row)]; exact h.row
  · exact heap_setCell_same _ _ 1 _ _ _ hout
  · exact hgw.kept (row := some O) ⟨rfl, rfl, rfl, by simp, fun k _ hk => heap_setCell_other _ _ _ _ (fun e => hk (by simp [e]))⟩ (Or.inr (by simpa [Value.ownBlock] using l6))
  · have := own_set ho O 1 v' l3
    rw [halfE_push] at this
    rw [show (es ++ [(x, y)]).length = es.length + 1 by simp] at this ⊢
    exact this

theorem CS.outApp (h : CS B b R O gw E0 a n c w W ws vx es) (l : Lie b R O gw E0) (hg : W.grownBy W' vx.ownBlock) : W'.heap[O]? = some (.cells #[.slice (some ⟨gw, 0, none⟩) 7 7, vx] 27 (0, 0)) :=
  (hg.block O h.lt (fun e => by have := (h.ex.lt O e.symm).1; have := l.OE; omega)).trans h.out
/-- No exceptions yet: their place is free. -/
theorem CS.rebase (h : CS B b R O gw E0 a n c w W ws (.slice none 0 0) []) (E1 : Nat) : CS B b R O gw E1 a n c w W ws (.slice none 0 0) [] := ⟨h.cur, h.gr, h.row, h.out, h.wk, World.ownsRow_nil _ _ _ _⟩
/-- Another week. -/
theorem CS.fresh (h : CS B b R O gw E0 a n c w W ws (.slice none 0 0) []) (hbR : b < R) (hRO : R < O) (hw : w.heap.size = R) (zs : List Int) (hz : zs.length = 7) :
    CS B b R O W.heap.size E0 a n c w ((W.setCell ⟨O, 0, none⟩ (.slice (some ⟨W.heap.size, 0, none⟩) 7 7)).alloc (.cells (zs.map (Value.int .i64)).toArray 3)) zs (.slice none 0 0) [] := by
  obtain ⟨hB, i, z, h1, h3, h4, hk⟩ := h.cur
  have hO := h.lt
  have hs : (W.setCell ⟨O, 0, none⟩ (.slice (some ⟨W.heap.size, 0, none⟩) 7 7)).heap.size = W.heap.size := by simp
  refine ⟨CurAt.alloc ⟨hB, i, z, h1, h3, h4, ?_⟩ _, (show w.grownBy (W.setCell ⟨O, 0, none⟩ (.slice (some ⟨W.heap.size, 0, none⟩) 7 7)) (some b) from ⟨h.gr.os, h.gr.tape, h.gr.output, by rw [hs]; exact h.gr.size, fun j hj1 hj2 => ?_⟩).trans (World.grownBy_alloc _ _ _), blk_alloc ?_ _, blk_alloc (heap_setCell_same _ _ 0 _ _ _ h.out) _, ?_, World.ownsRow_nil _ _ _ _⟩
  · rw [heap_setCell_other _ _ _ _ (by simp; omega)]; exact hk
  · rw [heap_setCell_other _ _ _ _ (by simp; omega)]; exact h.gr.block j hj1 hj2
  · rw [heap_setCell_other _ _ _ _ (by simp; omega)]; exact h.row
  · have h0 := World.ownsRow_lit (base := R) (e := 3) (size := 1) (W.setCell ⟨O, 0, none⟩ (.slice (some ⟨W.heap.size, 0, none⟩) 7 7)) (zs.map (Value.int .i64)).toArray 7 (by rw [hs]; omega) (by unfold maxLen; omega) (by simpa using hz)
    rw [hs] at h0
    simpa using h0
theorem codeAt_drew {B : Nat} {W : World} {a : Option Addr} {n : Nat} (h : CodeAt B W a n) : CodeAt B W.drew a n := h
theorem curAt_drew {B b : Nat} {W : World} {a : Option Addr} {n c : Nat} (h : CurAt B W b a n c) : CurAt B W.drew b a n c := h
theorem intsAt_drew {W : World} {g N : Nat} (h : IntsAt W g N) : IntsAt W.drew g N := h
/-- The cells of a pair that has just been laid. -/
theorem pair_new (W : World) (x y : Value) (T : TypeId) : ∀ (j : Nat) (u : Value), [x, y][j]? = some u → (W.alloc (.cells #[x, y] T)).cell? ((⟨W.heap.size, 0, none⟩ : Addr).add j) = some u := by
  intro j u hu
  match j, hu with
  | 0, hu => simp at hu; subst hu; exact cell_of_row _ _ 0 _ _ _ (heap_alloc_new _ _)
  | 1, hu => simp at hu; subst hu; exact cell_of_row _ _ 1 _ _ _ (heap_alloc_new _ _)

/-- One of the week's hours, changed. -/
theorem CS.week (h : CS B b R O gw E0 a n c w W ws vx es) (l : Lie b R O gw E0) (hw : w.heap.size = R) (k : Nat) (x : Int) : CS B b R O gw E0 a n c w (W.setCell ⟨gw, k, none⟩ (.int .i64 x)) (ws.set k x) vx es := by
  have l1 := l.bR
  have l2 := l.RO
  have l4 := l.gE
  have l5 := l.Rg
  have l6 := l.gO
  obtain ⟨hB, i, z, h1, h2, h3, hk⟩ := h.cur
  refine ⟨⟨hB, i, z, h1, h2, h3, ?_⟩, ⟨h.gr.os, h.gr.tape, h.gr.output, by simpa using h.gr.size, fun j hj1 hj2 => ?_⟩, ?_, ?_, ?_, own_set h.ex gw k _ l4⟩
  · rw [heap_setCell_other _ _ _ _ (by simp; omega)]; exact hk
  · rw [heap_setCell_other _ _ _ _ (by simp; omega)]; exact h.gr.block j hj1 hj2
  · rw [heap_setCell_other _ _ _ _ (by simp; omega)]; exact h.row
  · rw [heap_setCell_other _ _ _ _ (by simpa using Ne.symm l6)]; exact h.out
  · have := (h.wk.stored k (.int .i64 x)).1
    rwa [← List.map_set] at this

theorem own_up {W : World} {base base' e size : Nat} {g k cap : Nat} {xs : List Value} (h : W.ownsRow base e size (.slice (some ⟨g, 0, none⟩) k cap) k xs) (hb : base' ≤ g) : W.ownsRow base' e size (.slice (some ⟨g, 0, none⟩) k cap) k xs := by
  refine ⟨h.1, ?_⟩
  rcases h.2 with ⟨h', _⟩ | ⟨g', cap', cur, h', _, r⟩
  · cases h'
  · have e1 : g' = g := by simp only [Value.slice.injEq, Option.some.injEq, Addr.mk.injEq] at h'; exact h'.1.1.symm
    subst e1
    exact Or.inr ⟨g', cap', cur, h', hb, r⟩

/-- The state of the end. -/
structure FS (B b R O : Nat) (a : Option Addr) (n c : Nat) (w W : World) (vw : Value) (ws : List Int) (vx : Value) (es : List (Int × Int)) : Prop where
  dr : Drawn B b a n c w W
  row : W.heap[R]? = some (.cells #[.slice none 0 0, .slice none 0 0] 27 (0, 0))
  out : W.heap[O]? = some (.cells #[vw, vx] 27 (0, 0))
  wk : W.ownsRow (R + 1) 3 1 vw ws.length (ws.map (Value.int .i64))
  ex : W.ownsRow (R + 1) 56 2 vx es.length (halfE es es.length es.length)
  lw : ws.length ≤ 8
  le : es.length ≤ 8

theorem FS.cast {vw vw' vx vx' : Value} (h : FS B b R O a n c w W vw ws vx es) (e1 : vw = vw') (e2 : vx = vx') : FS B b R O a n c w W vw' ws vx' es := by
  subst e1
  subst e2
  exact h
theorem CS.fs (h : CS B b R O gw E0 a n c w W ws vx es) (l : Lie b R O gw E0) (h7 : ws.length = 7) (he : es.length ≤ 8) : FS B b R O a n c w W (.slice (some ⟨gw, 0, none⟩) 7 7) ws vx es :=
  ⟨⟨h.cur, h.gr⟩, h.row, h.out, by rw [h7]; exact own_up h.wk l.Rg, own_base h.ex (by have := l.RO; have := l.OE; omega), by omega, he⟩

/-- A day more in the week, appended and stored. -/
theorem CS.more (h : CS B b R O gw E0 a n c w W ws vx es) (l : Lie b R O gw E0) (hw : w.heap.size = R) (h7 : ws.length = 7) (he : es.length ≤ 8) {g' cap' : Nat} {x : Int}
    (ho : W'.ownsRow R 3 1 (.slice (some ⟨g', 0, none⟩) 8 cap') 8 (ws.map (Value.int .i64) ++ [.int .i64 x])) (hg : W.grownBy W' (some gw)) (hs : g' = gw ∨ W.heap.size ≤ g') :
    FS B b R O a n c w (W'.setCell ⟨O, 0, none⟩ (.slice (some ⟨g', 0, none⟩) 8 cap')) (.slice (some ⟨g', 0, none⟩) 8 cap') (ws ++ [x]) vx es := by
  have l1 := l.bR
  have l2 := l.RO
  have l3 := l.OE
  have l4 := l.gE
  have l5 := l.Rg
  have l6 := l.gO
  have hlt := h.lt
  have hx : ∀ k, k ≠ gw → k < W.heap.size → W'.heap[k]? = W.heap[k]? := fun k h1 h2 => hg.block k h2 (fun e => h1 (Option.some.inj e))
  obtain ⟨hB, i, z, h1, h2, h3, hk⟩ := h.cur
  have hgr := h.gr.size
  refine ⟨⟨⟨hB, i, z, h1, h2, h3, ?_⟩, ⟨?_, ?_, ?_, ?_, fun k hk1 hk2 => ?_⟩⟩, ?_, ?_, ?_, ?_, by simp [h7], he⟩
  · rw [heap_setCell_other _ _ _ _ (by simp; omega), hx b (by omega) (lt_of_heap hk)]; exact hk
  · exact hg.os.trans h.gr.os
  · exact hg.tape.trans h.gr.tape
  · exact hg.output.trans h.gr.output
  · have := hg.size; simp; omega
  · rw [heap_setCell_other _ _ _ _ (by simp; omega), hx k (by omega) (by omega)]
    exact h.gr.block k hk1 hk2
  · rw [heap_setCell_other _ _ _ _ (by simp; omega), hx R (by omega) (by omega)]; exact h.row
  · exact heap_setCell_same _ _ 0 _ _ _ ((hx O (Ne.symm l6) hlt).trans h.out)
  · have h0 := own_up (base' := R + 1) ho (by rcases hs with e | e <;> omega)
    rw [List.map_append, List.length_append, h7]
    exact h0.kept (row := some O) ⟨rfl, rfl, rfl, by simp, fun k _ hk => heap_setCell_other _ _ _ _ (fun e => hk (by simp [e]))⟩ (Or.inr (by simp [Value.ownBlock]; rcases hs with e | e <;> omega))
  · exact own_base (own_set (own_hd' h.ex hg (by omega)) O 0 _ l3) (by omega)

/-- An append to a row of one's own, as one step of a region that draws. -/
theorem step_append_mine {P : Program} {ops : Array Oper} {o : Oper} {ac : Act} {w : World} {K : Act → World → Prop} {Q : Exit → Act → World → Prop} {X : Prop}
    (hg : o.guard = none) (s x : Operand) (t : TypeId) (hop : o.op = Op.call { callee := Callee.builtin Builtin.append, args := #[s, x], argTypes := #[t, t] })
    (base : Nat) (e : TypeId) (i : TypeInfo) (z : Value) (size bytes : Nat) (h1 : P.underlying t = some (.slice e)) (h2 : P.info? e = some i) (h3 : i.zero = some z) (h4 : i.size = size) (h5 : i.bytes = bytes) (h6 : z.cells.size = size) (h7 : 0 < size)
    (v : Value) (k : Nat) (olds : List Value) (hs : ac.eval s = v) (hown : w.ownsRow base e size v k olds)
    (ad : Addr) (m cc : Nat) (news : List Value) (hx : ac.eval x = .slice (some ad) m cc) (hn : news.length = m * size) (hc : ∀ j u, news[j]? = some u → w.cell? (ad.add j) = some u) (h1c : ∀ u ∈ news, u.oneCell' = true)
    (b1 : k + m ≤ maxLen) (b2 : (k + m) * bytes ≤ 140737488355328) (hbase : base ≤ w.heap.size)
    (hK : ∀ v' w', w'.ownsRow base e size v' (k + m) (olds ++ news) → w.grownBy w' v.ownBlock → K (ac.put o.dst v') w') :
    if Region.wanted o (yielded ops ac.tmps) = true then Oper.wp P o ac w K Q else X := by
  have hw : Region.wanted o (yielded ops ac.tmps) = true := by simp [Region.wanted, hg]
  rw [if_pos hw]
  obtain ⟨v', w', hrun, r1, r2, _⟩ := run_append_own (P := P) w base t o.type e i z size bytes h1 h2 h3 h4 h5 h6 h7 v k olds hown ad m cc news hn hc h1c b1 b2 hbase
  unfold Oper.wp
  simp [execOp, hop, resolve, invoke, builtin, hs, hx, hrun, Result.andThen]
  exact hK v' w' r1 r2
end Go.Proofs.Ytkhonlcekjckoaa
