/-
  The state of the draw of a table of rules: its parts, and what keeps them.
-/
import Derived.Test.YtaomjggamamckaaRows
import Derived.Test.YtaomjggamamckaaRules
import Derived.Test.YtaomjggamamckaaUnitSpec
import Derived.Test.YtaomjggamamckaaDraw
import Derived.Test.YtaomjggamamckaaDrawMore
import Derived.Test.YtaomjggamamckaaDrawInt
import Derived.Test.YtaomjggamamckaaDrawText
import Derived.Test.YtaomjggamamckaaHold
import Derived.WalkKit
import Derived.ProofKit
import Derived.OwnWalk
import Derived.Laws.AppendOwn
import Derived.Laws.OwnMore
import Derived.Deep.RegionLaw
namespace Go.Proofs.Ytaomjggamamckaa
open Go.RowKit

/-- The cells of a row of rules. -/
def cellsU (rs : List UR) : List Value := rs.flatMap fun r => [.string r.src, .string r.dst, .int .i64 r.num, .int .i64 r.den]
theorem cellsU_nil : cellsU [] = [] := rfl
theorem cellsU_cons (r : UR) (rs : List UR) : cellsU (r :: rs) = .string r.src :: .string r.dst :: .int .i64 r.num :: .int .i64 r.den :: cellsU rs := rfl
theorem cellsU_push (rs : List UR) (r : UR) : cellsU rs ++ [.string r.src, .string r.dst, .int .i64 r.num, .int .i64 r.den] = cellsU (rs ++ [r]) := by simp [cellsU]
theorem cellsU_length (rs : List UR) : (cellsU rs).length = rs.length * 4 := by
  induction rs with
  | nil => rfl
  | cons r rs ih => rw [cellsU_cons]; simp only [List.length_cons, ih]; omega
theorem cellsU_at (rs : List UR) : ∀ (j : Nat) (x : UR), rs[j]? = some x → (cellsU rs)[j * 4]? = some (.string x.src) ∧ (cellsU rs)[j * 4 + 1]? = some (.string x.dst) ∧ (cellsU rs)[j * 4 + 2]? = some (.int .i64 x.num) ∧ (cellsU rs)[j * 4 + 3]? = some (.int .i64 x.den) := by
  induction rs with
  | nil => intro j x h; simp at h
  | cons r rs ih =>
    intro j x h
    cases j with
    | zero =>
      simp at h
      subst h
      exact ⟨rfl, rfl, rfl, rfl⟩
    | succ k =>
      have h2 := ih k x (by simpa using h)
      rw [cellsU_cons, show (k + 1) * 4 = k * 4 + 1 + 1 + 1 + 1 by omega, show k * 4 + 1 + 1 + 1 + 1 + 1 = (k * 4 + 1) + 1 + 1 + 1 + 1 by omega, show k * 4 + 1 + 1 + 1 + 1 + 2 = (k * 4 + 2) + 1 + 1 + 1 + 1 by omega, show k * 4 + 1 + 1 + 1 + 1 + 3 = (k * 4 + 3) + 1 + 1 + 1 + 1 by omega]
      simp only [List.getElem?_cons_succ]
      exact h2
theorem rules_of_cells {w : World} {base e : Nat} {v : Value} {rs : List UR} (h : w.ownsRow base e 4 v rs.length (cellsU rs)) : Rules w v rs := by
  rcases h.2 with ⟨rfl, hx⟩ | ⟨g, cap, cur, rfl, hb, hg, hnc, hcm, hcs, htake⟩
  · exact Or.inl ⟨List.eq_nil_of_length_eq_zero hx, _, _, rfl⟩
  · by_cases h0 : rs = []
    · subst h0
      exact Or.inl ⟨rfl, _, _, rfl⟩
    · refine Or.inr ⟨h0, g, 0, cap, rfl, hnc, (h.lt g rfl).2, fun j x hx => ?_⟩
      have hj : j < rs.length := (List.getElem?_eq_some_iff.1 hx).1
      have h4 := cellsU_at rs j x hx
      rw [Nat.zero_add, h.cellAt (j * 4) (by omega), h.cellAt (j * 4 + 1) (by omega), h.cellAt (j * 4 + 2) (by omega), h.cellAt (j * 4 + 3) (by omega)]
      exact h4

theorem ownU_hd {b : Nat} {W0 W : World} {base e size : Nat} {v : Value} {k : Nat} {xs : List Value} (h : W0.ownsRow base e size v k xs) (hd : W0.grownBy W (some b)) (hb : b < base) : W.ownsRow base e size v k xs :=
  h.kept hd (by
    cases hv : v.ownBlock with
    | none => exact Or.inl rfl
    | some j => exact Or.inr (fun e => by have := (h.lt j hv).1; cases e; omega))
theorem ownU_below {W0 W : World} {base e size : Nat} {v : Value} {k : Nat} {xs : List Value} (h : W0.ownsRow base e size v k xs) (hd : Below W0.heap.size W0 W) : W.ownsRow base e size v k xs :=
  h.kept (row := none) ⟨hd.os, hd.tape, hd.output, hd.size, fun k hk _ => hd.block k hk⟩ (by
    cases hv : v.ownBlock with
    | none => exact Or.inl rfl
    | some j => exact Or.inr (fun e => by cases e))
theorem ownU_base {w : World} {base base' e size : Nat} {v : Value} {k : Nat} {xs : List Value} (h : w.ownsRow base e size v k xs) (hle : base' ≤ base) : w.ownsRow base' e size v k xs :=
  ⟨h.1, h.2.imp id (fun ⟨g, cap, cur, hv, hb, r⟩ => ⟨g, cap, cur, hv, Nat.le_trans hle hb, r⟩)⟩
theorem belowU {b base : Nat} {W0 W : World} (h : W0.grownBy W (some b)) (hb : base ≤ b) (hB : base ≤ W0.heap.size) : Below base W0 W := (Below.refl base W0).grown h hB (fun k hk => by cases hk; exact hb)
theorem curU_down {B B' b : Nat} {w : World} {a : Option Addr} {n c : Nat} (h : CurAt B w b a n c) (hle : B' ≤ B) : CurAt B' w b a n c := ⟨Nat.le_trans hle h.1, h.2⟩
theorem codeU_up {B B' : Nat} {w : World} {a : Option Addr} {n : Nat} (h : CodeAt B w a n) (hle : B ≤ B') : CodeAt B' w a n := by
  rcases h with h | ⟨b, o, ha, hlt, hc⟩
  · exact Or.inl h
  · exact Or.inr ⟨b, o, ha, by omega, hc⟩

/-- Where the parts lie: the cursor, the two lists, the table. -/
structure LieU (b wg ng E0 : Nat) : Prop where
  bw : b < wg
  wn : wg < ng
  nE : ng < E0

/-- The state: w is the world of the beginning, W that at hand. -/
structure TS (B b wg ng E0 : Nat) (a : Option Addr) (n c : Nat) (w W : World) (vl : Value) (rs : List UR) : Prop where
  cur : CurAt B W b a n c
  gr : w.grownBy W (some b)
  wo : IntsAt W wg 6
  na : TextsAt W ng 6
  row : W.ownsRow E0 79 4 vl rs.length (cellsU rs)
  sz : ∀ r, r ∈ rs → r.src.size ≤ 1000 ∧ r.dst.size ≤ 1000
  E : E0 ≤ W.heap.size

variable {B b wg ng E0 : Nat} {a : Option Addr} {n c : Nat} {w W W' : World} {vl : Value} {rs : List UR}

theorem cellU_grown {p : Addr} {v : Value} (h : W.cell? p = some v) {o : Option Nat} (hd : W.grownBy W' o) (hne : o ≠ some p.block) : W'.cell? p = some v := hd.cell h (fun e => hne (by rw [← e]))
theorem ints_grown {g N : Nat} (h : IntsAt W g N) {o : Option Nat} (hd : W.grownBy W' o) (hne : o ≠ some g) : IntsAt W' g N := fun j hj => by
  obtain ⟨z, z0, z1, hz⟩ := h j hj
  exact ⟨z, z0, z1, hd.cell hz (fun e => hne (by rw [← e]))⟩
theorem texts_grown {g N : Nat} (h : TextsAt W g N) {o : Option Nat} (hd : W.grownBy W' o) (hne : o ≠ some g) : TextsAt W' g N := fun j hj => by
  obtain ⟨z, z0, hz⟩ := h j hj
  exact ⟨z, z0, hd.cell hz (fun e => hne (by rw [← e]))⟩
theorem curU_grown (h : CurAt B W b a n c) {o : Option Nat} (hd : W.grownBy W' o) (hne : o ≠ some b) : CurAt B W' b a n c := by
  obtain ⟨hB, i, z, h1, h2, h3, hk⟩ := h
  exact ⟨hB, i, z, h1, h2, h3, (hd.block b (lt_of_heap hk) (fun e => hne e.symm)).trans hk⟩
theorem TS.lt (h : TS B b wg ng E0 a n c w W vl rs) : b < W.heap.size := h.cur.lt
theorem TS.drew (h : TS B b wg ng E0 a n c w W vl rs) : TS B b wg ng E0 a n c w W.drew vl rs := ⟨h.cur, ⟨h.gr.os, h.gr.tape, h.gr.output, h.gr.size, h.gr.block⟩, h.wo, h.na, h.row, h.sz, h.E⟩
theorem TS.drawn (h : TS B b wg ng E0 a n c w W vl rs) (l : LieU b wg ng E0) (hd : Drawn B b a n c W W') : TS B b wg ng E0 a n c w W' vl rs := by
  have l1 := l.bw
  have l2 := l.wn
  have l3 := l.nE
  exact ⟨hd.cur, h.gr.trans hd.grown, ints_grown h.wo hd.grown (by simp; omega), texts_grown h.na hd.grown (by simp; omega), ownU_hd h.row hd.grown (by omega), h.sz, Nat.le_trans h.E hd.grown.size⟩
theorem TS.below (h : TS B b wg ng E0 a n c w W vl rs) (hd : Below W.heap.size W W') : TS B b wg ng E0 a n c w W' vl rs := by
  have hg : W.grownBy W' none := ⟨hd.os, hd.tape, hd.output, hd.size, fun k hk _ => hd.block k hk⟩
  refine ⟨curU_grown h.cur hg (by simp), ?_, ints_grown h.wo hg (by simp), texts_grown h.na hg (by simp), ownU_below h.row hd, h.sz, Nat.le_trans h.E hd.size⟩
  exact h.gr.trans ⟨hd.os, hd.tape, hd.output, hd.size, fun k hk _ => hd.block k hk⟩

/-- The table's own block has changed: all else stands. -/
theorem TS.own (h : TS B b wg ng E0 a n c w W vl rs) (l : LieU b wg ng E0) (hw : w.heap.size ≤ E0) {o : Option Nat} (ho : ∀ g, o = some g → E0 ≤ g) (hg : W.grownBy W' o) {vl' : Value} {rs' : List UR}
    (hrow : W'.ownsRow E0 79 4 vl' rs'.length (cellsU rs')) (hsz : ∀ r, r ∈ rs' → r.src.size ≤ 1000 ∧ r.dst.size ≤ 1000) : TS B b wg ng E0 a n c w W' vl' rs' := by
  have l1 := l.bw
  have l2 := l.wn
  have l3 := l.nE
  refine ⟨curU_grown h.cur hg (fun e => by have := ho _ e; omega), ⟨hg.os.trans h.gr.os, hg.tape.trans h.gr.tape, hg.output.trans h.gr.output, Nat.le_trans h.gr.size hg.size, fun k hk1 hk2 => ?_⟩,
    ints_grown h.wo hg (fun e => by have := ho _ e; omega), texts_grown h.na hg (fun e => by have := ho _ e; omega), hrow, hsz, Nat.le_trans h.E hg.size⟩
  exact (hg.block k (Nat.lt_of_lt_of_le hk1 h.gr.size) (fun e => by have := ho _ e.symm; omega)).trans (h.gr.block k hk1 hk2)

/-- A rule more, appended. -/
theorem TS.push (h : TS B b wg ng E0 a n c w W vl rs) (l : LieU b wg ng E0) (hw : w.heap.size ≤ E0) {v' : Value} {r : UR} {k : Nat} (hk : rs.length = k)
    (ho : W'.ownsRow E0 79 4 v' (k + 1) (cellsU rs ++ [.string r.src, .string r.dst, .int .i64 r.num, .int .i64 r.den])) (hg : W.grownBy W' vl.ownBlock) (h1 : r.src.size ≤ 1000) (h2 : r.dst.size ≤ 1000) :
    TS B b wg ng E0 a n c w W' v' (rs ++ [r]) := by
  subst hk
  refine h.own l hw (fun g e => (h.row.lt g e).1) hg ?_ (fun x hx => ?_)
  · rw [cellsU_push] at ho
    rw [List.length_append]
    exact ho
  · rcases List.mem_append.1 hx with hx | hx
    · exact h.sz x hx
    · obtain rfl := List.mem_singleton.1 hx
      exact ⟨h1, h2⟩

/-- The first rule's factor, written anew. -/
theorem TS.factor {g cap : Nat} {r : UR} (h : TS B b wg ng E0 a n c w W (.slice (some ⟨g, 0, none⟩) (r :: rs).length cap) (r :: rs)) (l : LieU b wg ng E0) (hw : w.heap.size ≤ E0) (x y : Int) :
    TS B b wg ng E0 a n c w ((W.setCell ⟨g, 2, none⟩ (.int .i64 x)).setCell ⟨g, 3, none⟩ (.int .i64 y)) (.slice (some ⟨g, 0, none⟩) (r :: rs).length cap) ({ r with num := x, den := y } :: rs) := by
  have hE : E0 ≤ g := (h.row.lt g rfl).1
  have h1 := (h.row.stored 2 (.int .i64 x)).1
  have h2 := (h1.stored 3 (.int .i64 y)).1
  refine h.own l hw (o := some g) (fun k e => by cases e; exact hE) ((grown_set W g 2 _).trans (grown_set _ g 3 _)) h2 (fun z hz => ?_)
  rcases List.mem_cons.1 hz with rfl | hz
  · exact h.sz r List.mem_cons_self
  · exact h.sz z (List.mem_cons_of_mem _ hz)
/-- The first rule's factor: its cells. -/
theorem TS.head {p : Option Addr} {q : Nat} {r : UR} (h : TS B b wg ng E0 a n c w W (.slice p (r :: rs).length q) (r :: rs)) : ∃ g cap, (Value.slice p (r :: rs).length q) = .slice (some ⟨g, 0, none⟩) (r :: rs).length cap ∧ E0 ≤ g ∧ g < W.heap.size ∧
    W.cell? ⟨g, 2, none⟩ = some (.int .i64 r.num) ∧ W.cell? ⟨g, 3, none⟩ = some (.int .i64 r.den) ∧ W.frozen? ⟨g, 2, none⟩ = false ∧ W.frozen? ⟨g, 3, none⟩ = false := by
  rcases h.row.2 with ⟨_, hx⟩ | ⟨g, cap, cur, hv, hb, hg, hnc, hcm, hcs, htake⟩
  · simp at hx
  · have h1 := h.row
    rw [hv] at h1
    have hl := h1.lt g rfl
    refine ⟨g, cap, hv, hl.1, hl.2, ?_, ?_, h1.frozenAt 2, h1.frozenAt 3⟩
    · rw [h1.cellAt 2 (by simp; omega), cellsU_cons]; rfl
    · rw [h1.cellAt 3 (by simp; omega), cellsU_cons]; rfl
/-- The cells of a rule that has just been laid. -/
theorem four_new (W : World) (x y z t : Value) (T : TypeId) : ∀ (j : Nat) (u : Value), [x, y, z, t][j]? = some u → (W.alloc (.cells #[x, y, z, t] T)).cell? ((⟨W.heap.size, 0, none⟩ : Addr).add j) = some u := by
  intro j u hu
  match j, hu with
  | 0, hu => simp at hu; subst hu; exact cell_of_row _ _ 0 _ _ _ (heap_new _ _)
  | 1, hu => simp at hu; subst hu; exact cell_of_row _ _ 1 _ _ _ (heap_new _ _)
  | 2, hu => simp at hu; subst hu; exact cell_of_row _ _ 2 _ _ _ (heap_new _ _)
  | 3, hu => simp at hu; subst hu; exact cell_of_row _ _ 3 _ _ _ (heap_new _ _)
/-- A table drawn: the call's own. -/
def DrewT (B b : Nat) (a : Option Addr) (n c : Nat) (w : World) (e : Ending) (w' : World) : Prop :=
  ∃ (p : Option Addr) (q : Nat) (rs : List UR), e = .returned (.slice p rs.length q) ∧ rs.length ≤ 8 ∧ (∀ r, r ∈ rs → r.src.size ≤ 1000 ∧ r.dst.size ≤ 1000) ∧ w'.ownsRow w.heap.size 79 4 (.slice p rs.length q) rs.length (cellsU rs) ∧ Drawn B b a n c w w'
/-- An append to a row of one's own, as one step of a region that draws. -/
theorem step_append_mine {P : Program} {ops : Array Oper} {o : Oper} {ac : Act} {w : World} {K : Act → World → Prop} {Q : Exit → Act → World → Prop} {X : Prop}
    (hg : o.guard = none) (s x : Operand) (t : TypeId) (hop : o.op = Op.call { callee := Callee.builtin Builtin.append, args := #[s, x], argTypes := #[t, t] })
    (base : Nat) (e : TypeId) (i : TypeInfo) (z : Value) (size bytes : Nat) (h1 : P.underlying t = some (.slice e)) (h2 : P.info? e = some i) (h3 : i.zero = some z) (h4 : i.size = size) (h5 : i.bytes = bytes) (h6 : z.cells.size = size) (h7 : 0 < size)
    (v : Value) (k : Nat) (olds : List Value) (hs : ac.eval s = v) (hown : w.ownsRow base e size v k olds)
    (ad : Addr) (m cc : Nat) (news : List Value) (hx : ac.eval x = .slice (some ad) m cc) (hn : news.length = m * size) (hc : ∀ j u, news[j]? = some u → w.cell? (ad.add j) = some u) (h1c : ∀ u ∈ news, u.oneCell' = true)
    (b1 : k + m ≤ maxLen) (b2 : (k + m) * bytes ≤ 140737488355328) (hbase : base ≤ w.heap.size)
    (hK : ∀ v' w', w'.ownsRow base e size v' (k + m) (olds ++ news) → w.grownBy w' v.ownBlock → K (ac.put o.dst v') w') :
    if Region.wanted o (yielded ops ac.tmps) = true then Oper.wp P o ac w K Q else X := by
  have hw : Region.wanted o (yielded ops ac.tmps) = true := by simp [Region.wanted, hg]
  rw [if_pos hw]
  obtain ⟨v', w', hrun, r1, r2, _⟩ := run_append_own (P := P) w base t o.type e i z size bytes h1 h2 h3 h4 h5 h6 h7 v k olds hown ad m cc news hn hc h1c b1 b2 hbase
  unfold Oper.wp
  simp [execOp, hop, resolve, invoke, builtin, hs, hx, hrun, Result.andThen]
  exact hK v' w' r1 r2
end Go.Proofs.Ytaomjggamamckaa
