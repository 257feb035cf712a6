import Derived.Test.YtdhldokpojghdaaBuChg
import Derived.Test.YtdhldokpojghdaaBuOwn
import Derived.Test.YtdhldokpojghdaaBLOwn
import Derived.WalkKit
import Derived.WalkSpells
import Derived.WalkSmall
import Derived.OneCell
import Derived.OwnWalk
import Derived.Laws.AppendOwn
import Derived.Deep.RegionHeld3
import Derived.Laws.OwnMore
import Derived.Lib.Hide
import Derived.Test.YtdhldokpojghdaaBuCat
import Derived.Test.YtdhldokpojghdaaBuA
import Derived.BigQuiet
import Derived.Deep.QuietTactic
import Derived.Deep.DeepCutAuto
import Derived.Test.YtdhldokpojghdaaBillCopy
import Derived.Laws.CopyRow
import Derived.Test.YtdhldokpojghdaaSpecBillsOn
import Derived.Test.YtdhldokpojghdaaBillImpl
import Derived.Test.YtdhldokpojghdaaRows
import Derived.Test.YtdhldokpojghdaaBuRec
import Derived.Test.YtdhldokpojghdaaBuSame
namespace Go.Proofs.Ytdhldokpojghdaa
open Go.RowKit

/-- The lines from the k-th on are changed. -/
noncomputable def curL (x : CH) (ys : List BL) (k : Nat) : List BL := ys.take k ++ chgL x (ys.drop k)
theorem chgL_nil (x : CH) : chgL x [] = [] := rfl
theorem chgL_cons (x : CH) (y : BL) (ys : List BL) : chgL x (y :: ys) = aft x y ++ chgL x ys := rfl
theorem curL_all (x : CH) (ys : List BL) : curL x ys ys.length = ys := by unfold curL; simp [chgL_nil]
theorem curL_zero (x : CH) (ys : List BL) : curL x ys 0 = chgL x ys := by unfold curL; simp
theorem curL_old {x : CH} {ys : List BL} {k : Nat} (hk : k < ys.length) : curL x ys (k + 1) = ys.take k ++ (ys[k]'hk :: chgL x (ys.drop (k + 1))) := by
  unfold curL
  rw [List.take_succ_eq_append_getElem hk, List.append_assoc]; rfl
theorem curL_new {x : CH} {ys : List BL} {k : Nat} (hk : k < ys.length) : curL x ys k = ys.take k ++ (aft x (ys[k]'hk) ++ chgL x (ys.drop (k + 1))) := by
  unfold curL
  rw [List.drop_eq_getElem_cons hk, chgL_cons]
theorem curL_no {x : CH} {ys : List BL} {k : Nat} (hk : k < ys.length) (h : ¬Hit x (ys[k]'hk)) : curL x ys k = curL x ys (k + 1) := by
  rw [curL_new hk, curL_old hk, aft_no h]; rfl
theorem curL_len (x : CH) (ys : List BL) (k : Nat) : (curL x ys k).length ≤ 2 * ys.length := by
  unfold curL
  have h1 := chgL_len x (ys.drop k)
  rw [List.length_append, List.length_take]
  rw [List.length_drop] at h1
  omega
theorem curL_lt {x : CH} {ys : List BL} {k : Nat} (hk : k < ys.length) : k < (curL x ys (k + 1)).length := by
  rw [curL_old hk, List.length_append, List.length_take, List.length_cons]; omega
theorem curL_at {x : CH} {ys : List BL} {k : Nat} (hk : k < ys.length) (h : k < (curL x ys (k + 1)).length) : (curL x ys (k + 1))[k]'h = ys[k]'hk := by
  have h1 : (curL x ys (k + 1))[k]? = some (ys[k]'hk) := by
    rw [curL_old hk, List.getElem?_append_right (by rw [List.length_take]; omega), List.length_take, show k - min k ys.length = 0 by omega]; rfl
  rw [List.getElem?_eq_getElem h] at h1
  exact Option.some.inj h1
theorem curL_take {x : CH} {ys : List BL} {k : Nat} (hk : k < ys.length) : (curL x ys (k + 1)).take k = ys.take k := by
  rw [curL_old hk, List.take_append_of_le_length (by rw [List.length_take]; omega), List.take_take, Nat.min_self]
theorem curL_drop {x : CH} {ys : List BL} {k : Nat} (hk : k < ys.length) : (curL x ys (k + 1)).drop (k + 1) = chgL x (ys.drop (k + 1)) := by
  have h1 : (ys.take k).length = k := by rw [List.length_take]; omega
  rw [curL_old hk, List.drop_append, h1, List.drop_of_length_le (by rw [h1]; omega), show k + 1 - k = 1 by omega]
  rfl
/-- What a change makes of the lines so far. -/
theorem curL_step {x : CH} {ys : List BL} {k : Nat} (hk : k < ys.length) : curL x ys k = (curL x ys (k + 1)).take k ++ aft x (ys[k]'hk) ++ (curL x ys (k + 1)).drop (k + 1) := by
  rw [curL_take hk, curL_drop hk, curL_new hk, List.append_assoc]

/-- Lines told by their records. -/
def Recs (lo hi : Nat) (w : World) (xs : List BL) (rs : List NR) : Prop := rs.length = xs.length ∧ ∀ j (hj : j < xs.length) (hr : j < rs.length), ∃ u, rs[j]'hr = BL.rec1 (xs[j]'hj) u ∧ CX lo hi w u (xs[j]'hj).whn
theorem Recs.nil (lo hi : Nat) (w : World) : Recs lo hi w [] [] := ⟨rfl, fun j hj => by simp at hj⟩
theorem Recs.one {lo hi : Nat} {w : World} {x : BL} {u : Value} (h : CX lo hi w u x.whn) : Recs lo hi w [x] [BL.rec1 x u] := ⟨rfl, fun j hj hr => by
  have : j = 0 := by simpa using hj
  subst this
  exact ⟨u, rfl, h⟩⟩
theorem Recs.append {lo hi : Nat} {w : World} {xs ys : List BL} {rs ss : List NR} (h : Recs lo hi w xs rs) (h2 : Recs lo hi w ys ss) : Recs lo hi w (xs ++ ys) (rs ++ ss) := by
  refine ⟨by rw [List.length_append, List.length_append, h.1, h2.1], fun j hj hr => ?_⟩
  by_cases hlt : j < xs.length
  · rw [List.getElem_append_left hlt, List.getElem_append_left (by rw [h.1]; exact hlt)]
    exact h.2 j hlt _
  · have hle : xs.length ≤ j := Nat.le_of_not_lt hlt
    have hle2 : rs.length ≤ j := by rw [h.1]; exact hle
    rw [List.getElem_append_right hle2, List.getElem_append_right hle]
    have hl := h.1
    obtain ⟨u, a, b⟩ := h2.2 (j - xs.length) (by rw [List.length_append] at hj; omega) (by rw [h2.1]; rw [List.length_append] at hj; omega)
    refine ⟨u, ?_, b⟩
    simp only [hl]
    exact a
theorem Recs.take {lo hi : Nat} {w : World} {xs : List BL} {rs : List NR} (h : Recs lo hi w xs rs) (k : Nat) : Recs lo hi w (xs.take k) (rs.take k) :=
  ⟨by rw [List.length_take, List.length_take, h.1], fun j hj hr => by
    rw [List.getElem_take, List.getElem_take]
    exact h.2 j _ _⟩
theorem Recs.drop {lo hi : Nat} {w : World} {xs : List BL} {rs : List NR} (h : Recs lo hi w xs rs) (k : Nat) : Recs lo hi w (xs.drop k) (rs.drop k) :=
  ⟨by rw [List.length_drop, List.length_drop, h.1], fun j hj hr => by
    rw [List.getElem_drop, List.getElem_drop]
    exact h.2 _ _ _⟩
theorem Recs.below {lo hi : Nat} {w w' : World} {xs : List BL} {rs : List NR} (h : Recs lo hi w xs rs) (hb : Below w.heap.size w w') : Recs lo hi w' xs rs :=
  ⟨h.1, fun j hj hr => by obtain ⟨u, a, b⟩ := h.2 j hj hr; exact ⟨u, a, b.below CnN.kept hb⟩⟩
theorem Recs.mono {lo hi lo' hi' : Nat} {w : World} {xs : List BL} {rs : List NR} (h : Recs lo hi w xs rs) (a : lo' ≤ lo) (b : hi ≤ hi') : Recs lo' hi' w xs rs :=
  ⟨h.1, fun j hj hr => by obtain ⟨u, c, d⟩ := h.2 j hj hr; exact ⟨u, c, d.mono CnN.kept a b⟩⟩
theorem Recs.len6 {lo hi : Nat} {w : World} {xs : List BL} {rs : List NR} (h : Recs lo hi w xs rs) : ∀ r, r ∈ rs → r.cs.length = 6 := fun r hr => by
  obtain ⟨j, hj, rfl⟩ := List.getElem_of_mem hr
  obtain ⟨u, hu, _⟩ := h.2 j (by rw [← h.1]; exact hj) hj
  rw [hu]; rfl
theorem Recs.flat {lo hi : Nat} {w : World} {xs : List BL} {rs : List NR} (h : Recs lo hi w xs rs) : (flatN rs).length = xs.length * 6 := by rw [flatN_length h.len6, h.1]
theorem flatN_append (rs ss : List NR) : flatN (rs ++ ss) = flatN rs ++ flatN ss := by unfold flatN; rw [List.flatMap_append]
theorem flatN_take {rs : List NR} (h : ∀ r, r ∈ rs → r.cs.length = 6) (k : Nat) (hk : k ≤ rs.length) : flatN (rs.take k) = (flatN rs).take (k * 6) := by
  have h1 : flatN rs = flatN (rs.take k) ++ flatN (rs.drop k) := by rw [← flatN_append, List.take_append_drop]
  have h2 : (flatN (rs.take k)).length = k * 6 := by
    rw [flatN_length (fun r hr => h r (List.mem_of_mem_take hr)), List.length_take, Nat.min_eq_left hk]
  rw [h1]
  exact (List.take_left' h2).symm
theorem flatN_drop {rs : List NR} (h : ∀ r, r ∈ rs → r.cs.length = 6) (k : Nat) (hk : k ≤ rs.length) : flatN (rs.drop k) = (flatN rs).drop (k * 6) := by
  have h1 : flatN rs = flatN (rs.take k) ++ flatN (rs.drop k) := by rw [← flatN_append, List.take_append_drop]
  have h2 : (flatN (rs.take k)).length = k * 6 := by
    rw [flatN_length (fun r hr => h r (List.mem_of_mem_take hr)), List.length_take, Nat.min_eq_left hk]
  rw [h1]
  exact (List.drop_left' h2).symm
theorem Recs.one1 {lo hi : Nat} {w : World} {xs : List BL} {rs : List NR} (h : Recs lo hi w xs rs) : ∀ u, u ∈ flatN rs → u.oneCell' = true := fun u hu => by
  obtain ⟨r, hr, hu⟩ := List.mem_flatMap.1 hu
  obtain ⟨j, hj, rfl⟩ := List.getElem_of_mem hr
  obtain ⟨v, e, hc⟩ := h.2 j (by rw [← h.1]; exact hj) hj
  obtain ⟨a, c, rfl⟩ := hc.slice
  rw [e] at hu
  simp [BL.rec1] at hu
  rcases hu with rfl | rfl | rfl | rfl | rfl | rfl <;> rfl
/-- The cells that lines lie in. -/
def CellsN (w : World) (a : Option Addr) (n : Nat) (L : List Value) : Prop := 0 < n → ∃ b o, a = some ⟨b, o, none⟩ ∧ b < w.heap.size ∧ ∀ j u, L[j]? = some u → w.cell? ⟨b, o + j, none⟩ = some u
open Classical in
theorem BX.told {lo hi : Nat} {w : World} {v : Value} {xs : List BL} (h : BX lo hi w v xs) : ∃ (a : Option Addr) (c : Nat) (rs : List NR), v = .slice a xs.length c ∧ xs.length ≤ c ∧ Recs lo hi w xs rs ∧ CellsN w a xs.length (flatN rs) := by
  obtain ⟨a, c, rfl, hc, h⟩ := h
  by_cases h0 : 0 < xs.length
  rotate_left
  · have : xs = [] := List.eq_nil_of_length_eq_zero (by omega)
    subst this
    exact ⟨a, c, [], rfl, hc, Recs.nil _ _ _, fun h => absurd h h0⟩
  obtain ⟨b, o, rfl, hbl, hb, h⟩ := h h0
  have hu : ∀ j : Fin xs.length, ∃ u, CX lo hi w u (xs[j.1]'j.2).whn ∧ ∀ i, i < 6 → w.cell? ⟨b, o + j.1 * 6 + i, none⟩ = (BL.rec1 (xs[j.1]'j.2) u).cs[i]? := fun j => by
    obtain ⟨cs, _, ⟨u, rfl, hu⟩, hcell⟩ := h j.1 j.2
    exact ⟨u, hu, hcell⟩
  let rs : List NR := List.ofFn (fun j : Fin xs.length => BL.rec1 (xs[j.1]'j.2) (Classical.choose (hu j)))
  have hl : rs.length = xs.length := by simp [rs]
  have hrec : Recs lo hi w xs rs := ⟨hl, fun j hj hr => ⟨Classical.choose (hu ⟨j, hj⟩), by simp [rs], (Classical.choose_spec (hu ⟨j, hj⟩)).1⟩⟩
  refine ⟨_, c, rs, rfl, hc, hrec, fun _ => ⟨b, o, rfl, hb, fun j u hj => ?_⟩⟩
  have hlt : j < xs.length * 6 := by
    have := (List.getElem?_eq_some_iff.1 hj).1
    rw [hrec.flat] at this; exact this
  have hq : j / 6 < xs.length := by omega
  have hr : j / 6 < rs.length := by omega
  have h1 := flatN_get hrec.len6 (j / 6) hr (j % 6) (by omega)
  rw [show j / 6 * 6 + j % 6 = j by omega] at h1
  have h2 : rs[j / 6]'hr = BL.rec1 (xs[j / 6]'hq) (Classical.choose (hu ⟨j / 6, hq⟩)) := by simp [rs]
  have h3 := (Classical.choose_spec (hu ⟨j / 6, hq⟩)).2 (j % 6) (by omega)
  simp only at h3
  rw [show o + j / 6 * 6 + j % 6 = o + j by omega] at h3
  rw [h3, ← h2, ← h1]; exact hj
theorem Recs.bx {w : World} {a : Option Addr} {c : Nat} {xs : List BL} {rs : List NR} (h : Recs 0 w.heap.size w xs rs) (hc : xs.length ≤ c) (hcell : CellsN w a xs.length (flatN rs)) : BX 0 w.heap.size w (.slice a xs.length c) xs := by
  refine ⟨a, c, rfl, hc, fun h0 => ?_⟩
  obtain ⟨b, o, rfl, hb, hcell⟩ := hcell h0
  refine ⟨b, o, rfl, ⟨Nat.zero_le _, hb⟩, hb, fun j hj => ?_⟩
  have hr : j < rs.length := by rw [h.1]; exact hj
  obtain ⟨u, hu, hcx⟩ := h.2 j hj hr
  refine ⟨(BL.rec1 (xs[j]'hj) u).cs, rfl, ⟨u, rfl, hcx⟩, fun i hi => ?_⟩
  have h1 := flatN_get h.len6 j hr i hi
  rw [hu] at h1
  rw [Nat.add_assoc]
  have hlt : i < (BL.rec1 (xs[j]'hj) u).cs.length := hi
  rw [List.getElem?_eq_getElem hlt] at h1 ⊢
  exact hcell _ _ h1

/-- A slice without a spare, or a row of the call's own. -/
def Att (e base : Nat) (w : World) (v : Value) (k : Nat) (olds : List Value) : Prop := olds.length = k * 6 ∧ ((∃ a, v = .slice a k k ∧ CellsN w a k olds) ∨ w.ownsRow base e 6 v k olds)
theorem run_append_zero {P : Program} (w : World) (t ty e : TypeId) (i : TypeInfo) (ht : P.underlying t = some (.slice e)) (hi : P.info? e = some i) (a : Option Addr) (n c : Nat) (hle : n ≤ c) (p : Option Addr) (q : Nat) :
    (Builtin.append_ #[t, t] ty #[.slice a n c, .slice p 0 q]).run P w = .ok (.slice a n c) w := by
  cases a <;> cases p <;> simp [Builtin.append_, run_underlying ht, sizeOf, typeInfo, hi, Builtin.lenOf, Builtin.firstCells, loadCells, loadCellsFrom, storeCells, hle]
theorem run_append_att {P : Program} (w : World) (base : Nat) (t ty e : TypeId) (i : TypeInfo) (z : Value) (bytes : Nat) (ht : P.underlying t = some (.slice e)) (hi : P.info? e = some i) (hz : i.zero = some z)
    (hsize : i.size = 6) (hby : i.bytes = bytes) (hzs : z.cells.size = 6) {v : Value} {k : Nat} {olds : List Value} (h : Att e base w v k olds)
    (p : Option Addr) (n c : Nat) (news : List Value) (hl : news.length = n * 6) (hcell : CellsN w p n news) (h1 : ∀ u ∈ news, u.oneCell' = true)
    (hn : k + n ≤ 1000000) (hbytes : (k + n) * bytes ≤ 1000000000) (hbase : base ≤ w.heap.size) :
    ∃ v' w', (Builtin.append_ #[t, t] ty #[v, .slice p n c]).run P w = .ok v' w' ∧ Att e base w' v' (k + n) (olds ++ news) ∧ Below base w w' := by
  have hbig : (k + n) * bytes ≤ 140737488355328 := by omega
  have hmax : k + n ≤ maxLen := by unfold maxLen; omega
  have hlen : (olds ++ news).length = (k + n) * 6 := by rw [List.length_append, h.1, hl, Nat.add_mul]
  rcases Nat.eq_zero_or_pos n with h0 | h0
  · subst h0
    have hnil : news = [] := List.eq_nil_of_length_eq_zero (by simpa using hl)
    subst hnil
    obtain ⟨a, q, rfl, hq⟩ : ∃ a q, v = .slice a k q ∧ k ≤ q := by
      rcases h.2 with ⟨a, rfl, _⟩ | h2
      · exact ⟨a, k, rfl, Nat.le_refl _⟩
      · rcases h2.2 with ⟨rfl, rfl⟩ | ⟨g, cap, cur, rfl, _, _, hq, _⟩
        · exact ⟨_, _, rfl, Nat.le_refl _⟩
        · exact ⟨_, _, rfl, hq⟩
    refine ⟨_, w, run_append_zero w t ty e i ht hi a k q hq p c, ?_, Below.refl _ _⟩
    simpa using h
  · obtain ⟨b, o, rfl, hb, hcell⟩ := hcell h0
    have hnews : ∀ j u, news[j]? = some u → w.cell? ((⟨b, o, none⟩ : Addr).add j) = some u := fun j u hu => by rw [Addr.add_lit]; exact hcell j u hu
    rcases h.2 with ⟨a, rfl, ha⟩ | hown
    · have key : ∀ (row : List Value), row = olds ++ news → ∀ v' w', v' = Value.slice (some ⟨w.heap.size, 0, none⟩) (k + n) (grownCap w (k + n) k e) → w' = w.drew.alloc (.cells (olds.toArray ++ news.toArray ++ Builtin.zeroCells z.cells (grownCap w (k + n) k e - (k + n))) e) → Att e base w' v' (k + n) (olds ++ news) ∧ Below base w w' := by
        rintro _ _ _ _ rfl rfl
        have hge := grownCap_ge w (k + n) k e
        have hcm : grownCap w (k + n) k e ≤ maxLen := grownCap_le_maxLen w (k + n) k e hmax
        refine ⟨⟨hlen, Or.inr ⟨hlen, .inr ⟨w.heap.size, _, _, rfl, hbase, heap_alloc_new w.drew _, hge, hcm, ?_, ?_⟩⟩⟩, ⟨rfl, rfl, rfl, by simp, fun q hq => Below.heap_alloc w.drew _ q (by show q < w.heap.size; omega)⟩⟩
        · simp only [Array.size_append, List.size_toArray, size_zeroCells, hzs, h.1, hl, ← Nat.add_mul]
          congr 1
          omega
        · simp only [Array.toList_append, List.append_assoc]
          rw [← List.append_assoc, ← hlen]
          exact List.take_left
      rcases Nat.eq_zero_or_pos k with hk | hk
      · subst hk
        have hnil : olds = [] := List.eq_nil_of_length_eq_zero (by simpa using h.1)
        subst hnil
        cases a with
        | none =>
          have hr := run_append_nil (P := P) w t ty e i z ht hi hz ⟨b, o, none⟩ n c news (by rw [hsize]; exact hl) hnews (by omega) (by omega) (by rw [hby]; simp only [Nat.zero_add] at hbytes; omega)
          obtain ⟨h2, h3⟩ := key _ rfl _ _ rfl rfl
          exact ⟨_, _, by simpa using hr, by simpa using h2, by simpa using h3⟩
        | some a =>
          have hr := run_append_grow (P := P) w t ty e i z ht hi hz a 0 0 [] (by simp) (fun j u hu => by simp at hu) ⟨b, o, none⟩ n c news (by rw [hsize]; exact hl) hnews (by omega) (by omega) (growslice_fits (by omega) (by rw [hby]; omega))
          obtain ⟨h2, h3⟩ := key _ rfl _ _ rfl rfl
          exact ⟨_, _, hr, h2, h3⟩
      · obtain ⟨b2, o2, rfl, _, ha⟩ := ha hk
        have hr := run_append_grow (P := P) w t ty e i z ht hi hz ⟨b2, o2, none⟩ k k olds (by rw [hsize]; exact h.1) (fun j u hu => by rw [Addr.add_lit]; exact ha j u hu) ⟨b, o, none⟩ n c news (by rw [hsize]; exact hl) hnews (by omega) (by omega) (growslice_fits (by omega) (by rw [hby]; omega))
        obtain ⟨h2, h3⟩ := key _ rfl _ _ rfl rfl
        exact ⟨_, _, hr, h2, h3⟩
    · obtain ⟨v', w', hr, h2, h3, _⟩ := run_append_own (P := P) w base t ty e i z 6 bytes ht hi hz hsize hby hzs (by decide) v k olds hown ⟨b, o, none⟩ n c news hl hnews h1 hmax hbig hbase
      refine ⟨v', w', hr, ⟨hlen, Or.inr h2⟩, ⟨h3.os, h3.tape, h3.output, h3.size, fun q hq => h3.block q (by omega) (fun e2 => ?_)⟩⟩
      have := (hown.lt q e2.symm).1
      omega
/-- Such an append as one step of a region that draws. -/
theorem step_append_att {P : Program} {ops : Array Oper} {o : Oper} {ac : Act} {w : World} {K : Act → World → Prop} {Q : Exit → Act → World → Prop} {X : Prop}
    (hg : o.guard = none) (s x : Operand) (t : TypeId) (hop : o.op = Op.call { callee := Callee.builtin Builtin.append, args := #[s, x], argTypes := #[t, t] })
    (base : Nat) (e : TypeId) (i : TypeInfo) (z : Value) (bytes : Nat) (ht : P.underlying t = some (.slice e)) (hi : P.info? e = some i) (hz : i.zero = some z) (hsize : i.size = 6) (hby : i.bytes = bytes) (hzs : z.cells.size = 6)
    {v : Value} {k : Nat} {olds : List Value} (hv : ac.eval s = v) (h : Att e base w v k olds)
    (p : Option Addr) (n c : Nat) (news : List Value) (hx : ac.eval x = .slice p n c) (hl : news.length = n * 6) (hcell : CellsN w p n news) (h1 : ∀ u ∈ news, u.oneCell' = true)
    (hn : k + n ≤ 1000000) (hbytes : (k + n) * bytes ≤ 1000000000) (hbase : base ≤ w.heap.size)
    (hK : ∀ v' w', Att e base w' v' (k + n) (olds ++ news) → Below base w w' → K (ac.put o.dst v') w') :
    if Region.wanted o (yielded ops ac.tmps) = true then Oper.wp P o ac w K Q else X := by
  have hw : Region.wanted o (yielded ops ac.tmps) = true := by simp [Region.wanted, hg]
  rw [if_pos hw]
  obtain ⟨v', w', hrun, r1, r2⟩ := run_append_att (P := P) w base t o.type e i z bytes ht hi hz hsize hby hzs h p n c news hl hcell h1 hn hbytes hbase
  unfold Oper.wp
  simp [execOp, hop, resolve, invoke, builtin, hv, hx, hrun, Result.andThen]
  exact hK _ _ r1 r2
/-- At the end it is lines. -/
theorem Att.cells {e base : Nat} {w : World} {v : Value} {k : Nat} {olds : List Value} (h : Att e base w v k olds) : ∃ (a : Option Addr) (c : Nat), v = .slice a k c ∧ k ≤ c ∧ CellsN w a k olds := by
  rcases h.2 with ⟨a, rfl, ha⟩ | h2
  · exact ⟨a, k, rfl, Nat.le_refl _, ha⟩
  · rcases h2.2 with ⟨rfl, rfl⟩ | ⟨g, cap, cur, rfl, _, hg, hq, _⟩
    · exact ⟨_, _, rfl, Nat.le_refl _, fun h => absurd h (Nat.lt_irrefl _)⟩
    · exact ⟨_, _, rfl, hq, fun _ => ⟨g, 0, rfl, lt_of_heap hg, fun j u hu => by
        have := h2.cells (g := g) rfl j u hu
        rw [Addr.add_lit] at this
        exact this⟩⟩
theorem CellsN.below {w w' : World} {a : Option Addr} {n : Nat} {L : List Value} (h : CellsN w a n L) (hb : Below w.heap.size w w') : CellsN w' a n L := fun h0 => by
  obtain ⟨b, o, rfl, hlt, hc⟩ := h h0
  exact ⟨b, o, rfl, Nat.lt_of_lt_of_le hlt hb.size, fun j u hu => (hb.cell (p := ⟨b, o + j, none⟩) hlt).trans (hc j u hu)⟩
theorem CellsN.take {w : World} {a : Option Addr} {n : Nat} {L : List Value} (h : CellsN w a n L) (k m : Nat) (hk : k ≤ n) : CellsN w a k (L.take m) := fun h0 => by
  obtain ⟨b, o, rfl, hlt, hc⟩ := h (by omega)
  refine ⟨b, o, rfl, hlt, fun j u hu => hc j u ?_⟩
  rw [List.getElem?_take] at hu
  split at hu
  · exact hu
  · cases hu
theorem CellsN.drop {w : World} {b o : Nat} {n : Nat} {L : List Value} (h : CellsN w (some ⟨b, o, none⟩) n L) (m k : Nat) (hm : k < n) : CellsN w (some ⟨b, o + m, none⟩) (n - k) (L.drop m) := fun _ => by
  obtain ⟨b2, o2, e, hlt, hc⟩ := h (by omega)
  injection e with e
  injection e with e1 e2
  subst e1
  subst e2
  refine ⟨b, o + m, rfl, hlt, fun j u hu => ?_⟩
  rw [List.getElem?_drop] at hu
  rw [Nat.add_assoc]
  exact hc _ u hu
end Go.Proofs.Ytdhldokpojghdaa

namespace Go.Proofs.Ytdhldokpojghdaa
open Go.RowKit

theorem fi_emptyI {l : List IT} (hc : CatOk l) : fiI l ByteArray.empty = -1 := by
  rcases fi_cases l ByteArray.empty with ⟨k, hk, e⟩ | e
  · exact absurd rfl (cat_code hc (s := ByteArray.empty) (by omega))
  · exact e
theorem txt_neI {x : ByteArray} (h : ¬x = ByteArray.empty) : x.toList.isEmpty = false := by
  rw [ByteArray.toList_eq, Bool.eq_false_iff]
  intro e
  apply h
  have h1 : x.data.toList = [] := by simpa using e
  have h2 : x.data = #[] := by simpa using h1
  cases x; simp only at h2; rw [h2]; rfl

set_option maxRecDepth 100000 in
set_option maxHeartbeats 1000000 in
theorem im_day (n : Int) (y : Bool) (w : World) (h : inB n 0 999 = y) : Calls Try.prog 64 #[.int .i64 n] w fun e w' => e = .returned (.bool y) ∧ w' = w := by
  subst h
  by_cases h0 : 0 ≤ n
  · by_cases h1 : n ≤ 999
    · have HY := Lib.hid (inB_yes h0 h1)
      go_enter Try.func64, Try.ntmps64
      go_wp2
      go_ret
      exact ⟨by rw [HY.out]; rfl, rfl⟩
    · have HY := Lib.hid (inB_no (x := n) (lo := 0) (hi := 999) (Or.inr (by omega)))
      go_enter Try.func64, Try.ntmps64
      go_wp2
      go_ret
      exact ⟨by rw [HY.out]; rfl, rfl⟩
  · have HY := Lib.hid (inB_no (x := n) (lo := 0) (hi := 999) (Or.inl (by omega)))
    go_enter Try.func64, Try.ntmps64
    go_wp2
    go_ret
    exact ⟨by rw [HY.out]; rfl, rfl⟩

set_option maxRecDepth 100000 in
set_option maxHeartbeats 4000000 in
theorem im_isChange' (v : Value) (l : List IT) (x : CH) (w : World) (h : IT.Is w v l) (hm : l.length ≤ maxLen) (hs : ∀ r, r ∈ l → IT.Sz r) :
    Calls Try.prog 29 #[v, CH.val x] w (BoolRes (chB l x) w) := by
  obtain ⟨dy, pa, ou, inn, qy⟩ := x
  unfold CH.val
  have HN : Hid (¬ChOk l ⟨dy, pa, ou, inn, qy⟩ → chB l ⟨dy, pa, ou, inn, qy⟩ = false) := Lib.hid chB_no
  have HYS : Hid (ChOk l ⟨dy, pa, ou, inn, qy⟩ → chB l ⟨dy, pa, ou, inn, qy⟩ = true) := Lib.hid chB_yes
  have HM := Lib.hid hm
  have HB0 : Hid (Below w.heap.size w (w.alloc (.cells #[.int .i64 dy, .string pa, .string ou, .string inn, .int .i64 qy] 27))) := Lib.hid ((Below.refl _ _).alloc (Nat.le_refl _) _)
  have HR0 := Lib.hid (heap_alloc_new w (.cells #[.int .i64 dy, .string pa, .string ou, .string inn, .int .i64 qy] 27))
  have HCT := Lib.hid (im_catalog v l _ (h.below HB0.out) hm hs)
  have HI0 := Lib.hid (h.below HB0.out)
  clear h hs hm
  generalize hch : chB l ⟨dy, pa, ou, inn, qy⟩ = z at *
  go_enter Try.func29, Try.ntmps29
  go_upto_region 1 with fail
  generalize w.alloc (.cells #[.int .i64 dy, .string pa, .string ou, .string inn, .int .i64 qy] 27) = w0 at *
  go_wp2_with fail
  refine HCT.out.mono ?_
  rintro e w1 ⟨rfl, hb⟩
  have HR := Lib.hid (blk_below HR0.out hb)
  have HI := Lib.hid (HI0.out.below hb)
  have HB := Lib.hid (HB0.out.trans (hb.mono HB0.out.size))
  clear hb HCT HR0 HI0 HB0
  have c0 := cell_of_row _ _ 0 _ _ _ HR.out
  rcases Bool.eq_false_or_eq_true (catB l) with hc | hc
  rotate_left
  · have HY := Lib.hid (HN.out (fun h => by rw [catB_yes h.1] at hc; cases hc))
    rw [hc]
    go_wp2_with fail
    go_ret
    exact ⟨by rw [HY.out]; rfl, HB.out⟩
  have HCK := Lib.hid (catB_iff.1 hc)
  rw [hc]
  clear hc
  by_cases hd : 0 ≤ dy ∧ dy ≤ 999
  rotate_left
  · have HY := Lib.hid (HN.out (fun h => hd h.2.1))
    go_wp2_with fail
    refine (im_day dy false _ (inB_no (by omega))).mono ?_
    rintro e w2 ⟨rfl, rfl⟩
    go_wp2_with fail
    go_ret
    exact ⟨by rw [HY.out]; rfl, HB.out⟩
  have HDY := Lib.hid hd
  have c1 := cell_of_row _ _ 1 _ _ _ HR.out
  go_wp2_with fail
  refine (im_day dy true _ (inB_yes hd.1 hd.2)).mono ?_
  rintro e w2 ⟨rfl, rfl⟩
  clear hd
  go_wp2_with fail
  refine (im_findItem v l pa _ HI.out HM.out).mono ?_
  rintro e w3 ⟨rfl, hb⟩
  have HR := Lib.hid (blk_below HR.out hb)
  have HI := Lib.hid (HI.out.below hb)
  have HB := Lib.hid (HB.out.trans (hb.mono HB.out.size))
  clear hb c0 c1
  have c2 := cell_of_row _ _ 2 _ _ _ HR.out
  by_cases hp : 0 ≤ fiI l pa
  rotate_left
  · have HY := Lib.hid (HN.out (fun h => hp h.2.2.1))
    have hq : decide (fiI l pa < 0) = true := decide_eq_true (by omega)
    clear hp
    go_wp2_with fail
    go_ret
    exact ⟨by rw [HY.out]; rfl, HB.out⟩
  have HPA := Lib.hid hp
  have hq : decide (fiI l pa < 0) = false := decide_eq_false (by omega)
  clear hp
  go_wp2_with fail
  refine (im_findItem v l ou _ HI.out HM.out).mono ?_
  rintro e w4 ⟨rfl, hb⟩
  have HR := Lib.hid (blk_below HR.out hb)
  have HI := Lib.hid (HI.out.below hb)
  have HB := Lib.hid (HB.out.trans (hb.mono HB.out.size))
  clear hb c2 hq
  have c3 := cell_of_row _ _ 3 _ _ _ HR.out
  have c4 := cell_of_row _ _ 4 _ _ _ HR.out
  by_cases hp : 0 ≤ fiI l ou
  rotate_left
  · have HY := Lib.hid (HN.out (fun h => hp h.2.2.2.1))
    have hq2 : decide (fiI l ou < 0) = true := decide_eq_true (by omega)
    clear hp
    go_wp2_with fail
    go_ret
    exact ⟨by rw [HY.out]; rfl, HB.out⟩
  have HOU := Lib.hid hp
  have hq2 : decide (fiI l ou < 0) = false := decide_eq_false (by omega)
  clear hp
  have HIN := Lib.hid (im_findItem v l inn _ HI.out HM.out)
  have HL : Hid ((inn = ByteArray.empty ∧ qy = 0) ∨ (0 ≤ fiI l inn ∧ 0 ≤ qy ∧ qy ≤ 1000) → z = true) := Lib.hid (fun h => HYS.out ⟨HCK.out, HDY.out, HPA.out, HOU.out, h⟩)
  have HL2 : Hid (¬((inn = ByteArray.empty ∧ qy = 0) ∨ (0 ≤ fiI l inn ∧ 0 ≤ qy ∧ qy ≤ 1000)) → z = false) := Lib.hid (fun h => HN.out (fun h2 => h h2.2.2.2.2))
  have HFE : Hid (fiI l ByteArray.empty = -1) := Lib.hid (fi_emptyI HCK.out)
  clear HN HYS HPA HOU HDY HCK
  by_cases he : inn = ByteArray.empty
  · have he1 : inn.toList.isEmpty = true := by rw [he, ByteArray.toList_eq]; rfl
    have HEM := Lib.hid he
    clear he
    by_cases h0 : qy = 0
    · have HY := Lib.hid (HL.out (Or.inl ⟨HEM.out, h0⟩))
      have h1 : (qy == 0) = true := beq_iff_eq.2 h0
      clear h0
      go_wp2_with fail
      go_ret
      exact ⟨by rw [HY.out]; rfl, HB.out⟩
    · have HY := Lib.hid (HL2.out (fun h => by rcases h with h | h; exact h0 h.2; have h1 := h.1; rw [HEM.out, HFE.out] at h1; omega))
      have h1 : (qy == 0) = false := beq_eq_false_iff_ne.2 h0
      clear h0
      go_wp2_with fail
      go_ret
      exact ⟨by rw [HY.out]; rfl, HB.out⟩
  have he1 := txt_neI he
  have HEM := Lib.hid he
  clear he
  go_wp2_with fail
  refine HIN.out.mono ?_
  rintro e w5 ⟨rfl, hb⟩
  have HR := Lib.hid (blk_below HR.out hb)
  have HB := Lib.hid (HB.out.trans (hb.mono HB.out.size))
  clear hb c3 c4 hq2
  have c4 := cell_of_row _ _ 4 _ _ _ HR.out
  by_cases hp : 0 ≤ fiI l inn
  rotate_left
  · have HY := Lib.hid (HL2.out (fun h => by rcases h with h | h; exact HEM.out h.1; exact hp h.1))
    have hq3 : decide (0 ≤ fiI l inn) = false := decide_eq_false hp
    clear hp
    go_wp2_with fail
    go_ret
    exact ⟨by rw [HY.out]; rfl, HB.out⟩
  have HP3 := Lib.hid hp
  have hq3 : decide (0 ≤ fiI l inn) = true := decide_eq_true hp
  clear hp
  go_wp2_with fail
  by_cases h0 : 0 ≤ qy ∧ qy ≤ 1000
  · have HY := Lib.hid (HL.out (Or.inr ⟨HP3.out, h0⟩))
    refine (im_upTo qy 1000 true _ (inB_yes h0.1 h0.2)).mono ?_
    rintro e w2 ⟨rfl, rfl⟩
    clear h0
    go_wp2_with fail
    go_ret
    exact ⟨by rw [HY.out]; rfl, HB.out⟩
  · have HY := Lib.hid (HL2.out (fun h => by rcases h with h | h; exact HEM.out h.1; exact h0 h.2))
    refine (im_upTo qy 1000 false _ (inB_no (by omega))).mono ?_
    rintro e w2 ⟨rfl, rfl⟩
    clear h0
    go_wp2_with fail
    go_ret
    exact ⟨by rw [HY.out]; rfl, HB.out⟩

open Classical in
noncomputable def hitB (x : CH) (y : BL) : Bool := decide (Hit x y)
open Classical in
theorem hitB_yes {x : CH} {y : BL} (h : Hit x y) : hitB x y = true := decide_eq_true h
open Classical in
theorem hitB_no {x : CH} {y : BL} (h : ¬Hit x y) : hitB x y = false := decide_eq_false h

set_option maxRecDepth 100000 in
set_option maxHeartbeats 2000000 in
theorem im_meets (x : CH) (y : BL) (a5 : Option Addr) (n5 c5 : Nat) (w : World) :
    Calls Try.prog 84 #[CH.val x, .agg #[.string y.par, .string y.prt, .int .i64 y.qty, .int .i64 y.fr, .int .i64 y.un, .slice a5 n5 c5]] w (BoolRes (hitB x y) w) := by
  obtain ⟨dy, pa, ou, inn, qy⟩ := x
  obtain ⟨par, prt, qty, fr, un, whn⟩ := y
  unfold CH.val
  simp only
  have HN : Hid (¬(par = pa ∧ prt = ou ∧ dy ≤ un) → hitB ⟨dy, pa, ou, inn, qy⟩ ⟨par, prt, qty, fr, un, whn⟩ = false) := Lib.hid (fun h => hitB_no h)
  have HYS : Hid (par = pa ∧ prt = ou ∧ dy ≤ un → hitB ⟨dy, pa, ou, inn, qy⟩ ⟨par, prt, qty, fr, un, whn⟩ = true) := Lib.hid (fun h => hitB_yes h)
  generalize hitB ⟨dy, pa, ou, inn, qy⟩ ⟨par, prt, qty, fr, un, whn⟩ = z at *
  have hB := ((Below.refl w.heap.size w).alloc (Nat.le_refl _) (.cells #[.int .i64 dy, .string pa, .string ou, .string inn, .int .i64 qy] 27)).alloc (by simp) (.cells #[.string par, .string prt, .int .i64 qty, .int .i64 fr, .int .i64 un, .slice a5 n5 c5] 36)
  have HA := Lib.hid (heap_alloc2_old w (.cells #[.int .i64 dy, .string pa, .string ou, .string inn, .int .i64 qy] 27) (.cells #[.string par, .string prt, .int .i64 qty, .int .i64 fr, .int .i64 un, .slice a5 n5 c5] 36))
  have HR := Lib.hid (heap_alloc2_new w (.cells #[.int .i64 dy, .string pa, .string ou, .string inn, .int .i64 qy] 27) (.cells #[.string par, .string prt, .int .i64 qty, .int .i64 fr, .int .i64 un, .slice a5 n5 c5] 36))
  have HB := Lib.hid hB
  clear hB
  go_enter Try.func84, Try.ntmps84
  go_upto_region 1 with fail
  generalize (w.alloc (.cells #[.int .i64 dy, .string pa, .string ou, .string inn, .int .i64 qy] 27)).alloc (.cells #[.string par, .string prt, .int .i64 qty, .int .i64 fr, .int .i64 un, .slice a5 n5 c5] 36) = w1 at *
  have c0 := cell_of_row _ _ 0 _ _ _ HA.out
  have c1 := cell_of_row _ _ 1 _ _ _ HA.out
  have c2 := cell_of_row _ _ 2 _ _ _ HA.out
  have q0 := cell_of_row _ _ 0 _ _ _ HR.out
  have q1 := cell_of_row _ _ 1 _ _ _ HR.out
  have q4 := cell_of_row _ _ 4 _ _ _ HR.out
  by_cases h0 : par = pa
  rotate_left
  · have HY := Lib.hid (HN.out (fun h => h0 h.1))
    have g0 := str_ne h0
    clear h0
    go_wp2_with fail
    go_ret
    exact ⟨by rw [HY.out]; rfl, HB.out⟩
  by_cases h1 : prt = ou
  rotate_left
  · have HY := Lib.hid (HN.out (fun h => h1 h.2.1))
    have g0 := str_eq h0
    have g1 := str_ne h1
    clear h0 h1
    go_wp2_with fail
    go_ret
    exact ⟨by rw [HY.out]; rfl, HB.out⟩
  by_cases h2 : dy ≤ un
  rotate_left
  · have HY := Lib.hid (HN.out (fun h => h2 h.2.2))
    have g0 := str_eq h0
    have g1 := str_eq h1
    have g2 : decide (dy ≤ un) = false := decide_eq_false h2
    clear h0 h1 h2
    go_wp2_with fail
    go_ret
    exact ⟨by rw [HY.out]; rfl, HB.out⟩
  have HY := Lib.hid (HYS.out ⟨h0, h1, h2⟩)
  have g0 := str_eq h0
  have g1 := str_eq h1
  have g2 : decide (dy ≤ un) = true := decide_eq_true h2
  clear h0 h1 h2
  go_wp2_with fail
  go_ret
  exact ⟨by rw [HY.out]; rfl, HB.out⟩

/-- The line that goes on, with the row of the one that it follows. -/
def SucOut (x : CH) (y : BL) (u : Value) (w : World) (e : Ending) (w' : World) : Prop := e = .returned (.agg #[.string (aftL x y).par, .string (aftL x y).prt, .int .i64 (aftL x y).qty, .int .i64 (aftL x y).fr, .int .i64 (aftL x y).un, u]) ∧ Below w.heap.size w w'
set_option maxRecDepth 100000 in
set_option maxHeartbeats 2000000 in
theorem im_successor (x : CH) (y : BL) (a5 : Option Addr) (n5 c5 : Nat) (w : World) :
    Calls Try.prog 102 #[CH.val x, .agg #[.string y.par, .string y.prt, .int .i64 y.qty, .int .i64 y.fr, .int .i64 y.un, .slice a5 n5 c5]] w (SucOut x y (.slice a5 n5 c5) w) := by
  obtain ⟨dy, pa, ou, inn, qy⟩ := x
  obtain ⟨par, prt, qty, fr, un, whn⟩ := y
  unfold CH.val
  simp only
  obtain ⟨F, hF⟩ : ∃ F : Int, (if fr < dy then dy else fr) = F := ⟨_, rfl⟩
  obtain ⟨Q, hQ⟩ : ∃ Q : Int, (if 0 < qy then qy else qty) = Q := ⟨_, rfl⟩
  have HAF : Hid (aftL ⟨dy, pa, ou, inn, qy⟩ ⟨par, prt, qty, fr, un, whn⟩ = ⟨par, inn, Q, F, un, whn⟩) := Lib.hid (by unfold aftL; simp only; rw [hF, hQ])
  obtain ⟨hB, hsz, hA, hR, hO⟩ := alloc3 w (.cells #[.int .i64 dy, .string pa, .string ou, .string inn, .int .i64 qy] 27) (.cells #[.string par, .string prt, .int .i64 qty, .int .i64 fr, .int .i64 un, .slice a5 n5 c5] 36) (.cells #[.string { data := #[] }, .string { data := #[] }, .int .i64 0, .int .i64 0, .int .i64 0, .slice none 0 0] 36)
  have HB := Lib.hid hB
  have HA := Lib.hid hA
  have HR := Lib.hid hR
  have HO := Lib.hid hO
  clear hB hsz hA hR hO
  go_enter Try.func102, Try.ntmps102
  go_upto_region 1 with fail
  generalize ((w.alloc (.cells #[.int .i64 dy, .string pa, .string ou, .string inn, .int .i64 qy] 27)).alloc (.cells #[.string par, .string prt, .int .i64 qty, .int .i64 fr, .int .i64 un, .slice a5 n5 c5] 36)).alloc (.cells #[.string { data := #[] }, .string { data := #[] }, .int .i64 0, .int .i64 0, .int .i64 0, .slice none 0 0] 36) = w1 at *
  have c0 := cell_of_row _ _ 0 _ _ _ HA.out
  have c3 := cell_of_row _ _ 3 _ _ _ HA.out
  have c4 := cell_of_row _ _ 4 _ _ _ HA.out
  have q0 := cell_of_row _ _ 0 _ _ _ HR.out
  have q1 := cell_of_row _ _ 1 _ _ _ HR.out
  have q2 := cell_of_row _ _ 2 _ _ _ HR.out
  have q3 := cell_of_row _ _ 3 _ _ _ HR.out
  have q4 := cell_of_row _ _ 4 _ _ _ HR.out
  have q5 := cell_of_row _ _ 5 _ _ _ HR.out
  have y1 := frozen_of_row _ _ 1 _ _ HR.out
  have y2 := frozen_of_row _ _ 2 _ _ HR.out
  have y3 := frozen_of_row _ _ 3 _ _ HR.out
  have k0 := cell_of_row _ _ 0 _ _ _ HO.out
  have z0 := frozen_of_row _ _ 0 _ _ HO.out
  have k1 := cell_of_row _ _ 1 _ _ _ HO.out
  have z1 := frozen_of_row _ _ 1 _ _ HO.out
  have k2 := cell_of_row _ _ 2 _ _ _ HO.out
  have z2 := frozen_of_row _ _ 2 _ _ HO.out
  have k3 := cell_of_row _ _ 3 _ _ _ HO.out
  have z3 := frozen_of_row _ _ 3 _ _ HO.out
  have k4 := cell_of_row _ _ 4 _ _ _ HO.out
  have z4 := frozen_of_row _ _ 4 _ _ HO.out
  have k5 := cell_of_row _ _ 5 _ _ _ HO.out
  have z5 := frozen_of_row _ _ 5 _ _ HO.out
  by_cases h0 : 0 < qy
  · have g0 : decide (0 < qy) = true := decide_eq_true h0
    have HQE : Hid (qy = Q) := Lib.hid (by rw [← hQ, if_pos h0])
    clear h0 hQ
    go_wp2_with fail
    have HRf : (((w1.setCell ⟨w.heap.size + 1, 3, none⟩ (.int .i64 F)).setCell ⟨w.heap.size + 1, 1, none⟩ (.string inn)).setCell ⟨w.heap.size + 1, 2, none⟩ (.int .i64 qy)).heap[w.heap.size + 1 + 1]? = some (.cells #[.string { data := #[] }, .string { data := #[] }, .int .i64 0, .int .i64 0, .int .i64 0, .slice none 0 0] 36) := (heap_setCell_other _ _ _ _ (by simp)).trans ((heap_setCell_other _ _ _ _ (by simp)).trans ((heap_setCell_other _ _ _ _ (by simp)).trans (HO.out)))
    refine bodyPost_ret (v := .agg #[.string par, .string inn, .int .i64 qy, .int .i64 F, .int .i64 un, .slice a5 n5 c5]) (results_cell_row Try.results102 _ _ _ _ #[.string par, .string inn, .int .i64 qy, .int .i64 F, .int .i64 un, .slice a5 n5 c5] (0, 0) _ rfl (heap_setCell_same _ _ 5 _ _ _ (heap_setCell_same _ _ 4 _ _ _ (heap_setCell_same _ _ 3 _ _ _ (heap_setCell_same _ _ 2 _ _ _ (heap_setCell_same _ _ 1 _ _ _ (heap_setCell_same _ _ 0 _ _ _ (HRf))))))) Try.underlying36 rfl (by kernel_rfl)) rfl ⟨by rw [HAF.out, ← HQE.out], ?_⟩
    exact (((((((((HB.out).setCell (by simp; try omega) _).setCell (by simp; try omega) _).setCell (by simp; try omega) _).setCell (by simp; try omega) _).setCell (by simp; try omega) _).setCell (by simp; try omega) _).setCell (by simp; try omega) _).setCell (by simp; try omega) _).setCell (by simp; try omega) _
  have g0 : decide (0 < qy) = false := decide_eq_false h0
  have HQE : Hid (qty = Q) := Lib.hid (by rw [← hQ, if_neg h0])
  clear h0 hQ
  go_wp2_with fail
  have HRf : ((w1.setCell ⟨w.heap.size + 1, 3, none⟩ (.int .i64 F)).setCell ⟨w.heap.size + 1, 1, none⟩ (.string inn)).heap[w.heap.size + 1 + 1]? = some (.cells #[.string { data := #[] }, .string { data := #[] }, .int .i64 0, .int .i64 0, .int .i64 0, .slice none 0 0] 36) := (heap_setCell_other _ _ _ _ (by simp)).trans ((heap_setCell_other _ _ _ _ (by simp)).trans (HO.out))
  refine bodyPost_ret (v := .agg #[.string par, .string inn, .int .i64 qty, .int .i64 F, .int .i64 un, .slice a5 n5 c5]) (results_cell_row Try.results102 _ _ _ _ #[.string par, .string inn, .int .i64 qty, .int .i64 F, .int .i64 un, .slice a5 n5 c5] (0, 0) _ rfl (heap_setCell_same _ _ 5 _ _ _ (heap_setCell_same _ _ 4 _ _ _ (heap_setCell_same _ _ 3 _ _ _ (heap_setCell_same _ _ 2 _ _ _ (heap_setCell_same _ _ 1 _ _ _ (heap_setCell_same _ _ 0 _ _ _ (HRf))))))) Try.underlying36 rfl (by kernel_rfl)) rfl ⟨by rw [HAF.out, ← HQE.out], ?_⟩
  exact ((((((((HB.out).setCell (by simp; try omega) _).setCell (by simp; try omega) _).setCell (by simp; try omega) _).setCell (by simp; try omega) _).setCell (by simp; try omega) _).setCell (by simp; try omega) _).setCell (by simp; try omega) _).setCell (by simp; try omega) _
end Go.Proofs.Ytdhldokpojghdaa

namespace Go.Proofs.Ytdhldokpojghdaa
open Go.RowKit

theorem infoBLi : (Try.prog.info? 36).map (fun i => (i.zero, i.size, i.bytes)) = some (some (.agg #[.string ByteArray.empty, .string ByteArray.empty, .int .i64 0, .int .i64 0, .int .i64 0, .slice none 0 0]), 6, 80) := by kernel_rfl
/-- Lines that lead into one row. -/
def recsU (u : Value) (zs : List BL) : List NR := zs.map (fun z => BL.rec1 z u)
theorem recsU_ok {lo hi : Nat} {w : World} {u : Value} {n : List CN} {zs : List BL} (h : ∀ z, z ∈ zs → z.whn = n) (hc : CX lo hi w u n) : Recs lo hi w zs (recsU u zs) := ⟨by simp [recsU], fun j hj hr => ⟨u, by simp [recsU], by rw [h _ (List.getElem_mem hj)]; exact hc⟩⟩
noncomputable def repL (x : CH) (y : BL) : List BL := aft1 x y ++ aft2 x y
theorem repL_whn {x : CH} {y z : BL} (hh : Hit x y) (h : z ∈ repL x y) : z.whn = y.whn := (aft_mem (by rw [aft_yes hh]; exact h)).2.1
theorem repL_len (x : CH) (y : BL) : (repL x y).length ≤ 2 := by
  have h1 : (aft1 x y).length ≤ 1 := by unfold aft1; split <;> simp
  have h2 : (aft2 x y).length ≤ 1 := by unfold aft2; split <;> simp
  unfold repL; rw [List.length_append]; omega
def RepOut (L : List BL) (u : Value) (w : World) (e : Ending) (w' : World) : Prop := ∃ (a : Option Addr) (c : Nat), e = .returned (.slice a L.length c) ∧ Hid (CellsN w' a L.length (flatN (recsU u L))) ∧ Hid (Below w.heap.size w w')
theorem own_cellsN {w : World} {e base n c : Nat} {a : Option Addr} {xs : List Value} (h : w.ownsRow base e 6 (.slice a n c) n xs) : CellsN w a n xs := by
  rcases h.2 with ⟨e1, e2⟩ | ⟨g, cap, cur, e1, _, hg, _⟩
  · subst e2; exact fun h => absurd h (Nat.lt_irrefl _)
  · injection e1 with e1 _ _
    subst e1
    exact fun _ => ⟨g, 0, rfl, lt_of_heap hg, fun j u hu => by
      have := h.cells (g := g) rfl j u hu
      rw [Addr.add_lit] at this
      exact this⟩

set_option maxRecDepth 100000 in
set_option maxHeartbeats 4000000 in
theorem im_replacing (x : CH) (y : BL) (a5 : Option Addr) (n5 c5 : Nat) (w : World) (hd0 : 0 ≤ x.dy) (hd1 : x.dy ≤ 999) :
    Calls Try.prog 85 #[CH.val x, .agg #[.string y.par, .string y.prt, .int .i64 y.qty, .int .i64 y.fr, .int .i64 y.un, .slice a5 n5 c5]] w (RepOut (repL x y) (.slice a5 n5 c5) w) := by
  obtain ⟨i0, hi0, hz0, hz1, hz2⟩ := info_parts infoBLi
  have HSU := Lib.hid (fun W => im_successor x y a5 n5 c5 W)
  unfold SucOut at HSU
  have HA1Y : Hid (y.fr < x.dy → aft1 x y = [{ y with un := x.dy - 1 }]) := Lib.hid aft1_yes
  have HA1N : Hid (¬y.fr < x.dy → aft1 x y = []) := Lib.hid aft1_no
  have HA2Y : Hid (¬x.inn = ByteArray.empty → aft2 x y = [aftL x y]) := Lib.hid aft2_yes
  have HA2N : Hid (x.inn = ByteArray.empty → aft2 x y = []) := Lib.hid aft2_no
  have HREP : Hid (repL x y = aft1 x y ++ aft2 x y) := Lib.hid rfl
  generalize repL x y = RL at *
  generalize aft1 x y = A1 at *
  generalize aft2 x y = A2 at *
  obtain ⟨dy, pa, ou, inn, qy⟩ := x
  obtain ⟨par, prt, qty, fr, un, whn⟩ := y
  generalize aftL ⟨dy, pa, ou, inn, qy⟩ ⟨par, prt, qty, fr, un, whn⟩ = al at *
  obtain ⟨lpar, lprt, lqty, lfr, lun, lwhn⟩ := al
  unfold CH.val at HSU ⊢
  simp only at hd0 hd1 HSU HA1Y HA1N HA2Y HA2N ⊢
  have hwr : IntKind.i64.wrap (dy - 1) = dy - 1 := (IntKind.wrap_i64 _).trans (by omega)
  have hB := ((Below.refl w.heap.size w).alloc (Nat.le_refl _) (.cells #[.int .i64 dy, .string pa, .string ou, .string inn, .int .i64 qy] 27)).alloc (by simp) (.cells #[.string par, .string prt, .int .i64 qty, .int .i64 fr, .int .i64 un, .slice a5 n5 c5] 36)
  have HA := Lib.hid (heap_alloc2_old w (.cells #[.int .i64 dy, .string pa, .string ou, .string inn, .int .i64 qy] 27) (.cells #[.string par, .string prt, .int .i64 qty, .int .i64 fr, .int .i64 un, .slice a5 n5 c5] 36))
  have HR := Lib.hid (heap_alloc2_new w (.cells #[.int .i64 dy, .string pa, .string ou, .string inn, .int .i64 qy] 27) (.cells #[.string par, .string prt, .int .i64 qty, .int .i64 fr, .int .i64 un, .slice a5 n5 c5] 36))
  have HB := Lib.hid hB
  clear hB hd0 hd1
  go_enter Try.func85, Try.ntmps85
  go_upto_region 2 with fail
  generalize (w.alloc (.cells #[.int .i64 dy, .string pa, .string ou, .string inn, .int .i64 qy] 27)).alloc (.cells #[.string par, .string prt, .int .i64 qty, .int .i64 fr, .int .i64 un, .slice a5 n5 c5] 36) = w1 at *
  have c0 := cell_of_row _ _ 0 _ _ _ HA.out
  have c3 := cell_of_row _ _ 3 _ _ _ HA.out
  have q0 := cell_of_row _ _ 0 _ _ _ HR.out
  have q1 := cell_of_row _ _ 1 _ _ _ HR.out
  have q2 := cell_of_row _ _ 2 _ _ _ HR.out
  have q3 := cell_of_row _ _ 3 _ _ _ HR.out
  have q4 := cell_of_row _ _ 4 _ _ _ HR.out
  have q5 := cell_of_row _ _ 5 _ _ _ HR.out
  have hs1 := HB.out.size
  by_cases hf : fr < dy
  rotate_left
  · have HA1 := Lib.hid (HA1N.out hf)
    have hd : decide (fr < dy) = false := decide_eq_false hf
    clear hf
    have c0 := cell_of_row _ _ 0 _ _ _ HA.out
    have c1 := cell_of_row _ _ 1 _ _ _ HA.out
    have c2 := cell_of_row _ _ 2 _ _ _ HA.out
    have c3 := cell_of_row _ _ 3 _ _ _ HA.out
    have c4 := cell_of_row _ _ 4 _ _ _ HA.out
    have q0 := cell_of_row _ _ 0 _ _ _ HR.out
    have q1 := cell_of_row _ _ 1 _ _ _ HR.out
    have q2 := cell_of_row _ _ 2 _ _ _ HR.out
    have q3 := cell_of_row _ _ 3 _ _ _ HR.out
    have q4 := cell_of_row _ _ 4 _ _ _ HR.out
    have q5 := cell_of_row _ _ 5 _ _ _ HR.out
    by_cases he : inn = ByteArray.empty
    · have he1 : inn.toList.isEmpty = true := by rw [he, ByteArray.toList_eq]; rfl
      have HE := Lib.hid (HREP.out.trans (by rw [HA2N.out he, HA1.out]; rfl : _ = []))
      clear he
      go_wp2_with fail
      go_ret
      exact ⟨none, 0, by rw [HE.out]; rfl, by rw [HE.out]; exact Lib.hid (fun h => absurd h (Nat.lt_irrefl _)), HB⟩
    have he1 := txt_neI he
    have HE := Lib.hid (HREP.out.trans (by rw [HA2Y.out he, HA1.out]; rfl : _ = [⟨lpar, lprt, lqty, lfr, lun, lwhn⟩]))
    clear he
    go_wp2_with fail
    refine (HSU.out _).mono ?_
    rintro e w7 ⟨rfl, hb7⟩
    have HBL := Lib.hid (HB.out.trans (hb7.mono HB.out.size))
    have hs7 := HBL.out.size
    clear hb7
    go_wp2_with (at_builtin; refine wpList_append_own _ rfl _ _ 25 rfl w.heap.size 36 i0 (.agg #[.string ByteArray.empty, .string ByteArray.empty, .int .i64 0, .int .i64 0, .int .i64 0, .slice none 0 0]) 6 80 Try.underlying25 hi0 hz0 hz1 hz2 rfl (by decide) _ 0 ([]) rfl (World.ownsRow_nil _ _ _ _) ⟨_, 0, none⟩ 1 1 [.string lpar, .string lprt, .int .i64 lqty, .int .i64 lfr, .int .i64 lun, .slice a5 n5 c5] rfl rfl (new_6 _ _ _ _ _ _ _ _) (by intro u hu; simp at hu; rcases hu with rfl | rfl | rfl | rfl | rfl | rfl <;> rfl) (by unfold maxLen; omega) (by omega) (by simp; omega) ?_)
    intro v8 w8 ho8 hg8 _
    obtain ⟨p3, qq3, rfl⟩ := own_sliceN ho8
    have HBF := Lib.hid ((HBL.out.alloc HBL.out.size _).grown hg8 (by simp; omega) (fun g hg2 => by cases hg2))
    have HO8 := Lib.hid ho8
    clear ho8 hg8
    go_wp2_with fail
    go_ret
    exact ⟨p3, qq3, by rw [HE.out]; rfl, by rw [HE.out]; exact Lib.hid (own_cellsN HO8.out), HBF⟩
  have HA1 := Lib.hid (HA1Y.out hf)
  have hd : decide (fr < dy) = true := decide_eq_true hf
  clear hf
  obtain ⟨W4, hW4⟩ : ∃ W, w1.alloc (.cells #[.string par, .string prt, .int .i64 qty, .int .i64 fr, .int .i64 un, .slice a5 n5 c5] 36) = W := ⟨_, rfl⟩
  have HW4 := Lib.hid hW4
  have HL4 : Hid (Below w1.heap.size w1 W4) := Lib.hid (by rw [← hW4]; exact (Below.refl _ _).alloc (Nat.le_refl _) _)
  have HY4 : Hid (W4.heap[w1.heap.size]? = some (.cells #[.string par, .string prt, .int .i64 qty, .int .i64 fr, .int .i64 un, .slice a5 n5 c5] 36)) := Lib.hid (by rw [← hW4]; exact heap_alloc_new _ _)
  clear hW4
  have hs4 : w1.heap.size < W4.heap.size := lt_of_heap HY4.out
  have HBW := Lib.hid (HB.out.trans (HL4.out.mono HB.out.size))
  have HA0 := HA
  have HR0 := HR
  have HA := Lib.hid (blk_below HA.out HL4.out)
  have HR := Lib.hid (blk_below HR.out HL4.out)
  go_upto_region 4 with fail
  rw [HW4.out]
  clear HW4 c0 c3 q0 q1 q2 q3 q4 q5
  have c0 := cell_of_row _ _ 0 _ _ _ HA.out
  have r4 := cell_of_row _ _ 4 _ _ _ HY4.out
  have rf4 := frozen_of_row _ _ 4 _ _ HY4.out
  obtain ⟨W5, hW5⟩ : ∃ W, W4.setCell ⟨w1.heap.size, 4, none⟩ (.int .i64 (dy - 1)) = W := ⟨_, rfl⟩
  have HW5 := Lib.hid hW5
  have HY5 : Hid (W5.heap[w1.heap.size]? = some (.cells #[.string par, .string prt, .int .i64 qty, .int .i64 fr, .int .i64 (dy - 1), .slice a5 n5 c5] 36)) := Lib.hid (by rw [← hW5]; exact heap_setCell_same _ _ 4 _ _ _ HY4.out)
  have HL5 := Lib.hid (HL4.out.setCell (p := ⟨w1.heap.size, 4, none⟩) (Nat.le_refl _) (.int .i64 (dy - 1)))
  have HBW5 := Lib.hid (HBW.out.setCell (p := ⟨w1.heap.size, 4, none⟩) (by simp only []; omega) (.int .i64 (dy - 1)))
  rw [hW5] at HL5 HBW5
  clear hW5
  have HB5 := Lib.hid HBW5
  have HA := Lib.hid (blk_below HA0.out HL5)
  have HR := Lib.hid (blk_below HR0.out HL5)
  clear HL5 HBW5
  go_upto_region 5 with fail
  rw [HW5.out]
  clear HW5 r4 rf4 c0 hwr
  have r0 := cell_of_row _ _ 0 _ _ _ HY5.out
  have r1 := cell_of_row _ _ 1 _ _ _ HY5.out
  have r2 := cell_of_row _ _ 2 _ _ _ HY5.out
  have r3 := cell_of_row _ _ 3 _ _ _ HY5.out
  have r4 := cell_of_row _ _ 4 _ _ _ HY5.out
  have r5 := cell_of_row _ _ 5 _ _ _ HY5.out
  have hs5b := HB5.out.size
  go_wp2_with (at_builtin; refine wpList_append_own _ rfl _ _ 25 rfl w.heap.size 36 i0 (.agg #[.string ByteArray.empty, .string ByteArray.empty, .int .i64 0, .int .i64 0, .int .i64 0, .slice none 0 0]) 6 80 Try.underlying25 hi0 hz0 hz1 hz2 rfl (by decide) _ 0 ([]) rfl (World.ownsRow_nil _ _ _ _) ⟨_, 0, none⟩ 1 1 [.string par, .string prt, .int .i64 qty, .int .i64 fr, .int .i64 (dy - 1), .slice a5 n5 c5] rfl rfl (new_6 _ _ _ _ _ _ _ _) (by intro u hu; simp at hu; rcases hu with rfl | rfl | rfl | rfl | rfl | rfl <;> rfl) (by unfold maxLen; omega) (by omega) (by simp; omega) ?_)
  intro v6 w6 ho6 hg6 _
  obtain ⟨p2, qq2, rfl⟩ := own_sliceN ho6
  have HBW := Lib.hid ((HB5.out.alloc HB5.out.size _).grown hg6 (by simp; omega) (fun g hg2 => by cases hg2))
  have HA := Lib.hid ((hg6.block _ (by have := lt_of_heap HA.out; simp; omega) (by intro e; cases e)).trans (blk_alloc HA.out _))
  have HR := Lib.hid ((hg6.block _ (by have := lt_of_heap HR.out; simp; omega) (by intro e; cases e)).trans (blk_alloc HR.out _))
  have HO := Lib.hid ho6
  clear ho6 hg6 r0 r1 r2 r3 r4 r5
  have c0 := cell_of_row _ _ 0 _ _ _ HA.out
  have c1 := cell_of_row _ _ 1 _ _ _ HA.out
  have c2 := cell_of_row _ _ 2 _ _ _ HA.out
  have c3 := cell_of_row _ _ 3 _ _ _ HA.out
  have c4 := cell_of_row _ _ 4 _ _ _ HA.out
  have q0 := cell_of_row _ _ 0 _ _ _ HR.out
  have q1 := cell_of_row _ _ 1 _ _ _ HR.out
  have q2 := cell_of_row _ _ 2 _ _ _ HR.out
  have q3 := cell_of_row _ _ 3 _ _ _ HR.out
  have q4 := cell_of_row _ _ 4 _ _ _ HR.out
  have q5 := cell_of_row _ _ 5 _ _ _ HR.out
  by_cases he : inn = ByteArray.empty
  · have he1 : inn.toList.isEmpty = true := by rw [he, ByteArray.toList_eq]; rfl
    have HE := Lib.hid (HREP.out.trans (by rw [HA2N.out he, HA1.out]; rfl : _ = [⟨par, prt, qty, fr, dy - 1, whn⟩]))
    clear he
    go_wp2_with fail
    go_ret
    exact ⟨p2, qq2, by rw [HE.out]; rfl, by rw [HE.out]; exact Lib.hid (own_cellsN HO.out), HBW⟩
  have he1 := txt_neI he
  have HE := Lib.hid (HREP.out.trans (by rw [HA2Y.out he, HA1.out]; rfl : _ = [⟨par, prt, qty, fr, dy - 1, whn⟩, ⟨lpar, lprt, lqty, lfr, lun, lwhn⟩]))
  clear he
  go_wp2_with fail
  refine (HSU.out _).mono ?_
  rintro e w7 ⟨rfl, hb7⟩
  have HBL := Lib.hid (HBW.out.trans (hb7.mono HBW.out.size))
  have HO7 := Lib.hid (own_keepL HO.out hb7)
  have hs7 := HBL.out.size
  clear hb7
  go_wp2_with (at_builtin; refine wpList_append_own _ rfl _ _ 25 rfl w.heap.size 36 i0 (.agg #[.string ByteArray.empty, .string ByteArray.empty, .int .i64 0, .int .i64 0, .int .i64 0, .slice none 0 0]) 6 80 Try.underlying25 hi0 hz0 hz1 hz2 rfl (by decide) _ 1 ((BL.rec1 ⟨par, prt, qty, fr, dy - 1, whn⟩ (.slice a5 n5 c5)).cs) rfl (HO7.out.alloc _) ⟨_, 0, none⟩ 1 1 [.string lpar, .string lprt, .int .i64 lqty, .int .i64 lfr, .int .i64 lun, .slice a5 n5 c5] rfl rfl (new_6 _ _ _ _ _ _ _ _) (by intro u hu; simp at hu; rcases hu with rfl | rfl | rfl | rfl | rfl | rfl <;> rfl) (by unfold maxLen; omega) (by omega) (by simp; omega) ?_)
  intro v8 w8 ho8 hg8 _
  obtain ⟨p3, qq3, rfl⟩ := own_sliceN ho8
  have HBF := Lib.hid ((HBL.out.alloc HBL.out.size _).grown hg8 (by simp; omega) (fun g hg2 => (HO7.out.lt g hg2).1))
  have HO8 := Lib.hid ho8
  clear ho8 hg8
  go_wp2_with fail
  go_ret
  exact ⟨p3, qq3, by rw [HE.out]; rfl, by rw [HE.out]; exact Lib.hid (own_cellsN HO8.out), HBF⟩
end Go.Proofs.Ytdhldokpojghdaa

namespace Go.Proofs.Ytdhldokpojghdaa
open Go.RowKit

/-- Lines, wherever they lie. -/
def LnAt (zs : List BL) (w : World) (e : Ending) (w' : World) : Prop := ∃ v', e = .returned v' ∧ Hid (BX 0 w'.heap.size w' v' zs) ∧ Hid (Below w.heap.size w w')
theorem hold_le0 {p : Prop} {B W : World} (h : Hid (Below B.heap.size B W) ∧ p) : B.heap.size ≤ W.heap.size := h.1.out.size
def worldI {w W : World} {p : Prop} (_ : Hid (Below w.heap.size w W) ∧ p) : World := W
theorem upto_eq {x : CH} {ys : List BL} {m : Nat} (hm : m < ys.length) (hh : Hit x (ys[m]'hm)) : curL x ys m = (curL x ys (m + 1)).take m ++ repL x (ys[m]'hm) ++ (curL x ys (m + 1)).drop (m + 1) := by
  rw [curL_step hm, aft_yes hh]; rfl
/-- What the two appends make of lines told by their records. -/
theorem upto_fin {w2 W : World} {e base : Nat} {zs RL zs' : List BL} {rs : List NR} {u v : Value} {n : List CN} {m : Nat} (hm : m < zs.length) (hz : zs' = zs.take m ++ RL ++ zs.drop (m + 1)) (hrec : Recs 0 w2.heap.size w2 zs rs) (hu : CX 0 w2.heap.size w2 u n) (hn : ∀ z, z ∈ RL → z.whn = n)
    (hb : Below w2.heap.size w2 W) (hatt : Att e base W v (m + RL.length + (zs.length - (m + 1))) ((flatN rs).take (m * 6) ++ flatN (recsU u RL) ++ (flatN rs).drop ((m + 1) * 6))) : ∃ (a : Option Addr) (c : Nat), v = .slice a zs'.length c ∧ BX 0 W.heap.size W (.slice a zs'.length c) zs' := by
  obtain ⟨a, c, rfl, hc, hcell⟩ := hatt.cells
  have hlen : m + RL.length + (zs.length - (m + 1)) = zs'.length := by
    rw [hz]; simp only [List.length_append, List.length_take, List.length_drop]; omega
  have hR : Recs 0 W.heap.size W zs' (rs.take m ++ recsU u RL ++ rs.drop (m + 1)) := by
    rw [hz]
    exact ((((hrec.take m).append (recsU_ok hn hu)).append (hrec.drop (m + 1))).below hb).mono (Nat.le_refl _) hb.size
  have hf : flatN (rs.take m ++ recsU u RL ++ rs.drop (m + 1)) = (flatN rs).take (m * 6) ++ flatN (recsU u RL) ++ (flatN rs).drop ((m + 1) * 6) := by
    rw [flatN_append, flatN_append, flatN_take hrec.len6 m (by rw [hrec.1]; omega), flatN_drop hrec.len6 (m + 1) (by rw [hrec.1]; omega)]
  rw [hlen] at hc hcell ⊢
  exact ⟨a, c, rfl, hR.bx hc (by rw [hf]; exact hcell)⟩
theorem recsU_flat (u : Value) (zs : List BL) : (flatN (recsU u zs)).length = zs.length * 6 := by
  have h := flatN_length (K := 6) (rs := recsU u zs) (fun r hr => by
    obtain ⟨z, _, rfl⟩ := List.mem_map.1 hr; rfl)
  rw [h]; simp [recsU]
theorem recsU_one {u : Value} {zs : List BL} {a : Option Addr} {n c : Nat} (hu : u = .slice a n c) : ∀ v, v ∈ flatN (recsU u zs) → v.oneCell' = true := fun v hv => by
  obtain ⟨r, hr, hv⟩ := List.mem_flatMap.1 hv
  obtain ⟨z, _, rfl⟩ := List.mem_map.1 hr
  simp [BL.rec1] at hv
  rcases hv with rfl | rfl | rfl | rfl | rfl | rfl <;> first | rfl | (rw [hu]; rfl)
theorem flat_one_mem {lo hi : Nat} {w : World} {xs : List BL} {rs : List NR} (h : Recs lo hi w xs rs) (k : Nat) : ∀ u, u ∈ (flatN rs).drop k → u.oneCell' = true := fun u hu => h.one1 u (List.mem_of_mem_drop hu)

set_option maxRecDepth 100000 in
set_option maxHeartbeats 8000000 in
theorem im_appliedTo (x : CH) (v : Value) (ys : List BL) (w : World) (h : BX 0 w.heap.size w v ys) (hd0 : 0 ≤ x.dy) (hd1 : x.dy ≤ 999) (hl : ys.length ≤ 24) :
    Calls Try.prog 48 #[CH.val x, v] w (LnAt (chgL x ys) w) := by
  obtain ⟨i0, hi0, hz0, hz1, hz2⟩ := info_parts infoBLi
  obtain ⟨p0, cp0, rfl⟩ := h.slice
  have HD := Lib.hid (And.intro hd0 hd1)
  clear hd0 hd1
  have HB0 : Hid (Below w.heap.size w (w.alloc (.cells #[.int .i64 x.dy, .string x.pa, .string x.ou, .string x.inn, .int .i64 x.qy] 27))) := Lib.hid ((Below.refl _ _).alloc (Nat.le_refl _) _)
  have HA0 := Lib.hid (heap_alloc_new w (.cells #[.int .i64 x.dy, .string x.pa, .string x.ou, .string x.inn, .int .i64 x.qy] 27))
  have HX0 := Lib.hid ((h.below BLN.kept HB0.out).mono BLN.kept (Nat.le_refl _) HB0.out.size)
  have hwl : IntKind.i64.wrap ((ys.length : Int) - 1) = (ys.length : Int) - 1 := (IntKind.wrap_i64 _).trans (by omega)
  clear h
  unfold CH.val
  go_enter Try.func48, Try.ntmps48
  go_upto_region 1 with fail
  generalize w.alloc (.cells #[.int .i64 x.dy, .string x.pa, .string x.ou, .string x.inn, .int .i64 x.qy] 27) = w1 at *
  go_wp2_with fail
  go_loopw [1, 5] (fun s i wr => ∃ (k : Nat) (zs : List BL) (z : Int) (p : Option Addr) (c : Nat), k ≤ ys.length ∧ i = .int .i64 z ∧ z = (k : Int) - 1 ∧ s = .slice p zs.length c ∧ Hid (zs = curL x ys k) ∧ Hid (BX 0 wr.heap.size wr (.slice p zs.length c) zs) ∧ Hid (Below w1.heap.size w1 wr)) (fun _ i _ => (intOf i + 1).toNat)
  case atStart => exact ⟨ys.length, ys, _, _, _, Nat.le_refl _, rfl, rfl, rfl, Lib.hid (curL_all x ys).symm, HX0, Lib.hid (Below.refl _ _)⟩
  case round =>
    clear HX0 hwl
    obtain ⟨k, zs, z, p, c, hk, rfl, hz, rfl, HZ, HX, HB⟩ := hrel
    have HBW := Lib.hid (HB0.out.trans (HB.out.mono HB0.out.size))
    by_cases hk0 : k = 0
    · subst hk0
      have HE : Hid (zs = chgL x ys) := Lib.hid (by rw [HZ.out, curL_zero])
      have hdz : decide ((0 : Int) ≤ z) = false := decide_eq_false (by omega)
      clear hz
      go_wp2_with fail
      go_ret
      exact ⟨_, rfl, by rw [← HE.out]; exact HX, HBW⟩
    obtain ⟨m, rfl⟩ : ∃ m, k = m + 1 := ⟨k - 1, by omega⟩
    obtain rfl : z = (m : Int) := by omega
    clear hz hk0
    have hmy : m < ys.length := hk
    have hmz : m < zs.length := by rw [HZ.out]; exact curL_lt hmy
    have HAT : Hid (zs[m]'hmz = ys[m]'hmy) := Lib.hid (by
      have h1 := curL_at hmy (curL_lt (x := x) hmy)
      have e := HZ.out
      subst e
      exact h1)
    have h48 : zs.length ≤ 48 := by rw [HZ.out]; have := curL_len x ys (m + 1); omega
    have HA := Lib.hid (blk_below HA0.out HB.out)
    have HSTEP : Hid (Hit x (ys[m]'hmy) → curL x ys m = zs.take m ++ repL x (ys[m]'hmy) ++ zs.drop (m + 1)) := Lib.hid (fun hh => by rw [HZ.out]; exact upto_eq hmy hh)
    have HNO : Hid (¬Hit x (ys[m]'hmy) → zs = curL x ys m) := Lib.hid (fun hh => by rw [HZ.out]; exact (curL_no hmy hh).symm)
    rw [← HAT.out] at HSTEP HNO
    clear HAT
    obtain ⟨b2, o2, c2', cl, hv2, hc2, hb2, hcl, hr5, hcell⟩ := HX.out.get m hmz
    simp only [Value.slice.injEq] at hv2
    obtain ⟨rfl, _, rfl⟩ := hv2
    obtain ⟨u5, rfl, h5⟩ := hr5
    obtain ⟨sa5, sc5, rfl⟩ := h5.slice
    have e0 := hcell 0 (by omega)
    have e1 := hcell 1 (by omega)
    have e2 := hcell 2 (by omega)
    have e3 := hcell 3 (by omega)
    have e4 := hcell 4 (by omega)
    have e5 := hcell 5 (by omega)
    simp only [List.getElem?_cons_zero, List.getElem?_cons_succ, Nat.add_zero] at e0 e1 e2 e3 e4 e5
    clear hcell hcl hb2
    generalize zs[m]'hmz = y at *
    have H5 := Lib.hid h5
    clear h5
    have HME : Hid (∀ W, Calls Try.prog 84 #[.agg #[.int .i64 x.dy, .string x.pa, .string x.ou, .string x.inn, .int .i64 x.qy], .agg #[.string y.par, .string y.prt, .int .i64 y.qty, .int .i64 y.fr, .int .i64 y.un, .slice sa5 y.whn.length sc5]] W (BoolRes (hitB x y) W)) := Lib.hid (fun W => im_meets x y sa5 _ sc5 W)
    have HRP : Hid (∀ W, Calls Try.prog 85 #[.agg #[.int .i64 x.dy, .string x.pa, .string x.ou, .string x.inn, .int .i64 x.qy], .agg #[.string y.par, .string y.prt, .int .i64 y.qty, .int .i64 y.fr, .int .i64 y.un, .slice sa5 y.whn.length sc5]] W (RepOut (repL x y) (.slice sa5 y.whn.length sc5) W)) := Lib.hid (fun W => im_replacing x y sa5 _ sc5 W HD.out.1 HD.out.2)
    have k0 := cell_of_row _ _ 0 _ _ _ HA.out
    have k1 := cell_of_row _ _ 1 _ _ _ HA.out
    have k2 := cell_of_row _ _ 2 _ _ _ HA.out
    have k3 := cell_of_row _ _ 3 _ _ _ HA.out
    have k4 := cell_of_row _ _ 4 _ _ _ HA.out
    have HLT := Lib.hid hmy
    have hi1 : (m : Int) < (zs.length : Int) := by omega
    have hge0 : (0 : Int) ≤ (m : Int) := by omega
    have hwm : IntKind.i64.wrap ((m : Int) - 1) = (m : Int) - 1 := (IntKind.wrap_i64 _).trans (by omega)
    have hwp : IntKind.i64.wrap ((m : Int) + 1) = (m : Int) + 1 := (IntKind.wrap_i64 _).trans (by omega)
    go_upto_region 4 with fail
    go_region_held3 (fun W' => Hid (Below wr.heap.size wr W') ∧ W'.cell? ⟨w.heap.size, 0, none⟩ = some (.int .i64 x.dy) ∧ W'.cell? ⟨w.heap.size, 1, none⟩ = some (.string x.pa) ∧ W'.cell? ⟨w.heap.size, 2, none⟩ = some (.string x.ou) ∧ W'.cell? ⟨w.heap.size, 3, none⟩ = some (.string x.inn) ∧ W'.cell? ⟨w.heap.size, 4, none⟩ = some (.int .i64 x.qy) ∧ W'.cell? ⟨b2, o2 + m * 6, none⟩ = some (.string y.par) ∧ W'.cell? ⟨b2, o2 + m * 6 + 1, none⟩ = some (.string y.prt) ∧ W'.cell? ⟨b2, o2 + m * 6 + 2, none⟩ = some (.int .i64 y.qty) ∧ W'.cell? ⟨b2, o2 + m * 6 + 3, none⟩ = some (.int .i64 y.fr) ∧ W'.cell? ⟨b2, o2 + m * 6 + 4, none⟩ = some (.int .i64 y.un) ∧ W'.cell? ⟨b2, o2 + m * 6 + 5, none⟩ = some (.slice sa5 y.whn.length sc5))
      (first | assumption | exact hold11 k0 k1 k2 k3 k4 e0 e1 e2 e3 e4 e5 (hold_call (by assumption) (by assumption)) | exact hold11 k0 k1 k2 k3 k4 e0 e1 e2 e3 e4 e5 (Below.refl _ _).drew)
      (first
        | (go_at_call 84; refine (HME.out _).mono ?_; rintro e wM ⟨rfl, hb⟩; have hle := hold_le (by assumption) hb))
    have hS := (by assumption : Hid (Below wr.heap.size wr _) ∧ _)
    obtain ⟨w2, hw2⟩ : ∃ W, W = worldI hS := ⟨_, rfl⟩
    simp only [worldI] at hw2
    have hb : Below wr.heap.size wr w2 := by rw [hw2]; exact hS.1.out
    rw [← hw2]
    clear hw2 hS
    have HX := Lib.hid ((HX.out.below BLN.kept hb).mono BLN.kept (Nat.le_refl _) hb.size)
    have HB := Lib.hid (HB.out.trans (hb.mono HB.out.size))
    have HBW := Lib.hid (HBW.out.trans (hb.mono HBW.out.size))
    have H5 := Lib.hid ((H5.out.below CnN.kept hb).mono CnN.kept (Nat.le_refl _) hb.size)
    have HA := Lib.hid (blk_below HA.out hb)
    replace e0 := hold_c e0 hb
    replace e1 := hold_c e1 hb
    replace e2 := hold_c e2 hb
    replace e3 := hold_c e3 hb
    replace e4 := hold_c e4 hb
    replace e5 := hold_c e5 hb
    clear hb k0 k1 k2 k3 k4 HME
    by_cases hh : Hit x y
    rotate_left
    · have HE := Lib.hid (HNO.out hh)
      rw [hitB_no hh]
      clear hh HRP HSTEP HNO e0 e1 e2 e3 e4 e5 H5
      go_wp2_with fail
      go_roundw
      case rel => exact ⟨m, zs, (m : Int) - 1, _, _, by have := HLT.out; omega, by rw [← hwm], rfl, rfl, HE, HX, HB⟩
      case measure => simp [intOf]
    rw [hitB_yes hh]
    have HS := Lib.hid (HSTEP.out hh)
    have HWN := Lib.hid (fun z (hz : z ∈ repL x y) => repL_whn hh hz)
    have hr2 := repL_len x y
    clear hh HNO HSTEP
    obtain ⟨pt, ct, rs, hvt, hct, hrt, hcellt⟩ := BX.told HX.out
    simp only [Value.slice.injEq] at hvt
    obtain ⟨rfl, _, rfl⟩ := hvt
    have HRT := Lib.hid hrt
    have HCT := Lib.hid hcellt
    clear hrt hcellt
    generalize repL x y = RL at *
    have k0 := cell_of_row _ _ 0 _ _ _ HA.out
    have k1 := cell_of_row _ _ 1 _ _ _ HA.out
    have k2 := cell_of_row _ _ 2 _ _ _ HA.out
    have k3 := cell_of_row _ _ 3 _ _ _ HA.out
    have k4 := cell_of_row _ _ 4 _ _ _ HA.out
    have hmc : (m : Int) ≤ (c : Int) := by omega
    have hm1 : (m : Int) + 1 ≤ (zs.length : Int) := by omega
    have hm2 : (0 : Int) ≤ (m : Int) + 1 := by omega
    have HAT0 : Hid (∀ W, Below w2.heap.size w2 W → Att 36 w2.heap.size W (.slice (some ⟨b2, o2, none⟩) m m) m ((flatN rs).take (m * 6))) := Lib.hid (fun W hW => ⟨by rw [List.length_take, HRT.out.flat]; omega, Or.inl ⟨_, rfl, (HCT.out.below hW).take m (m * 6) (by omega)⟩⟩)
    obtain ⟨pd, hpd⟩ : ∃ pd, (if c = m + 1 then some (⟨b2, o2, none⟩ : Addr) else some (⟨b2, o2 + (m + 1) * 6, none⟩ : Addr)) = pd := ⟨_, rfl⟩
    have HDR : Hid (∀ W, Below w2.heap.size w2 W → CellsN W pd (zs.length - (m + 1)) ((flatN rs).drop ((m + 1) * 6))) := Lib.hid (fun W hW => by
      by_cases e : m + 1 < zs.length
      · rw [if_neg (by omega)] at hpd
        rw [← hpd]
        exact (HCT.out.below hW).drop ((m + 1) * 6) (m + 1) e
      · exact fun h0 => by omega)
    have HDL : Hid (((flatN rs).drop ((m + 1) * 6)).length = (zs.length - (m + 1)) * 6) := Lib.hid (by rw [List.length_drop, HRT.out.flat]; omega)
    have HFIN : Hid (∀ W v, Below w2.heap.size w2 W → Att 36 w2.heap.size W v (m + RL.length + (zs.length - (m + 1))) ((flatN rs).take (m * 6) ++ flatN (recsU (.slice sa5 y.whn.length sc5) RL) ++ (flatN rs).drop ((m + 1) * 6)) → ∃ (a : Option Addr) (c : Nat), v = .slice a (curL x ys m).length c ∧ BX 0 W.heap.size W (.slice a (curL x ys m).length c) (curL x ys m)) := Lib.hid (fun W v hW hatt => upto_fin hmz HS.out HRT.out H5.out HWN.out hW hatt)
    have HONE := Lib.hid (recsU_one (u := .slice sa5 y.whn.length sc5) (zs := RL) rfl)
    have HONED := Lib.hid (flat_one_mem HRT.out ((m + 1) * 6))
    have HBX : Hid (∀ W, Below w2.heap.size w2 W → Below w1.heap.size w1 W) := Lib.hid (fun W hW => HB.out.trans (hW.mono HB.out.size))
    clear HWN HS HRT HCT H5 HX HA
    go_upto_region 5 with fail
    go_region_held3 (fun W' => Hid (Below w2.heap.size w2 W') ∧ W'.cell? ⟨w.heap.size, 0, none⟩ = some (.int .i64 x.dy) ∧ W'.cell? ⟨w.heap.size, 1, none⟩ = some (.string x.pa) ∧ W'.cell? ⟨w.heap.size, 2, none⟩ = some (.string x.ou) ∧ W'.cell? ⟨w.heap.size, 3, none⟩ = some (.string x.inn) ∧ W'.cell? ⟨w.heap.size, 4, none⟩ = some (.int .i64 x.qy) ∧ W'.cell? ⟨b2, o2 + m * 6, none⟩ = some (.string y.par) ∧ W'.cell? ⟨b2, o2 + m * 6 + 1, none⟩ = some (.string y.prt) ∧ W'.cell? ⟨b2, o2 + m * 6 + 2, none⟩ = some (.int .i64 y.qty) ∧ W'.cell? ⟨b2, o2 + m * 6 + 3, none⟩ = some (.int .i64 y.fr) ∧ W'.cell? ⟨b2, o2 + m * 6 + 4, none⟩ = some (.int .i64 y.un) ∧ W'.cell? ⟨b2, o2 + m * 6 + 5, none⟩ = some (.slice sa5 y.whn.length sc5))
      (first | assumption | exact hold11 k0 k1 k2 k3 k4 e0 e1 e2 e3 e4 e5 (hold_call (by assumption) (by assumption)) | exact hold11 k0 k1 k2 k3 k4 e0 e1 e2 e3 e4 e5 (by assumption) | exact hold11 k0 k1 k2 k3 k4 e0 e1 e2 e3 e4 e5 (Below.refl _ _).drew)
      (first
        | (go_at_call 85; refine (HRP.out _).mono ?_; rintro e wR ⟨ar, cr, rfl, HCR, HBR⟩; have hbR := HBR.out; have hle := hold_le (by assumption) hbR)
        | (refine step_append_att rfl (.tmp 22) (.tmp 28) 25 rfl w2.heap.size 36 i0 (.agg #[.string ByteArray.empty, .string ByteArray.empty, .int .i64 0, .int .i64 0, .int .i64 0, .slice none 0 0]) 80 Try.underlying25 hi0 hz0 hz1 hz2 rfl (by simp [Act.eval]) (HAT0.out _ (by assumption : Hid (Below w2.heap.size w2 _) ∧ _).1.out) ar RL.length cr (flatN (recsU (.slice sa5 y.whn.length sc5) RL)) (by simp [Act.eval]) (recsU_flat _ _) (HCR.out) (HONE.out) (by omega) (by omega) (hold_le0 (by assumption)) ?_; intro vA wA hattA hbA; have hbA2 : Below w2.heap.size w2 wA := Below.trans (by assumption : Hid (Below w2.heap.size w2 _) ∧ _).1.out hbA)
        | (refine step_append_att rfl (.tmp 29) (.tmp 33) 25 rfl w2.heap.size 36 i0 (.agg #[.string ByteArray.empty, .string ByteArray.empty, .int .i64 0, .int .i64 0, .int .i64 0, .slice none 0 0]) 80 Try.underlying25 hi0 hz0 hz1 hz2 rfl (by simp [Act.eval]) (hattA) pd (zs.length - (m + 1)) (c - (m + 1)) ((flatN rs).drop ((m + 1) * 6)) (by simp [Act.eval]) (HDL.out) (HDR.out _ (by assumption : Hid (Below w2.heap.size w2 _) ∧ _).1.out) (HONED.out) (by omega) (by omega) (hold_le0 (by assumption)) ?_; intro vB wB hattB hbB; have hbB2 : Below w2.heap.size w2 wB := Below.trans (by assumption : Hid (Below w2.heap.size w2 _) ∧ _).1.out hbB; obtain ⟨aB, cB, rfl, hxB⟩ := HFIN.out _ _ hbB2 hattB; have HXB := Lib.hid hxB; have HBB := Lib.hid (HBX.out _ hbB2)))
    all_goals
      go_wp2_with fail
      go_roundw
      case rel => exact ⟨m, curL x ys m, (m : Int) - 1, _, _, by have := HLT.out; omega, by rw [← hwm], rfl, rfl, Lib.hid rfl, HXB, HBB⟩
      case measure => simp [intOf]
end Go.Proofs.Ytdhldokpojghdaa

namespace Go.Proofs.Ytdhldokpojghdaa
open Go.RowKit

/-- A copy that fills a row of the call's own. -/
theorem run_copy_whole {P : Program} (w : World) (dT sT ty e : TypeId) (i : TypeInfo) (hu : P.underlying dT = some (.slice e)) (hi : P.info? e = some i) (hs : i.size = 6) (base g n c : Nat) (p : Option Addr) {olds news : List Value}
    (hown : w.ownsRow base e 6 (.slice (some ⟨g, 0, none⟩) n n) n olds) (hl : news.length = n * 6) (hcell : CellsN w p n news) (h1 : ∀ u ∈ news, u.oneCell' = true) :
    ∃ w', (Builtin.copy_ #[dT, sT] ty #[.slice (some ⟨g, 0, none⟩) n n, .slice p n c]).run P w = .ok (goInt n) w' ∧ w'.ownsRow base e 6 (.slice (some ⟨g, 0, none⟩) n n) n news ∧ w.grownBy w' (some g) := by
  have hmin : Nat.min n n = n := Nat.min_self n
  rcases Nat.eq_zero_or_pos n with h0 | h0
  · subst h0
    have e1 : news = [] := List.eq_nil_of_length_eq_zero (by simpa using hl)
    have e2 : olds = [] := List.eq_nil_of_length_eq_zero (by simpa using hown.1)
    subst e1; subst e2
    refine ⟨w, ?_, hown, World.grownBy.refl _ _⟩
    cases p <;> simp [Builtin.copy_, run_underlying hu, Builtin.lenOf, Builtin.firstCells, sizeOf, typeInfo, hi, loadCells, loadCellsFrom, storeCells]
  · obtain ⟨b, o, rfl, hb, hcell⟩ := hcell h0
    rcases hown.2 with ⟨e1, _⟩ | ⟨g2, cap, cur, e1, hbg, hg, hnc, hcm, hcs, htake⟩
    · cases e1
    · injection e1 with e1 _ e2
      injection e1 with e1
      injection e1 with e1 _ _
      subst e1; subst e2
      have hll := run_loadCells_list (P := P) w ⟨b, o, none⟩ news (fun j u hj => by rw [Addr.add_lit]; exact hcell j u hj)
      have hst := run_storeCells_at P g 0 e news 0 cur w hg (by simp only [Nat.zero_add]; rw [hl, hcs]; exact Nat.le_refl _) h1
      refine ⟨w.setRow g (cur.toList.take 0 ++ news ++ cur.toList.drop (0 + news.length)).toArray, ?_, ?_, ?_⟩
      · simp only [Nat.add_zero, Nat.zero_add] at hst ⊢
        simp [Builtin.copy_, run_underlying hu, Builtin.lenOf, Builtin.firstCells, sizeOf, typeInfo, hi, hs, ← hl, hll, hst]
      · have e3 : cur.toList.take 0 ++ news ++ cur.toList.drop (0 + news.length) = news := by
          rw [List.drop_of_length_le (by simp; omega)]; simp
        refine ⟨hl, Or.inr ⟨g, n, _, rfl, hbg, setRow_heap w g cur _ e _ hg, Nat.le_refl _, hcm, ?_, ?_⟩⟩
        · rw [e3]; simp [hl]
        · rw [e3, ← hl]; exact List.take_length
      · exact ⟨rfl, rfl, rfl, by simp [World.setRow], fun k _ hk => setRow_other w g k _ (fun e => hk (by rw [e]))⟩
theorem wpList_copy_whole {P : Program} {w : World} {ops : Array Oper} {rest : List Oper} {o : Oper} {a : Act} {Q : Exit → Act → World → Prop} (hgd : o.guard = none) (d s : Operand) (dT sT : TypeId)
    (ho : o.op = .call { callee := .builtin .copy, args := #[d, s], argTypes := #[dT, sT] }) (e : TypeId) (i : TypeInfo) (hu : P.underlying dT = some (.slice e)) (hi : P.info? e = some i) (hs : i.size = 6) (base g n c : Nat) (p : Option Addr) {olds news : List Value}
    (hd : a.eval d = .slice (some ⟨g, 0, none⟩) n n) (hsv : a.eval s = .slice p n c) (hown : w.ownsRow base e 6 (.slice (some ⟨g, 0, none⟩) n n) n olds) (hl : news.length = n * 6) (hcell : CellsN w p n news) (h1 : ∀ u ∈ news, u.oneCell' = true)
    (h : ∀ w', w'.ownsRow base e 6 (.slice (some ⟨g, 0, none⟩) n n) n news → w.grownBy w' (some g) → wpList P ops Q rest (a.put o.dst (goInt n)) w') : wpList P ops Q (o :: rest) a w := by
  refine wpList_plain hgd fun K hK => ?_
  obtain ⟨w', hrun, r1, r2⟩ := run_copy_whole (P := P) w dT sT o.type e i hu hi hs base g n c p hown hl hcell h1
  unfold Oper.wp
  simp [execOp, ho, resolve, invoke, builtin, hd, hsv, hrun, Result.andThen]
  exact hK _ _ (h w' r1 r2)

/-- A record stored over another. -/
theorem putL_flat {rs : List NR} (h : ∀ r, r ∈ rs → r.cs.length = 6) (k : Nat) (hk : k < rs.length) (r : NR) (hr : r.cs.length = 6) : putL (flatN rs) (k * 6) r.cs = flatN (rs.set k r) := by
  have hlen : ∀ q, q ∈ rs.set k r → q.cs.length = 6 := fun q hq => by
    rcases List.mem_or_eq_of_mem_set hq with h1 | rfl
    · exact h q h1
    · exact hr
  have hL := flatN_length h
  have hL2 := flatN_length hlen
  rw [List.length_set] at hL2
  refine List.ext_getElem? (fun i => ?_)
  rw [putL_get r.cs _ _ _ (by omega), hr]
  by_cases hi : i < rs.length * 6
  · have hq : i / 6 < rs.length := by omega
    have a1 := flatN_get h (i / 6) hq (i % 6) (by omega)
    have a2 := flatN_get hlen (i / 6) (by simpa using hq) (i % 6) (by omega)
    rw [show i / 6 * 6 + i % 6 = i by omega] at a1 a2
    rw [a1, a2, List.getElem_set]
    by_cases e2 : k = i / 6
    · rw [if_pos e2, if_pos (by omega), show i - k * 6 = i % 6 by omega]
    · rw [if_neg e2, if_neg (by omega)]
  · rw [if_neg (by omega), List.getElem?_eq_none (by omega), List.getElem?_eq_none (by omega)]
/-- Lines of the call's own of which the first k lead into rows of its own, the others into what was there. -/
structure Mid (base top lo hi k : Nat) (w : World) (g n : Nat) (xs : List BL) (rs : List NR) : Prop where
  num : n = xs.length
  rcs : BX.RecN xs rs
  row : w.ownsRow base 36 6 (.slice (some ⟨g, 0, none⟩) n n) n (flatN rs)
  lt : g < top
  own : ∀ j (hj : j < xs.length) (hr : j < rs.length), j < k → ∀ u, (rs[j]'hr).cs[5]? = some u → w.ownsRow base 110 3 u (xs[j]'hj).whn.length (CN.cells (xs[j]'hj).whn) ∧ InSp base top u
  ap : ∀ i j (hi : i < rs.length) (hj : j < rs.length), i < k → j < k → i ≠ j → ∀ u u', (rs[i]'hi).cs[5]? = some u → (rs[j]'hj).cs[5]? = some u' → Apart u u'
  far : ∀ j (hj : j < xs.length) (hr : j < rs.length), k ≤ j → ∀ u, (rs[j]'hr).cs[5]? = some u → CX lo hi w u (xs[j]'hj).whn
theorem Mid.below {base top lo hi k : Nat} {w w' : World} {g n : Nat} {xs : List BL} {rs : List NR} (h : Mid base top lo hi k w g n xs rs) (hb : Below w.heap.size w w') : Mid base top lo hi k w' g n xs rs :=
  ⟨h.num, h.rcs, own_keepL h.row hb, h.lt, fun j hj hr hk u hu => ⟨own_keepL (h.own j hj hr hk u hu).1 hb, (h.own j hj hr hk u hu).2⟩, h.ap, fun j hj hr hk u hu => (h.far j hj hr hk u hu).below CnN.kept hb⟩
theorem Mid.top {base top top' lo hi k : Nat} {w : World} {g n : Nat} {xs : List BL} {rs : List NR} (h : Mid base top lo hi k w g n xs rs) (ht : top ≤ top') : Mid base top' lo hi k w g n xs rs :=
  ⟨h.num, h.rcs, h.row, Nat.lt_of_lt_of_le h.lt ht, fun j hj hr hk u hu => ⟨(h.own j hj hr hk u hu).1, (h.own j hj hr hk u hu).2.mono (Nat.le_refl _) ht⟩, h.ap, h.far⟩
theorem Mid.len6 {base top lo hi k : Nat} {w : World} {g n : Nat} {xs : List BL} {rs : List NR} (h : Mid base top lo hi k w g n xs rs) : ∀ r, r ∈ rs → r.cs.length = 6 := fun r hr => by
  obtain ⟨j, hj, rfl⟩ := List.getElem_of_mem hr
  obtain ⟨u, hu⟩ := h.rcs.2 j (by rw [← h.rcs.1]; exact hj) hj
  rw [hu]; rfl
/-- The cells of the k-th line. -/
theorem Mid.cells {base top lo hi k : Nat} {w : World} {g n : Nat} {xs : List BL} {rs : List NR} (h : Mid base top lo hi k w g n xs rs) (hk : k < xs.length) :
    ∃ u, w.cell? ⟨g, k * 6, none⟩ = some (.string (xs[k]'hk).par) ∧ w.cell? ⟨g, k * 6 + 1, none⟩ = some (.string (xs[k]'hk).prt) ∧ w.cell? ⟨g, k * 6 + 2, none⟩ = some (.int .i64 (xs[k]'hk).qty) ∧ w.cell? ⟨g, k * 6 + 3, none⟩ = some (.int .i64 (xs[k]'hk).fr) ∧ w.cell? ⟨g, k * 6 + 4, none⟩ = some (.int .i64 (xs[k]'hk).un) ∧ w.cell? ⟨g, k * 6 + 5, none⟩ = some u ∧ CX lo hi w u (xs[k]'hk).whn := by
  have hr : k < rs.length := by rw [h.rcs.1]; exact hk
  obtain ⟨u, hu⟩ := h.rcs.2 k hk hr
  have hn := h.num
  have hc : ∀ i, i < 6 → w.cell? ⟨g, k * 6 + i, none⟩ = (BL.rec1 (xs[k]'hk) u).cs[i]? := fun i hi => by
    rw [h.row.cellAt (k * 6 + i) (by omega), flatN_get h.len6 k hr i hi, hu]
  exact ⟨u, hc 0 (by omega), hc 1 (by omega), hc 2 (by omega), hc 3 (by omega), hc 4 (by omega), hc 5 (by omega), h.far k hk hr (Nat.le_refl _) u (by rw [hu]; rfl)⟩
theorem Mid.cellw {base top lo hi k : Nat} {w : World} {g n : Nat} {xs : List BL} {rs : List NR} (h : Mid base top lo hi k w g n xs rs) (hk : k < xs.length) (i : Nat) (hi6 : i < 6) : (∃ u, w.cell? ⟨g, k * 6 + i, none⟩ = some u) ∧ w.frozen? ⟨g, k * 6 + i, none⟩ = false := by
  have hn := h.num
  refine ⟨?_, h.row.frozenAt _⟩
  rw [h.row.cellAt (k * 6 + i) (by omega), List.getElem?_eq_getElem (by rw [h.row.1]; omega)]
  exact ⟨_, rfl⟩
theorem Mid.put {base top lo hi k : Nat} {w : World} {g n : Nat} {xs : List BL} {rs : List NR} (h : Mid base top lo hi k w g n xs rs) (hk : k < xs.length) (u : Value) (hx : w.ownsRow base 110 3 u (xs[k]'hk).whn.length (CN.cells (xs[k]'hk).whn)) (hsp : InSp base top u)
    (hap : ∀ q (hq : q < rs.length), q < k → ∀ x, (rs[q]'hq).cs[5]? = some x → Apart x u) (hhi : hi ≤ base) : Mid base top lo hi (k + 1) (putC w g (k * 6) (BL.rec1 (xs[k]'hk) u).cs) g n xs (rs.set k (BL.rec1 (xs[k]'hk) u)) := by
  have hr : k < rs.length := by rw [h.rcs.1]; exact hk
  have hg := putC_grown g (BL.rec1 (xs[k]'hk) u).cs w (k * 6)
  have hst := own_putC (g := g) (BL.rec1 (xs[k]'hk) u).cs (k * 6) h.row
  rw [putL_flat h.len6 k hr (BL.rec1 (xs[k]'hk) u) rfl] at hst
  have hgb : base ≤ g := (h.row.lt g rfl).1
  have kept : ∀ {x : Value} {q : Nat} {ys : List Value}, w.ownsRow base 110 3 x q ys → (putC w g (k * 6) (BL.rec1 (xs[k]'hk) u).cs).ownsRow base 110 3 x q ys := fun {x q ys} hx => hx.kept hg (by
    cases hv : x.ownBlock with
    | none => exact Or.inl rfl
    | some b => exact Or.inr (fun e2 => apart_type h.row hx (by decide) b e2.symm hv))
  refine ⟨h.num, ⟨by simp [h.rcs.1], fun j hj hrj => ?_⟩, hst, h.lt, fun j hj hrj hjk v hv => ?_, fun i j hi hj hik hjk hne v v' hv hv' => ?_, fun j hj hrj hjk v hv => ?_⟩
  · rw [List.getElem_set]
    split
    · rename_i e; subst e; exact ⟨u, rfl⟩
    · exact h.rcs.2 j hj (by simpa using hrj)
  · rw [List.getElem_set] at hv
    split at hv
    · rename_i e
      subst e
      have : u = v := Option.some.inj hv
      subst this
      exact ⟨kept hx, hsp⟩
    · rename_i e
      obtain ⟨a, b⟩ := h.own j hj (by simpa using hrj) (by omega) v hv
      exact ⟨kept a, b⟩
  · rw [List.getElem_set] at hv hv'
    split at hv
    · rename_i e
      subst e
      rw [if_neg hne] at hv'
      have : u = v := Option.some.inj hv
      subst this
      exact (hap j (by simpa using hj) (by omega) v' hv').symm
    · rename_i e
      split at hv'
      · rename_i e2
        subst e2
        have : u = v' := Option.some.inj hv'
        subst this
        exact hap i (by simpa using hi) (by omega) v hv
      · exact h.ap i j (by simpa using hi) (by simpa using hj) (by omega) (by omega) hne v v' hv hv'
  · rw [List.getElem_set, if_neg (by omega)] at hv
    exact (h.far j hj (by simpa using hrj) (by omega) v hv).same CnN.kept (Same.of_grown hg (fun q e => by cases e; exact Or.inr (by omega)))
theorem Mid.done {base top lo hi k : Nat} {w : World} {g n : Nat} {xs : List BL} {rs : List NR} (h : Mid base top lo hi k w g n xs rs) (hk : xs.length ≤ k) : BX.Own base top w (.slice (some ⟨g, 0, none⟩) n n) xs := by
  have hn : rs.length = n := by rw [h.rcs.1, h.num]
  refine ⟨rs, h.rcs, h.len6, by rw [hn]; exact h.row, fun b hb => by cases hb; exact ⟨(h.row.lt g rfl).1, h.lt⟩, fun j hj => ?_, fun i j hi hj hne u u' hu hu' => h.ap i j hi hj (by have := h.rcs.1; omega) (by have := h.rcs.1; omega) hne u u' hu hu'⟩
  have hjx : j < xs.length := by rw [← h.rcs.1]; exact hj
  obtain ⟨u, hu⟩ := h.rcs.2 j hjx hj
  obtain ⟨a, b⟩ := h.own j hjx hj (by omega) u (by rw [hu]; rfl)
  exact ⟨u, by rw [hu]; rfl, by rw [hu]; exact a, b⟩
theorem Mid.start {base top lo hi : Nat} {w : World} {g n : Nat} {xs : List BL} {rs : List NR} (hn : n = xs.length) (hrec : Recs lo hi w xs rs) (hrow : w.ownsRow base 36 6 (.slice (some ⟨g, 0, none⟩) n n) n (flatN rs)) (hg : g < top) : Mid base top lo hi 0 w g n xs rs :=
  ⟨hn, ⟨hrec.1, fun j hj hr => by obtain ⟨u, a, _⟩ := hrec.2 j hj hr; exact ⟨u, a⟩⟩, hrow, hg, fun j _ _ hk => absurd hk (Nat.not_lt_zero _), fun i j _ _ hk => absurd hk (Nat.not_lt_zero _), fun j hj hr _ u hu => by
    obtain ⟨v, a, b⟩ := hrec.2 j hj hr
    rw [a] at hu
    have : v = u := Option.some.inj hu
    subst this
    exact b⟩

set_option maxRecDepth 100000 in
set_option maxHeartbeats 8000000 in
theorem im_copiedLines (v : Value) (xs : List BL) (w : World) (h : BX 0 w.heap.size w v xs) (hl : xs.length ≤ 48) (hco : ∀ y, y ∈ xs → 0 < y.whn.length ∧ y.whn.length ≤ 30) :
    Calls Try.prog 49 #[v] w fun e w' => ∃ v', e = .returned v' ∧ Hid (BX.Own w.heap.size w'.heap.size w' v' xs) ∧ Hid (Below w.heap.size w w') := by
  obtain ⟨i0, hi0, hz0, hz1, hz2⟩ := info_parts infoBLi
  obtain ⟨p, c, rs, rfl, hc, hrec, hcell⟩ := BX.told h
  have HREC := Lib.hid hrec
  have HCELL := Lib.hid hcell
  have HCO := Lib.hid hco
  clear h hrec hcell hco
  go_enter Try.func49, Try.ntmps49
  go_wp2_with (at_make; refine wpList_make_full _ rfl _ _ 25 rfl w.heap.size 36 i0 (.agg #[.string ByteArray.empty, .string ByteArray.empty, .int .i64 0, .int .i64 0, .int .i64 0, .slice none 0 0]) 6 Try.underlying25 hi0 hz0 hz1 _ _ _ _ xs.length rfl rfl rfl rfl (by rw [hz2]; omega) (by unfold maxLen; omega) (Nat.le_refl _) ?_)
  intro w0 hown0 hgrow0
  have HB0 : Hid (Below w.heap.size w w0) := Lib.hid ((Below.refl _ _).grown hgrow0 (Nat.le_refl _) (fun k h => by cases h))
  have HOW0 := Lib.hid hown0
  clear hown0 hgrow0
  go_wp2_with (refine wpList_copy_whole rfl _ _ 25 25 rfl 36 i0 Try.underlying25 hi0 hz1 w.heap.size w.heap.size xs.length c p (by simp [Act.eval]) (by simp [Act.eval]) HOW0.out (HREC.out.flat) (HCELL.out.below HB0.out) HREC.out.one1 ?_)
  intro w3 hown3 hgrow3
  have HB3 : Hid (Below w.heap.size w w3) := Lib.hid (HB0.out.grown hgrow3 HB0.out.size (fun k h => by cases h; exact Nat.le_refl _))
  have HM0 : Hid (Mid w.heap.size w3.heap.size 0 w.heap.size 0 w3 w.heap.size xs.length xs rs) := Lib.hid (Mid.start rfl ((HREC.out.below HB3.out)) hown3 (hown3.lt _ rfl).2)
  clear hown3 hgrow3 HOW0 HB0 HREC HCELL
  go_wp2_with fail
  go_loopw [13] (fun i wr => ∃ (k : Nat) (rs : List NR), k ≤ xs.length ∧ i = .int .i64 k ∧ Hid (Mid w.heap.size wr.heap.size 0 w.heap.size k wr w.heap.size xs.length xs rs) ∧ Hid (Below w.heap.size w wr)) (fun i _ => xs.length - (intOf i).toNat)
  case atStart => exact ⟨0, rs, Nat.zero_le _, rfl, HM0, HB3⟩
  case round =>
    clear HM0 HB3
    obtain ⟨k, rs, hk, rfl, HM, HB⟩ := hrel
    by_cases hlt : k < xs.length
    · have HLT := Lib.hid hlt
      obtain ⟨u5, e0, e1, e2, e3, e4, e5, h5⟩ := HM.out.cells hlt
      have HCY := Lib.hid (HCO.out _ (List.getElem_mem hlt))
      obtain ⟨sa5, sc5, rfl⟩ := h5.slice
      have HPUT := Lib.hid (fun W' (hm : Mid w.heap.size W'.heap.size 0 w.heap.size k W' w.heap.size xs.length xs rs) u hx hsp hap => hm.put hlt u hx hsp hap (Nat.le_refl _))
      have HOWNK : Hid (∀ q (hq : q < rs.length), q < k → ∀ x, (rs[q]'hq).cs[5]? = some x → InSp w.heap.size wr.heap.size x) := Lib.hid (fun q hq hqk x hx => (HM.out.own q (by have := HM.out.rcs.1; omega) hq hqk x hx).2)
      have hi1 : (k : Int) < (xs.length : Int) := by omega
      have hgl := HM.out.lt
      generalize xs[k]'hlt = x at *
      have HP := Lib.hid (im_copied x _ _ _ wr h5 HCY.out.1 HCY.out.2)
      clear h5
      go_wp2_with fail
      refine HP.out.mono ?_
      rintro e w2 ⟨a3, c3, rfl, HOL, HBL⟩
      have HM2 := Lib.hid ((HM.out.below HBL.out).top HBL.out.size)
      have HB2 := Lib.hid (HB.out.trans (HBL.out.mono HB.out.size))
      have hput := HPUT.out w2 HM2.out (.slice a3 x.whn.length c3) (own_lowerN HOL.out HB.out.size) (fun q hq => ⟨by have := (HOL.out.lt q hq).1; have := HB.out.size; omega, (HOL.out.lt q hq).2⟩) (fun q hq hqk u hu => (HOWNK.out q hq hqk u hu).apart (fun q hq => HOL.out.lt q hq) (Or.inl (Nat.le_refl _)))
      simp only [putC, BL.rec1, Nat.add_assoc, Nat.reduceAdd] at hput
      have HN := Lib.hid hput
      have hgw : w.heap.size ≤ w.heap.size := Nat.le_refl _
      obtain ⟨⟨o_0, ho_0⟩, fo_0⟩ : (∃ u, w2.cell? ⟨w.heap.size, k * 6, none⟩ = some u) ∧ w2.frozen? ⟨w.heap.size, k * 6, none⟩ = false := HM2.out.cellw HLT.out 0 (by omega)
      obtain ⟨⟨o_1, ho_1⟩, fo_1⟩ : (∃ u, w2.cell? ⟨w.heap.size, k * 6 + 1, none⟩ = some u) ∧ w2.frozen? ⟨w.heap.size, k * 6 + 1, none⟩ = false := HM2.out.cellw HLT.out 1 (by omega)
      obtain ⟨⟨o_2, ho_2⟩, fo_2⟩ : (∃ u, w2.cell? ⟨w.heap.size, k * 6 + 2, none⟩ = some u) ∧ w2.frozen? ⟨w.heap.size, k * 6 + 2, none⟩ = false := HM2.out.cellw HLT.out 2 (by omega)
      obtain ⟨⟨o_3, ho_3⟩, fo_3⟩ : (∃ u, w2.cell? ⟨w.heap.size, k * 6 + 3, none⟩ = some u) ∧ w2.frozen? ⟨w.heap.size, k * 6 + 3, none⟩ = false := HM2.out.cellw HLT.out 3 (by omega)
      obtain ⟨⟨o_4, ho_4⟩, fo_4⟩ : (∃ u, w2.cell? ⟨w.heap.size, k * 6 + 4, none⟩ = some u) ∧ w2.frozen? ⟨w.heap.size, k * 6 + 4, none⟩ = false := HM2.out.cellw HLT.out 4 (by omega)
      obtain ⟨⟨o_5, ho_5⟩, fo_5⟩ : (∃ u, w2.cell? ⟨w.heap.size, k * 6 + 5, none⟩ = some u) ∧ w2.frozen? ⟨w.heap.size, k * 6 + 5, none⟩ = false := HM2.out.cellw HLT.out 5 (by omega)
      clear hput HP HPUT HM e0 e1 e2 e3 e4 e5
      go_wp2_with fail
      go_roundw
      case rel => exact ⟨k + 1, _, by have := HLT.out; omega, by go_num, Lib.hid (HN.out.top (by simp)), Lib.hid ((((((HB2.out.setCell hgw _).setCell hgw _).setCell hgw _).setCell hgw _).setCell hgw _).setCell hgw _)⟩
      case measure => have := HLT.out; simp [intOf]; omega
    · have HE := Lib.hid (HM.out.done (by omega))
      go_wp2_with fail
      go_ret
      exact ⟨_, rfl, HE, HB⟩
end Go.Proofs.Ytdhldokpojghdaa

namespace Go.Proofs.Ytdhldokpojghdaa
open Go.RowKit

def ImplIsChange : Prop := ∀ (v : Value) (l : List IT) (x : CH) (w : World), IT.Is w v l → l.length ≤ maxLen → (∀ r, r ∈ l → IT.Sz r) → CH.Sz x → Calls Try.prog 29 #[v, CH.val x] w (BoolRes (chB l x) w)
def ImplApplyChange : Prop := ∀ (v v2 : Value) (l : List IT) (ls : List BL) (x : CH) (lo hi : Nat) (w : World), IT.Is w v l → l.length ≤ maxLen → (∀ r, r ∈ l → IT.Sz r) → BX lo hi w v2 ls → BX.Sz ls → CH.Sz x → Calls Try.prog 13 #[v, v2, CH.val x] w (ApOut (apO l ls x) w)
def ImplApplyChanges : Prop := ∀ (v v2 : Value) (l : List IT) (ls : List BL) (vc : Value) (cs : List CH) (lo hi : Nat) (w : World), IT.Is w v l → l.length ≤ maxLen → (∀ r, r ∈ l → IT.Sz r) → BX lo hi w v2 ls → BX.Sz ls → CH.Is w vc cs → cs.length ≤ maxLen → (∀ r, r ∈ cs → CH.Sz r) → Calls Try.prog 22 #[v, v2, vc] w (ApOut (apsO l ls cs) w)
def ImplBillsOn : Prop := ∀ (v v2 : Value) (l : List IT) (ls : List BL) (day : Int) (lo hi : Nat) (w : World), IT.Is w v l → l.length ≤ maxLen → (∀ r, r ∈ l → IT.Sz r) → BX lo hi w v2 ls → BX.Sz ls → Calls Try.prog 17 #[v, v2, .int .i64 day] w (LnOut (billsOnR l ls day) w)
def ImplTidyLines : Prop := ∀ (v v2 : Value) (l : List IT) (ls : List BL) (lo hi : Nat) (w : World), IT.Is w v l → l.length ≤ maxLen → (∀ r, r ∈ l → IT.Sz r) → BX lo hi w v2 ls → BX.Sz ls → Calls Try.prog 20 #[v, v2] w (LnOut (tidyR l ls) w)
end Go.Proofs.Ytdhldokpojghdaa

namespace Go.Proofs.Ytdhldokpojghdaa
open Go.RowKit

theorem BX.whole {lo hi : Nat} {w : World} {v : Value} {xs : List BL} (h : BX lo hi w v xs) : BX 0 w.heap.size w v xs := by
  obtain ⟨a, c, rfl, hc, h⟩ := h
  refine ⟨a, c, rfl, hc, fun h0 => ?_⟩
  obtain ⟨b, o, rfl, _, hb, h⟩ := h h0
  refine ⟨b, o, rfl, ⟨Nat.zero_le _, hb⟩, hb, fun j hj => ?_⟩
  obtain ⟨cs, h1, ⟨u, h2, a5, c5, hu, hc5, h5⟩, h3⟩ := h j hj
  refine ⟨cs, h1, ⟨u, h2, a5, c5, hu, hc5, fun h0 => ?_⟩, h3⟩
  obtain ⟨b5, o5, e5, _, hb5, h5⟩ := h5 h0
  exact ⟨b5, o5, e5, ⟨Nat.zero_le _, hb5⟩, hb5, h5⟩
theorem BX.ownNone (base top : Nat) (w : World) : BX.Own base top w (.slice none 0 0) [] := ⟨[], ⟨rfl, fun j hj => by simp at hj⟩, OwnN.nil _ _ _ _ _ _ _ _⟩
theorem bills_row {l : List IT} {xs : List BL} (h : billsB l xs = true) : ∀ y, y ∈ xs → 0 < y.whn.length ∧ y.whn.length ≤ 30 := fun y hy => by
  obtain ⟨k, hk, rfl⟩ := List.getElem_of_mem hy
  exact billsB_cond h hk

theorem foldO_szI {l : List IT} : ∀ (cs : List CH) (ys zs : List BL), BillsOk l ys → BX.Sz ys → (∀ c, c ∈ cs → CH.Sz c) → foldO l cs ys = some zs → BX.Sz zs
  | [], ys, zs, _, h, _, e => by
    have : ys = zs := Option.some.inj e
    rw [← this]; exact h
  | x :: cs, ys, zs, hb, h, hc, e => by
    have e2 : (match apO l ys x with | some zs => foldO l cs zs | none => none) = some zs := e
    cases h1 : apO l ys x with
    | none => rw [h1] at e2; cases e2
    | some us =>
      rw [h1] at e2
      obtain ⟨h2, h3⟩ := apO_some h1
      subst h3
      exact foldO_szI cs _ zs h2.2.2 (chgL_sz (hc x (by simp)) h (by have := hb.1.2.1; unfold maxLen; omega)) (fun c hx => hc c (List.mem_cons_of_mem _ hx)) e2
theorem im_isChange : ImplIsChange := fun v l x w h hm hs _ => im_isChange' v l x w h hm hs

set_option maxRecDepth 100000 in
set_option maxHeartbeats 8000000 in
theorem im_applyChange' (v v2 : Value) (l : List IT) (xs : List BL) (x0 : CH) (lo hi : Nat) (w : World) (h : IT.Is w v l) (h2 : BX lo hi w v2 xs) (hm : l.length ≤ maxLen) (hs : ∀ r, r ∈ l → IT.Sz r) (hs2 : BX.Sz xs) (hsx : CH.Sz x0) :
    Calls Try.prog 13 #[v, v2, CH.val x0] w (ApOut (apO l xs x0) w) := by
  have HI := Lib.hid h
  have HX := Lib.hid h2.whole
  have HS := Lib.hid hs
  have HS2 := Lib.hid hs2
  have HM := Lib.hid hm
  have HSX := Lib.hid hsx
  obtain ⟨a, c, rfl⟩ := h.slice
  obtain ⟨a2, c2, rfl⟩ := h2.slice
  have HN : Hid (¬ApOk l xs x0 → apO l xs x0 = none) := Lib.hid apO_no
  have HYES : Hid (ApOk l xs x0 → apO l xs x0 = some (chgL x0 xs)) := Lib.hid apO_yes
  generalize apO l xs x0 = o at *
  have HCH : Hid (∀ W, Below w.heap.size w W → Calls Try.prog 29 #[.slice a l.length c, CH.val x0] W (BoolRes (chB l x0) W)) := Lib.hid (fun W hW => im_isChange' _ l x0 W (HI.out.below hW) HM.out HS.out)
  have HBI : Hid (∀ W, Below w.heap.size w W → Calls Try.prog 47 #[.slice a l.length c, .slice a2 xs.length c2] W (BoolRes (billsB l xs) W)) := Lib.hid (fun W hW => im_bills _ _ l xs 0 w.heap.size W (HI.out.below hW) (HX.out.below BLN.kept hW) HM.out HS.out HS2.out)
  have HAP : Hid (∀ W, Below w.heap.size w W → 0 ≤ x0.dy → x0.dy ≤ 999 → xs.length ≤ 24 → Calls Try.prog 48 #[CH.val x0, .slice a2 xs.length c2] W (LnAt (chgL x0 xs) W)) := Lib.hid (fun W hW h0 h1 hl => im_appliedTo x0 _ xs W ((HX.out.below BLN.kept hW).mono BLN.kept (Nat.le_refl _) hW.size) h0 h1 hl)
  clear h h2 hs hs2 hsx hm
  obtain ⟨dy, pa, ou, inn, qy⟩ := x0
  unfold CH.val at HCH HAP ⊢
  have HBQ : Hid (Below w.heap.size w (w.alloc (.cells #[.int .i64 dy, .string pa, .string ou, .string inn, .int .i64 qy] 27))) := Lib.hid ((Below.refl _ _).alloc (Nat.le_refl _) _)
  have HXQ := Lib.hid (heap_alloc_new w (.cells #[.int .i64 dy, .string pa, .string ou, .string inn, .int .i64 qy] 27))
  go_enter Try.func13, Try.ntmps13
  go_upto_region 1 with fail
  generalize w.alloc (.cells #[.int .i64 dy, .string pa, .string ou, .string inn, .int .i64 qy] 27) = wq at *
  have HCK := Lib.hid (HBI.out wq HBQ.out)
  go_wp2_with fail
  refine HCK.out.mono ?_
  rintro e w1 ⟨rfl, hb⟩
  have HB1 := Lib.hid (HBQ.out.trans (hb.mono HBQ.out.size))
  have HX1 := Lib.hid (blk_below HXQ.out hb)
  clear hb HXQ HBQ HCK
  rcases Bool.eq_false_or_eq_true (billsB l xs) with hc | hc
  rotate_left
  · have HE := Lib.hid (HN.out (fun h => by rw [billsB_yes h.1] at hc; cases hc))
    rw [hc]
    clear hc
    go_wp2_with fail
    go_ret2
    exact ⟨_, by rw [HE.out]; rfl, by rw [HE.out]; exact Lib.hid (BX.ownNone _ _ _), HB1⟩
  have HBT := Lib.hid hc
  have h24 := (billsB_iff.1 hc).1.2.1
  rw [hc]
  clear hc
  have b0 := cell_of_row _ _ 0 _ _ _ HX1.out
  have b1 := cell_of_row _ _ 1 _ _ _ HX1.out
  have b2 := cell_of_row _ _ 2 _ _ _ HX1.out
  have b3 := cell_of_row _ _ 3 _ _ _ HX1.out
  have b4 := cell_of_row _ _ 4 _ _ _ HX1.out
  have HCC := Lib.hid (HCH.out w1 HB1.out)
  go_wp2_with fail
  refine HCC.out.mono ?_
  rintro e w2 ⟨rfl, hb⟩
  have HB2 := Lib.hid (HB1.out.trans (hb.mono HB1.out.size))
  have HX2 := Lib.hid (blk_below HX1.out hb)
  clear hb HX1 HB1 HCC b0 b1 b2 b3 b4
  rcases Bool.eq_false_or_eq_true (chB l ⟨dy, pa, ou, inn, qy⟩) with hc | hc
  rotate_left
  · have HE := Lib.hid (HN.out (fun h => by rw [chB_yes h.2.1] at hc; cases hc))
    rw [hc]
    clear hc
    go_wp2_with fail
    go_ret2
    exact ⟨_, by rw [HE.out]; rfl, by rw [HE.out]; exact Lib.hid (BX.ownNone _ _ _), HB2⟩
  have HCT := Lib.hid (chB_iff.1 hc)
  rw [hc]
  clear hc
  have HAC := Lib.hid (HAP.out w2 HB2.out HCT.out.2.1.1 HCT.out.2.1.2 h24)
  have b0 := cell_of_row _ _ 0 _ _ _ HX2.out
  have b1 := cell_of_row _ _ 1 _ _ _ HX2.out
  have b2 := cell_of_row _ _ 2 _ _ _ HX2.out
  have b3 := cell_of_row _ _ 3 _ _ _ HX2.out
  have b4 := cell_of_row _ _ 4 _ _ _ HX2.out
  go_wp2_with fail
  refine HAC.out.mono ?_
  rintro e w3 ⟨v3, rfl, HX3, HBL⟩
  have HB3 := Lib.hid (HB2.out.trans (HBL.out.mono HB2.out.size))
  have hl48 : (chgL ⟨dy, pa, ou, inn, qy⟩ xs).length ≤ 48 := by have := chgL_len ⟨dy, pa, ou, inn, qy⟩ xs; omega
  have HSY : Hid (BX.Sz (chgL ⟨dy, pa, ou, inn, qy⟩ xs)) := Lib.hid (chgL_sz HSX.out HS2.out (by unfold maxLen; omega))
  obtain ⟨ys, hys⟩ : ∃ ys, chgL ⟨dy, pa, ou, inn, qy⟩ xs = ys := ⟨_, rfl⟩
  rw [hys] at HX3 hl48 HSY HYES
  have HYS := Lib.hid hys
  obtain ⟨a3, c3, rfl⟩ := HX3.out.slice
  have HCK := Lib.hid (im_bills _ _ l ys 0 w3.heap.size w3 (HI.out.below HB3.out) HX3.out HM.out HS.out HSY.out)
  clear hys HBL HAC b0 b1 b2 b3 b4
  go_wp2_with fail
  refine HCK.out.mono ?_
  rintro e w4 ⟨rfl, hb⟩
  have HX4 := Lib.hid ((HX3.out.below BLN.kept hb).mono BLN.kept (Nat.le_refl _) hb.size)
  have HB4 := Lib.hid (HB3.out.trans (hb.mono HB3.out.size))
  clear hb HCK
  rcases Bool.eq_false_or_eq_true (billsB l ys) with hc | hc
  rotate_left
  · have HE := Lib.hid (HN.out (fun h => by have h2 := h.2.2; rw [HYS.out] at h2; rw [billsB_yes h2] at hc; cases hc))
    rw [hc]
    clear hc
    go_wp2_with fail
    go_ret2
    exact ⟨_, by rw [HE.out]; rfl, by rw [HE.out]; exact Lib.hid (BX.ownNone _ _ _), HB4⟩
  have HE := Lib.hid (HYES.out ⟨billsB_iff.1 HBT.out, HCT.out, by rw [HYS.out]; exact billsB_iff.1 hc⟩)
  have HCP := Lib.hid (im_copiedLines _ ys w4 HX4.out hl48 (bills_row hc))
  rw [hc]
  clear hc
  go_wp2_with fail
  refine HCP.out.mono ?_
  rintro e w5 ⟨v5, rfl, HO5, HB5⟩
  have HBF := Lib.hid (HB4.out.trans (HB5.out.mono HB4.out.size))
  have HOF := Lib.hid (HO5.out.lower HB4.out.size)
  obtain ⟨a5, c5, rfl⟩ := HO5.out.slice
  clear HCP HO5 HB5
  go_wp2_with fail
  go_ret2
  exact ⟨_, by rw [HE.out]; rfl, by rw [HE.out]; exact HOF, HBF⟩
theorem im_applyChange : ImplApplyChange := fun v v2 l ls x lo hi w h hm hs h2 hs2 hsx => im_applyChange' v v2 l ls x lo hi w h h2 hm hs hs2 hsx

set_option maxRecDepth 100000 in
set_option maxHeartbeats 8000000 in
theorem im_applyChanges' (v v2 vc : Value) (l : List IT) (xs : List BL) (cs : List CH) (lo hi : Nat) (w : World) (h : IT.Is w v l) (h2 : BX lo hi w v2 xs) (h3 : CH.Is w vc cs) (hm : l.length ≤ maxLen) (hs : ∀ r, r ∈ l → IT.Sz r) (hs2 : BX.Sz xs) (hm3 : cs.length ≤ maxLen) (hs3 : ∀ r, r ∈ cs → CH.Sz r) :
    Calls Try.prog 22 #[v, v2, vc] w (ApOut (apsO l xs cs) w) := by
  have HI := Lib.hid h
  have HX := Lib.hid h2.whole
  have HC := Lib.hid h3
  have HS := Lib.hid hs
  have HS2 := Lib.hid hs2
  have HS3 := Lib.hid hs3
  have HM := Lib.hid hm
  unfold maxLen at hm hm3
  obtain ⟨a, c, rfl⟩ := h.slice
  obtain ⟨a2, c2, rfl⟩ := h2.slice
  obtain ⟨ac, cc, rfl⟩ := h3.slice
  have HN : Hid (¬(BillsOk l xs ∧ cs.length ≤ 8) → apsO l xs cs = none) := Lib.hid apsO_no
  have HYES : Hid (BillsOk l xs → cs.length ≤ 8 → apsO l xs cs = foldO l cs xs) := Lib.hid apsO_yes
  generalize apsO l xs cs = o at *
  have HCK := Lib.hid (im_bills _ _ l xs lo hi w h h2 HM.out hs hs2)
  clear h h2 h3 hs hs2 hs3
  go_enter Try.func22, Try.ntmps22
  go_wp2_with fail
  refine HCK.out.mono ?_
  rintro e w1 ⟨rfl, hb⟩
  have HB1 := Lib.hid hb
  clear hb HCK
  rcases Bool.eq_false_or_eq_true (billsB l xs) with hc | hc
  rotate_left
  · have HE := Lib.hid (HN.out (fun h => by rw [billsB_yes h.1] at hc; cases hc))
    rw [hc]
    clear hc
    go_wp2_with fail
    go_ret2
    exact ⟨_, by rw [HE.out]; rfl, by rw [HE.out]; exact Lib.hid (BX.ownNone _ _ _), HB1⟩
  have HBT := Lib.hid hc
  have h24 := (billsB_iff.1 hc).1.2.1
  have HCP := Lib.hid (im_copiedLines _ xs w1 ((HX.out.below BLN.kept HB1.out).mono BLN.kept (Nat.le_refl _) HB1.out.size) (by omega) (bills_row hc))
  rw [hc]
  clear hc
  by_cases h8 : cs.length ≤ 8
  rotate_left
  · have HE := Lib.hid (HN.out (fun h => h8 h.2))
    have hd : decide ((8 : Int) < (cs.length : Int)) = true := decide_eq_true (by omega)
    clear h8
    go_wp2_with fail
    go_ret2
    exact ⟨_, by rw [HE.out]; rfl, by rw [HE.out]; exact Lib.hid (BX.ownNone _ _ _), HB1⟩
  have hd : decide ((8 : Int) < (cs.length : Int)) = false := decide_eq_false (by omega)
  have HOE := Lib.hid (HYES.out (billsB_iff.1 HBT.out) h8)
  clear HN HYES
  go_wp2_with fail
  refine HCP.out.mono ?_
  rintro e w0 ⟨v0, rfl, HO0, HBC⟩
  have HB2 := Lib.hid (HB1.out.trans (HBC.out.mono HB1.out.size))
  have HO1 := Lib.hid (HO0.out.lower HB1.out.size)
  obtain ⟨p0, q0, rfl⟩ := HO0.out.slice
  have HF0 : Hid (foldO l (cs.take 0) xs = some xs) := Lib.hid rfl
  clear HCP HO0 HBC HB1
  go_wp2_with fail
  go_loopw [8, 26] (fun s i wr => ∃ (m : Nat) (zs : List BL) (p : Option Addr) (q : Nat), m ≤ cs.length ∧ i = .int .i64 m ∧ s = .slice p zs.length q ∧ Hid (foldO l (cs.take m) xs = some zs) ∧ Hid (BX.Own w.heap.size wr.heap.size wr (.slice p zs.length q) zs) ∧ Hid (Below w.heap.size w wr)) (fun _ i _ => cs.length - (intOf i).toNat)
  case atStart => exact ⟨0, xs, p0, q0, Nat.zero_le _, rfl, rfl, HF0, HO1, HB2⟩
  case round =>
    clear HF0 HO1 HB2
    obtain ⟨m, zs, p3, q3, hmk, rfl, rfl, HF, HO, HB⟩ := hrel
    have hst := HB.out.size
    by_cases hmt : m < cs.length
    rotate_left
    · have HE : Hid (o = some zs) := Lib.hid (by
        have h1 := HF.out
        rw [List.take_of_length_le (by omega)] at h1
        rw [HOE.out, h1])
      go_wp2_with fail
      go_ret2
      exact ⟨_, by rw [HE.out]; rfl, by rw [HE.out]; exact HO, HB⟩
    have HMT := Lib.hid hmt
    have HSZ : Hid (BX.Sz zs) := Lib.hid (foldO_szI _ _ _ (billsB_iff.1 HBT.out) HS2.out (fun c hc => HS3.out c (List.mem_of_mem_take hc)) HF.out)
    have HSC := Lib.hid (HS3.out _ (List.getElem_mem hmt))
    have HT := Lib.hid (foldO_take (l := l) (ys := xs) hmt)
    obtain ⟨bC, oC, kC, hvC, hcC, hatC⟩ := (HC.out.below HB.out).some (by omega)
    simp only [Value.slice.injEq] at hvC
    obtain ⟨rfl, _, rfl⟩ := hvC
    obtain ⟨e0, e1, e2, e3, e4⟩ := hatC.at m hmt
    clear hatC hcC
    have HAP : Hid (∀ W, Below wr.heap.size wr W → Calls Try.prog 13 #[.slice a l.length c, .slice p3 zs.length q3, CH.val (cs[m]'hmt)] W (ApOut (apO l zs (cs[m]'hmt)) W)) := Lib.hid (fun W hW => im_applyChange' _ _ l zs (cs[m]'hmt) w.heap.size wr.heap.size W (HI.out.below (HB.out.trans (hW.mono HB.out.size))) (HO.out.sl.below BLN.kept hW) HM.out HS.out HSZ.out HSC.out)
    unfold CH.val at HAP
    generalize cs[m]'hmt = x at *
    obtain ⟨dy, pa, ou, inn, qy⟩ := x
    simp only at e0 e1 e2 e3 e4 HAP
    obtain ⟨W4, hW4⟩ : ∃ W, wr.alloc (.cells #[.int .i64 dy, .string pa, .string ou, .string inn, .int .i64 qy] 27) = W := ⟨_, rfl⟩
    have HW4 := Lib.hid hW4
    have HL4 : Hid (Below wr.heap.size wr W4) := Lib.hid (by rw [← hW4]; exact (Below.refl _ _).alloc (Nat.le_refl _) _)
    have HY4 : Hid (W4.heap[wr.heap.size]? = some (.cells #[.int .i64 dy, .string pa, .string ou, .string inn, .int .i64 qy] 27)) := Lib.hid (by rw [← hW4]; exact heap_alloc_new _ _)
    clear hW4
    go_upto_region 7 with fail
    rw [HW4.out]
    clear HW4 e0 e1 e2 e3 e4
    have b0 := cell_of_row _ _ 0 _ _ _ HY4.out
    have b1 := cell_of_row _ _ 1 _ _ _ HY4.out
    have b2 := cell_of_row _ _ 2 _ _ _ HY4.out
    have b3 := cell_of_row _ _ 3 _ _ _ HY4.out
    have b4 := cell_of_row _ _ 4 _ _ _ HY4.out
    have HAQ := Lib.hid (HAP.out W4 HL4.out)
    go_wp2_with fail
    refine HAQ.out.mono ?_
    rintro e w5 ⟨v5, rfl, HO5, HB5⟩
    have HBF := Lib.hid (HB.out.trans ((HL4.out.trans (HB5.out.mono HL4.out.size)).mono HB.out.size))
    have hlw : w.heap.size ≤ W4.heap.size := Nat.le_trans HB.out.size HL4.out.size
    clear HAP HAQ HO HB b0 b1 b2 b3 b4 HB5
    cases hap : apO l zs ⟨dy, pa, ou, inn, qy⟩ with
    | none =>
      have HE : Hid (o = none) := Lib.hid (by rw [HOE.out]; exact foldO_none (k := m + 1) (by rw [HT.out, HF.out]; exact hap))
      rw [hap] at HO5
      obtain ⟨p4, q4, rfl⟩ := HO5.out.slice
      clear HO5
      go_wp2_with fail
      go_ret2
      exact ⟨_, by rw [HE.out]; rfl, by rw [HE.out]; exact Lib.hid (BX.ownNone _ _ _), HBF⟩
    | some us =>
      have HFN : Hid (foldO l (cs.take (m + 1)) xs = some us) := Lib.hid (by rw [HT.out, HF.out]; exact hap)
      rw [hap] at HO5
      obtain ⟨p4, q4, rfl⟩ := HO5.out.slice
      have HO6 := Lib.hid (HO5.out.lower hlw)
      clear HO5
      go_wp2_with fail
      go_roundw
      case rel => exact ⟨m + 1, us, p4, q4, by have := HMT.out; omega, by go_num, rfl, HFN, HO6, HBF⟩
      case measure => have := HMT.out; simp [intOf]; omega
theorem im_applyChanges : ImplApplyChanges := fun v v2 l ls vc cs lo hi w h hm hs h2 hs2 h3 hm3 hs3 => im_applyChanges' v v2 vc l ls cs lo hi w h h2 h3 hm hs hs2 hm3 hs3
end Go.Proofs.Ytdhldokpojghdaa

namespace Go.Proofs.Ytdhldokpojghdaa
open Go.RowKit

set_option maxRecDepth 100000 in
set_option maxHeartbeats 2000000 in
theorem im_equal (v v' : Value) (xs ys : List CN) (w : World) (h : CN.Is w v xs) (h' : CN.Is w v' ys) (hm : xs.length ≤ 1048577) (hm' : ys.length ≤ 1048577) :
    Calls Try.prog 89 #[v, v'] w (BoolRes (sameB xs ys) w) := by
  have HX := Lib.hid h
  have HY := Lib.hid h'
  obtain ⟨a, c, rfl⟩ := h.slice
  obtain ⟨a', c', rfl⟩ := h'.slice
  clear h h'
  by_cases hl : xs.length = ys.length
  rotate_left
  · have HF := Lib.hid (sameB_no (xs := xs) (ys := ys) (fun e => hl (by rw [e])))
    have hnn : ((xs.length : Int) != (ys.length : Int)) = true := bne_iff_ne.2 (by omega)
    clear hl
    go_enter Try.func89, Try.ntmps89
    go_wp2_with fail
    go_ret
    exact ⟨by rw [HF.out]; rfl, Below.refl _ _⟩
  have hnn : ((xs.length : Int) != (ys.length : Int)) = false := by rw [hl]; simp
  have HLEN := Lib.hid hl
  clear hl
  go_enter Try.func89, Try.ntmps89
  go_wp2_with fail
  go_loopw [13] (fun i wr => ∃ k : Nat, k ≤ xs.length ∧ i = .int .i64 k ∧ Hid (∀ i (h1 : i < xs.length) (h2 : i < ys.length), i < k → xs[i]'h1 = ys[i]'h2) ∧ Hid (Below w.heap.size w wr)) (fun i _ => xs.length - (intOf i).toNat)
  case atStart => exact ⟨0, Nat.zero_le _, rfl, Lib.hid (fun _ _ _ h => absurd h (Nat.not_lt_zero _)), Lib.hid (Below.refl _ _)⟩
  case round =>
    obtain ⟨k, hk, rfl, HE, HB⟩ := hrel
    by_cases hlt : k < xs.length
    rotate_left
    · have HT := Lib.hid (sameB_yes (same_of_get HLEN.out (fun i h1 h2 => HE.out i h1 h2 (by omega))))
      go_wp2_with fail
      go_ret
      exact ⟨by rw [HT.out]; rfl, HB.out⟩
    have hlt2 : k < ys.length := by rw [← HLEN.out]; exact hlt
    obtain ⟨b2, o2, c2, hv2, hc2, hcell2⟩ := HX.out.some (by omega)
    simp only [Value.slice.injEq] at hv2
    obtain ⟨rfl, _, rfl⟩ := hv2
    obtain ⟨b3, o3, c3, hv3, hc3, hcell3⟩ := HY.out.some (by omega)
    simp only [Value.slice.injEq] at hv3
    obtain ⟨rfl, _, rfl⟩ := hv3
    obtain ⟨e1, e2, e3⟩ := (hcell2.below HB.out).at k hlt
    obtain ⟨e4, e5, e6⟩ := (hcell3.below HB.out).at k hlt2
    clear hcell2 hcell3 hc2 hc3
    have HLT := Lib.hid hlt
    have hi1 : (k : Int) < (xs.length : Int) := by omega
    have hi2 : (k : Int) < (ys.length : Int) := by omega
    have HNE : Hid (¬xs[k]'hlt = ys[k]'hlt2 → sameB xs ys = false) := Lib.hid (fun hne => sameB_no (fun e => hne (by subst e; rfl)))
    have HEQ : Hid (xs[k]'hlt = ys[k]'hlt2 → ∀ i (h1 : i < xs.length) (h2 : i < ys.length), i < k + 1 → xs[i]'h1 = ys[i]'h2) := Lib.hid (fun heq i h1 h2 hi => by
      by_cases e : i = k
      · subst e; exact heq
      · exact HE.out i h1 h2 (by omega))
    generalize xs[k]'hlt = x at *
    generalize ys[k]'hlt2 = y at *
    obtain ⟨kind, opt, vl⟩ := x
    obtain ⟨kind', opt', vl'⟩ := y
    simp only at e1 e2 e3 e4 e5 e6
    by_cases g0 : kind = kind'
    rotate_left
    · have HF := Lib.hid (HNE.out (fun e => g0 (by injection e)))
      have q0 : (kind == kind') = false := beq_eq_false_iff_ne.2 g0
      clear g0
      go_upto_region 6 with fail
      go_quiet (fail)
      all_goals
        go_wp2_with fail
        go_ret
        exact ⟨by rw [HF.out]; rfl, HB.out.trans (below_drewN (Below.refl _ _) _)⟩
    by_cases g1 : opt = opt'
    rotate_left
    · have HF := Lib.hid (HNE.out (fun e => g1 (by injection e)))
      have q0 : (kind == kind') = true := beq_iff_eq.2 g0
      have q1 := str_ne g1
      clear g0 g1
      go_upto_region 6 with fail
      go_quiet (fail)
      all_goals
        go_wp2_with fail
        go_ret
        exact ⟨by rw [HF.out]; rfl, HB.out.trans (below_drewN (Below.refl _ _) _)⟩
    by_cases g2 : vl = vl'
    rotate_left
    · have HF := Lib.hid (HNE.out (fun e => g2 (by injection e)))
      have q0 : (kind == kind') = true := beq_iff_eq.2 g0
      have q1 := str_eq g1
      have q2 := str_ne g2
      clear g0 g1 g2
      go_upto_region 6 with fail
      go_quiet (fail)
      all_goals
        go_wp2_with fail
        go_ret
        exact ⟨by rw [HF.out]; rfl, HB.out.trans (below_drewN (Below.refl _ _) _)⟩
    have HES := Lib.hid (HEQ.out (by rw [g0, g1, g2]))
    have q0 : (kind == kind') = true := beq_iff_eq.2 g0
    have q1 := str_eq g1
    have q2 := str_eq g2
    clear g0 g1 g2
    go_upto_region 6 with fail
    go_quiet (fail)
    all_goals
      go_wp2_with fail
      go_roundw
      case rel => exact ⟨k + 1, by have := HLT.out; omega, by go_num, HES, Lib.hid (HB.out.trans (below_drewN (Below.refl _ _) _))⟩
      case measure => have := HLT.out; simp [intOf]; omega

open Classical in
/-- The line goes on from the other. -/
noncomputable def joinB (p x : BL) : Bool := decide (Joins p x)
open Classical in
theorem joinB_yes {p x : BL} (h : Joins p x) : joinB p x = true := decide_eq_true h
open Classical in
theorem joinB_no {p x : BL} (h : ¬Joins p x) : joinB p x = false := decide_eq_false h
set_option maxRecDepth 100000 in
set_option maxHeartbeats 4000000 in
theorem im_goesOn (x p : BL) (ax ap : Option Addr) (cx cp : Nat) (w : World) (h : CN.Is w (.slice ax x.whn.length cx) x.whn) (h' : CN.Is w (.slice ap p.whn.length cp) p.whn) (hm : x.whn.length ≤ 30) (hm' : p.whn.length ≤ 30) (hu0 : 0 ≤ p.un) (hu1 : p.un ≤ 999) :
    Calls Try.prog 59 #[.agg #[.string x.par, .string x.prt, .int .i64 x.qty, .int .i64 x.fr, .int .i64 x.un, .slice ax x.whn.length cx], .agg #[.string p.par, .string p.prt, .int .i64 p.qty, .int .i64 p.fr, .int .i64 p.un, .slice ap p.whn.length cp]] w (BoolRes (joinB p x) w) := by
  have HN : Hid (¬Joins p x → joinB p x = false) := Lib.hid joinB_no
  have HY0 : Hid (Joins p x → joinB p x = true) := Lib.hid joinB_yes
  generalize joinB p x = z at *
  have hB := ((Below.refl w.heap.size w).alloc (Nat.le_refl _) (.cells #[.string x.par, .string x.prt, .int .i64 x.qty, .int .i64 x.fr, .int .i64 x.un, .slice ax x.whn.length cx] 36)).alloc (by simp) (.cells #[.string p.par, .string p.prt, .int .i64 p.qty, .int .i64 p.fr, .int .i64 p.un, .slice ap p.whn.length cp] 36)
  have HA := Lib.hid (heap_alloc2_old w (.cells #[.string x.par, .string x.prt, .int .i64 x.qty, .int .i64 x.fr, .int .i64 x.un, .slice ax x.whn.length cx] 36) (.cells #[.string p.par, .string p.prt, .int .i64 p.qty, .int .i64 p.fr, .int .i64 p.un, .slice ap p.whn.length cp] 36))
  have HR := Lib.hid (heap_alloc2_new w (.cells #[.string x.par, .string x.prt, .int .i64 x.qty, .int .i64 x.fr, .int .i64 x.un, .slice ax x.whn.length cx] 36) (.cells #[.string p.par, .string p.prt, .int .i64 p.qty, .int .i64 p.fr, .int .i64 p.un, .slice ap p.whn.length cp] 36))
  have HEQ := Lib.hid (im_equal _ _ x.whn p.whn _ (h.below hB) (h'.below hB) (by omega) (by omega))
  have HB := Lib.hid hB
  have hwu : IntKind.i64.wrap (p.un + 1) = p.un + 1 := (IntKind.wrap_i64 _).trans (by omega)
  clear hB h h' hu0 hu1
  go_enter Try.func59, Try.ntmps59
  go_upto_region 1 with fail
  generalize (w.alloc (.cells #[.string x.par, .string x.prt, .int .i64 x.qty, .int .i64 x.fr, .int .i64 x.un, .slice ax x.whn.length cx] 36)).alloc (.cells #[.string p.par, .string p.prt, .int .i64 p.qty, .int .i64 p.fr, .int .i64 p.un, .slice ap p.whn.length cp] 36) = w1 at *
  have q0 := cell_of_row _ _ 0 _ _ _ HA.out
  have q1 := cell_of_row _ _ 1 _ _ _ HA.out
  have q2 := cell_of_row _ _ 2 _ _ _ HA.out
  have q3 := cell_of_row _ _ 3 _ _ _ HA.out
  have q4 := cell_of_row _ _ 4 _ _ _ HA.out
  have q5 := cell_of_row _ _ 5 _ _ _ HA.out
  have r0 := cell_of_row _ _ 0 _ _ _ HR.out
  have r1 := cell_of_row _ _ 1 _ _ _ HR.out
  have r2 := cell_of_row _ _ 2 _ _ _ HR.out
  have r3 := cell_of_row _ _ 3 _ _ _ HR.out
  have r4 := cell_of_row _ _ 4 _ _ _ HR.out
  have r5 := cell_of_row _ _ 5 _ _ _ HR.out
  by_cases g : p.un + 1 = x.fr
  rotate_left
  · have HY := Lib.hid (HN.out (fun h => g h.2.2.2.1))
    have t0 : (x.fr == p.un + 1) = false := beq_eq_false_iff_ne.2 (fun e => g e.symm)
    clear g
    go_wp2_with fail
    go_ret
    exact ⟨by rw [HY.out]; rfl, HB.out⟩
  have J0 := Lib.hid g
  have t0 : (x.fr == p.un + 1) = true := beq_iff_eq.2 g.symm
  clear g
  by_cases g : p.par = x.par
  rotate_left
  · have HY := Lib.hid (HN.out (fun h => g h.1))
    have t1 := str_ne (fun e => g (Eq.symm e))
    clear g
    go_wp2_with fail
    go_ret
    exact ⟨by rw [HY.out]; rfl, HB.out⟩
  have J1 := Lib.hid g
  have t1 := str_eq g.symm
  clear g
  by_cases g : p.prt = x.prt
  rotate_left
  · have HY := Lib.hid (HN.out (fun h => g h.2.1))
    have t2 := str_ne (fun e => g (Eq.symm e))
    clear g
    go_wp2_with fail
    go_ret
    exact ⟨by rw [HY.out]; rfl, HB.out⟩
  have J2 := Lib.hid g
  have t2 := str_eq g.symm
  clear g
  by_cases g : p.qty = x.qty
  rotate_left
  · have HY := Lib.hid (HN.out (fun h => g h.2.2.1))
    have t3 : (x.qty == p.qty) = false := beq_eq_false_iff_ne.2 (fun e => g e.symm)
    clear g
    go_wp2_with fail
    go_ret
    exact ⟨by rw [HY.out]; rfl, HB.out⟩
  have J3 := Lib.hid g
  have t3 : (x.qty == p.qty) = true := beq_iff_eq.2 g.symm
  clear g
  have HL : Hid (z = sameB x.whn p.whn) := Lib.hid (by
    by_cases g : x.whn = p.whn
    · rw [sameB_yes g]; exact HY0.out ⟨J1.out, J2.out, J3.out, J0.out, g.symm⟩
    · rw [sameB_no g]; exact HN.out (fun h => g h.2.2.2.2.symm))
  clear HN HY0
  go_wp2_with fail
  refine HEQ.out.mono ?_
  rintro e w2 ⟨rfl, hb⟩
  rw [← HL.out]
  have HB2 := Lib.hid (HB.out.trans (hb.mono HB.out.size))
  clear hb
  cases z <;>
    (go_wp2_with fail
     go_ret
     exact ⟨rfl, HB2.out⟩)
end Go.Proofs.Ytdhldokpojghdaa

namespace Go.Proofs.Ytdhldokpojghdaa
open Go.RowKit

set_option maxRecDepth 100000 in
set_option maxHeartbeats 2000000 in
theorem im_isOn (x : BL) (day : Int) (sa5 : Option Addr) (sc5 : Nat) (w : World) :
    Calls Try.prog 52 #[.agg #[.string x.par, .string x.prt, .int .i64 x.qty, .int .i64 x.fr, .int .i64 x.un, .slice sa5 x.whn.length sc5], .int .i64 day] w (BoolRes (isOn day x) w) := by
  have HB : Hid (Below w.heap.size w (w.alloc (.cells #[.string x.par, .string x.prt, .int .i64 x.qty, .int .i64 x.fr, .int .i64 x.un, .slice sa5 x.whn.length sc5] 36))) := Lib.hid ((Below.refl _ _).alloc (Nat.le_refl _) _)
  have HA := Lib.hid (heap_alloc_new w (.cells #[.string x.par, .string x.prt, .int .i64 x.qty, .int .i64 x.fr, .int .i64 x.un, .slice sa5 x.whn.length sc5] 36))
  have HN : Hid (¬(x.fr ≤ day ∧ day ≤ x.un) → isOn day x = false) := Lib.hid isOn_no.2
  have HYS : Hid (x.fr ≤ day ∧ day ≤ x.un → isOn day x = true) := Lib.hid isOn_iff.2
  generalize isOn day x = z at *
  go_enter Try.func52, Try.ntmps52
  go_upto_region 1 with fail
  generalize w.alloc (.cells #[.string x.par, .string x.prt, .int .i64 x.qty, .int .i64 x.fr, .int .i64 x.un, .slice sa5 x.whn.length sc5] 36) = w1 at *
  have q3 := cell_of_row _ _ 3 _ _ _ HA.out
  have q4 := cell_of_row _ _ 4 _ _ _ HA.out
  by_cases h1 : x.fr ≤ day
  rotate_left
  · have HY := Lib.hid (HN.out (fun h => h1 h.1))
    have hd : decide (x.fr ≤ day) = false := decide_eq_false h1
    clear h1
    go_wp2_with fail
    go_ret
    exact ⟨by rw [HY.out]; rfl, HB.out⟩
  have hd : decide (x.fr ≤ day) = true := decide_eq_true h1
  by_cases h2 : day ≤ x.un
  rotate_left
  · have HY := Lib.hid (HN.out (fun h => h2 h.2))
    have hd2 : decide (day ≤ x.un) = false := decide_eq_false h2
    clear h1 h2
    go_wp2_with fail
    go_ret
    exact ⟨by rw [HY.out]; rfl, HB.out⟩
  have HY := Lib.hid (HYS.out ⟨h1, h2⟩)
  have hd2 : decide (day ≤ x.un) = true := decide_eq_true h2
  clear h1 h2
  go_wp2_with fail
  go_ret
  exact ⟨by rw [HY.out]; rfl, HB.out⟩

set_option maxRecDepth 100000 in
set_option maxHeartbeats 8000000 in
theorem im_billsOn' (v v2 : Value) (l : List IT) (xs : List BL) (day : Int) (lo hi : Nat) (w : World) (h : IT.Is w v l) (h2 : BX lo hi w v2 xs) (hm : l.length ≤ maxLen) (hs : ∀ r, r ∈ l → IT.Sz r) (hs2 : BX.Sz xs) :
    Calls Try.prog 17 #[v, v2, .int .i64 day] w (LnOut (billsOnR l xs day) w) := by
  obtain ⟨i0, hi0, hz0, hz1, hz2⟩ := info_parts infoBLi
  have HX := Lib.hid h2.whole
  obtain ⟨a, c, rfl⟩ := h.slice
  obtain ⟨a2, c2, rfl⟩ := h2.slice
  have HCK := Lib.hid (im_bills _ _ l xs lo hi w h h2 hm hs hs2)
  clear h h2 hs hs2 hm
  go_enter Try.func17, Try.ntmps17
  go_wp2_with fail
  refine HCK.out.mono ?_
  rintro e w1 ⟨rfl, hb⟩
  have HB1 := Lib.hid hb
  clear hb HCK
  rcases Bool.eq_false_or_eq_true (billsB l xs) with hc | hc
  rotate_left
  · have HE := Lib.hid (billsOnR_no (d := day) hc)
    rw [hc]
    clear hc
    go_wp2_with fail
    go_ret
    exact ⟨_, rfl, by rw [HE.out]; exact Lib.hid (BX.ownNone _ _ _), HB1⟩
  have HE := Lib.hid (billsOnR_yes (d := day) hc)
  have HBT := Lib.hid hc
  have h24 := (billsB_iff.1 hc).1.2.1
  rw [hc]
  clear hc
  go_wp2_with fail
  go_loopw [7, 16] (fun s i wr => ∃ (k : Nat) (ys : List BL) (p : Option Addr) (q : Nat), k ≤ xs.length ∧ i = .int .i64 k ∧ s = .slice p ys.length q ∧ ys.length ≤ k ∧ Hid (ys = onD day (xs.take k)) ∧ Hid (BX.Own w.heap.size wr.heap.size wr (.slice p ys.length q) ys) ∧ Hid (Below w.heap.size w wr)) (fun _ i _ => xs.length - (intOf i).toNat)
  case atStart => exact ⟨0, [], _, _, Nat.zero_le _, rfl, rfl, Nat.le_refl _, Lib.hid rfl, Lib.hid (BX.ownNone _ _ _), HB1⟩
  case round =>
    clear HB1
    obtain ⟨k, ys, p, q, hk, rfl, rfl, hyk, HY, HO, HB⟩ := hrel
    by_cases hlt : k < xs.length
    rotate_left
    · have HE2 : Hid (ys = billsOnR l xs day) := Lib.hid (by
        have h1 := HY.out
        rw [List.take_of_length_le (by omega)] at h1
        rw [HE.out]; exact h1)
      go_wp2_with fail
      go_ret
      exact ⟨_, rfl, by rw [← HE2.out]; exact HO, HB⟩
    have HT := Lib.hid (onD_take (d := day) hlt)
    have HLT := Lib.hid hlt
    have HCO := Lib.hid (billsB_cond HBT.out hlt)
    obtain ⟨b2, o2, c2', cl, hv2, hc2, hb2, hcl, hr5, hcell⟩ := ((HX.out.below BLN.kept HB.out)).get k hlt
    simp only [Value.slice.injEq] at hv2
    obtain ⟨rfl, _, rfl⟩ := hv2
    obtain ⟨u5, rfl, h5⟩ := hr5
    obtain ⟨sa5, sc5, rfl⟩ := h5.slice
    have e0 := hcell 0 (by omega)
    have e1 := hcell 1 (by omega)
    have e2 := hcell 2 (by omega)
    have e3 := hcell 3 (by omega)
    have e4 := hcell 4 (by omega)
    have e5 := hcell 5 (by omega)
    simp only [List.getElem?_cons_zero, List.getElem?_cons_succ, Nat.add_zero] at e0 e1 e2 e3 e4 e5
    clear hcell hc2 hcl hb2
    generalize xs[k]'hlt = x at *
    have H5 := Lib.hid h5
    clear h5
    obtain ⟨W4, hW4⟩ : ∃ W, wr.alloc (.cells #[.string x.par, .string x.prt, .int .i64 x.qty, .int .i64 x.fr, .int .i64 x.un, .slice sa5 x.whn.length sc5] 36) = W := ⟨_, rfl⟩
    have HW4 := Lib.hid hW4
    have HL4 : Hid (Below wr.heap.size wr W4) := Lib.hid (by rw [← hW4]; exact (Below.refl _ _).alloc (Nat.le_refl _) _)
    have HY4 : Hid (W4.heap[wr.heap.size]? = some (.cells #[.string x.par, .string x.prt, .int .i64 x.qty, .int .i64 x.fr, .int .i64 x.un, .slice sa5 x.whn.length sc5] 36)) := Lib.hid (by rw [← hW4]; exact heap_alloc_new _ _)
    clear hW4
    have hs4 : wr.heap.size < W4.heap.size := lt_of_heap HY4.out
    have HB4 := Lib.hid (HB.out.trans (HL4.out.mono HB.out.size))
    have HO4 := Lib.hid (HO.out.below HL4.out)
    have H54 := Lib.hid (H5.out.below CnN.kept HL4.out)
    have HON := Lib.hid (im_isOn x day sa5 sc5 W4)
    go_upto_region 7 with fail
    rw [HW4.out]
    clear HW4 e0 e1 e2 e3 e4 e5 H5
    have q0 := cell_of_row _ _ 0 _ _ _ HY4.out
    have q1 := cell_of_row _ _ 1 _ _ _ HY4.out
    have q2 := cell_of_row _ _ 2 _ _ _ HY4.out
    have q3 := cell_of_row _ _ 3 _ _ _ HY4.out
    have q4 := cell_of_row _ _ 4 _ _ _ HY4.out
    have q5 := cell_of_row _ _ 5 _ _ _ HY4.out
    go_wp2_with fail
    refine HON.out.mono ?_
    rintro e w5 ⟨rfl, hb⟩
    have HB5 := Lib.hid (HB4.out.trans (hb.mono HB4.out.size))
    have HO5 := Lib.hid (HO4.out.below hb)
    have H55 := Lib.hid (H54.out.below CnN.kept hb)
    have HY5 := Lib.hid (blk_below HY4.out hb)
    have hs5 := hb.size
    clear hb HON HB4 HO4 H54 HY4 q0 q1 q2 q3 q4 q5
    rcases Bool.eq_false_or_eq_true (isOn day x) with hon | hon
    rotate_left
    · have HF := Lib.hid hon
      rw [hon]
      clear hon
      go_wp2_with fail
      go_roundw
      case rel => exact ⟨k + 1, ys, p, q, by have := HLT.out; omega, by go_num, rfl, by omega, Lib.hid (by rw [HT.out, HF.out, ← HY.out]; simp), Lib.hid (HO5.out.topw (by omega)), HB5⟩
      case measure => have := HLT.out; simp [intOf]; omega
    have HF := Lib.hid hon
    rw [hon]
    clear hon
    have q3 := cell_of_row _ _ 3 _ _ _ HY5.out
    have q4 := cell_of_row _ _ 4 _ _ _ HY5.out
    have qf3 := frozen_of_row _ _ 3 _ _ HY5.out
    have qf4 := frozen_of_row _ _ 4 _ _ HY5.out
    have hgo : w.heap.size ≤ wr.heap.size := HB.out.size
    obtain ⟨W6, hW6⟩ : ∃ W, (w5.setCell ⟨wr.heap.size, 3, none⟩ (.int .i64 day)).setCell ⟨wr.heap.size, 4, none⟩ (.int .i64 day) = W := ⟨_, rfl⟩
    have HW6 := Lib.hid hW6
    have HY6 : Hid (W6.heap[wr.heap.size]? = some (.cells #[.string x.par, .string x.prt, .int .i64 x.qty, .int .i64 day, .int .i64 day, .slice sa5 x.whn.length sc5] 36)) := Lib.hid (by rw [← hW6]; exact heap_setCell_same _ _ 4 _ _ _ (heap_setCell_same _ _ 3 _ _ _ HY5.out))
    have HB6 : Hid (Below w.heap.size w W6) := Lib.hid (by rw [← hW6]; exact (HB5.out.setCell (p := ⟨wr.heap.size, 3, none⟩) hgo _).setCell (p := ⟨wr.heap.size, 4, none⟩) hgo _)
    have HSAME : Hid (Same 0 wr.heap.size w5 W6) := Lib.hid (by rw [← hW6]; exact fun b h1 h2 h3 => (Same.set (w := w5.setCell ⟨wr.heap.size, 3, none⟩ (.int .i64 day)) (lo := 0) (hi := wr.heap.size) (g := wr.heap.size) (j := 4) (u := .int .i64 day) (Or.inr (Nat.le_refl _)) b h1 h2 (by simpa using h3)).trans (Same.set (w := w5) (lo := 0) (hi := wr.heap.size) (g := wr.heap.size) (j := 3) (u := .int .i64 day) (Or.inr (Nat.le_refl _)) b h1 h2 h3))
    have hs56 : W6.heap.size = w5.heap.size := by rw [← hW6]; simp
    have HS56 := Lib.hid hs56
    have HC6 : Hid (ChgIn wr.heap.size (wr.heap.size + 1) w5 W6) := Lib.hid (by rw [← hW6]; exact (ChgIn.set (Nat.le_refl _) (by omega)).trans (ChgIn.set (Nat.le_refl _) (by omega)))
    have HO6 := Lib.hid ((HO5.out.far HC6.out (Or.inl (Nat.le_refl _))).topw (top' := W6.heap.size) (by rw [hs56]; omega))
    have H56 := Lib.hid (H55.out.same CnN.kept (HSAME.out.mono (Nat.le_refl _) HB.out.size))
    clear hW6 hs56 HSAME HC6
    go_upto_region 9 with fail
    rw [HW6.out]
    clear HW6 q3 q4 qf3 qf4
    have q0 := cell_of_row _ _ 0 _ _ _ HY6.out
    have q1 := cell_of_row _ _ 1 _ _ _ HY6.out
    have q2 := cell_of_row _ _ 2 _ _ _ HY6.out
    have q3 := cell_of_row _ _ 3 _ _ _ HY6.out
    have q4 := cell_of_row _ _ 4 _ _ _ HY6.out
    have q5 := cell_of_row _ _ 5 _ _ _ HY6.out
    have HCP := Lib.hid (im_copied ⟨x.par, x.prt, x.qty, day, day, x.whn⟩ _ 0 _ W6 H56.out HCO.out.1 HCO.out.2)
    simp only at HCP
    go_wp2_with fail
    refine HCP.out.mono ?_
    rintro e w6 ⟨a6, c6, rfl, HOL, HBL⟩
    have HBP := Lib.hid (HB6.out.trans (HBL.out.mono HB6.out.size))
    have HOP := Lib.hid ((HO6.out.below HBL.out))
    have hs6 := HBL.out.size
    have hsW := HB6.out.size
    have hsP := HBP.out.size
    obtain ⟨rs, hrec, hrl, hown⟩ := HOP.out.recs
    have HREC := Lib.hid hrec
    have HRL := Lib.hid hrl
    have HOWN := Lib.hid hown
    clear hrec hrl hown HCP
    have HRW := Lib.hid (HOWN.out.rowL HRL.out)
    go_wp2_with (at_builtin; refine wpList_append_own _ rfl _ _ 25 rfl w.heap.size 36 i0 (.agg #[.string ByteArray.empty, .string ByteArray.empty, .int .i64 0, .int .i64 0, .int .i64 0, .slice none 0 0]) 6 80 Try.underlying25 hi0 hz0 hz1 hz2 rfl (by decide) _ ys.length (flatN rs) rfl (HRW.out.alloc _) ⟨w6.heap.size, 0, none⟩ 1 1 [.string x.par, .string x.prt, .int .i64 x.qty, .int .i64 day, .int .i64 day, .slice a6 x.whn.length c6] rfl rfl (new_6 _ _ _ _ _ _ _ _) (by intro u hu; simp at hu; rcases hu with rfl | rfl | rfl | rfl | rfl | rfl <;> rfl) (by unfold maxLen; omega) (by omega) (by simp; omega) ?_)
    intro v7 w7 ho hg _
    obtain ⟨p7, q7, rfl⟩ := own_sliceN ho
    have HOF : Hid (BX.Own w.heap.size w7.heap.size w7 (.slice p7 (ys.length + 1) q7) (ys ++ [dayL day x])) := Lib.hid ⟨_, HREC.out.push (dayL day x) _, BX.pushR (HOWN.out.below ((Below.refl _ _).alloc (Nat.le_refl _) _)) (HOL.out.alloc _) (RowsB.of HOWN.out) (by omega) (by rw [HRL.out]; exact ho) hg⟩
    have HBF := Lib.hid ((HBP.out.alloc HBP.out.size _).grown hg (by simp; omega) (fun g hg2 => (HRW.out.lt g hg2).1))
    clear ho hg
    go_wp2_with fail
    go_roundw
    case rel => exact ⟨k + 1, ys ++ [dayL day x], p7, q7, by have := HLT.out; omega, by go_num, by simp, by simp; omega, Lib.hid (by rw [HT.out, HF.out, ← HY.out]; rfl), by simpa using HOF, HBF⟩
    case measure => have := HLT.out; simp [intOf]; omega
theorem im_billsOn : ImplBillsOn := fun v v2 l ls day lo hi w h hm hs h2 hs2 => im_billsOn' v v2 l ls day lo hi w h h2 hm hs hs2

end Go.Proofs.Ytdhldokpojghdaa
