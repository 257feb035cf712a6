import Derived.WalkKit
import Derived.Laws.AppendOwn
import Derived.OwnWalk
import Derived.Lib.Hide
import Derived.Test.YtdhldokpojghdaaBLOwn
import Derived.Test.YtdhldokpojghdaaBuChg
import Derived.WalkSpells
import Derived.WalkSmall
import Derived.BigQuiet
import Derived.OneCell
import Derived.Deep.QuietTactic
import Derived.Deep.DeepCutAuto
import Derived.Laws.OwnMore
import Derived.Deep.RegionHeld3
namespace Go.Proofs.Ytdhldokpojghdaa
open Go.RowKit

theorem run_append_apt {P : Program} (w : World) (base : Nat) (t ty e : TypeId) (i : TypeInfo) (z : Value) (size bytes : Nat) (ht : P.underlying t = some (.slice e)) (hi : P.info? e = some i) (hz : i.zero = some z)
    (hsize : i.size = size) (hby : i.bytes = bytes) (hzs : z.cells.size = size) (hsz : 0 < size)
    (v : Value) (n : Nat) (xs : List Value) (hown : w.ownsRow base e size v n xs)
    (a : Addr) (m c : Nat) (news : List Value) (hm0 : 0 < m) (hl : news.length = m * size) (hnews : ∀ j u, news[j]? = some u → w.cell? (a.add j) = some u) (h1 : ∀ u ∈ news, u.oneCell' = true)
    (hn : n + m ≤ 1000000) (hbytes : (n + m) * bytes ≤ 1000000000) (hbase : base ≤ w.heap.size) :
    ∃ (g' cap' : Nat) (w' : World), (Builtin.append_ #[t, t] ty #[v, .slice (some a) m c]).run P w = .ok (.slice (some ⟨g', 0, none⟩) (n + m) cap') w' ∧ w'.ownsRow base e size (.slice (some ⟨g', 0, none⟩) (n + m) cap') (n + m) (xs ++ news) ∧ w.grownBy w' v.ownBlock ∧ (v.ownBlock = some g' ∨ w.heap.size ≤ g') := by
  have hbig : (n + m) * bytes ≤ 140737488355328 := by omega
  rcases hown.2 with ⟨e0, hx0⟩ | ⟨g0, cap0, cur, e0, hb, hg, hnc, hcm, hcs, htake⟩
  · subst e0
    have hown2 : w.ownsRow w.heap.size e size (.slice none 0 0) n xs := ⟨hown.1, Or.inl ⟨rfl, hx0⟩⟩
    obtain ⟨v', w', hr, h2, h3, h4⟩ := run_append_own (P := P) w w.heap.size t ty e i z size bytes ht hi hz hsize hby hzs hsz _ n xs hown2 a m c news hl hnews h1 (by unfold maxLen; omega) hbig (Nat.le_refl _)
    rcases h2.2 with ⟨e1, _⟩ | ⟨g', cap', cur', rfl, hb', r⟩
    · have := (h4.1 e1).2; omega
    · exact ⟨g', cap', w', hr, ⟨h2.1, Or.inr ⟨g', cap', cur', rfl, Nat.le_trans hbase hb', r⟩⟩, h3, Or.inr hb'⟩
  · subst e0
    obtain ⟨v', w', hr, h2, h3, h4⟩ := run_append_own (P := P) w base t ty e i z size bytes ht hi hz hsize hby hzs hsz _ n xs hown a m c news hl hnews h1 (by unfold maxLen; omega) hbig hbase
    rcases h2.2 with ⟨e1, _⟩ | ⟨g', cap', cur', rfl, hb', hg', hr'⟩
    · exact absurd (h4.1 e1).1 (by intro e; cases e)
    · refine ⟨g', cap', w', hr, h2, h3, ?_⟩
      by_cases hroom : n + m ≤ cap0
      · have h5 := run_append_room (P := P) w t ty e i ht hi g0 n cap0 cur hg a m c news (by rw [hsize]; exact hl) hnews h1 hroom (by rw [hsize, hcs, hl, ← Nat.add_mul]; exact Nat.mul_le_mul_right _ hroom)
        rw [hr] at h5
        simp at h5
        exact Or.inl (by rw [h5.1.1]; rfl)
      · have h5 := run_append_grow (P := P) w t ty e i z ht hi hz ⟨g0, 0, none⟩ n cap0 xs (by rw [hsize]; exact hown.1) (hown.cells (g := g0) rfl) a m c news (by rw [hsize]; exact hl) hnews (by omega) (by omega) (growslice_fits (by omega) (by rw [hby]; omega))
        rw [hr] at h5
        simp at h5
        exact Or.inr (by rw [h5.1.1]; exact Nat.le_refl _)

theorem wpList_append_apt {P : Program} {w : World} {ops : Array Oper} {rest : List Oper} {o : Oper} {a : Act} {Q : Exit → Act → World → Prop} (hgd : o.guard = none) (s x : Operand) (t : TypeId)
    (ho : o.op = .call { callee := .builtin .append, args := #[s, x], argTypes := #[t, t] })
    (base : Nat) (e : TypeId) (i : TypeInfo) (z : Value) (size bytes : Nat) (ht : P.underlying t = some (.slice e)) (hi : P.info? e = some i) (hz : i.zero = some z)
    (hsize : i.size = size) (hby : i.bytes = bytes) (hzs : z.cells.size = size) (hsz : 0 < size)
    (v : Value) (n : Nat) (xs : List Value) (hs : a.eval s = v) (hown : w.ownsRow base e size v n xs)
    (ad : Addr) (m c : Nat) (news : List Value) (hm0 : 0 < m) (hx : a.eval x = .slice (some ad) m c) (hl : news.length = m * size) (hnews : ∀ j u, news[j]? = some u → w.cell? (ad.add j) = some u) (h1 : ∀ u ∈ news, u.oneCell' = true)
    (hn : n + m ≤ 1000000) (hbytes : (n + m) * bytes ≤ 1000000000) (hbase : base ≤ w.heap.size)
    (h : ∀ g' cap' w', w'.ownsRow base e size (.slice (some ⟨g', 0, none⟩) (n + m) cap') (n + m) (xs ++ news) → w.grownBy w' v.ownBlock → (v.ownBlock = some g' ∨ w.heap.size ≤ g') → wpList P ops Q rest (a.put o.dst (.slice (some ⟨g', 0, none⟩) (n + m) cap')) w') : wpList P ops Q (o :: rest) a w :=
  wpList_plain hgd fun _ hK => by
    obtain ⟨g', cap', w', hr, h2, h3, h4⟩ := run_append_apt (P := P) w base t o.type e i z size bytes ht hi hz hsize hby hzs hsz v n xs hown ad m c news hm0 hl hnews h1 hn hbytes hbase
    unfold Oper.wp execOp
    simp only [ho, resolve, invoke, builtin, Sem.run_bind, Sem.run_pure, Result.andThen_ok, List.map_toArray, List.map_cons, List.map_nil, hs, hx, hr]
    exact hK _ _ (h g' cap' w' h2 h3 h4)
end Go.Proofs.Ytdhldokpojghdaa

namespace Go.Proofs.Ytdhldokpojghdaa
open Go.RowKit

theorem BX.Own.slice {base top : Nat} {w : World} {v : Value} {xs : List BL} (h : BX.Own base top w v xs) : ∃ (a : Option Addr) (c : Nat), v = .slice a xs.length c := h.sl.slice
theorem BX.Own.topw {base top top' : Nat} {w : World} {v : Value} {xs : List BL} (h : BX.Own base top w v xs) (ht : top ≤ top') : BX.Own base top' w v xs := by
  obtain ⟨rs, a, b⟩ := h; exact ⟨rs, a, b.top ht⟩
end Go.Proofs.Ytdhldokpojghdaa

namespace Go.Proofs.Ytdhldokpojghdaa
open Go.RowKit

/-- Lines of the call's own, and whether they are some. -/
def ApOut (o : Option (List BL)) (w : World) (e : Ending) (w' : World) : Prop := ∃ v', e = .returned (.tuple #[v', .bool o.isSome]) ∧ Hid (BX.Own w.heap.size w'.heap.size w' v' (o.getD [])) ∧ Hid (Below w.heap.size w w')
end Go.Proofs.Ytdhldokpojghdaa

namespace Go.Proofs.Ytdhldokpojghdaa
open Go.RowKit

/-- The rows that the records lead into lie below m. -/
def RowsB (m : Nat) (rs : List NR) : Prop := ∀ q (hq : q < rs.length) (y : Value), (rs[q]'hq).cs[5]? = some y → ∀ b, y.ownBlock = some b → b < m
theorem RowsB.of {base top : Nat} {w : World} {v : Value} {rs : List NR} (h : OwnN 6 5 3 36 110 base top w v rs) : RowsB top rs := fun q hq y hy b hb => by
  obtain ⟨y2, h2, _, h3⟩ := h.sub q hq
  have h4 : y2 = y := Option.some.inj (h2.symm.trans hy)
  subst h4
  exact (h3 b hb).2
theorem RowsB.mono {m m' : Nat} {rs : List NR} (h : RowsB m rs) (hm : m ≤ m') : RowsB m' rs := fun q hq y hy b hb => Nat.lt_of_lt_of_le (h q hq y hy b hb) hm
theorem RowsB.push {m : Nat} {rs : List NR} {x : BL} {u : Value} (h : RowsB m rs) (hu : ∀ b, u.ownBlock = some b → b < m) : RowsB m (rs ++ [BL.rec1 x u]) := fun q hq y hy b hb => by
  by_cases hlt : q < rs.length
  · rw [List.getElem_append_left hlt] at hy
    exact h q hlt y hy b hb
  · have hq2 : q = rs.length := by simp at hq; omega
    subst hq2
    simp only [List.getElem_concat_length] at hy
    have h1 := BL.rec1_at x u
    have : y = u := Option.some.inj (hy.symm.trans h1)
    subst this
    exact hu b hb
theorem BX.RecN.push {xs : List BL} {rs : List NR} (hrec : BX.RecN xs rs) (x : BL) (u : Value) : BX.RecN (xs ++ [x]) (rs ++ [BL.rec1 x u]) := by
  refine ⟨by simp [hrec.1], fun j hj hr2 => ?_⟩
  by_cases hlt : j < xs.length
  · obtain ⟨u2, h2⟩ := hrec.2 j hlt (by rw [hrec.1]; exact hlt)
    refine ⟨u2, ?_⟩
    rw [List.getElem_append_left (by rw [hrec.1]; exact hlt), List.getElem_append_left hlt]
    exact h2
  · have hj2 : j = xs.length := by simp at hj; omega
    subst hj2
    refine ⟨u, ?_⟩
    rw [List.getElem_append_right (by rw [hrec.1]; exact Nat.le_refl _), List.getElem_append_right (Nat.le_refl _)]
    simp
theorem BX.pushR {base top low : Nat} {w w' : World} {v v' u : Value} {x : BL} {rs : List NR} (ho : OwnN 6 5 3 36 110 base top w v rs) (hx : w.ownsRow low 110 3 u x.whn.length (CN.cells x.whn)) (hlow : RowsB low rs) (hb : base ≤ low)
    (hr : w'.ownsRow base 36 6 v' (rs.length + 1) (flatN rs ++ (BL.rec1 x u).cs)) (hg : w.grownBy w' v.ownBlock) : OwnN 6 5 3 36 110 base w'.heap.size w' v' (rs ++ [BL.rec1 x u]) :=
  ho.push (by decide) (BL.rec1 x u) u rfl rfl (own_lowerN hx hb) (fun q hq y hy b h1 h2 => by
    have h3 := hlow q hq y hy b h1
    have h4 := (hx.lt b h2).1
    omega) hr hg
/-- A cell elsewhere is written. -/
theorem OwnN.setx {K s Ki e ei base top g i : Nat} {w : World} {v x : Value} {rs : List NR} (h : OwnN K s Ki e ei base top w v rs) (hg : v.ownBlock ≠ some g) (hr : ∀ q (hq : q < rs.length) (y : Value), (rs[q]'hq).cs[s]? = some y → y.ownBlock ≠ some g) : OwnN K s Ki e ei base top (w.setCell ⟨g, i, none⟩ x) v rs :=
  ⟨h.len, ownsRow_setCell_other h.row hg x, h.sp, fun q hq => by
    obtain ⟨u, a, b, c⟩ := h.sub q hq
    exact ⟨u, a, ownsRow_setCell_other b (hr q hq u a) x, c⟩, h.ap⟩
/-- A record taken from lines of the call's own. -/
theorem BX.Own.recs {base top : Nat} {w : World} {v : Value} {xs : List BL} (h : BX.Own base top w v xs) : ∃ rs, BX.RecN xs rs ∧ rs.length = xs.length ∧ OwnN 6 5 3 36 110 base top w v rs := by
  obtain ⟨rs, a, b⟩ := h; exact ⟨rs, a, a.1, b⟩
end Go.Proofs.Ytdhldokpojghdaa

namespace Go.Proofs.Ytdhldokpojghdaa
open Go.RowKit

/-- One line more, told by the last one. -/
theorem tidyS_set {ys : List BL} {m : Nat} (hm : m < ys.length) (hl : m + 1 = ys.length) (x : BL) : (Joins (ys[m]'hm) x → tidyS ys x = ys.set m { (ys[m]'hm) with un := x.un }) ∧ (¬Joins (ys[m]'hm) x → tidyS ys x = ys ++ [x]) := by
  rcases snoc_cases ys with rfl | ⟨ae, p, rfl⟩
  · simp at hm
  · have h1 : m = ae.length := by simp at hl; omega
    subst h1
    have h2 : (ae ++ [p])[ae.length]'hm = p := by simp
    rw [h2]
    exact ⟨fun h => by rw [tidyS_yes h]; simp, fun h => tidyS_no h⟩
theorem tidy_line {l : List IT} {xs : List BL} (h : BillsOk l xs) (k : Nat) : ∀ y, y ∈ tidyL (xs.take k) → LineOk l y := foldS_line _ [] (fun y hy => by cases hy) (fun y hy => mem_bills h (List.mem_of_mem_take hy))
theorem line_whn {l : List IT} {y : BL} (h : LineOk l y) : y.whn.length ≤ 30 := by
  obtain ⟨t, _, h3, h4⟩ := cond_tree (condB_iff.1 h.2.2.2.2.2.2.2.2)
  rw [h3]; exact h4
theorem BX.RecN.setUn {xs : List BL} {rs : List NR} (h : BX.RecN xs rs) {m : Nat} (hm : m < xs.length) (hr : m < rs.length) (z : Int) : BX.RecN (xs.set m { (xs[m]'hm) with un := z }) (rs.set m ((rs[m]'hr).setc 4 (.int .i64 z))) := by
  refine ⟨by simp [h.1], fun j hj hj2 => ?_⟩
  by_cases e : m = j
  · subst e
    obtain ⟨u, hu⟩ := h.2 m hm hr
    refine ⟨u, ?_⟩
    rw [List.getElem_set_self, List.getElem_set_self, hu]
    rfl
  · obtain ⟨u, hu⟩ := h.2 j (by simpa using hj) (by simpa using hj2)
    refine ⟨u, ?_⟩
    rw [List.getElem_set_ne e, List.getElem_set_ne e]
    exact hu
theorem OwnN.rowL {K s Ki e ei base top n m q : Nat} {p : Option Addr} {w : World} {rs : List NR} (h : OwnN K s Ki e ei base top w (.slice p n q) rs) (hl : rs.length = m) : w.ownsRow base e K (.slice p n q) m (flatN rs) := by rw [← hl]; exact h.row
/-- The cells of a record of lines of the call's own. -/
theorem BX.recCells {base top : Nat} {w : World} {g n q : Nat} {xs : List BL} {rs : List NR} (hrec : BX.RecN xs rs) (h : OwnN 6 5 3 36 110 base top w (.slice (some ⟨g, 0, none⟩) n q) rs) (m : Nat) (hm : m < xs.length) :
    ∃ u, w.cell? ⟨g, m * 6, none⟩ = some (.string (xs[m]'hm).par) ∧ w.cell? ⟨g, m * 6 + 1, none⟩ = some (.string (xs[m]'hm).prt) ∧ w.cell? ⟨g, m * 6 + 2, none⟩ = some (.int .i64 (xs[m]'hm).qty) ∧ w.cell? ⟨g, m * 6 + 4, none⟩ = some (.int .i64 (xs[m]'hm).un) ∧ w.cell? ⟨g, m * 6 + 5, none⟩ = some u ∧ CX base w.heap.size w u (xs[m]'hm).whn := by
  have hr : m < rs.length := by rw [hrec.1]; exact hm
  obtain ⟨u, hu⟩ := hrec.2 m hm hr
  obtain ⟨u2, h2, h3, h4⟩ := h.sub m hr
  have hc : ∀ i, i < 6 → w.cell? ⟨g, m * 6 + i, none⟩ = (BL.rec1 (xs[m]'hm) u).cs[i]? := fun i hi => by rw [← hu]; exact h.cell m hr i hi
  rw [hu] at h2 h3
  have h5 : u2 = u := Option.some.inj (h2.symm.trans (BL.rec1_at _ u))
  subst h5
  exact ⟨u2, hc 0 (by omega), hc 1 (by omega), hc 2 (by omega), hc 4 (by omega), hc 5 (by omega), CX.of_row h3⟩
theorem BX.own_some {base top : Nat} {w : World} {p : Option Addr} {q : Nat} {xs : List BL} {rs : List NR} (hrec : BX.RecN xs rs) (h : OwnN 6 5 3 36 110 base top w (.slice p xs.length q) rs) (h0 : 0 < xs.length) : ∃ g : Nat, p = some ⟨g, 0, none⟩ ∧ base ≤ g := by
  obtain ⟨g, cap, hv, hg, hb, ht⟩ := h.at0 (by rw [hrec.1]; exact h0)
  injection hv with h1 _ _
  exact ⟨g, h1, hb⟩
end Go.Proofs.Ytdhldokpojghdaa

namespace Go.Proofs.Ytdhldokpojghdaa
open Go.RowKit

/-- The cells are the call's own, from base on; what they lead into lies in [lo, hi). -/
def BX.Semi (base lo hi : Nat) (w : World) (v : Value) (xs : List BL) : Prop := ∃ rs, BX.RecN xs rs ∧ w.ownsRow base 36 6 v rs.length (flatN rs) ∧ (∀ j (hj : j < xs.length) (hr : j < rs.length), ∃ u, rs[j]'hr = BL.rec1 (xs[j]'hj) u ∧ CX lo hi w u (xs[j]'hj).whn) ∧ ∀ b, v.ownBlock = some b → b < lo ∨ hi ≤ b
theorem rec_len {xs : List BL} {rs : List NR} (h : BX.RecN xs rs) : ∀ r, r ∈ rs → r.cs.length = 6 := fun r hr => by
  obtain ⟨j, hj, rfl⟩ := List.getElem_of_mem hr
  obtain ⟨u, hu⟩ := h.2 j (by rw [← h.1]; exact hj) hj
  rw [hu]; rfl
theorem BX.Semi.slice {base lo hi : Nat} {w : World} {v : Value} {xs : List BL} (h : BX.Semi base lo hi w v xs) : ∃ (p : Option Addr) (q : Nat), v = .slice p xs.length q := by
  obtain ⟨rs, hrec, hrow, _, _⟩ := h
  obtain ⟨p, q, hv⟩ := own_sliceN hrow
  exact ⟨p, q, by rw [← hrec.1]; exact hv⟩
theorem BX.Semi.below {base lo hi : Nat} {w w' : World} {v : Value} {xs : List BL} (h : BX.Semi base lo hi w v xs) (hb : Below w.heap.size w w') : BX.Semi base lo hi w' v xs := by
  obtain ⟨rs, hrec, hrow, hc, hs⟩ := h
  exact ⟨rs, hrec, own_keepL hrow hb, fun j hj hr => by obtain ⟨u, a, b⟩ := hc j hj hr; exact ⟨u, a, b.below CnN.kept hb⟩, hs⟩
theorem BX.Semi.nil {base lo hi : Nat} {w : World} {g : Nat} (h : w.ownsRow base 36 6 (.slice (some ⟨g, 0, none⟩) 0 0) 0 []) (hg : g < lo ∨ hi ≤ g) : BX.Semi base lo hi w (.slice (some ⟨g, 0, none⟩) 0 0) [] :=
  ⟨[], ⟨rfl, fun j hj => by simp at hj⟩, h, fun j hj => by simp at hj, fun b hb => by cases hb; exact hg⟩
theorem BX.Semi.push {base lo hi n q q' g' : Nat} {p : Option Addr} {w w' : World} {u : Value} {xs : List BL} {x : BL} {rs : List NR} (hrec : BX.RecN xs rs) (hc : ∀ j (hj : j < xs.length) (hr : j < rs.length), ∃ u, rs[j]'hr = BL.rec1 (xs[j]'hj) u ∧ CX lo hi w u (xs[j]'hj).whn) (hs : ∀ b, (Value.slice p n q).ownBlock = some b → b < lo ∨ hi ≤ b)
    (hx : CX lo hi w u x.whn) (ho : w'.ownsRow base 36 6 (.slice (some ⟨g', 0, none⟩) (n + 1) q') (n + 1) (flatN rs ++ (BL.rec1 x u).cs)) (hn : rs.length = n) (hg : w.grownBy w' (Value.slice p n q).ownBlock) (hsep : (Value.slice p n q).ownBlock = some g' ∨ w.heap.size ≤ g') (hw : hi ≤ w.heap.size) :
    BX.Semi base lo hi w' (.slice (some ⟨g', 0, none⟩) (n + 1) q') (xs ++ [x]) := by
  have hS : Same lo hi w w' := Same.of_grown hg hs
  refine ⟨rs ++ [BL.rec1 x u], hrec.push x u, ?_, fun j hj hr => ?_, fun b hb => ?_⟩
  · have e1 : flatN (rs ++ [BL.rec1 x u]) = flatN rs ++ (BL.rec1 x u).cs := by simp [flatN]
    have e2 : (rs ++ [BL.rec1 x u]).length = n + 1 := by simp [hn]
    rw [e1, e2]; exact ho
  · by_cases hlt : j < xs.length
    · obtain ⟨u2, h2, h3⟩ := hc j hlt (by rw [hrec.1]; exact hlt)
      refine ⟨u2, ?_, ?_⟩
      · rw [List.getElem_append_left (by rw [hrec.1]; exact hlt), List.getElem_append_left hlt]; exact h2
      · rw [List.getElem_append_left hlt]; exact h3.same CnN.kept hS
    · have hj2 : j = xs.length := by simp at hj; omega
      subst hj2
      refine ⟨u, ?_, ?_⟩
      · rw [List.getElem_append_right (by rw [hrec.1]; exact Nat.le_refl _), List.getElem_append_right (Nat.le_refl _)]; simp
      · rw [List.getElem_append_right (Nat.le_refl _)]; simp only [Nat.sub_self, List.getElem_cons_zero]; exact hx.same CnN.kept hS
  · cases hb
    rcases hsep with h | h
    · exact hs _ h
    · exact Or.inr (Nat.le_trans hw h)
theorem BX.Semi.sl {base lo hi : Nat} {w : World} {v : Value} {xs : List BL} (h : BX.Semi base lo hi w v xs) (hw : hi ≤ w.heap.size) : BX 0 w.heap.size w v xs := by
  obtain ⟨rs, hrec, hrow, hc, _⟩ := h
  obtain ⟨p, q, rfl⟩ := own_sliceN hrow
  rcases hrow.2 with ⟨h1, h2⟩ | ⟨g, cap, cur, h1, hb, hg, hnc, _⟩
  · have h3 : xs.length = 0 := by rw [← hrec.1]; exact h2
    have : xs = [] := List.eq_nil_of_length_eq_zero h3
    subst this
    rw [h2]; exact SlN.nil _ _ _ _ _ _ _
  · injection h1 with e1 e2 e3
    subst e1; subst e3
    have hlt := hrow.lt g rfl
    refine ⟨_, _, by rw [hrec.1], by rw [← hrec.1]; exact hnc, fun _ => ⟨g, 0, rfl, ⟨Nat.zero_le _, hlt.2⟩, hlt.2, fun j hj => ?_⟩⟩
    have hr : j < rs.length := by rw [hrec.1]; exact hj
    obtain ⟨u, hu, hcx⟩ := hc j hj hr
    refine ⟨(BL.rec1 (xs[j]'hj) u).cs, rfl, ⟨u, rfl, hcx.mono CnN.kept (Nat.zero_le _) hw⟩, fun i hi => ?_⟩
    rw [Nat.zero_add, hrow.cellAt (j * 6 + i) (by have : (j + 1) * 6 ≤ rs.length * 6 := Nat.mul_le_mul_right _ hr; omega), flatN_get (rec_len hrec) j hr i hi, hu]
end Go.Proofs.Ytdhldokpojghdaa
