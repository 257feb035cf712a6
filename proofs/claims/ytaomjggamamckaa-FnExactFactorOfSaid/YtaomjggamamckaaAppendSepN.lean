/-
  Appends of one element (a string; a pair of numbers) to a slice of the call's own: it stays in its block, or moves to a new one. No program is named here.
-/
import Derived.WalkKit
import Derived.Laws.AppendOwn
import Derived.OwnWalk
import Derived.Lib.Hide
namespace Go.Proofs.Ytaomjggamamckaa
open Go.RowKit

theorem run_append_s {P : Program} (w : World) (base : Nat) (t ty e : TypeId) (i : TypeInfo) (z : Value) (ht : P.underlying t = some (.slice e)) (hi : P.info? e = some i) (hz : i.zero = some z) (hs : i.size = 1) (hby : i.bytes = 16) (hzs : z.cells.size = 1)
    (g n cap : Nat) (xs : List Value) (hown : w.ownsRow base e 1 (.slice (some ⟨g, 0, none⟩) n cap) n xs) (a : Addr) (c : Nat) (u : Value) (hu : w.cell? (a.add 0) = some u) (h1 : u.oneCell' = true) (hn : n ≤ 1000000) (hbase : base ≤ w.heap.size) :
    ∃ (g' cap' : Nat) (w' : World), (Builtin.append_ #[t, t] ty #[.slice (some ⟨g, 0, none⟩) n cap, .slice (some a) 1 c]).run P w = .ok (.slice (some ⟨g', 0, none⟩) (n + 1) cap') w' ∧
      w'.ownsRow base e 1 (.slice (some ⟨g', 0, none⟩) (n + 1) cap') (n + 1) (xs ++ [u]) ∧ w.grownBy w' (some g) ∧ (g' = g ∨ w.heap.size ≤ g') := by
  have hnews : ∀ j x, [u][j]? = some x → w.cell? (a.add j) = some x := fun j x hx => by
    match j, hx with
    | 0, hx => simp at hx; subst hx; exact hu
  have hone : ∀ x ∈ [u], x.oneCell' = true := fun x hx => by simp at hx; subst hx; exact h1
  obtain ⟨v', w', hr, h2, h3, h4⟩ := run_append_own (P := P) w base t ty e i z 1 16 ht hi hz hs hby hzs (by decide) _ n xs hown a 1 c [u] rfl hnews hone (by unfold maxLen; omega) (by omega) hbase
  rcases h2.2 with ⟨e0, _⟩ | ⟨g', cap', cur', rfl, hb', hg', hr'⟩
  · exact absurd (h4.1 e0).1 (by intro e; cases e)
  · refine ⟨g', cap', w', hr, h2, h3, ?_⟩
    rcases hown.2 with ⟨e0, _⟩ | ⟨g0, cap0, cur, e0, hb, hg, hnc, hcm, hcs, htake⟩
    · cases e0
    · cases e0
      by_cases hroom : n + 1 ≤ cap
      · have h5 := run_append_room (P := P) w t ty e i ht hi g n cap cur hg a 1 c [u] (by rw [hs]; rfl) hnews hone hroom (by rw [hs]; simp; omega)
        rw [hr] at h5
        simp at h5
        exact Or.inl h5.1.1
      · have h5 := run_append_grow (P := P) w t ty e i z ht hi hz ⟨g, 0, none⟩ n cap xs (by rw [hs]; have := hown.1; omega) (hown.cells (g := g) rfl) a 1 c [u] (by rw [hs]; rfl) hnews (by omega) (by omega) (growslice_fits (by omega) (by rw [hby]; omega))
        rw [hr] at h5
        simp at h5
        exact Or.inr (by rw [h5.1.1]; exact Nat.le_refl _)

theorem wpList_append_s {P : Program} {w : World} {ops : Array Oper} {rest : List Oper} {o : Oper} {a : Act} {Q : Exit → Act → World → Prop} (hgd : o.guard = none) (s x : Operand) (t : TypeId)
    (ho : o.op = .call { callee := .builtin .append, args := #[s, x], argTypes := #[t, t] })
    (base : Nat) (e : TypeId) (i : TypeInfo) (z : Value) (ht : P.underlying t = some (.slice e)) (hi : P.info? e = some i) (hz : i.zero = some z) (hsz : i.size = 1) (hby : i.bytes = 16) (hzs : z.cells.size = 1)
    (g n cap : Nat) (xs : List Value) (hs : a.eval s = .slice (some ⟨g, 0, none⟩) n cap) (hown : w.ownsRow base e 1 (.slice (some ⟨g, 0, none⟩) n cap) n xs)
    (ad : Addr) (c : Nat) (u : Value) (hx : a.eval x = .slice (some ad) 1 c) (hu : w.cell? (ad.add 0) = some u) (h1 : u.oneCell' = true) (hn : n ≤ 1000000) (hbase : base ≤ w.heap.size)
    (h : ∀ g' cap' w', w'.ownsRow base e 1 (.slice (some ⟨g', 0, none⟩) (n + 1) cap') (n + 1) (xs ++ [u]) → w.grownBy w' (some g) → (g' = g ∨ w.heap.size ≤ g') → wpList P ops Q rest (a.put o.dst (.slice (some ⟨g', 0, none⟩) (n + 1) cap')) w') : wpList P ops Q (o :: rest) a w :=
  wpList_plain hgd fun _ hK => by
    obtain ⟨g', cap', w', hr, h2, h3, h4⟩ := run_append_s (P := P) w base t o.type e i z ht hi hz hsz hby hzs g n cap xs hown ad c u hu h1 hn hbase
    unfold Oper.wp execOp
    simp only [ho, resolve, invoke, builtin, Sem.run_bind, Sem.run_pure, Result.andThen_ok, List.map_toArray, List.map_cons, List.map_nil, hs, hx, hr]
    exact hK _ _ (h g' cap' w' h2 h3 h4)

theorem run_append_p {P : Program} (w : World) (base : Nat) (t ty e : TypeId) (i : TypeInfo) (z : Value) (ht : P.underlying t = some (.slice e)) (hi : P.info? e = some i) (hz : i.zero = some z) (hs : i.size = 2) (hby : i.bytes = 16) (hzs : z.cells.size = 2)
    (g n cap : Nat) (xs : List Value) (hown : w.ownsRow base e 2 (.slice (some ⟨g, 0, none⟩) n cap) n xs) (a : Addr) (c : Nat) (u u' : Value) (hu : w.cell? (a.add 0) = some u) (hu' : w.cell? (a.add 1) = some u') (h1 : u.oneCell' = true) (h1' : u'.oneCell' = true) (hn : n ≤ 1000000) (hbase : base ≤ w.heap.size) :
    ∃ (g' cap' : Nat) (w' : World), (Builtin.append_ #[t, t] ty #[.slice (some ⟨g, 0, none⟩) n cap, .slice (some a) 1 c]).run P w = .ok (.slice (some ⟨g', 0, none⟩) (n + 1) cap') w' ∧
      w'.ownsRow base e 2 (.slice (some ⟨g', 0, none⟩) (n + 1) cap') (n + 1) (xs ++ [u, u']) ∧ w.grownBy w' (some g) ∧ (g' = g ∨ w.heap.size ≤ g') := by
  have hnews : ∀ j x, [u, u'][j]? = some x → w.cell? (a.add j) = some x := fun j x hx => by
    match j, hx with
    | 0, hx => simp at hx; subst hx; exact hu
    | 1, hx => simp at hx; subst hx; exact hu'
  have hone : ∀ x ∈ [u, u'], x.oneCell' = true := fun x hx => by
    rcases List.mem_cons.1 hx with rfl | hx
    · exact h1
    · obtain rfl := List.mem_singleton.1 hx; exact h1'
  obtain ⟨v', w', hr, h2, h3, h4⟩ := run_append_own (P := P) w base t ty e i z 2 16 ht hi hz hs hby hzs (by decide) _ n xs hown a 1 c [u, u'] rfl hnews hone (by unfold maxLen; omega) (by omega) hbase
  rcases h2.2 with ⟨e0, _⟩ | ⟨g', cap', cur', rfl, hb', hg', hr'⟩
  · exact absurd (h4.1 e0).1 (by intro e; cases e)
  · refine ⟨g', cap', w', hr, h2, h3, ?_⟩
    rcases hown.2 with ⟨e0, _⟩ | ⟨g0, cap0, cur, e0, hb, hg, hnc, hcm, hcs, htake⟩
    · cases e0
    · cases e0
      by_cases hroom : n + 1 ≤ cap
      · have h5 := run_append_room (P := P) w t ty e i ht hi g n cap cur hg a 1 c [u, u'] (by rw [hs]; rfl) hnews hone hroom (by rw [hs]; simp; omega)
        rw [hr] at h5
        simp at h5
        exact Or.inl h5.1.1
      · have h5 := run_append_grow (P := P) w t ty e i z ht hi hz ⟨g, 0, none⟩ n cap xs (by rw [hs]; have := hown.1; omega) (hown.cells (g := g) rfl) a 1 c [u, u'] (by rw [hs]; rfl) hnews (by omega) (by omega) (growslice_fits (by omega) (by rw [hby]; omega))
        rw [hr] at h5
        simp at h5
        exact Or.inr (by rw [h5.1.1]; exact Nat.le_refl _)

theorem wpList_append_p {P : Program} {w : World} {ops : Array Oper} {rest : List Oper} {o : Oper} {a : Act} {Q : Exit → Act → World → Prop} (hgd : o.guard = none) (s x : Operand) (t : TypeId)
    (ho : o.op = .call { callee := .builtin .append, args := #[s, x], argTypes := #[t, t] })
    (base : Nat) (e : TypeId) (i : TypeInfo) (z : Value) (ht : P.underlying t = some (.slice e)) (hi : P.info? e = some i) (hz : i.zero = some z) (hsz : i.size = 2) (hby : i.bytes = 16) (hzs : z.cells.size = 2)
    (g n cap : Nat) (xs : List Value) (hs : a.eval s = .slice (some ⟨g, 0, none⟩) n cap) (hown : w.ownsRow base e 2 (.slice (some ⟨g, 0, none⟩) n cap) n xs)
    (ad : Addr) (c : Nat) (u u' : Value) (hx : a.eval x = .slice (some ad) 1 c) (hu : w.cell? (ad.add 0) = some u) (hu' : w.cell? (ad.add 1) = some u') (h1 : u.oneCell' = true) (h1' : u'.oneCell' = true) (hn : n ≤ 1000000) (hbase : base ≤ w.heap.size)
    (h : ∀ g' cap' w', w'.ownsRow base e 2 (.slice (some ⟨g', 0, none⟩) (n + 1) cap') (n + 1) (xs ++ [u, u']) → w.grownBy w' (some g) → (g' = g ∨ w.heap.size ≤ g') → wpList P ops Q rest (a.put o.dst (.slice (some ⟨g', 0, none⟩) (n + 1) cap')) w') : wpList P ops Q (o :: rest) a w :=
  wpList_plain hgd fun _ hK => by
    obtain ⟨g', cap', w', hr, h2, h3, h4⟩ := run_append_p (P := P) w base t o.type e i z ht hi hz hsz hby hzs g n cap xs hown ad c u u' hu hu' h1 h1' hn hbase
    unfold Oper.wp execOp
    simp only [ho, resolve, invoke, builtin, Sem.run_bind, Sem.run_pure, Result.andThen_ok, List.map_toArray, List.map_cons, List.map_nil, hs, hx, hr]
    exact hK _ _ (h g' cap' w' h2 h3 h4)
end Go.Proofs.Ytaomjggamamckaa
