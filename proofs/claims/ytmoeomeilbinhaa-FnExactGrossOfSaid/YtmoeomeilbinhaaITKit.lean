/-
  A law's argument of type []laws.Item, opened.
-/
import Derived.Test.YtmoeomeilbinhaaRows
import Derived.Test.YtmoeomeilbinhaaITRec
import Derived.WalkKit
import Derived.ProofKit
import Derived.OpenShut
import Derived.Carry
import Derived.Lib.SmallJoins
import Derived.Deep.SlicePairs
import Derived.Deep.DeepHandedRow
namespace Go.Proofs.Ytmoeomeilbinhaa
open Go.ChangeShapes Go.WideShapes Go.ChangeAt Go.RowKit Go.Joins

theorem IT.take {W : World} {a : Addr} {len cap : Nat} {xs : List IT} (hl : len ≤ cap) (hz : xs.length = cap)
    (hc : ∀ i, i < xs.length → W.cell? (a.add (i * 8)) = some (.string (xs.getD i default).code) ∧ W.cell? (a.add (i * 8 + 1)) = some (.string (xs.getD i default).unt) ∧ W.cell? (a.add (i * 8 + 2)) = some (.int .i64 (xs.getD i default).kind) ∧ W.cell? (a.add (i * 8 + 3)) = some (.int .i64 (xs.getD i default).lead) ∧ W.cell? (a.add (i * 8 + 4)) = some (.int .i64 (xs.getD i default).rule) ∧ W.cell? (a.add (i * 8 + 5)) = some (.int .i64 (xs.getD i default).lsz) ∧ W.cell? (a.add (i * 8 + 6)) = some (.int .i64 (xs.getD i default).safe) ∧ W.cell? (a.add (i * 8 + 7)) = some (.int .i64 (xs.getD i default).scr)) :
    IT.Is W (.slice (some a) len cap) (xs.take len) := by
  by_cases h0 : len = 0
  · subst h0
    exact Or.inl ⟨by simp, _, _, rfl⟩
  · have hp : 0 < xs.length := by omega
    obtain ⟨b, off, spot⟩ := a
    have hspot : spot = none := by simpa [Addr.add] using World.cell?_spot (hc 0 hp).1
    subst hspot
    have hlen : (xs.take len).length = len := by rw [List.length_take]; omega
    refine Or.inr ⟨by intro h; rw [h] at hlen; simp at hlen; omega, b, off, cap, by rw [hlen], by omega, ?_, ?_⟩
    · exact cell_blockL (a := ⟨b, off, none⟩) (hc 0 hp).1
    · intro j x hx
      have hj : j < len := by
        have := (List.getElem?_eq_some_iff.1 hx).1
        omega
      have h1 := hc j (by omega)
      rw [Addr.add_lit, Addr.add_lit, Addr.add_lit, Addr.add_lit, Addr.add_lit, Addr.add_lit, Addr.add_lit, Addr.add_lit] at h1
      rw [List.getElem?_take_of_lt hj] at hx
      rw [show xs.getD j default = x by rw [List.getD, hx]; rfl] at h1
      exact ⟨h1.1, by simpa [Nat.add_assoc] using h1.2.1, by simpa [Nat.add_assoc] using h1.2.2.1, by simpa [Nat.add_assoc] using h1.2.2.2.1, by simpa [Nat.add_assoc] using h1.2.2.2.2.1, by simpa [Nat.add_assoc] using h1.2.2.2.2.2.1, by simpa [Nat.add_assoc] using h1.2.2.2.2.2.2.1, by simpa [Nat.add_assoc] using h1.2.2.2.2.2.2.2⟩

theorem IT.cellsOf : Try.prog.cellsOf 30 = 8 := by kernel_rfl

set_option maxRecDepth 100000 in
theorem IT.opened {H : Type} {enc : TypeId × Value → H} {W : World} {n : Nat} {cs : List Value} {x : DataW H × List MemPlace} (h : DataW.trod enc Try.prog W 0 (fun _ => true) true n 30 cs = some x) :
    ∃ r : IT, cs = [.string r.code, .string r.unt, .int .i64 r.kind, .int .i64 r.lead, .int .i64 r.rule, .int .i64 r.lsz, .int .i64 r.safe, .int .i64 r.scr] ∧ IT.Sz r := by
  obtain ⟨xs, k, hk, hxy, hcl, hxl, hf⟩ := DataW.trod_struct Try.underlying30 h
  rw [IT.cellsOf] at hcl
  match cs, hcl with
  | [v0, v1, v2, v3, v4, v5, v6, v7], _ =>
    match xs, hxl with
    | [y0, y1, y2, y3, y4, y5, y6, y7], _ =>
      have g0 : DataW.trod enc Try.prog W 0 (fun _ => true) true k 9 (([v0, v1, v2, v3, v4, v5, v6, v7].drop 0).take (Try.prog.cellsOf 9)) = _ := hf 0 _ rfl
      have g1 : DataW.trod enc Try.prog W 0 (fun _ => true) true k 9 (([v0, v1, v2, v3, v4, v5, v6, v7].drop 1).take (Try.prog.cellsOf 9)) = _ := hf 1 _ rfl
      have g2 : DataW.trod enc Try.prog W 0 (fun _ => true) true k 3 (([v0, v1, v2, v3, v4, v5, v6, v7].drop 2).take (Try.prog.cellsOf 3)) = _ := hf 2 _ rfl
      have g3 : DataW.trod enc Try.prog W 0 (fun _ => true) true k 3 (([v0, v1, v2, v3, v4, v5, v6, v7].drop 3).take (Try.prog.cellsOf 3)) = _ := hf 3 _ rfl
      have g4 : DataW.trod enc Try.prog W 0 (fun _ => true) true k 3 (([v0, v1, v2, v3, v4, v5, v6, v7].drop 4).take (Try.prog.cellsOf 3)) = _ := hf 4 _ rfl
      have g5 : DataW.trod enc Try.prog W 0 (fun _ => true) true k 3 (([v0, v1, v2, v3, v4, v5, v6, v7].drop 5).take (Try.prog.cellsOf 3)) = _ := hf 5 _ rfl
      have g6 : DataW.trod enc Try.prog W 0 (fun _ => true) true k 3 (([v0, v1, v2, v3, v4, v5, v6, v7].drop 6).take (Try.prog.cellsOf 3)) = _ := hf 6 _ rfl
      have g7 : DataW.trod enc Try.prog W 0 (fun _ => true) true k 3 (([v0, v1, v2, v3, v4, v5, v6, v7].drop 7).take (Try.prog.cellsOf 3)) = _ := hf 7 _ rfl
      rw [show Try.prog.cellsOf 9 = 1 by kernel_rfl] at g0 g1
      rw [show Try.prog.cellsOf 3 = 1 by kernel_rfl] at g2 g3 g4 g5 g6 g7
      simp at g0 g1 g2 g3 g4 g5 g6 g7
      obtain ⟨s0, e0, _, z0⟩ := DataW.trod_string Try.underlying9 g0
      obtain ⟨s1, e1, _, z1⟩ := DataW.trod_string Try.underlying9 g1
      obtain ⟨s2, e2, _, _⟩ := DataW.trod_int Try.underlying3 g2
      obtain ⟨s3, e3, _, _⟩ := DataW.trod_int Try.underlying3 g3
      obtain ⟨s4, e4, _, _⟩ := DataW.trod_int Try.underlying3 g4
      obtain ⟨s5, e5, _, _⟩ := DataW.trod_int Try.underlying3 g5
      obtain ⟨s6, e6, _, _⟩ := DataW.trod_int Try.underlying3 g6
      obtain ⟨s7, e7, _, _⟩ := DataW.trod_int Try.underlying3 g7
      simp at e0 e1 e2 e3 e4 e5 e6 e7
      exact ⟨⟨s0, s1, s2, s3, s4, s5, s6, s7⟩, by rw [e0, e1, e2, e3, e4, e5, e6, e7], ⟨z0, z1⟩⟩

/-- One of them, passed by itself. -/
theorem IT.one_open {H : Type} {enc : TypeId × Value → H} {W : World} {base : Nat} {v : Value} {d : DataW H} {p : List MemPlace} (hv : Value.okWide Try.prog W .any base 30 v)
    (h0 : DataW.Trod enc Try.prog W 0 (fun _ => true) true 30 v d p) : ∃ x : IT, v = IT.val x ∧ IT.Sz x := by
  obtain ⟨cs, rfl, _⟩ := okWide_struct Try.underlying30 hv
  obtain ⟨fuel, hf⟩ := h0
  obtain ⟨r, hcs, hz⟩ := IT.opened hf
  have h1 : cs = _ := Array.toList_inj.1 hcs
  exact ⟨r, by rw [h1]; rfl, hz⟩

set_option maxRecDepth 100000 in
theorem IT.args_open {H : Type} {enc : TypeId × Value → H} {W : World} {base : Nat} {v : Value} {d : DataW H} {p : List MemPlace} (hv : Value.okWide Try.prog W .any base 35 v)
    (h0 : DataW.Trod enc Try.prog W 0 (fun _ => true) true 35 v d p) :
    ∃ xs : List IT, IT.Is W v xs ∧ xs.length ≤ maxLen ∧ ∀ r, r ∈ xs → IT.Sz r := by
  obtain ⟨a0, len, cap, rfl⟩ := okWide_slice Try.underlying35 hv
  obtain ⟨fuel, hf⟩ := h0
  rcases Go.Deep.open_slice Try.underlying35 hf with ⟨hcs, hx⟩ | ⟨a, len', cap', m, n, D, Pl, hcs, _, hl, hm, hmm, _, hi⟩
  · simp only [Value.cells, List.cons.injEq, Value.slice.injEq, and_true] at hcs
    obtain ⟨rfl, rfl, rfl⟩ := hcs
    exact ⟨[], Or.inl ⟨rfl, _, _, rfl⟩, Nat.zero_le _, fun r hr => by cases hr⟩
  · simp only [Value.cells, List.cons.injEq, Value.slice.injEq, and_true] at hcs
    obtain ⟨rfl, rfl, rfl⟩ := hcs
    rw [if_pos rfl] at hmm
    subst hmm
    have each : ∀ i, ∃ r : IT, i < m → (W.cell? (a.add (i * 8)) = some (.string r.code) ∧ W.cell? (a.add (i * 8 + 1)) = some (.string r.unt) ∧ W.cell? (a.add (i * 8 + 2)) = some (.int .i64 r.kind) ∧ W.cell? (a.add (i * 8 + 3)) = some (.int .i64 r.lead) ∧ W.cell? (a.add (i * 8 + 4)) = some (.int .i64 r.rule) ∧ W.cell? (a.add (i * 8 + 5)) = some (.int .i64 r.lsz) ∧ W.cell? (a.add (i * 8 + 6)) = some (.int .i64 r.safe) ∧ W.cell? (a.add (i * 8 + 7)) = some (.int .i64 r.scr)) ∧ IT.Sz r := by
      intro i
      by_cases hlt : i < m
      · obtain ⟨cs', h1, h2⟩ := hi i hlt
        rw [IT.cellsOf] at h1
        obtain ⟨r, rfl, z0⟩ := IT.opened h2
        obtain ⟨_, hlen, hcell⟩ := World.cells?_some h1
        have k0 := hcell 0 (by omega)
        have k1 := hcell 1 (by omega)
        have k2 := hcell 2 (by omega)
        have k3 := hcell 3 (by omega)
        have k4 := hcell 4 (by omega)
        have k5 := hcell 5 (by omega)
        have k6 := hcell 6 (by omega)
        have k7 := hcell 7 (by omega)
        rw [Go.Deep.add_add] at k0 k1 k2 k3 k4 k5 k6 k7
        exact ⟨r, fun _ => ⟨⟨by simpa using k0, by simpa using k1, by simpa using k2, by simpa using k3, by simpa using k4, by simpa using k5, by simpa using k6, by simpa using k7⟩, z0⟩⟩
      · exact ⟨default, fun h => absurd h hlt⟩
    obtain ⟨q, hq⟩ : ∃ q : Nat → IT, ∀ i, i < m → (W.cell? (a.add (i * 8)) = some (.string (q i).code) ∧ W.cell? (a.add (i * 8 + 1)) = some (.string (q i).unt) ∧ W.cell? (a.add (i * 8 + 2)) = some (.int .i64 (q i).kind) ∧ W.cell? (a.add (i * 8 + 3)) = some (.int .i64 (q i).lead) ∧ W.cell? (a.add (i * 8 + 4)) = some (.int .i64 (q i).rule) ∧ W.cell? (a.add (i * 8 + 5)) = some (.int .i64 (q i).lsz) ∧ W.cell? (a.add (i * 8 + 6)) = some (.int .i64 (q i).safe) ∧ W.cell? (a.add (i * 8 + 7)) = some (.int .i64 (q i).scr)) ∧ IT.Sz (q i) :=
      ⟨fun i => Classical.choose (each i), fun i hlt => Classical.choose_spec (each i) hlt⟩
    refine ⟨((List.range m).map q).take len, IT.take hl (by simp) (fun i hlt => ?_), ?_, ?_⟩
    · have hlt' : i < m := by simpa using hlt
      have e : ((List.range m).map q).getD i default = q i := by simp [List.getD, hlt']
      rw [e]
      exact (hq i hlt').1
    · exact Nat.le_trans (List.length_take_le _ _) (Nat.le_trans hl hm)
    · intro r hr
      obtain ⟨i, hi', rfl⟩ := List.mem_map.1 (List.mem_of_mem_take hr)
      exact (hq i (List.mem_range.1 hi')).2
end Go.Proofs.Ytmoeomeilbinhaa
