/-
  A law's argument of type []laws.UnitRule, opened.
-/
import Derived.Test.YtaomjggamamckaaRows
import Derived.Test.YtaomjggamamckaaRules
import Derived.WalkKit
import Derived.ProofKit
import Derived.OpenShut
import Derived.Carry
import Derived.Lib.SmallJoins
import Derived.Deep.SlicePairs
import Derived.Deep.DeepHandedRow
namespace Go.Proofs.Ytaomjggamamckaa
open Go.ChangeShapes Go.WideShapes Go.ChangeAt Go.RowKit Go.Joins

theorem take_rules {w : World} {a : Addr} {len cap : Nat} {rs : List UR} (hl : len ≤ cap) (hz : rs.length = cap)
    (hc : ∀ i, i < rs.length → w.cell? (a.add (i * 4)) = some (.string (rs.getD i default).src) ∧ w.cell? (a.add (i * 4 + 1)) = some (.string (rs.getD i default).dst) ∧
      w.cell? (a.add (i * 4 + 2)) = some (.int .i64 (rs.getD i default).num) ∧ w.cell? (a.add (i * 4 + 3)) = some (.int .i64 (rs.getD i default).den)) :
    Rules w (.slice (some a) len cap) (rs.take len) := by
  by_cases h0 : len = 0
  · subst h0
    exact Or.inl ⟨by simp, _, _, rfl⟩
  · have hp : 0 < rs.length := by omega
    obtain ⟨b, off, spot⟩ := a
    have hspot : spot = none := by simpa [Addr.add] using World.cell?_spot (hc 0 hp).1
    subst hspot
    have hlen : (rs.take len).length = len := by rw [List.length_take]; omega
    refine Or.inr ⟨by intro h; rw [h] at hlen; simp at hlen; omega, b, off, cap, by rw [hlen], by omega, ?_, ?_⟩
    · exact cell_block (a := ⟨b, off, none⟩) (hc 0 hp).1
    · intro j x hx
      have hj : j < len := by
        have := (List.getElem?_eq_some_iff.1 hx).1
        omega
      have h1 := hc j (by omega)
      rw [Addr.add_lit, Addr.add_lit, Addr.add_lit, Addr.add_lit] at h1
      rw [List.getElem?_take_of_lt hj] at hx
      rw [show rs.getD j default = x by rw [List.getD, hx]; rfl] at h1
      exact ⟨h1.1, by simpa [Nat.add_assoc] using h1.2.1, by simpa [Nat.add_assoc] using h1.2.2.1, by simpa [Nat.add_assoc] using h1.2.2.2⟩

theorem cells_unit : Try.prog.cellsOf 76 = 4 := by kernel_rfl

set_option maxRecDepth 100000 in
theorem unit_cells {H : Type} {enc : TypeId × Value → H} {W : World} {n : Nat} {cs : List Value} {x : DataW H × List MemPlace} (h : DataW.trod enc Try.prog W 0 (fun _ => true) true n 76 cs = some x) :
    ∃ r : UR, cs = [.string r.src, .string r.dst, .int .i64 r.num, .int .i64 r.den] ∧ r.src.size ≤ maxLen ∧ r.dst.size ≤ maxLen := by
  obtain ⟨xs, k, hk, hxy, hcl, hxl, hf⟩ := DataW.trod_struct Try.underlying76 h
  rw [cells_unit] at hcl
  match cs, hcl with
  | [v0, v1, v2, v3], _ =>
    match xs, hxl with
    | [y0, y1, y2], _ =>
      have g0 : DataW.trod enc Try.prog W 0 (fun _ => true) true k 9 (([v0, v1, v2, v3].drop 0).take (Try.prog.cellsOf 9)) = _ := hf 0 _ rfl
      have g1 : DataW.trod enc Try.prog W 0 (fun _ => true) true k 9 (([v0, v1, v2, v3].drop 1).take (Try.prog.cellsOf 9)) = _ := hf 1 _ rfl
      have g2 : DataW.trod enc Try.prog W 0 (fun _ => true) true k 74 (([v0, v1, v2, v3].drop 2).take (Try.prog.cellsOf 74)) = _ := hf 2 _ rfl
      rw [show Try.prog.cellsOf 9 = 1 by kernel_rfl] at g0 g1
      rw [show Try.prog.cellsOf 74 = 2 by kernel_rfl] at g2
      simp at g0 g1 g2
      obtain ⟨s0, e0, _, z0⟩ := DataW.trod_string Try.underlying9 g0
      obtain ⟨s1, e1, _, z1⟩ := DataW.trod_string Try.underlying9 g1
      obtain ⟨ys, k2, _, _, _, hyl, hg⟩ := DataW.trod_struct Try.underlying74 g2
      match ys, hyl with
      | [u0, u1], _ =>
        have p0 : DataW.trod enc Try.prog W 0 (fun _ => true) true k2 3 (([v2, v3].drop 0).take (Try.prog.cellsOf 3)) = _ := hg 0 _ rfl
        have p1 : DataW.trod enc Try.prog W 0 (fun _ => true) true k2 3 (([v2, v3].drop 1).take (Try.prog.cellsOf 3)) = _ := hg 1 _ rfl
        rw [show Try.prog.cellsOf 3 = 1 by kernel_rfl] at p0 p1
        simp at p0 p1
        obtain ⟨n0, q0, _, _⟩ := DataW.trod_int Try.underlying3 p0
        obtain ⟨n1, q1, _, _⟩ := DataW.trod_int Try.underlying3 p1
        simp at e0 e1 q0 q1
        exact ⟨⟨s0, s1, n0, n1⟩, by rw [e0, e1, q0, q1], z0, z1⟩

theorem units_open {H : Type} {enc : TypeId × Value → H} {W : World} {base : Nat} {v : Value} {d : DataW H} {p : List MemPlace} (hv : Value.okWide Try.prog W .any base 40 v)
    (h0 : DataW.Trod enc Try.prog W 0 (fun _ => true) true 40 v d p) :
    ∃ rs : List UR, Rules W v rs ∧ rs.length ≤ maxLen ∧ ∀ r, r ∈ rs → r.src.size ≤ maxLen ∧ r.dst.size ≤ maxLen := by
  obtain ⟨a0, len, cap, rfl⟩ := okWide_slice Try.underlying40 hv
  obtain ⟨fuel, hf⟩ := h0
  rcases Go.Deep.open_slice Try.underlying40 hf with ⟨hcs, hx⟩ | ⟨a, len', cap', m, n, D, Pl, hcs, _, hl, hm, hmm, _, hi⟩
  · simp only [Value.cells, List.cons.injEq, Value.slice.injEq, and_true] at hcs
    obtain ⟨rfl, rfl, rfl⟩ := hcs
    exact ⟨[], Or.inl ⟨rfl, _, _, rfl⟩, Nat.zero_le _, fun r hr => by cases hr⟩
  · simp only [Value.cells, List.cons.injEq, Value.slice.injEq, and_true] at hcs
    obtain ⟨rfl, rfl, rfl⟩ := hcs
    rw [if_pos rfl] at hmm
    subst hmm
    have each : ∀ i, ∃ r : UR, i < m → (W.cell? (a.add (i * 4)) = some (.string r.src) ∧ W.cell? (a.add (i * 4 + 1)) = some (.string r.dst) ∧ W.cell? (a.add (i * 4 + 2)) = some (.int .i64 r.num) ∧ W.cell? (a.add (i * 4 + 3)) = some (.int .i64 r.den)) ∧ r.src.size ≤ maxLen ∧ r.dst.size ≤ maxLen := by
      intro i
      by_cases hlt : i < m
      · obtain ⟨cs', h1, h2⟩ := hi i hlt
        rw [cells_unit] at h1
        obtain ⟨r, rfl, z0, z1⟩ := unit_cells h2
        obtain ⟨_, hlen, hcell⟩ := World.cells?_some h1
        have k0 := hcell 0 (by omega)
        have k1 := hcell 1 (by omega)
        have k2 := hcell 2 (by omega)
        have k3 := hcell 3 (by omega)
        rw [Go.Deep.add_add] at k0 k1 k2 k3
        exact ⟨r, fun _ => ⟨⟨by simpa using k0, by simpa using k1, by simpa using k2, by simpa using k3⟩, z0, z1⟩⟩
      · exact ⟨default, fun h => absurd h hlt⟩
    obtain ⟨q, hq⟩ : ∃ q : Nat → UR, ∀ i, i < m → (W.cell? (a.add (i * 4)) = some (.string (q i).src) ∧ W.cell? (a.add (i * 4 + 1)) = some (.string (q i).dst) ∧ W.cell? (a.add (i * 4 + 2)) = some (.int .i64 (q i).num) ∧ W.cell? (a.add (i * 4 + 3)) = some (.int .i64 (q i).den)) ∧ (q i).src.size ≤ maxLen ∧ (q i).dst.size ≤ maxLen :=
      ⟨fun i => Classical.choose (each i), fun i hlt => Classical.choose_spec (each i) hlt⟩
    refine ⟨((List.range m).map q).take len, take_rules hl (by simp) (fun i hlt => ?_), ?_, ?_⟩
    · have hlt' : i < m := by simpa using hlt
      have e : ((List.range m).map q).getD i default = q i := by simp [List.getD, hlt']
      rw [e]
      exact (hq i hlt').1
    · exact Nat.le_trans (List.length_take_le _ _) (Nat.le_trans hl hm)
    · intro r hr
      obtain ⟨i, hi', rfl⟩ := List.mem_map.1 (List.mem_of_mem_take hr)
      exact (hq i (List.mem_range.1 hi')).2
end Go.Proofs.Ytaomjggamamckaa
