/-
  A law's argument of type []laws.Step, opened.
-/
import Derived.Test.YtfcgdhedaefonaaRows
import Derived.Test.YtfcgdhedaefonaaSTRec
import Derived.WalkKit
import Derived.ProofKit
import Derived.OpenShut
import Derived.Carry
import Derived.Lib.SmallJoins
import Derived.Deep.SlicePairs
import Derived.Deep.DeepHandedRow
namespace Go.Proofs.Ytfcgdhedaefonaa
open Go.ChangeShapes Go.WideShapes Go.ChangeAt Go.RowKit Go.Joins

theorem ST.take {W : World} {a : Addr} {len cap : Nat} {xs : List ST} (hl : len ≤ cap) (hz : xs.length = cap)
    (hc : ∀ i, i < xs.length → W.cell? (a.add (i * 3)) = some (.string (xs.getD i default).cen) ∧ W.cell? (a.add (i * 3 + 1)) = some (.int .i64 (xs.getD i default).stu) ∧ W.cell? (a.add (i * 3 + 2)) = some (.int .i64 (xs.getD i default).run)) :
    ST.Is W (.slice (some a) len cap) (xs.take len) := by
  by_cases h0 : len = 0
  · subst h0
    exact Or.inl ⟨by simp, _, _, rfl⟩
  · have hp : 0 < xs.length := by omega
    obtain ⟨b, off, spot⟩ := a
    have hspot : spot = none := by simpa [Addr.add] using World.cell?_spot (hc 0 hp).1
    subst hspot
    have hlen : (xs.take len).length = len := by rw [List.length_take]; omega
    refine Or.inr ⟨by intro h; rw [h] at hlen; simp at hlen; omega, b, off, cap, by rw [hlen], by omega, ?_, ?_⟩
    · exact cell_blockL (a := ⟨b, off, none⟩) (hc 0 hp).1
    · intro j x hx
      have hj : j < len := by
        have := (List.getElem?_eq_some_iff.1 hx).1
        omega
      have h1 := hc j (by omega)
      rw [Addr.add_lit, Addr.add_lit, Addr.add_lit] at h1
      rw [List.getElem?_take_of_lt hj] at hx
      rw [show xs.getD j default = x by rw [List.getD, hx]; rfl] at h1
      exact ⟨h1.1, by simpa [Nat.add_assoc] using h1.2.1, by simpa [Nat.add_assoc] using h1.2.2⟩

theorem ST.cellsOf : Try.prog.cellsOf 35 = 3 := by kernel_rfl

set_option maxRecDepth 100000 in
theorem ST.opened {H : Type} {enc : TypeId × Value → H} {W : World} {n : Nat} {cs : List Value} {x : DataW H × List MemPlace} (h : DataW.trod enc Try.prog W 0 (fun _ => true) true n 35 cs = some x) :
    ∃ r : ST, cs = [.string r.cen, .int .i64 r.stu, .int .i64 r.run] ∧ ST.Sz r := by
  obtain ⟨xs, k, hk, hxy, hcl, hxl, hf⟩ := DataW.trod_struct Try.underlying35 h
  rw [ST.cellsOf] at hcl
  match cs, hcl with
  | [v0, v1, v2], _ =>
    match xs, hxl with
    | [y0, y1, y2], _ =>
      have g0 : DataW.trod enc Try.prog W 0 (fun _ => true) true k 9 (([v0, v1, v2].drop 0).take (Try.prog.cellsOf 9)) = _ := hf 0 _ rfl
      have g1 : DataW.trod enc Try.prog W 0 (fun _ => true) true k 3 (([v0, v1, v2].drop 1).take (Try.prog.cellsOf 3)) = _ := hf 1 _ rfl
      have g2 : DataW.trod enc Try.prog W 0 (fun _ => true) true k 3 (([v0, v1, v2].drop 2).take (Try.prog.cellsOf 3)) = _ := hf 2 _ rfl
      rw [show Try.prog.cellsOf 9 = 1 by kernel_rfl] at g0
      rw [show Try.prog.cellsOf 3 = 1 by kernel_rfl] at g1 g2
      simp at g0 g1 g2
      obtain ⟨s0, e0, _, z0⟩ := DataW.trod_string Try.underlying9 g0
      obtain ⟨s1, e1, _, _⟩ := DataW.trod_int Try.underlying3 g1
      obtain ⟨s2, e2, _, _⟩ := DataW.trod_int Try.underlying3 g2
      simp at e0 e1 e2
      exact ⟨⟨s0, s1, s2⟩, by rw [e0, e1, e2], z0⟩

set_option maxRecDepth 100000 in
/-- One of them, passed by itself. -/
theorem ST.one_open {H : Type} {enc : TypeId × Value → H} {W : World} {base : Nat} {v : Value} {d : DataW H} {p : List MemPlace} (hv : Value.okWide Try.prog W .any base 35 v)
    (h0 : DataW.Trod enc Try.prog W 0 (fun _ => true) true 35 v d p) : ∃ x : ST, v = ST.val x ∧ ST.Sz x := by
  obtain ⟨cs, rfl, _⟩ := okWide_struct Try.underlying35 hv
  obtain ⟨fuel, hf⟩ := h0
  obtain ⟨r, hcs, hz⟩ := ST.opened hf
  have h1 : cs = _ := Array.toList_inj.1 hcs
  exact ⟨r, by rw [h1]; rfl, hz⟩

set_option maxRecDepth 100000 in
theorem ST.args_open {H : Type} {enc : TypeId × Value → H} {W : World} {base : Nat} {v : Value} {d : DataW H} {p : List MemPlace} (hv : Value.okWide Try.prog W .any base 40 v)
    (h0 : DataW.Trod enc Try.prog W 0 (fun _ => true) true 40 v d p) :
    ∃ xs : List ST, ST.Is W v xs ∧ xs.length ≤ maxLen ∧ ∀ r, r ∈ xs → ST.Sz r := by
  obtain ⟨a0, len, cap, rfl⟩ := okWide_slice Try.underlying40 hv
  obtain ⟨fuel, hf⟩ := h0
  rcases Go.Deep.open_slice Try.underlying40 hf with ⟨hcs, hx⟩ | ⟨a, len', cap', m, n, D, Pl, hcs, _, hl, hm, hmm, _, hi⟩
  · simp only [Value.cells, List.cons.injEq, Value.slice.injEq, and_true] at hcs
    obtain ⟨rfl, rfl, rfl⟩ := hcs
    exact ⟨[], Or.inl ⟨rfl, _, _, rfl⟩, Nat.zero_le _, fun r hr => by cases hr⟩
  · simp only [Value.cells, List.cons.injEq, Value.slice.injEq, and_true] at hcs
    obtain ⟨rfl, rfl, rfl⟩ := hcs
    rw [if_pos rfl] at hmm
    subst hmm
    have each : ∀ i, ∃ r : ST, i < m → (W.cell? (a.add (i * 3)) = some (.string r.cen) ∧ W.cell? (a.add (i * 3 + 1)) = some (.int .i64 r.stu) ∧ W.cell? (a.add (i * 3 + 2)) = some (.int .i64 r.run)) ∧ ST.Sz r := by
      intro i
      by_cases hlt : i < m
      · obtain ⟨cs', h1, h2⟩ := hi i hlt
        rw [ST.cellsOf] at h1
        obtain ⟨r, rfl, z0⟩ := ST.opened h2
        obtain ⟨_, hlen, hcell⟩ := World.cells?_some h1
        have k0 := hcell 0 (by omega)
        have k1 := hcell 1 (by omega)
        have k2 := hcell 2 (by omega)
        rw [Go.Deep.add_add] at k0 k1 k2
        exact ⟨r, fun _ => ⟨⟨by simpa using k0, by simpa using k1, by simpa using k2⟩, z0⟩⟩
      · exact ⟨default, fun h => absurd h hlt⟩
    obtain ⟨q, hq⟩ : ∃ q : Nat → ST, ∀ i, i < m → (W.cell? (a.add (i * 3)) = some (.string (q i).cen) ∧ W.cell? (a.add (i * 3 + 1)) = some (.int .i64 (q i).stu) ∧ W.cell? (a.add (i * 3 + 2)) = some (.int .i64 (q i).run)) ∧ ST.Sz (q i) :=
      ⟨fun i => Classical.choose (each i), fun i hlt => Classical.choose_spec (each i) hlt⟩
    refine ⟨((List.range m).map q).take len, ST.take hl (by simp) (fun i hlt => ?_), ?_, ?_⟩
    · have hlt' : i < m := by simpa using hlt
      have e : ((List.range m).map q).getD i default = q i := by simp [List.getD, hlt']
      rw [e]
      exact (hq i hlt').1
    · exact Nat.le_trans (List.length_take_le _ _) (Nat.le_trans hl hm)
    · intro r hr
      obtain ⟨i, hi', rfl⟩ := List.mem_map.1 (List.mem_of_mem_take hr)
      exact (hq i (List.mem_range.1 hi')).2
end Go.Proofs.Ytfcgdhedaefonaa
