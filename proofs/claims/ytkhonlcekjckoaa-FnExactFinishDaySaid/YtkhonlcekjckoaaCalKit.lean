/-
  A law's argument of type Calendar, opened.
-/
import Derived.Test.YtkhonlcekjckoaaRows
import Derived.Test.YtkhonlcekjckoaaExcs
import Derived.Test.YtkhonlcekjckoaaIntsKit
import Derived.WalkKit
import Derived.ProofKit
import Derived.OpenShut
import Derived.Carry
import Derived.Lib.SmallJoins
import Derived.Deep.SlicePairs
import Derived.Deep.DeepHandedRow
namespace Go.Proofs.Ytkhonlcekjckoaa
open Go.ChangeShapes Go.WideShapes Go.ChangeAt Go.RowKit Go.Joins

theorem cells_cal : Try.prog.cellsOf 37 = 2 := by kernel_rfl

theorem take_pairs {w : World} {a : Addr} {len cap : Nat} {es : List (Int × Int)} (hl : len ≤ cap) (hz : es.length = cap)
    (hc : ∀ i, i < es.length → w.cell? (a.add (i * 2)) = some (.int .i64 (es.getD i (0, 0)).1) ∧ w.cell? (a.add (i * 2 + 1)) = some (.int .i64 (es.getD i (0, 0)).2)) :
    Excs w (.slice (some a) len cap) (es.take len) := by
  by_cases h0 : len = 0
  · subst h0
    exact Or.inl ⟨by simp, _, _, rfl⟩
  · have hp : 0 < es.length := by omega
    obtain ⟨b, off, spot⟩ := a
    have hspot : spot = none := by simpa [Addr.add] using World.cell?_spot (hc 0 hp).1
    subst hspot
    have hlen : (es.take len).length = len := by rw [List.length_take]; omega
    refine Or.inr ⟨by intro h; rw [h] at hlen; simp at hlen; omega, b, off, cap, by rw [hlen], by omega, ?_, ?_⟩
    · exact cell_block (a := ⟨b, off, none⟩) (hc 0 hp).1
    · intro j x hx
      have hj : j < len := by
        have := (List.getElem?_eq_some_iff.1 hx).1
        omega
      have h1 := hc j (by omega)
      rw [Addr.add_lit, Addr.add_lit] at h1
      rw [List.getElem?_take_of_lt hj] at hx
      rw [show es.getD j (0, 0) = x by rw [List.getD, hx]; rfl] at h1
      exact ⟨h1.1, by simpa [Nat.add_assoc] using h1.2⟩

theorem excs_open {H : Type} {enc : TypeId × Value → H} {W : World} {fuel : Nat} {v : Value} {y : DataW H × List MemPlace} (hf : DataW.trod enc Try.prog W 0 (fun _ => true) true fuel 35 [v] = some y) :
    ∃ es : List (Int × Int), Excs W v es ∧ es.length ≤ maxLen := by
  rcases Go.Deep.open_slice_pairs Try.underlying35 Try.underlying75 (by kernel_rfl) (by kernel_rfl) (by kernel_rfl) (by kernel_rfl) (by kernel_rfl) hf with ⟨hcs, _⟩ | ⟨a, len, cap, m, n, V0, V1, D0, D1, P0, P1, hcs, _, hl, hm, hmm, _, hi⟩
  · simp only [List.cons.injEq, and_true] at hcs
    subst hcs
    exact ⟨[], Or.inl ⟨rfl, _, _, rfl⟩, Nat.zero_le _⟩
  · simp only [List.cons.injEq, and_true] at hcs
    subst hcs
    rw [if_pos rfl] at hmm
    subst hmm
    have hq : ∀ i, ∃ q : Int × Int, i < m → V0 i = .int .i64 q.1 ∧ V1 i = .int .i64 q.2 := by
      intro i
      by_cases hlt : i < m
      · obtain ⟨_, _, h0, h1⟩ := hi i hlt
        obtain ⟨x, e0, _, _⟩ := DataW.trod_int Try.underlying3 h0
        obtain ⟨z, e1, _, _⟩ := DataW.trod_int Try.underlying3 h1
        simp at e0 e1
        exact ⟨(x, z), fun _ => ⟨e0, e1⟩⟩
      · exact ⟨(0, 0), fun h => absurd h hlt⟩
    have hch : ∃ q : Nat → Int × Int, ∀ i, i < m → V0 i = .int .i64 (q i).1 ∧ V1 i = .int .i64 (q i).2 := ⟨fun i => Classical.choose (hq i), fun i hlt => Classical.choose_spec (hq i) hlt⟩
    obtain ⟨q, hqq⟩ := hch
    refine ⟨((List.range m).map q).take len, take_pairs hl (by simp) fun i hlt => ?_, ?_⟩
    · have hlt' : i < m := by simpa using hlt
      obtain ⟨h0, h1, _, _⟩ := hi i hlt'
      have e : ((List.range m).map q).getD i (0, 0) = q i := by simp [List.getD, hlt']
      rw [e, h0, h1, (hqq i hlt').1, (hqq i hlt').2]
      exact ⟨rfl, rfl⟩
    · exact Nat.le_trans (List.length_take_le _ _) (Nat.le_trans hl hm)

theorem ints_open1 {H : Type} {enc : TypeId × Value → H} {W : World} {fuel : Nat} {v : Value} {y : DataW H × List MemPlace} (hf : DataW.trod enc Try.prog W 0 (fun _ => true) true fuel 24 [v] = some y) :
    ∃ xs : List Int, Ints W v xs ∧ xs.length ≤ maxLen := by
  rcases open_ints Try.underlying24 Try.underlying3 (by kernel_rfl : Try.prog.cellsOf 3 = 1) hf with ⟨hcs, hx⟩ | ⟨a, len', cap', xs, hcs, _, hl, hm, hz, hx, hcell, hws⟩
  · simp only [List.cons.injEq, and_true] at hcs
    subst hcs
    exact ⟨[], Or.inl ⟨rfl, _, _, rfl⟩, Nat.zero_le _⟩
  · simp only [List.cons.injEq, and_true] at hcs
    subst hcs
    rw [if_pos rfl] at hz
    exact ⟨xs.take len', ints_open0 hl hz hcell (fun i hi => cell_block (hcell i hi)), Nat.le_trans (List.length_take_le _ _) (Nat.le_trans hl hm)⟩

set_option maxRecDepth 100000 in
theorem cal_open {H : Type} {enc : TypeId × Value → H} {W : World} {base : Nat} {v : Value} {d : DataW H} {p : List MemPlace} (hv : Value.okWide Try.prog W .any base 37 v)
    (h : DataW.Trod enc Try.prog W 0 (fun _ => true) true 37 v d p) :
    ∃ ws es, Cal W v ws es ∧ ws.length ≤ maxLen ∧ es.length ≤ maxLen := by
  obtain ⟨c0, c1, y0, y1, m, rfl, rfl, rfl, hy0, hy1⟩ := open_agg2 Try.underlying37 (by kernel_rfl) cells_cal hv h
  obtain ⟨ws, h0, hl0⟩ := ints_open1 hy0
  obtain ⟨es, h1, hl1⟩ := excs_open hy1
  exact ⟨ws, es, ⟨_, _, rfl, h0, h1⟩, hl0, hl1⟩
end Go.Proofs.Ytkhonlcekjckoaa
