/-
  The verifier's own marks in rules.
-/
import Derived.Test.YtaomjggamamckaaRows
import Derived.Test.YtaomjggamamckaaRules
import Derived.Test.YtaomjggamamckaaMarks
import Derived.Test.YtaomjggamamckaaInts
import Derived.Test.YtaomjggamamckaaExcsRow
import Derived.Test.YtaomjggamamckaaHold
import Derived.WalkKit
import Derived.WalkSpells
import Derived.WalkSmall
import Derived.Laws.OwnMore
import Derived.Lib.Hide
namespace Go.Proofs.Ytaomjggamamckaa
open Go.RowKit

/-- A row of n rules of the call's own. -/
def RowOfU (base : Nat) (v : Value) (n : Nat) (w : World) : Prop := ∃ xs, w.ownsRow base 79 4 v n xs
theorem RowOfU.cell {base g n cap : Nat} {w : World} (h : RowOfU base (.slice (some ⟨g, 0, none⟩) n cap) n w) {j : Nat} (hj : j < n * 4) : (∃ u, w.cell? ⟨g, j, none⟩ = some u) ∧ w.frozen? ⟨g, j, none⟩ = false := by
  obtain ⟨xs, h⟩ := h
  refine ⟨?_, h.frozenAt j⟩
  rw [h.cellAt j hj]
  exact ⟨_, List.getElem?_eq_getElem (by rw [h.1]; exact hj)⟩
theorem RowOfU.set {base g n cap : Nat} {w : World} (h : RowOfU base (.slice (some ⟨g, 0, none⟩) n cap) n w) (j : Nat) (u : Value) : RowOfU base (.slice (some ⟨g, 0, none⟩) n cap) n (w.setCell ⟨g, j, none⟩ u) := by
  obtain ⟨xs, h⟩ := h
  exact ⟨_, (h.stored j u).1⟩
theorem RowOfU.keep {base g n cap : Nat} {w w' : World} (h : RowOfU base (.slice (some ⟨g, 0, none⟩) n cap) n w) (hb : Below w.heap.size w w') : RowOfU base (.slice (some ⟨g, 0, none⟩) n cap) n w' := by
  obtain ⟨xs, h⟩ := h
  exact ⟨xs, kept_any h hb⟩
theorem grown_setU {w w' : World} {g j : Nat} {u : Value} (h : w.grownBy w' (some g)) : w.grownBy (w'.setCell ⟨g, j, none⟩ u) (some g) :=
  h.trans ⟨rfl, rfl, rfl, by simp, fun k _ hk => heap_setCell_other w' ⟨g, j, none⟩ k u (fun e => hk (by simp [e]))⟩

set_option maxRecDepth 100000 in
set_option maxHeartbeats 2000000 in
theorem mark_units (base : Nat) (v : Value) (k n : Nat) (w : World) (hown : RowOfU base v n w) (hn : n ≤ 1048577) (hk0 : 0 < k) (hk1 : k ≤ 1000000000) :
    Calls Try.prog 29 #[v, .int .i64 (k : Int)] w fun e w' => e = .returned (.int .i64 ((k + 4 * n : Nat) : Int)) ∧ w.grownBy w' v.ownBlock := by
  have HO := Lib.hid hown
  obtain ⟨xs, hown⟩ := hown
  rcases hown.2 with ⟨rfl, rfl⟩ | ⟨g, cap, cur, rfl, -⟩
  · clear hown
    go_enter Try.func29, Try.ntmps29
    go_wp2
    go_loop [1, 5] (fun q i => i = .int .i64 0 ∧ q = .int .i64 (k : Int)) (fun _ _ => 0)
    case atStart => exact ⟨rfl, rfl⟩
    case round =>
      obtain ⟨rfl, rfl⟩ := hrel
      go_wp2
      go_ret
      exact ⟨rfl, World.grownBy.refl _ _⟩
  · clear hown
    go_enter Try.func29, Try.ntmps29
    go_wp2
    go_loopw [1, 5] (fun q i wr => ∃ j : Nat, j ≤ n ∧ i = .int .i64 j ∧ q = .int .i64 ((k + 4 * j : Nat) : Int) ∧ Hid (RowOfU base (.slice (some ⟨g, 0, none⟩) n cap) n wr) ∧ Hid (w.grownBy wr (some g))) (fun _ i _ => n - (intOf i).toNat)
    case atStart => exact ⟨0, Nat.zero_le _, rfl, rfl, HO, Lib.hid (World.grownBy.refl _ _)⟩
    case round =>
      clear HO
      obtain ⟨j, hj, rfl, rfl, HO, HG⟩ := hrel
      by_cases hlt : j < n
      · go_wp2_with fail
        refine (mark_textI _ (k + 4 * j) _ (by omega) (by omega) (by omega)).mono ?_
        rintro e w1 ⟨rfl, hb1⟩
        generalize marks.mText (k + 4 * j) = m1
        have HO1 := Lib.hid (HO.out.keep hb1)
        have HG1 : Hid (w.grownBy w1 (some g)) := Lib.hid (HG.out.trans (grown_of_below hb1 _))
        clear hb1 HO HG
        obtain ⟨⟨u0, hu0⟩, hf0⟩ := HO1.out.cell (j := j * 4) (by omega)
        have HO2 := Lib.hid (HO1.out.set (j * 4) (.string m1))
        have HG2 := Lib.hid (grown_setU (j := j * 4) (u := .string m1) HG1.out)
        go_wp2_with fail
        clear hu0 hf0 HO1 HG1
        generalize w1.setCell ⟨g, j * 4, none⟩ (.string m1) = w2 at *
        refine (mark_textI _ (k + 4 * j + 1) _ (by omega) (by omega) (by omega)).mono ?_
        rintro e w3 ⟨rfl, hb1⟩
        generalize marks.mText (k + 4 * j + 1) = m2
        have HO3 := Lib.hid (HO2.out.keep hb1)
        have HG3 : Hid (w.grownBy w3 (some g)) := Lib.hid (HG2.out.trans (grown_of_below hb1 _))
        clear hb1 HO2 HG2
        obtain ⟨⟨u1, hu1⟩, hf1⟩ := HO3.out.cell (j := j * 4 + 1) (by omega)
        obtain ⟨⟨u2, hu2⟩, hf2⟩ := HO3.out.cell (j := j * 4 + 2) (by omega)
        obtain ⟨⟨u3, hu3⟩, hf3⟩ := HO3.out.cell (j := j * 4 + 3) (by omega)
        go_wp2_with fail
        go_roundw
        case rel => exact ⟨j + 1, by omega, by go_num, by go_num, Lib.hid (((HO3.out.set _ _).set _ _).set _ _), Lib.hid (grown_setU (grown_setU (grown_setU HG3.out)))⟩
        case measure => simp [intOf]; omega
      · have hjn : j = n := by omega
        subst hjn
        go_wp2_with fail
        go_ret
        exact ⟨rfl, HG.out⟩
end Go.Proofs.Ytaomjggamamckaa
