/-
  The walk of the verifier's own toIntS: a copy of a slice of numbers.
-/
import Derived.Test.YtkhonlcekjckoaaRows
import Derived.Test.YtkhonlcekjckoaaInts
import Derived.WalkKit
import Derived.WalkSpells
import Derived.WalkSmall
import Derived.BigQuiet
import Derived.Deep.QuietTactic
import Derived.Lib.Hide
namespace Go.Proofs.Ytkhonlcekjckoaa
open Go.RowKit

/-- The element type's row of the table. -/
theorem infoI : (Try.prog.info? 3).map (fun i => (i.zero, i.size, i.bytes)) = some (some (.int .i64 0), 1, 8) := by kernel_rfl

/-- A copy that the call has made reads as the numbers did. -/
def CopyI (ss : List Int) (w : World) (e : Ending) (w' : World) : Prop := ∃ v, e = .returned v ∧ Ints w' v ss ∧ Below w.heap.size w w'
/-- A copy is the call's own. -/
def CopyO (ss : List Int) (w : World) (e : Ending) (w' : World) : Prop := ∃ v, e = .returned v ∧ w'.ownsRow w.heap.size 3 1 v ss.length (ss.map (Value.int .i64)) ∧ Below w.heap.size w w'

/-- What has been copied after k rounds. -/
def halfI (ss : List Int) (k : Nat) : List Value := (ss.take k).map (Value.int .i64) ++ List.replicate (ss.length - k) (Value.int .i64 0)

theorem halfI_zero (ss : List Int) : halfI ss 0 = List.replicate ss.length (Value.int .i64 0) := by simp [halfI]
theorem halfI_all (ss : List Int) {k : Nat} (h : ss.length ≤ k) : halfI ss k = ss.map (Value.int .i64) := by simp [halfI, List.take_of_length_le h, Nat.sub_eq_zero_of_le h]
theorem halfI_succ (ss : List Int) {k : Nat} (h : k < ss.length) : (halfI ss k).set k (.int .i64 (ss[k]'h)) = halfI ss (k + 1) := by
  apply List.ext_getElem?
  intro j
  unfold halfI
  rw [List.getElem?_set]
  have hlen : (List.map (Value.int .i64) (List.take k ss)).length = k := by simp; omega
  have hlen1 : (List.map (Value.int .i64) (List.take (k + 1) ss)).length = k + 1 := by simp; omega
  by_cases hj : k = j
  · subst hj
    rw [if_pos rfl, if_pos (by simp; omega), List.getElem?_append_left (by omega)]
    simp [h]
  · rw [if_neg hj]
    by_cases hjk : j < k
    · rw [List.getElem?_append_left (by omega), List.getElem?_append_left (by omega)]
      simp [List.getElem?_take_of_lt hjk, List.getElem?_take_of_lt (show j < k + 1 by omega)]
    · rw [List.getElem?_append_right (by omega), List.getElem?_append_right (by omega), hlen, hlen1, List.getElem?_replicate, List.getElem?_replicate]
      by_cases h2 : j < ss.length
      · rw [if_pos (by omega), if_pos (by omega)]
      · rw [if_neg (by omega), if_neg (by omega)]

set_option maxRecDepth 100000 in
set_option maxHeartbeats 400000 in
theorem to_intsO (v : Value) (ss : List Int) (w : World) (h : Ints w v ss) (hm : ss.length ≤ 1048576) :
    Calls Try.prog 50 #[v] w (CopyO ss w) := by
  obtain ⟨i0, hi, hz0, hz1, hz2⟩ := info_parts infoI
  rcases h with ⟨rfl, a, c, rfl⟩ | ⟨hne, b, o, c, rfl, hc, hcell⟩
  · go_enter Try.func50, Try.ntmps50
    go_wp2_with (at_make; refine wpList_make_full _ rfl _ _ 24 rfl w.heap.size 3 i0 (.int .i64 0) 1 Try.underlying24 hi hz0 hz1 _ _ _ _ 0 rfl rfl rfl rfl (by omega) (by unfold maxLen; omega) (Nat.le_refl _) ?_)
    intro w0 hown0 hgrow0
    have hb0 : Below w.heap.size w w0 := (Below.refl _ _).grown hgrow0 (Nat.le_refl _) (fun k h => by cases h)
    go_wp2
    go_loop [4] (fun i => i = .int .i64 0) (fun _ => 0)
    case atStart => rfl
    case round =>
      obtain rfl := hrel
      go_wp2
      go_ret
      exact ⟨_, rfl, by simpa [toList_madeCells_one, Value.cells] using hown0, hb0⟩
  · have H := Lib.hid hcell
    clear hcell hne
    go_enter Try.func50, Try.ntmps50
    go_wp2_with (at_make; refine wpList_make_full _ rfl _ _ 24 rfl w.heap.size 3 i0 (.int .i64 0) 1 Try.underlying24 hi hz0 hz1 _ _ _ _ ss.length rfl rfl rfl rfl (by rw [hz2]; omega) (by unfold maxLen; omega) (Nat.le_refl _) ?_)
    intro w0 hown0 hgrow0
    have hb0 : Below w.heap.size w w0 := (Below.refl _ _).grown hgrow0 (Nat.le_refl _) (fun k h => by cases h)
    have hown1 : w0.ownsRow w.heap.size 3 1 (.slice (some ⟨w.heap.size, 0, none⟩) ss.length ss.length) ss.length (halfI ss 0) := by
      rw [halfI_zero]; simpa [toList_madeCells_one, Value.cells] using hown0
    clear hown0
    go_wp2
    go_loopw [4] (fun i wr => ∃ k : Nat, k ≤ ss.length ∧ i = .int .i64 k ∧ wr.ownsRow w.heap.size 3 1 (.slice (some ⟨w.heap.size, 0, none⟩) ss.length ss.length) ss.length (halfI ss k) ∧ Below w.heap.size w wr) (fun i _ => ss.length - (intOf i).toNat)
    case atStart => exact ⟨0, Nat.zero_le _, rfl, hown1, hb0⟩
    case round =>
      obtain ⟨k, hk, rfl, hown, hb⟩ := hrel
      by_cases hlt : k < ss.length
      · have hck : wr.cell? ⟨b, o + k, none⟩ = some (.int .i64 (ss[k]'hlt)) := (hb.cell (p := ⟨b, o + k, none⟩) H.out.1).trans (H.out.at k hlt)
        have hfz := hown.frozenAt k
        have hcl : ∃ u, wr.cell? ⟨w.heap.size, k, none⟩ = some u := by
          rw [hown.cellAt k (by omega)]
          exact ⟨_, List.getElem?_eq_getElem (by simp [halfI]; omega)⟩
        obtain ⟨u, hu⟩ := hcl
        have hst := hown.stored k (.int .i64 (ss[k]'hlt))
        rw [halfI_succ ss hlt] at hst
        have HST := Lib.hid hst
        have HO := Lib.hid hown
        clear hst hown
        go_wp2
        go_roundw
        case rel => exact ⟨k + 1, by omega, by go_num, HST.out.1, hb.grown HST.out.2 hb.size (fun j hj => by cases hj; exact Nat.le_refl _)⟩
        case measure => simp [intOf]; omega
      · have HO := Lib.hid hown
        have HA := Lib.hid (halfI_all ss (Nat.le_of_not_lt hlt))
        clear hown
        go_wp2
        go_ret
        exact ⟨_, rfl, HA.out ▸ HO.out, hb⟩

theorem to_ints (v : Value) (ss : List Int) (w : World) (h : Ints w v ss) (hm : ss.length ≤ 1048576) :
    Calls Try.prog 50 #[v] w (CopyI ss w) :=
  (to_intsO v ss w h hm).mono fun _ _ ⟨v, he, ho, hb⟩ => ⟨v, he, ints_of_row rfl ho, hb⟩
end Go.Proofs.Ytkhonlcekjckoaa
