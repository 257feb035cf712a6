/-
  The walk of the verifier's own toStringS: a copy of a slice of strings.
-/
import Derived.Test.YtkmjaiicobkkhaaRows
import Derived.Test.YtkmjaiicobkkhaaStrs
import Derived.WalkKit
import Derived.WalkSpells
import Derived.WalkSmall
import Derived.BigQuiet
import Derived.Deep.QuietTactic
import Derived.Lib.Hide
namespace Go.Proofs.Ytkmjaiicobkkhaa
open Go.RowKit

/-- The element type's row of the table. -/
theorem infoS : (Try.prog.info? 9).map (fun i => (i.zero, i.size, i.bytes)) = some (some (.string ⟨#[]⟩), 1, 16) := by kernel_rfl

/-- A copy that the call has made reads as the strings did. -/
def CopyS (ss : List ByteArray) (w : World) (e : Ending) (w' : World) : Prop := ∃ v, e = .returned v ∧ Strs w' v ss ∧ Below w.heap.size w w'

/-- What has been copied after k rounds. -/
def halfS (ss : List ByteArray) (k : Nat) : List Value := (ss.take k).map Value.string ++ List.replicate (ss.length - k) (Value.string ⟨#[]⟩)

theorem halfS_zero (ss : List ByteArray) : halfS ss 0 = List.replicate ss.length (Value.string ⟨#[]⟩) := by simp [halfS]
theorem halfS_all (ss : List ByteArray) {k : Nat} (h : ss.length ≤ k) : halfS ss k = ss.map Value.string := by simp [halfS, List.take_of_length_le h, Nat.sub_eq_zero_of_le h]
theorem halfS_succ (ss : List ByteArray) {k : Nat} (h : k < ss.length) : (halfS ss k).set k (.string (ss[k]'h)) = halfS ss (k + 1) := by
  apply List.ext_getElem?
  intro j
  unfold halfS
  rw [List.getElem?_set]
  have hlen : (List.map Value.string (List.take k ss)).length = k := by simp; omega
  have hlen1 : (List.map Value.string (List.take (k + 1) ss)).length = k + 1 := by simp; omega
  by_cases hj : k = j
  · subst hj
    rw [if_pos rfl, if_pos (by simp; omega), List.getElem?_append_left (by omega)]
    simp [h]
  · rw [if_neg hj]
    by_cases hjk : j < k
    · rw [List.getElem?_append_left (by omega), List.getElem?_append_left (by omega)]
      simp [List.getElem?_take_of_lt hjk, List.getElem?_take_of_lt (show j < k + 1 by omega)]
    · rw [List.getElem?_append_right (by omega), List.getElem?_append_right (by omega), hlen, hlen1, List.getElem?_replicate, List.getElem?_replicate]
      by_cases h2 : j < ss.length
      · rw [if_pos (by omega), if_pos (by omega)]
      · rw [if_neg (by omega), if_neg (by omega)]

theorem strs_of_own {w : World} {base e g : Nat} {n cap : Nat} {ss : List ByteArray} (hn : n = ss.length) (h : w.ownsRow base e 1 (.slice (some ⟨g, 0, none⟩) n cap) n (ss.map Value.string)) (hc : n ≤ cap) : Strs w (.slice (some ⟨g, 0, none⟩) n cap) ss := by
  subst hn
  by_cases h0 : ss = []
  · subst h0
    exact Or.inl ⟨rfl, _, _, rfl⟩
  · refine Or.inr ⟨h0, g, 0, cap, rfl, hc, (h.lt g rfl).2, fun j x hx => ?_⟩
    have hj : j < ss.length := (List.getElem?_eq_some_iff.1 hx).1
    rw [Nat.zero_add, h.cellAt j (by omega), List.getElem?_map, hx]
    rfl

set_option maxRecDepth 100000 in
set_option maxHeartbeats 400000 in
theorem to_strs (v : Value) (ss : List ByteArray) (w : World) (h : Strs w v ss) (hm : ss.length ≤ 1048576) :
    Calls Try.prog 116 #[v] w (CopyS ss w) := by
  obtain ⟨i0, hi, hz0, hz1, hz2⟩ := info_parts infoS
  rcases h with ⟨rfl, a, c, rfl⟩ | ⟨hne, b, o, c, rfl, hc, hcell⟩
  · go_enter Try.func116, Try.ntmps116
    go_wp2_with (at_make; refine wpList_make_full _ rfl _ _ 39 rfl w.heap.size 9 i0 (.string ⟨#[]⟩) 1 Try.underlying39 hi hz0 hz1 _ _ _ _ 0 rfl rfl rfl rfl (by omega) (by unfold maxLen; omega) (Nat.le_refl _) ?_)
    intro w0 hown0 hgrow0
    have hb0 : Below w.heap.size w w0 := (Below.refl _ _).grown hgrow0 (Nat.le_refl _) (fun k h => by cases h)
    go_wp2
    go_loop [4] (fun i => i = .int .i64 0) (fun _ => 0)
    case atStart => rfl
    case round =>
      obtain rfl := hrel
      go_wp2
      go_ret
      exact ⟨_, rfl, Or.inl ⟨rfl, _, _, rfl⟩, hb0⟩
  · have H := Lib.hid hcell
    clear hcell hne
    go_enter Try.func116, Try.ntmps116
    go_wp2_with (at_make; refine wpList_make_full _ rfl _ _ 39 rfl w.heap.size 9 i0 (.string ⟨#[]⟩) 1 Try.underlying39 hi hz0 hz1 _ _ _ _ ss.length rfl rfl rfl rfl (by rw [hz2]; omega) (by unfold maxLen; omega) (Nat.le_refl _) ?_)
    intro w0 hown0 hgrow0
    have hb0 : Below w.heap.size w w0 := (Below.refl _ _).grown hgrow0 (Nat.le_refl _) (fun k h => by cases h)
    have hown1 : w0.ownsRow w.heap.size 9 1 (.slice (some ⟨w.heap.size, 0, none⟩) ss.length ss.length) ss.length (halfS ss 0) := by
      rw [halfS_zero]; simpa [toList_madeCells_one, Value.cells] using hown0
    clear hown0
    go_wp2
    go_loopw [4] (fun i wr => ∃ k : Nat, k ≤ ss.length ∧ i = .int .i64 k ∧ wr.ownsRow w.heap.size 9 1 (.slice (some ⟨w.heap.size, 0, none⟩) ss.length ss.length) ss.length (halfS ss k) ∧ Below w.heap.size w wr) (fun i _ => ss.length - (intOf i).toNat)
    case atStart => exact ⟨0, Nat.zero_le _, rfl, hown1, hb0⟩
    case round =>
      obtain ⟨k, hk, rfl, hown, hb⟩ := hrel
      by_cases hlt : k < ss.length
      · have hck : wr.cell? ⟨b, o + k, none⟩ = some (.string (ss[k]'hlt)) := (hb.cell (p := ⟨b, o + k, none⟩) H.out.1).trans (H.out.at k hlt)
        have hfz := hown.frozenAt k
        have hcl : ∃ u, wr.cell? ⟨w.heap.size, k, none⟩ = some u := by
          rw [hown.cellAt k (by omega)]
          exact ⟨_, List.getElem?_eq_getElem (by simp [halfS]; omega)⟩
        obtain ⟨u, hu⟩ := hcl
        have hst := hown.stored k (.string (ss[k]'hlt))
        rw [halfS_succ ss hlt] at hst
        have HST := Lib.hid hst
        have HO := Lib.hid hown
        clear hst hown
        go_wp2
        go_roundw
        case rel => exact ⟨k + 1, by omega, by go_num, HST.out.1, hb.grown HST.out.2 hb.size (fun j hj => by cases hj; exact Nat.le_refl _)⟩
        case measure => simp [intOf]; omega
      · have HO := Lib.hid hown
        have HA := Lib.hid (halfS_all ss (Nat.le_of_not_lt hlt))
        clear hown
        go_wp2
        go_ret
        exact ⟨_, rfl, strs_of_own rfl (HA.out ▸ HO.out) (Nat.le_refl _), hb⟩

end Go.Proofs.Ytkmjaiicobkkhaa
