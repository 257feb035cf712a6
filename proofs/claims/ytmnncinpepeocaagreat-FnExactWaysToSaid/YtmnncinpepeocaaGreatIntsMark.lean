/-
 The marks that the verifier's laws write into a result of numbers: written and found again.
-/
import Derived.Test.YtmnncinpepeocaaGreatRows
import Derived.Test.YtmnncinpepeocaaGreatBuA
import Derived.WalkKit
import Derived.WalkSpells
import Derived.WalkSmall
import Derived.BigQuiet
import Derived.Deep.QuietTactic
import Derived.Lib.Hide
namespace Go.Proofs.YtmnncinpepeocaaGreat
open Go.RowKit

/-- The marks from k on, n of them. -/
def marksI (k n : Nat) : List Value := (List.range n).map fun j => Value.int .i64 ((k + j : Nat) : Int)

theorem marksI_length (k n : Nat) : (marksI k n).length = n := by simp [marksI]
theorem marksI_at (k n j : Nat) (h : j < n) : (marksI k n)[j]? = some (Value.int .i64 ((k + j : Nat) : Int)) := by simp [marksI, h]

/-- The row when j of its cells bear marks. -/
def halfJ (xs : List Value) (k n j : Nat) : List Value := (marksI k n).take j ++ xs.drop j

theorem halfJ_zero (xs : List Value) (k n : Nat) : halfJ xs k n 0 = xs := by simp [halfJ]
theorem halfJ_all (xs : List Value) (k n : Nat) (h : xs.length = n) : halfJ xs k n n = marksI k n := by
 unfold halfJ
 rw [List.take_of_length_le (by rw [marksI_length]; exact Nat.le_refl _), List.drop_eq_nil_of_le (by omega), List.append_nil]
theorem halfJ_length (xs : List Value) (k n j : Nat) (h : xs.length = n) (hj : j ≤ n) : (halfJ xs k n j).length = n := by
 unfold halfJ
 rw [List.length_append, List.length_take, marksI_length, List.length_drop]
 omega
theorem halfJ_succ (xs : List Value) (k n j : Nat) (h : xs.length = n) (hj : j < n) : (halfJ xs k n j).set j (.int .i64 ((k : Int) + (j : Int))) = halfJ xs k n (j + 1) := by
 apply List.ext_getElem?
 intro i
 rw [List.getElem?_set, halfJ_length xs k n j h (by omega)]
 have hl : ((marksI k n).take j).length = j := by rw [List.length_take, marksI_length]; omega
 have hl1 : ((marksI k n).take (j + 1)).length = j + 1 := by rw [List.length_take, marksI_length]; omega
 unfold halfJ
 by_cases hij : j = i
 · subst hij
   rw [if_pos rfl, if_pos hj, List.getElem?_append_left (by omega), List.getElem?_take_of_lt (by omega), marksI_at k n j hj]
   simp
 · rw [if_neg hij]
   by_cases hlt : i < j
   · rw [List.getElem?_append_left (by omega), List.getElem?_append_left (by omega), List.getElem?_take_of_lt hlt, List.getElem?_take_of_lt (by omega)]
   · rw [List.getElem?_append_right (by omega), List.getElem?_append_right (by omega), hl, hl1, List.getElem?_drop, List.getElem?_drop, show j + (i - j) = i by omega, show j + 1 + (i - (j + 1)) = i by omega]

/-- What markIntS leaves. -/
def MarkedI (base : Nat) (v : Value) (k n : Nat) (w : World) (e : Ending) (w' : World) : Prop :=
 e = .returned (.int .i64 ((k : Int) + (n : Int))) ∧ w'.ownsRow base 3 1 v n (marksI k n) ∧ w.grownBy w' v.ownBlock

set_option maxRecDepth 100000 in
set_option maxHeartbeats 1000000 in
theorem mark_ints (base : Nat) (v : Value) (k n : Nat) (xs : List Value) (w : World) (hown : w.ownsRow base 3 1 v n xs) (hn : n ≤ 1048577) (hk1 : k ≤ 1000000000) :
 Calls Tryz.prog 37 #[v, .int .i64 (k : Int)] w (MarkedI base v k n w) := by
 have hxl : xs.length = n := by have := hown.1; omega
 have HO := Lib.hid hown
 rcases hown.2 with ⟨rfl, rfl⟩ | ⟨g, cap, cur, rfl, -⟩
 · have HX : Hid (xs = marksI k 0) := Lib.hid (by rw [List.eq_nil_of_length_eq_zero hxl]; rfl)
   clear hown hxl
   go_enter Tryz.func37, Tryz.ntmps37
   go_wp2
   go_loop [1, 5] (fun q i => i = .int .i64 0 ∧ q = .int .i64 (k : Int)) (fun _ _ => 0)
   case atStart => exact ⟨rfl, rfl⟩
   case round =>
    obtain ⟨rfl, rfl⟩ := hrel
    go_wp2
    go_ret
    exact ⟨by simp, HX.out ▸ HO.out, World.grownBy.refl _ _⟩
 · have HX := Lib.hid hxl
   clear hown hxl
   go_enter Tryz.func37, Tryz.ntmps37
   go_wp2
   go_loopw [1, 5] (fun q i wr => ∃ j : Nat, j ≤ n ∧ i = .int .i64 j ∧ q = .int .i64 ((k : Int) + (j : Int)) ∧ Hid (wr.ownsRow base 3 1 (.slice (some ⟨g, 0, none⟩) n cap) n (halfJ xs k n j)) ∧ Hid (w.grownBy wr (some g))) (fun _ i _ => n - (intOf i).toNat)
   case atStart => exact ⟨0, Nat.zero_le _, rfl, by simp, Lib.hid (by rw [halfJ_zero]; exact HO.out), Lib.hid (World.grownBy.refl _ _)⟩
   case round =>
    obtain ⟨j, hj, rfl, rfl, hrow, hgr⟩ := hrel
    by_cases hlt : j < n
    · have HN := Lib.hid (halfJ_succ xs k n j HX.out hlt)
      have hfz := hrow.out.frozenAt j
      have hcl : ∃ u, wr.cell? ⟨g, j, none⟩ = some u := by
       rw [hrow.out.cellAt j (by omega)]
       exact ⟨_, List.getElem?_eq_getElem (by rw [halfJ_length xs k n j HX.out (by omega)]; exact hlt)⟩
      obtain ⟨u, hu⟩ := hcl
      have hst := hrow.out.stored j (.int .i64 ((k : Int) + (j : Int)))
      rw [HN.out] at hst
      have HST := Lib.hid hst
      have HGR := Lib.hid (hgr.out.trans hst.2)
      clear hst
      go_wp2
      go_roundw
      case rel => exact ⟨j + 1, by omega, by go_num, by go_num, Lib.hid HST.out.1, Lib.hid HGR.out⟩
      case measure => simp [intOf]; omega
    · have hjn : j = n := by omega
      subst hjn
      go_wp2
      go_ret
      exact ⟨rfl, by have := hrow.out; rw [halfJ_all _ _ _ HX.out] at this; exact this, hgr.out⟩

set_option maxRecDepth 100000 in
set_option maxHeartbeats 1000000 in
/-- The marks are found again. -/
theorem held_ints (base : Nat) (v : Value) (k n : Nat) (w : World) (hown : w.ownsRow base 3 1 v n (marksI k n)) (hn : n ≤ 1048577) (hk1 : k ≤ 1000000000) :
 Calls Tryz.prog 38 #[v, .int .i64 (k : Int)] w fun e w' => e = .returned (.int .i64 ((k : Int) + (n : Int))) ∧ Below w.heap.size w w' := by
 have HO := Lib.hid hown
 rcases hown.2 with ⟨rfl, rfl⟩ | ⟨g, cap, cur, rfl, -⟩
 · clear hown
   go_enter Tryz.func38, Tryz.ntmps38
   go_wp2
   go_loop [1, 5] (fun q i => i = .int .i64 0 ∧ q = .int .i64 (k : Int)) (fun _ _ => 0)
   case atStart => exact ⟨rfl, rfl⟩
   case round =>
    obtain ⟨rfl, rfl⟩ := hrel
    go_wp2
    go_ret
    exact ⟨by simp, Below.refl _ _⟩
 · clear hown
   go_enter Tryz.func38, Tryz.ntmps38
   go_wp2
   go_loopw [1, 5] (fun q i wr => ∃ j : Nat, j ≤ n ∧ i = .int .i64 j ∧ q = .int .i64 ((k : Int) + (j : Int)) ∧ Below w.heap.size w wr) (fun _ i _ => n - (intOf i).toNat)
   case atStart => exact ⟨0, Nat.zero_le _, rfl, by simp, Below.refl _ _⟩
   case round =>
    obtain ⟨j, hj, rfl, rfl, hb⟩ := hrel
    by_cases hlt : j < n
    · have hck : wr.cell? ⟨g, j, none⟩ = some (.int .i64 ((k : Int) + (j : Int))) := by
       have h1 := HO.out.cellAt j (by omega)
       rw [marksI_at k n j hlt] at h1
       exact (hb.cell (p := ⟨g, j, none⟩) (HO.out.lt g rfl).2).trans (h1.trans (by simp))
      have hne : (((k : Int) + (j : Int)) != ((k : Int) + (j : Int))) = false := by simp
      go_wp2
      go_roundw
      case rel => exact ⟨j + 1, by omega, by go_num, by go_num, hb⟩
      case measure => simp [intOf]; omega
    · have hjn : j = n := by omega
      subst hjn
      go_wp2
      go_ret
      exact ⟨rfl, hb⟩

theorem mark_one (base : Nat) (v : Value) (x : Int) (n : Nat) (xs : List Value) (w : World) (hx : x = 1) (hown : w.ownsRow base 3 1 v n xs) (hn : n ≤ 1048577) :
 Calls Tryz.prog 37 #[v, .int .i64 x] w (MarkedI base v 1 n w) := by
 subst hx
 exact mark_ints base v 1 n xs w hown hn (by decide)
theorem held_one (base : Nat) (v : Value) (x : Int) (n : Nat) (w : World) (hx : x = 1) (hown : w.ownsRow base 3 1 v n (marksI 1 n)) (hn : n ≤ 1048577) :
 Calls Tryz.prog 38 #[v, .int .i64 x] w fun e w' => e = .returned (.int .i64 (1 + (n : Int))) ∧ Below w.heap.size w w' := by
 subst hx
 exact held_ints base v 1 n w hown hn (by decide)
end Go.Proofs.YtmnncinpepeocaaGreat
