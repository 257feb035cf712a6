/-
  The verifier's own marks in slices of CondNode: written and found again.
-/
import Derived.Test.YtghofgjlmfdnpaaRows
import Derived.Test.YtghofgjlmfdnpaaRecLib
import Derived.Test.YtghofgjlmfdnpaaCNRec
import Derived.Test.YtghofgjlmfdnpaaHold
import Derived.Test.YtghofgjlmfdnpaaMarks
import Derived.WalkKit
import Derived.WalkSpells
import Derived.WalkSmall
import Derived.BigQuiet
import Derived.Deep.QuietTactic
import Derived.Deep.DeepCutAuto
import Derived.Deep.RegionHeld3
import Derived.Laws.OwnMore
import Derived.Maps.AppendAt
import Derived.Lib.Hide
namespace Go.Proofs.Ytghofgjlmfdnpaa
open Go.RowKit

/-- The mark m in a field. -/
def CN.mkV (i m : Nat) : Value := if i = 0 then .int .i64 ((m : Nat) : Int) else if i = 1 then .string (marks.mText m) else .string (marks.mText m)
/-- The marks from k on, in n of them. -/
def CN.marks (k n : Nat) : List Value := (List.range (n * 3)).map fun j => CN.mkV (j % 3) (k + j)
theorem CN.marks_length (k n : Nat) : (CN.marks k n).length = n * 3 := by simp [CN.marks]
theorem CN.marks_at (k n j : Nat) (h : j < n) : (CN.marks k n)[j * 3]? = some (.int .i64 ((k + 3 * j : Nat) : Int)) ∧ (CN.marks k n)[j * 3 + 1]? = some (.string (marks.mText (k + 3 * j + 1))) ∧ (CN.marks k n)[j * 3 + 2]? = some (.string (marks.mText (k + 3 * j + 2))) := by
  have key : ∀ i, i < 3 → (CN.marks k n)[j * 3 + i]? = some (CN.mkV i (k + 3 * j + i)) := fun i hi => by
    have h1 : j * 3 + i < n * 3 := by omega
    simp only [CN.marks, List.getElem?_map, List.getElem?_range h1, Option.map_some]
    rw [show (j * 3 + i) % 3 = i by omega, show k + (j * 3 + i) = k + 3 * j + i by omega]
  exact ⟨key 0 (by omega), key 1 (by omega), key 2 (by omega)⟩

set_option maxRecDepth 100000 in
set_option maxHeartbeats 2000000 in
theorem CN.mark_all (base : Nat) (v : Value) (k n : Nat) (xs : List Value) (w : World) (hown : w.ownsRow base 43 3 v n xs) (hn : n ≤ 1048577) (hk0 : 0 < k) (hk1 : k ≤ 1000000000) :
    Calls Try.prog 34 #[v, .int .i64 (k : Int)] w fun e w' => e = .returned (.int .i64 ((k + 3 * n : Nat) : Int)) ∧ w'.ownsRow base 43 3 v n (CN.marks k n) ∧ w.grownBy w' v.ownBlock := by
  have hxl : xs.length = n * 3 := hown.1
  have HO := Lib.hid hown
  rcases hown.2 with ⟨rfl, rfl⟩ | ⟨g, cap, cur, rfl, -⟩
  · have HX : Hid (xs = CN.marks k 0) := Lib.hid ((List.eq_nil_of_length_eq_zero (show xs.length = 0 by omega)).trans (by rfl))
    clear hown hxl
    go_enter Try.func34, Try.ntmps34
    go_wp2
    go_loop [1, 5] (fun q i => i = .int .i64 0 ∧ q = .int .i64 (k : Int)) (fun _ _ => 0)
    case atStart => exact ⟨rfl, rfl⟩
    case round =>
      obtain ⟨rfl, rfl⟩ := hrel
      go_wp2
      go_ret
      exact ⟨rfl, HX.out ▸ HO.out, World.grownBy.refl _ _⟩
  · have HS := Lib.hid (RowL.start (CN.marks_length k n) hown)
    clear hown hxl
    go_enter Try.func34, Try.ntmps34
    go_wp2
    go_loopw [1, 5] (fun q i wr => ∃ j : Nat, j ≤ n ∧ i = .int .i64 j ∧ q = .int .i64 ((k + 3 * j : Nat) : Int) ∧ Hid (RowL base 43 3 (CN.marks k n) xs g n cap (j * 3) wr) ∧ Hid (w.grownBy wr (some g))) (fun _ i _ => n - (intOf i).toNat)
    case atStart => exact ⟨0, Nat.zero_le _, rfl, rfl, by rw [Nat.zero_mul]; exact HS, Lib.hid (World.grownBy.refl _ _)⟩
    case round =>
      clear HO HS
      obtain ⟨j, hj, rfl, rfl, HO, HG⟩ := hrel
      by_cases hlt : j < n
      · have MA := Lib.hid (CN.marks_at k n j hlt)
        obtain ⟨⟨u0, hu0⟩, hf0⟩ := HO.out.cell (j * 3) (by omega)
        go_wp2_with fail
        refine (mark_textI _ (k + 3 * j + 1) _ (by push_cast; omega) (by omega) (by omega)).mono ?_
        rintro e w1 ⟨rfl, hb1⟩
        generalize marks.mText (k + 3 * j + 1) = m1 at *
        have HO1 := Lib.hid (RowL.keep (RowL.set HO.out (by exact (MA.out.1.trans (congrArg (fun z : Int => some (Value.int .i64 z)) (by push_cast; omega))))) hb1)
        have HG1 : Hid (w.grownBy w1 (some g)) := Lib.hid (World.grownBy.trans (grown_setL HG.out) (grown_of_belowL hb1 _))
        clear HO HG hb1 hu0 hf0
        have HO := HO1
        have HG := HG1
        clear HO1 HG1
        obtain ⟨⟨u1, hu1⟩, hf1⟩ := HO.out.cell (j * 3 + 1) (by omega)
        go_wp2_with fail
        refine (mark_textI _ (k + 3 * j + 2) _ (by push_cast; omega) (by omega) (by omega)).mono ?_
        rintro e w2 ⟨rfl, hb1⟩
        generalize marks.mText (k + 3 * j + 2) = m2 at *
        have HO1 := Lib.hid (RowL.keep (RowL.set HO.out (by exact MA.out.2.1)) hb1)
        have HG1 : Hid (w.grownBy w2 (some g)) := Lib.hid (World.grownBy.trans (grown_setL HG.out) (grown_of_belowL hb1 _))
        clear HO HG hb1 hu1 hf1
        have HO := HO1
        have HG := HG1
        clear HO1 HG1
        obtain ⟨⟨u2, hu2⟩, hf2⟩ := HO.out.cell (j * 3 + 2) (by omega)
        go_wp2_with fail
        go_roundw
        case rel => exact ⟨j + 1, by omega, by go_num, by go_num, Lib.hid (by rw [show (j + 1) * 3 = j * 3 + 1 + 1 + 1 by omega]; exact (RowL.set HO.out (by exact MA.out.2.2))), Lib.hid ((grown_setL HG.out))⟩
        case measure => simp [intOf]; omega
      · have hjn : j = n := by omega
        have HE := Lib.hid (HO.out.done (by rw [hjn]))
        subst hjn
        go_wp2_with fail
        go_ret
        exact ⟨rfl, HE.out, HG.out⟩

theorem CN.held_keep {w W W' : World} {g i : Nat} {v : Value} (hg : g < w.heap.size) (hc : W.cell? ⟨g, i, none⟩ = some v) (hb : Below w.heap.size w W) (hb1 : Below W.heap.size W W') :
    W'.cell? ⟨g, i, none⟩ = some v ∧ Below w.heap.size w W' :=
  ⟨(hb1.cell (p := ⟨g, i, none⟩) (Nat.lt_of_lt_of_le hg hb.size)).trans hc, hb.trans (hb1.mono hb.size)⟩

set_option maxRecDepth 100000 in
set_option maxHeartbeats 2000000 in
theorem CN.held_all (base : Nat) (v : Value) (k n : Nat) (w : World) (hown : w.ownsRow base 43 3 v n (CN.marks k n)) (hn : n ≤ 1048577) (hk0 : 0 < k) (hk1 : k ≤ 1000000000) :
    Calls Try.prog 35 #[v, .int .i64 (k : Int)] w fun e w' => e = .returned (.int .i64 ((k + 3 * n : Nat) : Int)) ∧ Below w.heap.size w w' := by
  have HO := Lib.hid hown
  rcases hown.2 with ⟨rfl, rfl⟩ | ⟨g, cap, cur, rfl, -⟩
  · clear hown
    go_enter Try.func35, Try.ntmps35
    go_wp2
    go_loop [1, 5] (fun q i => i = .int .i64 0 ∧ q = .int .i64 (k : Int)) (fun _ _ => 0)
    case atStart => exact ⟨rfl, rfl⟩
    case round =>
      obtain ⟨rfl, rfl⟩ := hrel
      go_wp2
      go_ret
      exact ⟨rfl, Below.refl _ _⟩
  · clear hown
    go_enter Try.func35, Try.ntmps35
    go_wp2
    go_loopw [1, 5] (fun q i wr => ∃ j : Nat, j ≤ n ∧ i = .int .i64 j ∧ q = .int .i64 ((k + 3 * j : Nat) : Int) ∧ Below w.heap.size w wr) (fun _ i _ => n - (intOf i).toNat)
    case atStart => exact ⟨0, Nat.zero_le _, rfl, rfl, Below.refl _ _⟩
    case round =>
      obtain ⟨j, hj, rfl, rfl, hb⟩ := hrel
      by_cases hlt : j < n
      · have HGL : Hid (g < w.heap.size) := Lib.hid (HO.out.lt g rfl).2
        have CK0 : Hid (w.cell? ⟨g, j * 3, none⟩ = some (.int .i64 ((k + 3 * j : Nat) : Int))) := Lib.hid (by rw [HO.out.cellAt (j * 3) (by omega)]; exact (CN.marks_at k n j hlt).1)
        have CK1 : Hid (w.cell? ⟨g, j * 3 + 1, none⟩ = some (.string (marks.mText (k + 3 * j + 1)))) := Lib.hid (by rw [HO.out.cellAt (j * 3 + 1) (by omega)]; exact (CN.marks_at k n j hlt).2.1)
        have CK2 : Hid (w.cell? ⟨g, j * 3 + 2, none⟩ = some (.string (marks.mText (k + 3 * j + 2)))) := Lib.hid (by rw [HO.out.cellAt (j * 3 + 2) (by omega)]; exact (CN.marks_at k n j hlt).2.2)
        obtain ⟨m1, hm1⟩ : ∃ mt, marks.mText (k + 3 * j + 1) = mt := ⟨_, rfl⟩
        rw [hm1] at CK1
        have HM1 := Lib.hid hm1
        clear hm1
        obtain ⟨m2, hm2⟩ : ∃ mt, marks.mText (k + 3 * j + 2) = mt := ⟨_, rfl⟩
        rw [hm2] at CK2
        have HM2 := Lib.hid hm2
        clear hm2
        have hj0 : (0 : Int) ≤ (j : Int) := by omega
        have hj1 : (j : Int) < (n : Int) := by omega
        have hc0 : wr.cell? ⟨g, j * 3, none⟩ = some (.int .i64 ((k + 3 * j : Nat) : Int)) := (hb.cell (p := ⟨g, j * 3, none⟩) HGL.out).trans CK0.out
        have hq0 : (((k + 3 * j : Nat) : Int) != ((k + 3 * j : Nat) : Int)) = false := by simp
        have hck1 : wr.cell? ⟨g, j * 3 + 1, none⟩ = some (.string m1) := (hb.cell (p := ⟨g, j * 3 + 1, none⟩) HGL.out).trans CK1.out
        go_wp2
        go_region_held3 (fun w' => w'.cell? ⟨g, j * 3 + 1, none⟩ = some (.string m1) ∧ Below w.heap.size w w') (first | exact ⟨hck1, hb.drew⟩ | exact ⟨hck1, hb⟩ | exact CN.held_keep (W := wr.drew) HGL.out hck1 hb.drew (by assumption) | exact CN.held_keep (W := wr) HGL.out hck1 hb (by assumption))
          (first | (go_at_call 63; refine (mark_textI _ (k + 3 * j + 1) _ (by push_cast; omega) (by omega) (by omega)).mono ?_; rintro e w' ⟨rfl, hb1⟩; rw [HM1.out]))
        have hbS1 : Below w.heap.size w w' := (by assumption : w'.cell? ⟨g, j * 3 + 1, none⟩ = some (.string m1) ∧ Below w.heap.size w w').2
        generalize w' = x1 at *
        have hck2 : x1.cell? ⟨g, j * 3 + 2, none⟩ = some (.string m2) := (hbS1.cell (p := ⟨g, j * 3 + 2, none⟩) HGL.out).trans CK2.out
        go_wp2
        go_region_held3 (fun w' => w'.cell? ⟨g, j * 3 + 2, none⟩ = some (.string m2) ∧ Below w.heap.size w w') (first | exact ⟨hck2, hbS1.drew⟩ | exact ⟨hck2, hbS1⟩ | exact CN.held_keep (W := x1.drew) HGL.out hck2 hbS1.drew (by assumption) | exact CN.held_keep (W := x1) HGL.out hck2 hbS1 (by assumption))
          (first | (go_at_call 63; refine (mark_textI _ (k + 3 * j + 2) _ (by push_cast; omega) (by omega) (by omega)).mono ?_; rintro e w' ⟨rfl, hb1⟩; rw [HM2.out]))
        have hbS2 : Below w.heap.size w w' := (by assumption : w'.cell? ⟨g, j * 3 + 2, none⟩ = some (.string m2) ∧ Below w.heap.size w w').2
        generalize w' = x2 at *
        go_wp2
        go_roundw
        case rel => exact ⟨j + 1, by omega, by go_num, by go_num, hbS2⟩
        case measure => simp [intOf]; omega
      · have hjn : j = n := by omega
        subst hjn
        go_wp2
        go_ret
        exact ⟨rfl, hb⟩

/-- The marks from 1 on. -/
theorem CN.mark1 (base : Nat) (v : Value) (x : Int) (n : Nat) (xs : List Value) (w : World) (hx : x = 1) (hown : w.ownsRow base 43 3 v n xs) (hn : n ≤ 1048577) :
    Calls Try.prog 34 #[v, .int .i64 x] w fun e w' => e = .returned (.int .i64 ((1 + 3 * n : Nat) : Int)) ∧ w'.ownsRow base 43 3 v n (CN.marks 1 n) ∧ w.grownBy w' v.ownBlock := by
  subst hx
  exact CN.mark_all base v 1 n xs w hown hn (by decide) (by decide)
theorem CN.held1 (base : Nat) (v : Value) (x : Int) (n : Nat) (w : World) (hx : x = 1) (hown : w.ownsRow base 43 3 v n (CN.marks 1 n)) (hn : n ≤ 1048577) :
    Calls Try.prog 35 #[v, .int .i64 x] w fun e w' => e = .returned (.int .i64 ((1 + 3 * n : Nat) : Int)) ∧ Below w.heap.size w w' := by
  subst hx
  exact CN.held_all base v 1 n w hown hn (by decide) (by decide)
end Go.Proofs.Ytghofgjlmfdnpaa
