import Derived.Test.YtmnncinpepeocaaGreatRows
import Derived.Test.YtmnncinpepeocaaGreatBuA
import Derived.Test.YtmnncinpepeocaaGreatBuNE
import Derived.Test.YtmnncinpepeocaaGreatBuA2
import Derived.WalkKit
import Derived.WalkSpells
import Derived.WalkSmall
import Derived.BigQuiet
import Derived.Deep.QuietTactic
import Derived.Deep.DeepCutAuto
import Derived.Deep.RegionHeld3
import Derived.Laws.OwnMore
import Derived.Maps.AppendAt
import Derived.Lib.Hide
namespace Go.Proofs.YtmnncinpepeocaaGreat
open Go.RowKit

/-- The mark m in a field. -/
def NE.mkV (i m : Nat) : Value := if i = 0 then .string (marks.mText m) else .int .i64 ((m : Nat) : Int)
/-- The marks from k on, in n of them. -/
def NE.marks (k n : Nat) : List Value := (List.range (n * 2)).map fun j => NE.mkV (j % 2) (k + j)
theorem NE.marks_length (k n : Nat) : (NE.marks k n).length = n * 2 := by simp [NE.marks]
theorem NE.marks_at (k n j : Nat) (h : j < n) : (NE.marks k n)[j * 2]? = some (.string (marks.mText (k + 2 * j))) ∧ (NE.marks k n)[j * 2 + 1]? = some (.int .i64 ((k + 2 * j + 1 : Nat) : Int)) := by
 have key : ∀ i, i < 2 → (NE.marks k n)[j * 2 + i]? = some (NE.mkV i (k + 2 * j + i)) := fun i hi => by
  have h1 : j * 2 + i < n * 2 := by omega
  simp only [NE.marks, List.getElem?_map, List.getElem?_range h1, Option.map_some]
  rw [show (j * 2 + i) % 2 = i by omega, show k + (j * 2 + i) = k + 2 * j + i by omega]
 exact ⟨key 0 (by omega), key 1 (by omega)⟩

set_option maxRecDepth 100000 in
set_option maxHeartbeats 2000000 in
theorem NE.mark_all (base : Nat) (v : Value) (k n : Nat) (xs : List Value) (w : World) (hown : w.ownsRow base 42 2 v n xs) (hn : n ≤ 1048577) (hk0 : 0 < k) (hk1 : k ≤ 1000000000) :
 Calls Tryz.prog 33 #[v, .int .i64 (k : Int)] w fun e w' => e = .returned (.int .i64 ((k + 2 * n : Nat) : Int)) ∧ w'.ownsRow base 42 2 v n (NE.marks k n) ∧ w.grownBy w' v.ownBlock := by
 have hxl : xs.length = n * 2 := hown.1
 have HO := Lib.hid hown
 rcases hown.2 with ⟨rfl, rfl⟩ | ⟨g, cap, cur, rfl, -⟩
 · have HX : Hid (xs = NE.marks k 0) := Lib.hid ((List.eq_nil_of_length_eq_zero (show xs.length = 0 by omega)).trans (by rfl))
   clear hown hxl
   go_enter Tryz.func33, Tryz.ntmps33
   go_wp2
   go_loop [1, 5] (fun q i => i = .int .i64 0 ∧ q = .int .i64 (k : Int)) (fun _ _ => 0)
   case atStart => exact ⟨rfl, rfl⟩
   case round =>
    obtain ⟨rfl, rfl⟩ := hrel
    go_wp2
    go_ret
    exact ⟨rfl, HX.out ▸ HO.out, World.grownBy.refl _ _⟩
 · have HS := Lib.hid (RowL.start (NE.marks_length k n) hown)
   clear hown hxl
   go_enter Tryz.func33, Tryz.ntmps33
   go_wp2
   go_loopw [1, 5] (fun q i wr => ∃ j : Nat, j ≤ n ∧ i = .int .i64 j ∧ q = .int .i64 ((k + 2 * j : Nat) : Int) ∧ Hid (RowL base 42 2 (NE.marks k n) xs g n cap (j * 2) wr) ∧ Hid (w.grownBy wr (some g))) (fun _ i _ => n - (intOf i).toNat)
   case atStart => exact ⟨0, Nat.zero_le _, rfl, rfl, by rw [Nat.zero_mul]; exact HS, Lib.hid (World.grownBy.refl _ _)⟩
   case round =>
    clear HO HS
    obtain ⟨j, hj, rfl, rfl, HO, HG⟩ := hrel
    by_cases hlt : j < n
    · have MA := Lib.hid (NE.marks_at k n j hlt)
      go_wp2_with fail
      refine (mark_textI _ (k + 2 * j) _ (by push_cast; omega) (by omega) (by omega)).mono ?_
      rintro e w1 ⟨rfl, hb1⟩
      generalize marks.mText (k + 2 * j) = m0 at *
      have HO1 := Lib.hid (RowL.keep HO.out hb1)
      have HG1 : Hid (w.grownBy w1 (some g)) := Lib.hid (World.grownBy.trans HG.out (grown_of_belowL hb1 _))
      clear HO HG hb1
      have HO := HO1
      have HG := HG1
      clear HO1 HG1
      obtain ⟨⟨u0, hu0⟩, hf0⟩ := HO.out.cell (j * 2) (by omega)
      obtain ⟨⟨u1, hu1⟩, hf1⟩ := HO.out.cell (j * 2 + 1) (by omega)
      go_wp2_with fail
      go_roundw
      case rel => exact ⟨j + 1, by omega, by go_num, by go_num, Lib.hid (by rw [show (j + 1) * 2 = j * 2 + 1 + 1 by omega]; exact (RowL.set (RowL.set HO.out (by exact MA.out.1)) (by exact (MA.out.2.trans (congrArg (fun z : Int => some (Value.int .i64 z)) (by push_cast; omega)))))), Lib.hid ((grown_setL (grown_setL HG.out)))⟩
      case measure => simp [intOf]; omega
    · have hjn : j = n := by omega
      have HE := Lib.hid (HO.out.done (by rw [hjn]))
      subst hjn
      go_wp2_with fail
      go_ret
      exact ⟨rfl, HE.out, HG.out⟩

/-- The marks from 1 on. -/
theorem NE.mark1 (base : Nat) (v : Value) (x : Int) (n : Nat) (xs : List Value) (w : World) (hx : x = 1) (hown : w.ownsRow base 42 2 v n xs) (hn : n ≤ 1048577) :
 Calls Tryz.prog 33 #[v, .int .i64 x] w fun e w' => e = .returned (.int .i64 ((1 + 2 * n : Nat) : Int)) ∧ w'.ownsRow base 42 2 v n (NE.marks 1 n) ∧ w.grownBy w' v.ownBlock := by
 subst hx
 exact NE.mark_all base v 1 n xs w hown hn (by decide) (by decide)
end Go.Proofs.YtmnncinpepeocaaGreat

namespace Go.Proofs.YtmnncinpepeocaaGreat
open Go.RowKit

theorem NE.held_keep {w W W' : World} {g i : Nat} {v : Value} (hg : g < w.heap.size) (hc : W.cell? ⟨g, i, none⟩ = some v) (hb : Below w.heap.size w W) (hb1 : Below W.heap.size W W') :
 W'.cell? ⟨g, i, none⟩ = some v ∧ Below w.heap.size w W' :=
 ⟨(hb1.cell (p := ⟨g, i, none⟩) (Nat.lt_of_lt_of_le hg hb.size)).trans hc, hb.trans (hb1.mono hb.size)⟩

set_option maxRecDepth 100000 in
set_option maxHeartbeats 2000000 in
theorem NE.held_all (base : Nat) (v : Value) (k n : Nat) (w : World) (hown : w.ownsRow base 42 2 v n (NE.marks k n)) (hn : n ≤ 1048577) (hk0 : 0 < k) (hk1 : k ≤ 1000000000) :
 Calls Tryz.prog 34 #[v, .int .i64 (k : Int)] w fun e w' => e = .returned (.int .i64 ((k + 2 * n : Nat) : Int)) ∧ Below w.heap.size w w' := by
 have HO := Lib.hid hown
 rcases hown.2 with ⟨rfl, rfl⟩ | ⟨g, cap, cur, rfl, -⟩
 · clear hown
   go_enter Tryz.func34, Tryz.ntmps34
   go_wp2
   go_loop [1, 5] (fun q i => i = .int .i64 0 ∧ q = .int .i64 (k : Int)) (fun _ _ => 0)
   case atStart => exact ⟨rfl, rfl⟩
   case round =>
    obtain ⟨rfl, rfl⟩ := hrel
    go_wp2
    go_ret
    exact ⟨rfl, Below.refl _ _⟩
 · clear hown
   go_enter Tryz.func34, Tryz.ntmps34
   go_wp2
   go_loopw [1, 5] (fun q i wr => ∃ j : Nat, j ≤ n ∧ i = .int .i64 j ∧ q = .int .i64 ((k + 2 * j : Nat) : Int) ∧ Below w.heap.size w wr) (fun _ i _ => n - (intOf i).toNat)
   case atStart => exact ⟨0, Nat.zero_le _, rfl, rfl, Below.refl _ _⟩
   case round =>
    obtain ⟨j, hj, rfl, rfl, hb⟩ := hrel
    by_cases hlt : j < n
    · have HGL : Hid (g < w.heap.size) := Lib.hid (HO.out.lt g rfl).2
      have CK0 : Hid (w.cell? ⟨g, j * 2, none⟩ = some (.string (marks.mText (k + 2 * j)))) := Lib.hid (by rw [HO.out.cellAt (j * 2) (by omega)]; exact (NE.marks_at k n j hlt).1)
      have CK1 : Hid (w.cell? ⟨g, j * 2 + 1, none⟩ = some (.int .i64 ((k + 2 * j + 1 : Nat) : Int))) := Lib.hid (by rw [HO.out.cellAt (j * 2 + 1) (by omega)]; exact (NE.marks_at k n j hlt).2)
      obtain ⟨m0, hm0⟩ : ∃ mt, marks.mText (k + 2 * j) = mt := ⟨_, rfl⟩
      rw [hm0] at CK0
      have HM0 := Lib.hid hm0
      clear hm0
      have hj0 : (0 : Int) ≤ (j : Int) := by omega
      have hj1 : (j : Int) < (n : Int) := by omega
      have hck0 : wr.cell? ⟨g, j * 2, none⟩ = some (.string m0) := (hb.cell (p := ⟨g, j * 2, none⟩) HGL.out).trans CK0.out
      go_wp2
      go_region_held3 (fun w' => w'.cell? ⟨g, j * 2, none⟩ = some (.string m0) ∧ Below w.heap.size w w') (first | exact ⟨hck0, hb.drew⟩ | exact ⟨hck0, hb⟩ | exact NE.held_keep (W := wr.drew) HGL.out hck0 hb.drew (by assumption) | exact NE.held_keep (W := wr) HGL.out hck0 hb (by assumption))
       (first | (go_at_call 75; refine (mark_textI _ (k + 2 * j) _ (by push_cast; omega) (by omega) (by omega)).mono ?_; rintro e w' ⟨rfl, hb1⟩; rw [HM0.out]))
      have hbS0 : Below w.heap.size w w' := (by assumption : w'.cell? ⟨g, j * 2, none⟩ = some (.string m0) ∧ Below w.heap.size w w').2
      generalize w' = x0 at *
      have hc1 : x0.cell? ⟨g, j * 2 + 1, none⟩ = some (.int .i64 ((k + 2 * j + 1 : Nat) : Int)) := (hbS0.cell (p := ⟨g, j * 2 + 1, none⟩) HGL.out).trans CK1.out
      have hq1 : (((k + 2 * j + 1 : Nat) : Int) != ((k + 2 * j + 1 : Nat) : Int)) = false := by simp
      go_wp2
      go_roundw
      case rel => exact ⟨j + 1, by omega, by go_num, by go_num, hbS0⟩
      case measure => simp [intOf]; omega
    · have hjn : j = n := by omega
      subst hjn
      go_wp2
      go_ret
      exact ⟨rfl, hb⟩

theorem NE.held1 (base : Nat) (v : Value) (x : Int) (n : Nat) (w : World) (hx : x = 1) (hown : w.ownsRow base 42 2 v n (NE.marks 1 n)) (hn : n ≤ 1048577) :
 Calls Tryz.prog 34 #[v, .int .i64 x] w fun e w' => e = .returned (.int .i64 ((1 + 2 * n : Nat) : Int)) ∧ Below w.heap.size w w' := by
 subst hx
 exact NE.held_all base v 1 n w hown hn (by decide) (by decide)
end Go.Proofs.YtmnncinpepeocaaGreat

namespace Go.Proofs.YtmnncinpepeocaaGreat
open Go.RowKit

set_option maxRecDepth 100000 in
set_option maxHeartbeats 1000000 in
theorem NE.eq_one (r : NE) (w : World) :
 Calls Tryz.prog 71 #[NE.val r, NE.val r] w fun e w' => e = .returned (.bool true) ∧ Below w.heap.size w w' := by
 obtain ⟨code, qty⟩ := r
 unfold NE.val
 have b0 := str_eq (rfl : code = code)
 have b1 : (qty != qty) = false := by simp
 go_enter Tryz.func71, Tryz.ntmps71
 go_wp2_with fail
 go_ret
 exact ⟨rfl, ((Below.refl _ _).alloc (Nat.le_refl _) _).alloc (by simp) _⟩

set_option maxRecDepth 100000 in
set_option maxHeartbeats 1000000 in
theorem NE.eq_all (v v' : Value) (xs : List NE) (w : World) (h : NE.Is w v xs) (h' : NE.Is w v' xs) (hm : xs.length ≤ 1048577) :
 Calls Tryz.prog 26 #[v, v'] w fun e w' => e = .returned (.bool true) ∧ Below w.heap.size w w' := by
 have HX := Lib.hid h
 have HY := Lib.hid h'
 obtain ⟨a, c, rfl⟩ := h.slice
 obtain ⟨a', c', rfl⟩ := h'.slice
 have hnn : ((xs.length : Int) != (xs.length : Int)) = false := by simp
 clear h h'
 go_enter Tryz.func26, Tryz.ntmps26
 go_wp2
 go_loopw [5] (fun i wr => ∃ k : Nat, k ≤ xs.length ∧ i = .int .i64 k ∧ Below w.heap.size w wr) (fun i _ => xs.length - (intOf i).toNat)
 case atStart => exact ⟨0, Nat.zero_le _, rfl, Below.refl _ _⟩
 case round =>
  obtain ⟨k, hk, rfl, hb⟩ := hrel
  have HB := Lib.hid hb
  clear hb
  by_cases hlt : k < xs.length
  · obtain ⟨b2, o2, c2, hv2, hc2, hcell2⟩ := HX.out.some (by omega)
    simp only [Value.slice.injEq] at hv2
    obtain ⟨rfl, _, rfl⟩ := hv2
    obtain ⟨b3, o3, c3, hv3, hc3, hcell3⟩ := HY.out.some (by omega)
    simp only [Value.slice.injEq] at hv3
    obtain ⟨rfl, _, rfl⟩ := hv3
    obtain ⟨e1, e2⟩ := (hcell2.below HB.out).at k hlt
    obtain ⟨e3, e4⟩ := (hcell3.below HB.out).at k hlt
    clear hcell2 hcell3
    have HLT := Lib.hid hlt
    generalize xs[k]'hlt = x at *
    have HP : Hid (∀ W, Calls Tryz.prog 71 #[.agg #[.string x.code, .int .i64 x.qty], .agg #[.string x.code, .int .i64 x.qty]] W fun e w' => e = .returned (.bool true) ∧ Below W.heap.size W w') := Lib.hid (fun W => NE.eq_one x W)
    go_upto_region 6 with fail
    go_region_held3 (fun W' => Hid (Below wr.heap.size wr W') ∧ W'.cell? ⟨b2, o2 + k * 2, none⟩ = some (.string x.code) ∧ W'.cell? ⟨b2, o2 + k * 2 + 1, none⟩ = some (.int .i64 x.qty) ∧ W'.cell? ⟨b3, o3 + k * 2, none⟩ = some (.string x.code) ∧ W'.cell? ⟨b3, o3 + k * 2 + 1, none⟩ = some (.int .i64 x.qty))
     (first | assumption | exact hold4 e1 e2 e3 e4 (hold_call (by assumption) (by assumption)) | exact hold4 e1 e2 e3 e4 (Below.refl _ _).drew)
     (first | (go_at_call 71; refine (HP.out _).mono ?_; rintro e w' ⟨rfl, hb⟩; have hle := hold_le (by assumption) hb))
    all_goals
     go_wp2_with fail
     go_roundw
     case rel => exact ⟨k + 1, by have := HLT.out; omega, by go_num, HB.out.trans ((by assumption : Hid (Below wr.heap.size wr _) ∧ _).1.out.mono HB.out.size)⟩
     case measure => have := HLT.out; simp [intOf]; omega
  · go_wp2
    go_ret
    exact ⟨rfl, HB.out⟩
end Go.Proofs.YtmnncinpepeocaaGreat
