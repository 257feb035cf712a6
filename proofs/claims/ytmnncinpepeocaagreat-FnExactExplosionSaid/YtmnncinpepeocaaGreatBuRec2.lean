import Derived.Test.YtmnncinpepeocaaGreatRows
import Derived.Test.YtmnncinpepeocaaGreatBuA
import Derived.Test.YtmnncinpepeocaaGreatBuRec
import Derived.Test.YtmnncinpepeocaaGreatBuA2
import Derived.WalkKit
import Derived.WalkSpells
import Derived.WalkSmall
import Derived.BigQuiet
import Derived.Deep.QuietTactic
import Derived.Deep.DeepCutAuto
import Derived.Deep.RegionHeld3
import Derived.Laws.OwnMore
import Derived.Maps.AppendAt
import Derived.Lib.Hide
import Derived.ProofKit
import Derived.OpenShut
import Derived.Carry
import Derived.Lib.SmallJoins
import Derived.Deep.SlicePairs
import Derived.Deep.DeepHandedRow
namespace Go.Proofs.YtmnncinpepeocaaGreat
open Go.RowKit

/-- The mark m in a field. -/
def CN.mkV (i m : Nat) : Value := if i = 0 then .int .i64 ((m : Nat) : Int) else if i = 1 then .string (marks.mText m) else .string (marks.mText m)
/-- The marks from k on, in n of them. -/
def CN.marks (k n : Nat) : List Value := (List.range (n * 3)).map fun j => CN.mkV (j % 3) (k + j)
theorem CN.marks_length (k n : Nat) : (CN.marks k n).length = n * 3 := by simp [CN.marks]
theorem CN.marks_at (k n j : Nat) (h : j < n) : (CN.marks k n)[j * 3]? = some (.int .i64 ((k + 3 * j : Nat) : Int)) ∧ (CN.marks k n)[j * 3 + 1]? = some (.string (marks.mText (k + 3 * j + 1))) ∧ (CN.marks k n)[j * 3 + 2]? = some (.string (marks.mText (k + 3 * j + 2))) := by
 have key : ∀ i, i < 3 → (CN.marks k n)[j * 3 + i]? = some (CN.mkV i (k + 3 * j + i)) := fun i hi => by
  have h1 : j * 3 + i < n * 3 := by omega
  simp only [CN.marks, List.getElem?_map, List.getElem?_range h1, Option.map_some]
  rw [show (j * 3 + i) % 3 = i by omega, show k + (j * 3 + i) = k + 3 * j + i by omega]
 exact ⟨key 0 (by omega), key 1 (by omega), key 2 (by omega)⟩

set_option maxRecDepth 100000 in
set_option maxHeartbeats 2000000 in
theorem CN.mark_all (base : Nat) (v : Value) (k n : Nat) (xs : List Value) (w : World) (hown : w.ownsRow base 145 3 v n xs) (hn : n ≤ 1048577) (hk0 : 0 < k) (hk1 : k ≤ 1000000000) :
 Calls Tryz.prog 76 #[v, .int .i64 (k : Int)] w fun e w' => e = .returned (.int .i64 ((k + 3 * n : Nat) : Int)) ∧ w'.ownsRow base 145 3 v n (CN.marks k n) ∧ w.grownBy w' v.ownBlock := by
 have hxl : xs.length = n * 3 := hown.1
 have HO := Lib.hid hown
 rcases hown.2 with ⟨rfl, rfl⟩ | ⟨g, cap, cur, rfl, -⟩
 · have HX : Hid (xs = CN.marks k 0) := Lib.hid ((List.eq_nil_of_length_eq_zero (show xs.length = 0 by omega)).trans (by rfl))
   clear hown hxl
   go_enter Tryz.func76, Tryz.ntmps76
   go_wp2
   go_loop [1, 5] (fun q i => i = .int .i64 0 ∧ q = .int .i64 (k : Int)) (fun _ _ => 0)
   case atStart => exact ⟨rfl, rfl⟩
   case round =>
    obtain ⟨rfl, rfl⟩ := hrel
    go_wp2
    go_ret
    exact ⟨rfl, HX.out ▸ HO.out, World.grownBy.refl _ _⟩
 · have HS := Lib.hid (RowL.start (CN.marks_length k n) hown)
   clear hown hxl
   go_enter Tryz.func76, Tryz.ntmps76
   go_wp2
   go_loopw [1, 5] (fun q i wr => ∃ j : Nat, j ≤ n ∧ i = .int .i64 j ∧ q = .int .i64 ((k + 3 * j : Nat) : Int) ∧ Hid (RowL base 145 3 (CN.marks k n) xs g n cap (j * 3) wr) ∧ Hid (w.grownBy wr (some g))) (fun _ i _ => n - (intOf i).toNat)
   case atStart => exact ⟨0, Nat.zero_le _, rfl, rfl, by rw [Nat.zero_mul]; exact HS, Lib.hid (World.grownBy.refl _ _)⟩
   case round =>
    clear HO HS
    obtain ⟨j, hj, rfl, rfl, HO, HG⟩ := hrel
    by_cases hlt : j < n
    · have MA := Lib.hid (CN.marks_at k n j hlt)
      obtain ⟨⟨u0, hu0⟩, hf0⟩ := HO.out.cell (j * 3) (by omega)
      go_wp2_with fail
      refine (mark_textI _ (k + 3 * j + 1) _ (by push_cast; omega) (by omega) (by omega)).mono ?_
      rintro e w1 ⟨rfl, hb1⟩
      generalize marks.mText (k + 3 * j + 1) = m1 at *
      have HO1 := Lib.hid (RowL.keep (RowL.set HO.out (by exact (MA.out.1.trans (congrArg (fun z : Int => some (Value.int .i64 z)) (by push_cast; omega))))) hb1)
      have HG1 : Hid (w.grownBy w1 (some g)) := Lib.hid (World.grownBy.trans (grown_setL HG.out) (grown_of_belowL hb1 _))
      clear HO HG hb1 hu0 hf0
      have HO := HO1
      have HG := HG1
      clear HO1 HG1
      obtain ⟨⟨u1, hu1⟩, hf1⟩ := HO.out.cell (j * 3 + 1) (by omega)
      go_wp2_with fail
      refine (mark_textI _ (k + 3 * j + 2) _ (by push_cast; omega) (by omega) (by omega)).mono ?_
      rintro e w2 ⟨rfl, hb1⟩
      generalize marks.mText (k + 3 * j + 2) = m2 at *
      have HO1 := Lib.hid (RowL.keep (RowL.set HO.out (by exact MA.out.2.1)) hb1)
      have HG1 : Hid (w.grownBy w2 (some g)) := Lib.hid (World.grownBy.trans (grown_setL HG.out) (grown_of_belowL hb1 _))
      clear HO HG hb1 hu1 hf1
      have HO := HO1
      have HG := HG1
      clear HO1 HG1
      obtain ⟨⟨u2, hu2⟩, hf2⟩ := HO.out.cell (j * 3 + 2) (by omega)
      go_wp2_with fail
      go_roundw
      case rel => exact ⟨j + 1, by omega, by go_num, by go_num, Lib.hid (by rw [show (j + 1) * 3 = j * 3 + 1 + 1 + 1 by omega]; exact (RowL.set HO.out (by exact MA.out.2.2))), Lib.hid ((grown_setL HG.out))⟩
      case measure => simp [intOf]; omega
    · have hjn : j = n := by omega
      have HE := Lib.hid (HO.out.done (by rw [hjn]))
      subst hjn
      go_wp2_with fail
      go_ret
      exact ⟨rfl, HE.out, HG.out⟩

/-- .. where the first mark is known as a number. -/
theorem CN.mark_allI (base : Nat) (v : Value) (x : Int) (k n : Nat) (xs : List Value) (w : World) (hx : x = (k : Int)) (hown : w.ownsRow base 145 3 v n xs) (hn : n ≤ 1048577) (hk0 : 0 < k) (hk1 : k ≤ 1000000000) :
 Calls Tryz.prog 76 #[v, .int .i64 x] w fun e w' => e = .returned (.int .i64 ((k + 3 * n : Nat) : Int)) ∧ w'.ownsRow base 145 3 v n (CN.marks k n) ∧ w.grownBy w' v.ownBlock := by
 subst hx
 exact CN.mark_all base v k n xs w hown hn hk0 hk1
/-- The marks from 1 on. -/
theorem CN.mark1 (base : Nat) (v : Value) (x : Int) (n : Nat) (xs : List Value) (w : World) (hx : x = 1) (hown : w.ownsRow base 145 3 v n xs) (hn : n ≤ 1048577) :
 Calls Tryz.prog 76 #[v, .int .i64 x] w fun e w' => e = .returned (.int .i64 ((1 + 3 * n : Nat) : Int)) ∧ w'.ownsRow base 145 3 v n (CN.marks 1 n) ∧ w.grownBy w' v.ownBlock := by
 subst hx
 exact CN.mark_all base v 1 n xs w hown hn (by decide) (by decide)
end Go.Proofs.YtmnncinpepeocaaGreat

namespace Go.Proofs.YtmnncinpepeocaaGreat
open Go.RowKit

set_option maxRecDepth 100000 in
set_option maxHeartbeats 1000000 in
theorem PK.eq_one (r : PK) (w : World) :
 Calls Tryz.prog 74 #[PK.val r, PK.val r] w fun e w' => e = .returned (.bool true) ∧ Below w.heap.size w w' := by
 obtain ⟨opt, vl⟩ := r
 unfold PK.val
 have b0 := str_eq (rfl : opt = opt)
 have b1 := str_eq (rfl : vl = vl)
 go_enter Tryz.func74, Tryz.ntmps74
 go_wp2_with fail
 go_ret
 exact ⟨rfl, ((Below.refl _ _).alloc (Nat.le_refl _) _).alloc (by simp) _⟩

set_option maxRecDepth 100000 in
set_option maxHeartbeats 1000000 in
theorem PK.eq_all (v v' : Value) (xs : List PK) (w : World) (h : PK.Is w v xs) (h' : PK.Is w v' xs) (hm : xs.length ≤ 1048577) :
 Calls Tryz.prog 29 #[v, v'] w fun e w' => e = .returned (.bool true) ∧ Below w.heap.size w w' := by
 have HX := Lib.hid h
 have HY := Lib.hid h'
 obtain ⟨a, c, rfl⟩ := h.slice
 obtain ⟨a', c', rfl⟩ := h'.slice
 have hnn : ((xs.length : Int) != (xs.length : Int)) = false := by simp
 clear h h'
 go_enter Tryz.func29, Tryz.ntmps29
 go_wp2
 go_loopw [5] (fun i wr => ∃ k : Nat, k ≤ xs.length ∧ i = .int .i64 k ∧ Below w.heap.size w wr) (fun i _ => xs.length - (intOf i).toNat)
 case atStart => exact ⟨0, Nat.zero_le _, rfl, Below.refl _ _⟩
 case round =>
  obtain ⟨k, hk, rfl, hb⟩ := hrel
  have HB := Lib.hid hb
  clear hb
  by_cases hlt : k < xs.length
  · obtain ⟨b2, o2, c2, hv2, hc2, hcell2⟩ := HX.out.some (by omega)
    simp only [Value.slice.injEq] at hv2
    obtain ⟨rfl, _, rfl⟩ := hv2
    obtain ⟨b3, o3, c3, hv3, hc3, hcell3⟩ := HY.out.some (by omega)
    simp only [Value.slice.injEq] at hv3
    obtain ⟨rfl, _, rfl⟩ := hv3
    obtain ⟨e1, e2⟩ := (hcell2.below HB.out).at k hlt
    obtain ⟨e3, e4⟩ := (hcell3.below HB.out).at k hlt
    clear hcell2 hcell3
    have HLT := Lib.hid hlt
    generalize xs[k]'hlt = x at *
    have HP : Hid (∀ W, Calls Tryz.prog 74 #[.agg #[.string x.opt, .string x.vl], .agg #[.string x.opt, .string x.vl]] W fun e w' => e = .returned (.bool true) ∧ Below W.heap.size W w') := Lib.hid (fun W => PK.eq_one x W)
    go_upto_region 6 with fail
    go_region_held3 (fun W' => Hid (Below wr.heap.size wr W') ∧ W'.cell? ⟨b2, o2 + k * 2, none⟩ = some (.string x.opt) ∧ W'.cell? ⟨b2, o2 + k * 2 + 1, none⟩ = some (.string x.vl) ∧ W'.cell? ⟨b3, o3 + k * 2, none⟩ = some (.string x.opt) ∧ W'.cell? ⟨b3, o3 + k * 2 + 1, none⟩ = some (.string x.vl))
     (first | assumption | exact hold4 e1 e2 e3 e4 (hold_call (by assumption) (by assumption)) | exact hold4 e1 e2 e3 e4 (Below.refl _ _).drew)
     (first | (go_at_call 74; refine (HP.out _).mono ?_; rintro e w' ⟨rfl, hb⟩; have hle := hold_le (by assumption) hb))
    all_goals
     go_wp2_with fail
     go_roundw
     case rel => exact ⟨k + 1, by have := HLT.out; omega, by go_num, HB.out.trans ((by assumption : Hid (Below wr.heap.size wr _) ∧ _).1.out.mono HB.out.size)⟩
     case measure => have := HLT.out; simp [intOf]; omega
  · go_wp2
    go_ret
    exact ⟨rfl, HB.out⟩

/-- How large one is. -/
def PK.bytes (r : PK) : Nat := r.opt.size + r.vl.size
def PK.bytesS (xs : List PK) : Nat := (xs.map PK.bytes).sum
theorem PK.bytesS_succ {xs : List PK} {k : Nat} (hk : k < xs.length) : PK.bytesS (xs.take (k + 1)) = PK.bytesS (xs.take k) + PK.bytes (xs[k]'hk) := by
 unfold PK.bytesS
 rw [List.take_succ_eq_append_getElem hk, List.map_append, List.sum_append]
 simp
theorem PK.bytesS_all {xs : List PK} {k : Nat} (hk : xs.length ≤ k) : PK.bytesS (xs.take k) = PK.bytesS xs := by rw [List.take_of_length_le hk]
/-- What is left behind one. -/
def PK.left (r : PK) (left : Int) : Int := if left < PK.bytes r then -1 else left - PK.bytes r

set_option maxRecDepth 100000 in
set_option maxHeartbeats 1000000 in
theorem PK.sz_one (r : PK) (left : Int) (w : World) (h0 : 0 ≤ left) (h1 : left ≤ 1048576) (hs : PK.Sz r) :
 Calls Tryz.prog 67 #[PK.val r, .int .i64 left] w fun e w' => e = .returned (.int .i64 (PK.left r left)) ∧ Below w.heap.size w w' := by
 obtain ⟨opt, vl⟩ := r
 unfold PK.val
 unfold PK.Sz maxLen at hs
 simp only at hs
 have hz0 : opt.size ≤ _ := hs.1
 have hz1 : vl.size ≤ _ := hs.2
 have HB : Below w.heap.size w (w.alloc (.cells #[.string opt, .string vl] 105)) := (Below.refl _ _).alloc (Nat.le_refl _) _
 by_cases hc0 : left < (opt.size : Int)
 · have HY : Hid (PK.left ⟨opt, vl⟩ left = -1) := Lib.hid (if_pos (by show left < ((opt.size + vl.size : Nat) : Int); omega))
   go_enter Tryz.func67, Tryz.ntmps67
   go_wp2_with fail
   go_ret
   exact ⟨by rw [HY.out]; rfl, HB⟩
 by_cases hc1 : left < (opt.size : Int) + (vl.size : Int)
 · have HY : Hid (PK.left ⟨opt, vl⟩ left = -1) := Lib.hid (if_pos (by show left < ((opt.size + vl.size : Nat) : Int); omega))
   go_enter Tryz.func67, Tryz.ntmps67
   go_wp2_with fail
   go_ret
   exact ⟨by rw [HY.out]; rfl, HB⟩
 have HY : Hid (PK.left ⟨opt, vl⟩ left = left - opt.size - vl.size) := Lib.hid (by
  unfold PK.left PK.bytes
  rw [if_neg (by show ¬left < ((opt.size + vl.size : Nat) : Int); omega)]
  show left - ((opt.size + vl.size : Nat) : Int) = _
  omega)
 go_enter Tryz.func67, Tryz.ntmps67
 go_wp2_with fail
 go_ret
 exact ⟨by rw [HY.out]; rfl, HB⟩

/-- What the size of a slice answers. -/
def PK.SzS (xs : List PK) (left : Int) (w : World) (e : Ending) (w' : World) : Prop := ∃ r : Int, e = .returned (.int .i64 r) ∧ -1 ≤ r ∧ r ≤ 1048576 ∧ (0 ≤ r → r + (xs.length : Int) + PK.bytesS xs ≤ left) ∧ Below w.heap.size w w'

set_option maxRecDepth 100000 in
set_option maxHeartbeats 1000000 in
theorem PK.sz_all (v : Value) (xs : List PK) (left : Int) (w : World) (h : PK.Is w v xs) (h0 : 0 ≤ left) (h1 : left ≤ 1048576) (hm : xs.length ≤ maxLen) (hs : ∀ r, r ∈ xs → PK.Sz r) :
 Calls Tryz.prog 21 #[v, .int .i64 left] w (PK.SzS xs left w) := by
 unfold maxLen at hm
 have HX := Lib.hid h
 have HS := Lib.hid hs
 obtain ⟨a, c, rfl⟩ := h.slice
 clear h hs
 by_cases hb : left < xs.length
 · go_enter Tryz.func21, Tryz.ntmps21
   go_wp2_with fail
   go_ret
   exact ⟨-1, rfl, by omega, by omega, by omega, Below.refl _ _⟩
 · go_enter Tryz.func21, Tryz.ntmps21
   go_wp2_with fail
   go_loopw [1, 5] (fun t i wr => ∃ (k : Nat) (m : Int), k ≤ xs.length ∧ i = .int .i64 k ∧ t = .int .i64 m ∧ 0 ≤ m ∧ m ≤ 1048576 ∧ Hid (m + xs.length + PK.bytesS (xs.take k) ≤ left) ∧ Hid (Below w.heap.size w wr)) (fun _ i _ => xs.length - (intOf i).toNat)
   case atStart => exact ⟨0, left - xs.length, Nat.zero_le _, rfl, rfl, by omega, by omega, Lib.hid (by simp [PK.bytesS]), Lib.hid (Below.refl _ _)⟩
   case round =>
    obtain ⟨k, m, hk, rfl, rfl, hm0, hm1, HSUM, HB⟩ := hrel
    by_cases hlt : k < xs.length
    · obtain ⟨b2, o2, c2, hv2, hc2, hcell2⟩ := HX.out.some (by omega)
      simp only [Value.slice.injEq] at hv2
      obtain ⟨rfl, _, rfl⟩ := hv2
      obtain ⟨e1, e2⟩ := (hcell2.below HB.out).at k hlt
      have HSU := Lib.hid (PK.bytesS_succ hlt)
      have hz := Lib.hid (HS.out _ (List.getElem_mem hlt))
      generalize xs[k]'hlt = x at *
      have HP := Lib.hid (PK.sz_one x m wr hm0 hm1 hz.out)
      unfold PK.val at HP
      clear hcell2 hc2
      by_cases hn : m < PK.bytes x
      · have HL : Hid (PK.left x m = -1) := Lib.hid (if_pos hn)
        clear hn
        go_wp2_with fail
        refine HP.out.mono ?_
        rintro e w2 ⟨rfl, hb2⟩
        rw [HL.out]
        go_wp2_with fail
        go_ret
        exact ⟨-1, rfl, by omega, by omega, by omega, HB.out.trans (hb2.mono HB.out.size)⟩
      · have HL : Hid (PK.left x m = m - PK.bytes x) := Lib.hid (if_neg hn)
        obtain ⟨z, hz2⟩ : ∃ z : Int, m - PK.bytes x = z := ⟨_, rfl⟩
        have hz0 : 0 ≤ z ∧ z ≤ 1048576 := by omega
        rw [hz2] at HL
        have HZ := Lib.hid hz2
        clear hn hz2
        go_wp2_with fail
        refine HP.out.mono ?_
        rintro e w2 ⟨rfl, hb2⟩
        rw [HL.out]
        go_wp2_with fail
        go_roundw
        case rel => exact ⟨k + 1, z, by omega, by go_num, rfl, hz0.1, hz0.2, Lib.hid (by rw [HSU.out]; have h9 := HSUM.out; have h8 := HZ.out; push_cast; omega), Lib.hid (HB.out.trans (hb2.mono HB.out.size))⟩
        case measure => simp [intOf]; omega
    · have HSU := Lib.hid (PK.bytesS_all (Nat.le_of_not_lt hlt))
      go_wp2_with fail
      go_ret
      exact ⟨m, rfl, by omega, by omega, fun _ => by have := HSUM.out; rw [HSU.out] at this; omega, HB.out⟩
end Go.Proofs.YtmnncinpepeocaaGreat

namespace Go.Proofs.YtmnncinpepeocaaGreat
open Go.RowKit

/-- The mark m in a field. -/
def PK.mkV (i m : Nat) : Value := if i = 0 then .string (marks.mText m) else .string (marks.mText m)
/-- The marks from k on, in n of them. -/
def PK.marks (k n : Nat) : List Value := (List.range (n * 2)).map fun j => PK.mkV (j % 2) (k + j)
theorem PK.marks_length (k n : Nat) : (PK.marks k n).length = n * 2 := by simp [PK.marks]
theorem PK.marks_at (k n j : Nat) (h : j < n) : (PK.marks k n)[j * 2]? = some (.string (marks.mText (k + 2 * j))) ∧ (PK.marks k n)[j * 2 + 1]? = some (.string (marks.mText (k + 2 * j + 1))) := by
 have key : ∀ i, i < 2 → (PK.marks k n)[j * 2 + i]? = some (PK.mkV i (k + 2 * j + i)) := fun i hi => by
  have h1 : j * 2 + i < n * 2 := by omega
  simp only [PK.marks, List.getElem?_map, List.getElem?_range h1, Option.map_some]
  rw [show (j * 2 + i) % 2 = i by omega, show k + (j * 2 + i) = k + 2 * j + i by omega]
 exact ⟨key 0 (by omega), key 1 (by omega)⟩

set_option maxRecDepth 100000 in
set_option maxHeartbeats 2000000 in
theorem PK.mark_all (base : Nat) (v : Value) (k n : Nat) (xs : List Value) (w : World) (hown : w.ownsRow base 108 2 v n xs) (hn : n ≤ 1048577) (hk0 : 0 < k) (hk1 : k ≤ 1000000000) :
 Calls Tryz.prog 32 #[v, .int .i64 (k : Int)] w fun e w' => e = .returned (.int .i64 ((k + 2 * n : Nat) : Int)) ∧ w'.ownsRow base 108 2 v n (PK.marks k n) ∧ w.grownBy w' v.ownBlock := by
 have hxl : xs.length = n * 2 := hown.1
 have HO := Lib.hid hown
 rcases hown.2 with ⟨rfl, rfl⟩ | ⟨g, cap, cur, rfl, -⟩
 · have HX : Hid (xs = PK.marks k 0) := Lib.hid ((List.eq_nil_of_length_eq_zero (show xs.length = 0 by omega)).trans (by rfl))
   clear hown hxl
   go_enter Tryz.func32, Tryz.ntmps32
   go_wp2
   go_loop [1, 5] (fun q i => i = .int .i64 0 ∧ q = .int .i64 (k : Int)) (fun _ _ => 0)
   case atStart => exact ⟨rfl, rfl⟩
   case round =>
    obtain ⟨rfl, rfl⟩ := hrel
    go_wp2
    go_ret
    exact ⟨rfl, HX.out ▸ HO.out, World.grownBy.refl _ _⟩
 · have HS := Lib.hid (RowL.start (PK.marks_length k n) hown)
   clear hown hxl
   go_enter Tryz.func32, Tryz.ntmps32
   go_wp2
   go_loopw [1, 5] (fun q i wr => ∃ j : Nat, j ≤ n ∧ i = .int .i64 j ∧ q = .int .i64 ((k + 2 * j : Nat) : Int) ∧ Hid (RowL base 108 2 (PK.marks k n) xs g n cap (j * 2) wr) ∧ Hid (w.grownBy wr (some g))) (fun _ i _ => n - (intOf i).toNat)
   case atStart => exact ⟨0, Nat.zero_le _, rfl, rfl, by rw [Nat.zero_mul]; exact HS, Lib.hid (World.grownBy.refl _ _)⟩
   case round =>
    clear HO HS
    obtain ⟨j, hj, rfl, rfl, HO, HG⟩ := hrel
    by_cases hlt : j < n
    · have MA := Lib.hid (PK.marks_at k n j hlt)
      go_wp2_with fail
      refine (mark_textI _ (k + 2 * j) _ (by push_cast; omega) (by omega) (by omega)).mono ?_
      rintro e w1 ⟨rfl, hb1⟩
      generalize marks.mText (k + 2 * j) = m0 at *
      have HO1 := Lib.hid (RowL.keep HO.out hb1)
      have HG1 : Hid (w.grownBy w1 (some g)) := Lib.hid (World.grownBy.trans HG.out (grown_of_belowL hb1 _))
      clear HO HG hb1
      have HO := HO1
      have HG := HG1
      clear HO1 HG1
      obtain ⟨⟨u0, hu0⟩, hf0⟩ := HO.out.cell (j * 2) (by omega)
      go_wp2_with fail
      refine (mark_textI _ (k + 2 * j + 1) _ (by push_cast; omega) (by omega) (by omega)).mono ?_
      rintro e w2 ⟨rfl, hb1⟩
      generalize marks.mText (k + 2 * j + 1) = m1 at *
      have HO1 := Lib.hid (RowL.keep (RowL.set HO.out (by exact MA.out.1)) hb1)
      have HG1 : Hid (w.grownBy w2 (some g)) := Lib.hid (World.grownBy.trans (grown_setL HG.out) (grown_of_belowL hb1 _))
      clear HO HG hb1 hu0 hf0
      have HO := HO1
      have HG := HG1
      clear HO1 HG1
      obtain ⟨⟨u1, hu1⟩, hf1⟩ := HO.out.cell (j * 2 + 1) (by omega)
      go_wp2_with fail
      go_roundw
      case rel => exact ⟨j + 1, by omega, by go_num, by go_num, Lib.hid (by rw [show (j + 1) * 2 = j * 2 + 1 + 1 by omega]; exact (RowL.set HO.out (by exact MA.out.2))), Lib.hid ((grown_setL HG.out))⟩
      case measure => simp [intOf]; omega
    · have hjn : j = n := by omega
      have HE := Lib.hid (HO.out.done (by rw [hjn]))
      subst hjn
      go_wp2_with fail
      go_ret
      exact ⟨rfl, HE.out, HG.out⟩

/-- .. where the first mark is known as a number. -/
theorem PK.mark_allI (base : Nat) (v : Value) (x : Int) (k n : Nat) (xs : List Value) (w : World) (hx : x = (k : Int)) (hown : w.ownsRow base 108 2 v n xs) (hn : n ≤ 1048577) (hk0 : 0 < k) (hk1 : k ≤ 1000000000) :
 Calls Tryz.prog 32 #[v, .int .i64 x] w fun e w' => e = .returned (.int .i64 ((k + 2 * n : Nat) : Int)) ∧ w'.ownsRow base 108 2 v n (PK.marks k n) ∧ w.grownBy w' v.ownBlock := by
 subst hx
 exact PK.mark_all base v k n xs w hown hn hk0 hk1
/-- The marks from 1 on. -/
theorem PK.mark1 (base : Nat) (v : Value) (x : Int) (n : Nat) (xs : List Value) (w : World) (hx : x = 1) (hown : w.ownsRow base 108 2 v n xs) (hn : n ≤ 1048577) :
 Calls Tryz.prog 32 #[v, .int .i64 x] w fun e w' => e = .returned (.int .i64 ((1 + 2 * n : Nat) : Int)) ∧ w'.ownsRow base 108 2 v n (PK.marks 1 n) ∧ w.grownBy w' v.ownBlock := by
 subst hx
 exact PK.mark_all base v 1 n xs w hown hn (by decide) (by decide)
end Go.Proofs.YtmnncinpepeocaaGreat

namespace Go.Proofs.YtmnncinpepeocaaGreat
open Go.RowKit

set_option maxRecDepth 100000 in
set_option maxHeartbeats 1000000 in
theorem IT.eq_one (r : IT) (w : World) :
 Calls Tryz.prog 72 #[IT.val r, IT.val r] w fun e w' => e = .returned (.bool true) ∧ Below w.heap.size w w' := by
 obtain ⟨code, unt, kind, lead, rule, lsz, safe, scr⟩ := r
 unfold IT.val
 have b0 := str_eq (rfl : code = code)
 have b1 := str_eq (rfl : unt = unt)
 have b2 : (kind != kind) = false := by simp
 have b3 : (lead != lead) = false := by simp
 have b4 : (rule != rule) = false := by simp
 have b5 : (lsz != lsz) = false := by simp
 have b6 : (safe != safe) = false := by simp
 have b7 : (scr != scr) = false := by simp
 go_enter Tryz.func72, Tryz.ntmps72
 go_wp2_with fail
 go_ret
 exact ⟨rfl, ((Below.refl _ _).alloc (Nat.le_refl _) _).alloc (by simp) _⟩

set_option maxRecDepth 100000 in
set_option maxHeartbeats 1000000 in
theorem IT.eq_all (v v' : Value) (xs : List IT) (w : World) (h : IT.Is w v xs) (h' : IT.Is w v' xs) (hm : xs.length ≤ 1048577) :
 Calls Tryz.prog 27 #[v, v'] w fun e w' => e = .returned (.bool true) ∧ Below w.heap.size w w' := by
 have HX := Lib.hid h
 have HY := Lib.hid h'
 obtain ⟨a, c, rfl⟩ := h.slice
 obtain ⟨a', c', rfl⟩ := h'.slice
 have hnn : ((xs.length : Int) != (xs.length : Int)) = false := by simp
 clear h h'
 go_enter Tryz.func27, Tryz.ntmps27
 go_wp2
 go_loopw [5] (fun i wr => ∃ k : Nat, k ≤ xs.length ∧ i = .int .i64 k ∧ Below w.heap.size w wr) (fun i _ => xs.length - (intOf i).toNat)
 case atStart => exact ⟨0, Nat.zero_le _, rfl, Below.refl _ _⟩
 case round =>
  obtain ⟨k, hk, rfl, hb⟩ := hrel
  have HB := Lib.hid hb
  clear hb
  by_cases hlt : k < xs.length
  · obtain ⟨b2, o2, c2, hv2, hc2, hcell2⟩ := HX.out.some (by omega)
    simp only [Value.slice.injEq] at hv2
    obtain ⟨rfl, _, rfl⟩ := hv2
    obtain ⟨b3, o3, c3, hv3, hc3, hcell3⟩ := HY.out.some (by omega)
    simp only [Value.slice.injEq] at hv3
    obtain ⟨rfl, _, rfl⟩ := hv3
    obtain ⟨e1, e2, e3, e4, e5, e6, e7, e8⟩ := (hcell2.below HB.out).at k hlt
    obtain ⟨e9, e10, e11, e12, e13, e14, e15, e16⟩ := (hcell3.below HB.out).at k hlt
    clear hcell2 hcell3
    have HLT := Lib.hid hlt
    generalize xs[k]'hlt = x at *
    have HP : Hid (∀ W, Calls Tryz.prog 72 #[.agg #[.string x.code, .string x.unt, .int .i64 x.kind, .int .i64 x.lead, .int .i64 x.rule, .int .i64 x.lsz, .int .i64 x.safe, .int .i64 x.scr], .agg #[.string x.code, .string x.unt, .int .i64 x.kind, .int .i64 x.lead, .int .i64 x.rule, .int .i64 x.lsz, .int .i64 x.safe, .int .i64 x.scr]] W fun e w' => e = .returned (.bool true) ∧ Below W.heap.size W w') := Lib.hid (fun W => IT.eq_one x W)
    go_upto_region 6 with fail
    go_region_held3 (fun W' => Hid (Below wr.heap.size wr W') ∧ W'.cell? ⟨b2, o2 + k * 8, none⟩ = some (.string x.code) ∧ W'.cell? ⟨b2, o2 + k * 8 + 1, none⟩ = some (.string x.unt) ∧ W'.cell? ⟨b2, o2 + k * 8 + 2, none⟩ = some (.int .i64 x.kind) ∧ W'.cell? ⟨b2, o2 + k * 8 + 3, none⟩ = some (.int .i64 x.lead) ∧ W'.cell? ⟨b2, o2 + k * 8 + 4, none⟩ = some (.int .i64 x.rule) ∧ W'.cell? ⟨b2, o2 + k * 8 + 5, none⟩ = some (.int .i64 x.lsz) ∧ W'.cell? ⟨b2, o2 + k * 8 + 6, none⟩ = some (.int .i64 x.safe) ∧ W'.cell? ⟨b2, o2 + k * 8 + 7, none⟩ = some (.int .i64 x.scr) ∧ W'.cell? ⟨b3, o3 + k * 8, none⟩ = some (.string x.code) ∧ W'.cell? ⟨b3, o3 + k * 8 + 1, none⟩ = some (.string x.unt) ∧ W'.cell? ⟨b3, o3 + k * 8 + 2, none⟩ = some (.int .i64 x.kind) ∧ W'.cell? ⟨b3, o3 + k * 8 + 3, none⟩ = some (.int .i64 x.lead) ∧ W'.cell? ⟨b3, o3 + k * 8 + 4, none⟩ = some (.int .i64 x.rule) ∧ W'.cell? ⟨b3, o3 + k * 8 + 5, none⟩ = some (.int .i64 x.lsz) ∧ W'.cell? ⟨b3, o3 + k * 8 + 6, none⟩ = some (.int .i64 x.safe) ∧ W'.cell? ⟨b3, o3 + k * 8 + 7, none⟩ = some (.int .i64 x.scr))
     (first | assumption | exact hold16 e1 e2 e3 e4 e5 e6 e7 e8 e9 e10 e11 e12 e13 e14 e15 e16 (hold_call (by assumption) (by assumption)) | exact hold16 e1 e2 e3 e4 e5 e6 e7 e8 e9 e10 e11 e12 e13 e14 e15 e16 (Below.refl _ _).drew)
     (first | (go_at_call 72; refine (HP.out _).mono ?_; rintro e w' ⟨rfl, hb⟩; have hle := hold_le (by assumption) hb))
    all_goals
     go_wp2_with fail
     go_roundw
     case rel => exact ⟨k + 1, by have := HLT.out; omega, by go_num, HB.out.trans ((by assumption : Hid (Below wr.heap.size wr _) ∧ _).1.out.mono HB.out.size)⟩
     case measure => have := HLT.out; simp [intOf]; omega
  · go_wp2
    go_ret
    exact ⟨rfl, HB.out⟩

/-- How large one is. -/
def IT.bytes (r : IT) : Nat := r.code.size + r.unt.size
def IT.bytesS (xs : List IT) : Nat := (xs.map IT.bytes).sum
theorem IT.bytesS_succ {xs : List IT} {k : Nat} (hk : k < xs.length) : IT.bytesS (xs.take (k + 1)) = IT.bytesS (xs.take k) + IT.bytes (xs[k]'hk) := by
 unfold IT.bytesS
 rw [List.take_succ_eq_append_getElem hk, List.map_append, List.sum_append]
 simp
theorem IT.bytesS_all {xs : List IT} {k : Nat} (hk : xs.length ≤ k) : IT.bytesS (xs.take k) = IT.bytesS xs := by rw [List.take_of_length_le hk]
/-- What is left behind one. -/
def IT.left (r : IT) (left : Int) : Int := if left < IT.bytes r then -1 else left - IT.bytes r

set_option maxRecDepth 100000 in
set_option maxHeartbeats 1000000 in
theorem IT.sz_one (r : IT) (left : Int) (w : World) (h0 : 0 ≤ left) (h1 : left ≤ 1048576) (hs : IT.Sz r) :
 Calls Tryz.prog 65 #[IT.val r, .int .i64 left] w fun e w' => e = .returned (.int .i64 (IT.left r left)) ∧ Below w.heap.size w w' := by
 obtain ⟨code, unt, kind, lead, rule, lsz, safe, scr⟩ := r
 unfold IT.val
 unfold IT.Sz maxLen at hs
 simp only at hs
 have hz0 : code.size ≤ _ := hs.1
 have hz1 : unt.size ≤ _ := hs.2
 have HB : Below w.heap.size w (w.alloc (.cells #[.string code, .string unt, .int .i64 kind, .int .i64 lead, .int .i64 rule, .int .i64 lsz, .int .i64 safe, .int .i64 scr] 98)) := (Below.refl _ _).alloc (Nat.le_refl _) _
 by_cases hc0 : left < (code.size : Int)
 · have HY : Hid (IT.left ⟨code, unt, kind, lead, rule, lsz, safe, scr⟩ left = -1) := Lib.hid (if_pos (by show left < ((code.size + unt.size : Nat) : Int); omega))
   go_enter Tryz.func65, Tryz.ntmps65
   go_wp2_with fail
   go_ret
   exact ⟨by rw [HY.out]; rfl, HB⟩
 by_cases hc1 : left < (code.size : Int) + (unt.size : Int)
 · have HY : Hid (IT.left ⟨code, unt, kind, lead, rule, lsz, safe, scr⟩ left = -1) := Lib.hid (if_pos (by show left < ((code.size + unt.size : Nat) : Int); omega))
   go_enter Tryz.func65, Tryz.ntmps65
   go_wp2_with fail
   go_ret
   exact ⟨by rw [HY.out]; rfl, HB⟩
 have HY : Hid (IT.left ⟨code, unt, kind, lead, rule, lsz, safe, scr⟩ left = left - code.size - unt.size) := Lib.hid (by
  unfold IT.left IT.bytes
  rw [if_neg (by show ¬left < ((code.size + unt.size : Nat) : Int); omega)]
  show left - ((code.size + unt.size : Nat) : Int) = _
  omega)
 go_enter Tryz.func65, Tryz.ntmps65
 go_wp2_with fail
 go_ret
 exact ⟨by rw [HY.out]; rfl, HB⟩

/-- What the size of a slice answers. -/
def IT.SzS (xs : List IT) (left : Int) (w : World) (e : Ending) (w' : World) : Prop := ∃ r : Int, e = .returned (.int .i64 r) ∧ -1 ≤ r ∧ r ≤ 1048576 ∧ (0 ≤ r → r + (xs.length : Int) + IT.bytesS xs ≤ left) ∧ Below w.heap.size w w'

set_option maxRecDepth 100000 in
set_option maxHeartbeats 1000000 in
theorem IT.sz_all (v : Value) (xs : List IT) (left : Int) (w : World) (h : IT.Is w v xs) (h0 : 0 ≤ left) (h1 : left ≤ 1048576) (hm : xs.length ≤ maxLen) (hs : ∀ r, r ∈ xs → IT.Sz r) :
 Calls Tryz.prog 19 #[v, .int .i64 left] w (IT.SzS xs left w) := by
 unfold maxLen at hm
 have HX := Lib.hid h
 have HS := Lib.hid hs
 obtain ⟨a, c, rfl⟩ := h.slice
 clear h hs
 by_cases hb : left < xs.length
 · go_enter Tryz.func19, Tryz.ntmps19
   go_wp2_with fail
   go_ret
   exact ⟨-1, rfl, by omega, by omega, by omega, Below.refl _ _⟩
 · go_enter Tryz.func19, Tryz.ntmps19
   go_wp2_with fail
   go_loopw [1, 5] (fun t i wr => ∃ (k : Nat) (m : Int), k ≤ xs.length ∧ i = .int .i64 k ∧ t = .int .i64 m ∧ 0 ≤ m ∧ m ≤ 1048576 ∧ Hid (m + xs.length + IT.bytesS (xs.take k) ≤ left) ∧ Hid (Below w.heap.size w wr)) (fun _ i _ => xs.length - (intOf i).toNat)
   case atStart => exact ⟨0, left - xs.length, Nat.zero_le _, rfl, rfl, by omega, by omega, Lib.hid (by simp [IT.bytesS]), Lib.hid (Below.refl _ _)⟩
   case round =>
    obtain ⟨k, m, hk, rfl, rfl, hm0, hm1, HSUM, HB⟩ := hrel
    by_cases hlt : k < xs.length
    · obtain ⟨b2, o2, c2, hv2, hc2, hcell2⟩ := HX.out.some (by omega)
      simp only [Value.slice.injEq] at hv2
      obtain ⟨rfl, _, rfl⟩ := hv2
      obtain ⟨e1, e2, e3, e4, e5, e6, e7, e8⟩ := (hcell2.below HB.out).at k hlt
      have HSU := Lib.hid (IT.bytesS_succ hlt)
      have hz := Lib.hid (HS.out _ (List.getElem_mem hlt))
      generalize xs[k]'hlt = x at *
      have HP := Lib.hid (IT.sz_one x m wr hm0 hm1 hz.out)
      unfold IT.val at HP
      clear hcell2 hc2
      by_cases hn : m < IT.bytes x
      · have HL : Hid (IT.left x m = -1) := Lib.hid (if_pos hn)
        clear hn
        go_wp2_with fail
        refine HP.out.mono ?_
        rintro e w2 ⟨rfl, hb2⟩
        rw [HL.out]
        go_wp2_with fail
        go_ret
        exact ⟨-1, rfl, by omega, by omega, by omega, HB.out.trans (hb2.mono HB.out.size)⟩
      · have HL : Hid (IT.left x m = m - IT.bytes x) := Lib.hid (if_neg hn)
        obtain ⟨z, hz2⟩ : ∃ z : Int, m - IT.bytes x = z := ⟨_, rfl⟩
        have hz0 : 0 ≤ z ∧ z ≤ 1048576 := by omega
        rw [hz2] at HL
        have HZ := Lib.hid hz2
        clear hn hz2
        go_wp2_with fail
        refine HP.out.mono ?_
        rintro e w2 ⟨rfl, hb2⟩
        rw [HL.out]
        go_wp2_with fail
        go_roundw
        case rel => exact ⟨k + 1, z, by omega, by go_num, rfl, hz0.1, hz0.2, Lib.hid (by rw [HSU.out]; have h9 := HSUM.out; have h8 := HZ.out; push_cast; omega), Lib.hid (HB.out.trans (hb2.mono HB.out.size))⟩
        case measure => simp [intOf]; omega
    · have HSU := Lib.hid (IT.bytesS_all (Nat.le_of_not_lt hlt))
      go_wp2_with fail
      go_ret
      exact ⟨m, rfl, by omega, by omega, fun _ => by have := HSUM.out; rw [HSU.out] at this; omega, HB.out⟩
end Go.Proofs.YtmnncinpepeocaaGreat

namespace Go.Proofs.YtmnncinpepeocaaGreat
open Go.RowKit

/-- The mark m in a field. -/
def IT.mkV (i m : Nat) : Value := if i = 0 then .string (marks.mText m) else if i = 1 then .string (marks.mText m) else if i = 2 then .int .i64 ((m : Nat) : Int) else if i = 3 then .int .i64 ((m : Nat) : Int) else if i = 4 then .int .i64 ((m : Nat) : Int) else if i = 5 then .int .i64 ((m : Nat) : Int) else if i = 6 then .int .i64 ((m : Nat) : Int) else .int .i64 ((m : Nat) : Int)
/-- The marks from k on, in n of them. -/
def IT.marks (k n : Nat) : List Value := (List.range (n * 8)).map fun j => IT.mkV (j % 8) (k + j)
theorem IT.marks_length (k n : Nat) : (IT.marks k n).length = n * 8 := by simp [IT.marks]
theorem IT.marks_at (k n j : Nat) (h : j < n) : (IT.marks k n)[j * 8]? = some (.string (marks.mText (k + 8 * j))) ∧ (IT.marks k n)[j * 8 + 1]? = some (.string (marks.mText (k + 8 * j + 1))) ∧ (IT.marks k n)[j * 8 + 2]? = some (.int .i64 ((k + 8 * j + 2 : Nat) : Int)) ∧ (IT.marks k n)[j * 8 + 3]? = some (.int .i64 ((k + 8 * j + 3 : Nat) : Int)) ∧ (IT.marks k n)[j * 8 + 4]? = some (.int .i64 ((k + 8 * j + 4 : Nat) : Int)) ∧ (IT.marks k n)[j * 8 + 5]? = some (.int .i64 ((k + 8 * j + 5 : Nat) : Int)) ∧ (IT.marks k n)[j * 8 + 6]? = some (.int .i64 ((k + 8 * j + 6 : Nat) : Int)) ∧ (IT.marks k n)[j * 8 + 7]? = some (.int .i64 ((k + 8 * j + 7 : Nat) : Int)) := by
 have key : ∀ i, i < 8 → (IT.marks k n)[j * 8 + i]? = some (IT.mkV i (k + 8 * j + i)) := fun i hi => by
  have h1 : j * 8 + i < n * 8 := by omega
  simp only [IT.marks, List.getElem?_map, List.getElem?_range h1, Option.map_some]
  rw [show (j * 8 + i) % 8 = i by omega, show k + (j * 8 + i) = k + 8 * j + i by omega]
 exact ⟨key 0 (by omega), key 1 (by omega), key 2 (by omega), key 3 (by omega), key 4 (by omega), key 5 (by omega), key 6 (by omega), key 7 (by omega)⟩

set_option maxRecDepth 100000 in
set_option maxHeartbeats 2000000 in
theorem IT.mark_all (base : Nat) (v : Value) (k n : Nat) (xs : List Value) (w : World) (hown : w.ownsRow base 33 8 v n xs) (hn : n ≤ 1048577) (hk0 : 0 < k) (hk1 : k ≤ 1000000000) :
 Calls Tryz.prog 30 #[v, .int .i64 (k : Int)] w fun e w' => e = .returned (.int .i64 ((k + 8 * n : Nat) : Int)) ∧ w'.ownsRow base 33 8 v n (IT.marks k n) ∧ w.grownBy w' v.ownBlock := by
 have hxl : xs.length = n * 8 := hown.1
 have HO := Lib.hid hown
 rcases hown.2 with ⟨rfl, rfl⟩ | ⟨g, cap, cur, rfl, -⟩
 · have HX : Hid (xs = IT.marks k 0) := Lib.hid ((List.eq_nil_of_length_eq_zero (show xs.length = 0 by omega)).trans (by rfl))
   clear hown hxl
   go_enter Tryz.func30, Tryz.ntmps30
   go_wp2
   go_loop [1, 5] (fun q i => i = .int .i64 0 ∧ q = .int .i64 (k : Int)) (fun _ _ => 0)
   case atStart => exact ⟨rfl, rfl⟩
   case round =>
    obtain ⟨rfl, rfl⟩ := hrel
    go_wp2
    go_ret
    exact ⟨rfl, HX.out ▸ HO.out, World.grownBy.refl _ _⟩
 · have HS := Lib.hid (RowL.start (IT.marks_length k n) hown)
   clear hown hxl
   go_enter Tryz.func30, Tryz.ntmps30
   go_wp2
   go_loopw [1, 5] (fun q i wr => ∃ j : Nat, j ≤ n ∧ i = .int .i64 j ∧ q = .int .i64 ((k + 8 * j : Nat) : Int) ∧ Hid (RowL base 33 8 (IT.marks k n) xs g n cap (j * 8) wr) ∧ Hid (w.grownBy wr (some g))) (fun _ i _ => n - (intOf i).toNat)
   case atStart => exact ⟨0, Nat.zero_le _, rfl, rfl, by rw [Nat.zero_mul]; exact HS, Lib.hid (World.grownBy.refl _ _)⟩
   case round =>
    clear HO HS
    obtain ⟨j, hj, rfl, rfl, HO, HG⟩ := hrel
    by_cases hlt : j < n
    · have MA := Lib.hid (IT.marks_at k n j hlt)
      go_wp2_with fail
      refine (mark_textI _ (k + 8 * j) _ (by push_cast; omega) (by omega) (by omega)).mono ?_
      rintro e w1 ⟨rfl, hb1⟩
      generalize marks.mText (k + 8 * j) = m0 at *
      have HO1 := Lib.hid (RowL.keep HO.out hb1)
      have HG1 : Hid (w.grownBy w1 (some g)) := Lib.hid (World.grownBy.trans HG.out (grown_of_belowL hb1 _))
      clear HO HG hb1
      have HO := HO1
      have HG := HG1
      clear HO1 HG1
      obtain ⟨⟨u0, hu0⟩, hf0⟩ := HO.out.cell (j * 8) (by omega)
      go_wp2_with fail
      refine (mark_textI _ (k + 8 * j + 1) _ (by push_cast; omega) (by omega) (by omega)).mono ?_
      rintro e w2 ⟨rfl, hb1⟩
      generalize marks.mText (k + 8 * j + 1) = m1 at *
      have HO1 := Lib.hid (RowL.keep (RowL.set HO.out (by exact MA.out.1)) hb1)
      have HG1 : Hid (w.grownBy w2 (some g)) := Lib.hid (World.grownBy.trans (grown_setL HG.out) (grown_of_belowL hb1 _))
      clear HO HG hb1 hu0 hf0
      have HO := HO1
      have HG := HG1
      clear HO1 HG1
      obtain ⟨⟨u1, hu1⟩, hf1⟩ := HO.out.cell (j * 8 + 1) (by omega)
      obtain ⟨⟨u2, hu2⟩, hf2⟩ := HO.out.cell (j * 8 + 2) (by omega)
      obtain ⟨⟨u3, hu3⟩, hf3⟩ := HO.out.cell (j * 8 + 3) (by omega)
      obtain ⟨⟨u4, hu4⟩, hf4⟩ := HO.out.cell (j * 8 + 4) (by omega)
      obtain ⟨⟨u5, hu5⟩, hf5⟩ := HO.out.cell (j * 8 + 5) (by omega)
      obtain ⟨⟨u6, hu6⟩, hf6⟩ := HO.out.cell (j * 8 + 6) (by omega)
      obtain ⟨⟨u7, hu7⟩, hf7⟩ := HO.out.cell (j * 8 + 7) (by omega)
      go_wp2_with fail
      go_roundw
      case rel => exact ⟨j + 1, by omega, by go_num, by go_num, Lib.hid (by rw [show (j + 1) * 8 = j * 8 + 1 + 1 + 1 + 1 + 1 + 1 + 1 + 1 by omega]; exact (RowL.set (RowL.set (RowL.set (RowL.set (RowL.set (RowL.set (RowL.set HO.out (by exact MA.out.2.1)) (by exact (MA.out.2.2.1.trans (congrArg (fun z : Int => some (Value.int .i64 z)) (by push_cast; omega))))) (by exact (MA.out.2.2.2.1.trans (congrArg (fun z : Int => some (Value.int .i64 z)) (by push_cast; omega))))) (by exact (MA.out.2.2.2.2.1.trans (congrArg (fun z : Int => some (Value.int .i64 z)) (by push_cast; omega))))) (by exact (MA.out.2.2.2.2.2.1.trans (congrArg (fun z : Int => some (Value.int .i64 z)) (by push_cast; omega))))) (by exact (MA.out.2.2.2.2.2.2.1.trans (congrArg (fun z : Int => some (Value.int .i64 z)) (by push_cast; omega))))) (by exact (MA.out.2.2.2.2.2.2.2.trans (congrArg (fun z : Int => some (Value.int .i64 z)) (by push_cast; omega)))))), Lib.hid ((grown_setL (grown_setL (grown_setL (grown_setL (grown_setL (grown_setL (grown_setL HG.out))))))))⟩
      case measure => simp [intOf]; omega
    · have hjn : j = n := by omega
      have HE := Lib.hid (HO.out.done (by rw [hjn]))
      subst hjn
      go_wp2_with fail
      go_ret
      exact ⟨rfl, HE.out, HG.out⟩

/-- .. where the first mark is known as a number. -/
theorem IT.mark_allI (base : Nat) (v : Value) (x : Int) (k n : Nat) (xs : List Value) (w : World) (hx : x = (k : Int)) (hown : w.ownsRow base 33 8 v n xs) (hn : n ≤ 1048577) (hk0 : 0 < k) (hk1 : k ≤ 1000000000) :
 Calls Tryz.prog 30 #[v, .int .i64 x] w fun e w' => e = .returned (.int .i64 ((k + 8 * n : Nat) : Int)) ∧ w'.ownsRow base 33 8 v n (IT.marks k n) ∧ w.grownBy w' v.ownBlock := by
 subst hx
 exact IT.mark_all base v k n xs w hown hn hk0 hk1
/-- The marks from 1 on. -/
theorem IT.mark1 (base : Nat) (v : Value) (x : Int) (n : Nat) (xs : List Value) (w : World) (hx : x = 1) (hown : w.ownsRow base 33 8 v n xs) (hn : n ≤ 1048577) :
 Calls Tryz.prog 30 #[v, .int .i64 x] w fun e w' => e = .returned (.int .i64 ((1 + 8 * n : Nat) : Int)) ∧ w'.ownsRow base 33 8 v n (IT.marks 1 n) ∧ w.grownBy w' v.ownBlock := by
 subst hx
 exact IT.mark_all base v 1 n xs w hown hn (by decide) (by decide)
end Go.Proofs.YtmnncinpepeocaaGreat

namespace Go.Proofs.YtmnncinpepeocaaGreat
open Go.ChangeShapes Go.WideShapes Go.ChangeAt Go.RowKit Go.Joins

theorem IT.take {W : World} {a : Addr} {len cap : Nat} {xs : List IT} (hl : len ≤ cap) (hz : xs.length = cap)
 (hc : ∀ i, i < xs.length → W.cell? (a.add (i * 8)) = some (.string (xs.getD i default).code) ∧ W.cell? (a.add (i * 8 + 1)) = some (.string (xs.getD i default).unt) ∧ W.cell? (a.add (i * 8 + 2)) = some (.int .i64 (xs.getD i default).kind) ∧ W.cell? (a.add (i * 8 + 3)) = some (.int .i64 (xs.getD i default).lead) ∧ W.cell? (a.add (i * 8 + 4)) = some (.int .i64 (xs.getD i default).rule) ∧ W.cell? (a.add (i * 8 + 5)) = some (.int .i64 (xs.getD i default).lsz) ∧ W.cell? (a.add (i * 8 + 6)) = some (.int .i64 (xs.getD i default).safe) ∧ W.cell? (a.add (i * 8 + 7)) = some (.int .i64 (xs.getD i default).scr)) :
 IT.Is W (.slice (some a) len cap) (xs.take len) := by
 by_cases h0 : len = 0
 · subst h0
   exact Or.inl ⟨by simp, _, _, rfl⟩
 · have hp : 0 < xs.length := by omega
   obtain ⟨b, off, spot⟩ := a
   have hspot : spot = none := by simpa [Addr.add] using World.cell?_spot (hc 0 hp).1
   subst hspot
   have hlen : (xs.take len).length = len := by rw [List.length_take]; omega
   refine Or.inr ⟨by intro h; rw [h] at hlen; simp at hlen; omega, b, off, cap, by rw [hlen], by omega, ?_, ?_⟩
   · exact cell_blockL (a := ⟨b, off, none⟩) (hc 0 hp).1
   · intro j x hx
     have hj : j < len := by
      have := (List.getElem?_eq_some_iff.1 hx).1
      omega
     have h1 := hc j (by omega)
     rw [Addr.add_lit, Addr.add_lit, Addr.add_lit, Addr.add_lit, Addr.add_lit, Addr.add_lit, Addr.add_lit, Addr.add_lit] at h1
     rw [List.getElem?_take_of_lt hj] at hx
     rw [show xs.getD j default = x by rw [List.getD, hx]; rfl] at h1
     exact ⟨h1.1, by simpa [Nat.add_assoc] using h1.2.1, by simpa [Nat.add_assoc] using h1.2.2.1, by simpa [Nat.add_assoc] using h1.2.2.2.1, by simpa [Nat.add_assoc] using h1.2.2.2.2.1, by simpa [Nat.add_assoc] using h1.2.2.2.2.2.1, by simpa [Nat.add_assoc] using h1.2.2.2.2.2.2.1, by simpa [Nat.add_assoc] using h1.2.2.2.2.2.2.2⟩

theorem IT.cellsOf : Tryz.prog.cellsOf 98 = 8 := by kernel_rfl

set_option maxRecDepth 100000 in
theorem IT.opened {H : Type} {enc : TypeId × Value → H} {W : World} {n : Nat} {cs : List Value} {x : DataW H × List MemPlace} (h : DataW.trod enc Tryz.prog W 0 (fun _ => true) true n 98 cs = some x) :
 ∃ r : IT, cs = [.string r.code, .string r.unt, .int .i64 r.kind, .int .i64 r.lead, .int .i64 r.rule, .int .i64 r.lsz, .int .i64 r.safe, .int .i64 r.scr] ∧ IT.Sz r := by
 obtain ⟨xs, k, hk, hxy, hcl, hxl, hf⟩ := DataW.trod_struct Tryz.underlying98 h
 rw [IT.cellsOf] at hcl
 match cs, hcl with
 | [v0, v1, v2, v3, v4, v5, v6, v7], _ =>
  match xs, hxl with
  | [y0, y1, y2, y3, y4, y5, y6, y7], _ =>
   have g0 : DataW.trod enc Tryz.prog W 0 (fun _ => true) true k 9 (([v0, v1, v2, v3, v4, v5, v6, v7].drop 0).take (Tryz.prog.cellsOf 9)) = _ := hf 0 _ rfl
   have g1 : DataW.trod enc Tryz.prog W 0 (fun _ => true) true k 9 (([v0, v1, v2, v3, v4, v5, v6, v7].drop 1).take (Tryz.prog.cellsOf 9)) = _ := hf 1 _ rfl
   have g2 : DataW.trod enc Tryz.prog W 0 (fun _ => true) true k 3 (([v0, v1, v2, v3, v4, v5, v6, v7].drop 2).take (Tryz.prog.cellsOf 3)) = _ := hf 2 _ rfl
   have g3 : DataW.trod enc Tryz.prog W 0 (fun _ => true) true k 3 (([v0, v1, v2, v3, v4, v5, v6, v7].drop 3).take (Tryz.prog.cellsOf 3)) = _ := hf 3 _ rfl
   have g4 : DataW.trod enc Tryz.prog W 0 (fun _ => true) true k 3 (([v0, v1, v2, v3, v4, v5, v6, v7].drop 4).take (Tryz.prog.cellsOf 3)) = _ := hf 4 _ rfl
   have g5 : DataW.trod enc Tryz.prog W 0 (fun _ => true) true k 3 (([v0, v1, v2, v3, v4, v5, v6, v7].drop 5).take (Tryz.prog.cellsOf 3)) = _ := hf 5 _ rfl
   have g6 : DataW.trod enc Tryz.prog W 0 (fun _ => true) true k 3 (([v0, v1, v2, v3, v4, v5, v6, v7].drop 6).take (Tryz.prog.cellsOf 3)) = _ := hf 6 _ rfl
   have g7 : DataW.trod enc Tryz.prog W 0 (fun _ => true) true k 3 (([v0, v1, v2, v3, v4, v5, v6, v7].drop 7).take (Tryz.prog.cellsOf 3)) = _ := hf 7 _ rfl
   rw [show Tryz.prog.cellsOf 9 = 1 by kernel_rfl] at g0 g1
   rw [show Tryz.prog.cellsOf 3 = 1 by kernel_rfl] at g2 g3 g4 g5 g6 g7
   simp at g0 g1 g2 g3 g4 g5 g6 g7
   obtain ⟨s0, e0, _, z0⟩ := DataW.trod_string Tryz.underlying9 g0
   obtain ⟨s1, e1, _, z1⟩ := DataW.trod_string Tryz.underlying9 g1
   obtain ⟨s2, e2, _, _⟩ := DataW.trod_int Tryz.underlying3 g2
   obtain ⟨s3, e3, _, _⟩ := DataW.trod_int Tryz.underlying3 g3
   obtain ⟨s4, e4, _, _⟩ := DataW.trod_int Tryz.underlying3 g4
   obtain ⟨s5, e5, _, _⟩ := DataW.trod_int Tryz.underlying3 g5
   obtain ⟨s6, e6, _, _⟩ := DataW.trod_int Tryz.underlying3 g6
   obtain ⟨s7, e7, _, _⟩ := DataW.trod_int Tryz.underlying3 g7
   simp at e0 e1 e2 e3 e4 e5 e6 e7
   exact ⟨⟨s0, s1, s2, s3, s4, s5, s6, s7⟩, by rw [e0, e1, e2, e3, e4, e5, e6, e7], ⟨z0, z1⟩⟩

set_option maxRecDepth 100000 in
/-- One of them, passed by itself. -/
theorem IT.one_open {H : Type} {enc : TypeId × Value → H} {W : World} {base : Nat} {v : Value} {d : DataW H} {p : List MemPlace} (hv : Value.okWide Tryz.prog W .any base 98 v)
 (h0 : DataW.Trod enc Tryz.prog W 0 (fun _ => true) true 98 v d p) : ∃ x : IT, v = IT.val x ∧ IT.Sz x := by
 obtain ⟨cs, rfl, _⟩ := okWide_struct Tryz.underlying98 hv
 obtain ⟨fuel, hf⟩ := h0
 obtain ⟨r, hcs, hz⟩ := IT.opened hf
 have h1 : cs = _ := Array.toList_inj.1 hcs
 exact ⟨r, by rw [h1]; rfl, hz⟩

set_option maxRecDepth 100000 in
theorem IT.args_open {H : Type} {enc : TypeId × Value → H} {W : World} {base : Nat} {v : Value} {d : DataW H} {p : List MemPlace} (hv : Value.okWide Tryz.prog W .any base 43 v)
 (h0 : DataW.Trod enc Tryz.prog W 0 (fun _ => true) true 43 v d p) :
 ∃ xs : List IT, IT.Is W v xs ∧ xs.length ≤ maxLen ∧ ∀ r, r ∈ xs → IT.Sz r := by
 obtain ⟨a0, len, cap, rfl⟩ := okWide_slice Tryz.underlying43 hv
 obtain ⟨fuel, hf⟩ := h0
 rcases Go.Deep.open_slice Tryz.underlying43 hf with ⟨hcs, hx⟩ | ⟨a, len', cap', m, n, D, Pl, hcs, _, hl, hm, hmm, _, hi⟩
 · simp only [Value.cells, List.cons.injEq, Value.slice.injEq, and_true] at hcs
   obtain ⟨rfl, rfl, rfl⟩ := hcs
   exact ⟨[], Or.inl ⟨rfl, _, _, rfl⟩, Nat.zero_le _, fun r hr => by cases hr⟩
 · simp only [Value.cells, List.cons.injEq, Value.slice.injEq, and_true] at hcs
   obtain ⟨rfl, rfl, rfl⟩ := hcs
   rw [if_pos rfl] at hmm
   subst hmm
   have each : ∀ i, ∃ r : IT, i < m → (W.cell? (a.add (i * 8)) = some (.string r.code) ∧ W.cell? (a.add (i * 8 + 1)) = some (.string r.unt) ∧ W.cell? (a.add (i * 8 + 2)) = some (.int .i64 r.kind) ∧ W.cell? (a.add (i * 8 + 3)) = some (.int .i64 r.lead) ∧ W.cell? (a.add (i * 8 + 4)) = some (.int .i64 r.rule) ∧ W.cell? (a.add (i * 8 + 5)) = some (.int .i64 r.lsz) ∧ W.cell? (a.add (i * 8 + 6)) = some (.int .i64 r.safe) ∧ W.cell? (a.add (i * 8 + 7)) = some (.int .i64 r.scr)) ∧ IT.Sz r := by
    intro i
    by_cases hlt : i < m
    · obtain ⟨cs', h1, h2⟩ := hi i hlt
      rw [IT.cellsOf] at h1
      obtain ⟨r, rfl, z0⟩ := IT.opened h2
      obtain ⟨_, hlen, hcell⟩ := World.cells?_some h1
      have k0 := hcell 0 (by omega)
      have k1 := hcell 1 (by omega)
      have k2 := hcell 2 (by omega)
      have k3 := hcell 3 (by omega)
      have k4 := hcell 4 (by omega)
      have k5 := hcell 5 (by omega)
      have k6 := hcell 6 (by omega)
      have k7 := hcell 7 (by omega)
      rw [Go.Deep.add_add] at k0 k1 k2 k3 k4 k5 k6 k7
      exact ⟨r, fun _ => ⟨⟨by simpa using k0, by simpa using k1, by simpa using k2, by simpa using k3, by simpa using k4, by simpa using k5, by simpa using k6, by simpa using k7⟩, z0⟩⟩
    · exact ⟨default, fun h => absurd h hlt⟩
   obtain ⟨q, hq⟩ : ∃ q : Nat → IT, ∀ i, i < m → (W.cell? (a.add (i * 8)) = some (.string (q i).code) ∧ W.cell? (a.add (i * 8 + 1)) = some (.string (q i).unt) ∧ W.cell? (a.add (i * 8 + 2)) = some (.int .i64 (q i).kind) ∧ W.cell? (a.add (i * 8 + 3)) = some (.int .i64 (q i).lead) ∧ W.cell? (a.add (i * 8 + 4)) = some (.int .i64 (q i).rule) ∧ W.cell? (a.add (i * 8 + 5)) = some (.int .i64 (q i).lsz) ∧ W.cell? (a.add (i * 8 + 6)) = some (.int .i64 (q i).safe) ∧ W.cell? (a.add (i * 8 + 7)) = some (.int .i64 (q i).scr)) ∧ IT.Sz (q i) :=
    ⟨fun i => Classical.choose (each i), fun i hlt => Classical.choose_spec (each i) hlt⟩
   refine ⟨((List.range m).map q).take len, IT.take hl (by simp) (fun i hlt => ?_), ?_, ?_⟩
   · have hlt' : i < m := by simpa using hlt
     have e : ((List.range m).map q).getD i default = q i := by simp [List.getD, hlt']
     rw [e]
     exact (hq i hlt').1
   · exact Nat.le_trans (List.length_take_le _ _) (Nat.le_trans hl hm)
   · intro r hr
     obtain ⟨i, hi', rfl⟩ := List.mem_map.1 (List.mem_of_mem_take hr)
     exact (hq i (List.mem_range.1 hi')).2
end Go.Proofs.YtmnncinpepeocaaGreat
