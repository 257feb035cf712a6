/-
  The verifier's own helpers on Step: equal ones are found equal, and how large they are.
-/
import Derived.Test.YtfcgdhedaefonaaRows
import Derived.Test.YtfcgdhedaefonaaRecLib
import Derived.Test.YtfcgdhedaefonaaSTRec
import Derived.Test.YtfcgdhedaefonaaHold
import Derived.Test.YtfcgdhedaefonaaStrQ
import Derived.Test.YtfcgdhedaefonaaHoldMore
import Derived.WalkKit
import Derived.WalkSpells
import Derived.WalkSmall
import Derived.BigQuiet
import Derived.Deep.QuietTactic
import Derived.Deep.DeepCutAuto
import Derived.Deep.RegionHeld3
import Derived.Laws.OwnMore
import Derived.Lib.Hide
namespace Go.Proofs.Ytfcgdhedaefonaa
open Go.RowKit

set_option maxRecDepth 100000 in
set_option maxHeartbeats 1000000 in
theorem ST.eq_one (r : ST) (w : World) :
    Calls Try.prog 66 #[ST.val r, ST.val r] w fun e w' => e = .returned (.bool true) ∧ Below w.heap.size w w' := by
  obtain ⟨cen, stu, run⟩ := r
  unfold ST.val
  have b0 := str_eq (rfl : cen = cen)
  have b1 : (stu != stu) = false := by simp
  have b2 : (run != run) = false := by simp
  go_enter Try.func66, Try.ntmps66
  go_wp2_with fail
  go_ret
  exact ⟨rfl, ((Below.refl _ _).alloc (Nat.le_refl _) _).alloc (by simp) _⟩

set_option maxRecDepth 100000 in
set_option maxHeartbeats 1000000 in
theorem ST.eq_all (v v' : Value) (xs : List ST) (w : World) (h : ST.Is w v xs) (h' : ST.Is w v' xs) (hm : xs.length ≤ 1048577) :
    Calls Try.prog 57 #[v, v'] w fun e w' => e = .returned (.bool true) ∧ Below w.heap.size w w' := by
  have HX := Lib.hid h
  have HY := Lib.hid h'
  obtain ⟨a, c, rfl⟩ := h.slice
  obtain ⟨a', c', rfl⟩ := h'.slice
  have hnn : ((xs.length : Int) != (xs.length : Int)) = false := by simp
  clear h h'
  go_enter Try.func57, Try.ntmps57
  go_wp2
  go_loopw [5] (fun i wr => ∃ k : Nat, k ≤ xs.length ∧ i = .int .i64 k ∧ Below w.heap.size w wr) (fun i _ => xs.length - (intOf i).toNat)
  case atStart => exact ⟨0, Nat.zero_le _, rfl, Below.refl _ _⟩
  case round =>
    obtain ⟨k, hk, rfl, hb⟩ := hrel
    have HB := Lib.hid hb
    clear hb
    by_cases hlt : k < xs.length
    · obtain ⟨b2, o2, c2, hv2, hc2, hcell2⟩ := HX.out.some (by omega)
      simp only [Value.slice.injEq] at hv2
      obtain ⟨rfl, _, rfl⟩ := hv2
      obtain ⟨b3, o3, c3, hv3, hc3, hcell3⟩ := HY.out.some (by omega)
      simp only [Value.slice.injEq] at hv3
      obtain ⟨rfl, _, rfl⟩ := hv3
      obtain ⟨e1, e2, e3⟩ := (hcell2.below HB.out).at k hlt
      obtain ⟨e4, e5, e6⟩ := (hcell3.below HB.out).at k hlt
      clear hcell2 hcell3
      have HLT := Lib.hid hlt
      generalize xs[k]'hlt = x at *
      have HP : Hid (∀ W, Calls Try.prog 66 #[.agg #[.string x.cen, .int .i64 x.stu, .int .i64 x.run], .agg #[.string x.cen, .int .i64 x.stu, .int .i64 x.run]] W fun e w' => e = .returned (.bool true) ∧ Below W.heap.size W w') := Lib.hid (fun W => ST.eq_one x W)
      go_upto_region 6 with fail
      go_region_held3 (fun W' => Hid (Below wr.heap.size wr W') ∧ W'.cell? ⟨b2, o2 + k * 3, none⟩ = some (.string x.cen) ∧ W'.cell? ⟨b2, o2 + k * 3 + 1, none⟩ = some (.int .i64 x.stu) ∧ W'.cell? ⟨b2, o2 + k * 3 + 2, none⟩ = some (.int .i64 x.run) ∧ W'.cell? ⟨b3, o3 + k * 3, none⟩ = some (.string x.cen) ∧ W'.cell? ⟨b3, o3 + k * 3 + 1, none⟩ = some (.int .i64 x.stu) ∧ W'.cell? ⟨b3, o3 + k * 3 + 2, none⟩ = some (.int .i64 x.run))
        (first | assumption | exact hold6 e1 e2 e3 e4 e5 e6 (hold_call (by assumption) (by assumption)) | exact hold6 e1 e2 e3 e4 e5 e6 (Below.refl _ _).drew)
        (first | (go_at_call 66; refine (HP.out _).mono ?_; rintro e w' ⟨rfl, hb⟩; have hle := hold_le (by assumption) hb))
      all_goals
        go_wp2_with fail
        go_roundw
        case rel => exact ⟨k + 1, by have := HLT.out; omega, by go_num, HB.out.trans ((by assumption : Hid (Below wr.heap.size wr _) ∧ _).1.out.mono HB.out.size)⟩
        case measure => have := HLT.out; simp [intOf]; omega
    · go_wp2
      go_ret
      exact ⟨rfl, HB.out⟩

/-- How large one is. -/
def ST.bytes (r : ST) : Nat := r.cen.size
def ST.bytesS (xs : List ST) : Nat := (xs.map ST.bytes).sum
theorem ST.bytesS_succ {xs : List ST} {k : Nat} (hk : k < xs.length) : ST.bytesS (xs.take (k + 1)) = ST.bytesS (xs.take k) + ST.bytes (xs[k]'hk) := by
  unfold ST.bytesS
  rw [List.take_succ_eq_append_getElem hk, List.map_append, List.sum_append]
  simp
theorem ST.bytesS_all {xs : List ST} {k : Nat} (hk : xs.length ≤ k) : ST.bytesS (xs.take k) = ST.bytesS xs := by rw [List.take_of_length_le hk]
/-- What is left behind one. -/
def ST.left (r : ST) (left : Int) : Int := if left < ST.bytes r then -1 else left - ST.bytes r

set_option maxRecDepth 100000 in
set_option maxHeartbeats 1000000 in
theorem ST.sz_one (r : ST) (left : Int) (w : World) (h0 : 0 ≤ left) (h1 : left ≤ 1048576) (hs : ST.Sz r) :
    Calls Try.prog 21 #[ST.val r, .int .i64 left] w fun e w' => e = .returned (.int .i64 (ST.left r left)) ∧ Below w.heap.size w w' := by
  obtain ⟨cen, stu, run⟩ := r
  unfold ST.val
  unfold ST.Sz maxLen at hs
  simp only at hs
  have hz0 : cen.size ≤ _ := hs
  have HB : Below w.heap.size w (w.alloc (.cells #[.string cen, .int .i64 stu, .int .i64 run] 35)) := (Below.refl _ _).alloc (Nat.le_refl _) _
  by_cases hc0 : left < (cen.size : Int)
  · have HY : Hid (ST.left ⟨cen, stu, run⟩ left = -1) := Lib.hid (if_pos (by show left < ((cen.size : Nat) : Int); omega))
    go_enter Try.func21, Try.ntmps21
    go_wp2_with fail
    go_ret
    exact ⟨by rw [HY.out]; rfl, HB⟩
  have HY : Hid (ST.left ⟨cen, stu, run⟩ left = left - cen.size) := Lib.hid (by
    unfold ST.left ST.bytes
    rw [if_neg (by show ¬left < ((cen.size : Nat) : Int); omega)]
    all_goals (show left - ((cen.size : Nat) : Int) = _; omega))
  go_enter Try.func21, Try.ntmps21
  go_wp2_with fail
  go_ret
  exact ⟨by rw [HY.out]; rfl, HB⟩

/-- What the size of a slice answers. -/
def ST.SzS (xs : List ST) (left : Int) (w : World) (e : Ending) (w' : World) : Prop := ∃ r : Int, e = .returned (.int .i64 r) ∧ -1 ≤ r ∧ r ≤ 1048576 ∧ (0 ≤ r → r + (xs.length : Int) + ST.bytesS xs ≤ left) ∧ Below w.heap.size w w'

set_option maxRecDepth 100000 in
set_option maxHeartbeats 1000000 in
theorem ST.sz_all (v : Value) (xs : List ST) (left : Int) (w : World) (h : ST.Is w v xs) (h0 : 0 ≤ left) (h1 : left ≤ 1048576) (hm : xs.length ≤ maxLen) (hs : ∀ r, r ∈ xs → ST.Sz r) :
    Calls Try.prog 53 #[v, .int .i64 left] w (ST.SzS xs left w) := by
  unfold maxLen at hm
  have HX := Lib.hid h
  have HS := Lib.hid hs
  obtain ⟨a, c, rfl⟩ := h.slice
  clear h hs
  by_cases hb : left < xs.length
  · go_enter Try.func53, Try.ntmps53
    go_wp2_with fail
    go_ret
    exact ⟨-1, rfl, by omega, by omega, by omega, Below.refl _ _⟩
  · go_enter Try.func53, Try.ntmps53
    go_wp2_with fail
    go_loopw [1, 5] (fun t i wr => ∃ (k : Nat) (m : Int), k ≤ xs.length ∧ i = .int .i64 k ∧ t = .int .i64 m ∧ 0 ≤ m ∧ m ≤ 1048576 ∧ Hid (m + xs.length + ST.bytesS (xs.take k) ≤ left) ∧ Hid (Below w.heap.size w wr)) (fun _ i _ => xs.length - (intOf i).toNat)
    case atStart => exact ⟨0, left - xs.length, Nat.zero_le _, rfl, rfl, by omega, by omega, Lib.hid (by simp [ST.bytesS]), Lib.hid (Below.refl _ _)⟩
    case round =>
      obtain ⟨k, m, hk, rfl, rfl, hm0, hm1, HSUM, HB⟩ := hrel
      by_cases hlt : k < xs.length
      · obtain ⟨b2, o2, c2, hv2, hc2, hcell2⟩ := HX.out.some (by omega)
        simp only [Value.slice.injEq] at hv2
        obtain ⟨rfl, _, rfl⟩ := hv2
        obtain ⟨e1, e2, e3⟩ := (hcell2.below HB.out).at k hlt
        have HSU := Lib.hid (ST.bytesS_succ hlt)
        have hz := Lib.hid (HS.out _ (List.getElem_mem hlt))
        generalize xs[k]'hlt = x at *
        have HP := Lib.hid (ST.sz_one x m wr hm0 hm1 hz.out)
        unfold ST.val at HP
        clear hcell2 hc2
        by_cases hn : m < ST.bytes x
        · have HL : Hid (ST.left x m = -1) := Lib.hid (if_pos hn)
          clear hn
          go_wp2_with fail
          refine HP.out.mono ?_
          rintro e w2 ⟨rfl, hb2⟩
          rw [HL.out]
          go_wp2_with fail
          go_ret
          exact ⟨-1, rfl, by omega, by omega, by omega, HB.out.trans (hb2.mono HB.out.size)⟩
        · have HL : Hid (ST.left x m = m - ST.bytes x) := Lib.hid (if_neg hn)
          obtain ⟨z, hz2⟩ : ∃ z : Int, m - ST.bytes x = z := ⟨_, rfl⟩
          have hz0 : 0 ≤ z ∧ z ≤ 1048576 := by omega
          rw [hz2] at HL
          have HZ := Lib.hid hz2
          clear hn hz2
          go_wp2_with fail
          refine HP.out.mono ?_
          rintro e w2 ⟨rfl, hb2⟩
          rw [HL.out]
          go_wp2_with fail
          go_roundw
          case rel => exact ⟨k + 1, z, by omega, by go_num, rfl, hz0.1, hz0.2, Lib.hid (by rw [HSU.out]; have h9 := HSUM.out; have h8 := HZ.out; push_cast; omega), Lib.hid (HB.out.trans (hb2.mono HB.out.size))⟩
          case measure => simp [intOf]; omega
      · have HSU := Lib.hid (ST.bytesS_all (Nat.le_of_not_lt hlt))
        go_wp2_with fail
        go_ret
        exact ⟨m, rfl, by omega, by omega, fun _ => by have := HSUM.out; rw [HSU.out] at this; omega, HB.out⟩
end Go.Proofs.Ytfcgdhedaefonaa
