/-
  The verifier's own helpers on rules: equal ones are found equal, and how large they are.
-/
import Derived.Test.YtaomjggamamckaaRows
import Derived.Test.YtaomjggamamckaaRules
import Derived.Test.YtaomjggamamckaaRatM
import Derived.Test.YtaomjggamamckaaFind
import Derived.Test.YtaomjggamamckaaHold
import Derived.WalkKit
import Derived.WalkSpells
import Derived.WalkSmall
import Derived.BigQuiet
import Derived.Deep.DeepCutAuto
import Derived.Deep.QuietTactic
import Derived.Deep.RegionHeld3
import Derived.Lib.Hide
namespace Go.Proofs.Ytaomjggamamckaa
open Go.RowKit

set_option maxRecDepth 100000 in
set_option maxHeartbeats 1000000 in
theorem eq_unit (r : UR) (w : World) :
    Calls Try.prog 54 #[urV r, urV r] w fun e w' => e = .returned (.bool true) ∧ Below w.heap.size w w' := by
  obtain ⟨src, dst, num, den⟩ := r
  unfold urV
  have b1 := str_eq (rfl : src = src)
  have b2 := str_eq (rfl : dst = dst)
  go_enter Try.func54, Try.ntmps54
  go_wp2_with fail
  refine (rat.eq_ratio num den _).mono ?_
  rintro e w2 ⟨rfl, hb⟩
  go_wp2_with fail
  go_ret
  exact ⟨rfl, (((Below.refl _ _).alloc (Nat.le_refl _) _).alloc (by simp) _).trans (hb.mono (by simp; omega))⟩

set_option maxRecDepth 100000 in
set_option maxHeartbeats 1000000 in
theorem eq_units (v v' : Value) (rs : List UR) (w : World) (h : Rules w v rs) (h' : Rules w v' rs) (hm : rs.length ≤ 1048577) :
    Calls Try.prog 26 #[v, v'] w fun e w' => e = .returned (.bool true) ∧ Below w.heap.size w w' := by
  have HX := Lib.hid h
  have HY := Lib.hid h'
  obtain ⟨a, c, rfl⟩ := h.slice
  obtain ⟨a', c', rfl⟩ := h'.slice
  have hnn : ((rs.length : Int) != (rs.length : Int)) = false := by simp
  clear h h'
  go_enter Try.func26, Try.ntmps26
  go_wp2
  go_loopw [5] (fun i wr => ∃ k : Nat, k ≤ rs.length ∧ i = .int .i64 k ∧ Below w.heap.size w wr) (fun i _ => rs.length - (intOf i).toNat)
  case atStart => exact ⟨0, Nat.zero_le _, rfl, Below.refl _ _⟩
  case round =>
    obtain ⟨k, hk, rfl, hb⟩ := hrel
    have HB := Lib.hid hb
    clear hb
    by_cases hlt : k < rs.length
    · obtain ⟨b2, o2, c2, hv2, hc2, hcell2⟩ := HX.out.some (by omega)
      simp only [Value.slice.injEq] at hv2
      obtain ⟨rfl, _, rfl⟩ := hv2
      obtain ⟨b3, o3, c3, hv3, hc3, hcell3⟩ := HY.out.some (by omega)
      simp only [Value.slice.injEq] at hv3
      obtain ⟨rfl, _, rfl⟩ := hv3
      obtain ⟨e1, e2, e3, e4⟩ := (hcell2.below HB.out).at k hlt
      obtain ⟨e5, e6, e7, e8⟩ := (hcell3.below HB.out).at k hlt
      clear hcell2 hcell3
      have HLT := Lib.hid hlt
      generalize rs[k]'hlt = x at *
      have HP : Hid (∀ W, Calls Try.prog 54 #[.agg #[.string x.src, .string x.dst, .int .i64 x.num, .int .i64 x.den], .agg #[.string x.src, .string x.dst, .int .i64 x.num, .int .i64 x.den]] W fun e w' => e = .returned (.bool true) ∧ Below W.heap.size W w') := Lib.hid (fun W => eq_unit x W)
      go_upto_region 6 with fail
      go_region_held3 (fun W' => Hid (Below wr.heap.size wr W') ∧ W'.cell? ⟨b2, o2 + k * 4, none⟩ = some (.string x.src) ∧ W'.cell? ⟨b2, o2 + k * 4 + 1, none⟩ = some (.string x.dst) ∧ W'.cell? ⟨b2, o2 + k * 4 + 2, none⟩ = some (.int .i64 x.num) ∧ W'.cell? ⟨b2, o2 + k * 4 + 3, none⟩ = some (.int .i64 x.den) ∧ W'.cell? ⟨b3, o3 + k * 4, none⟩ = some (.string x.src) ∧ W'.cell? ⟨b3, o3 + k * 4 + 1, none⟩ = some (.string x.dst) ∧ W'.cell? ⟨b3, o3 + k * 4 + 2, none⟩ = some (.int .i64 x.num) ∧ W'.cell? ⟨b3, o3 + k * 4 + 3, none⟩ = some (.int .i64 x.den))
        (first | assumption | exact hold8 e1 e2 e3 e4 e5 e6 e7 e8 (hold_call (by assumption) (by assumption)) | exact hold8 e1 e2 e3 e4 e5 e6 e7 e8 (Below.refl _ _).drew)
        (first | (go_at_call 54; refine (HP.out _).mono ?_; rintro e w' ⟨rfl, hb⟩; have hle := hold_le (by assumption) hb))
      all_goals
        go_wp2_with fail
        go_roundw
        case rel => exact ⟨k + 1, by have := HLT.out; omega, by go_num, HB.out.trans ((by assumption : Hid (Below wr.heap.size wr _) ∧ _).1.out.mono HB.out.size)⟩
        case measure => have := HLT.out; simp [intOf]; omega
    · go_wp2
      go_ret
      exact ⟨rfl, HB.out⟩

/-- How large a rule is. -/
def bytesR (r : UR) : Nat := r.src.size + r.dst.size
def bytesU (rs : List UR) : Nat := (rs.map bytesR).sum
theorem bytesU_succ {rs : List UR} {k : Nat} (hk : k < rs.length) : bytesU (rs.take (k + 1)) = bytesU (rs.take k) + bytesR (rs[k]'hk) := by
  unfold bytesU
  rw [List.take_succ_eq_append_getElem hk, List.map_append, List.sum_append]
  simp
theorem bytesU_all {rs : List UR} {k : Nat} (hk : rs.length ≤ k) : bytesU (rs.take k) = bytesU rs := by rw [List.take_of_length_le hk]
/-- What is left behind a rule. -/
def leftR (r : UR) (left : Int) : Int := if left < bytesR r then -1 else left - bytesR r

set_option maxRecDepth 100000 in
set_option maxHeartbeats 1000000 in
theorem sz_unit (r : UR) (left : Int) (w : World) (h0 : 0 ≤ left) (h1 : left ≤ 1048576) (hs : r.src.size ≤ maxLen ∧ r.dst.size ≤ maxLen) :
    Calls Try.prog 49 #[urV r, .int .i64 left] w fun e w' => e = .returned (.int .i64 (leftR r left)) ∧ Below w.heap.size w w' := by
  obtain ⟨src, dst, num, den⟩ := r
  unfold urV
  have hz : src.size ≤ maxLen := hs.1
  have hz2 : dst.size ≤ maxLen := hs.2
  unfold maxLen at hz hz2
  have HB : Below w.heap.size w (w.alloc (.cells #[.string src, .string dst, .int .i64 num, .int .i64 den] 76)) := (Below.refl _ _).alloc (Nat.le_refl _) _
  by_cases ha : left < src.size
  · have HY : Hid (leftR ⟨src, dst, num, den⟩ left = -1) := Lib.hid (if_pos (by show left < ((src.size + dst.size : Nat) : Int); omega))
    go_enter Try.func49, Try.ntmps49
    go_wp2_with fail
    go_ret
    exact ⟨by rw [HY.out]; rfl, HB⟩
  · by_cases hb : left < src.size + dst.size
    · have HY : Hid (leftR ⟨src, dst, num, den⟩ left = -1) := Lib.hid (if_pos (by show left < ((src.size + dst.size : Nat) : Int); omega))
      go_enter Try.func49, Try.ntmps49
      go_wp2_with fail
      go_ret
      exact ⟨by rw [HY.out]; rfl, HB⟩
    · have HY : Hid (leftR ⟨src, dst, num, den⟩ left = left - src.size - dst.size) := Lib.hid (by
        unfold leftR bytesR
        rw [if_neg (by show ¬left < ((src.size + dst.size : Nat) : Int); omega)]
        show left - ((src.size + dst.size : Nat) : Int) = _
        omega)
      go_enter Try.func49, Try.ntmps49
      go_wp2_with fail
      go_ret
      exact ⟨by rw [HY.out]; rfl, HB⟩

/-- What szUnitRuleS answers. -/
def SzU (rs : List UR) (left : Int) (w : World) (e : Ending) (w' : World) : Prop := ∃ r : Int, e = .returned (.int .i64 r) ∧ -1 ≤ r ∧ r ≤ 1048576 ∧ (0 ≤ r → (rs.length : Int) + bytesU rs ≤ left) ∧ Below w.heap.size w w'

set_option maxRecDepth 100000 in
set_option maxHeartbeats 1000000 in
theorem sz_units (v : Value) (rs : List UR) (left : Int) (w : World) (h : Rules w v rs) (h0 : 0 ≤ left) (h1 : left ≤ 1048576) (hm : rs.length ≤ maxLen) (hs : ∀ r, r ∈ rs → r.src.size ≤ maxLen ∧ r.dst.size ≤ maxLen) :
    Calls Try.prog 22 #[v, .int .i64 left] w (SzU rs left w) := by
  unfold maxLen at hm
  have HX := Lib.hid h
  have HS := Lib.hid hs
  obtain ⟨a, c, rfl⟩ := h.slice
  clear h hs
  by_cases hb : left < rs.length
  · go_enter Try.func22, Try.ntmps22
    go_wp2_with fail
    go_ret
    exact ⟨-1, rfl, by omega, by omega, by omega, Below.refl _ _⟩
  · go_enter Try.func22, Try.ntmps22
    go_wp2_with fail
    go_loopw [1, 5] (fun t i wr => ∃ (k : Nat) (m : Int), k ≤ rs.length ∧ i = .int .i64 k ∧ t = .int .i64 m ∧ 0 ≤ m ∧ m ≤ 1048576 ∧ Hid (m + rs.length + bytesU (rs.take k) ≤ left) ∧ Hid (Below w.heap.size w wr)) (fun _ i _ => rs.length - (intOf i).toNat)
    case atStart => exact ⟨0, left - rs.length, Nat.zero_le _, rfl, rfl, by omega, by omega, Lib.hid (by simp [bytesU]), Lib.hid (Below.refl _ _)⟩
    case round =>
      obtain ⟨k, m, hk, rfl, rfl, hm0, hm1, HSUM, HB⟩ := hrel
      by_cases hlt : k < rs.length
      · obtain ⟨b2, o2, c2, hv2, hc2, hcell2⟩ := HX.out.some (by omega)
        simp only [Value.slice.injEq] at hv2
        obtain ⟨rfl, _, rfl⟩ := hv2
        obtain ⟨e1, e2, e3, e4⟩ := (hcell2.below HB.out).at k hlt
        have HSU := Lib.hid (bytesU_succ hlt)
        have hz := Lib.hid (HS.out _ (List.getElem_mem hlt))
        generalize rs[k]'hlt = x at *
        have HP := Lib.hid (sz_unit x m wr hm0 hm1 hz.out)
        unfold urV at HP
        clear hcell2 hc2
        by_cases hn : m < bytesR x
        · have HL : Hid (leftR x m = -1) := Lib.hid (if_pos hn)
          clear hn
          go_wp2_with fail
          refine HP.out.mono ?_
          rintro e w2 ⟨rfl, hb2⟩
          rw [HL.out]
          go_wp2_with fail
          go_ret
          exact ⟨-1, rfl, by omega, by omega, by omega, HB.out.trans (hb2.mono HB.out.size)⟩
        · have HL : Hid (leftR x m = m - bytesR x) := Lib.hid (if_neg hn)
          obtain ⟨z, hz2⟩ : ∃ z : Int, m - bytesR x = z := ⟨_, rfl⟩
          have hz0 : 0 ≤ z ∧ z ≤ 1048576 := by omega
          rw [hz2] at HL
          have HZ := Lib.hid hz2
          clear hn hz2
          go_wp2_with fail
          refine HP.out.mono ?_
          rintro e w2 ⟨rfl, hb2⟩
          rw [HL.out]
          go_wp2_with fail
          go_roundw
          case rel => exact ⟨k + 1, z, by omega, by go_num, rfl, hz0.1, hz0.2, Lib.hid (by rw [HSU.out]; have h9 := HSUM.out; have h8 := HZ.out; push_cast; omega), Lib.hid (HB.out.trans (hb2.mono HB.out.size))⟩
          case measure => simp [intOf]; omega
      · have HSU := Lib.hid (bytesU_all (Nat.le_of_not_lt hlt))
        go_wp2_with fail
        go_ret
        exact ⟨m, rfl, by omega, by omega, fun _ => by have := HSUM.out; rw [HSU.out] at this; omega, HB.out⟩
end Go.Proofs.Ytaomjggamamckaa
