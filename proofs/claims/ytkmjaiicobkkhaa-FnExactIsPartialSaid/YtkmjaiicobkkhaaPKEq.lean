/-
  The verifier's own helpers on Pick: equal ones are found equal, and how large they are.
-/
import Derived.Test.YtkmjaiicobkkhaaRows
import Derived.Test.YtkmjaiicobkkhaaRecLib
import Derived.Test.YtkmjaiicobkkhaaPKRec
import Derived.Test.YtkmjaiicobkkhaaHold
import Derived.Test.YtkmjaiicobkkhaaFind
import Derived.WalkKit
import Derived.WalkSpells
import Derived.WalkSmall
import Derived.BigQuiet
import Derived.Deep.QuietTactic
import Derived.Deep.DeepCutAuto
import Derived.Deep.RegionHeld3
import Derived.Laws.OwnMore
import Derived.Lib.Hide
namespace Go.Proofs.Ytkmjaiicobkkhaa
open Go.RowKit

set_option maxRecDepth 100000 in
set_option maxHeartbeats 1000000 in
theorem PK.eq_one (r : PK) (w : World) :
    Calls Try.prog 85 #[PK.val r, PK.val r] w fun e w' => e = .returned (.bool true) ∧ Below w.heap.size w w' := by
  obtain ⟨opt, vl⟩ := r
  unfold PK.val
  have b0 := str_eq (rfl : opt = opt)
  have b1 := str_eq (rfl : vl = vl)
  go_enter Try.func85, Try.ntmps85
  go_wp2_with fail
  go_ret
  exact ⟨rfl, ((Below.refl _ _).alloc (Nat.le_refl _) _).alloc (by simp) _⟩

set_option maxRecDepth 100000 in
set_option maxHeartbeats 1000000 in
theorem PK.eq_all (v v' : Value) (xs : List PK) (w : World) (h : PK.Is w v xs) (h' : PK.Is w v' xs) (hm : xs.length ≤ 1048577) :
    Calls Try.prog 38 #[v, v'] w fun e w' => e = .returned (.bool true) ∧ Below w.heap.size w w' := by
  have HX := Lib.hid h
  have HY := Lib.hid h'
  obtain ⟨a, c, rfl⟩ := h.slice
  obtain ⟨a', c', rfl⟩ := h'.slice
  have hnn : ((xs.length : Int) != (xs.length : Int)) = false := by simp
  clear h h'
  go_enter Try.func38, Try.ntmps38
  go_wp2
  go_loopw [5] (fun i wr => ∃ k : Nat, k ≤ xs.length ∧ i = .int .i64 k ∧ Below w.heap.size w wr) (fun i _ => xs.length - (intOf i).toNat)
  case atStart => exact ⟨0, Nat.zero_le _, rfl, Below.refl _ _⟩
  case round =>
    obtain ⟨k, hk, rfl, hb⟩ := hrel
    have HB := Lib.hid hb
    clear hb
    by_cases hlt : k < xs.length
    · obtain ⟨b2, o2, c2, hv2, hc2, hcell2⟩ := HX.out.some (by omega)
      simp only [Value.slice.injEq] at hv2
      obtain ⟨rfl, _, rfl⟩ := hv2
      obtain ⟨b3, o3, c3, hv3, hc3, hcell3⟩ := HY.out.some (by omega)
      simp only [Value.slice.injEq] at hv3
      obtain ⟨rfl, _, rfl⟩ := hv3
      obtain ⟨e1, e2⟩ := (hcell2.below HB.out).at k hlt
      obtain ⟨e3, e4⟩ := (hcell3.below HB.out).at k hlt
      clear hcell2 hcell3
      have HLT := Lib.hid hlt
      generalize xs[k]'hlt = x at *
      have HP : Hid (∀ W, Calls Try.prog 85 #[.agg #[.string x.opt, .string x.vl], .agg #[.string x.opt, .string x.vl]] W fun e w' => e = .returned (.bool true) ∧ Below W.heap.size W w') := Lib.hid (fun W => PK.eq_one x W)
      go_upto_region 6 with fail
      go_region_held3 (fun W' => Hid (Below wr.heap.size wr W') ∧ W'.cell? ⟨b2, o2 + k * 2, none⟩ = some (.string x.opt) ∧ W'.cell? ⟨b2, o2 + k * 2 + 1, none⟩ = some (.string x.vl) ∧ W'.cell? ⟨b3, o3 + k * 2, none⟩ = some (.string x.opt) ∧ W'.cell? ⟨b3, o3 + k * 2 + 1, none⟩ = some (.string x.vl))
        (first | assumption | exact hold4 e1 e2 e3 e4 (hold_call (by assumption) (by assumption)) | exact hold4 e1 e2 e3 e4 (Below.refl _ _).drew)
        (first | (go_at_call 85; refine (HP.out _).mono ?_; rintro e w' ⟨rfl, hb⟩; have hle := hold_le (by assumption) hb))
      all_goals
        go_wp2_with fail
        go_roundw
        case rel => exact ⟨k + 1, by have := HLT.out; omega, by go_num, HB.out.trans ((by assumption : Hid (Below wr.heap.size wr _) ∧ _).1.out.mono HB.out.size)⟩
        case measure => have := HLT.out; simp [intOf]; omega
    · go_wp2
      go_ret
      exact ⟨rfl, HB.out⟩

/-- How large one is. -/
def PK.bytes (r : PK) : Nat := r.opt.size + r.vl.size
def PK.bytesS (xs : List PK) : Nat := (xs.map PK.bytes).sum
theorem PK.bytesS_succ {xs : List PK} {k : Nat} (hk : k < xs.length) : PK.bytesS (xs.take (k + 1)) = PK.bytesS (xs.take k) + PK.bytes (xs[k]'hk) := by
  unfold PK.bytesS
  rw [List.take_succ_eq_append_getElem hk, List.map_append, List.sum_append]
  simp
theorem PK.bytesS_all {xs : List PK} {k : Nat} (hk : xs.length ≤ k) : PK.bytesS (xs.take k) = PK.bytesS xs := by rw [List.take_of_length_le hk]
/-- What is left behind one. -/
def PK.left (r : PK) (left : Int) : Int := if left < PK.bytes r then -1 else left - PK.bytes r

set_option maxRecDepth 100000 in
set_option maxHeartbeats 1000000 in
theorem PK.sz_one (r : PK) (left : Int) (w : World) (h0 : 0 ≤ left) (h1 : left ≤ 1048576) (hs : PK.Sz r) :
    Calls Try.prog 80 #[PK.val r, .int .i64 left] w fun e w' => e = .returned (.int .i64 (PK.left r left)) ∧ Below w.heap.size w w' := by
  obtain ⟨opt, vl⟩ := r
  unfold PK.val
  unfold PK.Sz maxLen at hs
  simp only at hs
  have hz0 : opt.size ≤ _ := hs.1
  have hz1 : vl.size ≤ _ := hs.2
  have HB : Below w.heap.size w (w.alloc (.cells #[.string opt, .string vl] 95)) := (Below.refl _ _).alloc (Nat.le_refl _) _
  by_cases hc0 : left < (opt.size : Int)
  · have HY : Hid (PK.left ⟨opt, vl⟩ left = -1) := Lib.hid (if_pos (by show left < ((opt.size + vl.size : Nat) : Int); omega))
    go_enter Try.func80, Try.ntmps80
    go_wp2_with fail
    go_ret
    exact ⟨by rw [HY.out]; rfl, HB⟩
  by_cases hc1 : left < (opt.size : Int) + (vl.size : Int)
  · have HY : Hid (PK.left ⟨opt, vl⟩ left = -1) := Lib.hid (if_pos (by show left < ((opt.size + vl.size : Nat) : Int); omega))
    go_enter Try.func80, Try.ntmps80
    go_wp2_with fail
    go_ret
    exact ⟨by rw [HY.out]; rfl, HB⟩
  have HY : Hid (PK.left ⟨opt, vl⟩ left = left - opt.size - vl.size) := Lib.hid (by
    unfold PK.left PK.bytes
    rw [if_neg (by show ¬left < ((opt.size + vl.size : Nat) : Int); omega)]
    show left - ((opt.size + vl.size : Nat) : Int) = _
    omega)
  go_enter Try.func80, Try.ntmps80
  go_wp2_with fail
  go_ret
  exact ⟨by rw [HY.out]; rfl, HB⟩

/-- What the size of a slice answers. -/
def PK.SzS (xs : List PK) (left : Int) (w : World) (e : Ending) (w' : World) : Prop := ∃ r : Int, e = .returned (.int .i64 r) ∧ -1 ≤ r ∧ r ≤ 1048576 ∧ (0 ≤ r → (xs.length : Int) + PK.bytesS xs ≤ left) ∧ Below w.heap.size w w'

set_option maxRecDepth 100000 in
set_option maxHeartbeats 1000000 in
theorem PK.sz_all (v : Value) (xs : List PK) (left : Int) (w : World) (h : PK.Is w v xs) (h0 : 0 ≤ left) (h1 : left ≤ 1048576) (hm : xs.length ≤ maxLen) (hs : ∀ r, r ∈ xs → PK.Sz r) :
    Calls Try.prog 35 #[v, .int .i64 left] w (PK.SzS xs left w) := by
  unfold maxLen at hm
  have HX := Lib.hid h
  have HS := Lib.hid hs
  obtain ⟨a, c, rfl⟩ := h.slice
  clear h hs
  by_cases hb : left < xs.length
  · go_enter Try.func35, Try.ntmps35
    go_wp2_with fail
    go_ret
    exact ⟨-1, rfl, by omega, by omega, by omega, Below.refl _ _⟩
  · go_enter Try.func35, Try.ntmps35
    go_wp2_with fail
    go_loopw [1, 5] (fun t i wr => ∃ (k : Nat) (m : Int), k ≤ xs.length ∧ i = .int .i64 k ∧ t = .int .i64 m ∧ 0 ≤ m ∧ m ≤ 1048576 ∧ Hid (m + xs.length + PK.bytesS (xs.take k) ≤ left) ∧ Hid (Below w.heap.size w wr)) (fun _ i _ => xs.length - (intOf i).toNat)
    case atStart => exact ⟨0, left - xs.length, Nat.zero_le _, rfl, rfl, by omega, by omega, Lib.hid (by simp [PK.bytesS]), Lib.hid (Below.refl _ _)⟩
    case round =>
      obtain ⟨k, m, hk, rfl, rfl, hm0, hm1, HSUM, HB⟩ := hrel
      by_cases hlt : k < xs.length
      · obtain ⟨b2, o2, c2, hv2, hc2, hcell2⟩ := HX.out.some (by omega)
        simp only [Value.slice.injEq] at hv2
        obtain ⟨rfl, _, rfl⟩ := hv2
        obtain ⟨e1, e2⟩ := (hcell2.below HB.out).at k hlt
        have HSU := Lib.hid (PK.bytesS_succ hlt)
        have hz := Lib.hid (HS.out _ (List.getElem_mem hlt))
        generalize xs[k]'hlt = x at *
        have HP := Lib.hid (PK.sz_one x m wr hm0 hm1 hz.out)
        unfold PK.val at HP
        clear hcell2 hc2
        by_cases hn : m < PK.bytes x
        · have HL : Hid (PK.left x m = -1) := Lib.hid (if_pos hn)
          clear hn
          go_wp2_with fail
          refine HP.out.mono ?_
          rintro e w2 ⟨rfl, hb2⟩
          rw [HL.out]
          go_wp2_with fail
          go_ret
          exact ⟨-1, rfl, by omega, by omega, by omega, HB.out.trans (hb2.mono HB.out.size)⟩
        · have HL : Hid (PK.left x m = m - PK.bytes x) := Lib.hid (if_neg hn)
          obtain ⟨z, hz2⟩ : ∃ z : Int, m - PK.bytes x = z := ⟨_, rfl⟩
          have hz0 : 0 ≤ z ∧ z ≤ 1048576 := by omega
          rw [hz2] at HL
          have HZ := Lib.hid hz2
          clear hn hz2
          go_wp2_with fail
          refine HP.out.mono ?_
          rintro e w2 ⟨rfl, hb2⟩
          rw [HL.out]
          go_wp2_with fail
          go_roundw
          case rel => exact ⟨k + 1, z, by omega, by go_num, rfl, hz0.1, hz0.2, Lib.hid (by rw [HSU.out]; have h9 := HSUM.out; have h8 := HZ.out; push_cast; omega), Lib.hid (HB.out.trans (hb2.mono HB.out.size))⟩
          case measure => simp [intOf]; omega
      · have HSU := Lib.hid (PK.bytesS_all (Nat.le_of_not_lt hlt))
        go_wp2_with fail
        go_ret
        exact ⟨m, rfl, by omega, by omega, fun _ => by have := HSUM.out; rw [HSU.out] at this; omega, HB.out⟩
end Go.Proofs.Ytkmjaiicobkkhaa
