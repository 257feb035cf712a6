/-
  The walks of FormatInt, the model's and the program's.
-/
import Derived.Test.YtccmmpfbiemjiaaDoorRows
import Derived.Test.YtccmmpfbiemjiaaDoorShelf
import Derived.WalkKit
import Derived.WalkSpells
import Derived.Lib.ItoaNum
import Derived.Lib.ItoaLen
import Derived.Lib.Hide
namespace Go.Proofs.YtccmmpfbiemjiaaDoor
open Go.RowKit

/-- The digits of u, none for 0. -/
def digs (u : Nat) : List UInt8 := if u = 0 then [] else Lib.decDigits u

theorem digs_step (u : Nat) (h : 0 < u) : digs u = digs (u / 10) ++ [UInt8.ofNat (48 + u % 10)] := by
  unfold digs
  rw [if_neg (by omega)]
  rw [Lib.decDigits]
  by_cases h10 : u < 10
  · rw [dif_pos h10, if_pos (by omega), Nat.mod_eq_of_lt h10]; rfl
  · rw [dif_neg h10, if_neg (by omega)]


theorem ba_ext {a b : ByteArray} (h : a.data.toList = b.data.toList) : a = b := by
  cases a; cases b; simp only [ByteArray.mk.injEq] at *; exact Array.toList_inj.1 h
theorem ba_append (a b : ByteArray) : (a ++ b).data.toList = a.data.toList ++ b.data.toList := by
  show (ByteArray.append a b).data.toList = _
  simp [ByteArray.append]

/-- One digit, cut out of the ten and put in front. -/
theorem digit_cat (d : Nat) (hd : d < 10) (l : List UInt8) :
    (⟨#[48, 49, 50, 51, 52, 53, 54, 55, 56, 57]⟩ : ByteArray).extract d (d + 1) ++ ⟨l.toArray⟩ = ⟨(UInt8.ofNat (48 + d) :: l).toArray⟩ := by
  apply ba_ext
  rw [ba_append]
  match d, hd with
  | 0, _ | 1, _ | 2, _ | 3, _ | 4, _ | 5, _ | 6, _ | 7, _ | 8, _ | 9, _ => rfl

theorem digs_down {u m : Nat} {l : List UInt8} (h : 0 < u) (hl : digs u ++ l = digs m) : digs (u / 10) ++ (UInt8.ofNat (48 + u % 10) :: l) = digs m := by
  rw [← hl, digs_step u h, List.append_assoc]; rfl

theorem itoa_pos {m : Nat} (h : 0 < m) : Lib.itoa (m : Int) = digs m := by
  unfold Lib.itoa digs
  rw [if_neg (by omega), if_neg (by omega)]; rfl
theorem itoa_zero : Lib.itoa 0 = [48] := by
  unfold Lib.itoa
  rw [if_neg (by omega), Lib.decDigits, dif_pos (by decide)]; rfl
theorem itoa_neg {m : Nat} (h : 0 < m) : Lib.itoa (-(m : Int)) = 45 :: digs m := by
  unfold Lib.itoa digs
  rw [if_pos (by omega), if_neg (by omega), Int.natAbs_neg]; rfl

theorem digs_len {m : Nat} (h : m ≤ 9223372036854775808) : (digs m).length ≤ 20 := by
  by_cases h0 : 0 < m
  · have := Lib.itoa_length_le (-(m : Int)) (by omega) (by omega)
    rw [itoa_neg h0, List.length_cons] at this
    omega
  · obtain rfl : m = 0 := by omega
    simp [digs]
theorem digs_rest {u m : Nat} {l : List UInt8} (h : m ≤ 9223372036854775808) (hl : digs u ++ l = digs m) : l.length ≤ 20 := by
  have h1 := digs_len h
  rw [← hl, List.length_append] at h1
  omega
theorem dash_cat (l : List UInt8) : (⟨#[45]⟩ : ByteArray) ++ ⟨l.toArray⟩ = ⟨(45 :: l).toArray⟩ := by
  apply ba_ext
  rw [ba_append]
  rfl

theorem below_grow (w : World) (k : Nat) (os : Array Obj) : Below w.heap.size w (Sort.grow (w.drewN k) os) :=
  ⟨rfl, rfl, rfl, by simp [Sort.grow], fun i hi => by
    show (w.heap ++ os)[i]? = _
    rw [Array.getElem?_append_left (by simpa using hi)]⟩

theorem ret_string {a b : ByteArray} (h : a = b) : Ending.returned (.string a) = .returned (.string b) := by rw [h]

set_option maxRecDepth 100000 in
set_option maxHeartbeats 400000 in
theorem spec_format_pos (m : Nat) (h1 : m ≤ 9223372036854775807) (w : World) :
    Calls Tryd.prog 18 #[.int .i64 (m : Int)] w fun e w' => e = .returned (.string ⟨(Lib.itoa m).toArray⟩) ∧ w' = w := by
  go_enter Tryd.func18, Tryd.ntmps18
  go_wp2
  go_loop [3, 4] (fun t x => ∃ (u : Nat) (l : List UInt8), l.length + u ≤ m ∧ x = .int .i64 u ∧ t = .string ⟨l.toArray⟩ ∧ Hid (digs u ++ l = digs m)) (fun _ x => (intOf x).toNat)
  case atStart => exact ⟨m, [], by simp, rfl, rfl, Lib.hid (by simp)⟩
  case round =>
    obtain ⟨u, l, hu, rfl, rfl, hl⟩ := hrel
    by_cases hz : 0 < u
    · have e0 : ((u : Int) != 0) = true := by rw [bne_iff_ne]; omega
      have HD := Lib.hid (digs_down hz hl.out)
      have HC := Lib.hid (digit_cat (u % 10) (Nat.mod_lt _ (by decide)) l)
      go_wp2
      go_round
      case rel => exact ⟨u / 10, UInt8.ofNat (48 + u % 10) :: l, by simp; omega, by go_num, by rw [HC.out], HD⟩
      case measure => simp [intOf]; omega
    · have e0 : ((u : Int) != 0) = false := by rw [bne_eq_false_iff_eq]; omega
      obtain rfl : u = 0 := by omega
      by_cases hm : m = 0
      · subst hm
        go_wp2
        go_ret
        exact ⟨ret_string (by first | rw [itoa_zero] | rw [show ((0 : Nat) : Int) = 0 from rfl, itoa_zero]), rfl⟩
      · have e1 : ((m : Int) == 0) = false := beq_eq_false_iff_ne.2 (by omega)
        have HE : Hid (Lib.itoa (m : Int) = l) := Lib.hid (by rw [itoa_pos (by omega), ← hl.out]; rfl)
        clear hm hz
        go_wp2
        go_ret
        exact ⟨ret_string (by rw [HE.out]), rfl⟩

set_option maxRecDepth 100000 in
set_option maxHeartbeats 400000 in
theorem spec_format_neg (m : Nat) (h0 : 0 < m) (h1 : m ≤ 9223372036854775808) (w : World) :
    Calls Tryd.prog 18 #[.int .i64 (-(m : Int))] w fun e w' => e = .returned (.string ⟨(Lib.itoa (-(m : Int))).toArray⟩) ∧ w' = w := by
  go_enter Tryd.func18, Tryd.ntmps18
  go_wp2
  go_loop [3, 4] (fun t x => ∃ (u : Nat) (l : List UInt8), u ≤ m ∧ x = .int .i64 (-(u : Int)) ∧ t = .string ⟨l.toArray⟩ ∧ Hid (digs u ++ l = digs m)) (fun _ x => (-(intOf x)).toNat)
  case atStart => exact ⟨m, [], Nat.le_refl _, rfl, rfl, Lib.hid (by simp)⟩
  case round =>
    obtain ⟨u, l, hu, rfl, rfl, hl⟩ := hrel
    by_cases hz : 0 < u
    · have e0 : ((-(u : Int)) != 0) = true := by rw [bne_iff_ne]; omega
      have HD := Lib.hid (digs_down hz hl.out)
      have HC := Lib.hid (digit_cat (u % 10) (Nat.mod_lt _ (by decide)) l)
      have hlen := digs_rest (m := m) (by omega) hl.out
      go_wp2
      · go_round
        case rel => exact ⟨u / 10, UInt8.ofNat (48 + u % 10) :: l, by omega, by go_num, by rw [HC.out], HD⟩
        case measure => simp [intOf]; omega
      · go_round
        case rel => exact ⟨u / 10, UInt8.ofNat (48 + u % 10) :: l, by omega, by go_num, by rw [← HC.out, show (-((u : Int) % 10)).toNat = u % 10 from by omega, show (-((u : Int) % 10) + 1).toNat = u % 10 + 1 from by omega], HD⟩
        case measure => simp [intOf]; omega
    · have e0 : ((-(u : Int)) != 0) = false := by rw [bne_eq_false_iff_eq]; omega
      have e1 : ((-(m : Int)) == 0) = false := beq_eq_false_iff_ne.2 (by omega)
      have hlen := digs_rest (m := m) (by omega) hl.out
      have HE : Hid (Lib.itoa (-(m : Int)) = 45 :: l) := Lib.hid (by
        obtain rfl : u = 0 := by omega
        rw [itoa_neg (by omega), ← hl.out]; rfl)
      go_wp2
      go_ret
      exact ⟨ret_string (by rw [HE.out]; exact dash_cat l), rfl⟩

theorem spec_format (n : Int) (h0 : -9223372036854775808 ≤ n) (h1 : n ≤ 9223372036854775807) (w : World) :
    Calls Tryd.prog 18 #[.int .i64 n] w fun e w' => e = .returned (.string ⟨(Lib.itoa n).toArray⟩) ∧ w' = w := by
  by_cases h : 0 ≤ n
  · obtain ⟨m, rfl⟩ := Int.eq_ofNat_of_zero_le h
    exact spec_format_pos m (by omega) w
  · obtain ⟨m, hm⟩ := Int.eq_ofNat_of_zero_le (show 0 ≤ -n by omega)
    obtain rfl : n = -(m : Int) := by omega
    exact spec_format_neg m (by omega) (by omega) w

/-- The program's FormatInt, in a world in which the library's table of the powers of ten lies. -/
theorem impl_format (n : Int) (h0 : -9223372036854775808 ≤ n) (h1 : n ≤ 9223372036854775807) (w : World) (htab : Lib.TabIs Tryd.prog w "internal/strconv.uint64pow10" .u64 Lib.pow10Tab) :
    Calls Tryd.prog 11 #[.int .i64 n] w fun e w' => e = .returned (.string ⟨(Lib.itoa n).toArray⟩) ∧ Below w.heap.size w w' := by
  have H := Lib.hid htab
  clear htab
  go_enter Tryd.func11, Tryd.ntmps11
  go_wp2_with fail
  refine (Tryd.strconv_Itoa n h0 h1 _ H.out).mono ?_
  rintro e w1 ⟨rfl, k, os, hw⟩
  have hb : Below w.heap.size w w1 := by rw [hw]; exact below_grow w k os
  clear hw
  go_wp2
  go_ret
  exact ⟨rfl, hb⟩
end Go.Proofs.YtccmmpfbiemjiaaDoor
