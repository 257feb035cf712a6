import Derived.Test.YtmnncinpepeocaaGreatRows
import Derived.Test.YtmnncinpepeocaaGreatBuA
import Derived.WalkKit
import Derived.WalkSpells
import Derived.WalkSmall
import Derived.Deep.RegionHeld3
import Derived.Laws.BytesArg
import Derived.Lib.ItoaNum
import Derived.Lib.ItoaLen
import Derived.Lib.Hide
import Derived.Deep.DeepCutAuto
namespace Go.Proofs.YtmnncinpepeocaaGreat
open Go.RowKit

namespace marks
/-- The digits of u, none for 0. -/
def digs (u : Nat) : List UInt8 := if u = 0 then [] else Lib.decDigits u

theorem digs_down {u m : Nat} {l : List UInt8} (h : 0 < u) (hl : digs u ++ l = digs m) : digs (u / 10) ++ (UInt8.ofNat (48 + u % 10) :: l) = digs m := by
 have e : digs u = digs (u / 10) ++ [UInt8.ofNat (48 + u % 10)] := by
  unfold digs
  rw [if_neg (by omega), Lib.decDigits]
  by_cases h10 : u < 10
  · rw [dif_pos h10, if_pos (by omega), Nat.mod_eq_of_lt h10]; rfl
  · rw [dif_neg h10, if_neg (by omega)]
 rw [← hl, e, List.append_assoc]; rfl

/-- The mark k. -/
def mText (k : Nat) : ByteArray := ⟨(109 :: digs k).toArray⟩

theorem ba_ext {a b : ByteArray} (h : a.data.toList = b.data.toList) : a = b := by
 cases a; cases b; simp only [ByteArray.mk.injEq] at *; exact Array.toList_inj.1 h
theorem ba_append (a b : ByteArray) : (a ++ b).data.toList = a.data.toList ++ b.data.toList := by
 show (ByteArray.append a b).data.toList = _
 simp [ByteArray.append]
theorem m_cat (l : List UInt8) : (⟨#[109]⟩ : ByteArray) ++ ⟨l.toArray⟩ = ⟨(109 :: l).toArray⟩ := by
 apply ba_ext
 rw [ba_append]
 rfl
theorem cat_one (u : Nat) (l : List UInt8) : strOfNums [48 + (u : Int) % 10] ++ ⟨l.toArray⟩ = ⟨(UInt8.ofNat (48 + u % 10) :: l).toArray⟩ := by
 apply ba_ext
 rw [ba_append, strOfNums_data]
 have e : (48 + (u : Int) % 10).toNat = 48 + u % 10 := by omega
 simp [e]
theorem ret_mark {a b : ByteArray} (h : a = b) : Ending.returned (.string a) = .returned (.string b) := by rw [h]
end marks

/-- A byte that has just been laid, as a string. -/
theorem conv_one (w : World) (x : Int) : (convert 22 9 (.slice (some ⟨w.heap.size, 0, none⟩) 1 1)).run Tryz.prog (w.alloc (.cells #[.int .u8 x] 5)) = .ok (.string (strOfNums [x])) (w.alloc (.cells #[.int .u8 x] 5)) :=
 run_convert_bytes_arg _ 22 5 Tryz.underlying22 Tryz.underlying5 w.heap.size 0 1 1 [x] rfl (fun i hi => by
  obtain rfl : i = 0 := by omega
  rw [cell_of_row _ _ _ _ _ _ (heap_alloc_new w _)]
  rfl) 9 Tryz.underlying9

set_option maxRecDepth 100000 in
set_option maxHeartbeats 400000 in
theorem mark_text (k : Nat) (w : World) (h0 : 0 < k) (h1 : k ≤ 1000000000000) :
 Calls Tryz.prog 75 #[.int .i64 (k : Int)] w fun e w' => e = .returned (.string (marks.mText k)) ∧ Below w.heap.size w w' := by
 have e0 : decide ((k : Int) ≤ 0) = false := decide_eq_false (by omega)
 go_enter Tryz.func75, Tryz.ntmps75
 go_wp2
 go_loopw [0, 3] (fun x t wr => ∃ (u : Nat) (l : List UInt8), u ≤ k ∧ l.length + u ≤ k ∧ x = .int .i64 u ∧ t = .string ⟨l.toArray⟩ ∧ Hid (marks.digs u ++ l = marks.digs k) ∧ Below w.heap.size w wr) (fun x _ _ => (intOf x).toNat)
 case atStart => exact ⟨k, [], Nat.le_refl _, by simp, rfl, rfl, Lib.hid (by simp), Below.refl _ _⟩
 case round =>
  obtain ⟨u, l, hu, hlu, rfl, rfl, hl, hb⟩ := hrel
  by_cases hz : 0 < u
  · have HD := Lib.hid (marks.digs_down hz hl.out)
    have hcv := conv_one wr
    have hsz : ∀ x : Int, (strOfNums [x]).size = 1 := fun _ => rfl
    have HC := Lib.hid (marks.cat_one u l)
    go_wp2
    go_roundw
    case rel => exact ⟨u / 10, UInt8.ofNat (48 + u % 10) :: l, by omega, by simp; omega, by go_num, by rw [HC.out], HD, hb.alloc hb.size _⟩
    case measure => simp [intOf]; omega
  · have HE : Hid (l = marks.digs k) := Lib.hid (by
     obtain rfl : u = 0 := by omega
     exact hl.out)
    go_wp2
    go_ret
    exact ⟨marks.ret_mark (by rw [HE.out]; exact marks.m_cat _), hb⟩

theorem mark_textI (x : Int) (m : Nat) (w : World) (hx : x = (m : Int)) (h0 : 0 < m) (h1 : m ≤ 1000000000000) :
 Calls Tryz.prog 75 #[.int .i64 x] w fun e w' => e = .returned (.string (marks.mText m)) ∧ Below w.heap.size w w' := by
 subst hx
 exact mark_text m w h0 h1

/-- The marks from k on, n of them. -/
def marksFrom (k n : Nat) : List Value := (List.range n).map fun j => Value.string (marks.mText (k + j))

theorem marksFrom_length (k n : Nat) : (marksFrom k n).length = n := by simp [marksFrom]
theorem marksFrom_at (k n j : Nat) (h : j < n) : (marksFrom k n)[j]? = some (Value.string (marks.mText (k + j))) := by simp [marksFrom, h]

/-- The row when j of its cells bear marks. -/
def halfM (xs : List Value) (k n j : Nat) : List Value := (marksFrom k n).take j ++ xs.drop j

theorem halfM_zero (xs : List Value) (k n : Nat) : halfM xs k n 0 = xs := by simp [halfM]
theorem halfM_all (xs : List Value) (k n : Nat) (h : xs.length = n) : halfM xs k n n = marksFrom k n := by
 unfold halfM
 rw [List.take_of_length_le (by rw [marksFrom_length]; exact Nat.le_refl _), List.drop_eq_nil_of_le (by omega), List.append_nil]
theorem halfM_length (xs : List Value) (k n j : Nat) (h : xs.length = n) (hj : j ≤ n) : (halfM xs k n j).length = n := by
 unfold halfM
 rw [List.length_append, List.length_take, marksFrom_length, List.length_drop]
 omega
theorem halfM_succ (xs : List Value) (k n j : Nat) (h : xs.length = n) (hj : j < n) : (halfM xs k n j).set j (.string (marks.mText (k + j))) = halfM xs k n (j + 1) := by
 apply List.ext_getElem?
 intro i
 rw [List.getElem?_set, halfM_length xs k n j h (by omega)]
 have hl : ((marksFrom k n).take j).length = j := by rw [List.length_take, marksFrom_length]; omega
 have hl1 : ((marksFrom k n).take (j + 1)).length = j + 1 := by rw [List.length_take, marksFrom_length]; omega
 unfold halfM
 by_cases hij : j = i
 · subst hij
   rw [if_pos rfl, if_pos hj, List.getElem?_append_left (by omega), List.getElem?_take_of_lt (by omega), marksFrom_at k n j hj]
 · rw [if_neg hij]
   by_cases hlt : i < j
   · rw [List.getElem?_append_left (by omega), List.getElem?_append_left (by omega), List.getElem?_take_of_lt hlt, List.getElem?_take_of_lt (by omega)]
   · rw [List.getElem?_append_right (by omega), List.getElem?_append_right (by omega), hl, hl1, List.getElem?_drop, List.getElem?_drop, show j + (i - j) = i by omega, show j + 1 + (i - (j + 1)) = i by omega]

end Go.Proofs.YtmnncinpepeocaaGreat

namespace Go.Proofs.YtmnncinpepeocaaGreat
open Go.RowKit

theorem len_max {n : Nat} (h : n ≤ 1048576) : n ≤ maxLen := by unfold maxLen; omega
end Go.Proofs.YtmnncinpepeocaaGreat
