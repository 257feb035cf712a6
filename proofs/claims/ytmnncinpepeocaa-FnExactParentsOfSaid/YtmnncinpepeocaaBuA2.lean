import Derived.Test.YtmnncinpepeocaaRows
import Derived.Test.YtmnncinpepeocaaBuA
import Derived.WalkKit
import Derived.WalkSpells
import Derived.WalkSmall
import Derived.Deep.RegionHeld3
import Derived.Laws.BytesArg
import Derived.Lib.ItoaNum
import Derived.Lib.ItoaLen
import Derived.Lib.Hide
import Derived.Deep.DeepCutAuto
import Derived.BigQuiet
import Derived.Deep.QuietTactic
namespace Go.Proofs.Ytmnncinpepeocaa
open Go.RowKit

namespace marks
/-- The digits of u, none for 0. -/
def digs (u : Nat) : List UInt8 := if u = 0 then [] else Lib.decDigits u

theorem digs_down {u m : Nat} {l : List UInt8} (h : 0 < u) (hl : digs u ++ l = digs m) : digs (u / 10) ++ (UInt8.ofNat (48 + u % 10) :: l) = digs m := by
  have e : digs u = digs (u / 10) ++ [UInt8.ofNat (48 + u % 10)] := by
    unfold digs
    rw [if_neg (by omega), Lib.decDigits]
    by_cases h10 : u < 10
    · rw [dif_pos h10, if_pos (by omega), Nat.mod_eq_of_lt h10]; rfl
    · rw [dif_neg h10, if_neg (by omega)]
  rw [← hl, e, List.append_assoc]; rfl

/-- The mark k. -/
def mText (k : Nat) : ByteArray := ⟨(109 :: digs k).toArray⟩

theorem ba_ext {a b : ByteArray} (h : a.data.toList = b.data.toList) : a = b := by
  cases a; cases b; simp only [ByteArray.mk.injEq] at *; exact Array.toList_inj.1 h
theorem ba_append (a b : ByteArray) : (a ++ b).data.toList = a.data.toList ++ b.data.toList := by
  show (ByteArray.append a b).data.toList = _
  simp [ByteArray.append]
theorem m_cat (l : List UInt8) : (⟨#[109]⟩ : ByteArray) ++ ⟨l.toArray⟩ = ⟨(109 :: l).toArray⟩ := by
  apply ba_ext
  rw [ba_append]
  rfl
theorem cat_one (u : Nat) (l : List UInt8) : strOfNums [48 + (u : Int) % 10] ++ ⟨l.toArray⟩ = ⟨(UInt8.ofNat (48 + u % 10) :: l).toArray⟩ := by
  apply ba_ext
  rw [ba_append, strOfNums_data]
  have e : (48 + (u : Int) % 10).toNat = 48 + u % 10 := by omega
  simp [e]
theorem ret_mark {a b : ByteArray} (h : a = b) : Ending.returned (.string a) = .returned (.string b) := by rw [h]
end marks

/-- A byte that has just been laid, as a string. -/
theorem conv_one (w : World) (x : Int) : (convert 22 9 (.slice (some ⟨w.heap.size, 0, none⟩) 1 1)).run Try.prog (w.alloc (.cells #[.int .u8 x] 5)) = .ok (.string (strOfNums [x])) (w.alloc (.cells #[.int .u8 x] 5)) :=
  run_convert_bytes_arg _ 22 5 Try.underlying22 Try.underlying5 w.heap.size 0 1 1 [x] rfl (fun i hi => by
    obtain rfl : i = 0 := by omega
    rw [cell_of_row _ _ _ _ _ _ (heap_alloc_new w _)]
    rfl) 9 Try.underlying9

set_option maxRecDepth 100000 in
set_option maxHeartbeats 400000 in
theorem mark_text (k : Nat) (w : World) (h0 : 0 < k) (h1 : k ≤ 1000000000000) :
    Calls Try.prog 67 #[.int .i64 (k : Int)] w fun e w' => e = .returned (.string (marks.mText k)) ∧ Below w.heap.size w w' := by
  have e0 : decide ((k : Int) ≤ 0) = false := decide_eq_false (by omega)
  go_enter Try.func67, Try.ntmps67
  go_wp2
  go_loopw [0, 3] (fun x t wr => ∃ (u : Nat) (l : List UInt8), u ≤ k ∧ l.length + u ≤ k ∧ x = .int .i64 u ∧ t = .string ⟨l.toArray⟩ ∧ Hid (marks.digs u ++ l = marks.digs k) ∧ Below w.heap.size w wr) (fun x _ _ => (intOf x).toNat)
  case atStart => exact ⟨k, [], Nat.le_refl _, by simp, rfl, rfl, Lib.hid (by simp), Below.refl _ _⟩
  case round =>
    obtain ⟨u, l, hu, hlu, rfl, rfl, hl, hb⟩ := hrel
    by_cases hz : 0 < u
    · have HD := Lib.hid (marks.digs_down hz hl.out)
      have hcv := conv_one wr
      have hsz : ∀ x : Int, (strOfNums [x]).size = 1 := fun _ => rfl
      have HC := Lib.hid (marks.cat_one u l)
      go_wp2
      go_roundw
      case rel => exact ⟨u / 10, UInt8.ofNat (48 + u % 10) :: l, by omega, by simp; omega, by go_num, by rw [HC.out], HD, hb.alloc hb.size _⟩
      case measure => simp [intOf]; omega
    · have HE : Hid (l = marks.digs k) := Lib.hid (by
        obtain rfl : u = 0 := by omega
        exact hl.out)
      go_wp2
      go_ret
      exact ⟨marks.ret_mark (by rw [HE.out]; exact marks.m_cat _), hb⟩

theorem mark_textI (x : Int) (m : Nat) (w : World) (hx : x = (m : Int)) (h0 : 0 < m) (h1 : m ≤ 1000000000000) :
    Calls Try.prog 67 #[.int .i64 x] w fun e w' => e = .returned (.string (marks.mText m)) ∧ Below w.heap.size w w' := by
  subst hx
  exact mark_text m w h0 h1

/-- The marks from k on, n of them. -/
def marksFrom (k n : Nat) : List Value := (List.range n).map fun j => Value.string (marks.mText (k + j))

theorem marksFrom_length (k n : Nat) : (marksFrom k n).length = n := by simp [marksFrom]
theorem marksFrom_at (k n j : Nat) (h : j < n) : (marksFrom k n)[j]? = some (Value.string (marks.mText (k + j))) := by simp [marksFrom, h]

/-- The row when j of its cells bear marks. -/
def halfM (xs : List Value) (k n j : Nat) : List Value := (marksFrom k n).take j ++ xs.drop j

theorem halfM_zero (xs : List Value) (k n : Nat) : halfM xs k n 0 = xs := by simp [halfM]
theorem halfM_all (xs : List Value) (k n : Nat) (h : xs.length = n) : halfM xs k n n = marksFrom k n := by
  unfold halfM
  rw [List.take_of_length_le (by rw [marksFrom_length]; exact Nat.le_refl _), List.drop_eq_nil_of_le (by omega), List.append_nil]
theorem halfM_length (xs : List Value) (k n j : Nat) (h : xs.length = n) (hj : j ≤ n) : (halfM xs k n j).length = n := by
  unfold halfM
  rw [List.length_append, List.length_take, marksFrom_length, List.length_drop]
  omega
theorem halfM_succ (xs : List Value) (k n j : Nat) (h : xs.length = n) (hj : j < n) : (halfM xs k n j).set j (.string (marks.mText (k + j))) = halfM xs k n (j + 1) := by
  apply List.ext_getElem?
  intro i
  rw [List.getElem?_set, halfM_length xs k n j h (by omega)]
  have hl : ((marksFrom k n).take j).length = j := by rw [List.length_take, marksFrom_length]; omega
  have hl1 : ((marksFrom k n).take (j + 1)).length = j + 1 := by rw [List.length_take, marksFrom_length]; omega
  unfold halfM
  by_cases hij : j = i
  · subst hij
    rw [if_pos rfl, if_pos hj, List.getElem?_append_left (by omega), List.getElem?_take_of_lt (by omega), marksFrom_at k n j hj]
  · rw [if_neg hij]
    by_cases hlt : i < j
    · rw [List.getElem?_append_left (by omega), List.getElem?_append_left (by omega), List.getElem?_take_of_lt hlt, List.getElem?_take_of_lt (by omega)]
    · rw [List.getElem?_append_right (by omega), List.getElem?_append_right (by omega), hl, hl1, List.getElem?_drop, List.getElem?_drop, show j + (i - j) = i by omega, show j + 1 + (i - (j + 1)) = i by omega]

end Go.Proofs.Ytmnncinpepeocaa

namespace Go.Proofs.Ytmnncinpepeocaa
open Go.RowKit

/-- What markStringS leaves. -/
def Marked (base : Nat) (v : Value) (k n : Nat) (w : World) (e : Ending) (w' : World) : Prop :=
  e = .returned (.int .i64 ((k + n : Nat) : Int)) ∧ w'.ownsRow base 9 1 v n (marksFrom k n) ∧ w.grownBy w' v.ownBlock

set_option maxRecDepth 100000 in
set_option maxHeartbeats 1000000 in
theorem mark_strs (base : Nat) (v : Value) (k n : Nat) (xs : List Value) (w : World) (hown : w.ownsRow base 9 1 v n xs) (hn : n ≤ 1048577) (hk0 : 0 < k) (hk1 : k ≤ 1000000000) :
    Calls Try.prog 31 #[v, .int .i64 (k : Int)] w (Marked base v k n w) := by
  have hxl : xs.length = n := by have := hown.1; omega
  have HO := Lib.hid hown
  rcases hown.2 with ⟨rfl, rfl⟩ | ⟨g, cap, cur, rfl, -⟩
  · have HX : Hid (xs = marksFrom k 0) := Lib.hid (by rw [List.eq_nil_of_length_eq_zero hxl]; rfl)
    clear hown hxl
    go_enter Try.func31, Try.ntmps31
    go_wp2
    go_loop [1, 5] (fun q i => i = .int .i64 0 ∧ q = .int .i64 (k : Int)) (fun _ _ => 0)
    case atStart => exact ⟨rfl, rfl⟩
    case round =>
      obtain ⟨rfl, rfl⟩ := hrel
      go_wp2
      go_ret
      exact ⟨rfl, HX.out ▸ HO.out, World.grownBy.refl _ _⟩
  · have HX := Lib.hid hxl
    clear hown hxl
    go_enter Try.func31, Try.ntmps31
    go_wp2
    go_loopw [1, 5] (fun q i wr => ∃ j : Nat, j ≤ n ∧ i = .int .i64 j ∧ q = .int .i64 ((k + j : Nat) : Int) ∧ Hid (wr.ownsRow base 9 1 (.slice (some ⟨g, 0, none⟩) n cap) n (halfM xs k n j)) ∧ Hid (w.grownBy wr (some g))) (fun _ i _ => n - (intOf i).toNat)
    case atStart => exact ⟨0, Nat.zero_le _, rfl, rfl, Lib.hid (by rw [halfM_zero]; exact HO.out), Lib.hid (World.grownBy.refl _ _)⟩
    case round =>
      obtain ⟨j, hj, rfl, rfl, hrow, hgr⟩ := hrel
      by_cases hlt : j < n
      · have HN := Lib.hid (halfM_succ xs k n j HX.out hlt)
        go_wp2_with fail
        refine (mark_textI _ (k + j) _ (by omega) (by omega) (by omega)).mono ?_
        rintro e w1 ⟨rfl, hb1⟩
        have hrow1 := hrow.out.kept (grown_of_below hb1 none) (Or.inr (by simp [Value.ownBlock]))
        have hgr1 : w.grownBy w1 (some g) := hgr.out.trans (grown_of_below hb1 _)
        have hfz := hrow1.frozenAt j
        have hcl : ∃ u, w1.cell? ⟨g, j, none⟩ = some u := by
          rw [hrow1.cellAt j (by omega)]
          exact ⟨_, List.getElem?_eq_getElem (by rw [halfM_length xs k n j HX.out (by omega)]; exact hlt)⟩
        obtain ⟨u, hu⟩ := hcl
        have hst := hrow1.stored j (.string (marks.mText (k + j)))
        rw [HN.out] at hst
        have HST := Lib.hid hst
        have HGR := Lib.hid (hgr1.trans hst.2)
        generalize marks.mText (k + j) = mt at *
        clear hst hrow1 hgr1 hb1
        go_wp2
        go_roundw
        case rel => exact ⟨j + 1, by omega, by go_num, by go_num, Lib.hid HST.out.1, Lib.hid HGR.out⟩
        case measure => simp [intOf]; omega
      · have hjn : j = n := by omega
        subst hjn
        go_wp2
        go_ret
        exact ⟨rfl, by have := hrow.out; rw [halfM_all _ _ _ HX.out] at this; exact this, hgr.out⟩

theorem held_keep {w W W' : World} {g j : Nat} {mt : ByteArray} (hg : g < w.heap.size) (hc : W.cell? ⟨g, j, none⟩ = some (.string mt)) (hb : Below w.heap.size w W) (hb1 : Below W.heap.size W W') :
    W'.cell? ⟨g, j, none⟩ = some (.string mt) ∧ Below w.heap.size w W' :=
  ⟨(hb1.cell (p := ⟨g, j, none⟩) (Nat.lt_of_lt_of_le hg hb.size)).trans hc, hb.trans (hb1.mono hb.size)⟩

set_option maxRecDepth 100000 in
set_option maxHeartbeats 1000000 in
/-- The marks are found again. -/
theorem held_strs (base : Nat) (v : Value) (k n : Nat) (w : World) (hown : w.ownsRow base 9 1 v n (marksFrom k n)) (hn : n ≤ 1048577) (hk0 : 0 < k) (hk1 : k ≤ 1000000000) :
    Calls Try.prog 32 #[v, .int .i64 (k : Int)] w fun e w' => e = .returned (.int .i64 ((k + n : Nat) : Int)) ∧ Below w.heap.size w w' := by
  have HO := Lib.hid hown
  rcases hown.2 with ⟨rfl, rfl⟩ | ⟨g, cap, cur, rfl, -⟩
  · clear hown
    go_enter Try.func32, Try.ntmps32
    go_wp2
    go_loop [1, 5] (fun q i => i = .int .i64 0 ∧ q = .int .i64 (k : Int)) (fun _ _ => 0)
    case atStart => exact ⟨rfl, rfl⟩
    case round =>
      obtain ⟨rfl, rfl⟩ := hrel
      go_wp2
      go_ret
      exact ⟨rfl, Below.refl _ _⟩
  · clear hown
    go_enter Try.func32, Try.ntmps32
    go_wp2
    go_loopw [1, 5] (fun q i wr => ∃ j : Nat, j ≤ n ∧ i = .int .i64 j ∧ q = .int .i64 ((k + j : Nat) : Int) ∧ Below w.heap.size w wr) (fun _ i _ => n - (intOf i).toNat)
    case atStart => exact ⟨0, Nat.zero_le _, rfl, rfl, Below.refl _ _⟩
    case round =>
      obtain ⟨j, hj, rfl, rfl, hb⟩ := hrel
      by_cases hlt : j < n
      · have hck : wr.cell? ⟨g, j, none⟩ = some (.string (marks.mText (k + j))) := by
          have h1 := HO.out.cellAt j (by omega)
          rw [marksFrom_at k n j hlt] at h1
          exact (hb.cell (p := ⟨g, j, none⟩) (HO.out.lt g rfl).2).trans h1
        obtain ⟨mt, hmt⟩ : ∃ mt, marks.mText (k + j) = mt := ⟨_, rfl⟩
        rw [hmt] at hck
        have HMT := Lib.hid hmt
        clear hmt
        have HGL : Hid (g < w.heap.size) := Lib.hid (HO.out.lt g rfl).2
        have hj0 : (0 : Int) ≤ (j : Int) := by omega
        have hj1 : (j : Int) < (n : Int) := by omega
        go_wp2
        go_region_held3 (fun w' => w'.cell? ⟨g, j, none⟩ = some (.string mt) ∧ Below w.heap.size w w') (first | exact ⟨hck, hb.drew⟩ | exact ⟨hck, hb⟩ | exact held_keep (W := wr.drew) HGL.out hck hb.drew (by assumption) | exact held_keep (W := wr) HGL.out hck hb (by assumption))
          (first | (go_at_call 67; refine (mark_textI _ (k + j) _ (by omega) (by omega) (by omega)).mono ?_; rintro e w' ⟨rfl, hb1⟩; rw [HMT.out]))
        have hbS : Below w.heap.size w w' := (by assumption : w'.cell? ⟨g, j, none⟩ = some (.string mt) ∧ Below w.heap.size w w').2
        go_wp2
        go_roundw
        case rel => exact ⟨j + 1, by omega, by go_num, by go_num, hbS⟩
        case measure => simp [intOf]; omega
      · have hjn : j = n := by omega
        subst hjn
        go_wp2
        go_ret
        exact ⟨rfl, hb⟩
end Go.Proofs.Ytmnncinpepeocaa

namespace Go.Proofs.Ytmnncinpepeocaa
open Go.RowKit

theorem len_max {n : Nat} (h : n ≤ 1048576) : n ≤ maxLen := by unfold maxLen; omega
end Go.Proofs.Ytmnncinpepeocaa

namespace Go.Proofs.Ytmnncinpepeocaa
open Go.RowKit

set_option maxRecDepth 100000 in
set_option maxHeartbeats 400000 in
/-- Two slices that read as the same strings are found equal. -/
theorem eq_strs (v v' : Value) (ss : List ByteArray) (w : World) (h : Strs w v ss) (h' : Strs w v' ss) (hm : ss.length ≤ 1048577) :
    Calls Try.prog 30 #[v, v'] w fun e w' => e = .returned (.bool true) ∧ Below w.heap.size w w' := by
  rcases h with ⟨rfl, a, c, rfl⟩ | ⟨hne, b, o, c, rfl, hc, hcell⟩
  · rcases h' with ⟨_, a', c', rfl⟩ | ⟨h0, _⟩
    · go_enter Try.func30, Try.ntmps30
      go_wp2
      go_loop [5] (fun i => i = .int .i64 0) (fun _ => 0)
      case atStart => rfl
      case round =>
        obtain rfl := hrel
        go_wp2
        go_ret
        exact ⟨rfl, Below.refl _ _⟩
    · exact absurd rfl h0
  · rcases h' with ⟨h0, _⟩ | ⟨_, b', o', c', rfl, hc', hcell'⟩
    · exact absurd h0 hne
    · have H := Lib.hid hcell
      have H' := Lib.hid hcell'
      have e0 : ((ss.length : Int) != (ss.length : Int)) = false := by simp
      clear hcell hcell' hne
      go_enter Try.func30, Try.ntmps30
      go_wp2
      go_loopw [5] (fun i wr => ∃ k : Nat, k ≤ ss.length ∧ i = .int .i64 k ∧ Below w.heap.size w wr) (fun i _ => ss.length - (intOf i).toNat)
      case atStart => exact ⟨0, Nat.zero_le _, rfl, Below.refl _ _⟩
      case round =>
        obtain ⟨k, hk, rfl, hb⟩ := hrel
        by_cases hlt : k < ss.length
        · have hck : wr.cell? ⟨b, o + k, none⟩ = some (.string (ss[k]'hlt)) := (hb.cell (p := ⟨b, o + k, none⟩) H.out.1).trans (H.out.at k hlt)
          have hck' : wr.cell? ⟨b', o' + k, none⟩ = some (.string (ss[k]'hlt)) := (hb.cell (p := ⟨b', o' + k, none⟩) H'.out.1).trans (H'.out.at k hlt)
          go_wp2
          go_quiet (fail)
          go_wp2
          go_roundw
          case rel => exact ⟨k + 1, by omega, by go_num, below_drewN hb _⟩
          case measure => simp [intOf]; omega
        · go_wp2
          go_ret
          exact ⟨rfl, hb⟩
end Go.Proofs.Ytmnncinpepeocaa
