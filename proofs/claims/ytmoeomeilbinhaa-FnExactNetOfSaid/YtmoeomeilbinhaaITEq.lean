/-
  The verifier's own helpers on Item: equal ones are found equal, and how large they are.
-/
import Derived.Test.YtmoeomeilbinhaaRows
import Derived.Test.YtmoeomeilbinhaaRecLib
import Derived.Test.YtmoeomeilbinhaaITRec
import Derived.Test.YtmoeomeilbinhaaHold
import Derived.Test.YtmoeomeilbinhaaStrQ
import Derived.Test.YtmoeomeilbinhaaHoldMore
import Derived.WalkKit
import Derived.WalkSpells
import Derived.WalkSmall
import Derived.BigQuiet
import Derived.Deep.QuietTactic
import Derived.Deep.DeepCutAuto
import Derived.Deep.RegionHeld3
import Derived.Laws.OwnMore
import Derived.Lib.Hide
namespace Go.Proofs.Ytmoeomeilbinhaa
open Go.RowKit

set_option maxRecDepth 100000 in
set_option maxHeartbeats 1000000 in
theorem IT.eq_one (r : IT) (w : World) :
    Calls Try.prog 39 #[IT.val r, IT.val r] w fun e w' => e = .returned (.bool true) ∧ Below w.heap.size w w' := by
  obtain ⟨code, unt, kind, lead, rule, lsz, safe, scr⟩ := r
  unfold IT.val
  have b0 := str_eq (rfl : code = code)
  have b1 := str_eq (rfl : unt = unt)
  have b2 : (kind != kind) = false := by simp
  have b3 : (lead != lead) = false := by simp
  have b4 : (rule != rule) = false := by simp
  have b5 : (lsz != lsz) = false := by simp
  have b6 : (safe != safe) = false := by simp
  have b7 : (scr != scr) = false := by simp
  go_enter Try.func39, Try.ntmps39
  go_wp2_with fail
  go_ret
  exact ⟨rfl, ((Below.refl _ _).alloc (Nat.le_refl _) _).alloc (by simp) _⟩

set_option maxRecDepth 100000 in
set_option maxHeartbeats 1000000 in
theorem IT.eq_all (v v' : Value) (xs : List IT) (w : World) (h : IT.Is w v xs) (h' : IT.Is w v' xs) (hm : xs.length ≤ 1048577) :
    Calls Try.prog 22 #[v, v'] w fun e w' => e = .returned (.bool true) ∧ Below w.heap.size w w' := by
  have HX := Lib.hid h
  have HY := Lib.hid h'
  obtain ⟨a, c, rfl⟩ := h.slice
  obtain ⟨a', c', rfl⟩ := h'.slice
  have hnn : ((xs.length : Int) != (xs.length : Int)) = false := by simp
  clear h h'
  go_enter Try.func22, Try.ntmps22
  go_wp2
  go_loopw [5] (fun i wr => ∃ k : Nat, k ≤ xs.length ∧ i = .int .i64 k ∧ Below w.heap.size w wr) (fun i _ => xs.length - (intOf i).toNat)
  case atStart => exact ⟨0, Nat.zero_le _, rfl, Below.refl _ _⟩
  case round =>
    obtain ⟨k, hk, rfl, hb⟩ := hrel
    have HB := Lib.hid hb
    clear hb
    by_cases hlt : k < xs.length
    · obtain ⟨b2, o2, c2, hv2, hc2, hcell2⟩ := HX.out.some (by omega)
      simp only [Value.slice.injEq] at hv2
      obtain ⟨rfl, _, rfl⟩ := hv2
      obtain ⟨b3, o3, c3, hv3, hc3, hcell3⟩ := HY.out.some (by omega)
      simp only [Value.slice.injEq] at hv3
      obtain ⟨rfl, _, rfl⟩ := hv3
      obtain ⟨e1, e2, e3, e4, e5, e6, e7, e8⟩ := (hcell2.below HB.out).at k hlt
      obtain ⟨e9, e10, e11, e12, e13, e14, e15, e16⟩ := (hcell3.below HB.out).at k hlt
      clear hcell2 hcell3
      have HLT := Lib.hid hlt
      generalize xs[k]'hlt = x at *
      have HP : Hid (∀ W, Calls Try.prog 39 #[.agg #[.string x.code, .string x.unt, .int .i64 x.kind, .int .i64 x.lead, .int .i64 x.rule, .int .i64 x.lsz, .int .i64 x.safe, .int .i64 x.scr], .agg #[.string x.code, .string x.unt, .int .i64 x.kind, .int .i64 x.lead, .int .i64 x.rule, .int .i64 x.lsz, .int .i64 x.safe, .int .i64 x.scr]] W fun e w' => e = .returned (.bool true) ∧ Below W.heap.size W w') := Lib.hid (fun W => IT.eq_one x W)
      go_upto_region 6 with fail
      go_region_held3 (fun W' => Hid (Below wr.heap.size wr W') ∧ W'.cell? ⟨b2, o2 + k * 8, none⟩ = some (.string x.code) ∧ W'.cell? ⟨b2, o2 + k * 8 + 1, none⟩ = some (.string x.unt) ∧ W'.cell? ⟨b2, o2 + k * 8 + 2, none⟩ = some (.int .i64 x.kind) ∧ W'.cell? ⟨b2, o2 + k * 8 + 3, none⟩ = some (.int .i64 x.lead) ∧ W'.cell? ⟨b2, o2 + k * 8 + 4, none⟩ = some (.int .i64 x.rule) ∧ W'.cell? ⟨b2, o2 + k * 8 + 5, none⟩ = some (.int .i64 x.lsz) ∧ W'.cell? ⟨b2, o2 + k * 8 + 6, none⟩ = some (.int .i64 x.safe) ∧ W'.cell? ⟨b2, o2 + k * 8 + 7, none⟩ = some (.int .i64 x.scr) ∧ W'.cell? ⟨b3, o3 + k * 8, none⟩ = some (.string x.code) ∧ W'.cell? ⟨b3, o3 + k * 8 + 1, none⟩ = some (.string x.unt) ∧ W'.cell? ⟨b3, o3 + k * 8 + 2, none⟩ = some (.int .i64 x.kind) ∧ W'.cell? ⟨b3, o3 + k * 8 + 3, none⟩ = some (.int .i64 x.lead) ∧ W'.cell? ⟨b3, o3 + k * 8 + 4, none⟩ = some (.int .i64 x.rule) ∧ W'.cell? ⟨b3, o3 + k * 8 + 5, none⟩ = some (.int .i64 x.lsz) ∧ W'.cell? ⟨b3, o3 + k * 8 + 6, none⟩ = some (.int .i64 x.safe) ∧ W'.cell? ⟨b3, o3 + k * 8 + 7, none⟩ = some (.int .i64 x.scr))
        (first | assumption | exact hold16 e1 e2 e3 e4 e5 e6 e7 e8 e9 e10 e11 e12 e13 e14 e15 e16 (hold_call (by assumption) (by assumption)) | exact hold16 e1 e2 e3 e4 e5 e6 e7 e8 e9 e10 e11 e12 e13 e14 e15 e16 (Below.refl _ _).drew)
        (first | (go_at_call 39; refine (HP.out _).mono ?_; rintro e w' ⟨rfl, hb⟩; have hle := hold_le (by assumption) hb))
      all_goals
        go_wp2_with fail
        go_roundw
        case rel => exact ⟨k + 1, by have := HLT.out; omega, by go_num, HB.out.trans ((by assumption : Hid (Below wr.heap.size wr _) ∧ _).1.out.mono HB.out.size)⟩
        case measure => have := HLT.out; simp [intOf]; omega
    · go_wp2
      go_ret
      exact ⟨rfl, HB.out⟩

/-- How large one is. -/
def IT.bytes (r : IT) : Nat := r.code.size + r.unt.size
def IT.bytesS (xs : List IT) : Nat := (xs.map IT.bytes).sum
theorem IT.bytesS_succ {xs : List IT} {k : Nat} (hk : k < xs.length) : IT.bytesS (xs.take (k + 1)) = IT.bytesS (xs.take k) + IT.bytes (xs[k]'hk) := by
  unfold IT.bytesS
  rw [List.take_succ_eq_append_getElem hk, List.map_append, List.sum_append]
  simp
theorem IT.bytesS_all {xs : List IT} {k : Nat} (hk : xs.length ≤ k) : IT.bytesS (xs.take k) = IT.bytesS xs := by rw [List.take_of_length_le hk]
/-- What is left behind one. -/
def IT.left (r : IT) (left : Int) : Int := if left < IT.bytes r then -1 else left - IT.bytes r

set_option maxRecDepth 100000 in
set_option maxHeartbeats 1000000 in
theorem IT.sz_one (r : IT) (left : Int) (w : World) (h0 : 0 ≤ left) (h1 : left ≤ 1048576) (hs : IT.Sz r) :
    Calls Try.prog 14 #[IT.val r, .int .i64 left] w fun e w' => e = .returned (.int .i64 (IT.left r left)) ∧ Below w.heap.size w w' := by
  obtain ⟨code, unt, kind, lead, rule, lsz, safe, scr⟩ := r
  unfold IT.val
  unfold IT.Sz maxLen at hs
  simp only at hs
  have hz0 : code.size ≤ _ := hs.1
  have hz1 : unt.size ≤ _ := hs.2
  have HB : Below w.heap.size w (w.alloc (.cells #[.string code, .string unt, .int .i64 kind, .int .i64 lead, .int .i64 rule, .int .i64 lsz, .int .i64 safe, .int .i64 scr] 30)) := (Below.refl _ _).alloc (Nat.le_refl _) _
  by_cases hc0 : left < (code.size : Int)
  · have HY : Hid (IT.left ⟨code, unt, kind, lead, rule, lsz, safe, scr⟩ left = -1) := Lib.hid (if_pos (by show left < ((code.size + unt.size : Nat) : Int); omega))
    go_enter Try.func14, Try.ntmps14
    go_wp2_with fail
    go_ret
    exact ⟨by rw [HY.out]; rfl, HB⟩
  by_cases hc1 : left < (code.size : Int) + (unt.size : Int)
  · have HY : Hid (IT.left ⟨code, unt, kind, lead, rule, lsz, safe, scr⟩ left = -1) := Lib.hid (if_pos (by show left < ((code.size + unt.size : Nat) : Int); omega))
    go_enter Try.func14, Try.ntmps14
    go_wp2_with fail
    go_ret
    exact ⟨by rw [HY.out]; rfl, HB⟩
  have HY : Hid (IT.left ⟨code, unt, kind, lead, rule, lsz, safe, scr⟩ left = left - code.size - unt.size) := Lib.hid (by
    unfold IT.left IT.bytes
    rw [if_neg (by show ¬left < ((code.size + unt.size : Nat) : Int); omega)]
    show left - ((code.size + unt.size : Nat) : Int) = _
    omega)
  go_enter Try.func14, Try.ntmps14
  go_wp2_with fail
  go_ret
  exact ⟨by rw [HY.out]; rfl, HB⟩

/-- What the size of a slice answers. -/
def IT.SzS (xs : List IT) (left : Int) (w : World) (e : Ending) (w' : World) : Prop := ∃ r : Int, e = .returned (.int .i64 r) ∧ -1 ≤ r ∧ r ≤ 1048576 ∧ (0 ≤ r → (xs.length : Int) + IT.bytesS xs ≤ left) ∧ Below w.heap.size w w'

set_option maxRecDepth 100000 in
set_option maxHeartbeats 1000000 in
theorem IT.sz_all (v : Value) (xs : List IT) (left : Int) (w : World) (h : IT.Is w v xs) (h0 : 0 ≤ left) (h1 : left ≤ 1048576) (hm : xs.length ≤ maxLen) (hs : ∀ r, r ∈ xs → IT.Sz r) :
    Calls Try.prog 18 #[v, .int .i64 left] w (IT.SzS xs left w) := by
  unfold maxLen at hm
  have HX := Lib.hid h
  have HS := Lib.hid hs
  obtain ⟨a, c, rfl⟩ := h.slice
  clear h hs
  by_cases hb : left < xs.length
  · go_enter Try.func18, Try.ntmps18
    go_wp2_with fail
    go_ret
    exact ⟨-1, rfl, by omega, by omega, by omega, Below.refl _ _⟩
  · go_enter Try.func18, Try.ntmps18
    go_wp2_with fail
    go_loopw [1, 5] (fun t i wr => ∃ (k : Nat) (m : Int), k ≤ xs.length ∧ i = .int .i64 k ∧ t = .int .i64 m ∧ 0 ≤ m ∧ m ≤ 1048576 ∧ Hid (m + xs.length + IT.bytesS (xs.take k) ≤ left) ∧ Hid (Below w.heap.size w wr)) (fun _ i _ => xs.length - (intOf i).toNat)
    case atStart => exact ⟨0, left - xs.length, Nat.zero_le _, rfl, rfl, by omega, by omega, Lib.hid (by simp [IT.bytesS]), Lib.hid (Below.refl _ _)⟩
    case round =>
      obtain ⟨k, m, hk, rfl, rfl, hm0, hm1, HSUM, HB⟩ := hrel
      by_cases hlt : k < xs.length
      · obtain ⟨b2, o2, c2, hv2, hc2, hcell2⟩ := HX.out.some (by omega)
        simp only [Value.slice.injEq] at hv2
        obtain ⟨rfl, _, rfl⟩ := hv2
        obtain ⟨e1, e2, e3, e4, e5, e6, e7, e8⟩ := (hcell2.below HB.out).at k hlt
        have HSU := Lib.hid (IT.bytesS_succ hlt)
        have hz := Lib.hid (HS.out _ (List.getElem_mem hlt))
        generalize xs[k]'hlt = x at *
        have HP := Lib.hid (IT.sz_one x m wr hm0 hm1 hz.out)
        unfold IT.val at HP
        clear hcell2 hc2
        by_cases hn : m < IT.bytes x
        · have HL : Hid (IT.left x m = -1) := Lib.hid (if_pos hn)
          clear hn
          go_wp2_with fail
          refine HP.out.mono ?_
          rintro e w2 ⟨rfl, hb2⟩
          rw [HL.out]
          go_wp2_with fail
          go_ret
          exact ⟨-1, rfl, by omega, by omega, by omega, HB.out.trans (hb2.mono HB.out.size)⟩
        · have HL : Hid (IT.left x m = m - IT.bytes x) := Lib.hid (if_neg hn)
          obtain ⟨z, hz2⟩ : ∃ z : Int, m - IT.bytes x = z := ⟨_, rfl⟩
          have hz0 : 0 ≤ z ∧ z ≤ 1048576 := by omega
          rw [hz2] at HL
          have HZ := Lib.hid hz2
          clear hn hz2
          go_wp2_with fail
          refine HP.out.mono ?_
          rintro e w2 ⟨rfl, hb2⟩
          rw [HL.out]
          go_wp2_with fail
          go_roundw
          case rel => exact ⟨k + 1, z, by omega, by go_num, rfl, hz0.1, hz0.2, Lib.hid (by rw [HSU.out]; have h9 := HSUM.out; have h8 := HZ.out; push_cast; omega), Lib.hid (HB.out.trans (hb2.mono HB.out.size))⟩
          case measure => simp [intOf]; omega
      · have HSU := Lib.hid (IT.bytesS_all (Nat.le_of_not_lt hlt))
        go_wp2_with fail
        go_ret
        exact ⟨m, rfl, by omega, by omega, fun _ => by have := HSUM.out; rw [HSU.out] at this; omega, HB.out⟩
end Go.Proofs.Ytmoeomeilbinhaa
