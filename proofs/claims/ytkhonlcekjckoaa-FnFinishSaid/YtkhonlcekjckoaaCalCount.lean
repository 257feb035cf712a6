/-
  The model's l4Count: hours or workdays of the days between two.
-/
import Derived.Test.YtkhonlcekjckoaaRows
import Derived.Test.YtkhonlcekjckoaaExcs
import Derived.Test.YtkhonlcekjckoaaCalLib
import Derived.Test.YtkhonlcekjckoaaCalHours
import Derived.Test.YtkhonlcekjckoaaHold
import Derived.WalkKit
import Derived.WalkSpells
import Derived.WalkSmall
import Derived.BigQuiet
import Derived.Deep.QuietTactic
import Derived.Lib.Hide
namespace Go.Proofs.Ytkhonlcekjckoaa
open Go.RowKit

set_option maxRecDepth 100000 in
set_option maxHeartbeats 1000000 in
theorem spec_countH (v : Value) (ws : List Int) (es : List (Int × Int)) (a b : Int) (w : World) (h : Cal w v ws es) (hv : IsCal ws es) :
    Calls Try.prog 46 #[v, .int .i64 a, .int .i64 b, .bool true] w (NumRes (cnt (hOf ws es) a b) w) := by
  obtain ⟨vw, vx, rfl, hw, hx⟩ := h
  have HV := Lib.hid hv
  have HB : Below w.heap.size w (w.alloc (.cells #[vw, vx] 27)) := (Below.refl _ _).alloc (Nat.le_refl _) _
  have HR := heap_alloc_new w (.cells #[vw, vx] 27)
  have HC : Hid (Cal (w.alloc (.cells #[vw, vx] 27)) (.agg #[vw, vx]) ws es) := Lib.hid (Cal.below ⟨vw, vx, rfl, hw, hx⟩ HB)
  clear hv hw hx
  go_enter Try.func46, Try.ntmps46
  go_wp2_with fail
  all_goals generalize w.alloc (.cells #[vw, vx] 27) = w1 at *
  all_goals
    go_loopw [9, 10] (fun n d wr => ∃ k : Nat, d = .int .i64 k ∧ n = .int .i64 (cnt (hOf ws es) a k) ∧ max a 0 ≤ (k : Int) ∧ (k : Int) ≤ max b (max a 0) ∧ Below w1.heap.size w1 wr) (fun _ d _ => 1000 - (intOf d).toNat)
    case atStart => first | exact ⟨0, rfl, by rw [cnt_start _ (by omega)], by omega, by omega, Below.refl _ _⟩ | exact ⟨a.toNat, by rw [Int.toNat_of_nonneg (by omega)], by rw [cnt_start _ (by omega)], by omega, by omega, Below.refl _ _⟩
    case round =>
      obtain ⟨k, rfl, rfl, hk0, hk1, hb⟩ := hrel
      have hbd := cnt_bound (f := hOf ws es) (B := 24) (fun d => hOf_bound HV.out d) a k
      have HR2 := blk_below HR hb
      have c0 := cell_of_row _ _ 0 _ _ _ HR2
      have c1 := cell_of_row _ _ 1 _ _ _ HR2
      by_cases hkb : (k : Int) < b
      · by_cases h9 : (k : Int) ≤ 999
        · have HST := Lib.hid (cnt_step (hOf ws es) (a := a) hk0 (show k < 1000 by omega))
          have hf := hOf_bound HV.out k
          generalize cnt (hOf ws es) a (k : Int) = n0 at *
          go_wp2_with fail
          refine (spec_hours _ ws es k _ (HC.out.below hb) HV.out (by omega)).mono ?_
          rintro e w2 ⟨rfl, hb2⟩
          have HB2 := Lib.hid (hb.trans (hb2.mono hb.size))
          clear hb2 c0 c1 HR2
          generalize hOf ws es k = x0 at *
          go_wp2_with fail
          go_roundw
          case rel => exact ⟨k + 1, by go_num, by rw [HST.out], by omega, by omega, HB2.out⟩
          case measure => simp [intOf]; omega
        · have HE := Lib.hid (cnt_end (hOf ws es) hk0 hk1 (Or.inr (by omega)))
          generalize cnt (hOf ws es) a (k : Int) = n0 at *
          go_wp2
          go_ret
          exact ⟨by rw [← HE.out]; rfl, HB.trans (hb.mono HB.size)⟩
      · have HE := Lib.hid (cnt_end (hOf ws es) hk0 hk1 (Or.inl (by omega)))
        generalize cnt (hOf ws es) a (k : Int) = n0 at *
        go_wp2
        go_ret
        exact ⟨by rw [← HE.out]; rfl, HB.trans (hb.mono HB.size)⟩

set_option maxRecDepth 100000 in
set_option maxHeartbeats 1000000 in
theorem spec_countW (v : Value) (ws : List Int) (es : List (Int × Int)) (a b : Int) (w : World) (h : Cal w v ws es) (hv : IsCal ws es) :
    Calls Try.prog 46 #[v, .int .i64 a, .int .i64 b, .bool false] w (NumRes (cnt (wOf ws es) a b) w) := by
  obtain ⟨vw, vx, rfl, hw, hx⟩ := h
  have HV := Lib.hid hv
  have HB : Below w.heap.size w (w.alloc (.cells #[vw, vx] 27)) := (Below.refl _ _).alloc (Nat.le_refl _) _
  have HR := heap_alloc_new w (.cells #[vw, vx] 27)
  have HC : Hid (Cal (w.alloc (.cells #[vw, vx] 27)) (.agg #[vw, vx]) ws es) := Lib.hid (Cal.below ⟨vw, vx, rfl, hw, hx⟩ HB)
  clear hv hw hx
  go_enter Try.func46, Try.ntmps46
  go_wp2_with fail
  all_goals generalize w.alloc (.cells #[vw, vx] 27) = w1 at *
  all_goals
    go_loopw [9, 10] (fun n d wr => ∃ k : Nat, d = .int .i64 k ∧ n = .int .i64 (cnt (wOf ws es) a k) ∧ max a 0 ≤ (k : Int) ∧ (k : Int) ≤ max b (max a 0) ∧ Below w1.heap.size w1 wr) (fun _ d _ => 1000 - (intOf d).toNat)
    case atStart => first | exact ⟨0, rfl, by rw [cnt_start _ (by omega)], by omega, by omega, Below.refl _ _⟩ | exact ⟨a.toNat, by rw [Int.toNat_of_nonneg (by omega)], by rw [cnt_start _ (by omega)], by omega, by omega, Below.refl _ _⟩
    case round =>
      obtain ⟨k, rfl, rfl, hk0, hk1, hb⟩ := hrel
      have hbd := cnt_bound (f := wOf ws es) (B := 24) (fun d => by have := wOf_bit HV.out d; omega) a k
      have HR2 := blk_below HR hb
      have c0 := cell_of_row _ _ 0 _ _ _ HR2
      have c1 := cell_of_row _ _ 1 _ _ _ HR2
      by_cases hkb : (k : Int) < b
      · by_cases h9 : (k : Int) ≤ 999
        · have HST := Lib.hid (cnt_step (wOf ws es) (a := a) hk0 (show k < 1000 by omega))
          have hf := hOf_bound HV.out k
          generalize cnt (wOf ws es) a (k : Int) = n0 at *
          go_wp2_with fail
          refine (spec_hours _ ws es k _ (HC.out.below hb) HV.out (by omega)).mono ?_
          rintro e w2 ⟨rfl, hb2⟩
          have HB2 := Lib.hid (hb.trans (hb2.mono hb.size))
          clear hb2 c0 c1 HR2
          have HWB := wOf_bit HV.out k
          rcases HWB with ⟨e1, e2⟩ | ⟨e1, e2⟩
          all_goals rw [e1] at HST
          all_goals generalize hOf ws es k = x0 at *
          all_goals clear e1
          all_goals (try subst e2)
          all_goals
            go_wp2_with fail
            go_roundw
            case rel => exact ⟨k + 1, by go_num, congrArg (Value.int .i64) (by rw [HST.out]; first | omega | (split <;> omega)), by omega, by omega, HB2.out⟩
            case measure => simp [intOf]; omega
        · have HE := Lib.hid (cnt_end (wOf ws es) hk0 hk1 (Or.inr (by omega)))
          generalize cnt (wOf ws es) a (k : Int) = n0 at *
          go_wp2
          go_ret
          exact ⟨by rw [← HE.out]; rfl, HB.trans (hb.mono HB.size)⟩
      · have HE := Lib.hid (cnt_end (wOf ws es) hk0 hk1 (Or.inl (by omega)))
        generalize cnt (wOf ws es) a (k : Int) = n0 at *
        go_wp2
        go_ret
        exact ⟨by rw [← HE.out]; rfl, HB.trans (hb.mono HB.size)⟩
end Go.Proofs.Ytkhonlcekjckoaa
