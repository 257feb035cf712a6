/-
  The model's AddWorkdays.
-/
import Derived.Test.YtkhonlcekjckoaaRows
import Derived.Test.YtkhonlcekjckoaaExcs
import Derived.Test.YtkhonlcekjckoaaCalLib
import Derived.Test.YtkhonlcekjckoaaCalRes
import Derived.Test.YtkhonlcekjckoaaCalHours
import Derived.Test.YtkhonlcekjckoaaCalCount
import Derived.Test.YtkhonlcekjckoaaCalIs
import Derived.Test.YtkhonlcekjckoaaSpecIn
import Derived.Test.YtkhonlcekjckoaaCalSpec
import Derived.Test.YtkhonlcekjckoaaHold
import Derived.WalkKit
import Derived.WalkSpells
import Derived.WalkSmall
import Derived.BigQuiet
import Derived.Deep.DeepCutAuto
import Derived.Deep.QuietTactic
import Derived.Deep.RegionHeld3
import Derived.IntWalk
import Derived.Lib.Hide
namespace Go.Proofs.Ytkhonlcekjckoaa
open Go.RowKit

/-- What AddWorkdays returns. -/
def AddEnd (ws : List Int) (es : List (Int × Int)) (day n : Int) (w : World) (e : Ending) (w' : World) : Prop := ∃ (x : Int) (y : Bool), e = .returned (.tuple #[.int .i64 x, .bool y]) ∧ AddRes ws es day n x y ∧ Below w.heap.size w w'

set_option maxRecDepth 100000 in
set_option maxHeartbeats 2000000 in
theorem spec_add0 (v : Value) (ws : List Int) (es : List (Int × Int)) (day n : Int) (w : World) (h : Cal w v ws es) (hm : es.length ≤ 1048577) (hn : n = 0) :
    Calls Try.prog 16 #[v, .int .i64 day, .int .i64 n] w (AddEnd ws es day n w) := by
  obtain ⟨vw, vx, rfl, hw, hx⟩ := h
  have HB : Below w.heap.size w (w.alloc (.cells #[vw, vx] 27)) := (Below.refl _ _).alloc (Nat.le_refl _) _
  have HR := heap_alloc_new w (.cells #[vw, vx] 27)
  have HC : Hid (Cal (w.alloc (.cells #[vw, vx] 27)) (.agg #[vw, vx]) ws es) := Lib.hid (Cal.below ⟨vw, vx, rfl, hw, hx⟩ HB)
  clear hw hx
  go_enter Try.func16, Try.ntmps16
  go_wp2_with fail
  generalize w.alloc (.cells #[vw, vx] 27) = w1 at *
  refine (spec_isCal _ ws es _ HC.out hm).mono ?_
  rintro e w2 ⟨rfl, hb⟩
  have HR2 := blk_below HR hb
  have HC2 := Lib.hid (HC.out.below hb)
  have HB2 := Lib.hid (HB.trans (hb.mono HB.size))
  have c0 := cell_of_row _ _ 0 _ _ _ HR2
  have c1 := cell_of_row _ _ 1 _ _ _ HR2
  clear hb HR HB HC
  by_cases hO : On ws es day
  · have hC := hO.1
    rw [decide_eq_true hC]
    have HI := Lib.hid (inB_yes hO.2.1 hO.2.2)
    obtain ⟨dn, rfl⟩ : ∃ dn : Nat, day = (dn : Int) := ⟨day.toNat, by have := hO.2.1; omega⟩
    have hd9 : dn ≤ 999 := by have := hO.2.2; omega
    have HV := Lib.hid hC
    have HO := Lib.hid hO
    clear hC hO
    go_wp2_with fail
    refine (spec_in_is _ _ _ _ _ HI.out).mono ?_
    rintro e w3 ⟨rfl, rfl⟩
    subst hn
    have HK := Lib.hid (addRes_yes HO.out (up_found (up_start HO.out (Int.le_refl 0) rfl) (wb_self _) hd9 (Int.le_refl 0)))
    go_wp2_with fail
    go_loopw [8, 9] (fun d k wr' => d = .int .i64 (dn : Int) ∧ k = .int .i64 (0) ∧ w3 = wr') (fun _ _ _ => 0)
    case atStart => exact ⟨rfl, rfl, rfl⟩
    case round =>
      obtain ⟨rfl, rfl, rfl⟩ := hrel
      go_wp2_with fail
      go_loopw [8, 9] (fun d k wr' => d = .int .i64 (dn : Int) ∧ k = .int .i64 (0) ∧ w3 = wr') (fun _ _ _ => 0)
      case atStart => exact ⟨rfl, rfl, rfl⟩
      case round =>
        obtain ⟨rfl, rfl, rfl⟩ := hrel
        go_wp2_with fail
        go_ret2
        exact ⟨_, _, rfl, HK.out, HB2.out⟩
  · have HRS := Lib.hid (addRes_off (n := n) hO)
    by_cases hC : IsCal ws es
    · rw [decide_eq_true hC]
      have HI := Lib.hid (inB_no (x := day) (lo := 0) (hi := 999) (by
        rcases Int.lt_or_le day 0 with h | h
        · exact Or.inl h
        · exact Or.inr (by rcases Int.lt_or_le 999 day with h' | h'; exact h'; exact absurd ⟨hC, h, h'⟩ hO)))
      clear hC hO
      go_wp2_with fail
      refine (spec_in_is _ _ _ _ _ HI.out).mono ?_
      rintro e w3 ⟨rfl, rfl⟩
      go_wp2_with fail
      go_ret2
      exact ⟨_, _, rfl, HRS.out, HB2.out⟩
    · rw [decide_eq_false hC]
      clear hC hO
      go_wp2_with fail
      go_ret2
      exact ⟨_, _, rfl, HRS.out, HB2.out⟩

set_option maxRecDepth 100000 in
set_option maxHeartbeats 2000000 in
theorem spec_addUp (v : Value) (ws : List Int) (es : List (Int × Int)) (day n : Int) (w : World) (h : Cal w v ws es) (hm : es.length ≤ 1048577) (hn : 0 < n) (hn1 : n ≤ 9223372036854775807) :
    Calls Try.prog 16 #[v, .int .i64 day, .int .i64 n] w (AddEnd ws es day n w) := by
  obtain ⟨vw, vx, rfl, hw, hx⟩ := h
  have HB : Below w.heap.size w (w.alloc (.cells #[vw, vx] 27)) := (Below.refl _ _).alloc (Nat.le_refl _) _
  have HR := heap_alloc_new w (.cells #[vw, vx] 27)
  have HC : Hid (Cal (w.alloc (.cells #[vw, vx] 27)) (.agg #[vw, vx]) ws es) := Lib.hid (Cal.below ⟨vw, vx, rfl, hw, hx⟩ HB)
  clear hw hx
  go_enter Try.func16, Try.ntmps16
  go_wp2_with fail
  generalize w.alloc (.cells #[vw, vx] 27) = w1 at *
  refine (spec_isCal _ ws es _ HC.out hm).mono ?_
  rintro e w2 ⟨rfl, hb⟩
  have HR2 := blk_below HR hb
  have HC2 := Lib.hid (HC.out.below hb)
  have HB2 := Lib.hid (HB.trans (hb.mono HB.size))
  have c0 := cell_of_row _ _ 0 _ _ _ HR2
  have c1 := cell_of_row _ _ 1 _ _ _ HR2
  clear hb HR HB HC
  by_cases hO : On ws es day
  · have hC := hO.1
    rw [decide_eq_true hC]
    have HI := Lib.hid (inB_yes hO.2.1 hO.2.2)
    obtain ⟨dn, rfl⟩ : ∃ dn : Nat, day = (dn : Int) := ⟨day.toNat, by have := hO.2.1; omega⟩
    have hd9 : dn ≤ 999 := by have := hO.2.2; omega
    have HV := Lib.hid hC
    have HO := Lib.hid hO
    clear hC hO
    go_wp2_with fail
    refine (spec_in_is _ _ _ _ _ HI.out).mono ?_
    rintro e w3 ⟨rfl, rfl⟩
    have HN0 := Lib.hid hn
    go_wp2_with fail
    go_loopw [8, 9] (fun d k wr => ∃ q : Nat, d = .int .i64 q ∧ k = .int .i64 (n - wb ws es dn q) ∧ Up ws es dn n q ∧ Below w3.heap.size w3 wr) (fun d _ _ => 1000 - (intOf d).toNat)
    case atStart => exact ⟨dn, rfl, by rw [wb_self, Int.sub_zero], up_start HO.out (by omega) rfl, Below.refl _ _⟩
    case round =>
      obtain ⟨q, rfl, rfl, hu, hb⟩ := hrel
      have HU := Lib.hid hu
      have hq1000 := hu.2.1
      have hq0 := hu.2.2.1
      have hwb := wb_bound HV.out dn q
      have hpos := wb_nonneg HV.out hu.1
      clear hu c0 c1
      have HR3 := blk_below HR2 hb
      have c0 := cell_of_row _ _ 0 _ _ _ HR3
      have c1 := cell_of_row _ _ 1 _ _ _ HR3
      by_cases hk : wb ws es dn q < n
      · by_cases hq : q < 1000
        · have HN := Lib.hid (wb_succ (ws := ws) (es := es) (a := dn) hq)
          have HU2 := Lib.hid (up_step HO.out HU.out hk hq)
          have hbit := wOf_bit HV.out q
          generalize wb ws es dn q = s at *
          go_wp2_with fail
          refine (spec_hours _ ws es q _ (HC2.out.below hb) HV.out (by omega)).mono ?_
          rintro e w4 ⟨rfl, hb4⟩
          have HB4 := Lib.hid (hb.trans (hb4.mono hb.size))
          clear hb4 c0 c1 HR3
          rcases hbit with ⟨e1, e2⟩ | ⟨e1, e2⟩
          all_goals rw [e1] at HN
          all_goals generalize hOf ws es q = x0 at *
          all_goals clear e1
          all_goals (try subst e2)
          all_goals
            go_wp2_with fail
            go_roundw
            case rel => exact ⟨q + 1, by go_num, congrArg (Value.int .i64) (by push_cast; rw [HN.out]; first | omega | (split <;> omega)), HU2.out, HB4.out⟩
            case measure => simp [intOf]; omega
        · have HK := Lib.hid (up_none HU.out (by omega) (Int.le_of_lt HN0.out))
          generalize wb ws es dn q = s at *
          go_wp2_with fail
          go_loopw [8, 9] (fun d k wr' => d = .int .i64 (q : Int) ∧ k = .int .i64 (n - s) ∧ wr = wr') (fun _ _ _ => 0)
          case atStart => exact ⟨rfl, rfl, rfl⟩
          case round =>
            obtain ⟨rfl, rfl, rfl⟩ := hrel
            go_wp2_with fail
            go_ret2
            exact ⟨_, _, rfl, HK.out, HB2.out.trans (hb.mono HB2.out.size)⟩
      · by_cases hq : q < 1000
        · have HK := Lib.hid (addRes_yes HO.out (up_found HU.out (by omega) (by omega) (Int.le_of_lt HN0.out)))
          have hsn : n - wb ws es dn q = 0 := by omega
          rw [hsn]
          clear hsn
          generalize wb ws es dn q = s at *
          go_wp2_with fail
          go_loopw [8, 9] (fun d k wr' => d = .int .i64 (q : Int) ∧ k = .int .i64 (0) ∧ wr = wr') (fun _ _ _ => 0)
          case atStart => exact ⟨rfl, rfl, rfl⟩
          case round =>
            obtain ⟨rfl, rfl, rfl⟩ := hrel
            go_wp2_with fail
            go_ret2
            exact ⟨_, _, rfl, HK.out, HB2.out.trans (hb.mono HB2.out.size)⟩
        · have HK := Lib.hid (up_none HU.out (by omega) (Int.le_of_lt HN0.out))
          have hsn : n - wb ws es dn q = 0 := by omega
          rw [hsn]
          clear hsn
          generalize wb ws es dn q = s at *
          go_wp2_with fail
          go_loopw [8, 9] (fun d k wr' => d = .int .i64 (q : Int) ∧ k = .int .i64 (0) ∧ wr = wr') (fun _ _ _ => 0)
          case atStart => exact ⟨rfl, rfl, rfl⟩
          case round =>
            obtain ⟨rfl, rfl, rfl⟩ := hrel
            go_wp2_with fail
            go_ret2
            exact ⟨_, _, rfl, HK.out, HB2.out.trans (hb.mono HB2.out.size)⟩
  · have HRS := Lib.hid (addRes_off (n := n) hO)
    by_cases hC : IsCal ws es
    · rw [decide_eq_true hC]
      have HI := Lib.hid (inB_no (x := day) (lo := 0) (hi := 999) (by
        rcases Int.lt_or_le day 0 with h | h
        · exact Or.inl h
        · exact Or.inr (by rcases Int.lt_or_le 999 day with h' | h'; exact h'; exact absurd ⟨hC, h, h'⟩ hO)))
      clear hC hO
      go_wp2_with fail
      refine (spec_in_is _ _ _ _ _ HI.out).mono ?_
      rintro e w3 ⟨rfl, rfl⟩
      go_wp2_with fail
      go_ret2
      exact ⟨_, _, rfl, HRS.out, HB2.out⟩
    · rw [decide_eq_false hC]
      clear hC hO
      go_wp2_with fail
      go_ret2
      exact ⟨_, _, rfl, HRS.out, HB2.out⟩

set_option maxRecDepth 100000 in
set_option maxHeartbeats 2000000 in
theorem spec_addDown (v : Value) (ws : List Int) (es : List (Int × Int)) (day n : Int) (w : World) (h : Cal w v ws es) (hm : es.length ≤ 1048577) (hn : n < 0) (hn1 : -9223372036854775808 ≤ n) :
    Calls Try.prog 16 #[v, .int .i64 day, .int .i64 n] w (AddEnd ws es day n w) := by
  obtain ⟨vw, vx, rfl, hw, hx⟩ := h
  have HB : Below w.heap.size w (w.alloc (.cells #[vw, vx] 27)) := (Below.refl _ _).alloc (Nat.le_refl _) _
  have HR := heap_alloc_new w (.cells #[vw, vx] 27)
  have HC : Hid (Cal (w.alloc (.cells #[vw, vx] 27)) (.agg #[vw, vx]) ws es) := Lib.hid (Cal.below ⟨vw, vx, rfl, hw, hx⟩ HB)
  clear hw hx
  go_enter Try.func16, Try.ntmps16
  go_wp2_with fail
  generalize w.alloc (.cells #[vw, vx] 27) = w1 at *
  refine (spec_isCal _ ws es _ HC.out hm).mono ?_
  rintro e w2 ⟨rfl, hb⟩
  have HR2 := blk_below HR hb
  have HC2 := Lib.hid (HC.out.below hb)
  have HB2 := Lib.hid (HB.trans (hb.mono HB.size))
  have c0 := cell_of_row _ _ 0 _ _ _ HR2
  have c1 := cell_of_row _ _ 1 _ _ _ HR2
  clear hb HR HB HC
  by_cases hO : On ws es day
  · have hC := hO.1
    rw [decide_eq_true hC]
    have HI := Lib.hid (inB_yes hO.2.1 hO.2.2)
    obtain ⟨dn, rfl⟩ : ∃ dn : Nat, day = (dn : Int) := ⟨day.toNat, by have := hO.2.1; omega⟩
    have hd9 : dn ≤ 999 := by have := hO.2.2; omega
    have HV := Lib.hid hC
    have HO := Lib.hid hO
    clear hC hO
    go_wp2_with fail
    refine (spec_in_is _ _ _ _ _ HI.out).mono ?_
    rintro e w3 ⟨rfl, rfl⟩
    have HN0 := Lib.hid hn
    go_wp2_with fail
    go_loopw [8, 9] (fun d k wr' => d = .int .i64 (dn : Int) ∧ k = .int .i64 (n) ∧ w3 = wr') (fun _ _ _ => 0)
    case atStart => exact ⟨rfl, rfl, rfl⟩
    case round =>
      obtain ⟨rfl, rfl, rfl⟩ := hrel
      go_wp2_with fail
      go_loopw [8, 9] (fun d k wr => ∃ q : Nat, d = .int .i64 q ∧ k = .int .i64 (n - wb ws es dn q) ∧ Down ws es dn n q ∧ Below w3.heap.size w3 wr) (fun d _ _ => (intOf d).toNat)
      case atStart => exact ⟨dn, rfl, by rw [wb_self, Int.sub_zero], down_start (by omega) rfl, Below.refl _ _⟩
      case round =>
        obtain ⟨q, rfl, rfl, hu, hb⟩ := hrel
        have HU := Lib.hid hu
        have hqd := hu.1
        have hq0 := hu.2.1
        have hwb := wb_bound HV.out dn q
        have hpos : wb ws es dn q ≤ 0 := by
          have h1 := wb_nonneg HV.out hu.1
          rw [wb_neg] at h1
          omega
        clear hu c0 c1
        have HR3 := blk_below HR2 hb
        have c0 := cell_of_row _ _ 0 _ _ _ HR3
        have c1 := cell_of_row _ _ 1 _ _ _ HR3
        by_cases hk : n < wb ws es dn q
        · by_cases hq : 0 < q
          · obtain ⟨p, rfl⟩ : ∃ p, q = p + 1 := ⟨q - 1, by omega⟩
            have HN : Hid (wb ws es dn ((p + 1 : Nat) : Int) = wb ws es dn p + wOf ws es p) := Lib.hid (by push_cast; exact wb_succ (by omega))
            have HU2 := Lib.hid (down_step HO.out HU.out hk)
            have hbit := wOf_bit HV.out p
            generalize wb ws es dn ((p + 1 : Nat) : Int) = s at *
            go_wp2_with fail
            refine (spec_hours _ ws es p _ (HC2.out.below hb) HV.out (by omega)).mono ?_
            rintro e w4 ⟨rfl, hb4⟩
            have HB4 := Lib.hid (hb.trans (hb4.mono hb.size))
            clear hb4 c0 c1 HR3
            rcases hbit with ⟨e1, e2⟩ | ⟨e1, e2⟩
            all_goals rw [e1] at HN
            all_goals generalize hOf ws es p = x0 at *
            all_goals clear e1
            all_goals (try subst e2)
            all_goals
              go_wp2_with fail
              go_roundw
              case rel => exact ⟨p, by go_num, congrArg (Value.int .i64) (by have := HN.out; first | omega | (split <;> omega)), HU2.out, HB4.out⟩
              case measure => simp [intOf]
          · obtain rfl : q = 0 := by omega
            have HK := Lib.hid (down_none HU.out hk HN0.out)
            generalize wb ws es dn ((0 : Nat) : Int) = s at *
            go_wp2_with fail
            go_ret2
            exact ⟨_, _, rfl, HK.out, HB2.out.trans (hb.mono HB2.out.size)⟩
        · have HK := Lib.hid (addRes_yes HO.out (down_found HO.out HU.out (by omega) HN0.out))
          have hsn : n - wb ws es dn q = 0 := by omega
          rw [hsn]
          clear hsn
          generalize wb ws es dn q = s at *
          go_wp2_with fail
          go_ret2
          exact ⟨_, _, rfl, HK.out, HB2.out.trans (hb.mono HB2.out.size)⟩
  · have HRS := Lib.hid (addRes_off (n := n) hO)
    by_cases hC : IsCal ws es
    · rw [decide_eq_true hC]
      have HI := Lib.hid (inB_no (x := day) (lo := 0) (hi := 999) (by
        rcases Int.lt_or_le day 0 with h | h
        · exact Or.inl h
        · exact Or.inr (by rcases Int.lt_or_le 999 day with h' | h'; exact h'; exact absurd ⟨hC, h, h'⟩ hO)))
      clear hC hO
      go_wp2_with fail
      refine (spec_in_is _ _ _ _ _ HI.out).mono ?_
      rintro e w3 ⟨rfl, rfl⟩
      go_wp2_with fail
      go_ret2
      exact ⟨_, _, rfl, HRS.out, HB2.out⟩
    · rw [decide_eq_false hC]
      clear hC hO
      go_wp2_with fail
      go_ret2
      exact ⟨_, _, rfl, HRS.out, HB2.out⟩

theorem spec_add (v : Value) (ws : List Int) (es : List (Int × Int)) (day n : Int) (w : World) (h : Cal w v ws es) (hm : es.length ≤ 1048577) (h0 : -9223372036854775808 ≤ n) (h1 : n ≤ 9223372036854775807) :
    Calls Try.prog 16 #[v, .int .i64 day, .int .i64 n] w (AddEnd ws es day n w) := by
  rcases Int.lt_trichotomy n 0 with c | c | c
  · exact spec_addDown v ws es day n w h hm c h0
  · exact spec_add0 v ws es day n w h hm c
  · exact spec_addUp v ws es day n w h hm c h1
end Go.Proofs.Ytkhonlcekjckoaa
