/-
  The model's FinishDay.
-/
import Derived.Test.YtkhonlcekjckoaaRows
import Derived.Test.YtkhonlcekjckoaaExcs
import Derived.Test.YtkhonlcekjckoaaCalLib
import Derived.Test.YtkhonlcekjckoaaCalRes
import Derived.Test.YtkhonlcekjckoaaCalHours
import Derived.Test.YtkhonlcekjckoaaCalCount
import Derived.Test.YtkhonlcekjckoaaCalIs
import Derived.Test.YtkhonlcekjckoaaSpecIn
import Derived.Test.YtkhonlcekjckoaaCalSpec
import Derived.Test.YtkhonlcekjckoaaHold
import Derived.WalkKit
import Derived.WalkSpells
import Derived.WalkSmall
import Derived.BigQuiet
import Derived.Deep.DeepCutAuto
import Derived.Deep.QuietTactic
import Derived.Deep.RegionHeld3
import Derived.IntWalk
import Derived.Lib.Hide
namespace Go.Proofs.Ytkhonlcekjckoaa
open Go.RowKit

/-- What FinishDay returns. -/
def FinEnd (ws : List Int) (es : List (Int × Int)) (day n : Int) (w : World) (e : Ending) (w' : World) : Prop := ∃ (x : Int) (y : Bool), e = .returned (.tuple #[.int .i64 x, .bool y]) ∧ FinRes ws es day n x y ∧ Below w.heap.size w w'

set_option maxRecDepth 100000 in
set_option maxHeartbeats 2000000 in
theorem spec_fin (v : Value) (ws : List Int) (es : List (Int × Int)) (day n : Int) (w : World) (h : Cal w v ws es) (hm : es.length ≤ 1048577) (hn1 : n ≤ 9223372036854775807) :
    Calls Try.prog 26 #[v, .int .i64 day, .int .i64 n] w (FinEnd ws es day n w) := by
  obtain ⟨vw, vx, rfl, hw, hx⟩ := h
  have HB : Below w.heap.size w (w.alloc (.cells #[vw, vx] 27)) := (Below.refl _ _).alloc (Nat.le_refl _) _
  have HR := heap_alloc_new w (.cells #[vw, vx] 27)
  have HC : Hid (Cal (w.alloc (.cells #[vw, vx] 27)) (.agg #[vw, vx]) ws es) := Lib.hid (Cal.below ⟨vw, vx, rfl, hw, hx⟩ HB)
  clear hw hx
  go_enter Try.func26, Try.ntmps26
  go_wp2_with fail
  generalize w.alloc (.cells #[vw, vx] 27) = w1 at *
  refine (spec_isCal _ ws es _ HC.out hm).mono ?_
  rintro e w2 ⟨rfl, hb⟩
  have HR2 := blk_below HR hb
  have HC2 := Lib.hid (HC.out.below hb)
  have HB2 := Lib.hid (HB.trans (hb.mono HB.size))
  have c0 := cell_of_row _ _ 0 _ _ _ HR2
  have c1 := cell_of_row _ _ 1 _ _ _ HR2
  clear hb HR HB HC
  by_cases hO : On ws es day
  · have hC := hO.1
    rw [decide_eq_true hC]
    have HI := Lib.hid (inB_yes hO.2.1 hO.2.2)
    obtain ⟨dn, rfl⟩ : ∃ dn : Nat, day = (dn : Int) := ⟨day.toNat, by have := hO.2.1; omega⟩
    have hd9 : dn ≤ 999 := by have := hO.2.2; omega
    have HV := Lib.hid hC
    have HO := Lib.hid hO
    clear hC hO
    go_wp2_with fail
    refine (spec_in_is _ _ _ _ _ HI.out).mono ?_
    rintro e w3 ⟨rfl, rfl⟩
    by_cases hn : 1 ≤ n
    · have HN1 := Lib.hid hn
      go_wp2_with fail
      go_loopw [8, 9] (fun k d wr => ∃ q : Nat, d = .int .i64 q ∧ k = .int .i64 (n - hrs ws es dn q) ∧ dn ≤ q ∧ q ≤ 1000 ∧ hrs ws es dn q < n ∧ Below w3.heap.size w3 wr) (fun _ d _ => 1000 - (intOf d).toNat)
      case atStart => exact ⟨dn, rfl, by rw [hrs_self, Int.sub_zero], Nat.le_refl _, by omega, by rw [hrs_self]; omega, Below.refl _ _⟩
      case round =>
        obtain ⟨q, rfl, rfl, hq0, hq1, hlt, hb⟩ := hrel
        have hbd := hrs_bound HV.out dn q
        clear c0 c1
        have HR3 := blk_below HR2 hb
        have c0 := cell_of_row _ _ 0 _ _ _ HR3
        have c1 := cell_of_row _ _ 1 _ _ _ HR3
        by_cases hq : q < 1000
        · have HN := Lib.hid (hrs_succ (ws := ws) (es := es) (a := dn) (d := q) (by omega) hq)
          have HLT := Lib.hid hlt
          have hob := hOf_bound HV.out q
          go_wp2_with fail
          refine (spec_hours _ ws es q _ (HC2.out.below hb) HV.out (by omega)).mono ?_
          rintro e w4 ⟨rfl, hb4⟩
          have HB4 := Lib.hid (hb.trans (hb4.mono hb.size))
          clear hb4 c0 c1 HR3
          by_cases hdone : n ≤ hrs ws es dn q + hOf ws es q
          · have HK := Lib.hid (finRes_yes HO.out HN1.out ⟨by omega, by omega, by rw [HN.out]; exact hdone, HLT.out⟩)
            generalize hOf ws es q = x0 at *
            generalize hrs ws es dn q = s at *
            go_wp2_with fail
            go_ret2
            exact ⟨_, _, rfl, HK.out, HB2.out.trans (HB4.out.mono HB2.out.size)⟩
          · have HL2 : Hid (hrs ws es dn ((q + 1 : Nat) : Int) < n) := Lib.hid (by push_cast; rw [HN.out]; omega)
            have HE2 : Hid (n - hrs ws es dn ((q + 1 : Nat) : Int) = n - hrs ws es dn q - hOf ws es q) := Lib.hid (by push_cast; rw [HN.out]; omega)
            generalize hOf ws es q = x0 at *
            generalize hrs ws es dn q = s at *
            go_wp2_with fail
            go_roundw
            case rel => exact ⟨q + 1, by go_num, congrArg (Value.int .i64) HE2.out.symm, by omega, by omega, HL2.out, HB4.out⟩
            case measure => simp [intOf]; omega
        · have hqe : q = 1000 := by omega
          have HK := Lib.hid (fin_none (day := dn) (n := n) HV.out (by subst hqe; exact hlt))
          clear hqe
          generalize hrs ws es dn q = s at *
          go_wp2_with fail
          go_ret2
          exact ⟨_, _, rfl, HK.out, HB2.out.trans (hb.mono HB2.out.size)⟩
    · have HK := Lib.hid (finRes_off (ws := ws) (es := es) (day := dn) (n := n) (fun h => hn h.2))
      have b1 : decide (n < 1) = true := decide_eq_true (by omega)
      clear hn
      go_wp2_with fail
      go_ret2
      exact ⟨_, _, rfl, HK.out, HB2.out⟩
  · have HRS := Lib.hid (finRes_off (n := n) (fun h => hO h.1))
    by_cases hC : IsCal ws es
    · rw [decide_eq_true hC]
      have HI := Lib.hid (inB_no (x := day) (lo := 0) (hi := 999) (by
        rcases Int.lt_or_le day 0 with h | h
        · exact Or.inl h
        · exact Or.inr (by rcases Int.lt_or_le 999 day with h' | h'; exact h'; exact absurd ⟨hC, h, h'⟩ hO)))
      clear hC hO
      go_wp2_with fail
      refine (spec_in_is _ _ _ _ _ HI.out).mono ?_
      rintro e w3 ⟨rfl, rfl⟩
      go_wp2_with fail
      go_ret2
      exact ⟨_, _, rfl, HRS.out, HB2.out⟩
    · rw [decide_eq_false hC]
      clear hC hO
      go_wp2_with fail
      go_ret2
      exact ⟨_, _, rfl, HRS.out, HB2.out⟩
end Go.Proofs.Ytkhonlcekjckoaa
