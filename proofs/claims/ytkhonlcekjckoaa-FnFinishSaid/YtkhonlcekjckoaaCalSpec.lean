/-
  The model's HoursOn, HoursBetween, WorkdaysBetween.
-/
import Derived.Test.YtkhonlcekjckoaaRows
import Derived.Test.YtkhonlcekjckoaaExcs
import Derived.Test.YtkhonlcekjckoaaCalLib
import Derived.Test.YtkhonlcekjckoaaCalRes
import Derived.Test.YtkhonlcekjckoaaCalHours
import Derived.Test.YtkhonlcekjckoaaCalCount
import Derived.Test.YtkhonlcekjckoaaCalIs
import Derived.Test.YtkhonlcekjckoaaSpecIn
import Derived.Test.YtkhonlcekjckoaaHold
import Derived.WalkKit
import Derived.WalkSpells
import Derived.WalkSmall
import Derived.BigQuiet
import Derived.Deep.DeepCutAuto
import Derived.Deep.QuietTactic
import Derived.Deep.RegionHeld3
import Derived.IntWalk
import Derived.Lib.Hide
namespace Go.Proofs.Ytkhonlcekjckoaa
open Go.RowKit

/-- The hours of a day. -/
def hon (ws : List Int) (es : List (Int × Int)) (d : Int) : Int := if On ws es d then hOf ws es d.toNat else 0
/-- The hours between two days; none in a calendar that is not valid. -/
def hbt (ws : List Int) (es : List (Int × Int)) (a b : Int) : Int := if IsCal ws es then hrs ws es a b else 0
/-- The workdays between two days; none in a calendar that is not valid. -/
def wbt (ws : List Int) (es : List (Int × Int)) (a b : Int) : Int := if IsCal ws es then wb ws es a b else 0

set_option maxRecDepth 100000 in
set_option maxHeartbeats 1000000 in
theorem spec_hoursOn (v : Value) (ws : List Int) (es : List (Int × Int)) (d : Int) (w : World) (h : Cal w v ws es) (hm : es.length ≤ 1048577) :
    Calls Try.prog 31 #[v, .int .i64 d] w (NumRes (hon ws es d) w) := by
  obtain ⟨vw, vx, rfl, hw, hx⟩ := h
  have HB : Below w.heap.size w (w.alloc (.cells #[vw, vx] 27)) := (Below.refl _ _).alloc (Nat.le_refl _) _
  have HR := heap_alloc_new w (.cells #[vw, vx] 27)
  have HC : Hid (Cal (w.alloc (.cells #[vw, vx] 27)) (.agg #[vw, vx]) ws es) := Lib.hid (Cal.below ⟨vw, vx, rfl, hw, hx⟩ HB)
  clear hw hx
  go_enter Try.func31, Try.ntmps31
  go_wp2_with fail
  generalize w.alloc (.cells #[vw, vx] 27) = w1 at *
  refine (spec_isCal _ ws es _ HC.out hm).mono ?_
  rintro e w2 ⟨rfl, hb⟩
  have HR2 := blk_below HR hb
  have HC2 := Lib.hid (HC.out.below hb)
  have HB2 := Lib.hid (HB.trans (hb.mono HB.size))
  have c0 := cell_of_row _ _ 0 _ _ _ HR2
  have c1 := cell_of_row _ _ 1 _ _ _ HR2
  clear hb HR HB HC
  by_cases hC : IsCal ws es
  · rw [decide_eq_true hC]
    by_cases hd : 0 ≤ d ∧ d ≤ 999
    · have HI := Lib.hid (inB_yes hd.1 hd.2)
      have HH : Hid (hon ws es d = hOf ws es d.toNat) := Lib.hid (if_pos ⟨hC, hd.1, hd.2⟩)
      obtain ⟨n, rfl⟩ : ∃ n : Nat, d = (n : Int) := ⟨d.toNat, by omega⟩
      rw [Int.toNat_natCast] at HH
      have HV := Lib.hid hC
      clear hC
      go_wp2_with fail
      refine (spec_in_is _ _ _ _ _ HI.out).mono ?_
      rintro e w3 ⟨rfl, rfl⟩
      go_wp2_with fail
      refine (spec_hours _ ws es n _ HC2.out HV.out (by omega)).mono ?_
      rintro e w4 ⟨rfl, hb⟩
      go_wp2
      go_ret
      exact ⟨by rw [HH.out]; rfl, HB2.out.trans (hb.mono HB2.out.size)⟩
    · have HI := Lib.hid (inB_no (x := d) (lo := 0) (hi := 999) (by omega))
      have HH : Hid (hon ws es d = 0) := Lib.hid (if_neg (fun h => hd h.2))
      clear hC hd
      go_wp2_with fail
      refine (spec_in_is _ _ _ _ _ HI.out).mono ?_
      rintro e w3 ⟨rfl, rfl⟩
      go_wp2_with fail
      go_ret
      exact ⟨by rw [HH.out]; rfl, HB2.out⟩
  · rw [decide_eq_false hC]
    have HH : Hid (hon ws es d = 0) := Lib.hid (if_neg (fun h => hC h.1))
    clear hC
    go_wp2_with fail
    go_ret
    exact ⟨by rw [HH.out]; rfl, HB2.out⟩

set_option maxRecDepth 100000 in
set_option maxHeartbeats 1000000 in
theorem spec_hrs (v : Value) (ws : List Int) (es : List (Int × Int)) (a b : Int) (w : World) (h : Cal w v ws es) (hm : es.length ≤ 1048577) :
    Calls Try.prog 23 #[v, .int .i64 a, .int .i64 b] w (NumRes (hbt ws es a b) w) := by
  obtain ⟨vw, vx, rfl, hw, hx⟩ := h
  have HB : Below w.heap.size w (w.alloc (.cells #[vw, vx] 27)) := (Below.refl _ _).alloc (Nat.le_refl _) _
  have HR := heap_alloc_new w (.cells #[vw, vx] 27)
  have HC : Hid (Cal (w.alloc (.cells #[vw, vx] 27)) (.agg #[vw, vx]) ws es) := Lib.hid (Cal.below ⟨vw, vx, rfl, hw, hx⟩ HB)
  clear hw hx
  go_enter Try.func23, Try.ntmps23
  go_wp2_with fail
  generalize w.alloc (.cells #[vw, vx] 27) = w1 at *
  refine (spec_isCal _ ws es _ HC.out hm).mono ?_
  rintro e w2 ⟨rfl, hb⟩
  have HR2 := blk_below HR hb
  have HC2 := Lib.hid (HC.out.below hb)
  have HB2 := Lib.hid (HB.trans (hb.mono HB.size))
  have c0 := cell_of_row _ _ 0 _ _ _ HR2
  have c1 := cell_of_row _ _ 1 _ _ _ HR2
  clear hb HR HB HC
  by_cases hC : IsCal ws es
  · rw [decide_eq_true hC]
    have HH : Hid (hbt ws es a b = cnt (hOf ws es) a b) := Lib.hid (if_pos hC)
    have HV := Lib.hid hC
    clear hC
    go_wp2_with fail
    refine (spec_countH _ ws es a b _ HC2.out HV.out).mono ?_
    rintro e w4 ⟨rfl, hb⟩
    go_wp2
    go_ret
    exact ⟨by rw [HH.out]; rfl, HB2.out.trans (hb.mono HB2.out.size)⟩
  · rw [decide_eq_false hC]
    have HH : Hid (hbt ws es a b = 0) := Lib.hid (if_neg hC)
    clear hC
    go_wp2_with fail
    go_ret
    exact ⟨by rw [HH.out]; rfl, HB2.out⟩

set_option maxRecDepth 100000 in
set_option maxHeartbeats 1000000 in
theorem spec_wbt (v : Value) (ws : List Int) (es : List (Int × Int)) (a b : Int) (w : World) (h : Cal w v ws es) (hm : es.length ≤ 1048577) :
    Calls Try.prog 32 #[v, .int .i64 a, .int .i64 b] w (NumRes (wbt ws es a b) w) := by
  obtain ⟨vw, vx, rfl, hw, hx⟩ := h
  have HB : Below w.heap.size w (w.alloc (.cells #[vw, vx] 27)) := (Below.refl _ _).alloc (Nat.le_refl _) _
  have HR := heap_alloc_new w (.cells #[vw, vx] 27)
  have HC : Hid (Cal (w.alloc (.cells #[vw, vx] 27)) (.agg #[vw, vx]) ws es) := Lib.hid (Cal.below ⟨vw, vx, rfl, hw, hx⟩ HB)
  clear hw hx
  go_enter Try.func32, Try.ntmps32
  go_wp2_with fail
  generalize w.alloc (.cells #[vw, vx] 27) = w1 at *
  refine (spec_isCal _ ws es _ HC.out hm).mono ?_
  rintro e w2 ⟨rfl, hb⟩
  have HR2 := blk_below HR hb
  have HC2 := Lib.hid (HC.out.below hb)
  have HB2 := Lib.hid (HB.trans (hb.mono HB.size))
  have c0 := cell_of_row _ _ 0 _ _ _ HR2
  have c1 := cell_of_row _ _ 1 _ _ _ HR2
  clear hb HR HB HC
  by_cases hC : IsCal ws es
  · rw [decide_eq_true hC]
    have HH : Hid (wbt ws es a b = cnt (wOf ws es) a b - cnt (wOf ws es) b a) := Lib.hid ((if_pos hC).trans (wb_cnt ws es a b).symm)
    have HV := Lib.hid hC
    have hn1 := cnt_bound (f := wOf ws es) (B := 1) (fun d => by have := wOf_bit hC d; omega) a b
    have hn2 := cnt_bound (f := wOf ws es) (B := 1) (fun d => by have := wOf_bit hC d; omega) b a
    clear hC
    go_upto_region 3 with fail
    have HK1 : Hid (∀ W' : World, Below w2.heap.size w2 W' → Calls Try.prog 46 #[.agg #[vw, vx], .int .i64 a, .int .i64 b, .bool false] W' (NumRes (cnt (wOf ws es) a b) W')) := Lib.hid (fun W' h => spec_countW _ ws es a b _ (HC2.out.below h) HV.out)
    have HK2 : Hid (∀ W' : World, Below w2.heap.size w2 W' → Calls Try.prog 46 #[.agg #[vw, vx], .int .i64 b, .int .i64 a, .bool false] W' (NumRes (cnt (wOf ws es) b a) W')) := Lib.hid (fun W' h => spec_countW _ ws es b a _ (HC2.out.below h) HV.out)
    generalize cnt (wOf ws es) a b = n1 at *
    generalize cnt (wOf ws es) b a = n2 at *
    have HWR : Hid (IntKind.i64.wrap (n1 - n2) = n1 - n2) := Lib.hid (IntWalk.i64_in _ (by omega))
    clear HR2
    go_region_held3 (fun W' => Hid (Below w2.heap.size w2 W') ∧ W'.cell? ⟨w.heap.size, 0, none⟩ = some vw ∧ W'.cell? ⟨w.heap.size, 1, none⟩ = some vx)
      (first | assumption | exact hold2 c0 c1 (hold_call (by assumption) (by assumption)) | exact hold2 c0 c1 (Below.refl _ _).drew)
      (first | (go_at_call 46; first | ((with_reducible refine (HK1.out _ (by assumption : Hid (Below w2.heap.size w2 _) ∧ _).1.out).mono ?_); rintro e w' ⟨rfl, hb⟩; have hle := hold_le (by assumption) hb) | ((with_reducible refine (HK2.out _ (by assumption : Hid (Below w2.heap.size w2 _) ∧ _).1.out).mono ?_); rintro e w' ⟨rfl, hb⟩; have hle := hold_le (by assumption) hb)))
    all_goals
      go_wp2
      go_ret
      exact ⟨congrArg (fun z => Ending.returned (Value.int .i64 z)) (HWR.out.trans HH.out.symm), HB2.out.trans ((by assumption : Hid (Below w2.heap.size w2 _) ∧ _).1.out.mono HB2.out.size)⟩
  · rw [decide_eq_false hC]
    have HH : Hid (wbt ws es a b = 0) := Lib.hid (if_neg hC)
    clear hC
    go_wp2_with fail
    go_ret
    exact ⟨by rw [HH.out]; rfl, HB2.out⟩

end Go.Proofs.Ytkhonlcekjckoaa
