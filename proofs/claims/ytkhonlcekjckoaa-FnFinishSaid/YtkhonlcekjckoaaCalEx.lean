/-
  The walks of the exact laws on calendars, where the program's functions keep their contracts.
-/
import Derived.Test.YtkhonlcekjckoaaRows
import Derived.Test.YtkhonlcekjckoaaExcs
import Derived.Test.YtkhonlcekjckoaaCalLib
import Derived.Test.YtkhonlcekjckoaaCalRes
import Derived.Test.YtkhonlcekjckoaaCalHours
import Derived.Test.YtkhonlcekjckoaaCalCount
import Derived.Test.YtkhonlcekjckoaaCalIs
import Derived.Test.YtkhonlcekjckoaaCalSpec
import Derived.Test.YtkhonlcekjckoaaCalAdd
import Derived.Test.YtkhonlcekjckoaaCalFin
import Derived.Test.YtkhonlcekjckoaaCalTo
import Derived.Test.YtkhonlcekjckoaaHold
import Derived.WalkKit
import Derived.WalkSpells
import Derived.WalkSmall
import Derived.BigQuiet
import Derived.Deep.DeepCutAuto
import Derived.Deep.QuietTactic
import Derived.Deep.RegionHeld3
import Derived.Lib.Hide
namespace Go.Proofs.Ytkhonlcekjckoaa
open Go.RowKit

/-- The program's IsCalendar answers as the model. -/
def ImplIsCalendar : Prop := ∀ (v : Value) (ws : List Int) (es : List (Int × Int)) (w : World), Cal w v ws es → ws.length ≤ 1048577 → es.length ≤ 1048577 → Calls Try.prog 29 #[v] w (BRes (decide (IsCal ws es)) w)
/-- The program's HoursOn answers as the model. -/
def ImplHoursOn : Prop := ∀ (v : Value) (ws : List Int) (es : List (Int × Int)) (d : Int) (w : World), Cal w v ws es → ws.length ≤ 1048577 → es.length ≤ 1048577 → Calls Try.prog 19 #[v, .int .i64 d] w (NumRes (hon ws es d) w)
/-- The program's HoursBetween answers as the model. -/
def ImplHoursBetween : Prop := ∀ (v : Value) (ws : List Int) (es : List (Int × Int)) (a b : Int) (w : World), Cal w v ws es → ws.length ≤ 1048577 → es.length ≤ 1048577 → Calls Try.prog 22 #[v, .int .i64 a, .int .i64 b] w (NumRes (hbt ws es a b) w)
/-- The program's WorkdaysBetween answers as the model. -/
def ImplWorkdaysBetween : Prop := ∀ (v : Value) (ws : List Int) (es : List (Int × Int)) (a b : Int) (w : World), Cal w v ws es → ws.length ≤ 1048577 → es.length ≤ 1048577 → Calls Try.prog 17 #[v, .int .i64 a, .int .i64 b] w (NumRes (wbt ws es a b) w)
/-- The program's AddWorkdays answers as the model. -/
def ImplAddWorkdays : Prop := ∀ (v : Value) (ws : List Int) (es : List (Int × Int)) (d n : Int) (w : World), Cal w v ws es → ws.length ≤ 1048577 → es.length ≤ 1048577 → -9223372036854775808 ≤ n → n ≤ 9223372036854775807 → Calls Try.prog 15 #[v, .int .i64 d, .int .i64 n] w (AddEnd ws es d n w)
/-- The program's FinishDay answers as the model. -/
def ImplFinishDay : Prop := ∀ (v : Value) (ws : List Int) (es : List (Int × Int)) (d n : Int) (w : World), Cal w v ws es → ws.length ≤ 1048577 → es.length ≤ 1048577 → -9223372036854775808 ≤ n → n ≤ 9223372036854775807 → Calls Try.prog 25 #[v, .int .i64 d, .int .i64 n] w (FinEnd ws es d n w)

set_option maxRecDepth 100000 in
set_option maxHeartbeats 2000000 in
theorem ex_IsCalendar (IM : ImplIsCalendar) (v : Value) (ws : List Int) (es : List (Int × Int)) (w : World) (h : Cal w v ws es) (hm : ws.length ≤ maxLen) (hm' : es.length ≤ maxLen) :
    Calls Try.prog 7 #[v] w fun e w' => e = .returned (.bool true) ∧ Below w.heap.size w w' := by
  obtain ⟨vw, vx, rfl, hw, hx⟩ := h
  have HI := Lib.hid IM
  clear IM
  have HB : Below w.heap.size w (w.alloc (.cells #[vw, vx] 37)) := (Below.refl _ _).alloc (Nat.le_refl _) _
  have HR := heap_alloc_new w (.cells #[vw, vx] 37)
  have HC : Hid (Cal (w.alloc (.cells #[vw, vx] 37)) (.agg #[vw, vx]) ws es) := Lib.hid (Cal.below ⟨vw, vx, rfl, hw, hx⟩ HB)
  clear hw hx
  go_enter Try.func7, Try.ntmps7
  go_wp2_with fail
  generalize w.alloc (.cells #[vw, vx] 37) = w1 at *
  refine (sz_cal _ ws es _ HC.out hm hm').mono ?_
  rintro e w2 ⟨rfl, hb⟩
  have HR2 := blk_below HR hb
  have HC2 := Lib.hid (HC.out.below hb)
  have HB2 := Lib.hid (HB.trans (hb.mono HB.size))
  have c0 := cell_of_row _ _ 0 _ _ _ HR2
  have c1 := cell_of_row _ _ 1 _ _ _ HR2
  clear hb HR HB HC hm hm'
  by_cases hbig : 1048576 < ws.length + es.length
  · rw [show szLeft ws es = -1 from if_pos hbig]
    clear hbig
    go_wp2_with fail
    go_ret
    exact ⟨rfl, HB2.out⟩
  · rw [show szLeft ws es = 1048576 - ws.length - es.length from if_neg hbig]
    have HL : Hid (ws.length ≤ 1048576) := Lib.hid (by omega)
    have HM : Hid (es.length ≤ 1048576) := Lib.hid (by omega)
    have hz : 0 ≤ (1048576 : Int) - ws.length - es.length ∧ (1048576 : Int) - ws.length - es.length ≤ 1048576 := by omega
    generalize (1048576 : Int) - ws.length - es.length = z at *
    obtain ⟨hz0, hz1⟩ := hz
    clear hbig
    go_wp2_with fail
    refine (to_cal _ ws es _ HC2.out HL.out HM.out).mono ?_
    rintro e w3 ⟨v1, rfl, h1', hb⟩
    have H3 := Lib.hid h1'
    obtain ⟨u1, u2, rfl, _, _⟩ := h1'
    have HR3 := blk_below HR2 hb
    have HC3 := Lib.hid (HC2.out.below hb)
    have HB3 := Lib.hid (HB2.out.trans (hb.mono HB2.out.size))
    clear hb HR2 HC2 HB2 c0 c1
    go_wp2_with fail
    refine (spec_isCal _ ws es _ H3.out (by have := HM.out; omega)).mono ?_
    rintro e w4 ⟨rfl, hb⟩
    obtain ⟨y, hy⟩ : ∃ y, decide (IsCal ws es) = y := ⟨_, rfl⟩
    rw [hy]
    have HY := Lib.hid hy
    clear hy
    have HR4 := blk_below HR3 hb
    have HC4 := Lib.hid (HC3.out.below hb)
    have HB4 := Lib.hid (HB3.out.trans (hb.mono HB3.out.size))
    have c0 := cell_of_row _ _ 0 _ _ _ HR4
    have c1 := cell_of_row _ _ 1 _ _ _ HR4
    clear hb HR3 HC3 HB3 H3
    go_wp2_with fail
    refine (to_cal _ ws es _ HC4.out HL.out HM.out).mono ?_
    rintro e w5 ⟨v5, rfl, h5, hb⟩
    obtain ⟨x1, x2, rfl, hx1, hx2⟩ := h5
    obtain ⟨p1, q1, rfl⟩ := hx1.slice
    obtain ⟨p2, q2, rfl⟩ := hx2.slice
    have HR5 := blk_below HR4 hb
    have HC5 := Lib.hid (HC4.out.below hb)
    have HB5 := Lib.hid (HB4.out.trans (hb.mono HB4.out.size))
    have HA : Below w5.heap.size w5 (w5.alloc (.cells #[(.slice p1 ws.length q1), (.slice p2 es.length q2)] 27)) := (Below.refl _ _).alloc (Nat.le_refl _) _
    have HX6 := heap_alloc_new w5 (.cells #[(.slice p1 ws.length q1), (.slice p2 es.length q2)] 27)
    have HR6 := blk_below HR5 HA
    have HC6 := Lib.hid (HC5.out.below HA)
    have HB6 := Lib.hid (HB5.out.trans (HA.mono HB5.out.size))
    have H6 : Hid (Cal (w5.alloc (.cells #[(.slice p1 ws.length q1), (.slice p2 es.length q2)] 27)) (.agg #[(.slice p1 ws.length q1), (.slice p2 es.length q2)]) ws es) := Lib.hid (Cal.below ⟨(.slice p1 ws.length q1), (.slice p2 es.length q2), rfl, hx1, hx2⟩ HA)
    clear hb HR4 HC4 HB4 HA hx1 hx2 HR5 HC5 HB5 c0 c1
    go_wp2_with fail
    generalize w5.alloc (.cells #[(.slice p1 ws.length q1), (.slice p2 es.length q2)] 27) = w6 at *
    refine (HI.out _ ws es  _ H6.out (by have := HL.out; omega) (by have := HM.out; omega)).mono ?_
    rintro e w7 ⟨rfl, hb⟩
    rw [HY.out]
    have HR7 := blk_below HR6 hb
    have HX7 := blk_below HX6 hb
    have HC7 := Lib.hid (HC6.out.below hb)
    have H7 := Lib.hid (H6.out.below hb)
    have HB7 := Lib.hid (HB6.out.trans (hb.mono HB6.out.size))
    have HT : Hid (∀ W', Below w7.heap.size w7 W' → Calls Try.prog 28 #[.agg #[vw, vx]] W' (CopyCal ws es W')) := Lib.hid (fun W' k => to_cal _ ws es _ (HC7.out.below k) HL.out HM.out)
    have HQ : Hid (∀ W' v8, Below w7.heap.size w7 W' → Cal W' v8 ws es → Calls Try.prog 30 #[.agg #[(.slice p1 ws.length q1), (.slice p2 es.length q2)], v8] W' fun e w' => e = .returned (.bool true) ∧ Below W'.heap.size W' w') := Lib.hid (fun W' v8 k q => eq_cal _ _ ws es _ (H7.out.below k) q (by have := HL.out; omega) (by have := HM.out; omega))
    have c0 := cell_of_row _ _ 0 _ _ _ HR7
    have c1 := cell_of_row _ _ 1 _ _ _ HR7
    have d0 := cell_of_row _ _ 0 _ _ _ HX7
    have d1 := cell_of_row _ _ 1 _ _ _ HX7
    clear hb HR6 HX6 HC6 H6 HB6 HR7 HX7 HC7 H7
    have hnn : (y != y) = false := by simp
    go_upto_region 10 with fail
    go_region_held3 (fun W' => Hid (Below w7.heap.size w7 W') ∧ W'.cell? ⟨w.heap.size, 0, none⟩ = some vw ∧ W'.cell? ⟨w.heap.size, 1, none⟩ = some vx ∧ W'.cell? ⟨w5.heap.size, 0, none⟩ = some (.slice p1 ws.length q1) ∧ W'.cell? ⟨w5.heap.size, 1, none⟩ = some (.slice p2 es.length q2))
      (first | assumption | exact hold4 c0 c1 d0 d1 (hold_call (by assumption) (by assumption)) | exact hold4 c0 c1 d0 d1 (Below.refl _ _).drew)
      (first | (go_at_call 28; refine (HT.out _ (by assumption : Hid (Below w7.heap.size w7 _) ∧ _).1.out).mono ?_; rintro e w' ⟨v8, rfl, h8, hb⟩; have H8 := Lib.hid h8; have hle := hold_le (by assumption) hb; clear h8) | (go_at_call 30; refine (HQ.out _ _ (by assumption : Hid (Below w7.heap.size w7 _) ∧ _).1.out (by assumption : Hid (Cal _ _ ws es)).out).mono ?_; rintro e w' ⟨rfl, hb⟩; have hle := hold_le (by assumption) hb))
    all_goals
      go_wp2_with fail
      go_ret
      exact ⟨rfl, HB7.out.trans ((by assumption : Hid (Below w7.heap.size w7 _) ∧ _).1.out.mono HB7.out.size)⟩

set_option maxRecDepth 100000 in
set_option maxHeartbeats 2000000 in
theorem ex_HoursOn (IM : ImplHoursOn) (v : Value) (ws : List Int) (es : List (Int × Int)) (d : Int) (w : World) (h : Cal w v ws es) (hm : ws.length ≤ maxLen) (hm' : es.length ≤ maxLen) :
    Calls Try.prog 8 #[v, .int .i64 d] w fun e w' => e = .returned (.bool true) ∧ Below w.heap.size w w' := by
  obtain ⟨vw, vx, rfl, hw, hx⟩ := h
  have HI := Lib.hid IM
  clear IM
  have HB : Below w.heap.size w (w.alloc (.cells #[vw, vx] 37)) := (Below.refl _ _).alloc (Nat.le_refl _) _
  have HR := heap_alloc_new w (.cells #[vw, vx] 37)
  have HC : Hid (Cal (w.alloc (.cells #[vw, vx] 37)) (.agg #[vw, vx]) ws es) := Lib.hid (Cal.below ⟨vw, vx, rfl, hw, hx⟩ HB)
  clear hw hx
  go_enter Try.func8, Try.ntmps8
  go_wp2_with fail
  generalize w.alloc (.cells #[vw, vx] 37) = w1 at *
  refine (sz_cal _ ws es _ HC.out hm hm').mono ?_
  rintro e w2 ⟨rfl, hb⟩
  have HR2 := blk_below HR hb
  have HC2 := Lib.hid (HC.out.below hb)
  have HB2 := Lib.hid (HB.trans (hb.mono HB.size))
  have c0 := cell_of_row _ _ 0 _ _ _ HR2
  have c1 := cell_of_row _ _ 1 _ _ _ HR2
  clear hb HR HB HC hm hm'
  by_cases hbig : 1048576 < ws.length + es.length
  · rw [show szLeft ws es = -1 from if_pos hbig]
    clear hbig
    go_wp2_with fail
    go_ret
    exact ⟨rfl, HB2.out⟩
  · rw [show szLeft ws es = 1048576 - ws.length - es.length from if_neg hbig]
    have HL : Hid (ws.length ≤ 1048576) := Lib.hid (by omega)
    have HM : Hid (es.length ≤ 1048576) := Lib.hid (by omega)
    have hz : 0 ≤ (1048576 : Int) - ws.length - es.length ∧ (1048576 : Int) - ws.length - es.length ≤ 1048576 := by omega
    generalize (1048576 : Int) - ws.length - es.length = z at *
    obtain ⟨hz0, hz1⟩ := hz
    clear hbig
    go_wp2_with fail
    refine (to_cal _ ws es _ HC2.out HL.out HM.out).mono ?_
    rintro e w3 ⟨v1, rfl, h1', hb⟩
    have H3 := Lib.hid h1'
    obtain ⟨u1, u2, rfl, _, _⟩ := h1'
    have HR3 := blk_below HR2 hb
    have HC3 := Lib.hid (HC2.out.below hb)
    have HB3 := Lib.hid (HB2.out.trans (hb.mono HB2.out.size))
    clear hb HR2 HC2 HB2 c0 c1
    go_wp2_with fail
    refine (spec_hoursOn _ ws es d _ H3.out (by have := HM.out; omega)).mono ?_
    rintro e w4 ⟨rfl, hb⟩
    obtain ⟨y, hy⟩ : ∃ y, hon ws es d = y := ⟨_, rfl⟩
    rw [hy]
    have HY := Lib.hid hy
    clear hy
    have HR4 := blk_below HR3 hb
    have HC4 := Lib.hid (HC3.out.below hb)
    have HB4 := Lib.hid (HB3.out.trans (hb.mono HB3.out.size))
    have c0 := cell_of_row _ _ 0 _ _ _ HR4
    have c1 := cell_of_row _ _ 1 _ _ _ HR4
    clear hb HR3 HC3 HB3 H3
    go_wp2_with fail
    refine (to_cal _ ws es _ HC4.out HL.out HM.out).mono ?_
    rintro e w5 ⟨v5, rfl, h5, hb⟩
    obtain ⟨x1, x2, rfl, hx1, hx2⟩ := h5
    obtain ⟨p1, q1, rfl⟩ := hx1.slice
    obtain ⟨p2, q2, rfl⟩ := hx2.slice
    have HR5 := blk_below HR4 hb
    have HC5 := Lib.hid (HC4.out.below hb)
    have HB5 := Lib.hid (HB4.out.trans (hb.mono HB4.out.size))
    have HA : Below w5.heap.size w5 (w5.alloc (.cells #[(.slice p1 ws.length q1), (.slice p2 es.length q2)] 27)) := (Below.refl _ _).alloc (Nat.le_refl _) _
    have HX6 := heap_alloc_new w5 (.cells #[(.slice p1 ws.length q1), (.slice p2 es.length q2)] 27)
    have HR6 := blk_below HR5 HA
    have HC6 := Lib.hid (HC5.out.below HA)
    have HB6 := Lib.hid (HB5.out.trans (HA.mono HB5.out.size))
    have H6 : Hid (Cal (w5.alloc (.cells #[(.slice p1 ws.length q1), (.slice p2 es.length q2)] 27)) (.agg #[(.slice p1 ws.length q1), (.slice p2 es.length q2)]) ws es) := Lib.hid (Cal.below ⟨(.slice p1 ws.length q1), (.slice p2 es.length q2), rfl, hx1, hx2⟩ HA)
    clear hb HR4 HC4 HB4 HA hx1 hx2 HR5 HC5 HB5 c0 c1
    go_wp2_with fail
    generalize w5.alloc (.cells #[(.slice p1 ws.length q1), (.slice p2 es.length q2)] 27) = w6 at *
    refine (HI.out _ ws es d _ H6.out (by have := HL.out; omega) (by have := HM.out; omega)).mono ?_
    rintro e w7 ⟨rfl, hb⟩
    rw [HY.out]
    have HR7 := blk_below HR6 hb
    have HX7 := blk_below HX6 hb
    have HC7 := Lib.hid (HC6.out.below hb)
    have H7 := Lib.hid (H6.out.below hb)
    have HB7 := Lib.hid (HB6.out.trans (hb.mono HB6.out.size))
    have HT : Hid (∀ W', Below w7.heap.size w7 W' → Calls Try.prog 28 #[.agg #[vw, vx]] W' (CopyCal ws es W')) := Lib.hid (fun W' k => to_cal _ ws es _ (HC7.out.below k) HL.out HM.out)
    have HQ : Hid (∀ W' v8, Below w7.heap.size w7 W' → Cal W' v8 ws es → Calls Try.prog 30 #[.agg #[(.slice p1 ws.length q1), (.slice p2 es.length q2)], v8] W' fun e w' => e = .returned (.bool true) ∧ Below W'.heap.size W' w') := Lib.hid (fun W' v8 k q => eq_cal _ _ ws es _ (H7.out.below k) q (by have := HL.out; omega) (by have := HM.out; omega))
    have c0 := cell_of_row _ _ 0 _ _ _ HR7
    have c1 := cell_of_row _ _ 1 _ _ _ HR7
    have d0 := cell_of_row _ _ 0 _ _ _ HX7
    have d1 := cell_of_row _ _ 1 _ _ _ HX7
    clear hb HR6 HX6 HC6 H6 HB6 HR7 HX7 HC7 H7
    have hnn : (y != y) = false := by simp
    go_upto_region 10 with fail
    go_region_held3 (fun W' => Hid (Below w7.heap.size w7 W') ∧ W'.cell? ⟨w.heap.size, 0, none⟩ = some vw ∧ W'.cell? ⟨w.heap.size, 1, none⟩ = some vx ∧ W'.cell? ⟨w5.heap.size, 0, none⟩ = some (.slice p1 ws.length q1) ∧ W'.cell? ⟨w5.heap.size, 1, none⟩ = some (.slice p2 es.length q2))
      (first | assumption | exact hold4 c0 c1 d0 d1 (hold_call (by assumption) (by assumption)) | exact hold4 c0 c1 d0 d1 (Below.refl _ _).drew)
      (first | (go_at_call 28; refine (HT.out _ (by assumption : Hid (Below w7.heap.size w7 _) ∧ _).1.out).mono ?_; rintro e w' ⟨v8, rfl, h8, hb⟩; have H8 := Lib.hid h8; have hle := hold_le (by assumption) hb; clear h8) | (go_at_call 30; refine (HQ.out _ _ (by assumption : Hid (Below w7.heap.size w7 _) ∧ _).1.out (by assumption : Hid (Cal _ _ ws es)).out).mono ?_; rintro e w' ⟨rfl, hb⟩; have hle := hold_le (by assumption) hb))
    all_goals
      go_wp2_with fail
      go_ret
      exact ⟨rfl, HB7.out.trans ((by assumption : Hid (Below w7.heap.size w7 _) ∧ _).1.out.mono HB7.out.size)⟩

set_option maxRecDepth 100000 in
set_option maxHeartbeats 2000000 in
theorem ex_HoursBetween (IM : ImplHoursBetween) (v : Value) (ws : List Int) (es : List (Int × Int)) (a b : Int) (w : World) (h : Cal w v ws es) (hm : ws.length ≤ maxLen) (hm' : es.length ≤ maxLen) :
    Calls Try.prog 9 #[v, .int .i64 a, .int .i64 b] w fun e w' => e = .returned (.bool true) ∧ Below w.heap.size w w' := by
  obtain ⟨vw, vx, rfl, hw, hx⟩ := h
  have HI := Lib.hid IM
  clear IM
  have HB : Below w.heap.size w (w.alloc (.cells #[vw, vx] 37)) := (Below.refl _ _).alloc (Nat.le_refl _) _
  have HR := heap_alloc_new w (.cells #[vw, vx] 37)
  have HC : Hid (Cal (w.alloc (.cells #[vw, vx] 37)) (.agg #[vw, vx]) ws es) := Lib.hid (Cal.below ⟨vw, vx, rfl, hw, hx⟩ HB)
  clear hw hx
  go_enter Try.func9, Try.ntmps9
  go_wp2_with fail
  generalize w.alloc (.cells #[vw, vx] 37) = w1 at *
  refine (sz_cal _ ws es _ HC.out hm hm').mono ?_
  rintro e w2 ⟨rfl, hb⟩
  have HR2 := blk_below HR hb
  have HC2 := Lib.hid (HC.out.below hb)
  have HB2 := Lib.hid (HB.trans (hb.mono HB.size))
  have c0 := cell_of_row _ _ 0 _ _ _ HR2
  have c1 := cell_of_row _ _ 1 _ _ _ HR2
  clear hb HR HB HC hm hm'
  by_cases hbig : 1048576 < ws.length + es.length
  · rw [show szLeft ws es = -1 from if_pos hbig]
    clear hbig
    go_wp2_with fail
    go_ret
    exact ⟨rfl, HB2.out⟩
  · rw [show szLeft ws es = 1048576 - ws.length - es.length from if_neg hbig]
    have HL : Hid (ws.length ≤ 1048576) := Lib.hid (by omega)
    have HM : Hid (es.length ≤ 1048576) := Lib.hid (by omega)
    have hz : 0 ≤ (1048576 : Int) - ws.length - es.length ∧ (1048576 : Int) - ws.length - es.length ≤ 1048576 := by omega
    generalize (1048576 : Int) - ws.length - es.length = z at *
    obtain ⟨hz0, hz1⟩ := hz
    clear hbig
    go_wp2_with fail
    refine (to_cal _ ws es _ HC2.out HL.out HM.out).mono ?_
    rintro e w3 ⟨v1, rfl, h1', hb⟩
    have H3 := Lib.hid h1'
    obtain ⟨u1, u2, rfl, _, _⟩ := h1'
    have HR3 := blk_below HR2 hb
    have HC3 := Lib.hid (HC2.out.below hb)
    have HB3 := Lib.hid (HB2.out.trans (hb.mono HB2.out.size))
    clear hb HR2 HC2 HB2 c0 c1
    go_wp2_with fail
    refine (spec_hrs _ ws es a b _ H3.out (by have := HM.out; omega)).mono ?_
    rintro e w4 ⟨rfl, hb⟩
    obtain ⟨y, hy⟩ : ∃ y, hbt ws es a b = y := ⟨_, rfl⟩
    rw [hy]
    have HY := Lib.hid hy
    clear hy
    have HR4 := blk_below HR3 hb
    have HC4 := Lib.hid (HC3.out.below hb)
    have HB4 := Lib.hid (HB3.out.trans (hb.mono HB3.out.size))
    have c0 := cell_of_row _ _ 0 _ _ _ HR4
    have c1 := cell_of_row _ _ 1 _ _ _ HR4
    clear hb HR3 HC3 HB3 H3
    go_wp2_with fail
    refine (to_cal _ ws es _ HC4.out HL.out HM.out).mono ?_
    rintro e w5 ⟨v5, rfl, h5, hb⟩
    obtain ⟨x1, x2, rfl, hx1, hx2⟩ := h5
    obtain ⟨p1, q1, rfl⟩ := hx1.slice
    obtain ⟨p2, q2, rfl⟩ := hx2.slice
    have HR5 := blk_below HR4 hb
    have HC5 := Lib.hid (HC4.out.below hb)
    have HB5 := Lib.hid (HB4.out.trans (hb.mono HB4.out.size))
    have HA : Below w5.heap.size w5 (w5.alloc (.cells #[(.slice p1 ws.length q1), (.slice p2 es.length q2)] 27)) := (Below.refl _ _).alloc (Nat.le_refl _) _
    have HX6 := heap_alloc_new w5 (.cells #[(.slice p1 ws.length q1), (.slice p2 es.length q2)] 27)
    have HR6 := blk_below HR5 HA
    have HC6 := Lib.hid (HC5.out.below HA)
    have HB6 := Lib.hid (HB5.out.trans (HA.mono HB5.out.size))
    have H6 : Hid (Cal (w5.alloc (.cells #[(.slice p1 ws.length q1), (.slice p2 es.length q2)] 27)) (.agg #[(.slice p1 ws.length q1), (.slice p2 es.length q2)]) ws es) := Lib.hid (Cal.below ⟨(.slice p1 ws.length q1), (.slice p2 es.length q2), rfl, hx1, hx2⟩ HA)
    clear hb HR4 HC4 HB4 HA hx1 hx2 HR5 HC5 HB5 c0 c1
    go_wp2_with fail
    generalize w5.alloc (.cells #[(.slice p1 ws.length q1), (.slice p2 es.length q2)] 27) = w6 at *
    refine (HI.out _ ws es a b _ H6.out (by have := HL.out; omega) (by have := HM.out; omega)).mono ?_
    rintro e w7 ⟨rfl, hb⟩
    rw [HY.out]
    have HR7 := blk_below HR6 hb
    have HX7 := blk_below HX6 hb
    have HC7 := Lib.hid (HC6.out.below hb)
    have H7 := Lib.hid (H6.out.below hb)
    have HB7 := Lib.hid (HB6.out.trans (hb.mono HB6.out.size))
    have HT : Hid (∀ W', Below w7.heap.size w7 W' → Calls Try.prog 28 #[.agg #[vw, vx]] W' (CopyCal ws es W')) := Lib.hid (fun W' k => to_cal _ ws es _ (HC7.out.below k) HL.out HM.out)
    have HQ : Hid (∀ W' v8, Below w7.heap.size w7 W' → Cal W' v8 ws es → Calls Try.prog 30 #[.agg #[(.slice p1 ws.length q1), (.slice p2 es.length q2)], v8] W' fun e w' => e = .returned (.bool true) ∧ Below W'.heap.size W' w') := Lib.hid (fun W' v8 k q => eq_cal _ _ ws es _ (H7.out.below k) q (by have := HL.out; omega) (by have := HM.out; omega))
    have c0 := cell_of_row _ _ 0 _ _ _ HR7
    have c1 := cell_of_row _ _ 1 _ _ _ HR7
    have d0 := cell_of_row _ _ 0 _ _ _ HX7
    have d1 := cell_of_row _ _ 1 _ _ _ HX7
    clear hb HR6 HX6 HC6 H6 HB6 HR7 HX7 HC7 H7
    have hnn : (y != y) = false := by simp
    go_upto_region 10 with fail
    go_region_held3 (fun W' => Hid (Below w7.heap.size w7 W') ∧ W'.cell? ⟨w.heap.size, 0, none⟩ = some vw ∧ W'.cell? ⟨w.heap.size, 1, none⟩ = some vx ∧ W'.cell? ⟨w5.heap.size, 0, none⟩ = some (.slice p1 ws.length q1) ∧ W'.cell? ⟨w5.heap.size, 1, none⟩ = some (.slice p2 es.length q2))
      (first | assumption | exact hold4 c0 c1 d0 d1 (hold_call (by assumption) (by assumption)) | exact hold4 c0 c1 d0 d1 (Below.refl _ _).drew)
      (first | (go_at_call 28; refine (HT.out _ (by assumption : Hid (Below w7.heap.size w7 _) ∧ _).1.out).mono ?_; rintro e w' ⟨v8, rfl, h8, hb⟩; have H8 := Lib.hid h8; have hle := hold_le (by assumption) hb; clear h8) | (go_at_call 30; refine (HQ.out _ _ (by assumption : Hid (Below w7.heap.size w7 _) ∧ _).1.out (by assumption : Hid (Cal _ _ ws es)).out).mono ?_; rintro e w' ⟨rfl, hb⟩; have hle := hold_le (by assumption) hb))
    all_goals
      go_wp2_with fail
      go_ret
      exact ⟨rfl, HB7.out.trans ((by assumption : Hid (Below w7.heap.size w7 _) ∧ _).1.out.mono HB7.out.size)⟩

set_option maxRecDepth 100000 in
set_option maxHeartbeats 2000000 in
theorem ex_WorkdaysBetween (IM : ImplWorkdaysBetween) (v : Value) (ws : List Int) (es : List (Int × Int)) (a b : Int) (w : World) (h : Cal w v ws es) (hm : ws.length ≤ maxLen) (hm' : es.length ≤ maxLen) :
    Calls Try.prog 10 #[v, .int .i64 a, .int .i64 b] w fun e w' => e = .returned (.bool true) ∧ Below w.heap.size w w' := by
  obtain ⟨vw, vx, rfl, hw, hx⟩ := h
  have HI := Lib.hid IM
  clear IM
  have HB : Below w.heap.size w (w.alloc (.cells #[vw, vx] 37)) := (Below.refl _ _).alloc (Nat.le_refl _) _
  have HR := heap_alloc_new w (.cells #[vw, vx] 37)
  have HC : Hid (Cal (w.alloc (.cells #[vw, vx] 37)) (.agg #[vw, vx]) ws es) := Lib.hid (Cal.below ⟨vw, vx, rfl, hw, hx⟩ HB)
  clear hw hx
  go_enter Try.func10, Try.ntmps10
  go_wp2_with fail
  generalize w.alloc (.cells #[vw, vx] 37) = w1 at *
  refine (sz_cal _ ws es _ HC.out hm hm').mono ?_
  rintro e w2 ⟨rfl, hb⟩
  have HR2 := blk_below HR hb
  have HC2 := Lib.hid (HC.out.below hb)
  have HB2 := Lib.hid (HB.trans (hb.mono HB.size))
  have c0 := cell_of_row _ _ 0 _ _ _ HR2
  have c1 := cell_of_row _ _ 1 _ _ _ HR2
  clear hb HR HB HC hm hm'
  by_cases hbig : 1048576 < ws.length + es.length
  · rw [show szLeft ws es = -1 from if_pos hbig]
    clear hbig
    go_wp2_with fail
    go_ret
    exact ⟨rfl, HB2.out⟩
  · rw [show szLeft ws es = 1048576 - ws.length - es.length from if_neg hbig]
    have HL : Hid (ws.length ≤ 1048576) := Lib.hid (by omega)
    have HM : Hid (es.length ≤ 1048576) := Lib.hid (by omega)
    have hz : 0 ≤ (1048576 : Int) - ws.length - es.length ∧ (1048576 : Int) - ws.length - es.length ≤ 1048576 := by omega
    generalize (1048576 : Int) - ws.length - es.length = z at *
    obtain ⟨hz0, hz1⟩ := hz
    clear hbig
    go_wp2_with fail
    refine (to_cal _ ws es _ HC2.out HL.out HM.out).mono ?_
    rintro e w3 ⟨v1, rfl, h1', hb⟩
    have H3 := Lib.hid h1'
    obtain ⟨u1, u2, rfl, _, _⟩ := h1'
    have HR3 := blk_below HR2 hb
    have HC3 := Lib.hid (HC2.out.below hb)
    have HB3 := Lib.hid (HB2.out.trans (hb.mono HB2.out.size))
    clear hb HR2 HC2 HB2 c0 c1
    go_wp2_with fail
    refine (spec_wbt _ ws es a b _ H3.out (by have := HM.out; omega)).mono ?_
    rintro e w4 ⟨rfl, hb⟩
    obtain ⟨y, hy⟩ : ∃ y, wbt ws es a b = y := ⟨_, rfl⟩
    rw [hy]
    have HY := Lib.hid hy
    clear hy
    have HR4 := blk_below HR3 hb
    have HC4 := Lib.hid (HC3.out.below hb)
    have HB4 := Lib.hid (HB3.out.trans (hb.mono HB3.out.size))
    have c0 := cell_of_row _ _ 0 _ _ _ HR4
    have c1 := cell_of_row _ _ 1 _ _ _ HR4
    clear hb HR3 HC3 HB3 H3
    go_wp2_with fail
    refine (to_cal _ ws es _ HC4.out HL.out HM.out).mono ?_
    rintro e w5 ⟨v5, rfl, h5, hb⟩
    obtain ⟨x1, x2, rfl, hx1, hx2⟩ := h5
    obtain ⟨p1, q1, rfl⟩ := hx1.slice
    obtain ⟨p2, q2, rfl⟩ := hx2.slice
    have HR5 := blk_below HR4 hb
    have HC5 := Lib.hid (HC4.out.below hb)
    have HB5 := Lib.hid (HB4.out.trans (hb.mono HB4.out.size))
    have HA : Below w5.heap.size w5 (w5.alloc (.cells #[(.slice p1 ws.length q1), (.slice p2 es.length q2)] 27)) := (Below.refl _ _).alloc (Nat.le_refl _) _
    have HX6 := heap_alloc_new w5 (.cells #[(.slice p1 ws.length q1), (.slice p2 es.length q2)] 27)
    have HR6 := blk_below HR5 HA
    have HC6 := Lib.hid (HC5.out.below HA)
    have HB6 := Lib.hid (HB5.out.trans (HA.mono HB5.out.size))
    have H6 : Hid (Cal (w5.alloc (.cells #[(.slice p1 ws.length q1), (.slice p2 es.length q2)] 27)) (.agg #[(.slice p1 ws.length q1), (.slice p2 es.length q2)]) ws es) := Lib.hid (Cal.below ⟨(.slice p1 ws.length q1), (.slice p2 es.length q2), rfl, hx1, hx2⟩ HA)
    clear hb HR4 HC4 HB4 HA hx1 hx2 HR5 HC5 HB5 c0 c1
    go_wp2_with fail
    generalize w5.alloc (.cells #[(.slice p1 ws.length q1), (.slice p2 es.length q2)] 27) = w6 at *
    refine (HI.out _ ws es a b _ H6.out (by have := HL.out; omega) (by have := HM.out; omega)).mono ?_
    rintro e w7 ⟨rfl, hb⟩
    rw [HY.out]
    have HR7 := blk_below HR6 hb
    have HX7 := blk_below HX6 hb
    have HC7 := Lib.hid (HC6.out.below hb)
    have H7 := Lib.hid (H6.out.below hb)
    have HB7 := Lib.hid (HB6.out.trans (hb.mono HB6.out.size))
    have HT : Hid (∀ W', Below w7.heap.size w7 W' → Calls Try.prog 28 #[.agg #[vw, vx]] W' (CopyCal ws es W')) := Lib.hid (fun W' k => to_cal _ ws es _ (HC7.out.below k) HL.out HM.out)
    have HQ : Hid (∀ W' v8, Below w7.heap.size w7 W' → Cal W' v8 ws es → Calls Try.prog 30 #[.agg #[(.slice p1 ws.length q1), (.slice p2 es.length q2)], v8] W' fun e w' => e = .returned (.bool true) ∧ Below W'.heap.size W' w') := Lib.hid (fun W' v8 k q => eq_cal _ _ ws es _ (H7.out.below k) q (by have := HL.out; omega) (by have := HM.out; omega))
    have c0 := cell_of_row _ _ 0 _ _ _ HR7
    have c1 := cell_of_row _ _ 1 _ _ _ HR7
    have d0 := cell_of_row _ _ 0 _ _ _ HX7
    have d1 := cell_of_row _ _ 1 _ _ _ HX7
    clear hb HR6 HX6 HC6 H6 HB6 HR7 HX7 HC7 H7
    have hnn : (y != y) = false := by simp
    go_upto_region 10 with fail
    go_region_held3 (fun W' => Hid (Below w7.heap.size w7 W') ∧ W'.cell? ⟨w.heap.size, 0, none⟩ = some vw ∧ W'.cell? ⟨w.heap.size, 1, none⟩ = some vx ∧ W'.cell? ⟨w5.heap.size, 0, none⟩ = some (.slice p1 ws.length q1) ∧ W'.cell? ⟨w5.heap.size, 1, none⟩ = some (.slice p2 es.length q2))
      (first | assumption | exact hold4 c0 c1 d0 d1 (hold_call (by assumption) (by assumption)) | exact hold4 c0 c1 d0 d1 (Below.refl _ _).drew)
      (first | (go_at_call 28; refine (HT.out _ (by assumption : Hid (Below w7.heap.size w7 _) ∧ _).1.out).mono ?_; rintro e w' ⟨v8, rfl, h8, hb⟩; have H8 := Lib.hid h8; have hle := hold_le (by assumption) hb; clear h8) | (go_at_call 30; refine (HQ.out _ _ (by assumption : Hid (Below w7.heap.size w7 _) ∧ _).1.out (by assumption : Hid (Cal _ _ ws es)).out).mono ?_; rintro e w' ⟨rfl, hb⟩; have hle := hold_le (by assumption) hb))
    all_goals
      go_wp2_with fail
      go_ret
      exact ⟨rfl, HB7.out.trans ((by assumption : Hid (Below w7.heap.size w7 _) ∧ _).1.out.mono HB7.out.size)⟩

set_option maxRecDepth 100000 in
set_option maxHeartbeats 2000000 in
theorem ex_AddWorkdays (IM : ImplAddWorkdays) (v : Value) (ws : List Int) (es : List (Int × Int)) (d n : Int) (w : World) (h : Cal w v ws es) (hm : ws.length ≤ maxLen) (hm' : es.length ≤ maxLen) (h0 : -9223372036854775808 ≤ n) (h1 : n ≤ 9223372036854775807) :
    Calls Try.prog 11 #[v, .int .i64 d, .int .i64 n] w fun e w' => e = .returned (.bool true) ∧ Below w.heap.size w w' := by
  obtain ⟨vw, vx, rfl, hw, hx⟩ := h
  have HI := Lib.hid IM
  clear IM
  have HB : Below w.heap.size w (w.alloc (.cells #[vw, vx] 37)) := (Below.refl _ _).alloc (Nat.le_refl _) _
  have HR := heap_alloc_new w (.cells #[vw, vx] 37)
  have HC : Hid (Cal (w.alloc (.cells #[vw, vx] 37)) (.agg #[vw, vx]) ws es) := Lib.hid (Cal.below ⟨vw, vx, rfl, hw, hx⟩ HB)
  clear hw hx
  go_enter Try.func11, Try.ntmps11
  go_wp2_with fail
  generalize w.alloc (.cells #[vw, vx] 37) = w1 at *
  refine (sz_cal _ ws es _ HC.out hm hm').mono ?_
  rintro e w2 ⟨rfl, hb⟩
  have HR2 := blk_below HR hb
  have HC2 := Lib.hid (HC.out.below hb)
  have HB2 := Lib.hid (HB.trans (hb.mono HB.size))
  have c0 := cell_of_row _ _ 0 _ _ _ HR2
  have c1 := cell_of_row _ _ 1 _ _ _ HR2
  clear hb HR HB HC hm hm'
  by_cases hbig : 1048576 < ws.length + es.length
  · rw [show szLeft ws es = -1 from if_pos hbig]
    clear hbig
    go_wp2_with fail
    go_ret
    exact ⟨rfl, HB2.out⟩
  · rw [show szLeft ws es = 1048576 - ws.length - es.length from if_neg hbig]
    have HL : Hid (ws.length ≤ 1048576) := Lib.hid (by omega)
    have HM : Hid (es.length ≤ 1048576) := Lib.hid (by omega)
    have hz : 0 ≤ (1048576 : Int) - ws.length - es.length ∧ (1048576 : Int) - ws.length - es.length ≤ 1048576 := by omega
    generalize (1048576 : Int) - ws.length - es.length = z at *
    obtain ⟨hz0, hz1⟩ := hz
    clear hbig
    go_wp2_with fail
    refine (to_cal _ ws es _ HC2.out HL.out HM.out).mono ?_
    rintro e w3 ⟨v1, rfl, h1', hb⟩
    have H3 := Lib.hid h1'
    obtain ⟨u1, u2, rfl, _, _⟩ := h1'
    have HR3 := blk_below HR2 hb
    have HC3 := Lib.hid (HC2.out.below hb)
    have HB3 := Lib.hid (HB2.out.trans (hb.mono HB2.out.size))
    clear hb HR2 HC2 HB2 c0 c1
    go_wp2_with fail
    refine (spec_add _ ws es d n _ H3.out (by have := HM.out; omega) h0 h1).mono ?_
    rintro e w4 ⟨x, y, rfl, hr, hb⟩
    have HY := Lib.hid hr
    clear hr
    have HR4 := blk_below HR3 hb
    have HC4 := Lib.hid (HC3.out.below hb)
    have HB4 := Lib.hid (HB3.out.trans (hb.mono HB3.out.size))
    have c0 := cell_of_row _ _ 0 _ _ _ HR4
    have c1 := cell_of_row _ _ 1 _ _ _ HR4
    clear hb HR3 HC3 HB3 H3
    go_wp2_with fail
    refine (to_cal _ ws es _ HC4.out HL.out HM.out).mono ?_
    rintro e w5 ⟨v5, rfl, h5, hb⟩
    obtain ⟨x1, x2, rfl, hx1, hx2⟩ := h5
    obtain ⟨p1, q1, rfl⟩ := hx1.slice
    obtain ⟨p2, q2, rfl⟩ := hx2.slice
    have HR5 := blk_below HR4 hb
    have HC5 := Lib.hid (HC4.out.below hb)
    have HB5 := Lib.hid (HB4.out.trans (hb.mono HB4.out.size))
    have HA : Below w5.heap.size w5 (w5.alloc (.cells #[(.slice p1 ws.length q1), (.slice p2 es.length q2)] 27)) := (Below.refl _ _).alloc (Nat.le_refl _) _
    have HX6 := heap_alloc_new w5 (.cells #[(.slice p1 ws.length q1), (.slice p2 es.length q2)] 27)
    have HR6 := blk_below HR5 HA
    have HC6 := Lib.hid (HC5.out.below HA)
    have HB6 := Lib.hid (HB5.out.trans (HA.mono HB5.out.size))
    have H6 : Hid (Cal (w5.alloc (.cells #[(.slice p1 ws.length q1), (.slice p2 es.length q2)] 27)) (.agg #[(.slice p1 ws.length q1), (.slice p2 es.length q2)]) ws es) := Lib.hid (Cal.below ⟨(.slice p1 ws.length q1), (.slice p2 es.length q2), rfl, hx1, hx2⟩ HA)
    clear hb HR4 HC4 HB4 HA hx1 hx2 HR5 HC5 HB5 c0 c1
    go_wp2_with fail
    generalize w5.alloc (.cells #[(.slice p1 ws.length q1), (.slice p2 es.length q2)] 27) = w6 at *
    refine (HI.out _ ws es d n _ H6.out (by have := HL.out; omega) (by have := HM.out; omega) h0 h1).mono ?_
    rintro e w7 ⟨x', y', rfl, hr, hb⟩
    obtain ⟨rfl, rfl⟩ := HY.out.one hr
    clear hr
    have HR7 := blk_below HR6 hb
    have HX7 := blk_below HX6 hb
    have HC7 := Lib.hid (HC6.out.below hb)
    have H7 := Lib.hid (H6.out.below hb)
    have HB7 := Lib.hid (HB6.out.trans (hb.mono HB6.out.size))
    have HT : Hid (∀ W', Below w7.heap.size w7 W' → Calls Try.prog 28 #[.agg #[vw, vx]] W' (CopyCal ws es W')) := Lib.hid (fun W' k => to_cal _ ws es _ (HC7.out.below k) HL.out HM.out)
    have HQ : Hid (∀ W' v8, Below w7.heap.size w7 W' → Cal W' v8 ws es → Calls Try.prog 30 #[.agg #[(.slice p1 ws.length q1), (.slice p2 es.length q2)], v8] W' fun e w' => e = .returned (.bool true) ∧ Below W'.heap.size W' w') := Lib.hid (fun W' v8 k q => eq_cal _ _ ws es _ (H7.out.below k) q (by have := HL.out; omega) (by have := HM.out; omega))
    have c0 := cell_of_row _ _ 0 _ _ _ HR7
    have c1 := cell_of_row _ _ 1 _ _ _ HR7
    have d0 := cell_of_row _ _ 0 _ _ _ HX7
    have d1 := cell_of_row _ _ 1 _ _ _ HX7
    clear hb HR6 HX6 HC6 H6 HB6 HR7 HX7 HC7 H7
    have hnn : (x != x) = false := by simp
    have hnn2 : (y != y) = false := by simp
    go_upto_region 10 with fail
    go_region_held3 (fun W' => Hid (Below w7.heap.size w7 W') ∧ W'.cell? ⟨w.heap.size, 0, none⟩ = some vw ∧ W'.cell? ⟨w.heap.size, 1, none⟩ = some vx ∧ W'.cell? ⟨w5.heap.size, 0, none⟩ = some (.slice p1 ws.length q1) ∧ W'.cell? ⟨w5.heap.size, 1, none⟩ = some (.slice p2 es.length q2))
      (first | assumption | exact hold4 c0 c1 d0 d1 (hold_call (by assumption) (by assumption)) | exact hold4 c0 c1 d0 d1 (Below.refl _ _).drew)
      (first | (go_at_call 28; refine (HT.out _ (by assumption : Hid (Below w7.heap.size w7 _) ∧ _).1.out).mono ?_; rintro e w' ⟨v8, rfl, h8, hb⟩; have H8 := Lib.hid h8; have hle := hold_le (by assumption) hb; clear h8) | (go_at_call 30; refine (HQ.out _ _ (by assumption : Hid (Below w7.heap.size w7 _) ∧ _).1.out (by assumption : Hid (Cal _ _ ws es)).out).mono ?_; rintro e w' ⟨rfl, hb⟩; have hle := hold_le (by assumption) hb))
    all_goals
      go_wp2_with fail
      go_ret
      exact ⟨rfl, HB7.out.trans ((by assumption : Hid (Below w7.heap.size w7 _) ∧ _).1.out.mono HB7.out.size)⟩

set_option maxRecDepth 100000 in
set_option maxHeartbeats 2000000 in
theorem ex_FinishDay (IM : ImplFinishDay) (v : Value) (ws : List Int) (es : List (Int × Int)) (d n : Int) (w : World) (h : Cal w v ws es) (hm : ws.length ≤ maxLen) (hm' : es.length ≤ maxLen) (h0 : -9223372036854775808 ≤ n) (h1 : n ≤ 9223372036854775807) :
    Calls Try.prog 12 #[v, .int .i64 d, .int .i64 n] w fun e w' => e = .returned (.bool true) ∧ Below w.heap.size w w' := by
  obtain ⟨vw, vx, rfl, hw, hx⟩ := h
  have HI := Lib.hid IM
  clear IM
  have HB : Below w.heap.size w (w.alloc (.cells #[vw, vx] 37)) := (Below.refl _ _).alloc (Nat.le_refl _) _
  have HR := heap_alloc_new w (.cells #[vw, vx] 37)
  have HC : Hid (Cal (w.alloc (.cells #[vw, vx] 37)) (.agg #[vw, vx]) ws es) := Lib.hid (Cal.below ⟨vw, vx, rfl, hw, hx⟩ HB)
  clear hw hx
  go_enter Try.func12, Try.ntmps12
  go_wp2_with fail
  generalize w.alloc (.cells #[vw, vx] 37) = w1 at *
  refine (sz_cal _ ws es _ HC.out hm hm').mono ?_
  rintro e w2 ⟨rfl, hb⟩
  have HR2 := blk_below HR hb
  have HC2 := Lib.hid (HC.out.below hb)
  have HB2 := Lib.hid (HB.trans (hb.mono HB.size))
  have c0 := cell_of_row _ _ 0 _ _ _ HR2
  have c1 := cell_of_row _ _ 1 _ _ _ HR2
  clear hb HR HB HC hm hm'
  by_cases hbig : 1048576 < ws.length + es.length
  · rw [show szLeft ws es = -1 from if_pos hbig]
    clear hbig
    go_wp2_with fail
    go_ret
    exact ⟨rfl, HB2.out⟩
  · rw [show szLeft ws es = 1048576 - ws.length - es.length from if_neg hbig]
    have HL : Hid (ws.length ≤ 1048576) := Lib.hid (by omega)
    have HM : Hid (es.length ≤ 1048576) := Lib.hid (by omega)
    have hz : 0 ≤ (1048576 : Int) - ws.length - es.length ∧ (1048576 : Int) - ws.length - es.length ≤ 1048576 := by omega
    generalize (1048576 : Int) - ws.length - es.length = z at *
    obtain ⟨hz0, hz1⟩ := hz
    clear hbig
    go_wp2_with fail
    refine (to_cal _ ws es _ HC2.out HL.out HM.out).mono ?_
    rintro e w3 ⟨v1, rfl, h1', hb⟩
    have H3 := Lib.hid h1'
    obtain ⟨u1, u2, rfl, _, _⟩ := h1'
    have HR3 := blk_below HR2 hb
    have HC3 := Lib.hid (HC2.out.below hb)
    have HB3 := Lib.hid (HB2.out.trans (hb.mono HB2.out.size))
    clear hb HR2 HC2 HB2 c0 c1
    go_wp2_with fail
    refine (spec_fin _ ws es d n _ H3.out (by have := HM.out; omega) h1).mono ?_
    rintro e w4 ⟨x, y, rfl, hr, hb⟩
    have HY := Lib.hid hr
    clear hr
    have HR4 := blk_below HR3 hb
    have HC4 := Lib.hid (HC3.out.below hb)
    have HB4 := Lib.hid (HB3.out.trans (hb.mono HB3.out.size))
    have c0 := cell_of_row _ _ 0 _ _ _ HR4
    have c1 := cell_of_row _ _ 1 _ _ _ HR4
    clear hb HR3 HC3 HB3 H3
    go_wp2_with fail
    refine (to_cal _ ws es _ HC4.out HL.out HM.out).mono ?_
    rintro e w5 ⟨v5, rfl, h5, hb⟩
    obtain ⟨x1, x2, rfl, hx1, hx2⟩ := h5
    obtain ⟨p1, q1, rfl⟩ := hx1.slice
    obtain ⟨p2, q2, rfl⟩ := hx2.slice
    have HR5 := blk_below HR4 hb
    have HC5 := Lib.hid (HC4.out.below hb)
    have HB5 := Lib.hid (HB4.out.trans (hb.mono HB4.out.size))
    have HA : Below w5.heap.size w5 (w5.alloc (.cells #[(.slice p1 ws.length q1), (.slice p2 es.length q2)] 27)) := (Below.refl _ _).alloc (Nat.le_refl _) _
    have HX6 := heap_alloc_new w5 (.cells #[(.slice p1 ws.length q1), (.slice p2 es.length q2)] 27)
    have HR6 := blk_below HR5 HA
    have HC6 := Lib.hid (HC5.out.below HA)
    have HB6 := Lib.hid (HB5.out.trans (HA.mono HB5.out.size))
    have H6 : Hid (Cal (w5.alloc (.cells #[(.slice p1 ws.length q1), (.slice p2 es.length q2)] 27)) (.agg #[(.slice p1 ws.length q1), (.slice p2 es.length q2)]) ws es) := Lib.hid (Cal.below ⟨(.slice p1 ws.length q1), (.slice p2 es.length q2), rfl, hx1, hx2⟩ HA)
    clear hb HR4 HC4 HB4 HA hx1 hx2 HR5 HC5 HB5 c0 c1
    go_wp2_with fail
    generalize w5.alloc (.cells #[(.slice p1 ws.length q1), (.slice p2 es.length q2)] 27) = w6 at *
    refine (HI.out _ ws es d n _ H6.out (by have := HL.out; omega) (by have := HM.out; omega) h0 h1).mono ?_
    rintro e w7 ⟨x', y', rfl, hr, hb⟩
    obtain ⟨rfl, rfl⟩ := HY.out.one hr
    clear hr
    have HR7 := blk_below HR6 hb
    have HX7 := blk_below HX6 hb
    have HC7 := Lib.hid (HC6.out.below hb)
    have H7 := Lib.hid (H6.out.below hb)
    have HB7 := Lib.hid (HB6.out.trans (hb.mono HB6.out.size))
    have HT : Hid (∀ W', Below w7.heap.size w7 W' → Calls Try.prog 28 #[.agg #[vw, vx]] W' (CopyCal ws es W')) := Lib.hid (fun W' k => to_cal _ ws es _ (HC7.out.below k) HL.out HM.out)
    have HQ : Hid (∀ W' v8, Below w7.heap.size w7 W' → Cal W' v8 ws es → Calls Try.prog 30 #[.agg #[(.slice p1 ws.length q1), (.slice p2 es.length q2)], v8] W' fun e w' => e = .returned (.bool true) ∧ Below W'.heap.size W' w') := Lib.hid (fun W' v8 k q => eq_cal _ _ ws es _ (H7.out.below k) q (by have := HL.out; omega) (by have := HM.out; omega))
    have c0 := cell_of_row _ _ 0 _ _ _ HR7
    have c1 := cell_of_row _ _ 1 _ _ _ HR7
    have d0 := cell_of_row _ _ 0 _ _ _ HX7
    have d1 := cell_of_row _ _ 1 _ _ _ HX7
    clear hb HR6 HX6 HC6 H6 HB6 HR7 HX7 HC7 H7
    have hnn : (x != x) = false := by simp
    have hnn2 : (y != y) = false := by simp
    go_upto_region 10 with fail
    go_region_held3 (fun W' => Hid (Below w7.heap.size w7 W') ∧ W'.cell? ⟨w.heap.size, 0, none⟩ = some vw ∧ W'.cell? ⟨w.heap.size, 1, none⟩ = some vx ∧ W'.cell? ⟨w5.heap.size, 0, none⟩ = some (.slice p1 ws.length q1) ∧ W'.cell? ⟨w5.heap.size, 1, none⟩ = some (.slice p2 es.length q2))
      (first | assumption | exact hold4 c0 c1 d0 d1 (hold_call (by assumption) (by assumption)) | exact hold4 c0 c1 d0 d1 (Below.refl _ _).drew)
      (first | (go_at_call 28; refine (HT.out _ (by assumption : Hid (Below w7.heap.size w7 _) ∧ _).1.out).mono ?_; rintro e w' ⟨v8, rfl, h8, hb⟩; have H8 := Lib.hid h8; have hle := hold_le (by assumption) hb; clear h8) | (go_at_call 30; refine (HQ.out _ _ (by assumption : Hid (Below w7.heap.size w7 _) ∧ _).1.out (by assumption : Hid (Cal _ _ ws es)).out).mono ?_; rintro e w' ⟨rfl, hb⟩; have hle := hold_le (by assumption) hb))
    all_goals
      go_wp2_with fail
      go_ret
      exact ⟨rfl, HB7.out.trans ((by assumption : Hid (Below w7.heap.size w7 _) ∧ _).1.out.mono HB7.out.size)⟩

end Go.Proofs.Ytkhonlcekjckoaa
