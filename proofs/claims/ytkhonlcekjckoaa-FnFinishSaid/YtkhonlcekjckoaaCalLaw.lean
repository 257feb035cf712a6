/-
  The walks of the laws on calendars, where the program's functions and the draws keep their contracts.
-/
import Derived.Test.YtkhonlcekjckoaaRows
import Derived.Test.YtkhonlcekjckoaaExcs
import Derived.Test.YtkhonlcekjckoaaCalLib
import Derived.Test.YtkhonlcekjckoaaCalRes
import Derived.Test.YtkhonlcekjckoaaCalHours
import Derived.Test.YtkhonlcekjckoaaCalCount
import Derived.Test.YtkhonlcekjckoaaCalIs
import Derived.Test.YtkhonlcekjckoaaCalSpec
import Derived.Test.YtkhonlcekjckoaaCalAdd
import Derived.Test.YtkhonlcekjckoaaCalFin
import Derived.Test.YtkhonlcekjckoaaCalEx
import Derived.Test.YtkhonlcekjckoaaDraw
import Derived.Test.YtkhonlcekjckoaaLawBig
import Derived.Test.YtkhonlcekjckoaaHold
import Derived.WalkKit
import Derived.WalkSpells
import Derived.WalkSmall
import Derived.BigQuiet
import Derived.Deep.DeepCutAuto
import Derived.Deep.QuietTactic
import Derived.Deep.RegionHeld3
import Derived.Lib.Hide
namespace Go.Proofs.Ytkhonlcekjckoaa
open Go.RowKit

/-- A calendar and two numbers, drawn. -/
def DrewC (w : World) (e : Ending) (w' : World) : Prop := ∃ (vw vx : Value) (ws : List Int) (es : List (Int × Int)) (x y : Int), e = .returned (.tuple #[.agg #[vw, vx], .int .i64 x, .int .i64 y]) ∧ (-9223372036854775808 ≤ x ∧ x ≤ 9223372036854775807) ∧ (-9223372036854775808 ≤ y ∧ y ≤ 9223372036854775807) ∧ ws.length ≤ 1048576 ∧ es.length ≤ 1048576 ∧ Cal w' (.agg #[vw, vx]) ws es ∧ Below w.heap.size w w'
def DrawAdd : Prop := ∀ (a : Option Addr) (n c : Nat) (w : World), n ≤ 1048576 → CodeAt w.heap.size w a n → Calls Try.prog 14 #[.slice a n c] w (DrewC w)
def DrawFin : Prop := ∀ (a : Option Addr) (n c : Nat) (w : World), n ≤ 1048576 → CodeAt w.heap.size w a n → Calls Try.prog 24 #[.slice a n c] w (DrewC w)
def DrawHrs : Prop := ∀ (a : Option Addr) (n c : Nat) (w : World), n ≤ 1048576 → CodeAt w.heap.size w a n → Calls Try.prog 20 #[.slice a n c] w (DrewC w)
def DrawWbt : Prop := ∀ (a : Option Addr) (n c : Nat) (w : World), n ≤ 1048576 → CodeAt w.heap.size w a n → Calls Try.prog 21 #[.slice a n c] w (DrewC w)

theorem wbt_on {ws : List Int} {es : List (Int × Int)} (h : IsCal ws es) (a b : Int) : wbt ws es a b = wb ws es a b := if_pos h
theorem hbt_on {ws : List Int} {es : List (Int × Int)} (h : IsCal ws es) (a b : Int) : hbt ws es a b = hrs ws es a b := if_pos h

set_option maxRecDepth 100000 in
set_option maxHeartbeats 2000000 in
theorem walk_FnWorkdays (IA : ImplAddWorkdays) (IW : ImplWorkdaysBetween) (DA : DrawAdd) (a : Option Addr) (n c : Nat) (w : World) (hm : n ≤ maxLen) (hcode : CodeAt w.heap.size w a n) :
    Calls Try.prog 3 #[.slice a n c] w fun e w' => e = .returned (.bool true) ∧ Below w.heap.size w w' := by
  unfold maxLen at hm
  have HCO := Lib.hid hcode
  clear hcode
  by_cases hbig : 1048576 < n
  · have e0 : decide ((1048576 : Int) < (n : Int)) = true := decide_eq_true (by omega)
    go_enter Try.func3, Try.ntmps3
    go_wp2_with fail
    refine (laws_big a n c _).mono ?_
    rintro e w1 ⟨rfl, rfl⟩
    go_wp2
    go_ret
    exact ⟨rfl, Below.refl _ _⟩
  have e0 : decide ((1048576 : Int) < (n : Int)) = false := decide_eq_false (by omega)
  go_enter Try.func3, Try.ntmps3
  go_wp2_with fail
  refine (laws_big a n c _).mono ?_
  rintro e w1 ⟨rfl, rfl⟩
  go_wp2_with fail
  refine (DA a n c _ (by omega) HCO.out).mono ?_
  rintro e w1 ⟨vw, vx, ws, es, day, m, rfl, hday, hmb, hlw, hle, hcal, hb⟩
  obtain ⟨hday0, hday1⟩ := hday
  obtain ⟨hm0, hm1⟩ := hmb
  have HLW : Hid (ws.length ≤ 1048577) := Lib.hid (by omega)
  have HLE : Hid (es.length ≤ 1048577) := Lib.hid (by omega)
  obtain ⟨vw0, vx0, hvv, hiw, hix⟩ := hcal
  simp only [Value.agg.injEq, Array.mk.injEq, List.cons.injEq, and_true] at hvv
  obtain ⟨rfl, rfl⟩ := hvv
  obtain ⟨p1, q1, rfl⟩ := hiw.slice
  obtain ⟨p2, q2, rfl⟩ := hix.slice
  have HA : Below w1.heap.size w1 (w1.alloc (.cells #[.slice p1 ws.length q1, .slice p2 es.length q2] 27)) := (Below.refl _ _).alloc (Nat.le_refl _) _
  have HR2 := heap_alloc_new w1 (.cells #[.slice p1 ws.length q1, .slice p2 es.length q2] 27)
  have HC2 : Hid (Cal (w1.alloc (.cells #[.slice p1 ws.length q1, .slice p2 es.length q2] 27)) (.agg #[.slice p1 ws.length q1, .slice p2 es.length q2]) ws es) := Lib.hid (Cal.below ⟨_, _, rfl, hiw, hix⟩ HA)
  have HB2 := Lib.hid (hb.trans (HA.mono hb.size))
  have HS2 : Hid (w1.heap.size < (w1.alloc (.cells #[.slice p1 ws.length q1, .slice p2 es.length q2] 27)).heap.size) := Lib.hid (by simp)
  clear hiw hix hb HA hlw hle
  go_wp2_with fail
  generalize w1.alloc (.cells #[.slice p1 ws.length q1, .slice p2 es.length q2] 27) = w2 at *
  refine (IA _ ws es day m _ HC2.out HLW.out HLE.out hm0 hm1).mono ?_
  rintro e w3 ⟨x, y, rfl, hr, hb⟩
  have HY := Lib.hid hr
  clear hr
  have HR3 := blk_below HR2 hb
  have HC3 := Lib.hid (HC2.out.below hb)
  have HB3 := Lib.hid (HB2.out.trans (hb.mono HB2.out.size))
  have c0 := cell_of_row _ _ 0 _ _ _ HR3
  have c1 := cell_of_row _ _ 1 _ _ _ HR3
  clear hb HR2 HC2 HB2
  go_wp2_with fail
  refine (spec_add _ ws es day m _ HC3.out HLE.out hm0 hm1).mono ?_
  rintro e w4 ⟨x', y', rfl, hr, hb⟩
  obtain ⟨rfl, rfl⟩ := HY.out.one hr
  clear hr c0 c1
  have HR4 := blk_below HR3 hb
  have HC4 := Lib.hid (HC3.out.below hb)
  have HB4 := Lib.hid (HB3.out.trans (hb.mono HB3.out.size))
  have c0 := cell_of_row _ _ 0 _ _ _ HR4
  have c1 := cell_of_row _ _ 1 _ _ _ HR4
  clear hb HR3 HC3 HB3
  have hyy : (y != y) = false := by simp
  rcases HY.out with ⟨rfl, ho, hok⟩ | ⟨rfl, rfl, hno⟩
  · have HO := Lib.hid ho
    have HK := Lib.hid hok
    have hx0 := hok.1
    have hx9 := hok.2.1
    have hd0 := ho.2.1
    have hd9 := ho.2.2
    clear ho hok HY
    go_wp2_with fail
    refine (IW _ ws es day x _ HC4.out HLW.out HLE.out).mono ?_
    rintro e w5 ⟨rfl, hb⟩
    rw [wbt_on HO.out.1, HK.out.2.2.1]
    clear c0 c1
    have HR5 := blk_below HR4 hb
    have HC5 := Lib.hid (HC4.out.below hb)
    have HB5 := Lib.hid (HB4.out.trans (hb.mono HB4.out.size))
    have c0 := cell_of_row _ _ 0 _ _ _ HR5
    have c1 := cell_of_row _ _ 1 _ _ _ HR5
    clear hb HR4 HC4 HB4
    have hmm : (m != m) = false := by simp
    have HIS := Lib.hid (decide_eq_true HO.out.1)
    by_cases hz : m = 0
    · subst hz
      obtain rfl : x = day := add_zero HK.out
      go_wp2_with fail
      refine (spec_isCal _ ws es _ HC5.out HLE.out).mono ?_
      rintro e w6 ⟨rfl, hb⟩
      rw [HIS.out]
      clear c0 c1
      have HR6 := blk_below HR5 hb
      have HC6 := Lib.hid (HC5.out.below hb)
      have HB6 := Lib.hid (HB5.out.trans (hb.mono HB5.out.size))
      have c0 := cell_of_row _ _ 0 _ _ _ HR6
      have c1 := cell_of_row _ _ 1 _ _ _ HR6
      clear hb HR5 HC5 HB5
      go_wp2_with fail
      go_ret
      exact ⟨rfl, HB6.out⟩
    · have hzb : (m == 0) = false := beq_eq_false_iff_ne.2 hz
      go_wp2_with fail
      refine (spec_isCal _ ws es _ HC5.out HLE.out).mono ?_
      rintro e w6 ⟨rfl, hb⟩
      rw [HIS.out]
      clear c0 c1
      have HR6 := blk_below HR5 hb
      have HC6 := Lib.hid (HC5.out.below hb)
      have HB6 := Lib.hid (HB5.out.trans (hb.mono HB5.out.size))
      have c0 := cell_of_row _ _ 0 _ _ _ HR6
      have c1 := cell_of_row _ _ 1 _ _ _ HR6
      clear hb HR5 HC5 HB5
      by_cases hp : m ≤ 0
      · go_wp2_with fail
        go_ret
        exact ⟨rfl, HB6.out⟩
      · have hup := add_up HO.out HK.out (by omega)
        have hlt := hup.1
        go_wp2_with fail
        refine (IW _ ws es day (x - 1) _ HC6.out HLW.out HLE.out).mono ?_
        rintro e w7 ⟨rfl, hb⟩
        rw [wbt_on HO.out.1, hup.2]
        have HB7 := Lib.hid (HB6.out.trans (hb.mono HB6.out.size))
        have hmm1 : (m - 1 == m - 1) = true := by simp
        go_wp2_with fail
        go_ret
        exact ⟨rfl, HB7.out⟩
  · clear hno HY
    go_wp2_with fail
    go_ret
    exact ⟨rfl, HB4.out⟩

set_option maxRecDepth 100000 in
set_option maxHeartbeats 2000000 in
theorem walk_FnBackwards (IA : ImplAddWorkdays) (IW : ImplWorkdaysBetween) (IH : ImplHoursOn) (DA : DrawAdd) (a : Option Addr) (n c : Nat) (w : World) (hm : n ≤ maxLen) (hcode : CodeAt w.heap.size w a n) :
    Calls Try.prog 4 #[.slice a n c] w fun e w' => e = .returned (.bool true) ∧ Below w.heap.size w w' := by
  unfold maxLen at hm
  have HCO := Lib.hid hcode
  clear hcode
  by_cases hbig : 1048576 < n
  · have e0 : decide ((1048576 : Int) < (n : Int)) = true := decide_eq_true (by omega)
    go_enter Try.func4, Try.ntmps4
    go_wp2_with fail
    refine (laws_big a n c _).mono ?_
    rintro e w1 ⟨rfl, rfl⟩
    go_wp2
    go_ret
    exact ⟨rfl, Below.refl _ _⟩
  have e0 : decide ((1048576 : Int) < (n : Int)) = false := decide_eq_false (by omega)
  go_enter Try.func4, Try.ntmps4
  go_wp2_with fail
  refine (laws_big a n c _).mono ?_
  rintro e w1 ⟨rfl, rfl⟩
  go_wp2_with fail
  refine (DA a n c _ (by omega) HCO.out).mono ?_
  rintro e w1 ⟨vw, vx, ws, es, day, m, rfl, hday, hmb, hlw, hle, hcal, hb⟩
  obtain ⟨hday0, hday1⟩ := hday
  obtain ⟨hm0, hm1⟩ := hmb
  have HLW : Hid (ws.length ≤ 1048577) := Lib.hid (by omega)
  have HLE : Hid (es.length ≤ 1048577) := Lib.hid (by omega)
  obtain ⟨vw0, vx0, hvv, hiw, hix⟩ := hcal
  simp only [Value.agg.injEq, Array.mk.injEq, List.cons.injEq, and_true] at hvv
  obtain ⟨rfl, rfl⟩ := hvv
  obtain ⟨p1, q1, rfl⟩ := hiw.slice
  obtain ⟨p2, q2, rfl⟩ := hix.slice
  have HA : Below w1.heap.size w1 (w1.alloc (.cells #[.slice p1 ws.length q1, .slice p2 es.length q2] 27)) := (Below.refl _ _).alloc (Nat.le_refl _) _
  have HR2 := heap_alloc_new w1 (.cells #[.slice p1 ws.length q1, .slice p2 es.length q2] 27)
  have HC2 : Hid (Cal (w1.alloc (.cells #[.slice p1 ws.length q1, .slice p2 es.length q2] 27)) (.agg #[.slice p1 ws.length q1, .slice p2 es.length q2]) ws es) := Lib.hid (Cal.below ⟨_, _, rfl, hiw, hix⟩ HA)
  have HB2 := Lib.hid (hb.trans (HA.mono hb.size))
  have HS2 : Hid (w1.heap.size < (w1.alloc (.cells #[.slice p1 ws.length q1, .slice p2 es.length q2] 27)).heap.size) := Lib.hid (by simp)
  clear hiw hix hb HA hlw hle
  go_wp2_with fail
  generalize w1.alloc (.cells #[.slice p1 ws.length q1, .slice p2 es.length q2] 27) = w2 at *
  refine (IA _ ws es day m _ HC2.out HLW.out HLE.out hm0 hm1).mono ?_
  rintro e w3 ⟨x, y, rfl, hr, hb⟩
  have HY := Lib.hid hr
  clear hr
  have HR3 := blk_below HR2 hb
  have HC3 := Lib.hid (HC2.out.below hb)
  have HB3 := Lib.hid (HB2.out.trans (hb.mono HB2.out.size))
  have c0 := cell_of_row _ _ 0 _ _ _ HR3
  have c1 := cell_of_row _ _ 1 _ _ _ HR3
  clear hb HR2 HC2 HB2
  go_wp2_with fail
  refine (spec_add _ ws es day m _ HC3.out HLE.out hm0 hm1).mono ?_
  rintro e w4 ⟨x', y', rfl, hr, hb⟩
  obtain ⟨rfl, rfl⟩ := HY.out.one hr
  clear hr c0 c1
  have HR4 := blk_below HR3 hb
  have HC4 := Lib.hid (HC3.out.below hb)
  have HB4 := Lib.hid (HB3.out.trans (hb.mono HB3.out.size))
  have c0 := cell_of_row _ _ 0 _ _ _ HR4
  have c1 := cell_of_row _ _ 1 _ _ _ HR4
  clear hb HR3 HC3 HB3
  have hyy : (y != y) = false := by simp
  rcases HY.out with ⟨rfl, ho, hok⟩ | ⟨rfl, rfl, hno⟩
  · have HO := Lib.hid ho
    have HK := Lib.hid hok
    have hx0 := hok.1
    have hx9 := hok.2.1
    clear ho hok HY
    by_cases hp : 0 ≤ m
    · go_wp2_with fail
      go_ret
      exact ⟨rfl, HB4.out⟩
    · have hdn := add_down HO.out HK.out (by omega)
      have hlt := hdn.1
      have HON : Hid (hon ws es x = hOf ws es x.toNat) := Lib.hid (if_pos ⟨HO.out.1, hx0, hx9⟩)
      go_wp2_with fail
      refine (IH _ ws es x _ HC4.out HLW.out HLE.out).mono ?_
      rintro e w5 ⟨rfl, hb⟩
      rw [HON.out]
      have hpos := hdn.2.1
      have HWB := Lib.hid hdn.2.2
      generalize hOf ws es x.toNat = z at *
      clear c0 c1 hdn
      have HR5 := blk_below HR4 hb
      have HC5 := Lib.hid (HC4.out.below hb)
      have HB5 := Lib.hid (HB4.out.trans (hb.mono HB4.out.size))
      have c0 := cell_of_row _ _ 0 _ _ _ HR5
      have c1 := cell_of_row _ _ 1 _ _ _ HR5
      clear hb HR4 HC4 HB4
      go_wp2_with fail
      refine (IW _ ws es x day _ HC5.out HLW.out HLE.out).mono ?_
      rintro e w6 ⟨rfl, hb⟩
      have hbw := wb_bound HO.out.1 x day
      rw [wbt_on HO.out.1, HWB.out]
      rw [HWB.out] at hbw
      have HB6 := Lib.hid (HB5.out.trans (hb.mono HB5.out.size))
      have hmm1 : (-m == -m) = true := by simp
      go_wp2_with fail
      go_ret
      exact ⟨rfl, HB6.out⟩
  · clear hno HY
    go_wp2_with fail
    go_ret
    exact ⟨rfl, HB4.out⟩

set_option maxRecDepth 100000 in
set_option maxHeartbeats 2000000 in
theorem walk_FnFinish (IF : ImplFinishDay) (IH : ImplHoursBetween) (DF : DrawFin) (a : Option Addr) (n c : Nat) (w : World) (hm : n ≤ maxLen) (hcode : CodeAt w.heap.size w a n) :
    Calls Try.prog 6 #[.slice a n c] w fun e w' => e = .returned (.bool true) ∧ Below w.heap.size w w' := by
  unfold maxLen at hm
  have HCO := Lib.hid hcode
  clear hcode
  by_cases hbig : 1048576 < n
  · have e0 : decide ((1048576 : Int) < (n : Int)) = true := decide_eq_true (by omega)
    go_enter Try.func6, Try.ntmps6
    go_wp2_with fail
    refine (laws_big a n c _).mono ?_
    rintro e w1 ⟨rfl, rfl⟩
    go_wp2
    go_ret
    exact ⟨rfl, Below.refl _ _⟩
  have e0 : decide ((1048576 : Int) < (n : Int)) = false := decide_eq_false (by omega)
  go_enter Try.func6, Try.ntmps6
  go_wp2_with fail
  refine (laws_big a n c _).mono ?_
  rintro e w1 ⟨rfl, rfl⟩
  go_wp2_with fail
  refine (DF a n c _ (by omega) HCO.out).mono ?_
  rintro e w1 ⟨vw, vx, ws, es, day, m, rfl, hday, hmb, hlw, hle, hcal, hb⟩
  obtain ⟨hday0, hday1⟩ := hday
  obtain ⟨hm0, hm1⟩ := hmb
  have HLW : Hid (ws.length ≤ 1048577) := Lib.hid (by omega)
  have HLE : Hid (es.length ≤ 1048577) := Lib.hid (by omega)
  obtain ⟨vw0, vx0, hvv, hiw, hix⟩ := hcal
  simp only [Value.agg.injEq, Array.mk.injEq, List.cons.injEq, and_true] at hvv
  obtain ⟨rfl, rfl⟩ := hvv
  obtain ⟨p1, q1, rfl⟩ := hiw.slice
  obtain ⟨p2, q2, rfl⟩ := hix.slice
  have HA : Below w1.heap.size w1 (w1.alloc (.cells #[.slice p1 ws.length q1, .slice p2 es.length q2] 27)) := (Below.refl _ _).alloc (Nat.le_refl _) _
  have HR2 := heap_alloc_new w1 (.cells #[.slice p1 ws.length q1, .slice p2 es.length q2] 27)
  have HC2 : Hid (Cal (w1.alloc (.cells #[.slice p1 ws.length q1, .slice p2 es.length q2] 27)) (.agg #[.slice p1 ws.length q1, .slice p2 es.length q2]) ws es) := Lib.hid (Cal.below ⟨_, _, rfl, hiw, hix⟩ HA)
  have HB2 := Lib.hid (hb.trans (HA.mono hb.size))
  have HS2 : Hid (w1.heap.size < (w1.alloc (.cells #[.slice p1 ws.length q1, .slice p2 es.length q2] 27)).heap.size) := Lib.hid (by simp)
  clear hiw hix hb HA hlw hle
  go_wp2_with fail
  generalize w1.alloc (.cells #[.slice p1 ws.length q1, .slice p2 es.length q2] 27) = w2 at *
  refine (IF _ ws es day m _ HC2.out HLW.out HLE.out hm0 hm1).mono ?_
  rintro e w3 ⟨x, y, rfl, hr, hb⟩
  have HY := Lib.hid hr
  clear hr
  have HR3 := blk_below HR2 hb
  have HC3 := Lib.hid (HC2.out.below hb)
  have HB3 := Lib.hid (HB2.out.trans (hb.mono HB2.out.size))
  have c0 := cell_of_row _ _ 0 _ _ _ HR3
  have c1 := cell_of_row _ _ 1 _ _ _ HR3
  clear hb HR2 HC2 HB2
  go_wp2_with fail
  refine (spec_fin _ ws es day m _ HC3.out HLE.out hm1).mono ?_
  rintro e w4 ⟨x', y', rfl, hr, hb⟩
  obtain ⟨rfl, rfl⟩ := HY.out.one hr
  clear hr c0 c1
  have HR4 := blk_below HR3 hb
  have HC4 := Lib.hid (HC3.out.below hb)
  have HB4 := Lib.hid (HB3.out.trans (hb.mono HB3.out.size))
  have c0 := cell_of_row _ _ 0 _ _ _ HR4
  have c1 := cell_of_row _ _ 1 _ _ _ HR4
  clear hb HR3 HC3 HB3
  have hyy : (y != y) = false := by simp
  rcases HY.out with ⟨rfl, ho, hok⟩ | ⟨rfl, rfl, hno⟩
  · have HO := Lib.hid ho.1
    have HK := Lib.hid hok
    have hx0 := hok.1
    have hx9 := hok.2.1
    have hd0 := ho.1.2.1
    have hk1 := hok.2.2.1
    have hk2 := hok.2.2.2
    have HB24 := hrs_bound HO.out.1 day (x + 1)
    clear ho hok HY
    go_wp2_with fail
    refine (IH _ ws es day (x + 1) _ HC4.out HLW.out HLE.out).mono ?_
    rintro e w5 ⟨rfl, hb⟩
    rw [hbt_on HO.out.1]
    generalize hrs ws es day (x + 1) = z1 at *
    clear c0 c1
    have HR5 := blk_below HR4 hb
    have HC5 := Lib.hid (HC4.out.below hb)
    have HB5 := Lib.hid (HB4.out.trans (hb.mono HB4.out.size))
    have c0 := cell_of_row _ _ 0 _ _ _ HR5
    have c1 := cell_of_row _ _ 1 _ _ _ HR5
    clear hb HR4 HC4 HB4
    go_wp2_with fail
    refine (IH _ ws es day x _ HC5.out HLW.out HLE.out).mono ?_
    rintro e w6 ⟨rfl, hb⟩
    rw [hbt_on HO.out.1]
    generalize hrs ws es day x = z2 at *
    have HB6 := Lib.hid (HB5.out.trans (hb.mono HB5.out.size))
    go_wp2_with fail
    go_ret
    exact ⟨rfl, HB6.out⟩
  · clear hno HY
    go_wp2_with fail
    go_ret
    exact ⟨rfl, HB4.out⟩

end Go.Proofs.Ytkhonlcekjckoaa
