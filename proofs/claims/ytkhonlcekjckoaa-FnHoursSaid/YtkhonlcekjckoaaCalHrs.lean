/-
  The walks of the laws on calendars, where the program's functions and the draws keep their contracts.
-/
import Derived.Test.YtkhonlcekjckoaaRows
import Derived.Test.YtkhonlcekjckoaaExcs
import Derived.Test.YtkhonlcekjckoaaCalLib
import Derived.Test.YtkhonlcekjckoaaCalRes
import Derived.Test.YtkhonlcekjckoaaCalHours
import Derived.Test.YtkhonlcekjckoaaCalCount
import Derived.Test.YtkhonlcekjckoaaCalIs
import Derived.Test.YtkhonlcekjckoaaCalSpec
import Derived.Test.YtkhonlcekjckoaaCalAdd
import Derived.Test.YtkhonlcekjckoaaCalFin
import Derived.Test.YtkhonlcekjckoaaCalEx
import Derived.Test.YtkhonlcekjckoaaCalLaw
import Derived.Test.YtkhonlcekjckoaaDraw
import Derived.Test.YtkhonlcekjckoaaLawBig
import Derived.Test.YtkhonlcekjckoaaHold
import Derived.WalkKit
import Derived.WalkSpells
import Derived.WalkSmall
import Derived.BigQuiet
import Derived.Deep.DeepCutAuto
import Derived.Deep.QuietTactic
import Derived.Deep.RegionHeld3
import Derived.IntWalk
import Derived.Lib.Hide
namespace Go.Proofs.Ytkhonlcekjckoaa
open Go.RowKit

theorem codeAt_up {B B' : Nat} {w : World} {a : Option Addr} {n : Nat} (h : CodeAt B w a n) (hle : B ≤ B') : CodeAt B' w a n := by
  rcases h with h | ⟨b, o, ha, hlt, hc⟩
  · exact Or.inl h
  · exact Or.inr ⟨b, o, ha, by omega, hc⟩
section
variable (ws : List Int) (es : List (Int × Int))
theorem wbt_add (a m b : Int) : wbt ws es a m + wbt ws es m b = wbt ws es a b := by
  unfold wbt
  split
  · exact wb_add a m b
  · rfl
theorem wbt_neg (a b : Int) : wbt ws es b a = -wbt ws es a b := by
  unfold wbt
  split
  · exact wb_neg a b
  · rfl
theorem wbt_bound (a b : Int) : -1000 ≤ wbt ws es a b ∧ wbt ws es a b ≤ 1000 := by
  unfold wbt
  split
  · rename_i h
    exact wb_bound h a b
  · omega
theorem hbt_add {a m b : Int} (h1 : a ≤ m) (h2 : m ≤ b) : hbt ws es a m + hbt ws es m b = hbt ws es a b := by
  unfold hbt
  split
  · exact hrs_add h1 h2
  · rfl
theorem hbt_bound (a b : Int) : 0 ≤ hbt ws es a b ∧ hbt ws es a b ≤ 24000 := by
  unfold hbt
  split
  · rename_i h
    exact hrs_bound h a b
  · omega
end

set_option maxRecDepth 100000 in
set_option maxHeartbeats 2000000 in
theorem walk_FnHours (IB : ImplHoursBetween) (IW : ImplWorkdaysBetween) (DH : DrawHrs) (DW : DrawWbt) (a : Option Addr) (n c : Nat) (w : World) (hm : n ≤ maxLen) (hcode : CodeAt w.heap.size w a n) :
    Calls Try.prog 5 #[.slice a n c] w fun e w' => e = .returned (.bool true) ∧ Below w.heap.size w w' := by
  unfold maxLen at hm
  have HCO := Lib.hid hcode
  clear hcode
  by_cases hbig : 1048576 < n
  · have e0 : decide ((1048576 : Int) < (n : Int)) = true := decide_eq_true (by omega)
    go_enter Try.func5, Try.ntmps5
    go_wp2_with fail
    refine (laws_big a n c _).mono ?_
    rintro e w1 ⟨rfl, rfl⟩
    go_wp2
    go_ret
    exact ⟨rfl, Below.refl _ _⟩
  have e0 : decide ((1048576 : Int) < (n : Int)) = false := decide_eq_false (by omega)
  go_enter Try.func5, Try.ntmps5
  go_wp2_with fail
  refine (laws_big a n c _).mono ?_
  rintro e w1 ⟨rfl, rfl⟩
  go_wp2_with fail
  refine (DH a n c _ (by omega) HCO.out).mono ?_
  rintro e w1 ⟨vw, vx, ws, es, day, m, rfl, hday, hmb, hlw, hle, hcal, hb⟩
  obtain ⟨hday0, hday1⟩ := hday
  obtain ⟨hm0, hm1⟩ := hmb
  have HLW : Hid (ws.length ≤ 1048577) := Lib.hid (by omega)
  have HLE : Hid (es.length ≤ 1048577) := Lib.hid (by omega)
  obtain ⟨vw0, vx0, hvv, hiw, hix⟩ := hcal
  simp only [Value.agg.injEq, Array.mk.injEq, List.cons.injEq, and_true] at hvv
  obtain ⟨rfl, rfl⟩ := hvv
  obtain ⟨p1, q1, rfl⟩ := hiw.slice
  obtain ⟨p2, q2, rfl⟩ := hix.slice
  have HA : Below w1.heap.size w1 (w1.alloc (.cells #[.slice p1 ws.length q1, .slice p2 es.length q2] 27)) := (Below.refl _ _).alloc (Nat.le_refl _) _
  have HR2 := heap_alloc_new w1 (.cells #[.slice p1 ws.length q1, .slice p2 es.length q2] 27)
  have HC2 : Hid (Cal (w1.alloc (.cells #[.slice p1 ws.length q1, .slice p2 es.length q2] 27)) (.agg #[.slice p1 ws.length q1, .slice p2 es.length q2]) ws es) := Lib.hid (Cal.below ⟨_, _, rfl, hiw, hix⟩ HA)
  have HB2 := Lib.hid (hb.trans (HA.mono hb.size))
  have HS2 : Hid (w1.heap.size < (w1.alloc (.cells #[.slice p1 ws.length q1, .slice p2 es.length q2] 27)).heap.size) := Lib.hid (by simp)
  clear hiw hix HA hlw hle
  go_wp2_with fail
  generalize w1.alloc (.cells #[.slice p1 ws.length q1, .slice p2 es.length q2] 27) = w2 at *
  have HCO3 : Hid (CodeAt w2.heap.size w2 a n) := Lib.hid (codeAt_up (HCO.out.below HB2.out) HB2.out.size)
  refine (DW a n c _ (by omega) HCO3.out).mono ?_
  rintro e w3 ⟨vw2, vx2, ws2, es2, d, e', rfl, hd, he, _, _, hcal, hb3⟩
  obtain ⟨hd0, hd1⟩ := hd
  obtain ⟨he0, he1⟩ := he
  obtain ⟨vw0, vx0, hvv, hiw, hix⟩ := hcal
  simp only [Value.agg.injEq, Array.mk.injEq, List.cons.injEq, and_true] at hvv
  obtain ⟨rfl, rfl⟩ := hvv
  obtain ⟨p3, q3, rfl⟩ := hiw.slice
  obtain ⟨p4, q4, rfl⟩ := hix.slice
  have HA : Below w3.heap.size w3 (w3.alloc (.cells #[.slice p3 ws2.length q3, .slice p4 es2.length q4] 27)) := (Below.refl _ _).alloc (Nat.le_refl _) _
  have HR4 := blk_below (blk_below HR2 hb3) HA
  have HC4 := Lib.hid ((HC2.out.below hb3).below HA)
  have HB4 := Lib.hid ((HB2.out.trans (hb3.mono HB2.out.size)).trans (HA.mono (HB2.out.trans (hb3.mono HB2.out.size)).size))
  clear hb hb3 hiw hix HC2 HR2 HB2 HA
  go_upto_region 6 with fail
  generalize w3.alloc (.cells #[.slice p3 ws2.length q3, .slice p4 es2.length q4] 27) = w4 at *
  generalize (wrap64 (wrap64 (d.tmod 50 + e'.tmod 50) + 100)).tmod 60 = q
  have hs1 := wbt_bound ws es day q
  have hs2 := wbt_bound ws es q m
  have hs3 := wbt_bound ws es day m
  have HS12 := Lib.hid (wbt_add ws es day q m)
  have HS34 := Lib.hid (wbt_neg ws es day m)
  have hh0 := hbt_bound ws es day m
  have hh1 := hbt_bound ws es day q
  have hh2 := hbt_bound ws es q m
  have HH : Hid (day ≤ q → q ≤ m → hbt ws es day q + hbt ws es q m = hbt ws es day m) := Lib.hid (fun h1 h2 => hbt_add ws es h1 h2)
  have HV : ∀ x1 x2 W', Below w4.heap.size w4 W' → Calls Try.prog 17 #[.agg #[.slice p1 ws.length q1, .slice p2 es.length q2], .int .i64 x1, .int .i64 x2] W' (NumRes (wbt ws es x1 x2) W') := fun x1 x2 W' k => IW _ ws es x1 x2 _ (HC4.out.below k) HLW.out HLE.out
  have HU : ∀ x1 x2 W', Below w4.heap.size w4 W' → Calls Try.prog 22 #[.agg #[.slice p1 ws.length q1, .slice p2 es.length q2], .int .i64 x1, .int .i64 x2] W' (NumRes (hbt ws es x1 x2) W') := fun x1 x2 W' k => IB _ ws es x1 x2 _ (HC4.out.below k) HLW.out HLE.out
  have K0 := Lib.hid (HU day m)
  have K1 := Lib.hid (HU day q)
  have K2 := Lib.hid (HU q m)
  have K3 : Hid (∀ W', Below w4.heap.size w4 W' → Calls Try.prog 23 #[.agg #[.slice p1 ws.length q1, .slice p2 es.length q2], .int .i64 day, .int .i64 m] W' (NumRes (hbt ws es day m) W')) := Lib.hid (fun W' k => spec_hrs _ ws es day m _ (HC4.out.below k) HLE.out)
  have L1 := Lib.hid (HV day q)
  have L2 := Lib.hid (HV q m)
  have L3 := Lib.hid (HV day m)
  have L4 := Lib.hid (HV m day)
  clear HV HU
  generalize wbt ws es day q = s1 at *
  generalize wbt ws es q m = s2 at *
  generalize wbt ws es day m = s3 at *
  generalize wbt ws es m day = s4 at *
  generalize hbt ws es day m = z0 at *
  generalize hbt ws es day q = z1 at *
  generalize hbt ws es q m = z2 at *
  have hw1 : IntKind.i64.wrap (s1 + s2) = s3 := (IntWalk.i64_in _ (by omega)).trans HS12.out
  have hw2 : IntKind.i64.wrap (-s4) = s3 := by rw [HS34.out, Int.neg_neg]; exact IntWalk.i64_in _ (by omega)
  have hbq : (s3 != s3) = false := by simp
  have hbz : (z0 != z0) = false := by simp
  have c0 := cell_of_row _ _ 0 _ _ _ HR4
  have c1 := cell_of_row _ _ 1 _ _ _ HR4
  have HR5 := Lib.hid HR4
  clear HR4
  go_cut [67] (fun s67 wx => s67 = .bool false ∧ Hid (Below w4.heap.size w4 wx))
  case first =>
    go_region_held3 (fun W' => Hid (Below w4.heap.size w4 W') ∧ W'.cell? ⟨w1.heap.size, 0, none⟩ = some (.slice p1 ws.length q1) ∧ W'.cell? ⟨w1.heap.size, 1, none⟩ = some (.slice p2 es.length q2))
      (first | assumption | exact hold2 c0 c1 (hold_call (by assumption) (by assumption)) | exact hold2 c0 c1 (Below.refl _ _).drew)
      (first | (go_at_call 22; (with_reducible refine (K0.out _ (by assumption : Hid (Below w4.heap.size w4 _) ∧ _).1.out).mono ?_); rintro e w' ⟨rfl, hb⟩; have hle := hold_le (by assumption) hb) | (go_at_call 23; (with_reducible refine (K3.out _ (by assumption : Hid (Below w4.heap.size w4 _) ∧ _).1.out).mono ?_); rintro e w' ⟨rfl, hb⟩; have hle := hold_le (by assumption) hb) | (go_at_call 17; first | ((with_reducible refine (L1.out _ (by assumption : Hid (Below w4.heap.size w4 _) ∧ _).1.out).mono ?_); rintro e w' ⟨rfl, hb⟩; have hle := hold_le (by assumption) hb) | ((with_reducible refine (L2.out _ (by assumption : Hid (Below w4.heap.size w4 _) ∧ _).1.out).mono ?_); rintro e w' ⟨rfl, hb⟩; have hle := hold_le (by assumption) hb) | ((with_reducible refine (L3.out _ (by assumption : Hid (Below w4.heap.size w4 _) ∧ _).1.out).mono ?_); rintro e w' ⟨rfl, hb⟩; have hle := hold_le (by assumption) hb) | ((with_reducible refine (L4.out _ (by assumption : Hid (Below w4.heap.size w4 _) ∧ _).1.out).mono ?_); rintro e w' ⟨rfl, hb⟩; have hle := hold_le (by assumption) hb)))
    all_goals
      go_wp2_with fail
      go_meet
      exact ⟨rfl, (by assumption : Hid (Below w4.heap.size w4 _) ∧ _).1⟩
  case rest =>
    obtain ⟨rfl, HBC⟩ := hcut
    have HR6 := Lib.hid (blk_below HR5.out HBC.out)
    have B6 := Lib.hid (HB4.out.trans (HBC.out.mono HB4.out.size))
    clear c0 c1 hw1 hw2 hs1 hs2 hs3
    have c0 := cell_of_row _ _ 0 _ _ _ HR6.out
    have c1 := cell_of_row _ _ 1 _ _ _ HR6.out
    have M0 : Hid (∀ W', Below wc.heap.size wc W' → Calls Try.prog 22 #[.agg #[.slice p1 ws.length q1, .slice p2 es.length q2], .int .i64 day, .int .i64 m] W' (NumRes z0 W')) := Lib.hid (fun W' k => K0.out _ (HBC.out.trans (k.mono HBC.out.size)))
    have M1 : Hid (∀ W', Below wc.heap.size wc W' → Calls Try.prog 22 #[.agg #[.slice p1 ws.length q1, .slice p2 es.length q2], .int .i64 day, .int .i64 q] W' (NumRes z1 W')) := Lib.hid (fun W' k => K1.out _ (HBC.out.trans (k.mono HBC.out.size)))
    have M2 : Hid (∀ W', Below wc.heap.size wc W' → Calls Try.prog 22 #[.agg #[.slice p1 ws.length q1, .slice p2 es.length q2], .int .i64 q, .int .i64 m] W' (NumRes z2 W')) := Lib.hid (fun W' k => K2.out _ (HBC.out.trans (k.mono HBC.out.size)))
    by_cases hq1 : q < day
    · have b1 : decide (q < day) = true := decide_eq_true hq1
      go_upto_region 8 with fail
      go_quiet (fail)
      go_wp2
      go_ret
      exact ⟨rfl, below_drewN B6.out _⟩
    · have b1 : decide (q < day) = false := decide_eq_false hq1
      by_cases hq2 : m < q
      · have b2 : decide (m < q) = true := decide_eq_true hq2
        go_upto_region 8 with fail
        go_quiet (fail)
        go_wp2
        go_ret
        exact ⟨rfl, below_drewN B6.out _⟩
      · have b2 : decide (m < q) = false := decide_eq_false hq2
        have hadd := HH.out (by omega) (by omega)
        have hw3 : IntKind.i64.wrap (z1 + z2) = z0 := (IntWalk.i64_in _ (by omega)).trans hadd
        have hbe : (z0 == z0) = true := by simp
        clear hadd hq1 hq2
        go_upto_region 8 with fail
        go_region_held3 (fun W' => Hid (Below wc.heap.size wc W') ∧ W'.cell? ⟨w1.heap.size, 0, none⟩ = some (.slice p1 ws.length q1) ∧ W'.cell? ⟨w1.heap.size, 1, none⟩ = some (.slice p2 es.length q2))
          (first | assumption | exact hold2 c0 c1 (hold_call (by assumption) (by assumption)) | exact hold2 c0 c1 (Below.refl _ _).drew)
          (first | (go_at_call 22; first | ((with_reducible refine (M0.out _ (by assumption : Hid (Below wc.heap.size wc _) ∧ _).1.out).mono ?_); rintro e w' ⟨rfl, hb⟩; have hle := hold_le (by assumption) hb) | ((with_reducible refine (M1.out _ (by assumption : Hid (Below wc.heap.size wc _) ∧ _).1.out).mono ?_); rintro e w' ⟨rfl, hb⟩; have hle := hold_le (by assumption) hb) | ((with_reducible refine (M2.out _ (by assumption : Hid (Below wc.heap.size wc _) ∧ _).1.out).mono ?_); rintro e w' ⟨rfl, hb⟩; have hle := hold_le (by assumption) hb)))
        all_goals
          go_wp2
          go_ret
          exact ⟨rfl, B6.out.trans ((by assumption : Hid (Below wc.heap.size wc _) ∧ _).1.out.mono B6.out.size)⟩
end Go.Proofs.Ytkhonlcekjckoaa
