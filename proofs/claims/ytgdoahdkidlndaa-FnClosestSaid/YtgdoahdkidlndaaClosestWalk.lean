/-
  The walk of the law FnClosest.
-/
import Derived.Test.YtgdoahdkidlndaaClosestLaw
import Derived.Test.YtgdoahdkidlndaaRows
import Derived.WalkKit
import Derived.WalkSpells
import Derived.WalkSmall
import Derived.BigQuiet
import Derived.Deep.QuietTactic
import Derived.Lib.Hide
namespace Go.Proofs.Ytgdoahdkidlndaa
open Go.RowKit

theorem maxneg (m : Int) : max m (-m) = if m < -m then -m else m := by split <;> omega

set_option maxRecDepth 100000 in
set_option maxHeartbeats 4000000 in
theorem closest_walk (a : Option Addr) (n c : Nat) (w : World) (hm : n ≤ maxLen) (hcode : CodeAt w.heap.size w a n) :
    Calls Try.prog 4 #[.slice a n c] w fun e w' => e = .returned (.bool true) ∧ Below w.heap.size w w' := by
  unfold maxLen at hm
  have HCO := Lib.hid hcode
  clear hcode
  by_cases hbig : 1048576 < n
  · have e0 : decide ((1048576 : Int) < (n : Int)) = true := decide_eq_true (by omega)
    go_enter Try.func4, Try.ntmps4
    go_wp2_with fail
    refine (laws_big a n c _).mono ?_
    rintro e w1 ⟨rfl, rfl⟩
    go_wp2
    go_ret
    exact ⟨rfl, Below.refl _ _⟩
  have e0 : decide ((1048576 : Int) < (n : Int)) = false := decide_eq_false (by omega)
  go_enter Try.func4, Try.ntmps4
  go_wp2_with fail
  refine (laws_big a n c _).mono ?_
  rintro e w1 ⟨rfl, rfl⟩
  go_wp2_with fail
  refine (draw_lr a n c _ (by omega) HCO.out).mono ?_
  rintro e w1 ⟨t, v, xs, rfl, ht0, ht1, hx8, hi, hb⟩
  have HI := Lib.hid hi
  have B1 := Lib.hid hb
  clear hi hb
  by_cases hC : CanS t xs
  · have HC := Lib.hid hC
    clear hC
    go_wp2_with fail
    refine (impl_lr_yes t v xs _ HI.out HC.out).mono ?_
    rintro e w2 ⟨v2, rfl, ho, hb⟩
    have H2 := Lib.hid (ints_of_row rfl ho)
    have I2 := Lib.hid (HI.out.below hb)
    have B2 := Lib.hid (B1.out.trans (hb.mono B1.out.size))
    clear ho hb
    go_wp2_with fail
    refine (spec_lr_yes t v xs _ I2.out HC.out).mono ?_
    rintro e w3 ⟨v3, rfl, h3, hb⟩
    have H3 := Lib.hid (H2.out.below hb)
    have I3 := Lib.hid (I2.out.below hb)
    have B3 := Lib.hid (B2.out.trans (hb.mono B2.out.size))
    obtain ⟨a3, c3, rfl⟩ := h3.slice
    clear h3 hb
    go_wp2_with fail
    refine (impl_app_yes t v xs _ I3.out HC.out).mono ?_
    rintro e w4 ⟨v4, rfl, ho, hb⟩
    have H4 := Lib.hid (ints_of_row rfl ho)
    have J4 := Lib.hid (H3.out.below hb)
    have I4 := Lib.hid (I3.out.below hb)
    have B4 := Lib.hid (B3.out.trans (hb.mono B3.out.size))
    clear ho hb H2 I2 H3 I3
    have hpos := HC.out.2.2.pos
    obtain ⟨b, o, cw, rfl, hlc, hcell⟩ := ints_some I4.out hpos
    obtain ⟨b2, o2, cw2, rfl, hlc2, hcell2⟩ := ints_some J4.out (by rw [lrL_length]; exact hpos)
    obtain ⟨b4, o4, cw4, rfl, hlc4, hcell4⟩ := ints_some H4.out (by rw [appL_length]; exact hpos)
    rw [lrL_length] at hlc2 ⊢
    rw [appL_length] at hlc4 ⊢
    have HX := Lib.hid hcell
    have HX2 := Lib.hid hcell2
    have HX4 := Lib.hid hcell4
    clear hcell hcell2 hcell4 H4 J4
    have hnn : ((xs.length : Int) != (xs.length : Int)) = false := by simp
    have h40 := HC.out.2.2.1
    have hT := HC.out.2.2.total
    have htb : -1000000000 ≤ t ∧ t ≤ 1000000000 := ⟨HC.out.1, HC.out.2.1⟩
    have HSO : Hid (SumOk xs) := Lib.hid (AreW.ok h40 HC.out.2.2.2.1)
    have HFIN := Lib.hid (closest_far HC.out)
    have HFA : Hid (∀ k, k < xs.length → 0 ≤ far t xs (lrF t xs) k ∧ far t xs (lrF t xs) k ≤ 40000000) := Lib.hid (fun k _ => lr_far HC.out.2.2 k)
    have HFB : Hid (∀ k, k < xs.length → 0 ≤ far t xs (appF t xs) k ∧ far t xs (appF t xs) k ≤ 40000000) := Lib.hid (fun k hk => app_far HC.out k hk)
    go_wp2_with fail
    go_loopw [11, 12, 13] (fun x y i wr => ∃ k : Nat, k ≤ xs.length ∧ i = .int .i64 k ∧ x = .int .i64 (sumF k (far t xs (lrF t xs))) ∧ y = .int .i64 (sumF k (far t xs (appF t xs))) ∧ Below w4.heap.size w4 wr) (fun _ _ i _ => xs.length - (intOf i).toNat)
    case atStart => exact ⟨0, Nat.zero_le _, rfl, rfl, rfl, Below.refl _ _⟩
    case round =>
      obtain ⟨k, hk, rfl, rfl, rfl, hb⟩ := hrel
      have hs1 := far_sum (fun i hi => HFA.out i (by omega)) (k := k)
      have hs2 := far_sum (fun i hi => HFB.out i (by omega)) (k := k)
      by_cases hlt : k < xs.length
      · have c1 : wr.cell? ⟨b, o + k, none⟩ = some (.int .i64 (xs[k]'hlt)) := (hb.cell (p := ⟨b, o + k, none⟩) HX.out.1).trans (HX.out.at k hlt)
        have c2 : wr.cell? ⟨b2, o2 + k, none⟩ = some (.int .i64 (lrF t xs k)) := (hb.cell (p := ⟨b2, o2 + k, none⟩) HX2.out.1).trans (HX2.out.2 k _ (lrL_at hlt))
        have c4 : wr.cell? ⟨b4, o4 + k, none⟩ = some (.int .i64 (appF t xs k)) := (hb.cell (p := ⟨b4, o4 + k, none⟩) HX4.out.1).trans (HX4.out.2 k _ (appL_at hlt))
        have HSQ : Hid (∀ q, Calls Try.prog 16 #[.slice (some ⟨b, o, none⟩) xs.length cw] (wr.drewN q) fun e w' => e = .returned (.int .i64 (sumL xs)) ∧ w' = wr.drewN q) := Lib.hid (fun q => laws_sumQ _ xs _ ((I4.out.below hb).below (below_drewN (Below.refl _ _) q)) (by omega) HSO.out)
        have hn1 := HC.out.one hlt
        have hn1a := hn1.1
        have hn1b := hn1.2.1
        have hl1 := lrF_bound HC.out k
        have hl2 := appF_bound HC.out k
        have hp1 : -40000000040000000 ≤ lrF t xs k * sumL xs ∧ lrF t xs k * sumL xs ≤ 40000000040000000 := by
          have := mulB (a := lrF t xs k) (b := sumL xs) (A := 1000000001) (B := 40000000) hl1.1 hl1.2 (by omega) hT.2
          omega
        have hp2 : -80000000000000000 ≤ appF t xs k * sumL xs ∧ appF t xs k * sumL xs ≤ 80000000000000000 := by
          have := mulB (a := appF t xs k) (b := sumL xs) (A := 2000000000) (B := 40000000) hl2.1 hl2.2 (by omega) hT.2
          omega
        have HE1 := Lib.hid (far_at (t := t) (F := lrF t xs) hlt)
        have HE2 := Lib.hid (far_at (t := t) (F := appF t xs) hlt)
        have hb1 := HFA.out k hlt
        have hb2 := HFB.out k hlt
        have HSF1 : Hid (sumF (k + 1) (far t xs (lrF t xs)) = sumF k (far t xs (lrF t xs)) + far t xs (lrF t xs) k) := Lib.hid rfl
        have HSF2 : Hid (sumF (k + 1) (far t xs (appF t xs)) = sumF k (far t xs (appF t xs)) + far t xs (appF t xs) k) := Lib.hid rfl
        clear hn1
        generalize xs[k]'hlt = x0 at *
        generalize lrF t xs k = l0 at *
        generalize appF t xs k = p0 at *
        generalize sumL xs = S at *
        go_wp2_with fail
        go_quiet (first | (go_at_call 16; with_reducible exact Calls.quiet_of_same (HSQ.out _)))
        have d1 : (wr.drewN nq).cell? ⟨b, o + k, none⟩ = some (.int .i64 x0) := c1
        have d4 : (wr.drewN nq).cell? ⟨b4, o4 + k, none⟩ = some (.int .i64 p0) := c4
        have HSQ2 : Hid (∀ q, Calls Try.prog 16 #[.slice (some ⟨b, o, none⟩) xs.length cw] ((wr.drewN nq).drewN q) fun e w' => e = .returned (.int .i64 S) ∧ w' = (wr.drewN nq).drewN q) := Lib.hid (fun q => by have := HSQ.out (nq + q); rwa [← World.drewN_drewN] at this)
        have hbq : Below w4.heap.size w4 (wr.drewN nq) := below_drewN hb _
        clear c1 c2 c4 HSQ hb
        generalize wr.drewN nq = wq at *
        have hmb0 : -100000000000000000 ≤ l0 * S - t * x0 ∧ l0 * S - t * x0 ≤ 100000000000000000 := by omega
        have hmb1 : -100000000000000000 ≤ p0 * S - t * x0 ∧ p0 * S - t * x0 ≤ 100000000000000000 := by omega
        generalize hm0 : l0 * S - t * x0 = m0 at *
        generalize hm1 : p0 * S - t * x0 = m1 at *
        clear hm0
        go_wp2_with fail
        go_quiet (first | (go_at_call 16; with_reducible exact Calls.quiet_of_same (HSQ2.out _)))
        rw [HE1.out, maxneg] at hb1 HSF1
        rw [HE2.out, maxneg] at hb2 HSF2
        clear HE1 HE2
        go_wp2_with fail
        go_roundw
        case rel => exact ⟨k + 1, by omega, by go_num, congrArg (Value.int .i64) HSF1.out.symm, congrArg (Value.int .i64) HSF2.out.symm, below_drewN hbq _⟩
        case measure => simp [intOf]; omega
      · obtain rfl : k = xs.length := by omega
        have hle := HFIN.out
        have B5 := Lib.hid (B4.out.trans (hb.mono B4.out.size))
        generalize sumF xs.length (far t xs (lrF t xs)) = s1 at *
        generalize sumF xs.length (far t xs (appF t xs)) = s2 at *
        have e9 : decide (s1 ≤ s2) = true := decide_eq_true hle
        go_wp2
        go_ret
        exact ⟨rfl, B5.out⟩
  · have HC := Lib.hid hC
    clear hC
    go_wp2_with fail
    refine (impl_lr_no t v xs _ HI.out (by omega) HC.out).mono ?_
    rintro e w2 ⟨v2, rfl, ho, hb⟩
    have I2 := Lib.hid (HI.out.below hb)
    have B2 := Lib.hid (B1.out.trans (hb.mono B1.out.size))
    obtain ⟨a2, c2, rfl⟩ := own_slice ho
    clear ho hb
    go_wp2_with fail
    refine (spec_lr_no t v xs _ I2.out (by omega) HC.out).mono ?_
    rintro e w3 ⟨v3, rfl, h3, hb⟩
    have I3 := Lib.hid (I2.out.below hb)
    have B3 := Lib.hid (B2.out.trans (hb.mono B2.out.size))
    obtain ⟨a3, c3, rfl⟩ := h3.slice
    clear h3 hb
    go_wp2_with fail
    refine (impl_app_no t v xs _ I3.out (by omega) HC.out).mono ?_
    rintro e w4 ⟨v4, rfl, ho, hb⟩
    have B4 := Lib.hid (B3.out.trans (hb.mono B3.out.size))
    obtain ⟨a4, c4, rfl⟩ := own_slice ho
    clear ho hb
    obtain ⟨a1, c1, rfl⟩ := HI.out.slice
    go_wp2_with fail
    go_ret
    exact ⟨rfl, B4.out⟩
end Go.Proofs.Ytgdoahdkidlndaa
