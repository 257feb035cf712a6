/-
  The walk of the law FnSharing.
-/
import Derived.Test.YtgdoahdkidlndaaClosestLaw
import Derived.Test.YtgdoahdkidlndaaIsShImpl
import Derived.Test.YtgdoahdkidlndaaIsShSpec
import Derived.Test.YtgdoahdkidlndaaRunning
import Derived.Test.YtgdoahdkidlndaaSumQ
import Derived.Test.YtgdoahdkidlndaaRows
import Derived.WalkKit
import Derived.WalkSpells
import Derived.WalkSmall
import Derived.BigQuiet
import Derived.Deep.QuietTactic
import Derived.Lib.Hide
namespace Go.Proofs.Ytgdoahdkidlndaa
open Go.RowKit

theorem can_neg {t : Int} {xs : List Int} (h : CanS t xs) : CanS (-t) xs := ⟨by have := h.2.1; omega, by have := h.1; omega, h.2.2⟩
theorem not_can_neg {t u : Int} {xs : List Int} (h0 : -9223372036854775808 ≤ t) (h1 : t ≤ 9223372036854775807) (hu : u = wrap64 (-t)) (h : ¬CanS t xs) : ¬CanS u xs := by
  intro hc
  have a0 := hc.1
  have a1 := hc.2.1
  apply h
  have e : u = -t ∨ u = t := by unfold wrap64 at hu; omega
  rcases e with e | e
  · exact ⟨by omega, by omega, hc.2.2⟩
  · exact ⟨by omega, by omega, hc.2.2⟩
theorem share_neg (t : Int) (xs : List Int) (k : Nat) : share (-t) xs k = -share t xs k := neg_q _ _ _
theorem appF_neg (t : Int) (xs : List Int) (k : Nat) : appF (-t) xs k = -appF t xs k := by
  unfold appF
  rw [share_neg, share_neg]
  omega
theorem appL_sumOk {t : Int} {xs : List Int} (h : CanS t xs) : SumOk (appL t xs) := by
  intro k
  by_cases hk : k ≤ xs.length
  · rw [sumL_app t xs k hk]
    have := share_bound h k
    omega
  · rw [List.take_of_length_le (by rw [appL_length]; omega)]
    have e := sumL_app t xs xs.length (Nat.le_refl _)
    rw [List.take_of_length_le (by rw [appL_length]; omega)] at e
    rw [e]
    have := share_bound h xs.length
    omega

/-- The sum of the first shares, in a region that draws. -/
theorem sum_first {t : Int} {xs : List Int} {k b o c : Nat} {w wq : World} (hb : Below w.heap.size w wq) (h : CellsI w b o (appL t xs)) (hc : CanS t xs) (hk : k ≤ xs.length) (hl : xs.length ≤ c) (q : Nat) :
    Calls Try.prog 16 #[.slice (some ⟨b, o, none⟩) k c] (wq.drewN q) fun e w' => e = .returned (.int .i64 (share t xs k)) ∧ w' = wq.drewN q := by
  have hI : Ints w (.slice (some ⟨b, o, none⟩) k c) ((appL t xs).take k) := ints_take h k (by rw [appL_length]; exact hk) (by rw [appL_length]; exact hl)
  have h8 := hc.2.2.1
  have h0 := laws_sumQ _ ((appL t xs).take k) (wq.drewN q) (hI.below (below_drewN hb q)) (by rw [List.length_take, appL_length]; omega) (sumOk_take (appL_sumOk hc) k)
  rw [sumL_app t xs k hk] at h0
  exact h0

set_option maxRecDepth 100000 in
set_option maxHeartbeats 4000000 in
theorem sharing_walk (a : Option Addr) (n c : Nat) (w : World) (hm : n ≤ maxLen) (hcode : CodeAt w.heap.size w a n) :
    Calls Try.prog 3 #[.slice a n c] w fun e w' => e = .returned (.bool true) ∧ Below w.heap.size w w' := by
  unfold maxLen at hm
  have HCO := Lib.hid hcode
  clear hcode
  by_cases hbig : 1048576 < n
  · have e0 : decide ((1048576 : Int) < (n : Int)) = true := decide_eq_true (by omega)
    go_enter Try.func3, Try.ntmps3
    go_wp2_with fail
    refine (laws_big a n c _).mono ?_
    rintro e w1 ⟨rfl, rfl⟩
    go_wp2
    go_ret
    exact ⟨rfl, Below.refl _ _⟩
  have e0 : decide ((1048576 : Int) < (n : Int)) = false := decide_eq_false (by omega)
  go_enter Try.func3, Try.ntmps3
  go_wp2_with fail
  refine (laws_big a n c _).mono ?_
  rintro e w1 ⟨rfl, rfl⟩
  go_wp2_with fail
  refine (draw_app a n c _ (by omega) HCO.out).mono ?_
  rintro e w1 ⟨t, v, xs, rfl, ht0, ht1, hx8, hi, hb⟩
  have HI := Lib.hid hi
  have B1 := Lib.hid hb
  clear hi hb
  by_cases hC : CanS t xs
  · have HC := Lib.hid hC
    have HN := Lib.hid (can_neg hC)
    have htb0 := hC.1
    have htb1 := hC.2.1
    clear hC
    go_wp2_with fail
    refine (impl_app_yes t v xs _ HI.out HC.out).mono ?_
    rintro e w2 ⟨v2, rfl, ho, hb⟩
    have H2 := Lib.hid (ints_of_row rfl ho)
    have I2 := Lib.hid (HI.out.below hb)
    have B2 := Lib.hid (B1.out.trans (hb.mono B1.out.size))
    clear ho hb
    go_wp2_with fail
    refine (impl_lr_yes t v xs _ I2.out HC.out).mono ?_
    rintro e w3 ⟨v3, rfl, ho, hb⟩
    have H3 := Lib.hid (ints_of_row rfl ho)
    have J3 := Lib.hid (H2.out.below hb)
    have I3 := Lib.hid (I2.out.below hb)
    have B3 := Lib.hid (B2.out.trans (hb.mono B2.out.size))
    clear ho hb H2 I2
    go_wp2_with fail
    refine (impl_app_yes (-t) v xs _ I3.out HN.out).mono ?_
    rintro e w4 ⟨v4, rfl, ho, hb⟩
    have H4 := Lib.hid (ints_of_row rfl ho)
    have J4 := Lib.hid (J3.out.below hb)
    have L4 := Lib.hid (H3.out.below hb)
    have I4 := Lib.hid (I3.out.below hb)
    have B4 := Lib.hid (B3.out.trans (hb.mono B3.out.size))
    clear ho hb H3 J3 I3
    have HA := Lib.hid (areW_yes HC.out.2.2)
    go_wp2_with fail
    refine (spec_areW v xs _ I4.out (by omega)).mono ?_
    rintro e w5 ⟨rfl, hb⟩
    rw [HA.out]
    have H5 := Lib.hid (H4.out.below hb)
    have J5 := Lib.hid (J4.out.below hb)
    have L5 := Lib.hid (L4.out.below hb)
    have I5 := Lib.hid (I4.out.below hb)
    have B5 := Lib.hid (B4.out.trans (hb.mono B4.out.size))
    clear hb H4 J4 L4 I4 HA
    have hpos := HC.out.2.2.pos
    obtain ⟨b, o, cw, rfl, hlc, hcell⟩ := ints_some I5.out hpos
    obtain ⟨b2, o2, cw2, rfl, hlc2, hcell2⟩ := ints_some J5.out (by rw [appL_length]; exact hpos)
    obtain ⟨b4, o4, cw4, rfl, hlc4, hcell4⟩ := ints_some H5.out (by rw [appL_length]; exact hpos)
    rw [appL_length] at hlc2 hlc4 J5 ⊢
    rw [appL_length]
    have HX := Lib.hid hcell
    have HX2 := Lib.hid hcell2
    have HX4 := Lib.hid hcell4
    clear hcell hcell2 hcell4 H5
    have hnn : ((xs.length : Int) != (xs.length : Int)) = false := by simp
    have d0 : decide ((-1000000000 : Int) ≤ t) = true := decide_eq_true htb0
    have d1 : decide (t ≤ (1000000000 : Int)) = true := decide_eq_true htb1
    go_wp2_with fail
    go_loopw [11] (fun i wr => ∃ k : Nat, k ≤ xs.length + 1 ∧ i = .int .i64 k ∧ Below w5.heap.size w5 wr) (fun i _ => xs.length + 1 - (intOf i).toNat)
    case atStart => exact ⟨0, Nat.zero_le _, rfl, Below.refl _ _⟩
    case round =>
      obtain ⟨k, hk, rfl, hb⟩ := hrel
      by_cases hle : k ≤ xs.length
      · have IW := Lib.hid (I5.out.below hb)
        have HB := Lib.hid hb
        clear hb
        go_wp2_with fail
        refine (impl_upTo_yes t _ xs k _ IW.out HC.out hle).mono ?_
        rintro e wq ⟨rfl, hb⟩
        have BQ := Lib.hid (HB.out.trans (hb.mono HB.out.size))
        clear HB IW hb
        have HSQ := Lib.hid (sum_first BQ.out HX2.out HC.out hle hlc2)
        by_cases hlt : k < xs.length
        · have c2 : wq.cell? ⟨b2, o2 + k, none⟩ = some (.int .i64 (appF t xs k)) := (BQ.out.cell (p := ⟨b2, o2 + k, none⟩) HX2.out.1).trans (HX2.out.2 k _ (appL_at hlt))
          have c4 : wq.cell? ⟨b4, o4 + k, none⟩ = some (.int .i64 (-appF t xs k)) := (BQ.out.cell (p := ⟨b4, o4 + k, none⟩) HX4.out.1).trans ((HX4.out.2 k _ (appL_at hlt)).trans (congrArg (fun z => some (Value.int .i64 z)) (appF_neg t xs k)))
          have hl2 := appF_bound HC.out k
          have hsb := share_bound HC.out k
          generalize appF t xs k = p0 at *
          generalize share t xs k = s0 at *
          have hwn : wrap64 (-p0) = -p0 := wrap_neg' (by omega) (by omega)
          have hpp : ((-p0 : Int) != -p0) = false := by simp
          have hss : ((s0 : Int) != s0) = false := by simp
          have hdl : decide ((k : Int) < (xs.length : Int)) = true := decide_eq_true (by omega)
          go_wp2_with fail
          go_quiet (first | (go_at_call 16; with_reducible exact Calls.quiet_of_same (HSQ.out _)))
          go_wp2_with fail
          go_roundw
          case rel => exact ⟨k + 1, by omega, by go_num, below_drewN BQ.out _⟩
          case measure => simp [intOf]; omega
        · obtain rfl : k = xs.length := by omega
          have hsb := share_bound HC.out xs.length
          generalize share t xs xs.length = s0 at *
          have hss : ((s0 : Int) != s0) = false := by simp
          have hdl : decide ((xs.length : Int) < (xs.length : Int)) = false := decide_eq_false (by omega)
          go_wp2_with fail
          go_quiet (first | (go_at_call 16; with_reducible exact Calls.quiet_of_same (HSQ.out _)))
          go_wp2_with fail
          go_roundw
          case rel => exact ⟨xs.length + 1, by omega, by go_num, below_drewN BQ.out _⟩
          case measure => simp [intOf]
      · have IW := Lib.hid (I5.out.below hb)
        have JW := Lib.hid (J5.out.below hb)
        have LW := Lib.hid (L5.out.below hb)
        have B6 := Lib.hid (B5.out.trans (hb.mono B5.out.size))
        clear hb
        have HS1 := Lib.hid (decide_eq_true (app_isSh HC.out))
        have HS2 := Lib.hid (decide_eq_true (lr_isSh HC.out))
        go_wp2_with fail
        refine (impl_isSh t _ _ xs (appL t xs) _ IW.out JW.out (by omega)).mono ?_
        rintro e w7 ⟨rfl, hb⟩
        rw [HS1.out]
        have I7 := Lib.hid (IW.out.below hb)
        have J7 := Lib.hid (JW.out.below hb)
        have L7 := Lib.hid (LW.out.below hb)
        have B7 := Lib.hid (B6.out.trans (hb.mono B6.out.size))
        clear hb
        go_wp2_with fail
        refine (spec_isSh t _ _ xs (appL t xs) _ I7.out J7.out (by omega)).mono ?_
        rintro e w8 ⟨rfl, hb⟩
        rw [HS1.out]
        have I8 := Lib.hid (I7.out.below hb)
        have L8 := Lib.hid (L7.out.below hb)
        have B8 := Lib.hid (B7.out.trans (hb.mono B7.out.size))
        clear hb
        go_wp2_with fail
        refine (spec_isSh t _ _ xs (lrL t xs) _ I8.out L8.out (by omega)).mono ?_
        rintro e w9 ⟨rfl, hb⟩
        rw [HS2.out]
        have B9 := Lib.hid (B8.out.trans (hb.mono B8.out.size))
        clear hb
        go_wp2
        go_ret
        exact ⟨rfl, B9.out⟩
  · have HC := Lib.hid hC
    obtain ⟨u, hu⟩ : ∃ u, u = wrap64 (-t) := ⟨_, rfl⟩
    have HN := Lib.hid (not_can_neg ht0 ht1 hu hC)
    have HNT : Hid (wrap64 (-t) = u) := Lib.hid hu.symm
    clear hC hu
    go_wp2_with fail
    refine (impl_app_no t v xs _ HI.out (by omega) HC.out).mono ?_
    rintro e w2 ⟨v2, rfl, ho, hb⟩
    have I2 := Lib.hid (HI.out.below hb)
    have B2 := Lib.hid (B1.out.trans (hb.mono B1.out.size))
    obtain ⟨a2, c2, rfl⟩ := own_slice ho
    clear ho hb
    go_wp2_with fail
    refine (impl_lr_no t v xs _ I2.out (by omega) HC.out).mono ?_
    rintro e w3 ⟨v3, rfl, ho, hb⟩
    have I3 := Lib.hid (I2.out.below hb)
    have B3 := Lib.hid (B2.out.trans (hb.mono B2.out.size))
    obtain ⟨a3, c3, rfl⟩ := own_slice ho
    clear ho hb
    go_wp2_with fail
    rw [HNT.out]
    refine (impl_app_no u v xs _ I3.out (by omega) HN.out).mono ?_
    rintro e w4 ⟨v4, rfl, ho, hb⟩
    have I4 := Lib.hid (I3.out.below hb)
    have B4 := Lib.hid (B3.out.trans (hb.mono B3.out.size))
    obtain ⟨a4, c4, rfl⟩ := own_slice ho
    clear ho hb HNT
    go_wp2_with fail
    refine (spec_areW v xs _ I4.out (by omega)).mono ?_
    rintro e w5 ⟨rfl, hb⟩
    have B5 := Lib.hid (B4.out.trans (hb.mono B4.out.size))
    clear hb
    by_cases hA : AreW xs
    · rw [areW_yes hA]
      by_cases hlo : -1000000000 ≤ t
      · have hhi : ¬t ≤ 1000000000 := fun h => HC.out ⟨hlo, h, hA⟩
        clear hA
        have d0 : decide ((-1000000000 : Int) ≤ t) = true := decide_eq_true hlo
        have d1 : decide (t ≤ (1000000000 : Int)) = false := decide_eq_false hhi
        go_wp2_with fail
        go_ret
        exact ⟨rfl, B5.out⟩
      · clear hA
        have d0 : decide ((-1000000000 : Int) ≤ t) = false := decide_eq_false hlo
        go_wp2_with fail
        go_ret
        exact ⟨rfl, B5.out⟩
    · rw [areW_no hA]
      clear hA
      go_wp2_with fail
      go_ret
      exact ⟨rfl, B5.out⟩
end Go.Proofs.Ytgdoahdkidlndaa
