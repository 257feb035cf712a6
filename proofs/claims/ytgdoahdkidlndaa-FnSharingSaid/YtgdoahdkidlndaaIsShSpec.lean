/-
  IsSharing: the model's.
-/
import Derived.Test.YtgdoahdkidlndaaRows
import Derived.Test.YtgdoahdkidlndaaInts
import Derived.Test.YtgdoahdkidlndaaShareLib
import Derived.Test.YtgdoahdkidlndaaUpToLib
import Derived.Test.YtgdoahdkidlndaaIsShLib
import Derived.Test.YtgdoahdkidlndaaIsSh
import Derived.Test.YtgdoahdkidlndaaIsShImpl
import Derived.Test.YtgdoahdkidlndaaSums
import Derived.Test.YtgdoahdkidlndaaAreW
import Derived.Test.YtgdoahdkidlndaaUpTo
import Derived.WalkKit
import Derived.WalkSpells
import Derived.WalkSmall
import Derived.BigQuiet
import Derived.Deep.QuietTactic
import Derived.Lib.Hide
namespace Go.Proofs.Ytgdoahdkidlndaa
open Go.RowKit

set_option maxRecDepth 100000 in
set_option maxHeartbeats 1000000 in
theorem spec_isSh (t : Int) (v v2 : Value) (xs ss : List Int) (w : World) (h : Ints w v xs) (h2 : Ints w v2 ss) (hm : xs.length ≤ 1048577) :
    Calls Try.prog 18 #[.int .i64 t, v, v2] w (BoolRes (decide (IsSh t xs ss)) w) := by
  have H := Lib.hid h
  have H2 := Lib.hid h2
  by_cases hA : AreW xs
  · have HA := Lib.hid (areW_yes hA)
    by_cases h0 : -1000000000 ≤ t ∧ t ≤ 1000000000
    · have HI := Lib.hid (inB_yes h0.1 h0.2)
      by_cases hl : ss.length = xs.length
      · have hc : CanS t xs := ⟨h0.1, h0.2, hA⟩
        have HC := Lib.hid hc
        have HL := Lib.hid hl
        have hpos := hA.pos
        have h40 := hA.1
        have hT := hA.total
        have HS : Hid (SumOk xs) := Lib.hid (AreW.ok h40 hA.2.1)
        have e0 : ((ss.length : Int) != (xs.length : Int)) = false := by rw [hl]; simp
        have hln : ss.length ≤ 40 := by omega
        obtain ⟨b, o, c, rfl, hlc, hcell⟩ := ints_some h hpos
        obtain ⟨b2, o2, c2, rfl, hlc2, hcell2⟩ := ints_some h2 (by omega)
        clear hl
        have HC1 := Lib.hid hcell
        have HC2 := Lib.hid hcell2
        clear h h2 hcell hcell2 hA h0 hc
        go_enter Try.func18, Try.ntmps18
        go_wp2_with fail
        refine (spec_areW _ xs _ H.out hm).mono ?_
        rintro e w1 ⟨rfl, hb⟩
        rw [HA.out]
        have B1 := Lib.hid hb
        clear hb
        go_wp2_with fail
        refine (spec_in t _ _ _).mono ?_
        rintro e w2 ⟨rfl, rfl⟩
        rw [HI.out]
        go_wp2_with fail
        refine (spec_sum _ xs _ (H.out.below B1.out) hm HS.out).mono ?_
        rintro e w3 ⟨rfl, hb⟩
        have B2 := Lib.hid (B1.out.trans (hb.mono B1.out.size))
        clear hb B1
        obtain ⟨S, hS⟩ : ∃ S, sumL xs = S := ⟨_, rfl⟩
        rw [hS] at hT ⊢
        have HSS := Lib.hid hS
        clear hS
        go_wp2_with fail
        go_loopw [8, 9] (fun s i wr => ∃ k : Nat, k ≤ ss.length ∧ i = .int .i64 k ∧ s = .int .i64 (t - sumL (ss.take k)) ∧ Hid (FirstR t xs ss k) ∧ Below w.heap.size w wr) (fun _ i _ => ss.length - (intOf i).toNat)
        case atStart => exact ⟨0, Nat.zero_le _, rfl, by simp [sumL], Lib.hid (firstR_zero _ _ _), B2.out⟩
        case round =>
          obtain ⟨k, hk, rfl, rfl, HF, hb⟩ := hrel
          have hsb := firstR_sum HC.out HL.out HF.out (by have := HL.out; omega)
          have htb : -1000000000 ≤ t ∧ t ≤ 1000000000 := ⟨HC.out.1, HC.out.2.1⟩
          by_cases hlt : k < ss.length
          · have hkx : k < xs.length := by have := HL.out; omega
            have hck : wr.cell? ⟨b, o + k, none⟩ = some (.int .i64 (xs[k]'hkx)) := (hb.cell (p := ⟨b, o + k, none⟩) HC1.out.1).trans (HC1.out.at k hkx)
            have hck2 : wr.cell? ⟨b2, o2 + k, none⟩ = some (.int .i64 (ss[k]'hlt)) := (hb.cell (p := ⟨b2, o2 + k, none⟩) HC2.out.1).trans (HC2.out.at k hlt)
            have hn1 := HC.out.one hkx
            have HX1 : Hid (Rd (t * xs[k]'hkx) S (ss[k]'hlt) → -1000000001 ≤ ss[k]'hlt ∧ ss[k]'hlt ≤ 1000000001) := Lib.hid (fun h => rd_bound HC.out hkx (by rw [HSS.out]; exact h))
            have HX2 : Hid (Rd (t * xs[k]'hkx) S (ss[k]'hlt) → FirstR t xs ss (k + 1)) := Lib.hid (fun h => firstR_succ HF.out hkx hlt (by rw [HSS.out]; exact h))
            have HX3 : Hid (¬Rd (t * xs[k]'hkx) S (ss[k]'hlt) → decide (IsSh t xs ss) = false) := Lib.hid (fun h => not_isSh_at hkx hlt (by rw [HSS.out]; exact h))
            have HX4 := Lib.hid (firstR_left (t := t) hlt)
            generalize xs[k]'hkx = x0 at *
            generalize ss[k]'hlt = s0 at *
            go_wp2
            generalize t * x0 = n0 at *
            have hq1 := flo_bound (n := n0) (d := S) (B := 1000000000000000) hT.1 hn1.1 hn1.2.1
            have hq2 := flo_bound (n := -n0) (d := S) (B := 1000000000000000) hT.1 (by omega) (by omega)
            have HF1 : Hid (∀ w, Calls Try.prog 39 #[.int .i64 n0, .int .i64 S] w fun e w' => e = .returned (.int .i64 (flo n0 S)) ∧ w' = w) := Lib.hid (fun w => spec_flo n0 S w hT.1 (by omega) (by omega))
            have HF2 : Hid (∀ w, Calls Try.prog 39 #[.int .i64 (-n0), .int .i64 S] w fun e w' => e = .returned (.int .i64 (flo (-n0) S)) ∧ w' = w) := Lib.hid (fun w => spec_flo (-n0) S w hT.1 (by omega) (by omega))
            have hw1 := wrap_neg' (x := n0) (by omega) (by omega)
            have hw2 := wrap_neg' (x := flo (-n0) S) (by omega) (by omega)
            have HRD : Hid (Rd n0 S s0 ↔ flo n0 S ≤ s0 ∧ s0 ≤ -flo (-n0) S) := Lib.hid Iff.rfl
            generalize flo n0 S = f1 at *
            generalize flo (-n0) S = f2 at *
            clear hn1
            by_cases ha : s0 < f1
            · have e1 : decide (s0 < f1) = true := decide_eq_true ha
              have HN := Lib.hid (HX3.out (fun h => by have := (HRD.out.1 h).1; omega))
              clear ha
              go_quiet (first | (go_at_call 39; with_reducible exact Calls.quiet_of_same (HF1.out _)) | (go_at_call 39; with_reducible exact Calls.quiet_of_same (HF2.out _)))
              go_wp2
              go_ret
              exact ⟨ret_b (by rw [HN.out]), below_drewN hb _⟩
            · have e1 : decide (s0 < f1) = false := decide_eq_false ha
              by_cases hc2 : -f2 < s0
              · have e2 : decide (-f2 < s0) = true := decide_eq_true hc2
                have HN := Lib.hid (HX3.out (fun h => by have := (HRD.out.1 h).2; omega))
                clear hc2 ha
                go_quiet (first | (go_at_call 39; with_reducible exact Calls.quiet_of_same (HF1.out _)) | (go_at_call 39; with_reducible exact Calls.quiet_of_same (HF2.out _)))
                go_wp2
                go_ret
                exact ⟨ret_b (by rw [HN.out]), below_drewN hb _⟩
              · have e2 : decide (-f2 < s0) = false := decide_eq_false hc2
                have hrd := HRD.out.2 ⟨by omega, by omega⟩
                have hsb2 := HX1.out hrd
                have HN := Lib.hid (HX2.out hrd)
                clear hc2 ha hrd
                go_quiet (first | (go_at_call 39; with_reducible exact Calls.quiet_of_same (HF1.out _)) | (go_at_call 39; with_reducible exact Calls.quiet_of_same (HF2.out _)))
                go_wp2
                go_roundw
                case rel => exact ⟨k + 1, by omega, by go_num, by rw [← HX4.out], HN, below_drewN hb _⟩
                case measure => simp [intOf]; omega
          · obtain rfl : k = ss.length := by omega
            have HE := Lib.hid (isSh_iff HC.out HL.out (by have := HF.out; rwa [HL.out] at this))
            rw [List.take_length] at hsb ⊢
            by_cases hz : sumL ss = t
            · have e3 : ((t - sumL ss) == 0) = true := by simp; omega
              have HZ := Lib.hid (decide_eq_true hz)
              clear hz
              generalize sumL ss = sz at *
              go_wp2
              go_ret
              exact ⟨ret_b (by rw [HE.out, HZ.out]), hb⟩
            · have e3 : ((t - sumL ss) == 0) = false := by simp; omega
              have HZ := Lib.hid (decide_eq_false hz)
              clear hz
              generalize sumL ss = sz at *
              go_wp2
              go_ret
              exact ⟨ret_b (by rw [HE.out, HZ.out]), hb⟩
      · have HN := Lib.hid (not_isSh_len (t := t) hl)
        have e0 : ((ss.length : Int) != (xs.length : Int)) = true := by simp; omega
        obtain ⟨a, c, rfl⟩ := h.slice
        obtain ⟨a2, c2, rfl⟩ := h2.slice
        clear h h2 hA h0
        go_enter Try.func18, Try.ntmps18
        go_wp2_with fail
        refine (spec_areW _ xs _ H.out hm).mono ?_
        rintro e w1 ⟨rfl, hb⟩
        rw [HA.out]
        go_wp2_with fail
        refine (spec_in t _ _ _).mono ?_
        rintro e w2 ⟨rfl, rfl⟩
        rw [HI.out]
        go_wp2
        go_ret
        exact ⟨ret_b (by rw [HN.out]), hb⟩
    · have HI := Lib.hid (inB_no (x := t) (lo := -1000000000) (hi := 1000000000) (by omega))
      have HN := Lib.hid (not_isSh_can (ss := ss) (fun h : CanS t xs => h0 ⟨h.1, h.2.1⟩))
      obtain ⟨a, c, rfl⟩ := h.slice
      obtain ⟨a2, c2, rfl⟩ := h2.slice
      clear h h2 hA h0
      go_enter Try.func18, Try.ntmps18
      go_wp2_with fail
      refine (spec_areW _ xs _ H.out hm).mono ?_
      rintro e w1 ⟨rfl, hb⟩
      rw [HA.out]
      go_wp2_with fail
      refine (spec_in t _ _ _).mono ?_
      rintro e w2 ⟨rfl, rfl⟩
      rw [HI.out]
      go_wp2
      go_ret
      exact ⟨ret_b (by rw [HN.out]), hb⟩
  · have HA := Lib.hid (areW_no hA)
    have HN := Lib.hid (not_isSh_can (ss := ss) (fun h : CanS t xs => hA h.2.2))
    obtain ⟨a, c, rfl⟩ := h.slice
    obtain ⟨a2, c2, rfl⟩ := h2.slice
    clear h h2 hA
    go_enter Try.func18, Try.ntmps18
    go_wp2_with fail
    refine (spec_areW _ xs _ H.out hm).mono ?_
    rintro e w1 ⟨rfl, hb⟩
    rw [HA.out]
    go_wp2
    go_ret
    exact ⟨ret_b (by rw [HN.out]), hb⟩

end Go.Proofs.Ytgdoahdkidlndaa
