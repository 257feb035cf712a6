/-
  IsSharing: the program's.
-/
import Derived.Test.YtgdoahdkidlndaaRows
import Derived.Test.YtgdoahdkidlndaaInts
import Derived.Test.YtgdoahdkidlndaaShareLib
import Derived.Test.YtgdoahdkidlndaaUpToLib
import Derived.Test.YtgdoahdkidlndaaIsShLib
import Derived.Test.YtgdoahdkidlndaaIsSh
import Derived.Test.YtgdoahdkidlndaaSums
import Derived.Test.YtgdoahdkidlndaaAreW
import Derived.Test.YtgdoahdkidlndaaUpTo
import Derived.WalkKit
import Derived.WalkSpells
import Derived.WalkSmall
import Derived.BigQuiet
import Derived.Deep.QuietTactic
import Derived.Lib.Hide
namespace Go.Proofs.Ytgdoahdkidlndaa
open Go.RowKit

/-- A truth value, and nothing that was there has changed. -/
def BoolRes (y : Bool) (w : World) (e : Ending) (w' : World) : Prop := e = .returned (.bool y) ∧ Below w.heap.size w w'

theorem wrap_neg' {x : Int} (h0 : -2000000000000000000 ≤ x) (h1 : x ≤ 2000000000000000000) : wrap64 (-x) = -x := by unfold wrap64; omega
theorem flo_bound {n d B : Int} (hd : 0 < d) (h0 : -B ≤ n) (h1 : n ≤ B) : -B - 1 ≤ flo n d ∧ flo n d ≤ B := by
  have := tdiv_abs hd h0 h1
  unfold flo
  split <;> omega
theorem firstR_left {t : Int} {ss : List Int} {k : Nat} (hk : k < ss.length) : t - sumL (ss.take k) - ss[k]'hk = t - sumL (ss.take (k + 1)) := by
  rw [sumL_take_succ hk]
  omega

set_option maxRecDepth 100000 in
set_option maxHeartbeats 2000000 in
theorem impl_isSh (t : Int) (v v2 : Value) (xs ss : List Int) (w : World) (h : Ints w v xs) (h2 : Ints w v2 ss) (hm : xs.length ≤ 1048577) :
    Calls Try.prog 17 #[.int .i64 t, v, v2] w (BoolRes (decide (IsSh t xs ss)) w) := by
  have H := Lib.hid h
  have H2 := Lib.hid h2
  by_cases hc : CanS t xs
  · have HD : Hid (decide (CanS t xs) = true) := Lib.hid (decide_eq_true hc)
    by_cases hl : ss.length = xs.length
    · have hA := hc.2.2
      have HC := Lib.hid hc
      have hpos := hA.pos
      have h40 := hA.1
      have hT := hA.total
      have HS : Hid (SumOk xs) := Lib.hid (AreW.ok h40 hA.2.1)
      have e0 : ((ss.length : Int) != (xs.length : Int)) = false := by rw [hl]; simp
      have HL := Lib.hid hl
      have hln : ss.length ≤ 40 := by omega
      obtain ⟨b, o, c, rfl, hlc, hcell⟩ := ints_some h hpos
      obtain ⟨b2, o2, c2, rfl, hlc2, hcell2⟩ := ints_some h2 (by omega)
      clear hl
      have HC1 := Lib.hid hcell
      have HC2 := Lib.hid hcell2
      clear h h2 hcell hcell2 hA hc
      go_enter Try.func17, Try.ntmps17
      go_wp2_with fail
      refine (impl_canShare t _ xs _ H.out hm).mono ?_
      rintro e w1 ⟨rfl, hb⟩
      rw [HD.out]
      have B1 := Lib.hid hb
      clear hb
      go_wp2_with fail
      refine (impl_sumOf _ xs _ (H.out.below B1.out) hm HS.out).mono ?_
      rintro e w3 ⟨rfl, hb⟩
      have B2 := Lib.hid (B1.out.trans (hb.mono B1.out.size))
      clear hb B1
      obtain ⟨S, hS⟩ : ∃ S, sumL xs = S := ⟨_, rfl⟩
      rw [hS] at hT ⊢
      have HSS := Lib.hid hS
      clear hS
      go_wp2_with fail
      go_loopw [25] (fun i wr => ∃ k : Nat, k ≤ xs.length ∧ i = .int .i64 k ∧ Hid (FirstR t xs ss k) ∧ Below w.heap.size w wr) (fun i _ => xs.length - (intOf i).toNat)
      case atStart => exact ⟨0, Nat.zero_le _, rfl, Lib.hid (firstR_zero _ _ _), B2.out⟩
      case round =>
        obtain ⟨k, hk, rfl, HF, hb⟩ := hrel
        have htb : -1000000000 ≤ t ∧ t ≤ 1000000000 := ⟨HC.out.1, HC.out.2.1⟩
        by_cases hkx : k < xs.length
        · have hlt : k < ss.length := by have := HL.out; omega
          have hck : wr.cell? ⟨b, o + k, none⟩ = some (.int .i64 (xs[k]'hkx)) := (hb.cell (p := ⟨b, o + k, none⟩) HC1.out.1).trans (HC1.out.at k hkx)
          have hck2 : wr.cell? ⟨b2, o2 + k, none⟩ = some (.int .i64 (ss[k]'hlt)) := (hb.cell (p := ⟨b2, o2 + k, none⟩) HC2.out.1).trans (HC2.out.at k hlt)
          have hn1 := HC.out.one hkx
          have HX2 : Hid (Rd (t * xs[k]'hkx) S (ss[k]'hlt) → FirstR t xs ss (k + 1)) := Lib.hid (fun h => firstR_succ HF.out hkx hlt (by rw [HSS.out]; exact h))
          have HX3 : Hid (¬Rd (t * xs[k]'hkx) S (ss[k]'hlt) → decide (IsSh t xs ss) = false) := Lib.hid (fun h => not_isSh_at hkx hlt (by rw [HSS.out]; exact h))
          generalize xs[k]'hkx = x0 at *
          generalize ss[k]'hlt = s0 at *
          by_cases hr : Rd (t * x0) S s0
          · have HR := Lib.hid (decide_eq_true hr)
            have HN := Lib.hid (HX2.out hr)
            clear hr
            go_wp2_with fail
            refine (impl_rounded s0 (t * x0) S _ hT.1 (by omega) (by omega)).mono ?_
            rintro e w4 ⟨rfl, hb4⟩
            rw [HR.out]
            go_wp2
            go_roundw
            case rel => exact ⟨k + 1, by omega, by go_num, HN, hb.trans (hb4.mono hb.size)⟩
            case measure => simp [intOf]; omega
          · have HR := Lib.hid (decide_eq_false hr)
            have HN := Lib.hid (HX3.out hr)
            clear hr
            go_wp2_with fail
            refine (impl_rounded s0 (t * x0) S _ hT.1 (by omega) (by omega)).mono ?_
            rintro e w4 ⟨rfl, hb4⟩
            rw [HR.out]
            go_wp2
            go_ret
            exact ⟨ret_b (by rw [HN.out]), hb.trans (hb4.mono hb.size)⟩
        · obtain rfl : k = xs.length := by omega
          have HE := Lib.hid (isSh_iff HC.out HL.out HF.out)
          have HO := Lib.hid (firstR_ok HC.out HL.out HF.out)
          go_wp2_with fail
          refine (impl_sumOf _ ss _ (H2.out.below hb) (by omega) HO.out).mono ?_
          rintro e w4 ⟨rfl, hb4⟩
          by_cases hz : sumL ss = t
          · have HZ := Lib.hid (decide_eq_true hz)
            have e3 : (sumL ss == t) = true := by simp [hz]
            clear hz
            go_wp2
            go_ret
            exact ⟨ret_b (by rw [HE.out, HZ.out]), hb.trans (hb4.mono hb.size)⟩
          · have HZ := Lib.hid (decide_eq_false hz)
            have e3 : (sumL ss == t) = false := by simp [hz]
            clear hz
            go_wp2
            go_ret
            exact ⟨ret_b (by rw [HE.out, HZ.out]), hb.trans (hb4.mono hb.size)⟩
    · have HN := Lib.hid (not_isSh_len (t := t) hl)
      have e0 : ((ss.length : Int) != (xs.length : Int)) = true := by simp; omega
      obtain ⟨a, c, rfl⟩ := h.slice
      obtain ⟨a2, c2, rfl⟩ := h2.slice
      clear h h2 hc
      go_enter Try.func17, Try.ntmps17
      go_wp2_with fail
      refine (impl_canShare t _ xs _ H.out hm).mono ?_
      rintro e w1 ⟨rfl, hb⟩
      rw [HD.out]
      go_wp2
      go_ret
      exact ⟨ret_b (by rw [HN.out]), hb⟩
  · have HD : Hid (decide (CanS t xs) = false) := Lib.hid (decide_eq_false hc)
    have HN := Lib.hid (not_isSh_can (ss := ss) hc)
    obtain ⟨a, c, rfl⟩ := h.slice
    obtain ⟨a2, c2, rfl⟩ := h2.slice
    clear h h2 hc
    go_enter Try.func17, Try.ntmps17
    go_wp2_with fail
    refine (impl_canShare t _ xs _ H.out hm).mono ?_
    rintro e w1 ⟨rfl, hb⟩
    rw [HD.out]
    go_wp2
    go_ret
    exact ⟨ret_b (by rw [HN.out]), hb⟩
end Go.Proofs.Ytgdoahdkidlndaa
