/-
  The model's ConvertUp and ConvertDown.
-/
import Derived.Test.YtaomjggamamckaaRows
import Derived.Test.YtaomjggamamckaaUnitLib
import Derived.Test.YtaomjggamamckaaUnitSpec
import Derived.Test.YtaomjggamamckaaRatM
import Derived.Test.YtaomjggamamckaaHold
import Derived.WalkKit
import Derived.WalkSpells
import Derived.WalkSmall
import Derived.BigQuiet
import Derived.Deep.QuietTactic
import Derived.IntWalk
import Derived.Lib.Hide
namespace Go.Proofs.Ytaomjggamamckaa
open Go.RowKit

set_option maxRecDepth 100000 in
set_option maxHeartbeats 400000 in
theorem spec_floor5 (a b : Int) (w : World) (h0 : -2000000000000000000 ≤ a) (h1 : a ≤ 2000000000000000000) (hb : 1 ≤ b) (hb1 : b ≤ 1000000000) :
    Calls Try.prog 48 #[.int .i64 a, .int .i64 b] w fun e w' => e = .returned (.int .i64 (a / b)) ∧ w = w' := by
  have hz : (b == 0) = false := beq_eq_false_iff_ne.2 (by omega)
  have q := rat.tdiv_bound a (show 0 < b by omega) (by omega) (by omega)
  by_cases hm : a.tmod b < 0
  · have HV := Lib.hid (show a.tdiv b - 1 = a / b from rat.floorV_neg (show 0 < b by omega) hm)
    go_enter Try.func48, Try.ntmps48
    go_wp2
    go_ret
    exact ⟨by rw [← HV.out]; rfl, rfl⟩
  · have HV := Lib.hid (show a.tdiv b = a / b from rat.floorV_pos (show 0 < b by omega) hm)
    have hm0 : 0 ≤ a.tmod b := by omega
    clear hm
    go_enter Try.func48, Try.ntmps48
    go_wp2
    go_ret
    exact ⟨by rw [← HV.out]; rfl, rfl⟩

/-- What l5Convert answers. -/
noncomputable def convR (rs : List UR) (a b : ByteArray) (q : Int) : (Int × Int) × Bool :=
  match facR rs a b with
  | ((n, d), true) => if qOk q = true then ((q * n, d), true) else ((0, 1), false)
  | (_, false) => ((0, 1), false)
theorem convR_no {rs : List UR} {a b : ByteArray} {q : Int} {f : Int × Int} (h : facR rs a b = (f, false)) : convR rs a b q = ((0, 1), false) := by unfold convR; rw [h]
theorem convR_in {rs : List UR} {a b : ByteArray} {q n d : Int} (h : facR rs a b = ((n, d), true)) : convR rs a b q = if qOk q = true then ((q * n, d), true) else ((0, 1), false) := by unfold convR; rw [h]
/-- A quantity and its divisor are returned, and whether they are. -/
def ConvRes (f : (Int × Int) × Bool) (w : World) (e : Ending) (w' : World) : Prop := ∃ (n d : Int) (y : Bool), e = .returned (.tuple #[.int .i64 n, .int .i64 d, .bool y]) ∧ Hid (f = ((n, d), y)) ∧ Below w.heap.size w w'
theorem prod18 {q n : Int} (h0 : 0 ≤ q) (h1 : q ≤ 1000000000) (h2 : 1 ≤ n) (h3 : n ≤ 1000000000) : 0 ≤ q * n ∧ q * n ≤ 1000000000000000000 := by
  constructor
  · exact Int.mul_nonneg h0 (by omega)
  · calc q * n ≤ 1000000000 * n := Int.mul_le_mul_of_nonneg_right h1 (by omega)
      _ ≤ 1000000000 * 1000000000 := Int.mul_le_mul_of_nonneg_left h3 (by omega)
theorem qOk_yes {q : Int} (h : 0 ≤ q ∧ q ≤ 1000000000) : qOk q = true := decide_eq_true h
theorem qOk_no {q : Int} (h : ¬(0 ≤ q ∧ q ≤ 1000000000)) : qOk q = false := decide_eq_false h

set_option maxRecDepth 100000 in
set_option maxHeartbeats 1000000 in
theorem spec_conv (v : Value) (rs : List UR) (a b : ByteArray) (q : Int) (w : World) (h : TabArg w v rs) (ha : a.size ≤ maxLen) (hb' : b.size ≤ maxLen) :
    Calls Try.prog 47 #[v, .string a, .string b, .int .i64 q] w (ConvRes (convR rs a b q) w) := by
  have HF := Lib.hid (spec_factor v rs a b w h ha hb')
  obtain ⟨a', c', rfl⟩ := h.rules.slice
  clear h ha hb'
  go_enter Try.func47, Try.ntmps47
  go_wp2_with fail
  refine HF.out.mono ?_
  rintro e w1 ⟨n, d, y, rfl, HY, hb⟩
  have HB2 := Lib.hid (hb.alloc hb.size (.cells #[.int .i64 n, .int .i64 d] 28))
  clear HF
  cases y with
  | false =>
    have HC := Lib.hid (convR_no (q := q) HY.out)
    go_wp2_with fail
    first | go_ret3 | (refine bodyPost_ret (results_tmp3 rfl _ _ _) rfl ?_)
    exact ⟨0, 1, false, rfl, HC, HB2.out⟩
  | true =>
    have hp := posR_bound (facR_pos HY.out)
    simp only at hp
    by_cases hq : 0 ≤ q ∧ q ≤ 1000000000
    · have HC : Hid (convR rs a b q = ((q * n, d), true)) := Lib.hid (by rw [convR_in HY.out, if_pos (qOk_yes hq)])
      have hqn := prod18 hq.1 hq.2 hp.1 hp.2.1
      have HQ := Lib.hid hq
      clear hq
      go_wp2_with fail
      refine (rat.l1_in_yes _ _ _ _ HQ.out.1 HQ.out.2).mono ?_
      rintro e w2 ⟨rfl, rfl⟩
      go_wp2_with fail
      go_quiet (fail)
      go_wp2_with fail
      first | go_ret3 | (refine bodyPost_ret (results_tmp3 rfl _ _ _) rfl ?_)
      exact ⟨q * n, d, true, rfl, HC, below_drewN HB2.out _⟩
    · have HC : Hid (convR rs a b q = ((0, 1), false)) := Lib.hid (by rw [convR_in HY.out, qOk_no hq]; rfl)
      have HQ := Lib.hid hq
      clear hq
      go_wp2_with fail
      refine (rat.l1_in_no _ _ _ _ (by have := HQ.out; omega)).mono ?_
      rintro e w2 ⟨rfl, rfl⟩
      go_wp2_with fail
      first | go_ret3 | (refine bodyPost_ret (results_tmp3 rfl _ _ _) rfl ?_)
      exact ⟨0, 1, false, rfl, HC, HB2.out⟩

/-- A number is returned, and whether there is one. -/
def NumB (f : Int × Bool) (w : World) (e : Ending) (w' : World) : Prop := ∃ (n : Int) (y : Bool), e = .returned (.tuple #[.int .i64 n, .bool y]) ∧ Hid (f = (n, y)) ∧ Below w.heap.size w w'
theorem conv_cases {rs : List UR} {a b : ByteArray} {q n d : Int} {y : Bool} (h : convR rs a b q = ((n, d), y)) :
    (y = false ∧ upR rs a b q = (0, false) ∧ dnR rs a b q = (0, false)) ∨
    (y = true ∧ (0 ≤ n ∧ n ≤ 1000000000000000000) ∧ (1 ≤ d ∧ d ≤ 1000000000) ∧ upR rs a b q = (if ceilI n d ≤ 1000000000 then (ceilI n d, true) else (0, false)) ∧ dnR rs a b q = (if n / d ≤ 1000000000 then (n / d, true) else (0, false))) := by
  cases e : facR rs a b with
  | mk f z =>
    cases z with
    | false =>
      rw [convR_no e] at h
      have := (Prod.mk.inj h).2
      exact Or.inl ⟨this.symm, upR_no e, dnR_no e⟩
    | true =>
      obtain ⟨n0, d0⟩ := f
      have hp := posR_bound (facR_pos e)
      simp only at hp
      rw [convR_in e] at h
      rw [upR_in e, dnR_in e]
      by_cases hq : 0 ≤ q ∧ q ≤ 1000000000
      · rw [if_pos (qOk_yes hq)] at h
        have h1 := (Prod.mk.inj h)
        have h2 := Prod.mk.inj h1.1
        have hb := prod18 hq.1 hq.2 hp.1 hp.2.1
        rw [h2.1, h2.2]
        rw [h2.1] at hb
        rw [h2.2] at hp
        refine Or.inr ⟨h1.2.symm, hb, ⟨hp.2.2.1, hp.2.2.2⟩, ?_, ?_⟩
        · simp only [qOk_yes hq, true_and]
        · simp only [qOk_yes hq, true_and]
      · rw [qOk_no hq] at h
        have h1 := (Prod.mk.inj h).2
        refine Or.inl ⟨h1.symm, ?_, ?_⟩
        · rw [qOk_no hq]; simp
        · rw [qOk_no hq]; simp

set_option maxRecDepth 100000 in
set_option maxHeartbeats 1000000 in
theorem spec_up (v : Value) (rs : List UR) (a b : ByteArray) (q : Int) (w : World) (h : TabArg w v rs) (ha : a.size ≤ maxLen) (hb' : b.size ≤ maxLen) :
    Calls Try.prog 20 #[v, .string a, .string b, .int .i64 q] w (NumB (upR rs a b q) w) := by
  have HF := Lib.hid (spec_conv v rs a b q w h ha hb')
  obtain ⟨a', c', rfl⟩ := h.rules.slice
  clear h ha hb'
  go_enter Try.func20, Try.ntmps20
  go_wp2_with fail
  refine HF.out.mono ?_
  rintro e w1 ⟨n, d, y, rfl, HY, hb⟩
  have HCC := conv_cases HY.out
  clear HF HY
  rcases HCC with ⟨rfl, h1, _⟩ | ⟨rfl, hn, hd, h1, _⟩
  · have HU := Lib.hid h1
    clear h1
    go_wp2_with fail
    go_ret2
    exact ⟨0, false, rfl, HU, hb⟩
  · have hz : (d == 0) = false := beq_eq_false_iff_ne.2 (by omega)
    have hfl : -1000000000000000000 ≤ (-n) / d ∧ (-n) / d ≤ 0 := by
      have h2 := rat.floorV_le (a := -n) (b := d) (by omega)
      have h3 := rat.floorV_lt (a := -n) (b := d) (by omega)
      unfold rat.floorV at h2 h3
      refine ⟨?_, ?_⟩
      · exact (Int.le_ediv_iff_mul_le (by omega)).2 (by have : (-1000000000000000000 : Int) * d ≤ -1000000000000000000 * 1 := Int.mul_le_mul_of_nonpos_left (by omega) (by omega); omega)
      · have := Int.ediv_le_ediv (c := d) (by omega) (show -n ≤ 0 by omega); rwa [Int.zero_ediv] at this
    obtain ⟨z, hzz⟩ : ∃ z, (-n) / d = z := ⟨_, rfl⟩
    have HZ := Lib.hid hzz
    rw [hzz] at hfl
    by_cases hu : -z ≤ 1000000000
    · have HU : Hid (upR rs a b q = (-z, true)) := Lib.hid (by rw [h1, ← HZ.out]; exact if_pos (show ceilI n d ≤ 1000000000 by unfold ceilI; rw [HZ.out]; exact hu))
      clear h1 hzz
      go_wp2_with fail
      refine (spec_floor5 (-n) d _ (by omega) (by omega) hd.1 hd.2).mono ?_
      rintro e w2 ⟨rfl, rfl⟩
      rw [HZ.out]
      go_wp2_with fail
      refine (spec_floor5 (-n) d _ (by omega) (by omega) hd.1 hd.2).mono ?_
      rintro e w2 ⟨rfl, rfl⟩
      rw [HZ.out]
      go_wp2_with fail
      go_ret2
      exact ⟨-z, true, rfl, HU, hb⟩
    · have HU : Hid (upR rs a b q = (0, false)) := Lib.hid (by rw [h1]; exact if_neg (show ¬ceilI n d ≤ 1000000000 by unfold ceilI; rw [HZ.out]; exact hu))
      clear h1 hzz
      go_wp2_with fail
      refine (spec_floor5 (-n) d _ (by omega) (by omega) hd.1 hd.2).mono ?_
      rintro e w2 ⟨rfl, rfl⟩
      rw [HZ.out]
      go_wp2_with fail
      go_ret2
      exact ⟨0, false, rfl, HU, hb⟩

set_option maxRecDepth 100000 in
set_option maxHeartbeats 1000000 in
theorem spec_dn (v : Value) (rs : List UR) (a b : ByteArray) (q : Int) (w : World) (h : TabArg w v rs) (ha : a.size ≤ maxLen) (hb' : b.size ≤ maxLen) :
    Calls Try.prog 33 #[v, .string a, .string b, .int .i64 q] w (NumB (dnR rs a b q) w) := by
  have HF := Lib.hid (spec_conv v rs a b q w h ha hb')
  obtain ⟨a', c', rfl⟩ := h.rules.slice
  clear h ha hb'
  go_enter Try.func33, Try.ntmps33
  go_wp2_with fail
  refine HF.out.mono ?_
  rintro e w1 ⟨n, d, y, rfl, HY, hb⟩
  have HCC := conv_cases HY.out
  clear HF HY
  rcases HCC with ⟨rfl, _, h1⟩ | ⟨rfl, hn, hd, _, h1⟩
  · have HU := Lib.hid h1
    clear h1
    go_wp2_with fail
    go_ret2
    exact ⟨0, false, rfl, HU, hb⟩
  · have hz : (d == 0) = false := beq_eq_false_iff_ne.2 (by omega)
    have hdn : 0 ≤ n / d ∧ n / d ≤ 1000000000000000000 := by
      refine ⟨Int.ediv_nonneg hn.1 (by omega), ?_⟩
      have := Int.ediv_le_self d hn.1
      omega
    have htd : n.tdiv d = n / d := Int.tdiv_eq_ediv_of_nonneg hn.1
    obtain ⟨z, hzz⟩ : ∃ z, n / d = z := ⟨_, rfl⟩
    have HZ := Lib.hid hzz
    rw [hzz] at hdn htd
    by_cases hu : z ≤ 1000000000
    · have HU : Hid (dnR rs a b q = (z, true)) := Lib.hid (by rw [h1, HZ.out]; exact if_pos hu)
      clear h1
      go_wp2_with fail
      go_ret2
      exact ⟨z, true, rfl, HU, hb⟩
    · have HU : Hid (dnR rs a b q = (0, false)) := Lib.hid (by rw [h1, HZ.out]; exact if_neg hu)
      clear h1
      go_wp2_with fail
      go_ret2
      exact ⟨0, false, rfl, HU, hb⟩
end Go.Proofs.Ytaomjggamamckaa
