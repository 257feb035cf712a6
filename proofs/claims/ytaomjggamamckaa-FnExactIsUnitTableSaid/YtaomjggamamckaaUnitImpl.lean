/-
  The program's ConvertUp and ConvertDown answer as the model.
-/
import Derived.Test.YtaomjggamamckaaUnitTabI
import Derived.Test.YtaomjggamamckaaConvSpec
import Derived.Test.YtaomjggamamckaaUnitEx
import Derived.Test.YtaomjggamamckaaResKit
import Derived.WalkKit
import Derived.WalkSpells
import Derived.WalkSmall
import Derived.BigQuiet
import Derived.Deep.QuietTactic
import Derived.IntWalk
import Derived.Lib.Hide
namespace Go.Proofs.Ytaomjggamamckaa
open Go.RowKit

/-- The factor for a quantity. -/
noncomputable def ffR (rs : List UR) (a b : ByteArray) (q : Int) : (Int × Int) × Bool := if qOk q = true then facR rs a b else ((0, 0), false)
theorem ffR_yes {rs : List UR} {a b : ByteArray} {q : Int} (h : 0 ≤ q ∧ q ≤ 1000000000) : ffR rs a b q = facR rs a b := if_pos (qOk_yes h)
theorem ffR_no {rs : List UR} {a b : ByteArray} {q : Int} (h : ¬(0 ≤ q ∧ q ≤ 1000000000)) : ffR rs a b q = ((0, 0), false) := by unfold ffR; rw [qOk_no h]; rfl
theorem ffR_false {rs : List UR} {a b : ByteArray} {q : Int} {f : Int × Int} (h : ffR rs a b q = (f, false)) : upR rs a b q = (0, false) ∧ dnR rs a b q = (0, false) := by
  unfold ffR at h
  by_cases hq : qOk q = true
  · rw [if_pos hq] at h
    exact ⟨upR_no h, dnR_no h⟩
  · cases e : facR rs a b with
    | mk g y =>
      cases y with
      | false => exact ⟨upR_no e, dnR_no e⟩
      | true =>
        obtain ⟨n, d⟩ := g
        rw [upR_in e, dnR_in e, if_neg (fun h => hq h.1), if_neg (fun h => hq h.1)]
        exact ⟨rfl, rfl⟩
theorem ffR_true {rs : List UR} {a b : ByteArray} {q n d : Int} (h : ffR rs a b q = ((n, d), true)) : facR rs a b = ((n, d), true) ∧ 0 ≤ q ∧ q ≤ 1000000000 := by
  unfold ffR at h
  by_cases hq : qOk q = true
  · rw [if_pos hq] at h
    exact ⟨h, of_decide_eq_true hq⟩
  · rw [if_neg hq] at h
    cases h
theorem ceil_eq (m : Int) {d : Int} (hd : 0 < d) : ceilI m d = (m + d - 1) / d := by
  obtain ⟨z, hz⟩ : ∃ z, (m + d - 1) / d = z := ⟨_, rfl⟩
  rw [hz]
  have h1 : z * d ≤ m + d - 1 := (Int.le_ediv_iff_mul_le hd).1 (by omega)
  have h2 : m + d - 1 < (z + 1) * d := (Int.ediv_lt_iff_lt_mul hd).1 (by omega)
  have e1 : (z + 1) * d = z * d + d := by rw [Int.add_mul, Int.one_mul]
  have e2 : (-z) * d = -(z * d) := Int.neg_mul _ _
  have e3 : (-z + 1) * d = -(z * d) + d := by rw [Int.add_mul, Int.one_mul, e2]
  have h3 : -z ≤ (-m) / d := (Int.le_ediv_iff_mul_le hd).2 (by omega)
  have h4 : (-m) / d < -z + 1 := (Int.ediv_lt_iff_lt_mul hd).2 (by omega)
  unfold ceilI
  omega

set_option maxRecDepth 100000 in
set_option maxHeartbeats 1000000 in
theorem impl_factorFor (v : Value) (rs : List UR) (a b : ByteArray) (q : Int) (w : World) (h : TabArg w v rs) (ha : a.size ≤ maxLen) (hb' : b.size ≤ maxLen) :
    Calls Try.prog 45 #[v, .string a, .string b, .int .i64 q] w (FacRes (ffR rs a b q) w) := by
  have HBA : Below w.heap.size w (w.alloc (.cells #[.int .i64 0, .int .i64 0] 28)) := (Below.refl _ _).alloc (Nat.le_refl _) _
  have HRA := heap_alloc_new w (.cells #[.int .i64 0, .int .i64 0] 28)
  have HF := Lib.hid (impl_FactorOf v rs a b _ (h.below HBA) ha hb')
  obtain ⟨a', c', rfl⟩ := h.rules.slice
  clear h ha hb'
  by_cases hq : 0 ≤ q ∧ q ≤ 1000000000
  · have HY := Lib.hid (ffR_yes (rs := rs) (a := a) (b := b) hq)
    obtain ⟨hq0, hq1⟩ := hq
    go_enter Try.func45, Try.ntmps45
    go_wp2_with fail
    generalize w.alloc (.cells #[.int .i64 0, .int .i64 0] 28) = wa at *
    refine HF.out.mono ?_
    rintro e w1 ⟨n, d, y, rfl, HFY, hb⟩
    have HR1 := blk_below HRA hb
    have HB1 := Lib.hid (HBA.trans (hb.mono HBA.size))
    clear hb HF HRA HBA
    have q0 := cell_of_row _ _ 0 _ _ _ HR1
    have q1 := cell_of_row _ _ 1 _ _ _ HR1
    have qf0 := frozen_of_row _ _ 0 _ _ HR1
    have qf1 := frozen_of_row _ _ 1 _ _ HR1
    go_wp2_with fail
    exact bodyPost_ret (v := .tuple #[.agg #[.int .i64 n, .int .i64 d], .bool y]) (results_cell_row_slot Try.results45 _ _ _ _ _ _ _ _ rfl rfl (blk_set2 HR1) Try.underlying28 rfl (by kernel_rfl)) rfl ⟨n, d, y, rfl, Lib.hid (by rw [HY.out, HFY.out]), (HB1.out.setCell (Nat.le_refl _) _).setCell (Nat.le_refl _) _⟩
  · have HY := Lib.hid (ffR_no (rs := rs) (a := a) (b := b) hq)
    have q0 := cell_of_row _ _ 0 _ _ _ HRA
    have q1 := cell_of_row _ _ 1 _ _ _ HRA
    have qf0 := frozen_of_row _ _ 0 _ _ HRA
    have qf1 := frozen_of_row _ _ 1 _ _ HRA
    by_cases h0 : q < 0
    · clear hq
      go_enter Try.func45, Try.ntmps45
      go_wp2_with fail
      exact bodyPost_ret (v := .tuple #[.agg #[.int .i64 0, .int .i64 0], .bool false]) (results_cell_row_slot Try.results45 _ _ _ _ _ _ _ _ rfl rfl HRA Try.underlying28 rfl (by kernel_rfl)) rfl ⟨0, 0, false, rfl, HY, HBA⟩
    · have h1 : 1000000000 < q := by omega
      clear hq
      go_enter Try.func45, Try.ntmps45
      go_wp2_with fail
      exact bodyPost_ret (v := .tuple #[.agg #[.int .i64 0, .int .i64 0], .bool false]) (results_cell_row_slot Try.results45 _ _ _ _ _ _ _ _ rfl rfl HRA Try.underlying28 rfl (by kernel_rfl)) rfl ⟨0, 0, false, rfl, HY, HBA⟩

/-- No more than the largest amount. -/
def capR (n : Int) : Int × Bool := if n ≤ 1000000000 then (n, true) else (0, false)
set_option maxRecDepth 100000 in
theorem impl_upTo (n : Int) (w : World) : Calls Try.prog 46 #[.int .i64 n] w fun e w' => e = .returned (.tuple #[.int .i64 (capR n).1, .bool (capR n).2]) ∧ w = w' := by
  by_cases h : n ≤ 1000000000
  · have HY : Hid (capR n = (n, true)) := Lib.hid (if_pos h)
    go_enter Try.func46, Try.ntmps46
    go_wp2_with fail
    go_ret2
    exact ⟨by rw [HY.out]; rfl, rfl⟩
  · have HY : Hid (capR n = (0, false)) := Lib.hid (if_neg h)
    go_enter Try.func46, Try.ntmps46
    go_wp2_with fail
    go_ret2
    exact ⟨by rw [HY.out]; rfl, rfl⟩

set_option maxRecDepth 100000 in
set_option maxHeartbeats 1000000 in
/-- The program's ConvertUp. -/
theorem impl_ConvertUp : ImplConvertUp := by
  intro v rs a b q w h ha hb'
  have HF := Lib.hid (impl_factorFor v rs a b q w h ha hb')
  obtain ⟨a', c', rfl⟩ := h.rules.slice
  clear h ha hb'
  go_enter Try.func19, Try.ntmps19
  go_wp2_with fail
  refine HF.out.mono ?_
  rintro e w1 ⟨n, d, y, rfl, HY, hb⟩
  have HB2 := Lib.hid (hb.alloc hb.size (.cells #[.int .i64 n, .int .i64 d] 28))
  clear HF hb
  cases y with
  | false =>
    have HU := Lib.hid (ffR_false HY.out).1
    clear HY
    go_wp2_with fail
    go_ret2
    exact ⟨0, false, rfl, HU, HB2.out⟩
  | true =>
    have hft := ffR_true HY.out
    have hp := posR_bound (facR_pos hft.1)
    simp only at hp
    have HU : Hid (upR rs a b q = capR ((q * n + d - 1) / d)) := Lib.hid (by rw [upR_in hft.1, ceil_eq _ (by omega)]; unfold capR; simp only [qOk_yes hft.2, true_and])
    have hqn := prod18 hft.2.1 hft.2.2 hp.1 hp.2.1
    have HN := heap_alloc_new w1 (.cells #[.int .i64 n, .int .i64 d] 28)
    have c0 := cell_of_row _ _ 0 _ _ _ HN
    have c1 := cell_of_row _ _ 1 _ _ _ HN
    have hz : (d == 0) = false := beq_eq_false_iff_ne.2 (by omega)
    have htd : (q * n + d - 1).tdiv d = (q * n + d - 1) / d := Int.tdiv_eq_ediv_of_nonneg (by omega)
    have hdn : 0 ≤ (q * n + d - 1) / d ∧ (q * n + d - 1) / d ≤ 2000000000000000000 := by
      refine ⟨Int.ediv_nonneg (by omega) (by omega), ?_⟩
      have := Int.ediv_le_self d (show 0 ≤ q * n + d - 1 by omega)
      omega
    clear HY hft
    go_wp2_with fail
    refine (impl_upTo _ _).mono ?_
    rintro e w2 ⟨rfl, rfl⟩
    obtain ⟨u, yy, huy⟩ : ∃ (u : Int) (yy : Bool), capR ((q * n + d - 1) / d) = (u, yy) := ⟨_, _, rfl⟩
    rw [huy] at HU
    rw [huy]
    go_wp2_with fail
    go_ret2
    exact ⟨u, yy, rfl, HU, HB2.out⟩

set_option maxRecDepth 100000 in
set_option maxHeartbeats 1000000 in
/-- The program's ConvertDown. -/
theorem impl_ConvertDown : ImplConvertDown := by
  intro v rs a b q w h ha hb'
  have HF := Lib.hid (impl_factorFor v rs a b q w h ha hb')
  obtain ⟨a', c', rfl⟩ := h.rules.slice
  clear h ha hb'
  go_enter Try.func21, Try.ntmps21
  go_wp2_with fail
  refine HF.out.mono ?_
  rintro e w1 ⟨n, d, y, rfl, HY, hb⟩
  have HB2 := Lib.hid (hb.alloc hb.size (.cells #[.int .i64 n, .int .i64 d] 28))
  clear HF hb
  cases y with
  | false =>
    have HU := Lib.hid (ffR_false HY.out).2
    clear HY
    go_wp2_with fail
    go_ret2
    exact ⟨0, false, rfl, HU, HB2.out⟩
  | true =>
    have hft := ffR_true HY.out
    have hp := posR_bound (facR_pos hft.1)
    simp only at hp
    have HU : Hid (dnR rs a b q = capR ((q * n) / d)) := Lib.hid (by rw [dnR_in hft.1]; unfold capR; simp only [qOk_yes hft.2, true_and])
    have hqn := prod18 hft.2.1 hft.2.2 hp.1 hp.2.1
    have HN := heap_alloc_new w1 (.cells #[.int .i64 n, .int .i64 d] 28)
    have c0 := cell_of_row _ _ 0 _ _ _ HN
    have c1 := cell_of_row _ _ 1 _ _ _ HN
    have hz : (d == 0) = false := beq_eq_false_iff_ne.2 (by omega)
    have htd : (q * n).tdiv d = (q * n) / d := Int.tdiv_eq_ediv_of_nonneg (by omega)
    have hdn : 0 ≤ (q * n) / d ∧ (q * n) / d ≤ 2000000000000000000 := by
      refine ⟨Int.ediv_nonneg (by omega) (by omega), ?_⟩
      have := Int.ediv_le_self d (show 0 ≤ q * n by omega)
      omega
    clear HY hft
    go_wp2_with fail
    refine (impl_upTo _ _).mono ?_
    rintro e w2 ⟨rfl, rfl⟩
    obtain ⟨u, yy, huy⟩ : ∃ (u : Int) (yy : Bool), capR ((q * n) / d) = (u, yy) := ⟨_, _, rfl⟩
    rw [huy] at HU
    rw [huy]
    go_wp2_with fail
    go_ret2
    exact ⟨u, yy, rfl, HU, HB2.out⟩
end Go.Proofs.Ytaomjggamamckaa
