/-
  LargestRemainder: the program's.
-/
import Derived.Test.YtgdoahdkidlndaaRows
import Derived.Test.YtgdoahdkidlndaaInts
import Derived.Test.YtgdoahdkidlndaaIntsTo
import Derived.Test.YtgdoahdkidlndaaShareLib
import Derived.Test.YtgdoahdkidlndaaUpToLib
import Derived.Test.YtgdoahdkidlndaaIsShLib
import Derived.Test.YtgdoahdkidlndaaIsSh
import Derived.Test.YtgdoahdkidlndaaAppLib
import Derived.Test.YtgdoahdkidlndaaAppSpec
import Derived.Test.YtgdoahdkidlndaaAppImpl
import Derived.Test.YtgdoahdkidlndaaUpTo
import Derived.Test.YtgdoahdkidlndaaRunning
import Derived.Test.YtgdoahdkidlndaaSums
import Derived.Test.YtgdoahdkidlndaaHold
import Derived.Test.YtgdoahdkidlndaaSortLib
import Derived.Test.YtgdoahdkidlndaaSortRow
import Derived.Test.YtgdoahdkidlndaaLrLib
import Derived.Test.YtgdoahdkidlndaaLrFacts
import Derived.Test.YtgdoahdkidlndaaLrOrder
import Derived.Test.YtgdoahdkidlndaaLargest
import Derived.WalkKit
import Derived.WalkSpells
import Derived.WalkSmall
import Derived.OneCell
import Derived.Lib.Hide
namespace Go.Proofs.Ytgdoahdkidlndaa
open Go.RowKit

set_option maxRecDepth 100000 in
set_option maxHeartbeats 400000 in
theorem impl_lr_no (t : Int) (v : Value) (xs : List Int) (w : World) (h : Ints w v xs) (hm : xs.length ≤ 1048577) (hno : ¬CanS t xs) :
    Calls Try.prog 13 #[.int .i64 t, v] w (ListOwn [] false w) := by
  have H := Lib.hid h
  have HD : Hid (decide (CanS t xs) = false) := Lib.hid (decide_eq_false hno)
  obtain ⟨a, c, rfl⟩ := h.slice
  clear h hno
  go_enter Try.func13, Try.ntmps13
  go_wp2_with fail
  refine (impl_canShare t _ xs _ H.out hm).mono ?_
  rintro e w1 ⟨rfl, hb⟩
  rw [HD.out]
  go_wp2
  go_ret2
  exact ⟨_, rfl, own_none _ _ _, hb⟩

/-- The shares rounded towards zero, and what is cut off. -/
def qL (t : Int) (ws : List Int) : List Int := (List.range ws.length).map fun k => sgn t * qq t ws k
def cL (t : Int) (ws : List Int) : List Int := (List.range ws.length).map (cc t ws)
theorem qL_length (t : Int) (ws : List Int) : (qL t ws).length = ws.length := by simp [qL]
theorem cL_length (t : Int) (ws : List Int) : (cL t ws).length = ws.length := by simp [cL]
theorem qL_half {t : Int} {ws : List Int} {k : Nat} (hk : k < ws.length) : (halfI (qL t ws) k).set k (.int .i64 ((t * ws[k]'hk).tdiv (sumL ws))) = halfI (qL t ws) (k + 1) := by
  rw [← halfI_succ (qL t ws) (by rw [qL_length]; exact hk), ← getD_at hk, (tdiv_sgn (t := t) (ws := ws) k).1]
  simp [qL]
theorem cut_eq {t : Int} {ws : List Int} {k : Nat} (hk : k < ws.length) : cmpI t 0 * (t * ws[k]'hk).tmod (sumL ws) = cc t ws k := by
  rw [← getD_at hk, (tdiv_sgn (t := t) (ws := ws) k).2, ← Int.mul_assoc]
  rcases sgn_cases t with ⟨ht, e⟩ | ⟨ht, e⟩
  · rw [e, cmpI_lt ht]; omega
  · by_cases h0 : t = 0
    · subst h0
      simp [cc, TT, cmpI]
    · rw [e, cmpI_gt (by omega)]; omega
theorem cL_half {t : Int} {ws : List Int} {k : Nat} (hk : k < ws.length) : (halfI (cL t ws) k).set k (.int .i64 (cmpI t 0 * (t * ws[k]'hk).tmod (sumL ws))) = halfI (cL t ws) (k + 1) := by
  rw [← halfI_succ (cL t ws) (by rw [cL_length]; exact hk), cut_eq hk]
  simp [cL]
theorem qL_row (t : Int) (ws : List Int) : halfI (qL t ws) ws.length = srt.rowV ws.length (fun k => sgn t * qq t ws k) := by
  rw [halfI_all (qL t ws) (by rw [qL_length]; exact Nat.le_refl _)]
  simp [qL, srt.rowV]
theorem cL_row (t : Int) (ws : List Int) : halfI (cL t ws) ws.length = (cL t ws).map (Value.int .i64) := halfI_all _ (by rw [cL_length]; exact Nat.le_refl _)
theorem qL_ints (t : Int) (ws : List Int) : srt.rowV ws.length (fun k => sgn t * qq t ws k) = (qL t ws).map (Value.int .i64) := by simp [qL, srt.rowV]
theorem lrL_row (t : Int) (ws : List Int) : srt.rowV ws.length (lrF t ws) = (lrL t ws).map (Value.int .i64) := by simp [lrL, srt.rowV]
theorem qL_ok {t : Int} {ws : List Int} (h : CanS t ws) : SumOk (qL t ws) := sumOk_small (by rw [qL_length]; have := h.2.2.1; omega) (fun x hx => by
  obtain ⟨k, _, rfl⟩ := List.mem_map.1 hx
  have hq := (qc (t := t) h.2.2 k).2.2.2
  have hT := TT_le h
  rcases sgn_cases t with ⟨_, e⟩ | ⟨_, e⟩ <;> rw [e] <;> omega)
theorem left_eq {t : Int} {ws : List Int} (h : AreW ws) : cmpI t 0 * (t - sumL (qL t ws)) = ((LL t ws).toNat : Int) := by
  rw [(LL_nat h).1]
  unfold qL
  rw [sumL_rangeF, sumF_mul]
  unfold LL TT
  rcases sgn_cases t with ⟨ht, e⟩ | ⟨ht, e⟩
  · rw [e, cmpI_lt ht]; omega
  · by_cases h0 : t = 0
    · subst h0
      have h1 := LL_nonneg (t := 0) h
      have h2 := sumF_le (n := ws.length) (f := fun _ => 0) (g := qq 0 ws) (fun k _ => (qc h k).2.2.2.1)
      rw [sumF_const] at h2
      unfold LL TT at h1
      rw [cmpI_eq rfl]
      omega
    · rw [e, cmpI_gt (by omega)]; omega
theorem keyOf_cL {t : Int} {ws : List Int} (k : Nat) (hk : k < ws.length) : srt.keyOf (cL t ws) (k : Int) = cc t ws k := by
  simp [srt.keyOf, cL, List.getD, hk]
theorem rowV_upd {n : Nat} {f : Nat → Int} {i : Nat} {x : Int} (hi : i < n) : (srt.rowV n f).set i (.int .i64 x) = srt.rowV n (upd f i x) := by
  apply List.ext_getElem?
  intro k
  rw [List.getElem?_set, srt.rowV_length]
  by_cases h : i = k
  · subst h; rw [if_pos rfl, if_pos hi, srt.rowV_at hi, upd_here]
  · rw [if_neg h]
    by_cases hk : k < n
    · rw [srt.rowV_at hk, srt.rowV_at hk, upd_other (fun e => h e.symm)]
    · rw [List.getElem?_eq_none (by rw [srt.rowV_length]; omega), List.getElem?_eq_none (by rw [srt.rowV_length]; omega)]

theorem lf_cuts (t : Int) (ws : List Int) (v : Value) (w : World) (h : Ints w v (cL t ws)) (h0 : 0 < ws.length) (hn : ws.length ≤ 40) : Calls Try.prog 35 #[v] w fun e w' =>
    ∃ (g : Nat) (f : Nat → Int), e = .returned (.slice (some ⟨g, 0, none⟩) ws.length ws.length) ∧ w'.ownsRow w.heap.size 3 1 (.slice (some ⟨g, 0, none⟩) ws.length ws.length) ws.length (srt.rowV ws.length f) ∧ srt.Into (fun i => (i : Int)) f 0 ws.length ∧ srt.Srtd (srt.keyOf (cL t ws)) f 0 ws.length ∧ Below w.heap.size w w' := by
  have := srt.largest_first v (cL t ws) w h (by rw [cL_length]; exact h0) (by rw [cL_length]; exact hn)
  unfold srt.First at this
  rw [cL_length] at this
  exact this

set_option maxRecDepth 100000 in
set_option maxHeartbeats 4000000 in
theorem impl_lr_yes (t : Int) (v : Value) (xs : List Int) (w : World) (h : Ints w v xs) (hc : CanS t xs) :
    Calls Try.prog 13 #[.int .i64 t, v] w (ListOwn (lrL t xs) true w) := by
  obtain ⟨i0, hi, hz0, hz1, hz2⟩ := info_parts infoInt
  have hA := hc.2.2
  have HD : Hid (decide (CanS t xs) = true) := Lib.hid (decide_eq_true hc)
  have h40 := hA.1
  have hpos := hA.pos
  have H := Lib.hid h
  obtain ⟨b, o, c, rfl, hlc, hcell⟩ := ints_some h hpos
  have HC := Lib.hid hcell
  have HCS := Lib.hid hc
  have HS : Hid (SumOk xs) := Lib.hid (AreW.ok h40 hA.2.1)
  have hT := hA.total
  have htb : -1000000000 ≤ t ∧ t ≤ 1000000000 := ⟨hc.1, hc.2.1⟩
  have hsgb : -1 ≤ cmpI t 0 ∧ cmpI t 0 ≤ 1 := by unfold cmpI; split <;> (try split) <;> omega
  have HA := Lib.hid hA
  clear h hcell hc hA
  go_enter Try.func13, Try.ntmps13
  go_wp2_with fail
  refine (impl_canShare t _ xs _ H.out (by omega)).mono ?_
  rintro e w1 ⟨rfl, hb⟩
  rw [HD.out]
  have B1 := Lib.hid hb
  clear hb
  go_wp2_with fail
  refine (impl_sumOf _ xs _ (H.out.below B1.out) (by omega) HS.out).mono ?_
  rintro e w2 ⟨rfl, hb⟩
  have B2 := Lib.hid (B1.out.trans (hb.mono B1.out.size))
  clear hb B1
  obtain ⟨S, hS⟩ : ∃ S, sumL xs = S := ⟨_, rfl⟩
  rw [hS] at hT ⊢
  have HSS := Lib.hid hS
  clear hS
  obtain ⟨sg, hsg⟩ : ∃ sg, cmpI t 0 = sg := ⟨_, rfl⟩
  rw [hsg] at hsgb
  have HSG := Lib.hid hsg
  clear hsg
  obtain ⟨g1, hg1⟩ : ∃ g, w2.heap.size = g := ⟨_, rfl⟩
  go_wp2_with fail
  refine (cmp_int t 0 _).mono ?_
  rintro e w2' ⟨rfl, rfl⟩
  rw [HSG.out]
  go_wp2_with (at_make; refine wpList_make_full _ rfl _ _ 24 rfl w2'.heap.size 3 i0 (.int .i64 0) 1 Try.underlying24 hi hz0 hz1 _ _ _ _ xs.length rfl rfl rfl rfl (by rw [hz2]; omega) (by unfold maxLen; omega) (Nat.le_refl _) ?_)
  intro w3 hown0 hgrow0
  have HB3 : Hid (Below w2'.heap.size w2' w3) := Lib.hid ((Below.refl _ _).grown hgrow0 (Nat.le_refl _) (fun k h => by cases h))
  have B3 := Lib.hid (B2.out.trans (HB3.out.mono B2.out.size))
  have hl3 : g1 < w3.heap.size := by have := (hown0.lt g1 rfl).2; omega
  have HQ3 : Hid (w3.ownsRow 0 3 1 (.slice (some ⟨g1, 0, none⟩) xs.length xs.length) xs.length (halfI (qL t xs) 0)) := Lib.hid (by
    rw [halfI_zero, qL_length]; exact own_rebase (by simpa [toList_madeCells_one, Value.cells, hg1] using hown0) (Nat.zero_le _))
  have hwg1 : w.heap.size ≤ g1 := by have := B2.out.size; omega
  clear hown0 hgrow0 HB3 B2 hg1
  obtain ⟨g2, hg2⟩ : ∃ g, w3.heap.size = g := ⟨_, rfl⟩
  rw [hg2] at hl3
  go_wp2_with (at_make; refine wpList_make_full _ rfl _ _ 24 rfl w3.heap.size 3 i0 (.int .i64 0) 1 Try.underlying24 hi hz0 hz1 _ _ _ _ xs.length rfl rfl rfl rfl (by rw [hz2]; omega) (by unfold maxLen; omega) (Nat.le_refl _) ?_)
  intro w4 hown0 hgrow0
  have HB4 : Hid (Below w3.heap.size w3 w4) := Lib.hid ((Below.refl _ _).grown hgrow0 (Nat.le_refl _) (fun k h => by cases h))
  have B4 := Lib.hid (B3.out.trans (HB4.out.mono B3.out.size))
  have HQ4 := Lib.hid (kept_below HQ3.out HB4.out)
  have HC4 : Hid (w4.ownsRow 0 3 1 (.slice (some ⟨g2, 0, none⟩) xs.length xs.length) xs.length (halfI (cL t xs) 0)) := Lib.hid (by
    rw [halfI_zero, cL_length]; exact own_rebase (by simpa [toList_madeCells_one, Value.cells, hg2] using hown0) (Nat.zero_le _))
  clear hown0 hgrow0 HB4 B3 HQ3 hg2
  go_wp2
  go_loopw [31] (fun x wr => ∃ k : Nat, k ≤ xs.length ∧ x = .int .i64 k ∧ Hid (wr.ownsRow 0 3 1 (.slice (some ⟨g1, 0, none⟩) xs.length xs.length) xs.length (halfI (qL t xs) k)) ∧ Hid (wr.ownsRow 0 3 1 (.slice (some ⟨g2, 0, none⟩) xs.length xs.length) xs.length (halfI (cL t xs) k)) ∧ Below w.heap.size w wr) (fun x _ => xs.length - (intOf x).toNat)
  case atStart => exact ⟨0, Nat.zero_le _, rfl, HQ4, HC4, B4.out⟩
  case round =>
    obtain ⟨k, hk, rfl, HQ, HK, hb⟩ := hrel
    by_cases hlt : k < xs.length
    · have hck : wr.cell? ⟨b, o + k, none⟩ = some (.int .i64 (xs[k]'hlt)) := (hb.cell (p := ⟨b, o + k, none⟩) HC.out.1).trans (HC.out.at k hlt)
      have hn1 := HCS.out.one hlt
      have hq1 := HCS.out.quo hlt
      have hm1 := qc (t := t) HA.out k
      have hcut := cut_eq (t := t) hlt
      rw [HSG.out, HSS.out] at hcut
      rw [HSS.out] at hm1 hq1
      have hcb : 0 ≤ sg * (t * xs[k]'hlt).tmod S ∧ sg * (t * xs[k]'hlt).tmod S ≤ 40000000 := by rw [hcut]; omega
      have HQN : Hid ((halfI (qL t xs) k).set k (.int .i64 ((t * xs[k]'hlt).tdiv S)) = halfI (qL t xs) (k + 1)) := Lib.hid (by rw [← HSS.out]; exact qL_half hlt)
      have HKN : Hid ((halfI (cL t xs) k).set k (.int .i64 (sg * (t * xs[k]'hlt).tmod S)) = halfI (cL t xs) (k + 1)) := Lib.hid (by rw [← HSS.out, ← HSG.out]; exact cL_half hlt)
      have hn1' := hn1.1
      have hn1'' := hn1.2.1
      clear hcut hm1 hn1
      generalize xs[k]'hlt = x0 at *
      have hSne : S ≠ 0 := by omega
      have hfz := HQ.out.frozenAt k
      have hcl : ∃ u, wr.cell? ⟨g1, k, none⟩ = some u := by
        rw [HQ.out.cellAt k (by omega)]
        exact ⟨_, List.getElem?_eq_getElem (by simp [halfI, qL_length]; omega)⟩
      obtain ⟨u, hu⟩ := hcl
      have hst := HQ.out.stored k (.int .i64 ((t * x0).tdiv S))
      have HK2 := Lib.hid (ownsRow_setCell_other HK.out (a := ⟨g1, k, none⟩) (by simp [Value.ownBlock]; omega) (.int .i64 ((t * x0).tdiv S)))
      have B5 := Lib.hid (runs_below (bt := g1) (i := k) (x := .int .i64 ((t * x0).tdiv S)) hb hwg1)
      rw [HQN.out] at hst
      have HST := Lib.hid hst.1
      have hfz2 := HK2.out.frozenAt k
      have hcl : ∃ u, (wr.setCell ⟨g1, k, none⟩ (.int .i64 ((t * x0).tdiv S))).cell? ⟨g2, k, none⟩ = some u := by
        rw [HK2.out.cellAt k (by omega)]
        exact ⟨_, List.getElem?_eq_getElem (by simp [halfI, cL_length]; omega)⟩
      obtain ⟨u2, hu2⟩ := hcl
      have hst2 := HK2.out.stored k (.int .i64 (sg * (t * x0).tmod S))
      have HQ2 := Lib.hid (ownsRow_setCell_other HST.out (a := ⟨g2, k, none⟩) (by simp [Value.ownBlock]; omega) (.int .i64 (sg * (t * x0).tmod S)))
      have B6 := Lib.hid (runs_below (bt := g2) (i := k) (x := .int .i64 (sg * (t * x0).tmod S)) B5.out (by omega))
      rw [HKN.out] at hst2
      have HST2 := Lib.hid hst2.1
      clear hst hst2 HK2 B5 HST
      go_wp2
      go_roundw
      case rel => exact ⟨k + 1, by omega, by go_num, HQ2, HST2, B6.out⟩
      case measure => simp [intOf]; omega
    · obtain rfl : k = xs.length := by omega
      have HQR : Hid (wr.ownsRow 0 3 1 (.slice (some ⟨g1, 0, none⟩) xs.length xs.length) xs.length (srt.rowV xs.length (fun k => sgn t * qq t xs k))) := Lib.hid (by rw [← qL_row]; exact HQ.out)
      have HQI : Hid (Ints wr (.slice (some ⟨g1, 0, none⟩) xs.length xs.length) (qL t xs)) := Lib.hid (ints_of_row (by rw [qL_length]) (by rw [← qL_ints]; exact HQR.out))
      have HKI : Hid (Ints wr (.slice (some ⟨g2, 0, none⟩) xs.length xs.length) (cL t xs)) := Lib.hid (ints_of_row (by rw [cL_length]) (by rw [← cL_row]; exact HK.out))
      have hln := LL_nat (t := t) HA.out
      have hle := left_eq (t := t) HA.out
      rw [HSG.out] at hle
      have hsb : -40000000000 ≤ sumL (qL t xs) ∧ sumL (qL t xs) ≤ 40000000000 := by
        have h1 := sumL_bound (xs := qL t xs) (B := 1000000000) (fun x hx => by
          obtain ⟨k, _, rfl⟩ := List.mem_map.1 hx
          have hq := (qc (t := t) HA.out k).2.2.2
          have hT := TT_le HCS.out
          rcases sgn_cases t with ⟨_, e⟩ | ⟨_, e⟩ <;> rw [e] <;> omega)
        rw [qL_length] at h1
        omega
      obtain ⟨L, hL⟩ : ∃ L, (LL t xs).toNat = L := ⟨_, rfl⟩
      rw [hL] at hle
      have hLn : L ≤ xs.length := by omega
      have HL := Lib.hid hL
      clear hL hln HQ HK
      go_wp2_with fail
      refine (impl_sumOf _ (qL t xs) _ HQI.out (by rw [qL_length]; omega) (qL_ok HCS.out)).mono ?_
      rintro e w5 ⟨rfl, hb5⟩
      have HQ5 := Lib.hid (kept_below HQR.out hb5)
      have HKI5 := Lib.hid (HKI.out.below hb5)
      have B5 := Lib.hid (hb.trans (hb5.mono hb.size))
      have hs5 : wr.heap.size ≤ w5.heap.size := hb5.size
      clear hb5 HQI HKI HQR
      generalize sumL (qL t xs) = sq at *
      go_wp2_with fail
      refine (lf_cuts t xs _ _ HKI5.out hpos h40).mono ?_
      rintro e w6 ⟨g3, f, rfl, ho3, hi3, hs3, hb6⟩
      have hg3 : g1 < g3 := by
        have h1 := (ho3.lt g3 rfl).1
        have h2 := (HQ5.out.lt g1 rfl).2
        omega
      have HQ6 := Lib.hid (kept_below HQ5.out hb6)
      have HO6 := Lib.hid (own_rebase ho3 (Nat.zero_le _))
      have B6 := Lib.hid (B5.out.trans (hb6.mono B5.out.size))
      have HF := Lib.hid (And.intro hi3 hs3)
      have hkey : ∀ k : Nat, k < xs.length → srt.keyOf (cL t xs) (k : Int) = cc t xs k := fun k hk => keyOf_cL k hk
      have HEND := Lib.hid (hJ_end HA.out hkey hi3 hs3)
      have HBND : Hid (∀ j, j < L → ∀ k, -1000000001 ≤ hJ (fun k => sgn t * qq t xs k) (cmpI t 0) f j k ∧ hJ (fun k => sgn t * qq t xs k) (cmpI t 0) f j k ≤ 1000000001) := Lib.hid (fun j hj k => (hJ_bound HCS.out hkey hi3 hs3 (by rw [HL.out]; exact hj) k).2)
      have HIR := Lib.hid (srt_inR hi3)
      rw [HSG.out] at HBND HEND
      rw [HL.out] at HEND
      clear ho3 hi3 hs3 hb6 hkey HQ5 HKI5 B5 hs5
      go_wp2_with fail
      go_loopw [66] (fun x wr => ∃ j : Nat, j ≤ L ∧ x = .int .i64 j ∧ Hid (wr.ownsRow 0 3 1 (.slice (some ⟨g1, 0, none⟩) xs.length xs.length) xs.length (srt.rowV xs.length (hJ (fun k => sgn t * qq t xs k) sg f j))) ∧ Hid (wr.ownsRow 0 3 1 (.slice (some ⟨g3, 0, none⟩) xs.length xs.length) xs.length (srt.rowV xs.length f)) ∧ Below w.heap.size w wr) (fun x _ => L - (intOf x).toNat)
      case atStart => exact ⟨0, Nat.zero_le _, rfl, HQ6, HO6, B6.out⟩
      case round =>
        obtain ⟨j, hj, rfl, HQ, HO, hb⟩ := hrel
        by_cases hjl : j < L
        · have hr := HIR.out j (by omega)
          obtain ⟨m, hm⟩ : ∃ m : Nat, f j = (m : Int) := ⟨(f j).toNat, by omega⟩
          have hmn : m < xs.length := by omega
          have c1 : wr.cell? ⟨g3, j, none⟩ = some (.int .i64 (m : Int)) := by rw [HO.out.cellAt j (by omega), srt.rowV_at (by omega), hm]
          have c2 : wr.cell? ⟨g1, m, none⟩ = some (.int .i64 (hJ (fun k => sgn t * qq t xs k) sg f j m)) := by rw [HQ.out.cellAt m (by omega), srt.rowV_at hmn]
          have f2 := HQ.out.frozenAt m
          have hbd := HBND.out j hjl m
          have hst := HQ.out.stored m (.int .i64 (hJ (fun k => sgn t * qq t xs k) sg f j m + sg))
          have HO2 := Lib.hid (ownsRow_setCell_other HO.out (a := ⟨g1, m, none⟩) (by simp [Value.ownBlock]; omega) (.int .i64 (hJ (fun k => sgn t * qq t xs k) sg f j m + sg)))
          have B7 := Lib.hid (runs_below (bt := g1) (i := m) (x := .int .i64 (hJ (fun k => sgn t * qq t xs k) sg f j m + sg)) hb hwg1)
          have HN : Hid (srt.rowV xs.length (upd (hJ (fun k => sgn t * qq t xs k) sg f j) m (hJ (fun k => sgn t * qq t xs k) sg f j m + sg)) = srt.rowV xs.length (hJ (fun k => sgn t * qq t xs k) sg f (j + 1))) := Lib.hid (by
            simp only [hJ]
            rw [show (f j).toNat = m by omega])
          rw [rowV_upd hmn, HN.out] at hst
          have HST := Lib.hid hst.1
          clear hst hm hr
          generalize hJ (fun k => sgn t * qq t xs k) sg f j m = hv at *
          go_wp2
          go_roundw
          case rel => exact ⟨j + 1, by omega, by go_num, HST, HO2, B7.out⟩
          case measure => simp [intOf]; omega
        · obtain rfl : j = L := by omega
          have HV : Hid (wr.ownsRow w.heap.size 3 1 (.slice (some ⟨g1, 0, none⟩) xs.length xs.length) (lrL t xs).length ((lrL t xs).map (Value.int .i64))) := Lib.hid (by
            rw [← lrL_row, lrL_length, ← HEND.out]; exact srt.own_up HQ.out hwg1)
          go_wp2
          go_ret2
          exact ⟨_, rfl, HV.out, hb⟩
end Go.Proofs.Ytgdoahdkidlndaa
