/-
  LargestRemainder: the model's.
-/
import Derived.Test.YtgdoahdkidlndaaRows
import Derived.Test.YtgdoahdkidlndaaInts
import Derived.Test.YtgdoahdkidlndaaIntsTo
import Derived.Test.YtgdoahdkidlndaaShareLib
import Derived.Test.YtgdoahdkidlndaaUpToLib
import Derived.Test.YtgdoahdkidlndaaIsShLib
import Derived.Test.YtgdoahdkidlndaaAreW
import Derived.Test.YtgdoahdkidlndaaAppLib
import Derived.Test.YtgdoahdkidlndaaAppSpec
import Derived.Test.YtgdoahdkidlndaaAppImpl
import Derived.Test.YtgdoahdkidlndaaUpTo
import Derived.Test.YtgdoahdkidlndaaRunning
import Derived.Test.YtgdoahdkidlndaaSums
import Derived.Test.YtgdoahdkidlndaaHold
import Derived.Test.YtgdoahdkidlndaaAppendSep
import Derived.Test.YtgdoahdkidlndaaSortLib
import Derived.Test.YtgdoahdkidlndaaSortRow
import Derived.Test.YtgdoahdkidlndaaLrLib
import Derived.Test.YtgdoahdkidlndaaLrFacts
import Derived.Test.YtgdoahdkidlndaaLrImpl
import Derived.WalkKit
import Derived.WalkSpells
import Derived.WalkSmall
import Derived.BigQuiet
import Derived.OneCell
import Derived.Deep.QuietTactic
import Derived.Deep.DeepCutAuto
import Derived.Lib.Hide
namespace Go.Proofs.Ytgdoahdkidlndaa
open Go.RowKit

set_option maxRecDepth 100000 in
set_option maxHeartbeats 400000 in
theorem spec_lr_no (t : Int) (v : Value) (xs : List Int) (w : World) (h : Ints w v xs) (hm : xs.length ≤ 1048577) (hno : ¬CanS t xs) :
    Calls Try.prog 20 #[.int .i64 t, v] w (ListRes [] false w) := by
  have H := Lib.hid h
  obtain ⟨a, c, rfl⟩ := h.slice
  clear h
  by_cases hA : AreW xs
  · have HA := Lib.hid (areW_yes hA)
    have HI : Hid (inB t (-1000000000) 1000000000 = false) := Lib.hid (inB_no (by
      have : ¬(-1000000000 ≤ t ∧ t ≤ 1000000000) := fun ht => hno ⟨ht.1, ht.2, hA⟩
      omega))
    clear hA hno
    go_enter Try.func20, Try.ntmps20
    go_wp2_with fail
    refine (spec_areW _ xs _ H.out hm).mono ?_
    rintro e w1 ⟨rfl, hb⟩
    rw [HA.out]
    go_wp2_with fail
    refine (spec_in t _ _ _).mono ?_
    rintro e w2 ⟨rfl, rfl⟩
    rw [HI.out]
    go_wp2
    go_ret2
    exact ⟨_, rfl, ints_none _ _ _, hb.alloc hb.size _⟩
  · have HA := Lib.hid (areW_no hA)
    clear hA hno
    go_enter Try.func20, Try.ntmps20
    go_wp2_with fail
    refine (spec_areW _ xs _ H.out hm).mono ?_
    rintro e w1 ⟨rfl, hb⟩
    rw [HA.out]
    go_wp2
    go_ret2
    exact ⟨_, rfl, ints_none _ _ _, hb.alloc hb.size _⟩

theorem rowV_succ (k : Nat) (f : Nat → Int) : srt.rowV k f ++ [.int .i64 (f k)] = srt.rowV (k + 1) f := by simp [srt.rowV, List.range_succ]
/-- The first i by one rule, the others by another. -/
def mixF (i : Nat) (a b : Nat → Int) : Nat → Int := fun k => if k < i then a k else b k
theorem mixF_zero (a b : Nat → Int) : mixF 0 a b = b := by funext k; unfold mixF; rw [if_neg (by omega)]
theorem mixF_at (i : Nat) (a b : Nat → Int) : mixF i a b i = b i := by unfold mixF; rw [if_neg (by omega)]
theorem mixF_succ (i : Nat) (a b : Nat → Int) : upd (mixF i a b) i (a i) = mixF (i + 1) a b := by
  funext k
  by_cases e : k = i
  · subst e; rw [upd_here]; unfold mixF; rw [if_pos (by omega)]
  · rw [upd_other e]; unfold mixF
    by_cases h : k < i
    · rw [if_pos h, if_pos (by omega)]
    · rw [if_neg h, if_neg (by omega)]
theorem mixF_all {n : Nat} (a b : Nat → Int) : srt.rowV n (mixF n a b) = srt.rowV n a := by
  unfold srt.rowV
  refine List.map_congr_left (fun k hk => ?_)
  unfold mixF
  rw [if_pos (List.mem_range.1 hk)]
theorem bestTo_yes {r : Nat → Int} {i : Nat} (h : r (bestTo r i) < r (i + 1)) : bestTo r (i + 1) = i + 1 := by rw [bestTo, if_pos h]
theorem bestTo_no {r : Nat → Int} {i : Nat} (h : ¬r (bestTo r i) < r (i + 1)) : bestTo r (i + 1) = bestTo r i := by rw [bestTo, if_neg h]

set_option maxRecDepth 100000 in
set_option maxHeartbeats 4000000 in
theorem spec_lr_yes (t : Int) (v : Value) (xs : List Int) (w : World) (h : Ints w v xs) (hc : CanS t xs) :
    Calls Try.prog 20 #[.int .i64 t, v] w (ListRes (lrL t xs) true w) := by
  obtain ⟨i0, hi, hz0, hz1, hz2⟩ := info_parts infoInt
  have hA := hc.2.2
  have HA := Lib.hid hA
  have HAW := Lib.hid (areW_yes hA)
  have HIN := Lib.hid (inB_yes hc.1 hc.2.1)
  have h40 := hA.1
  have hpos := hA.pos
  have H := Lib.hid h
  obtain ⟨b, o, c, rfl, hlc, hcell⟩ := ints_some h hpos
  have HC := Lib.hid hcell
  have HCS := Lib.hid hc
  have HS : Hid (SumOk xs) := Lib.hid (AreW.ok h40 hA.2.1)
  have hT := hA.total
  have htb : -1000000000 ≤ t ∧ t ≤ 1000000000 := ⟨hc.1, hc.2.1⟩
  clear h hcell hc hA
  go_enter Try.func20, Try.ntmps20
  go_wp2_with fail
  refine (spec_areW _ xs _ H.out (by omega)).mono ?_
  rintro e w1 ⟨rfl, hb⟩
  rw [HAW.out]
  have B1 := Lib.hid hb
  clear hb
  go_wp2_with fail
  refine (spec_in t _ _ _).mono ?_
  rintro e w1' ⟨rfl, rfl⟩
  rw [HIN.out]
  go_upto_if 26 with fail
  go_cut [6] (fun s wx => s = .int .i64 (sgn t) ∧ wx = w1')
  case first =>
    rcases sgn_cases t with ⟨ht, e⟩ | ⟨ht, e⟩
    · have HE := Lib.hid e
      clear e
      go_wp2_with fail
      go_meet
      exact ⟨by rw [HE.out], rfl⟩
    · have HE := Lib.hid e
      clear e
      go_wp2_with fail
      go_meet
      exact ⟨by rw [HE.out], rfl⟩
  case rest =>
    obtain ⟨rfl, rfl⟩ := hcut
    have hsg := sgn_cases t
    have hsgb : sgn t = 1 ∨ sgn t = -1 := by omega
    have hTb : 0 ≤ TT t ∧ TT t ≤ 1000000000 := ⟨TT_nonneg t, TT_le HCS.out⟩
    have hTT : sgn t * t = TT t := rfl
    have HLRF : Hid (∀ k, lrF t xs k = sgn t * (stp xs.length (qq t xs, cc t xs) (LL t xs).toNat).1 k) := Lib.hid (fun k => rfl)
    have HQ : Hid (∀ k (hk : k < xs.length), qq t xs k = (TT t * xs[k]'hk).tdiv (sumL xs) ∧ cc t xs k = TT t * xs[k]'hk % sumL xs ∧ 0 ≤ TT t * xs[k]'hk ∧ TT t * xs[k]'hk ≤ 1000000000000000) := Lib.hid (fun k hk => by
      have h1 := HA.out.at hk
      have h2 := mulB (a := TT t) (b := xs[k]'hk) (A := 1000000000) (B := 1000000) (by omega) hTb.2 h1.1 h1.2
      have h3 := prod_nonneg (t := t) HA.out k
      unfold qq cc
      rw [getD_at hk] at h3 ⊢
      exact ⟨rfl, Int.tmod_eq_emod_of_nonneg h3, h3, by omega⟩)
    have HQB : Hid (∀ k, 0 ≤ qq t xs k ∧ qq t xs k ≤ 1000000000) := Lib.hid (fun k => by
      have h1 := qc (t := t) HA.out k
      omega)
    have HLN := Lib.hid (LL_nat (t := t) HA.out)
    have HLL : Hid (LL t xs = TT t - sumF xs.length (qq t xs)) := Lib.hid rfl
    clear hsg
    generalize sgn t = sg at *
    generalize TT t = T at *
    go_wp2_with fail
    refine (spec_sum _ xs _ (H.out.below B1.out) (by omega) HS.out).mono ?_
    rintro e w2 ⟨rfl, hb⟩
    have B2 := Lib.hid (B1.out.trans (hb.mono B1.out.size))
    clear hb B1
    obtain ⟨S, hS⟩ : ∃ S, sumL xs = S := ⟨_, rfl⟩
    rw [hS] at hT HQ ⊢
    clear hS
    have hSne : S ≠ 0 := by omega
    go_wp2_with fail
    have HO0 : Hid (((w2.alloc (.cells #[] 3)).alloc (.cells #[] 3)).ownsRow w.heap.size 3 1 (.slice (some ⟨w2.heap.size, 0, none⟩) 0 0) 0 (srt.rowV 0 (qq t xs))) := Lib.hid ((own_rebase (World.ownsRow_lit w2 #[] 0 (Nat.le_refl _) (Nat.zero_le _) rfl) B2.out.size).alloc _)
    have HR0 : Hid (((w2.alloc (.cells #[] 3)).alloc (.cells #[] 3)).ownsRow w.heap.size 3 1 (.slice (some ⟨w2.heap.size + 1, 0, none⟩) 0 0) 0 (srt.rowV 0 (cc t xs))) := Lib.hid (by
      have := own_rebase (World.ownsRow_lit (w2.alloc (.cells #[] 3)) #[] 0 (Nat.le_refl _) (Nat.zero_le _) rfl (e := 3)) (base' := w.heap.size) (by have := B2.out.size; simp; omega)
      rw [show (w2.alloc (.cells #[] 3)).heap.size = w2.heap.size + 1 from by simp] at this
      exact this)
    have B3 := Lib.hid ((B2.out.alloc B2.out.size (.cells #[] 3)).alloc (by have := B2.out.size; simp; omega) (.cells #[] 3))
    have hne0 : w2.heap.size ≠ w2.heap.size + 1 := by omega
    go_wp2_with fail
    go_loopw [8, 9, 10, 11] (fun x y l i wr => ∃ k ga gb ca cb : Nat, k ≤ xs.length ∧ i = .int .i64 k ∧ x = .slice (some ⟨ga, 0, none⟩) k ca ∧ y = .slice (some ⟨gb, 0, none⟩) k cb ∧ ga ≠ gb ∧ l = .int .i64 (T - sumF k (qq t xs)) ∧ Hid (wr.ownsRow w.heap.size 3 1 (.slice (some ⟨ga, 0, none⟩) k ca) k (srt.rowV k (qq t xs))) ∧ Hid (wr.ownsRow w.heap.size 3 1 (.slice (some ⟨gb, 0, none⟩) k cb) k (srt.rowV k (cc t xs))) ∧ Below w.heap.size w wr) (fun _ _ _ i _ => xs.length - (intOf i).toNat)
    case atStart => exact ⟨0, _, _, _, _, Nat.zero_le _, rfl, rfl, rfl, hne0, by simp [sumF], HO0, HR0, B3.out⟩
    case round =>
      obtain ⟨k, ga, gb, ca, cb, hk, rfl, rfl, rfl, hab, rfl, HO, HR, hb⟩ := hrel
      have hsum : 0 ≤ sumF k (qq t xs) ∧ sumF k (qq t xs) ≤ 40000000000 := by
        have h1 := sumF_le (n := k) (f := fun _ => 0) (g := qq t xs) (fun i _ => (HQB.out i).1)
        have h2 := sumF_le (n := k) (f := qq t xs) (g := fun _ => 1000000000) (fun i _ => (HQB.out i).2)
        rw [sumF_const] at h1 h2
        omega
      by_cases hlt : k < xs.length
      · have hck : wr.cell? ⟨b, o + k, none⟩ = some (.int .i64 (xs[k]'hlt)) := (hb.cell (p := ⟨b, o + k, none⟩) HC.out.1).trans (HC.out.at k hlt)
        have hq := HQ.out k hlt
        have hqb := HQB.out k
        have HQ1 := Lib.hid hq.1
        have HQ2 := Lib.hid hq.2.1
        have hq3 := hq.2.2
        have HSF : Hid (sumF k (qq t xs) + qq t xs k = sumF (k + 1) (qq t xs)) := Lib.hid rfl
        rw [hq.1] at hqb
        clear hq
        generalize xs[k]'hlt = x0 at *
        have hga := (HO.out.lt ga rfl).2
        have hgb := (HR.out.lt gb rfl).2
        go_wp2_with (at_builtin; refine wpList_append_sep rfl _ _ 24 rfl w.heap.size 3 i0 (.int .i64 0) Try.underlying24 hi hz0 hz1 hz2 rfl ga k ca (srt.rowV k (qq t xs)) rfl (HO.out.alloc _) ⟨wr.heap.size, 0, none⟩ 1 (.int .i64 ((T * x0).tdiv S)) rfl ?c1 rfl (by omega) ?c5 ?_)
        case c1 => simp [Addr.add]
        case c5 => have := hb.size; simp; omega
        intro g1 c1 w4 hown hgrow hsep
        have HO4 := Lib.hid hown
        have hb4 : Below w.heap.size w w4 := (hb.alloc hb.size _).grown hgrow (by have := hb.size; simp; omega) (fun j hj => by cases hj; exact (HO.out.lt ga rfl).1)
        have HR4 := Lib.hid ((HR.out.alloc (.cells #[.int .i64 ((T * x0).tdiv S)] 3)).kept hgrow (Or.inr (by simp [Value.ownBlock]; omega)))
        have hg14 : g1 ≠ gb := by
          rcases hsep with e | e
          · omega
          · first | omega | (simp at e; omega)
        clear hown hgrow hsep
        go_wp2_with (at_builtin; refine wpList_append_sep rfl _ _ 24 rfl w.heap.size 3 i0 (.int .i64 0) Try.underlying24 hi hz0 hz1 hz2 rfl gb k cb (srt.rowV k (cc t xs)) rfl (HR4.out.alloc _) ⟨w4.heap.size, 0, none⟩ 1 (.int .i64 (T * x0 % S)) rfl ?c1' rfl (by omega) ?c5' ?_)
        case c1' => simp [Addr.add]
        case c5' => have := hb4.size; simp; omega
        intro g2 c2 w5 hown hgrow hsep
        have HR5 := Lib.hid hown
        have hg1b := (HO4.out.lt g1 rfl).2
        have hb5 : Below w.heap.size w w5 := (hb4.alloc hb4.size _).grown hgrow (by have := hb4.size; simp; omega) (fun j hj => by cases hj; exact (HR.out.lt gb rfl).1)
        have HO5 := Lib.hid ((HO4.out.alloc (.cells #[.int .i64 (T * x0 % S)] 3)).kept hgrow (Or.inr (by simp [Value.ownBlock]; omega)))
        have hg12 : g1 ≠ g2 := by
          rcases hsep with e | e
          · omega
          · first | omega | (simp at e; omega)
        clear hown hgrow hsep HO4 HR4
        have HO6 : Hid (w5.ownsRow w.heap.size 3 1 (.slice (some ⟨g1, 0, none⟩) (k + 1) c1) (k + 1) (srt.rowV (k + 1) (qq t xs))) := Lib.hid (by rw [← rowV_succ, HQ1.out]; exact HO5.out)
        have HR6 : Hid (w5.ownsRow w.heap.size 3 1 (.slice (some ⟨g2, 0, none⟩) (k + 1) c2) (k + 1) (srt.rowV (k + 1) (cc t xs))) := Lib.hid (by rw [← rowV_succ, HQ2.out]; exact HR5.out)
        clear HO5 HR5
        go_wp2
        go_roundw
        case rel => exact ⟨k + 1, g1, g2, c1, c2, by omega, by go_num, rfl, rfl, hg12, congrArg (Value.int .i64) (by rw [← HSF.out, HQ1.out]; omega), HO6, HR6, hb5⟩
        case measure => simp [intOf]; omega
      · obtain rfl : k = xs.length := by omega
        obtain ⟨L, hL⟩ : ∃ L, (LL t xs).toNat = L := ⟨_, rfl⟩
        have hln := HLN.out
        rw [hL] at hln
        have hLn : L ≤ xs.length := hln.2
        have HLE : Hid (T - sumF xs.length (qq t xs) = (L : Int) - ((0 : Nat) : Int)) := Lib.hid (by rw [← HLL.out]; omega)
        rw [hL] at HLRF
        have HGB : Hid (∀ j, j ≤ L → ∀ k, 0 ≤ (stp xs.length (qq t xs, cc t xs) j).1 k ∧ (stp xs.length (qq t xs, cc t xs) j).1 k ≤ 1000000001) := Lib.hid (fun j hj k => by
          obtain ⟨al, g⟩ := greedy (q := qq t xs) (c := cc t xs) (n := xs.length) (fun k _ => (qc HA.out k).2.1) j (by omega)
          rw [g.out]
          have h1 := HQB.out k
          have h2 := g.bit k
          omega)
        clear hL hln HLN HLL hsum HQ HQB
        go_wp2_with fail
        go_loopw [10] (fun l wr => ∃ j : Nat, j ≤ L ∧ l = .int .i64 ((L : Int) - (j : Int)) ∧ Hid (wr.ownsRow w.heap.size 3 1 (.slice (some ⟨ga, 0, none⟩) xs.length ca) xs.length (srt.rowV xs.length (stp xs.length (qq t xs, cc t xs) j).1)) ∧ Hid (wr.ownsRow w.heap.size 3 1 (.slice (some ⟨gb, 0, none⟩) xs.length cb) xs.length (srt.rowV xs.length (stp xs.length (qq t xs, cc t xs) j).2)) ∧ Below w.heap.size w wr) (fun l _ => (intOf l).toNat)
        case atStart => exact ⟨0, Nat.zero_le _, congrArg (Value.int .i64) HLE.out, HO, HR, hb⟩
        case round =>
          obtain ⟨j, hj, rfl, HO, HR, hb⟩ := hrel
          have hob := HGB.out j hj
          by_cases hjl : j < L
          · have hjz : decide (0 < (L : Int) - (j : Int)) = true := decide_eq_true (by omega)
            have HS1 : Hid ((stp xs.length (qq t xs, cc t xs) (j + 1)).1 = upd (stp xs.length (qq t xs, cc t xs) j).1 (bestTo (stp xs.length (qq t xs, cc t xs) j).2 (xs.length - 1)) ((stp xs.length (qq t xs, cc t xs) j).1 (bestTo (stp xs.length (qq t xs, cc t xs) j).2 (xs.length - 1)) + 1)) := Lib.hid rfl
            have HS2 : Hid ((stp xs.length (qq t xs, cc t xs) (j + 1)).2 = upd (stp xs.length (qq t xs, cc t xs) j).2 (bestTo (stp xs.length (qq t xs, cc t xs) j).2 (xs.length - 1)) (-1)) := Lib.hid rfl
            generalize (stp xs.length (qq t xs, cc t xs) j).1 = so at *
            generalize (stp xs.length (qq t xs, cc t xs) j).2 = sr at *
            go_wp2_with fail
            go_loopw [13, 14] (fun x i wr => ∃ q : Nat, q + 1 ≤ xs.length ∧ x = .int .i64 (bestTo sr q : Nat) ∧ i = .int .i64 ((q : Int) + 1) ∧ Hid (wr.ownsRow w.heap.size 3 1 (.slice (some ⟨ga, 0, none⟩) xs.length ca) xs.length (srt.rowV xs.length so)) ∧ Hid (wr.ownsRow w.heap.size 3 1 (.slice (some ⟨gb, 0, none⟩) xs.length cb) xs.length (srt.rowV xs.length sr)) ∧ Below w.heap.size w wr) (fun _ i _ => xs.length - (intOf i).toNat)
            case atStart => exact ⟨0, by omega, rfl, rfl, HO, HR, hb⟩
            case round =>
              obtain ⟨q, hq, rfl, rfl, HO, HR, hb⟩ := hrel
              have hbq := bestTo_le sr q
              by_cases hqn : q + 1 < xs.length
              · have c1 : wr.cell? ⟨gb, q + 1, none⟩ = some (.int .i64 (sr (q + 1))) := by rw [HR.out.cellAt (q + 1) (by omega), srt.rowV_at hqn]
                have c2 : wr.cell? ⟨gb, bestTo sr q, none⟩ = some (.int .i64 (sr (bestTo sr q))) := by rw [HR.out.cellAt (bestTo sr q) (by omega), srt.rowV_at (by omega)]
                by_cases hgt : sr (bestTo sr q) < sr (q + 1)
                · have e1 : decide (sr (bestTo sr q) < sr (q + 1)) = true := decide_eq_true hgt
                  have HB := Lib.hid (bestTo_yes hgt)
                  clear hgt
                  generalize bestTo sr q = bq at *
                  generalize sr (q + 1) = x1 at *
                  generalize sr bq = x2 at *
                  go_wp2_with fail
                  go_quiet (fail)
                  go_wp2
                  go_roundw
                  case rel => exact ⟨q + 1, by omega, by rw [HB.out]; go_num, by go_num, Lib.hid (kept_below HO.out (below_drewN (Below.refl _ _) _)), Lib.hid (kept_below HR.out (below_drewN (Below.refl _ _) _)), below_drewN hb _⟩
                  case measure => simp [intOf]; omega
                · have e1 : decide (sr (bestTo sr q) < sr (q + 1)) = false := decide_eq_false hgt
                  have HB := Lib.hid (bestTo_no hgt)
                  clear hgt
                  generalize bestTo sr q = bq at *
                  generalize sr (q + 1) = x1 at *
                  generalize sr bq = x2 at *
                  go_wp2_with fail
                  go_quiet (fail)
                  go_wp2
                  go_roundw
                  case rel => exact ⟨q + 1, by omega, by rw [HB.out], by go_num, Lib.hid (kept_below HO.out (below_drewN (Below.refl _ _) _)), Lib.hid (kept_below HR.out (below_drewN (Below.refl _ _) _)), below_drewN hb _⟩
                  case measure => simp [intOf]; omega
              · have hqe : xs.length - 1 = q := by omega
                rw [hqe] at HS1 HS2
                have hobq := hob (bestTo sr q)
                have hbn : bestTo sr q < xs.length := by omega
                have hcl : ∃ u, wr.cell? ⟨gb, bestTo sr q, none⟩ = some u := ⟨_, by rw [HR.out.cellAt (bestTo sr q) (by omega), srt.rowV_at hbn]⟩
                obtain ⟨u, hu⟩ := hcl
                have hfz := HR.out.frozenAt (bestTo sr q)
                have hst := HR.out.stored (bestTo sr q) (.int .i64 (-1))
                have HO2 := Lib.hid (ownsRow_setCell_other HO.out (a := ⟨gb, bestTo sr q, none⟩) (by simp [Value.ownBlock]; omega) (.int .i64 (-1)))
                have B5 := Lib.hid (runs_below (bt := gb) (i := bestTo sr q) (x := .int .i64 (-1)) hb (HR.out.lt gb rfl).1)
                rw [rowV_upd hbn, ← HS2.out] at hst
                have HST := Lib.hid hst.1
                clear hst hqe
                have c3 : (wr.setCell ⟨gb, bestTo sr q, none⟩ (.int .i64 (-1))).cell? ⟨ga, bestTo sr q, none⟩ = some (.int .i64 (so (bestTo sr q))) := by rw [HO2.out.cellAt (bestTo sr q) (by omega), srt.rowV_at hbn]
                have hfz2 := HO2.out.frozenAt (bestTo sr q)
                have hst := HO2.out.stored (bestTo sr q) (.int .i64 (so (bestTo sr q) + 1))
                rw [rowV_upd hbn, ← HS1.out] at hst
                have HST1 := Lib.hid hst.1
                have HST2 := Lib.hid (ownsRow_setCell_other HST.out (a := ⟨ga, bestTo sr q, none⟩) (by simp [Value.ownBlock]; omega) (.int .i64 (so (bestTo sr q) + 1)))
                have B6 := Lib.hid (runs_below (bt := ga) (i := bestTo sr q) (x := .int .i64 (so (bestTo sr q) + 1)) B5.out (HO.out.lt ga rfl).1)
                clear hst HST HO2 B5
                generalize so (bestTo sr q) = x1 at *
                generalize bestTo sr q = bq at *
                go_wp2
                go_roundw
                case rel => exact ⟨j + 1, by omega, congrArg (Value.int .i64) (by omega), HST1, HST2, B6.out⟩
                case measure => simp [intOf]; omega
          · obtain rfl : j = L := by omega
            have hjz : decide (0 < (j : Int) - (j : Int)) = false := decide_eq_false (by omega)
            generalize (stp xs.length (qq t xs, cc t xs) j).1 = so at *
            go_wp2_with fail
            go_loopw [15] (fun i wr => ∃ k : Nat, k ≤ xs.length ∧ i = .int .i64 k ∧ Hid (wr.ownsRow w.heap.size 3 1 (.slice (some ⟨ga, 0, none⟩) xs.length ca) xs.length (srt.rowV xs.length (mixF k (lrF t xs) so))) ∧ Below w.heap.size w wr) (fun i _ => xs.length - (intOf i).toNat)
            case atStart => exact ⟨0, Nat.zero_le _, rfl, Lib.hid (by rw [mixF_zero]; exact HO.out), hb⟩
            case round =>
              obtain ⟨k, hk, rfl, HO, hb⟩ := hrel
              by_cases hkn : k < xs.length
              · have c1 : wr.cell? ⟨ga, k, none⟩ = some (.int .i64 (so k)) := by rw [HO.out.cellAt k (by omega), srt.rowV_at hkn, mixF_at]
                have hfz := HO.out.frozenAt k
                have hst := HO.out.stored k (.int .i64 (sg * so k))
                rw [rowV_upd hkn, ← HLRF.out k, mixF_succ, HLRF.out k] at hst
                have HST := Lib.hid hst.1
                have B5 := Lib.hid (runs_below (bt := ga) (i := k) (x := .int .i64 (sg * so k)) hb (HO.out.lt ga rfl).1)
                have hok := hob k
                have hpb : -2000000000 ≤ sg * so k ∧ sg * so k ≤ 2000000000 := by rcases hsgb with e | e <;> rw [e] <;> omega
                clear hst
                generalize so k = x1 at *
                go_wp2
                go_roundw
                case rel => exact ⟨k + 1, by omega, by go_num, HST, B5.out⟩
                case measure => simp [intOf]; omega
              · obtain rfl : k = xs.length := by omega
                have HI : Hid (Ints wr (.slice (some ⟨ga, 0, none⟩) xs.length ca) (lrL t xs)) := Lib.hid (ints_of_row (by rw [lrL_length]) (by rw [← lrL_row, ← mixF_all (n := xs.length) (lrF t xs) so]; exact HO.out))
                go_wp2
                go_ret2
                exact ⟨_, rfl, HI.out, hb⟩
end Go.Proofs.Ytgdoahdkidlndaa
