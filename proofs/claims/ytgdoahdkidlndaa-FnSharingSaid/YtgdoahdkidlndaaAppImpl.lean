/-
  Apportion: the program's.
-/
import Derived.Test.YtgdoahdkidlndaaRows
import Derived.Test.YtgdoahdkidlndaaInts
import Derived.Test.YtgdoahdkidlndaaIntsTo
import Derived.Test.YtgdoahdkidlndaaShareLib
import Derived.Test.YtgdoahdkidlndaaUpToLib
import Derived.Test.YtgdoahdkidlndaaAppLib
import Derived.Test.YtgdoahdkidlndaaAppSpec
import Derived.Test.YtgdoahdkidlndaaUpTo
import Derived.Test.YtgdoahdkidlndaaRunning
import Derived.Test.YtgdoahdkidlndaaHold
import Derived.WalkKit
import Derived.WalkSpells
import Derived.WalkSmall
import Derived.OneCell
import Derived.Lib.Hide
namespace Go.Proofs.Ytgdoahdkidlndaa
open Go.RowKit

theorem own_rebase {w : World} {base base' e : Nat} {v : Value} {n : Nat} {xs : List Value} (h : w.ownsRow base e 1 v n xs) (hle : base' ≤ base) : w.ownsRow base' e 1 v n xs :=
  ⟨h.1, h.2.imp id (fun ⟨g, cap, cur, hv, hb, r⟩ => ⟨g, cap, cur, hv, Nat.le_trans hle hb, r⟩)⟩
theorem own_none (w : World) (base e : Nat) : w.ownsRow base e 1 (.slice none 0 0) 0 [] := ⟨rfl, Or.inl ⟨rfl, rfl⟩⟩

set_option maxRecDepth 100000 in
set_option maxHeartbeats 400000 in
theorem impl_app_no (t : Int) (v : Value) (xs : List Int) (w : World) (h : Ints w v xs) (hm : xs.length ≤ 1048577) (hno : ¬CanS t xs) :
    Calls Try.prog 12 #[.int .i64 t, v] w (ListOwn [] false w) := by
  have H := Lib.hid h
  have HD : Hid (decide (CanS t xs) = false) := Lib.hid (decide_eq_false hno)
  obtain ⟨a, c, rfl⟩ := h.slice
  clear h hno
  go_enter Try.func12, Try.ntmps12
  go_wp2_with fail
  refine (impl_canShare t _ xs _ H.out hm).mono ?_
  rintro e w1 ⟨rfl, hb⟩
  rw [HD.out]
  go_wp2
  go_ret2
  exact ⟨_, rfl, own_none _ _ _, hb⟩

theorem Runs.setOther {w : World} {bt b0 bs : Nat} {s t S : Int} (h : Runs w bt b0 bs s t S) {g i : Nat} (hg : bt < g) (x : Value) : Runs (w.setCell ⟨g, i, none⟩ x) bt b0 bs s t S :=
  ⟨(Below.heap_setCell _ _ _ _ (by simp; omega)).trans h.tk, (Below.heap_setCell _ _ _ _ (by have := h.lt0; simp; omega)).trans h.to, (Below.heap_setCell _ _ _ _ (by have := h.lt1; simp; omega)).trans h.su, h.lt0, h.lt1⟩

theorem appL_get {t : Int} {ws : List Int} {k : Nat} (h : k < ws.length) : (appL t ws)[k]'(by rw [appL_length]; exact h) = share t ws (k + 1) - share t ws k := by
  have := appL_at (t := t) h
  rw [List.getElem?_eq_getElem (by rw [appL_length]; exact h)] at this
  exact Option.some.inj this
theorem appL_half {t : Int} {ws : List Int} {k : Nat} (h : k < ws.length) : (halfI (appL t ws) k).set k (.int .i64 (share t ws (k + 1) - share t ws k)) = halfI (appL t ws) (k + 1) := by
  rw [← halfI_succ (appL t ws) (by rw [appL_length]; exact h), appL_get h]

set_option maxRecDepth 100000 in
set_option maxHeartbeats 1000000 in
theorem impl_app_yes (t : Int) (v : Value) (xs : List Int) (w : World) (h : Ints w v xs) (hc : CanS t xs) :
    Calls Try.prog 12 #[.int .i64 t, v] w (ListOwn (appL t xs) true w) := by
  obtain ⟨i0, hi, hz0, hz1, hz2⟩ := info_parts infoInt
  have hA := hc.2.2
  have HD : Hid (decide (CanS t xs) = true) := Lib.hid (decide_eq_true hc)
  have h40 := hA.1
  have H := Lib.hid h
  obtain ⟨b, o, c, rfl, hlc, hcell⟩ := ints_some h hA.pos
  have HC := Lib.hid hcell
  have HCS := Lib.hid hc
  have HA := Lib.hid hA
  have HL := Lib.hid (appL_length t xs)
  clear h hcell hc hA
  go_enter Try.func12, Try.ntmps12
  go_wp2_with fail
  refine (impl_canShare t _ xs _ H.out (by omega)).mono ?_
  rintro e w1 ⟨rfl, hb⟩
  rw [HD.out]
  have B1 := Lib.hid hb
  clear hb
  go_wp2_with fail
  refine (impl_running t _ xs _ (H.out.below B1.out) HA.out).mono ?_
  rintro e w2 ⟨bt, b0, bs, rfl, hR, hg0, hgs, hgt, hb⟩
  have HR := Lib.hid hR
  have B2 := Lib.hid (B1.out.trans (hb.mono B1.out.size))
  have hbt : w.heap.size ≤ bt := by have := hR.lt0; have := B1.out.size; omega
  clear hb hR hg0 hgs
  unfold runV
  go_wp2_with (at_make; refine wpList_make_full _ rfl _ _ 24 rfl w2.heap.size 3 i0 (.int .i64 0) 1 Try.underlying24 hi hz0 hz1 _ _ _ _ xs.length rfl rfl rfl rfl (by rw [hz2]; omega) (by unfold maxLen; omega) (Nat.le_refl _) ?_)
  intro w3 hown0 hgrow0
  have HB3 : Hid (Below w2.heap.size w2 w3) := Lib.hid ((Below.refl _ _).grown hgrow0 (Nat.le_refl _) (fun k h => by cases h))
  have B3 := Lib.hid (B2.out.trans (HB3.out.mono B2.out.size))
  have HR3 := Lib.hid (HR.out.below HB3.out)
  have HO3 : Hid (w3.ownsRow (bt + 1) 3 1 (.slice (some ⟨bt + 1, 0, none⟩) xs.length xs.length) xs.length (halfI (appL t xs) 0)) := Lib.hid (by
    rw [halfI_zero, HL.out]; simpa [toList_madeCells_one, Value.cells, hgt] using hown0)
  clear hown0 hgrow0 HB3 HR
  go_wp2
  go_loopw [8, 24] (fun s i wr => ∃ k : Nat, k ≤ xs.length ∧ i = .int .i64 k ∧ s = .int .i64 (share t xs k) ∧ Hid (Runs wr bt b0 bs (sumL (xs.take k)) t (sumL xs)) ∧ Hid (wr.ownsRow (bt + 1) 3 1 (.slice (some ⟨bt + 1, 0, none⟩) xs.length xs.length) xs.length (halfI (appL t xs) k)) ∧ Below w.heap.size w wr) (fun _ i _ => xs.length - (intOf i).toNat)
  case atStart => exact ⟨0, Nat.zero_le _, rfl, by rw [share_zero], HR3, HO3, B3.out⟩
  case round =>
    obtain ⟨k, hk, rfl, rfl, hR, hown, hb⟩ := hrel
    by_cases hlt : k < xs.length
    · have hck : wr.cell? ⟨b, o + k, none⟩ = some (.int .i64 (xs[k]'hlt)) := (hb.cell (p := ⟨b, o + k, none⟩) HC.out.1).trans (HC.out.at k hlt)
      have hw1 := HA.out.at hlt
      have hp := HA.out.part k
      have hp1 := HA.out.part (k + 1)
      rw [sumL_take_succ hlt] at hp1
      have HN := Lib.hid (sumL_take_succ hlt)
      have HST := Lib.hid (share_step (t := t) hlt)
      have hT := HA.out.total
      have hs0 := share_bound HCS.out k
      have hs1 := share_bound HCS.out (k + 1)
      go_wp2_with fail
      refine (run_call _ _ t (sumL xs) bt b0 bs _ hR.out hp.1 hw1.1 hw1.2 hp1.2 hT.1 HCS.out.1 HCS.out.2.1).mono ?_
      rintro e w4 ⟨rfl, rfl⟩
      have HR4 : Hid (Runs (wr.setCell ⟨bt, 0, none⟩ (.int .i64 (sumL (xs.take k) + xs[k]'hlt))) bt b0 bs (sumL (xs.take (k + 1))) t (sumL xs)) := Lib.hid (by rw [HN.out]; exact hR.out.set _)
      have B4 := Lib.hid (runs_below (i := 0) (x := .int .i64 (sumL (xs.take k) + xs[k]'hlt)) hb hbt)
      have HO4 := Lib.hid (ownsRow_setCell_other hown.out (a := ⟨bt, 0, none⟩) (by simp [Value.ownBlock]) (.int .i64 (sumL (xs.take k) + xs[k]'hlt)))
      rw [HST.out]
      generalize wr.setCell ⟨bt, 0, none⟩ (.int .i64 (sumL (xs.take k) + xs[k]'hlt)) = w5 at *
      have HH := Lib.hid (appL_half (t := t) hlt)
      have hfz := HO4.out.frozenAt k
      have hcl : ∃ u, w5.cell? ⟨bt + 1, k, none⟩ = some u := by
        rw [HO4.out.cellAt k (by omega)]
        exact ⟨_, List.getElem?_eq_getElem (by simp [halfI, HL.out]; omega)⟩
      obtain ⟨u, hu⟩ := hcl
      have hst := HO4.out.stored k (.int .i64 (share t xs (k + 1) - share t xs k))
      rw [HH.out] at hst
      have HST2 := Lib.hid hst
      have HR5 := Lib.hid (HR4.out.setOther (g := bt + 1) (i := k) (by omega) (.int .i64 (share t xs (k + 1) - share t xs k)))
      have B5 := Lib.hid (runs_below (bt := bt + 1) (i := k) (x := .int .i64 (share t xs (k + 1) - share t xs k)) B4.out (by omega))
      clear hst
      go_wp2
      go_roundw
      case rel => exact ⟨k + 1, by omega, by go_num, rfl, HR5, Lib.hid HST2.out.1, B5.out⟩
      case measure => simp [intOf]; omega
    · obtain rfl : k = xs.length := by omega
      have HF := Lib.hid (halfI_all (appL t xs) (k := xs.length) (by rw [HL.out]; exact Nat.le_refl _))
      go_wp2
      go_ret2
      exact ⟨_, rfl, by rw [HL.out, ← HF.out]; exact own_rebase hown.out (by omega), hb⟩
end Go.Proofs.Ytgdoahdkidlndaa
