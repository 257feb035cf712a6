/-
  The program's running share: what runningShare hands back, what a call of that does, and ShareUpTo.
-/
import Derived.Test.YtgdoahdkidlndaaRows
import Derived.Test.YtgdoahdkidlndaaInts
import Derived.Test.YtgdoahdkidlndaaShareLib
import Derived.Test.YtgdoahdkidlndaaUpToLib
import Derived.Test.YtgdoahdkidlndaaSums
import Derived.Test.YtgdoahdkidlndaaAreW
import Derived.Test.YtgdoahdkidlndaaUpTo
import Derived.Test.YtgdoahdkidlndaaHold
import Derived.WalkKit
import Derived.WalkSpells
import Derived.WalkSmall
import Derived.BigQuiet
import Derived.OneCell
import Derived.Deep.QuietTactic
import Derived.Lib.Hide
namespace Go.Proofs.Ytgdoahdkidlndaa
open Go.RowKit

/-- The variables of a running share: what has been taken, the total, the sum; the first of them was made last. -/
structure Runs (w : World) (bt b0 bs : Nat) (s t S : Int) : Prop where
  tk : w.heap[bt]? = some (.cells #[.int .i64 s] 3 (0, 0))
  to : w.heap[b0]? = some (.cells #[.int .i64 t] 3 (0, 0))
  su : w.heap[bs]? = some (.cells #[.int .i64 S] 3 (0, 0))
  lt0 : b0 < bt
  lt1 : bs < bt

theorem Runs.below {w w' : World} {bt b0 bs : Nat} {s t S : Int} (h : Runs w bt b0 bs s t S) (hb : Below w.heap.size w w') : Runs w' bt b0 bs s t S :=
  ⟨blk_below h.tk hb, blk_below h.to hb, blk_below h.su hb, h.lt0, h.lt1⟩
theorem Runs.set {w : World} {bt b0 bs : Nat} {s t S : Int} (h : Runs w bt b0 bs s t S) (x : Int) : Runs (w.setCell ⟨bt, 0, none⟩ (.int .i64 x)) bt b0 bs x t S :=
  ⟨one_setCell h.tk, (Below.heap_setCell _ _ _ _ (by have := h.lt0; simp; omega)).trans h.to, (Below.heap_setCell _ _ _ _ (by have := h.lt1; simp; omega)).trans h.su, h.lt0, h.lt1⟩

/-- The function value. -/
def runV (bt b0 bs : Nat) : Value := .func (.func 44) #[] #[.pointer (some ⟨bt, 0, none⟩), .pointer (some ⟨b0, 0, none⟩), .pointer (some ⟨bs, 0, none⟩)]

set_option maxRecDepth 100000 in
set_option maxHeartbeats 400000 in
/-- A call takes a weight more. -/
theorem run_call (x s t S : Int) (bt b0 bs : Nat) (w : World) (h : Runs w bt b0 bs s t S) (hs : 0 ≤ s) (hx : 0 ≤ x) (hx1 : x ≤ 1000000) (hsx : s + x ≤ 40000000) (hS : 0 < S) (ht0 : -1000000000 ≤ t) (ht1 : t ≤ 1000000000) :
    Calls Try.prog 44 #[.int .i64 x, .pointer (some ⟨bt, 0, none⟩), .pointer (some ⟨b0, 0, none⟩), .pointer (some ⟨bs, 0, none⟩)] w
      fun e w' => e = .returned (.int .i64 ((t * (s + x)).tdiv S)) ∧ w' = w.setCell ⟨bt, 0, none⟩ (.int .i64 (s + x)) := by
  have c0 := cell_of_one h.tk
  have f0 := free_of_one h.tk
  have h2 := h.set (s + x)
  have d0 := cell_of_one h2.tk
  have d1 := cell_of_one h2.to
  have d2 := cell_of_one h2.su
  have hm := mulB (a := t) (b := s + x) (A := 1000000000) (B := 40000000) ht0 ht1 (by omega) hsx
  have hSne : S ≠ 0 := by omega
  clear h h2
  go_enter Try.func44, Try.ntmps44
  go_wp2
  go_ret
  exact ⟨rfl, rfl⟩

set_option maxRecDepth 100000 in
set_option maxHeartbeats 400000 in
theorem impl_running (t : Int) (v : Value) (xs : List Int) (w : World) (h : Ints w v xs) (hA : AreW xs) :
    Calls Try.prog 32 #[.int .i64 t, v] w fun e w' => ∃ bt b0 bs, e = .returned (runV bt b0 bs) ∧ Runs w' bt b0 bs 0 t (sumL xs) ∧ w.heap.size ≤ b0 ∧ w.heap.size ≤ bs ∧ w'.heap.size = bt + 1 ∧ Below w.heap.size w w' := by
  have hk : Ints (w.alloc (.cells #[.int .i64 t] 3)) v xs := h.below ((Below.refl w.heap.size w).alloc (Nat.le_refl _) _)
  obtain ⟨a, c, rfl⟩ := h.slice
  clear h
  go_enter Try.func32, Try.ntmps32
  go_wp2_with fail
  refine (impl_sumOf _ xs _ hk (by have := hA.1; omega) (AreW.ok hA.1 hA.2.1)).mono ?_
  rintro e w1 ⟨rfl, hb⟩
  have B1 := Lib.hid hb
  clear hb hk
  go_wp2
  go_ret
  have hz : w.heap.size < w1.heap.size := by have := B1.out.size; simp at this; omega
  have h0 : w1.heap[w.heap.size]? = some (.cells #[.int .i64 t] 3 (0, 0)) := blk_below (heap_alloc_new w _) B1.out
  refine ⟨_, _, _, rfl, ⟨?_, ?_, ?_, ?_, ?_⟩, Nat.le_refl _, Nat.le_of_lt hz, by simp, ?_⟩
  · have := heap_alloc_new (w1.alloc (.cells #[.int .i64 (sumL xs)] 3)) (.cells #[.int .i64 0] 3)
    rw [show (w1.alloc (.cells #[.int .i64 (sumL xs)] 3)).heap.size = w1.heap.size + 1 from by simp] at this
    exact this
  · exact blk_alloc (blk_alloc h0 _) _
  · exact blk_alloc (heap_alloc_new w1 _) _
  · omega
  · omega
  · exact ((((Below.refl _ _).alloc (Nat.le_refl _) _).trans (B1.out.mono (by simp))).alloc (by omega) _).alloc (by simp; omega) _

theorem share_step {t : Int} {xs : List Int} {j : Nat} (hj : j < xs.length) : (t * (sumL (xs.take j) + xs[j]'hj)).tdiv (sumL xs) = share t xs (j + 1) := by
  unfold share
  rw [sumL_take_succ hj]

theorem runs_below {w wr : World} {bt i : Nat} {x : Value} (hb : Below w.heap.size w wr) (h : w.heap.size ≤ bt) : Below w.heap.size w (wr.setCell ⟨bt, i, none⟩ x) := hb.setCell h _

set_option maxRecDepth 100000 in
set_option maxHeartbeats 1000000 in
theorem impl_upTo_no (t : Int) (v : Value) (xs : List Int) (k : Int) (w : World) (h : Ints w v xs) (hm : xs.length ≤ 1048577) (hno : ¬UpOk t xs k) :
    Calls Try.prog 15 #[.int .i64 t, v, .int .i64 k] w (PairRes 0 false w) := by
  have H := Lib.hid h
  obtain ⟨a, c, rfl⟩ := h.slice
  clear h
  by_cases hC : CanS t xs
  · have HD : Hid (decide (CanS t xs) = true) := Lib.hid (decide_eq_true hC)
    by_cases h0 : k < 0
    · have e0 : decide (k < 0) = true := decide_eq_true h0
      clear hC hno
      go_enter Try.func15, Try.ntmps15
      go_wp2_with fail
      refine (impl_canShare t _ xs _ H.out hm).mono ?_
      rintro e w1 ⟨rfl, hb⟩
      rw [HD.out]
      go_wp2
      go_ret2
      exact ⟨rfl, hb⟩
    · have h1 : (xs.length : Int) < k := by
        have : ¬(0 ≤ k ∧ k ≤ (xs.length : Int)) := fun hk => hno ⟨hC, hk.1, hk.2⟩
        omega
      have e0 : decide (k < 0) = false := decide_eq_false h0
      have e1 : decide ((xs.length : Int) < k) = true := decide_eq_true h1
      clear hC hno
      go_enter Try.func15, Try.ntmps15
      go_wp2_with fail
      refine (impl_canShare t _ xs _ H.out hm).mono ?_
      rintro e w1 ⟨rfl, hb⟩
      rw [HD.out]
      go_wp2
      go_ret2
      exact ⟨rfl, hb⟩
  · have HD : Hid (decide (CanS t xs) = false) := Lib.hid (decide_eq_false hC)
    clear hC hno
    go_enter Try.func15, Try.ntmps15
    go_wp2_with fail
    refine (impl_canShare t _ xs _ H.out hm).mono ?_
    rintro e w1 ⟨rfl, hb⟩
    rw [HD.out]
    go_wp2
    go_ret2
    exact ⟨rfl, hb⟩

set_option maxRecDepth 100000 in
set_option maxHeartbeats 1000000 in
theorem impl_upTo_yes (t : Int) (v : Value) (xs : List Int) (k : Nat) (w : World) (h : Ints w v xs) (hc : CanS t xs) (hk : k ≤ xs.length) :
    Calls Try.prog 15 #[.int .i64 t, v, .int .i64 (k : Int)] w (PairRes (share t xs k) true w) := by
  have hA := hc.2.2
  have HD : Hid (decide (CanS t xs) = true) := Lib.hid (decide_eq_true hc)
  have h40 := hA.1
  have H := Lib.hid h
  obtain ⟨b, o, c, rfl, hlc, hcell⟩ := ints_some h hA.pos
  have HC := Lib.hid hcell
  have HCS := Lib.hid hc
  have e0 : decide ((k : Int) < 0) = false := decide_eq_false (by omega)
  have e1 : decide ((xs.length : Int) < (k : Int)) = false := decide_eq_false (by omega)
  clear h hcell hc
  have HA := Lib.hid hA
  clear hA
  go_enter Try.func15, Try.ntmps15
  go_wp2_with fail
  refine (impl_canShare t _ xs _ H.out (by omega)).mono ?_
  rintro e w1 ⟨rfl, hb⟩
  rw [HD.out]
  have B1 := Lib.hid hb
  clear hb
  go_wp2_with fail
  refine (impl_running t _ xs _ (H.out.below B1.out) HA.out).mono ?_
  rintro e w2 ⟨bt, b0, bs, rfl, hR, hg0, hgs, hgt, hb⟩
  have HR := Lib.hid hR
  have B2 := Lib.hid (B1.out.trans (hb.mono B1.out.size))
  have hbt : w.heap.size ≤ bt := by have := hR.lt0; have := B1.out.size; omega
  clear hb hR hg0 hgs hgt
  unfold runV
  go_wp2_with fail
  go_loopw [9, 33] (fun s i wr => ∃ j : Nat, j ≤ k ∧ i = .int .i64 j ∧ s = .int .i64 (share t xs j) ∧ Hid (Runs wr bt b0 bs (sumL (xs.take j)) t (sumL xs)) ∧ Below w.heap.size w wr) (fun _ i _ => k - (intOf i).toNat)
  case atStart => exact ⟨0, Nat.zero_le _, rfl, by rw [share_zero], HR, B2.out⟩
  case round =>
    obtain ⟨j, hj, rfl, rfl, hR, hb⟩ := hrel
    by_cases hlt : j < k
    · have hjx : j < xs.length := by omega
      have hck : wr.cell? ⟨b, o + j, none⟩ = some (.int .i64 (xs[j]'hjx)) := (hb.cell (p := ⟨b, o + j, none⟩) HC.out.1).trans (HC.out.at j hjx)
      have hw1 := HA.out.at hjx
      have hp := HA.out.part j
      have hp1 := HA.out.part (j + 1)
      rw [sumL_take_succ hjx] at hp1
      have HN := Lib.hid (sumL_take_succ hjx)
      have HST := Lib.hid (share_step (t := t) hjx)
      have hT := HA.out.total
      go_wp2_with fail
      refine (run_call _ _ t (sumL xs) bt b0 bs _ hR.out hp.1 hw1.1 hw1.2 hp1.2 hT.1 HCS.out.1 HCS.out.2.1).mono ?_
      rintro e w3 ⟨rfl, rfl⟩
      have HR3 : Hid (Runs (wr.setCell ⟨bt, 0, none⟩ (.int .i64 (sumL (xs.take j) + xs[j]'hjx))) bt b0 bs (sumL (xs.take (j + 1))) t (sumL xs)) := Lib.hid (by rw [HN.out]; exact hR.out.set _)
      have B3 := Lib.hid (runs_below (i := 0) (x := .int .i64 (sumL (xs.take j) + xs[j]'hjx)) hb hbt)
      rw [HST.out]
      generalize wr.setCell ⟨bt, 0, none⟩ (.int .i64 (sumL (xs.take j) + xs[j]'hjx)) = w4 at *
      go_wp2
      go_roundw
      case rel => exact ⟨j + 1, by omega, by go_num, rfl, HR3, B3.out⟩
      case measure => simp [intOf]; omega
    · obtain rfl : j = k := by omega
      go_wp2
      go_ret2
      exact ⟨rfl, hb⟩
end Go.Proofs.Ytgdoahdkidlndaa
