/-
  ShareUpTo: the model's and the program's, with the running share that it hands from weight to weight.
-/
import Derived.Test.YtgdoahdkidlndaaRows
import Derived.Test.YtgdoahdkidlndaaInts
import Derived.Test.YtgdoahdkidlndaaShareLib
import Derived.Test.YtgdoahdkidlndaaUpToLib
import Derived.Test.YtgdoahdkidlndaaSums
import Derived.Test.YtgdoahdkidlndaaAreW
import Derived.Test.YtgdoahdkidlndaaHold
import Derived.WalkKit
import Derived.WalkSpells
import Derived.WalkSmall
import Derived.BigQuiet
import Derived.OneCell
import Derived.Deep.QuietTactic
import Derived.Lib.Hide
namespace Go.Proofs.Ytgdoahdkidlndaa
open Go.RowKit

theorem areW_yes {xs : List Int} (h : AreW xs) : decide (AreW xs) = true := decide_eq_true h
theorem areW_no {xs : List Int} (h : ¬AreW xs) : decide (AreW xs) = false := decide_eq_false h

set_option maxRecDepth 100000 in
set_option maxHeartbeats 400000 in
theorem impl_canShare (t : Int) (v : Value) (xs : List Int) (w : World) (h : Ints w v xs) (hm : xs.length ≤ 1048577) :
    Calls Try.prog 31 #[.int .i64 t, v] w fun e w' => e = .returned (.bool (decide (CanS t xs))) ∧ Below w.heap.size w w' := by
  have H := Lib.hid h
  obtain ⟨a, c, rfl⟩ := h.slice
  clear h
  by_cases h0 : -1000000000 ≤ t
  · by_cases h1 : t ≤ 1000000000
    · have HD : Hid (decide (CanS t xs) = decide (AreW xs)) := Lib.hid (by
        by_cases hw : AreW xs
        · rw [decide_eq_true hw]; exact decide_eq_true ⟨h0, h1, hw⟩
        · rw [decide_eq_false hw]; exact decide_eq_false (fun hc => hw hc.2.2))
      go_enter Try.func31, Try.ntmps31
      go_wp2_with fail
      refine (impl_areW _ xs _ H.out hm).mono ?_
      rintro e w1 ⟨rfl, hb⟩
      go_wp2
      go_ret
      exact ⟨ret_b (by rw [HD.out]), hb⟩
    · have HD : Hid (decide (CanS t xs) = false) := Lib.hid (decide_eq_false (fun hc => h1 hc.2.1))
      go_enter Try.func31, Try.ntmps31
      go_wp2
      go_ret
      exact ⟨ret_b (by rw [HD.out]), Below.refl _ _⟩
  · have HD : Hid (decide (CanS t xs) = false) := Lib.hid (decide_eq_false (fun hc => h0 hc.1))
    go_enter Try.func31, Try.ntmps31
    go_wp2
    go_ret
    exact ⟨ret_b (by rw [HD.out]), Below.refl _ _⟩

/-- A pair of a number and a truth value. -/
def PairRes (x : Int) (y : Bool) (w : World) (e : Ending) (w' : World) : Prop := e = .returned (.tuple #[.int .i64 x, .bool y]) ∧ Below w.heap.size w w'

set_option maxRecDepth 100000 in
set_option maxHeartbeats 1000000 in
theorem spec_upTo_no (t : Int) (v : Value) (xs : List Int) (k : Int) (w : World) (h : Ints w v xs) (hm : xs.length ≤ 1048577) (hno : ¬UpOk t xs k) :
    Calls Try.prog 24 #[.int .i64 t, v, .int .i64 k] w (PairRes 0 false w) := by
  have H := Lib.hid h
  obtain ⟨a, c, rfl⟩ := h.slice
  clear h
  by_cases hA : AreW xs
  · have HA := Lib.hid (areW_yes hA)
    by_cases h0 : -1000000000 ≤ t ∧ t ≤ 1000000000
    · have HI := Lib.hid (inB_yes h0.1 h0.2)
      have HK : Hid (inB k 0 xs.length = false) := Lib.hid (inB_no (by
        have : ¬(0 ≤ k ∧ k ≤ (xs.length : Int)) := fun hk => hno ⟨⟨h0.1, h0.2, hA⟩, hk.1, hk.2⟩
        omega))
      clear hA h0 hno
      go_enter Try.func24, Try.ntmps24
      go_wp2_with fail
      refine (spec_areW _ xs _ H.out hm).mono ?_
      rintro e w1 ⟨rfl, hb⟩
      rw [HA.out]
      go_wp2_with fail
      refine (spec_in t _ _ _).mono ?_
      rintro e w2 ⟨rfl, rfl⟩
      rw [HI.out]
      go_wp2_with fail
      refine (spec_in k _ _ _).mono ?_
      rintro e w2 ⟨rfl, rfl⟩
      rw [HK.out]
      go_wp2
      go_ret2
      exact ⟨rfl, hb⟩
    · have HI := Lib.hid (inB_no (x := t) (lo := -1000000000) (hi := 1000000000) (by omega))
      clear hA h0 hno
      go_enter Try.func24, Try.ntmps24
      go_wp2_with fail
      refine (spec_areW _ xs _ H.out hm).mono ?_
      rintro e w1 ⟨rfl, hb⟩
      rw [HA.out]
      go_wp2_with fail
      refine (spec_in t _ _ _).mono ?_
      rintro e w2 ⟨rfl, rfl⟩
      rw [HI.out]
      go_wp2
      go_ret2
      exact ⟨rfl, hb⟩
  · have HA := Lib.hid (areW_no hA)
    clear hA hno
    go_enter Try.func24, Try.ntmps24
    go_wp2_with fail
    refine (spec_areW _ xs _ H.out hm).mono ?_
    rintro e w1 ⟨rfl, hb⟩
    rw [HA.out]
    go_wp2
    go_ret2
    exact ⟨rfl, hb⟩

/-- Weights lie somewhere. -/
theorem ints_some {w : World} {v : Value} {xs : List Int} (h : Ints w v xs) (h0 : 0 < xs.length) : ∃ b o c : Nat, v = .slice (some ⟨b, o, none⟩) xs.length c ∧ xs.length ≤ c ∧ CellsI w b o xs := by
  rcases h with ⟨rfl, _⟩ | ⟨_, h⟩
  · simp at h0
  · exact h
theorem AreW.pos {xs : List Int} (h : AreW xs) : 0 < xs.length := by
  cases xs
  · have := h.2.2; simp [sumL] at this
  · simp

set_option maxRecDepth 100000 in
set_option maxHeartbeats 1000000 in
theorem spec_upTo_yes (t : Int) (v : Value) (xs : List Int) (k : Nat) (w : World) (h : Ints w v xs) (hc : CanS t xs) (hk : k ≤ xs.length) :
    Calls Try.prog 24 #[.int .i64 t, v, .int .i64 (k : Int)] w (PairRes (share t xs k) true w) := by
  have hA := hc.2.2
  have HA := Lib.hid (areW_yes hA)
  have h40 := hA.1
  have HI := Lib.hid (inB_yes hc.1 hc.2.1)
  have HK : Hid (inB (k : Int) 0 xs.length = true) := Lib.hid (inB_yes (by omega) (by omega))
  have HS : Hid (SumOk xs) := Lib.hid (AreW.ok h40 hA.2.1)
  have H := Lib.hid h
  have ht := hA.total
  have hp := hA.part k
  have hmul := hc.mul hp.1 hp.2
  have HV : Hid (share t xs k = (t * sumL (xs.take k)).tdiv (sumL xs)) := Lib.hid rfl
  obtain ⟨b, o, c, rfl, hlc, hcell⟩ := ints_some h hA.pos
  have HC := Lib.hid hcell
  clear h hcell hc hA
  go_enter Try.func24, Try.ntmps24
  go_wp2_with fail
  refine (spec_areW _ xs _ H.out (by omega)).mono ?_
  rintro e w1 ⟨rfl, hb⟩
  rw [HA.out]
  have B1 := Lib.hid hb
  clear hb
  go_wp2_with fail
  refine (spec_in t _ _ _).mono ?_
  rintro e w2 ⟨rfl, rfl⟩
  rw [HI.out]
  go_wp2_with fail
  refine (spec_in k _ _ _).mono ?_
  rintro e w2 ⟨rfl, rfl⟩
  rw [HK.out]
  go_wp2_with fail
  refine (spec_sum _ (xs.take k) _ (ints_take (HC.out.below B1.out) k hk hlc) (by rw [List.length_take]; omega) (sumOk_take HS.out k)).mono ?_
  rintro e w3 ⟨rfl, hb⟩
  have B2 := Lib.hid (B1.out.trans (hb.mono B1.out.size))
  clear hb
  go_wp2_with fail
  refine (spec_sum _ xs _ (H.out.below B2.out) (by omega) HS.out).mono ?_
  rintro e w4 ⟨rfl, hb⟩
  have B3 := Lib.hid (B2.out.trans (hb.mono B2.out.size))
  clear hb
  generalize sumL (xs.take k) = sk at *
  generalize sumL xs = sx at *
  go_wp2
  go_ret2
  exact ⟨by rw [HV.out]; rfl, B3.out⟩
end Go.Proofs.Ytgdoahdkidlndaa
