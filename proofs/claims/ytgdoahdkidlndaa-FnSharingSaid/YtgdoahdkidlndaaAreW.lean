/-
  AreWeights: the model's and the program's; the model's l1In.
-/
import Derived.Test.YtgdoahdkidlndaaRows
import Derived.Test.YtgdoahdkidlndaaInts
import Derived.Test.YtgdoahdkidlndaaShareLib
import Derived.Test.YtgdoahdkidlndaaSums
import Derived.WalkKit
import Derived.WalkSpells
import Derived.WalkSmall
import Derived.BigQuiet
import Derived.Deep.QuietTactic
import Derived.Lib.Hide
namespace Go.Proofs.Ytgdoahdkidlndaa
open Go.RowKit

/-- Between two bounds. -/
def inB (x lo hi : Int) : Bool := decide (lo ≤ x) && decide (x ≤ hi)
theorem inB_yes {x lo hi : Int} (h : lo ≤ x) (h' : x ≤ hi) : inB x lo hi = true := by simp [inB, h, h']
theorem inB_no {x lo hi : Int} (h : x < lo ∨ hi < x) : inB x lo hi = false := by
  unfold inB
  rcases h with h | h
  · rw [decide_eq_false (by omega)]; rfl
  · rw [decide_eq_false (p := x ≤ hi) (by omega), Bool.and_false]

set_option maxRecDepth 100000 in
set_option maxHeartbeats 400000 in
theorem spec_in (x lo hi : Int) (w : World) : Calls Try.prog 36 #[.int .i64 x, .int .i64 lo, .int .i64 hi] w fun e w' => e = .returned (.bool (inB x lo hi)) ∧ w' = w := by
  by_cases h : lo ≤ x
  · by_cases h2 : x ≤ hi
    · have HI := Lib.hid (inB_yes h h2)
      go_enter Try.func36, Try.ntmps36
      go_wp2
      go_ret
      exact ⟨by rw [HI.out]; rfl, rfl⟩
    · have HI := Lib.hid (inB_no (x := x) (lo := lo) (hi := hi) (Or.inr (by omega)))
      go_enter Try.func36, Try.ntmps36
      go_wp2
      go_ret
      exact ⟨by rw [HI.out]; rfl, rfl⟩
  · have HI := Lib.hid (inB_no (x := x) (lo := lo) (hi := hi) (Or.inl (by omega)))
    go_enter Try.func36, Try.ntmps36
    go_wp2
    go_ret
    exact ⟨by rw [HI.out]; rfl, rfl⟩

theorem ret_b {a b : Bool} (h : a = b) : Ending.returned (.bool a) = .returned (.bool b) := by rw [h]

set_option maxRecDepth 100000 in
set_option maxHeartbeats 1000000 in
theorem spec_areW (v : Value) (xs : List Int) (w : World) (h : Ints w v xs) (hm : xs.length ≤ 1048577) :
    Calls Try.prog 14 #[v] w fun e w' => e = .returned (.bool (decide (AreW xs))) ∧ Below w.heap.size w w' := by
  have HI := Lib.hid h
  rcases h with ⟨rfl, a, c, rfl⟩ | ⟨hne, b, o, c, rfl, hc, hcell⟩
  · go_enter Try.func14, Try.ntmps14
    go_wp2
    go_loop [3] (fun i => i = .int .i64 0) (fun _ => 0)
    case atStart => rfl
    case round =>
      obtain rfl := hrel
      go_wp2_with fail
      refine (spec_sum _ [] _ (ints_none _ _ _) (by simp) (sumOk_small (by simp) (by simp))).mono ?_
      rintro e w1 ⟨rfl, hb1⟩
      have h0 : sumL [] = 0 := rfl
      rw [h0]
      go_wp2
      go_ret
      exact ⟨ret_b (by rw [areW_nil]), hb1⟩
  · have H := Lib.hid hcell
    clear hcell hne
    go_enter Try.func14, Try.ntmps14
    go_wp2
    go_loopw [3] (fun i wr => ∃ k : Nat, k ≤ xs.length ∧ i = .int .i64 k ∧ Hid (FirstW xs k) ∧ Below w.heap.size w wr) (fun i _ => xs.length - (intOf i).toNat)
    case atStart => exact ⟨0, Nat.zero_le _, rfl, Lib.hid (firstW_zero _), Below.refl _ _⟩
    case round =>
      obtain ⟨k, hk, rfl, HF, hb⟩ := hrel
      by_cases hlt : k < xs.length
      · have hck : wr.cell? ⟨b, o + k, none⟩ = some (.int .i64 (xs[k]'hlt)) := (hb.cell (p := ⟨b, o + k, none⟩) H.out.1).trans (H.out.at k hlt)
        by_cases hin : 0 ≤ xs[k]'hlt ∧ xs[k]'hlt ≤ 1000000
        · have HN := Lib.hid (firstW_succ HF.out hlt hin.1 hin.2)
          have HB := Lib.hid (inB_yes hin.1 hin.2)
          clear hin
          generalize xs[k]'hlt = x0 at *
          go_wp2_with fail
          refine (spec_in x0 _ _ _).mono ?_
          rintro e w1 ⟨rfl, rfl⟩
          rw [HB.out]
          go_wp2
          go_roundw
          case rel => exact ⟨k + 1, by omega, by go_num, HN, hb⟩
          case measure => simp [intOf]; omega
        · have HB := Lib.hid (inB_no (x := xs[k]'hlt) (lo := 0) (hi := 1000000) (by omega))
          have HA := Lib.hid (not_areW_at hlt (by omega))
          clear hin
          generalize xs[k]'hlt = x0 at *
          go_wp2_with fail
          refine (spec_in x0 _ _ _).mono ?_
          rintro e w1 ⟨rfl, rfl⟩
          rw [HB.out]
          go_wp2
          go_ret
          exact ⟨ret_b (by rw [HA.out]), hb⟩
      · have HW := Lib.hid (firstW_all HF.out (Nat.le_of_not_lt hlt))
        by_cases h40 : xs.length ≤ 40
        · have HA := Lib.hid (areW_iff h40 HW.out)
          have h40' : decide ((xs.length : Int) ≤ 40) = true := decide_eq_true (by omega)
          go_wp2_with fail
          refine (spec_sum _ xs _ (HI.out.below hb) hm (AreW.ok h40 HW.out)).mono ?_
          rintro e w1 ⟨rfl, hb1⟩
          go_wp2
          go_ret
          exact ⟨ret_b (by rw [HA.out]), hb.trans (hb1.mono hb.size)⟩
        · have HA := Lib.hid (not_areW_len (ws := xs) (by omega))
          have h40' : decide ((xs.length : Int) ≤ 40) = false := decide_eq_false (by omega)
          go_wp2
          go_ret
          exact ⟨ret_b (by rw [HA.out]), hb⟩

set_option maxRecDepth 100000 in
set_option maxHeartbeats 1000000 in
theorem impl_areW (v : Value) (xs : List Int) (w : World) (h : Ints w v xs) (hm : xs.length ≤ 1048577) :
    Calls Try.prog 22 #[v] w fun e w' => e = .returned (.bool (decide (AreW xs))) ∧ Below w.heap.size w w' := by
  have HI := Lib.hid h
  by_cases h40 : 40 < xs.length
  · have HA := Lib.hid (not_areW_len h40)
    obtain ⟨a, c, rfl⟩ := h.slice
    go_enter Try.func22, Try.ntmps22
    go_wp2
    go_ret
    exact ⟨ret_b (by rw [HA.out]), Below.refl _ _⟩
  · rcases h with ⟨rfl, a, c, rfl⟩ | ⟨hne, b, o, c, rfl, hc, hcell⟩
    · go_enter Try.func22, Try.ntmps22
      go_wp2
      go_loop [10] (fun i => i = .int .i64 0) (fun _ => 0)
      case atStart => rfl
      case round =>
        obtain rfl := hrel
        go_wp2_with fail
        refine (impl_sumOf _ [] _ (ints_none _ _ _) (by simp) (sumOk_small (by simp) (by simp))).mono ?_
        rintro e w1 ⟨rfl, hb1⟩
        have h0 : sumL [] = 0 := rfl
        rw [h0]
        go_wp2
        go_ret
        exact ⟨ret_b (by rw [areW_nil]), hb1⟩
    · have H := Lib.hid hcell
      clear hcell hne
      go_enter Try.func22, Try.ntmps22
      go_wp2
      go_loopw [10] (fun i wr => ∃ k : Nat, k ≤ xs.length ∧ i = .int .i64 k ∧ Hid (FirstW xs k) ∧ Below w.heap.size w wr) (fun i _ => xs.length - (intOf i).toNat)
      case atStart => exact ⟨0, Nat.zero_le _, rfl, Lib.hid (firstW_zero _), Below.refl _ _⟩
      case round =>
        obtain ⟨k, hk, rfl, HF, hb⟩ := hrel
        by_cases hlt : k < xs.length
        · have hck : wr.cell? ⟨b, o + k, none⟩ = some (.int .i64 (xs[k]'hlt)) := (hb.cell (p := ⟨b, o + k, none⟩) H.out.1).trans (H.out.at k hlt)
          by_cases hneg : xs[k]'hlt < 0
          · have HA := Lib.hid (not_areW_at hlt (Or.inl hneg))
            generalize xs[k]'hlt = x0 at *
            have e1 : decide (x0 < 0) = true := decide_eq_true hneg
            go_wp2
            go_ret
            exact ⟨ret_b (by rw [HA.out]), hb⟩
          · have e1 : decide (xs[k]'hlt < 0) = false := decide_eq_false hneg
            by_cases hbig : 1000000 < xs[k]'hlt
            · have HA := Lib.hid (not_areW_at hlt (Or.inr hbig))
              generalize xs[k]'hlt = x0 at *
              go_wp2
              go_ret
              exact ⟨ret_b (by rw [HA.out]), hb⟩
            · have HN := Lib.hid (firstW_succ HF.out hlt (by omega) (by omega))
              generalize xs[k]'hlt = x0 at *
              go_wp2
              go_roundw
              case rel => exact ⟨k + 1, by omega, by go_num, HN, hb⟩
              case measure => simp [intOf]; omega
        · have HW := Lib.hid (firstW_all HF.out (Nat.le_of_not_lt hlt))
          have HA := Lib.hid (areW_iff (Nat.le_of_not_lt h40) HW.out)
          go_wp2_with fail
          refine (impl_sumOf _ xs _ (HI.out.below hb) hm (AreW.ok (Nat.le_of_not_lt h40) HW.out)).mono ?_
          rintro e w1 ⟨rfl, hb1⟩
          go_wp2
          go_ret
          exact ⟨ret_b (by rw [HA.out]), hb.trans (hb1.mono hb.size)⟩
end Go.Proofs.Ytgdoahdkidlndaa
