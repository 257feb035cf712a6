/-
  The sums of a slice of numbers: the program's own, the model's, and the laws'.
-/
import Derived.Test.YtgdoahdkidlndaaRows
import Derived.Test.YtgdoahdkidlndaaInts
import Derived.Test.YtgdoahdkidlndaaShareLib
import Derived.WalkKit
import Derived.WalkSpells
import Derived.WalkSmall
import Derived.BigQuiet
import Derived.Deep.QuietTactic
import Derived.Lib.Hide
namespace Go.Proofs.Ytgdoahdkidlndaa
open Go.RowKit

set_option maxRecDepth 100000 in
set_option maxHeartbeats 400000 in
theorem impl_sumOf (v : Value) (xs : List Int) (w : World) (h : Ints w v xs) (hm : xs.length ≤ 1048577) (hs : SumOk xs) :
    Calls Try.prog 33 #[v] w fun e w' => e = .returned (.int .i64 (sumL xs)) ∧ Below w.heap.size w w' := by
  have HS := Lib.hid hs
  clear hs
  rcases h with ⟨rfl, a, c, rfl⟩ | ⟨hne, b, o, c, rfl, hc, hcell⟩
  · go_enter Try.func33, Try.ntmps33
    go_wp2
    go_loop [3, 8] (fun s i => i = .int .i64 0 ∧ s = .int .i64 0) (fun _ _ => 0)
    case atStart => exact ⟨rfl, rfl⟩
    case round =>
      obtain ⟨rfl, rfl⟩ := hrel
      go_wp2
      go_ret
      exact ⟨rfl, Below.refl _ _⟩
  · have H := Lib.hid hcell
    clear hcell hne
    go_enter Try.func33, Try.ntmps33
    go_wp2
    go_loopw [3, 8] (fun s i wr => ∃ k : Nat, k ≤ xs.length ∧ i = .int .i64 k ∧ s = .int .i64 (sumL (xs.take k)) ∧ Below w.heap.size w wr) (fun _ i _ => xs.length - (intOf i).toNat)
    case atStart => exact ⟨0, Nat.zero_le _, rfl, rfl, Below.refl _ _⟩
    case round =>
      obtain ⟨k, hk, rfl, rfl, hb⟩ := hrel
      by_cases hlt : k < xs.length
      · have hck : wr.cell? ⟨b, o + k, none⟩ = some (.int .i64 (xs[k]'hlt)) := (hb.cell (p := ⟨b, o + k, none⟩) H.out.1).trans (H.out.at k hlt)
        have hb1 := HS.out k
        have hb2 := HS.out (k + 1)
        rw [sumL_take_succ hlt] at hb2
        have HN := Lib.hid (sumL_take_succ hlt)
        generalize sumL (xs.take k) = s0 at *
        generalize xs[k]'hlt = x0 at *
        go_wp2
        go_roundw
        case rel => exact ⟨k + 1, by omega, by go_num, by rw [HN.out], hb⟩
        case measure => simp [intOf]; omega
      · have HN := Lib.hid (sumL_all (xs := xs) (k := k) (by omega))
        go_wp2
        go_ret
        exact ⟨by rw [HN.out]; rfl, hb⟩

set_option maxRecDepth 100000 in
set_option maxHeartbeats 400000 in
theorem spec_sum (v : Value) (xs : List Int) (w : World) (h : Ints w v xs) (hm : xs.length ≤ 1048577) (hs : SumOk xs) :
    Calls Try.prog 37 #[v] w fun e w' => e = .returned (.int .i64 (sumL xs)) ∧ Below w.heap.size w w' := by
  have HS := Lib.hid hs
  clear hs
  rcases h with ⟨rfl, a, c, rfl⟩ | ⟨hne, b, o, c, rfl, hc, hcell⟩
  · go_enter Try.func37, Try.ntmps37
    go_wp2
    go_loop [3, 4] (fun s i => i = .int .i64 0 ∧ s = .int .i64 0) (fun _ _ => 0)
    case atStart => exact ⟨rfl, rfl⟩
    case round =>
      obtain ⟨rfl, rfl⟩ := hrel
      go_wp2
      go_ret
      exact ⟨rfl, Below.refl _ _⟩
  · have H := Lib.hid hcell
    clear hcell hne
    go_enter Try.func37, Try.ntmps37
    go_wp2
    go_loopw [3, 4] (fun s i wr => ∃ k : Nat, k ≤ xs.length ∧ i = .int .i64 k ∧ s = .int .i64 (sumL (xs.take k)) ∧ Below w.heap.size w wr) (fun _ i _ => xs.length - (intOf i).toNat)
    case atStart => exact ⟨0, Nat.zero_le _, rfl, rfl, Below.refl _ _⟩
    case round =>
      obtain ⟨k, hk, rfl, rfl, hb⟩ := hrel
      by_cases hlt : k < xs.length
      · have hck : wr.cell? ⟨b, o + k, none⟩ = some (.int .i64 (xs[k]'hlt)) := (hb.cell (p := ⟨b, o + k, none⟩) H.out.1).trans (H.out.at k hlt)
        have hb1 := HS.out k
        have hb2 := HS.out (k + 1)
        rw [sumL_take_succ hlt] at hb2
        have HN := Lib.hid (sumL_take_succ hlt)
        generalize sumL (xs.take k) = s0 at *
        generalize xs[k]'hlt = x0 at *
        go_wp2
        go_roundw
        case rel => exact ⟨k + 1, by omega, by go_num, by rw [HN.out], hb⟩
        case measure => simp [intOf]; omega
      · have HN := Lib.hid (sumL_all (xs := xs) (k := k) (by omega))
        go_wp2
        go_ret
        exact ⟨by rw [HN.out]; rfl, hb⟩

set_option maxRecDepth 100000 in
set_option maxHeartbeats 400000 in
theorem laws_sum (v : Value) (xs : List Int) (w : World) (h : Ints w v xs) (hm : xs.length ≤ 1048577) (hs : SumOk xs) :
    Calls Try.prog 16 #[v] w fun e w' => e = .returned (.int .i64 (sumL xs)) ∧ Below w.heap.size w w' := by
  have HS := Lib.hid hs
  clear hs
  rcases h with ⟨rfl, a, c, rfl⟩ | ⟨hne, b, o, c, rfl, hc, hcell⟩
  · go_enter Try.func16, Try.ntmps16
    go_wp2
    go_loop [3, 4] (fun s i => i = .int .i64 0 ∧ s = .int .i64 0) (fun _ _ => 0)
    case atStart => exact ⟨rfl, rfl⟩
    case round =>
      obtain ⟨rfl, rfl⟩ := hrel
      go_wp2
      go_ret
      exact ⟨rfl, Below.refl _ _⟩
  · have H := Lib.hid hcell
    clear hcell hne
    go_enter Try.func16, Try.ntmps16
    go_wp2
    go_loopw [3, 4] (fun s i wr => ∃ k : Nat, k ≤ xs.length ∧ i = .int .i64 k ∧ s = .int .i64 (sumL (xs.take k)) ∧ Below w.heap.size w wr) (fun _ i _ => xs.length - (intOf i).toNat)
    case atStart => exact ⟨0, Nat.zero_le _, rfl, rfl, Below.refl _ _⟩
    case round =>
      obtain ⟨k, hk, rfl, rfl, hb⟩ := hrel
      by_cases hlt : k < xs.length
      · have hck : wr.cell? ⟨b, o + k, none⟩ = some (.int .i64 (xs[k]'hlt)) := (hb.cell (p := ⟨b, o + k, none⟩) H.out.1).trans (H.out.at k hlt)
        have hb1 := HS.out k
        have hb2 := HS.out (k + 1)
        rw [sumL_take_succ hlt] at hb2
        have HN := Lib.hid (sumL_take_succ hlt)
        generalize sumL (xs.take k) = s0 at *
        generalize xs[k]'hlt = x0 at *
        go_wp2
        go_roundw
        case rel => exact ⟨k + 1, by omega, by go_num, by rw [HN.out], hb⟩
        case measure => simp [intOf]; omega
      · have HN := Lib.hid (sumL_all (xs := xs) (k := k) (by omega))
        go_wp2
        go_ret
        exact ⟨by rw [HN.out]; rfl, hb⟩

end Go.Proofs.Ytgdoahdkidlndaa
