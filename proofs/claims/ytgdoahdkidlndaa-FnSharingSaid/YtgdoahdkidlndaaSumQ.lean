/-
  The laws' sum of a slice of numbers changes nothing.
-/
import Derived.Test.YtgdoahdkidlndaaRows
import Derived.Test.YtgdoahdkidlndaaInts
import Derived.Test.YtgdoahdkidlndaaShareLib
import Derived.WalkKit
import Derived.WalkSpells
import Derived.WalkSmall
import Derived.BigQuiet
import Derived.Deep.QuietTactic
import Derived.Lib.Hide
namespace Go.Proofs.Ytgdoahdkidlndaa
open Go.RowKit

set_option maxRecDepth 100000 in
set_option maxHeartbeats 400000 in
/-- .. and the world is as it was. -/
theorem laws_sumQ (v : Value) (xs : List Int) (w : World) (h : Ints w v xs) (hm : xs.length ≤ 1048577) (hs : SumOk xs) :
    Calls Try.prog 16 #[v] w fun e w' => e = .returned (.int .i64 (sumL xs)) ∧ w' = w := by
  have HS := Lib.hid hs
  clear hs
  rcases h with ⟨rfl, a, c, rfl⟩ | ⟨hne, b, o, c, rfl, hc, hcell⟩
  · go_enter Try.func16, Try.ntmps16
    go_wp2
    go_loop [3, 4] (fun s i => i = .int .i64 0 ∧ s = .int .i64 0) (fun _ _ => 0)
    case atStart => exact ⟨rfl, rfl⟩
    case round =>
      obtain ⟨rfl, rfl⟩ := hrel
      go_wp2
      go_ret
      exact ⟨rfl, rfl⟩
  · have H := Lib.hid hcell
    clear hcell hne
    go_enter Try.func16, Try.ntmps16
    go_wp2
    go_loop [3, 4] (fun s i => ∃ k : Nat, k ≤ xs.length ∧ i = .int .i64 k ∧ s = .int .i64 (sumL (xs.take k))) (fun _ i => xs.length - (intOf i).toNat)
    case atStart => exact ⟨0, Nat.zero_le _, rfl, rfl⟩
    case round =>
      obtain ⟨k, hk, rfl, rfl⟩ := hrel
      by_cases hlt : k < xs.length
      · have hck : w.cell? ⟨b, o + k, none⟩ = some (.int .i64 (xs[k]'hlt)) := H.out.at k hlt
        have hb1 := HS.out k
        have hb2 := HS.out (k + 1)
        rw [sumL_take_succ hlt] at hb2
        have HN := Lib.hid (sumL_take_succ hlt)
        generalize sumL (xs.take k) = s0 at *
        generalize xs[k]'hlt = x0 at *
        go_wp2
        go_round
        case rel => exact ⟨k + 1, by omega, by go_num, by rw [HN.out]⟩
        case measure => simp [intOf]; omega
      · have HN := Lib.hid (sumL_all (xs := xs) (k := k) (by omega))
        go_wp2
        go_ret
        exact ⟨by rw [HN.out]; rfl, rfl⟩

end Go.Proofs.Ytgdoahdkidlndaa
