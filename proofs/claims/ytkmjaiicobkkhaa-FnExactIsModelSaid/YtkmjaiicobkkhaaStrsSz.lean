/-
  The walk of the verifier's own szStringS: how large a slice of strings is.
-/
import Derived.Test.YtkmjaiicobkkhaaRows
import Derived.Test.YtkmjaiicobkkhaaStrs
import Derived.WalkKit
import Derived.WalkSpells
import Derived.WalkSmall
import Derived.BigQuiet
import Derived.Deep.QuietTactic
import Derived.Lib.Hide
namespace Go.Proofs.Ytkmjaiicobkkhaa
open Go.RowKit

/-- What szStringS answers. -/
def SzS (ss : List ByteArray) (left : Int) (w : World) (e : Ending) (w' : World) : Prop := ∃ r : Int, e = .returned (.int .i64 r) ∧ -1 ≤ r ∧ r ≤ 1048576 ∧ (0 ≤ r → (ss.length : Int) + bytesOf ss ≤ left) ∧ w' = w

set_option maxRecDepth 100000 in
set_option maxHeartbeats 400000 in
theorem sz_strs (v : Value) (ss : List ByteArray) (left : Int) (w : World) (h : Strs w v ss) (h0 : 0 ≤ left) (h1 : left ≤ 1048576) (hm : ss.length ≤ maxLen) (hs : ∀ s ∈ ss, s.size ≤ maxLen) :
    Calls Try.prog 114 #[v, .int .i64 left] w (SzS ss left w) := by
  unfold maxLen at hm hs
  rcases h with ⟨rfl, a, c, rfl⟩ | ⟨hne, b, o, c, rfl, hc, hcell⟩
  · go_enter Try.func114, Try.ntmps114
    go_wp2
    go_loop [1, 5] (fun t i => i = .int .i64 0 ∧ t = .int .i64 left) (fun _ _ => 0)
    case atStart => exact ⟨rfl, rfl⟩
    case round =>
      obtain ⟨rfl, rfl⟩ := hrel
      go_wp2
      go_ret
      exact ⟨left, rfl, by omega, by omega, fun _ => by simp [bytesOf]; omega, rfl⟩
  · have H := Lib.hid hcell
    have HS := Lib.hid hs
    clear hcell hne hs
    by_cases hb : left < ss.length
    · go_enter Try.func114, Try.ntmps114
      go_wp2
      go_ret
      exact ⟨-1, rfl, by omega, by omega, by omega, rfl⟩
    · go_enter Try.func114, Try.ntmps114
      go_wp2
      go_loop [1, 5] (fun t i => ∃ (k : Nat) (m : Int), k ≤ ss.length ∧ i = .int .i64 k ∧ t = .int .i64 m ∧ 0 ≤ m ∧ m ≤ 1048576 ∧ m + ss.length + bytesOf (ss.take k) ≤ left) (fun _ i => ss.length - (intOf i).toNat)
      case atStart => exact ⟨0, left - ss.length, Nat.zero_le _, rfl, rfl, by omega, by omega, by simp [bytesOf]⟩
      case round =>
        obtain ⟨k, m, hk, rfl, rfl, hm0, hm1, hsum⟩ := hrel
        by_cases hlt : k < ss.length
        · have hck := H.out.at k hlt
          have hsz := HS.out _ (List.getElem_mem hlt)
          have HB := Lib.hid (bytesOf_succ hlt)
          by_cases hn : m < (ss[k]'hlt).size
          · go_wp2
            go_ret
            exact ⟨-1, rfl, by omega, by omega, by omega, rfl⟩
          · go_wp2
            go_round
            case rel => exact ⟨k + 1, m - (ss[k]'hlt).size, by omega, by go_num, rfl, by omega, by omega, by rw [HB.out]; omega⟩
            case measure => simp [intOf]; omega
        · have HB := Lib.hid (bytesOf_all (Nat.le_of_not_lt hlt))
          go_wp2
          go_ret
          exact ⟨m, rfl, by omega, by omega, fun _ => by rw [← HB.out]; omega, rfl⟩

end Go.Proofs.Ytkmjaiicobkkhaa
