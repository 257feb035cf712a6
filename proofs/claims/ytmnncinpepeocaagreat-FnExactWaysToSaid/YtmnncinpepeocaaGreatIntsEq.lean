/-
 The walk of the verifier's own eqIntS: equal slices of numbers are found equal.
-/
import Derived.Test.YtmnncinpepeocaaGreatRows
import Derived.Test.YtmnncinpepeocaaGreatBuA
import Derived.WalkKit
import Derived.WalkSpells
import Derived.WalkSmall
import Derived.BigQuiet
import Derived.Deep.QuietTactic
import Derived.Lib.Hide
namespace Go.Proofs.YtmnncinpepeocaaGreat
open Go.RowKit

set_option maxRecDepth 100000 in
set_option maxHeartbeats 400000 in
/-- Two slices that read as the same numbers are found equal. -/
theorem eq_ints (v v' : Value) (ss : List Int) (w : World) (h : Ints w v ss) (h' : Ints w v' ss) (hm : ss.length ≤ 1048577) :
 Calls Tryz.prog 36 #[v, v'] w fun e w' => e = .returned (.bool true) ∧ Below w.heap.size w w' := by
 rcases h with ⟨rfl, a, c, rfl⟩ | ⟨hne, b, o, c, rfl, hc, hcell⟩
 · rcases h' with ⟨_, a', c', rfl⟩ | ⟨h0, _⟩
   · go_enter Tryz.func36, Tryz.ntmps36
     go_wp2
     go_loop [5] (fun i => i = .int .i64 0) (fun _ => 0)
     case atStart => rfl
     case round =>
      obtain rfl := hrel
      go_wp2
      go_ret
      exact ⟨rfl, Below.refl _ _⟩
   · exact absurd rfl h0
 · rcases h' with ⟨h0, _⟩ | ⟨_, b', o', c', rfl, hc', hcell'⟩
   · exact absurd h0 hne
   · have H := Lib.hid hcell
     have H' := Lib.hid hcell'
     have e0 : ((ss.length : Int) != (ss.length : Int)) = false := by simp
     clear hcell hcell' hne
     go_enter Tryz.func36, Tryz.ntmps36
     go_wp2
     go_loopw [5] (fun i wr => ∃ k : Nat, k ≤ ss.length ∧ i = .int .i64 k ∧ Below w.heap.size w wr) (fun i _ => ss.length - (intOf i).toNat)
     case atStart => exact ⟨0, Nat.zero_le _, rfl, Below.refl _ _⟩
     case round =>
      obtain ⟨k, hk, rfl, hb⟩ := hrel
      by_cases hlt : k < ss.length
      · have hck : wr.cell? ⟨b, o + k, none⟩ = some (.int .i64 (ss[k]'hlt)) := (hb.cell (p := ⟨b, o + k, none⟩) H.out.1).trans (H.out.at k hlt)
        have hck' : wr.cell? ⟨b', o' + k, none⟩ = some (.int .i64 (ss[k]'hlt)) := (hb.cell (p := ⟨b', o' + k, none⟩) H'.out.1).trans (H'.out.at k hlt)
        have ek : ((ss[k]'hlt) != (ss[k]'hlt)) = false := by simp
        go_wp2
        go_quiet (fail)
        go_wp2
        go_roundw
        case rel => exact ⟨k + 1, by omega, by go_num, below_drewN hb _⟩
        case measure => simp [intOf]; omega
      · go_wp2
        go_ret
        exact ⟨rfl, hb⟩
end Go.Proofs.YtmnncinpepeocaaGreat
