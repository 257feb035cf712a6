/-
  The model's l1Find leaves the world as it was.
-/
import Derived.Test.YtkmjaiicobkkhaaFind
import Derived.WalkKit
import Derived.WalkSpells
import Derived.WalkSmall
import Derived.BigQuiet
import Derived.Deep.QuietTactic
import Derived.Lib.Hide
namespace Go.Proofs.Ytkmjaiicobkkhaa
open Go.RowKit

set_option maxRecDepth 100000 in
set_option maxHeartbeats 400000 in
theorem spec_findQ (v : Value) (ns : List ByteArray) (s : ByteArray) (w : World) (h : Strs w v ns) (hm : ns.length ≤ 1048577) :
    Calls Try.prog 66 #[v, .string s] w fun e w' => e = .returned (.int .i64 (fndI ns s)) ∧ w' = w := by
  have HX := Lib.hid h
  obtain ⟨a, c, rfl⟩ : ∃ (a : Option Addr) (c : Nat), v = .slice a ns.length c := by
    rcases h with ⟨rfl, a, c, rfl⟩ | ⟨_, b, o, c, rfl, _⟩
    · exact ⟨a, c, rfl⟩
    · exact ⟨_, c, rfl⟩
  clear h
  go_enter Try.func66, Try.ntmps66
  go_wp2
  go_loop [5] (fun i => ∃ k : Nat, k ≤ ns.length ∧ i = .int .i64 k ∧ Hid (∀ j, (hj : j < ns.length) → j < k → (ns[j]'hj) ≠ s)) (fun i => ns.length - (intOf i).toNat)
  case atStart => exact ⟨0, Nat.zero_le _, rfl, Lib.hid (fun j _ h => by omega)⟩
  case round =>
    obtain ⟨k, hk, rfl, HN⟩ := hrel
    by_cases hlt : k < ns.length
    · obtain ⟨b2, o2, c2, hv2, hcell2⟩ : ∃ b o c : Nat, (Value.slice a ns.length c : Value) = Value.slice a ns.length c ∧ a = some ⟨b, o, none⟩ ∧ CellsS w b o ns := by
        rcases HX.out with ⟨h0, _⟩ | ⟨_, b, o, c', hv, _, hcell⟩
        · rw [h0] at hlt; simp at hlt
        · simp only [Value.slice.injEq] at hv
          exact ⟨b, o, c, rfl, hv.1, hcell⟩
      obtain ⟨rfl, hcell⟩ := hcell2
      have e1 := hcell.at k hlt
      by_cases he : (ns[k]'hlt) = s
      · have HF := Lib.hid (fnd_at hlt he (fun j hj => HN.out j (by omega) hj))
        go_wp2
        go_ret
        exact ⟨by rw [HF.out]; rfl, rfl⟩
      · have HN2 : Hid (∀ j, (hj : j < ns.length) → j < k + 1 → (ns[j]'hj) ≠ s) := Lib.hid (fun j hj h1 => by
          by_cases e : j = k
          · subst e; exact he
          · exact HN.out j hj (by omega))
        have hbq := str_ne he
        clear he
        generalize ns[k]'hlt = x at *
        go_wp2
        go_round
        case rel => exact ⟨k + 1, by omega, by go_num, HN2⟩
        case measure => simp [intOf]; omega
    · have HF := Lib.hid (fnd_no (ns := ns) (s := s) (fun j hj => HN.out j hj (by omega)))
      go_wp2
      go_ret
      exact ⟨by rw [HF.out]; rfl, rfl⟩
end Go.Proofs.Ytkmjaiicobkkhaa
