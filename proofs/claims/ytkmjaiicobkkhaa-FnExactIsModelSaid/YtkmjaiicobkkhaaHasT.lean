/-
  The library's Index and Contains on texts.
-/
import Derived.Test.YtkmjaiicobkkhaaRows
import Derived.Test.YtkmjaiicobkkhaaStrs
import Derived.Test.YtkmjaiicobkkhaaCondSpec
import Derived.Test.YtkmjaiicobkkhaaFind
import Derived.Test.YtkmjaiicobkkhaaHold
import Derived.WalkKit
import Derived.WalkSpells
import Derived.WalkSmall
import Derived.BigQuiet
import Derived.Deep.QuietTactic
import Derived.Deep.DeepCutAuto
import Derived.Lib.Hide
namespace Go.Proofs.Ytkmjaiicobkkhaa
open Go.RowKit

/-- A place is returned, or -1. -/
def IdxRes (y : Bool) (w : World) (e : Ending) (w' : World) : Prop := ∃ z : Int, e = .returned (.int .i64 z) ∧ (y = true → 0 ≤ z) ∧ (y = false → z < 0) ∧ Below w.heap.size w w'
/-- A text is among texts. -/
def inB (ns : List ByteArray) (s : ByteArray) : Bool := decide (s ∈ ns)

set_option maxRecDepth 100000 in
set_option maxHeartbeats 1000000 in
theorem im_indexT (v : Value) (ns : List ByteArray) (s : ByteArray) (w : World) (h : Strs w v ns) (hm : ns.length ≤ 1048577) :
    Calls Try.prog 107 #[v, .string s] w (IdxRes (inB ns s) w) := by
  have HX := Lib.hid h
  obtain ⟨a, c, rfl⟩ : ∃ (a : Option Addr) (c : Nat), v = .slice a ns.length c := by
    rcases h with ⟨rfl, a, c, rfl⟩ | ⟨_, b, o, c, rfl, _⟩
    · exact ⟨a, c, rfl⟩
    · exact ⟨_, c, rfl⟩
  clear h
  go_enter Try.func107, Try.ntmps107
  go_wp2_with fail
  go_loopw [8] (fun i wr => ∃ k : Nat, k ≤ ns.length ∧ i = .int .i64 k ∧ Hid (∀ j, (hj : j < ns.length) → j < k → (ns[j]'hj) ≠ s) ∧ Hid (Below w.heap.size w wr)) (fun i _ => ns.length - (intOf i).toNat)
  case atStart => exact ⟨0, Nat.zero_le _, rfl, Lib.hid (fun j _ h => by omega), Lib.hid (Below.refl _ _)⟩
  case round =>
    obtain ⟨k, hk, rfl, HN, HB⟩ := hrel
    by_cases hlt : k < ns.length
    · obtain ⟨b2, o2, c2, hv2, hcell2⟩ : ∃ b o c : Nat, (Value.slice a ns.length c : Value) = Value.slice a ns.length c ∧ a = some ⟨b, o, none⟩ ∧ CellsS w b o ns := by
        rcases HX.out with ⟨h0, _⟩ | ⟨_, b, o, c', hv, _, hcell⟩
        · rw [h0] at hlt; simp at hlt
        · simp only [Value.slice.injEq] at hv
          exact ⟨b, o, c, rfl, hv.1, hcell⟩
      obtain ⟨rfl, hcell⟩ := hcell2
      have e1 := (hcell.below HB.out).at k hlt
      have hin : (ns[k]'hlt) ∈ ns := List.getElem_mem hlt
      clear hv2 hcell
      by_cases he : (ns[k]'hlt) = s
      · have HF : Hid (inB ns s = true) := Lib.hid (decide_eq_true (he ▸ hin))
        have hbq := str_eq he.symm
        clear he hin
        generalize ns[k]'hlt = x at *
        go_wp2_with fail
        go_ret
        exact ⟨k, rfl, fun _ => by omega, (fun h => by rw [HF.out] at h; cases h), HB.out⟩
      · have HN2 : Hid (∀ j, (hj : j < ns.length) → j < k + 1 → (ns[j]'hj) ≠ s) := Lib.hid (fun j hj h1 => by
          by_cases e : j = k
          · subst e; exact he
          · exact HN.out j hj (by omega))
        have hbq := str_ne (fun e => he e.symm)
        clear he hin
        generalize ns[k]'hlt = x at *
        go_wp2_with fail
        go_roundw
        case rel => exact ⟨k + 1, by omega, by go_num, HN2, HB⟩
        case measure => simp [intOf]; omega
    · have HF : Hid (inB ns s = false) := Lib.hid (decide_eq_false (fun hin => by
        obtain ⟨j, hj, e⟩ := List.getElem_of_mem hin
        exact HN.out j hj (by omega) e))
      go_wp2_with fail
      go_ret
      exact ⟨-1, rfl, (fun h => by rw [HF.out] at h; cases h), fun _ => by decide, HB.out⟩

set_option maxRecDepth 100000 in
set_option maxHeartbeats 1000000 in
theorem im_hasT (v : Value) (ns : List ByteArray) (s : ByteArray) (w : World) (h : Strs w v ns) (hm : ns.length ≤ 1048577) :
    Calls Try.prog 83 #[v, .string s] w (BoolRes (inB ns s) w) := by
  have HI := Lib.hid (im_indexT v ns s w h hm)
  clear h
  go_enter Try.func83, Try.ntmps83
  go_wp2_with fail
  refine HI.out.mono ?_
  rintro e w1 ⟨z, rfl, h1, h2, hb⟩
  have HB := Lib.hid hb
  have H1 := Lib.hid h1
  have H2 := Lib.hid h2
  clear h1 h2 hb HI
  by_cases hz : 0 ≤ z
  · have HY : Hid (inB ns s = true) := Lib.hid (by
      rcases Bool.eq_false_or_eq_true (inB ns s) with h | h
      · exact h
      · have := H2.out h; omega)
    go_wp2_with fail
    go_ret
    exact ⟨by rw [HY.out]; rfl, HB.out⟩
  · have HY : Hid (inB ns s = false) := Lib.hid (by
      rcases Bool.eq_false_or_eq_true (inB ns s) with h | h
      · have := H1.out h; omega
      · exact h)
    have hd : decide (0 ≤ z) = false := decide_eq_false hz
    go_wp2_with fail
    go_ret
    exact ⟨by rw [HY.out]; rfl, HB.out⟩

end Go.Proofs.Ytkmjaiicobkkhaa
