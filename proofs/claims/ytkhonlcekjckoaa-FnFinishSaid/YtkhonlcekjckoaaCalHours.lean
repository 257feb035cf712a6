/-
  The model's l4Hours: the hours of a day in a calendar that is valid.
-/
import Derived.Test.YtkhonlcekjckoaaRows
import Derived.Test.YtkhonlcekjckoaaExcs
import Derived.Test.YtkhonlcekjckoaaCalLib
import Derived.Test.YtkhonlcekjckoaaHold
import Derived.WalkKit
import Derived.WalkSpells
import Derived.WalkSmall
import Derived.BigQuiet
import Derived.Deep.QuietTactic
import Derived.Lib.Hide
namespace Go.Proofs.Ytkhonlcekjckoaa
open Go.RowKit

theorem Ints.cells {w : World} {v : Value} {xs : List Int} (h : Ints w v xs) (h0 : 0 < xs.length) : ∃ b o c : Nat, v = .slice (some ⟨b, o, none⟩) xs.length c ∧ xs.length ≤ c ∧ CellsI w b o xs := by
  rcases h with ⟨rfl, _⟩ | ⟨_, h⟩
  · simp at h0
  · exact h

/-- A number is returned. -/
def NumRes (x : Int) (w : World) (e : Ending) (w' : World) : Prop := e = .returned (.int .i64 x) ∧ Below w.heap.size w w'

set_option maxRecDepth 100000 in
set_option maxHeartbeats 1000000 in
theorem spec_hours (v : Value) (ws : List Int) (es : List (Int × Int)) (d : Nat) (w : World) (h : Cal w v ws es) (hv : IsCal ws es) (hd : d ≤ 1000) :
    Calls Try.prog 42 #[v, .int .i64 (d : Int)] w (NumRes (hOf ws es d) w) := by
  obtain ⟨vw, vx, rfl, hw, hx⟩ := h
  have H7 := Lib.hid hv.1
  have h20 := hv.2.1
  obtain ⟨b, o, c, rfl, hc, hcell⟩ := hw.cells (by have := H7.out; omega)
  have HB : Below w.heap.size w (w.alloc (.cells #[.slice (some ⟨b, o, none⟩) ws.length c, vx] 27)) := (Below.refl _ _).alloc (Nat.le_refl _) _
  have HR := heap_alloc_new w (.cells #[.slice (some ⟨b, o, none⟩) ws.length c, vx] 27)
  have HW := Lib.hid (hcell.below HB)
  have HE := Lib.hid (hx.below HB)
  obtain ⟨a', c', rfl⟩ := hx.slice
  go_enter Try.func42, Try.ntmps42
  go_wp2_with fail
  generalize w.alloc (.cells #[.slice (some ⟨b, o, none⟩) ws.length c, .slice a' es.length c'] 27) = w1 at *
  have c0 := cell_of_row _ _ 0 _ _ _ HR
  have c1 := cell_of_row _ _ 1 _ _ _ HR
  clear HR hw hcell hx hv
  go_loop [5] (fun i => ∃ k : Nat, k ≤ es.length ∧ i = .int .i64 k ∧ ∀ j, (hj : j < es.length) → j < k → (es[j]'hj).1 ≠ (d : Int)) (fun i => es.length - (intOf i).toNat)
  case atStart => exact ⟨0, Nat.zero_le _, rfl, fun j _ h => by omega⟩
  case round =>
    obtain ⟨k, hk, rfl, hno⟩ := hrel
    have HNO := Lib.hid hno
    clear hno
    by_cases hlt : k < es.length
    · obtain ⟨b2, o2, c2, hv2, hc2, hcell2⟩ := HE.out.some (by omega)
      simp only [Value.slice.injEq] at hv2
      obtain ⟨rfl, _, rfl⟩ := hv2
      have e1 := hcell2.fst k hlt
      have e2 := hcell2.snd k hlt
      by_cases he : (es[k]'hlt).1 = (d : Int)
      · have HH := Lib.hid (hOf_at (ws := ws) hlt he (fun j hj => HNO.out j (by omega) hj))
        have hbq : ((es[k]'hlt).1 == (d : Int)) = true := beq_iff_eq.2 he
        clear he
        generalize es[k]'hlt = x at *
        go_wp2
        go_ret
        exact ⟨by rw [HH.out]; rfl, HB⟩
      · have hbq : ((es[k]'hlt).1 == (d : Int)) = false := beq_eq_false_iff_ne.2 he
        have HNO2 : Hid (∀ j, (hj : j < es.length) → j < k + 1 → (es[j]'hj).1 ≠ (d : Int)) := Lib.hid (fun j hj h1 => by
          by_cases e : j = k
          · subst e; exact he
          · exact HNO.out j hj (by omega))
        clear he HNO
        generalize es[k]'hlt = x at *
        go_wp2
        go_round
        case rel => exact ⟨k + 1, by omega, by go_num, HNO2.out⟩
        case measure => simp [intOf]; omega
    · have HH := Lib.hid (hOf_none (ws := ws) (es := es) (d := d) (fun j hj => HNO.out j hj (by omega)))
      have hd7 : d % 7 < ws.length := by have := H7.out; have := Nat.mod_lt d (show 0 < 7 by omega); omega
      have e3 := HW.out.at (d % 7) hd7
      have HG : Hid (ws.getD (d % 7) 0 = ws[d % 7]'hd7) := Lib.hid (by simp [List.getD, hd7])
      have hm7 : (d : Int) % 7 = ((d % 7 : Nat) : Int) := by omega
      generalize hq : d % 7 = q at *
      generalize ws[q]'hd7 = x at *
      go_wp2
      go_ret
      exact ⟨by rw [HH.out, HG.out]; rfl, HB⟩
end Go.Proofs.Ytkhonlcekjckoaa
