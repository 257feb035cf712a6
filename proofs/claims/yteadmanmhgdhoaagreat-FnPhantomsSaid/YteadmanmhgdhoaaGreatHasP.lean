/-
  The library's Index and Contains on picks.
-/
import Derived.Test.YteadmanmhgdhoaaGreatBuA
import Derived.Test.YteadmanmhgdhoaaGreatCondHolds
import Derived.WalkKit
import Derived.WalkSpells
import Derived.WalkSmall
import Derived.BigQuiet
import Derived.Deep.QuietTactic
import Derived.Deep.DeepCutAuto
import Derived.Lib.Hide
namespace Go.Proofs.YteadmanmhgdhoaaGreat
open Go.RowKit

set_option maxRecDepth 100000 in
set_option maxHeartbeats 1000000 in
theorem im_indexP (v : Value) (ps : List PK) (o u : ByteArray) (w : World) (h : PK.Is w v ps) (hm : ps.length ≤ maxLen) :
    Calls Tryz.prog 161 #[v, .agg #[.string o, .string u]] w (IdxRes (hasP ps o u) w) := by
  unfold maxLen at hm
  have HX := Lib.hid h
  obtain ⟨a', c', rfl⟩ := h.slice
  clear h
  have HG0 := heap_alloc_new w (.cells #[.string o, .string u] 108)
  have HB0 : Below w.heap.size w (w.alloc (.cells #[.string o, .string u] 108)) := (Below.refl _ _).alloc (Nat.le_refl _) _
  go_enter Tryz.func161, Tryz.ntmps161
  go_wp2_with fail
  generalize w.alloc (.cells #[.string o, .string u] 108) = w0 at *
  go_loopw [8] (fun i wr => ∃ k : Nat, i = .int .i64 k ∧ k ≤ ps.length ∧ Hid (∀ p, p ∈ ps.take k → ¬(p.opt = o ∧ p.vl = u)) ∧ Hid (wr.heap[w.heap.size]? = some (.cells #[.string o, .string u] 108)) ∧ Hid (Below w.heap.size w wr)) (fun i _ => ps.length - (intOf i).toNat)
  case atStart => exact ⟨0, rfl, Nat.zero_le _, Lib.hid (fun p hp => by simp at hp), Lib.hid HG0, Lib.hid HB0⟩
  case round =>
    obtain ⟨k, rfl, hk, HN, HG, HB⟩ := hrel
    clear HG0 HB0
    by_cases hlt : k < ps.length
    rotate_left
    · have HY : Hid (hasP ps o u = false) := Lib.hid (hasP_to (by have := HN.out; rwa [List.take_of_length_le (by omega)] at this))
      go_wp2_with fail
      go_ret
      exact ⟨-1, rfl, (fun h => by rw [HY.out] at h; cases h), fun _ => by decide, HB.out⟩
    have HM : Hid ((ps[k]'hlt) ∈ ps) := Lib.hid (List.getElem_mem hlt)
    have HT : Hid (ps.take (k + 1) = ps.take k ++ [ps[k]'hlt]) := Lib.hid (List.take_succ_eq_append_getElem hlt)
    obtain ⟨b2, o2, c2, hv2, hc2, hcell2⟩ := HX.out.some (by omega)
    simp only [Value.slice.injEq] at hv2
    obtain ⟨rfl, _, rfl⟩ := hv2
    obtain ⟨r0, r1⟩ := (hcell2.below HB.out).at k hlt
    generalize ps[k]'hlt = x at *
    clear hcell2 hc2
    have HN2 : Hid (¬(x.opt = o ∧ x.vl = u) → ∀ p, p ∈ ps.take (k + 1) → ¬(p.opt = o ∧ p.vl = u)) := Lib.hid (fun hx p hp => by
      rw [HT.out] at hp
      rcases List.mem_append.1 hp with hp | hp
      · exact HN.out p hp
      · obtain rfl := List.mem_singleton.1 hp
        exact hx)
    have g0 := cell_of_row _ _ 0 _ _ _ HG.out
    have g1 := cell_of_row _ _ 1 _ _ _ HG.out
    have n1 : (k : Int) < (ps.length : Int) := by omega
    have n0 : (0 : Int) ≤ (k : Int) := by omega
    by_cases ho : x.opt = o
    · have bo := str_eq ho.symm
      by_cases hv : x.vl = u
      · have bv := str_eq hv.symm
        have HY : Hid (hasP ps o u = true) := Lib.hid (hasP_in HM.out ⟨ho, hv⟩)
        clear ho hv
        go_wp2_with fail
        go_quiet (fail)
        go_wp2_with fail
        go_ret
        exact ⟨k, rfl, fun _ => by omega, (fun h => by rw [HY.out] at h; cases h), below_drewN HB.out _⟩
      · have bv := str_ne (fun e => hv e.symm)
        have HS := Lib.hid (HN2.out (fun h => hv h.2))
        clear ho hv
        go_wp2_with fail
        go_quiet (fail)
        go_wp2_with fail
        go_roundw
        case rel => exact ⟨k + 1, by go_num, by omega, HS, Lib.hid HG.out, Lib.hid (below_drewN HB.out _)⟩
        case measure => simp [intOf]; omega
    · have bo := str_ne (fun e => ho e.symm)
      have HS := Lib.hid (HN2.out (fun h => ho h.1))
      clear ho
      go_wp2_with fail
      go_quiet (fail)
      go_wp2_with fail
      go_roundw
      case rel => exact ⟨k + 1, by go_num, by omega, HS, Lib.hid HG.out, Lib.hid (below_drewN HB.out _)⟩
      case measure => simp [intOf]; omega

set_option maxRecDepth 100000 in
set_option maxHeartbeats 1000000 in
theorem im_hasP (v : Value) (ps : List PK) (o u : ByteArray) (w : World) (h : PK.Is w v ps) (hm : ps.length ≤ maxLen) :
    Calls Tryz.prog 160 #[v, .agg #[.string o, .string u]] w (BoolRes (hasP ps o u) w) := by
  have HB0 : Below w.heap.size w (w.alloc (.cells #[.string o, .string u] 108)) := (Below.refl _ _).alloc (Nat.le_refl _) _
  have HI := Lib.hid (im_indexP v ps o u (w.alloc (.cells #[.string o, .string u] 108)) (h.below HB0) hm)
  clear h
  go_enter Tryz.func160, Tryz.ntmps160
  go_wp2_with fail
  generalize w.alloc (.cells #[.string o, .string u] 108) = w0 at *
  refine HI.out.mono ?_
  rintro e w1 ⟨z, rfl, h1, h2, hb⟩
  have HB := Lib.hid (HB0.trans (hb.mono HB0.size))
  have H1 := Lib.hid h1
  have H2 := Lib.hid h2
  clear h1 h2 hb HI
  by_cases hz : 0 ≤ z
  · have HY : Hid (hasP ps o u = true) := Lib.hid (by
      rcases Bool.eq_false_or_eq_true (hasP ps o u) with h | h
      · exact h
      · have := H2.out h; omega)
    go_wp2_with fail
    go_ret
    exact ⟨by rw [HY.out]; rfl, HB.out⟩
  · have HY : Hid (hasP ps o u = false) := Lib.hid (by
      rcases Bool.eq_false_or_eq_true (hasP ps o u) with h | h
      · have := H1.out h; omega
      · exact h)
    have hd : decide (0 ≤ z) = false := decide_eq_false hz
    go_wp2_with fail
    go_ret
    exact ⟨by rw [HY.out]; rfl, HB.out⟩

end Go.Proofs.YteadmanmhgdhoaaGreat
