/-
  The model's IsCalendar.
-/
import Derived.Test.YtkhonlcekjckoaaRows
import Derived.Test.YtkhonlcekjckoaaExcs
import Derived.Test.YtkhonlcekjckoaaCalLib
import Derived.Test.YtkhonlcekjckoaaCalHours
import Derived.Test.YtkhonlcekjckoaaSpecIn
import Derived.Test.YtkhonlcekjckoaaHold
import Derived.WalkKit
import Derived.WalkSpells
import Derived.WalkSmall
import Derived.BigQuiet
import Derived.Deep.DeepCutAuto
import Derived.Deep.QuietTactic
import Derived.Lib.Hide
namespace Go.Proofs.Ytkhonlcekjckoaa
open Go.RowKit

/-- A truth is returned. -/
def BRes (y : Bool) (w : World) (e : Ending) (w' : World) : Prop := e = .returned (.bool y) ∧ Below w.heap.size w w'

set_option maxRecDepth 100000 in
set_option maxHeartbeats 2000000 in
theorem spec_isCal (v : Value) (ws : List Int) (es : List (Int × Int)) (w : World) (h : Cal w v ws es) (hm : es.length ≤ 1048577) :
    Calls Try.prog 18 #[v] w (BRes (decide (IsCal ws es)) w) := by
  obtain ⟨vw, vx, rfl, hw, hx⟩ := h
  have HB : Below w.heap.size w (w.alloc (.cells #[vw, vx] 27)) := (Below.refl _ _).alloc (Nat.le_refl _) _
  have HR := heap_alloc_new w (.cells #[vw, vx] 27)
  have HW := Lib.hid (hw.below HB)
  have HE := Lib.hid (hx.below HB)
  obtain ⟨a, c, rfl⟩ := hw.slice
  obtain ⟨a', c', rfl⟩ := hx.slice
  clear hw hx
  by_cases h7 : ws.length = 7
  · by_cases h20 : 20 < es.length
    · have HD := Lib.hid (isCal_no20 (ws := ws) h20)
      have b7 : ((ws.length : Int) != 7) = false := by rw [h7]; rfl
      have b20 : decide ((20 : Int) < (es.length : Int)) = true := decide_eq_true (by omega)
      clear h7 HR HW HE
      go_enter Try.func18, Try.ntmps18
      go_wp2_with fail
      go_ret
      exact ⟨by rw [HD.out]; rfl, HB⟩
    · have b20 : decide ((20 : Int) < (es.length : Int)) = false := decide_eq_false (by omega)
      have b7 : ((ws.length : Int) != 7) = false := by rw [h7]; rfl
      obtain ⟨b, o, cw, hv, hc, hcell⟩ := HW.out.cells (by omega)
      simp only [Value.slice.injEq, true_and] at hv
      obtain ⟨rfl, rfl⟩ := hv
      have HC := Lib.hid hcell
      have H7 := Lib.hid h7
      have H20 := Lib.hid h20
      clear hcell h7
      go_enter Try.func18, Try.ntmps18
      go_wp2_with fail
      generalize w.alloc (.cells #[.slice (some ⟨b, o, none⟩) ws.length c, .slice a' es.length c'] 27) = w1 at *
      have c0 := cell_of_row _ _ 0 _ _ _ HR
      have c1 := cell_of_row _ _ 1 _ _ _ HR
      go_loop [3] (fun i => ∃ k : Nat, k ≤ 7 ∧ i = .int .i64 k ∧ WkTo ws k) (fun i => 7 - (intOf i).toNat)
      case atStart => exact ⟨0, by omega, rfl, fun j h => by omega⟩
      case round =>
        obtain ⟨k, hk, rfl, hto⟩ := hrel
        have HT := Lib.hid hto
        clear hto
        by_cases hlt : k < 7
        · have hl : k < ws.length := by have := H7.out; omega
          have e1 := HC.out.at k hl
          by_cases hin : 0 ≤ ws[k]'hl ∧ ws[k]'hl ≤ 24
          · have HI := Lib.hid (inB_yes hin.1 hin.2)
            have HT2 := Lib.hid (wkTo_succ HT.out hl hin)
            clear hin HT
            generalize ws[k]'hl = x at *
            go_wp2_with fail
            refine (spec_in _ _ _ _).mono ?_
            rintro e w2 ⟨rfl, rfl⟩
            rw [HI.out]
            go_wp2_with fail
            go_round
            case rel => exact ⟨k + 1, by omega, by go_num, HT2.out⟩
            case measure => simp [intOf]; omega
          · have HD := Lib.hid (isCal_noW (ws := ws) (es := es) hlt hl hin)
            have HI := Lib.hid (inB_no (x := ws[k]'hl) (lo := 0) (hi := 24) (by omega))
            clear hin HT
            generalize ws[k]'hl = x at *
            go_wp2_with fail
            refine (spec_in _ _ _ _).mono ?_
            rintro e w2 ⟨rfl, rfl⟩
            rw [HI.out]
            go_wp2_with fail
            go_ret
            exact ⟨by rw [HD.out]; rfl, HB⟩
        · obtain rfl : k = 7 := by omega
          go_wp2_with fail
          go_loopw [4] (fun i wr => ∃ k : Nat, k ≤ es.length ∧ i = .int .i64 k ∧ ExTo es k ∧ Below w1.heap.size w1 wr) (fun i _ => es.length - (intOf i).toNat)
          case atStart => exact ⟨0, by omega, rfl, fun j h => absurd h (by omega), Below.refl _ _⟩
          case round =>
            obtain ⟨k, hk, rfl, hto, hb⟩ := hrel
            have HX := Lib.hid hto
            have HR2 := blk_below HR hb
            clear hto c0 c1 hlt
            have c0 := cell_of_row _ _ 0 _ _ _ HR2
            have c1 := cell_of_row _ _ 1 _ _ _ HR2
            by_cases hlt : k < es.length
            · obtain ⟨b2, o2, c2, hv2, hc2, hcell2⟩ := HE.out.some (by omega)
              simp only [Value.slice.injEq] at hv2
              obtain ⟨rfl, _, rfl⟩ := hv2
              have e1 := (hcell2.below hb).fst k hlt
              have e2 := (hcell2.below hb).snd k hlt
              go_upto_region 12 with fail
              have HB3 : Hid (Below w1.heap.size w1 (wr.alloc (.cells #[.int .i64 (es[k]'hlt).1, .int .i64 (es[k]'hlt).2] 56))) := Lib.hid (hb.alloc hb.size _)
              have HRX := heap_alloc_new wr (.cells #[.int .i64 (es[k]'hlt).1, .int .i64 (es[k]'hlt).2] 56)
              have HR3 := blk_below HR HB3.out
              have HC3 := Lib.hid (hcell2.below HB3.out)
              have HGE := Lib.hid (getE hlt)
              have HS0 := Lib.hid HX.out
              generalize wr.alloc (.cells #[.int .i64 (es[k]'hlt).1, .int .i64 (es[k]'hlt).2] 56) = w3 at *
              clear c0 c1 e1 e2 HR2 HX
              have c1 := cell_of_row _ _ 1 _ _ _ HR3
              have x0 := cell_of_row _ _ 0 _ _ _ HRX
              have x1 := cell_of_row _ _ 1 _ _ _ HRX
              clear HR3 HRX
              by_cases hp1 : 0 ≤ (es[k]'hlt).1 ∧ (es[k]'hlt).1 ≤ 999
              · have HI1 := Lib.hid (inB_yes hp1.1 hp1.2)
                by_cases hp2 : 0 ≤ (es[k]'hlt).2 ∧ (es[k]'hlt).2 ≤ 24
                · have HI2 := Lib.hid (inB_yes hp2.1 hp2.2)
                  by_cases hk0 : 0 < k
                  · obtain ⟨m, rfl⟩ : ∃ m, k = m + 1 := ⟨k - 1, by omega⟩
                    have hlm : m < es.length := by omega
                    have ep := HC3.out.fst m hlm
                    have HGM := Lib.hid (getE hlm)
                    by_cases hp3 : (es[m + 1]'hlt).1 ≤ (es[m]'hlm).1
                    · have HD := Lib.hid (isCal_noE (ws := ws) hlt (fun h => by have h3 := h.2.2 (by omega); rw [Nat.add_sub_cancel, HGE.out, HGM.out] at h3; omega))
                      have b3 : decide ((es[m + 1]'hlt).1 ≤ (es[m]'hlm).1) = true := decide_eq_true hp3
                      clear hp1 hp2 hp3
                      generalize es[m + 1]'hlt = x at *
                      generalize es[m]'hlm = z at *
                      go_quiet (first | (go_at_call 41; first | with_reducible exact Calls.quiet_of_same (spec_in_is _ _ _ _ _ HI1.out) | with_reducible exact Calls.quiet_of_same (spec_in_is _ _ _ _ _ HI2.out)))
                      go_wp2_with fail
                      go_ret
                      exact ⟨by rw [HD.out]; rfl, HB.trans ((below_drewN HB3.out _).mono HB.size)⟩
                    · have HX2 := Lib.hid (exTo_succ HS0.out ⟨by rw [HGE.out]; exact hp1, by rw [HGE.out]; exact hp2, fun _ => by rw [Nat.add_sub_cancel, HGE.out, HGM.out]; omega⟩)
                      have b3 : decide ((es[m + 1]'hlt).1 ≤ (es[m]'hlm).1) = false := decide_eq_false hp3
                      clear hp1 hp2 hp3
                      generalize es[m + 1]'hlt = x at *
                      generalize es[m]'hlm = z at *
                      go_quiet (first | (go_at_call 41; first | with_reducible exact Calls.quiet_of_same (spec_in_is _ _ _ _ _ HI1.out) | with_reducible exact Calls.quiet_of_same (spec_in_is _ _ _ _ _ HI2.out)))
                      go_wp2_with fail
                      go_roundw
                      case rel => exact ⟨(m + 1 + 1), by omega, by go_num, HX2.out, below_drewN HB3.out _⟩
                      case measure => simp [intOf]; omega
                  · obtain rfl : k = 0 := by omega
                    have HX2 := Lib.hid (exTo_succ HS0.out ⟨by rw [HGE.out]; exact hp1, by rw [HGE.out]; exact hp2, fun h => absurd h (by omega)⟩)
                    clear hp1 hp2
                    generalize es[0]'hlt = x at *
                    go_quiet (first | (go_at_call 41; first | with_reducible exact Calls.quiet_of_same (spec_in_is _ _ _ _ _ HI1.out) | with_reducible exact Calls.quiet_of_same (spec_in_is _ _ _ _ _ HI2.out)))
                    go_wp2_with fail
                    go_roundw
                    case rel => exact ⟨(0 + 1), by omega, by go_num, HX2.out, below_drewN HB3.out _⟩
                    case measure => simp [intOf]; omega
                · have HD := Lib.hid (isCal_noE (ws := ws) hlt (fun h => hp2 (by have h3 := h.2.1; rwa [HGE.out] at h3)))
                  have HI2 := Lib.hid (inB_no (x := (es[k]'hlt).2) (lo := 0) (hi := 24) (by omega))
                  clear hp1 hp2
                  generalize es[k]'hlt = x at *
                  go_quiet (first | (go_at_call 41; first | with_reducible exact Calls.quiet_of_same (spec_in_is _ _ _ _ _ HI1.out) | with_reducible exact Calls.quiet_of_same (spec_in_is _ _ _ _ _ HI2.out)))
                  go_wp2_with fail
                  go_ret
                  exact ⟨by rw [HD.out]; rfl, HB.trans ((below_drewN HB3.out _).mono HB.size)⟩
              · have HD := Lib.hid (isCal_noE (ws := ws) hlt (fun h => hp1 (by have h3 := h.1; rwa [HGE.out] at h3)))
                have HI1 := Lib.hid (inB_no (x := (es[k]'hlt).1) (lo := 0) (hi := 999) (by omega))
                have HI2 := Lib.hid (rfl : inB 0 0 0 = true)
                clear hp1
                generalize es[k]'hlt = x at *
                go_quiet (first | (go_at_call 41; first | with_reducible exact Calls.quiet_of_same (spec_in_is _ _ _ _ _ HI1.out) | with_reducible exact Calls.quiet_of_same (spec_in_is _ _ _ _ _ HI2.out)))
                go_wp2_with fail
                go_ret
                exact ⟨by rw [HD.out]; rfl, HB.trans ((below_drewN HB3.out _).mono HB.size)⟩
            · have hke : k = es.length := by omega
              have HD := Lib.hid (isCal_all (ws := ws) (es := es) H7.out (by have := H20.out; omega) HT.out (hke ▸ HX.out))
              clear hke
              go_wp2_with fail
              go_ret
              exact ⟨by rw [HD.out]; rfl, HB.trans (hb.mono HB.size)⟩
  · have HD := Lib.hid (isCal_no7 (es := es) h7)
    have b7 : ((ws.length : Int) != 7) = true := by simp; omega
    clear h7 HR HW HE
    go_enter Try.func18, Try.ntmps18
    go_wp2_with fail
    go_ret
    exact ⟨by rw [HD.out]; rfl, HB⟩
end Go.Proofs.Ytkhonlcekjckoaa
