/-
  The program's IsCalendar.
-/
import Derived.Test.YtkhonlcekjckoaaRows
import Derived.Test.YtkhonlcekjckoaaExcs
import Derived.Test.YtkhonlcekjckoaaCalLib
import Derived.Test.YtkhonlcekjckoaaCalHours
import Derived.Test.YtkhonlcekjckoaaSpecIn
import Derived.Test.YtkhonlcekjckoaaCalIs
import Derived.Test.YtkhonlcekjckoaaHold
import Derived.WalkKit
import Derived.WalkSpells
import Derived.WalkSmall
import Derived.BigQuiet
import Derived.Deep.DeepCutAuto
import Derived.Deep.QuietTactic
import Derived.Lib.Hide
namespace Go.Proofs.Ytkhonlcekjckoaa
open Go.RowKit


set_option maxRecDepth 100000 in
theorem impl_areHours (x : Int) (y : Bool) (w : World) (h : inB x 0 24 = y) : Calls Try.prog 52 #[.int .i64 x] w fun e w' => e = .returned (.bool y) ∧ w = w' := by
  subst h
  by_cases h0 : 0 ≤ x
  · by_cases h1 : x ≤ 24
    · have HI := Lib.hid (inB_yes h0 h1)
      go_enter Try.func52, Try.ntmps52
      go_wp2
      go_ret
      exact ⟨by rw [HI.out]; rfl, rfl⟩
    · have HI := Lib.hid (inB_no (x := x) (lo := 0) (hi := 24) (Or.inr (by omega)))
      go_enter Try.func52, Try.ntmps52
      go_wp2
      go_ret
      exact ⟨by rw [HI.out]; rfl, rfl⟩
  · have HI := Lib.hid (inB_no (x := x) (lo := 0) (hi := 24) (Or.inl (by omega)))
    go_enter Try.func52, Try.ntmps52
    go_wp2
    go_ret
    exact ⟨by rw [HI.out]; rfl, rfl⟩

set_option maxRecDepth 100000 in
theorem impl_isDay (x : Int) (y : Bool) (w : World) (h : inB x 0 999 = y) : Calls Try.prog 39 #[.int .i64 x] w fun e w' => e = .returned (.bool y) ∧ w = w' := by
  subst h
  by_cases h0 : 0 ≤ x
  · by_cases h1 : x ≤ 999
    · have HI := Lib.hid (inB_yes h0 h1)
      go_enter Try.func39, Try.ntmps39
      go_wp2
      go_ret
      exact ⟨by rw [HI.out]; rfl, rfl⟩
    · have HI := Lib.hid (inB_no (x := x) (lo := 0) (hi := 999) (Or.inr (by omega)))
      go_enter Try.func39, Try.ntmps39
      go_wp2
      go_ret
      exact ⟨by rw [HI.out]; rfl, rfl⟩
  · have HI := Lib.hid (inB_no (x := x) (lo := 0) (hi := 999) (Or.inl (by omega)))
    go_enter Try.func39, Try.ntmps39
    go_wp2
    go_ret
    exact ⟨by rw [HI.out]; rfl, rfl⟩

set_option maxRecDepth 100000 in
set_option maxHeartbeats 2000000 in
theorem impl_isCal (v : Value) (ws : List Int) (es : List (Int × Int)) (w : World) (h : Cal w v ws es) (hm : es.length ≤ 1048577) :
    Calls Try.prog 29 #[v] w (BRes (decide (IsCal ws es)) w) := by
  obtain ⟨vw, vx, rfl, hw, hx⟩ := h
  have HB : Below w.heap.size w (w.alloc (.cells #[vw, vx] 27)) := (Below.refl _ _).alloc (Nat.le_refl _) _
  have HR := heap_alloc_new w (.cells #[vw, vx] 27)
  have HW := Lib.hid (hw.below HB)
  have HE := Lib.hid (hx.below HB)
  obtain ⟨a, c, rfl⟩ := hw.slice
  obtain ⟨a', c', rfl⟩ := hx.slice
  clear hw hx
  by_cases h7 : ws.length = 7
  · by_cases h20 : 20 < es.length
    · have HD := Lib.hid (isCal_no20 (ws := ws) h20)
      have b7 : ((ws.length : Int) != 7) = false := by rw [h7]; rfl
      have b20 : decide ((20 : Int) < (es.length : Int)) = true := decide_eq_true (by omega)
      clear h7 HR HW HE
      go_enter Try.func29, Try.ntmps29
      go_wp2_with fail
      go_ret
      exact ⟨by rw [HD.out]; rfl, HB⟩
    · have b20 : decide ((20 : Int) < (es.length : Int)) = false := decide_eq_false (by omega)
      have b7 : ((ws.length : Int) != 7) = false := by rw [h7]; rfl
      obtain ⟨b, o, cw, hv, hc, hcell⟩ := HW.out.cells (by omega)
      simp only [Value.slice.injEq, true_and] at hv
      obtain ⟨rfl, rfl⟩ := hv
      have HC := Lib.hid hcell
      have H7 := Lib.hid h7
      have H20 := Lib.hid h20
      clear hcell h7
      go_enter Try.func29, Try.ntmps29
      go_wp2_with fail
      generalize w.alloc (.cells #[.slice (some ⟨b, o, none⟩) ws.length c, .slice a' es.length c'] 27) = w1 at *
      have c0 := cell_of_row _ _ 0 _ _ _ HR
      have c1 := cell_of_row _ _ 1 _ _ _ HR
      go_loop [21] (fun i => ∃ k : Nat, k ≤ ws.length ∧ i = .int .i64 k ∧ WkTo ws k) (fun i => ws.length - (intOf i).toNat)
      case atStart => exact ⟨0, by omega, rfl, fun j h => by omega⟩
      case round =>
        obtain ⟨k, hk, rfl, hto⟩ := hrel
        have HT := Lib.hid hto
        clear hto
        by_cases hl : k < ws.length
        · have hlt : k < 7 := by have := H7.out; omega
          have e1 := HC.out.at k hl
          by_cases hin : 0 ≤ ws[k]'hl ∧ ws[k]'hl ≤ 24
          · have HI := Lib.hid (inB_yes hin.1 hin.2)
            have HT2 := Lib.hid (wkTo_succ HT.out hl hin)
            clear hin HT
            generalize ws[k]'hl = x at *
            go_wp2_with fail
            refine (impl_areHours _ _ _ HI.out).mono ?_
            rintro e w2 ⟨rfl, rfl⟩
            go_wp2_with fail
            go_round
            case rel => exact ⟨k + 1, by omega, by go_num, HT2.out⟩
            case measure => simp [intOf]; omega
          · have HD := Lib.hid (isCal_noW (ws := ws) (es := es) hlt hl hin)
            have HI := Lib.hid (inB_no (x := ws[k]'hl) (lo := 0) (hi := 24) (by omega))
            clear hin HT
            generalize ws[k]'hl = x at *
            go_wp2_with fail
            refine (impl_areHours _ _ _ HI.out).mono ?_
            rintro e w2 ⟨rfl, rfl⟩
            go_wp2_with fail
            go_ret
            exact ⟨by rw [HD.out]; rfl, HB⟩
        · have HT7 : Hid (WkTo ws 7) := Lib.hid (by have h3 := HT.out; rwa [show k = 7 by have := H7.out; omega] at h3)
          clear HT
          go_wp2_with fail
          go_loopw [5, 32] (fun bv i wr => ∃ (k : Nat) (bf : Int), k ≤ es.length ∧ i = .int .i64 k ∧ bv = .int .i64 bf ∧ (k = 0 → bf = -1) ∧ (0 < k → bf = (es.getD (k - 1) (0, 0)).1) ∧ ExTo es k ∧ Below w1.heap.size w1 wr) (fun _ i _ => es.length - (intOf i).toNat)
          case atStart => exact ⟨0, -1, by omega, rfl, rfl, fun _ => rfl, fun h => absurd h (by omega), fun j h => absurd h (by omega), Below.refl _ _⟩
          case round =>
            obtain ⟨k, bf, hk, rfl, rfl, hbf0, hbf1, hto, hb⟩ := hrel
            have HX := Lib.hid hto
            have HF0 := Lib.hid hbf0
            have HF1 := Lib.hid hbf1
            have HB2 := Lib.hid hb
            have HR2 := blk_below HR hb
            clear hto c0 c1 hbf0 hbf1
            have c0 := cell_of_row _ _ 0 _ _ _ HR2
            have c1 := cell_of_row _ _ 1 _ _ _ HR2
            by_cases hlt : k < es.length
            · obtain ⟨b2, o2, c2, hv2, hc2, hcell2⟩ := HE.out.some (by omega)
              simp only [Value.slice.injEq] at hv2
              obtain ⟨rfl, _, rfl⟩ := hv2
              have e1 := (hcell2.below hb).fst k hlt
              have e2 := (hcell2.below hb).snd k hlt
              have HGE := Lib.hid (getE hlt)
              have HB3 := Lib.hid (hb.alloc hb.size (.cells #[.int .i64 (es[k]'hlt).1, .int .i64 (es[k]'hlt).2] 56))
              by_cases hp3 : (es[k]'hlt).1 ≤ bf
              · have HD := Lib.hid (isCal_noE (ws := ws) hlt (fun h => by
                  rcases Nat.eq_zero_or_pos k with e | e
                  · have := HF0.out e; have h3 := h.1.1; rw [HGE.out] at h3; omega
                  · have h3 := h.2.2 e; rw [HGE.out, ← HF1.out e] at h3; omega))
                have b3 : decide ((es[k]'hlt).1 ≤ bf) = true := decide_eq_true hp3
                clear hp3
                generalize es[k]'hlt = x at *
                go_wp2_with fail
                go_ret
                exact ⟨by rw [HD.out]; rfl, HB.trans (HB3.out.mono HB.size)⟩
              · have b3 : decide ((es[k]'hlt).1 ≤ bf) = false := decide_eq_false hp3
                by_cases hp1 : 0 ≤ (es[k]'hlt).1 ∧ (es[k]'hlt).1 ≤ 999
                · have HI1 := Lib.hid (inB_yes hp1.1 hp1.2)
                  by_cases hp2 : 0 ≤ (es[k]'hlt).2 ∧ (es[k]'hlt).2 ≤ 24
                  · have HI2 := Lib.hid (inB_yes hp2.1 hp2.2)
                    have HX2 := Lib.hid (exTo_succ HX.out ⟨by rw [HGE.out]; exact hp1, by rw [HGE.out]; exact hp2, fun e => by rw [HGE.out, ← HF1.out e]; omega⟩)
                    clear hp1 hp2 hp3
                    generalize es[k]'hlt = x at *
                    go_wp2_with fail
                    refine (impl_isDay _ _ _ HI1.out).mono ?_
                    rintro e w2 ⟨rfl, rfl⟩
                    go_wp2_with fail
                    refine (impl_areHours _ _ _ HI2.out).mono ?_
                    rintro e w2 ⟨rfl, rfl⟩
                    go_wp2_with fail
                    go_roundw
                    case rel => exact ⟨k + 1, x.1, by omega, by go_num, rfl, fun h => absurd h (by omega), fun _ => by rw [Nat.add_sub_cancel, HGE.out], HX2.out, HB3.out⟩
                    case measure => simp [intOf]; omega
                  · have HD := Lib.hid (isCal_noE (ws := ws) hlt (fun h => hp2 (by have h3 := h.2.1; rwa [HGE.out] at h3)))
                    have HI2 := Lib.hid (inB_no (x := (es[k]'hlt).2) (lo := 0) (hi := 24) (by omega))
                    clear hp1 hp2 hp3
                    generalize es[k]'hlt = x at *
                    go_wp2_with fail
                    refine (impl_isDay _ _ _ HI1.out).mono ?_
                    rintro e w2 ⟨rfl, rfl⟩
                    go_wp2_with fail
                    refine (impl_areHours _ _ _ HI2.out).mono ?_
                    rintro e w2 ⟨rfl, rfl⟩
                    go_wp2_with fail
                    go_ret
                    exact ⟨by rw [HD.out]; rfl, HB.trans (HB3.out.mono HB.size)⟩
                · have HD := Lib.hid (isCal_noE (ws := ws) hlt (fun h => hp1 (by have h3 := h.1; rwa [HGE.out] at h3)))
                  have HI1 := Lib.hid (inB_no (x := (es[k]'hlt).1) (lo := 0) (hi := 999) (by omega))
                  clear hp1 hp3
                  generalize es[k]'hlt = x at *
                  go_wp2_with fail
                  refine (impl_isDay _ _ _ HI1.out).mono ?_
                  rintro e w2 ⟨rfl, rfl⟩
                  go_wp2_with fail
                  go_ret
                  exact ⟨by rw [HD.out]; rfl, HB.trans (HB3.out.mono HB.size)⟩
            · have hke : k = es.length := by omega
              have HD := Lib.hid (isCal_all (ws := ws) (es := es) H7.out (by have := H20.out; omega) HT7.out (hke ▸ HX.out))
              clear hke
              go_wp2_with fail
              go_ret
              exact ⟨by rw [HD.out]; rfl, HB.trans (HB2.out.mono HB.size)⟩
  · have HD := Lib.hid (isCal_no7 (es := es) h7)
    have b7 : ((ws.length : Int) != 7) = true := by simp; omega
    clear h7 HR HW HE
    go_enter Try.func29, Try.ntmps29
    go_wp2_with fail
    go_ret
    exact ⟨by rw [HD.out]; rfl, HB⟩
end Go.Proofs.Ytkhonlcekjckoaa
