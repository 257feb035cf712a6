/-
  The verifier's own helpers on calendars: size, copy, equality.
-/
import Derived.Test.YtkhonlcekjckoaaRows
import Derived.Test.YtkhonlcekjckoaaExcs
import Derived.Test.YtkhonlcekjckoaaExcsTo
import Derived.Test.YtkhonlcekjckoaaExcsEq
import Derived.Test.YtkhonlcekjckoaaIntsTo
import Derived.Test.YtkhonlcekjckoaaIntsEq
import Derived.Test.YtkhonlcekjckoaaHold
import Derived.WalkKit
import Derived.WalkSpells
import Derived.WalkSmall
import Derived.ProofKit
import Derived.Lib.Hide
namespace Go.Proofs.Ytkhonlcekjckoaa
open Go.RowKit

set_option maxRecDepth 100000 in
theorem sz_ints (a : Option Addr) (n c : Nat) (left : Int) (w : World) (h0 : 0 ≤ left) (h1 : left ≤ 1048576) (hm : n ≤ maxLen) :
    Calls Try.prog 48 #[.slice a n c, .int .i64 left] w fun e w' => e = .returned (.int .i64 (if left < n then -1 else left - n)) ∧ w' = w := by
  unfold maxLen at hm
  by_cases h : left < n
  · rw [if_pos h]
    go_enter Try.func48, Try.ntmps48
    go_wp2
    go_ret
    exact ⟨rfl, rfl⟩
  · rw [if_neg h]
    go_enter Try.func48, Try.ntmps48
    go_wp2
    go_ret
    exact ⟨rfl, rfl⟩
set_option maxRecDepth 100000 in
theorem sz_excs (a : Option Addr) (n c : Nat) (left : Int) (w : World) (h0 : 0 ≤ left) (h1 : left ≤ 1048576) (hm : n ≤ maxLen) :
    Calls Try.prog 49 #[.slice a n c, .int .i64 left] w fun e w' => e = .returned (.int .i64 (if left < n then -1 else left - n)) ∧ w' = w := by
  unfold maxLen at hm
  by_cases h : left < n
  · rw [if_pos h]
    go_enter Try.func49, Try.ntmps49
    go_wp2
    go_ret
    exact ⟨rfl, rfl⟩
  · rw [if_neg h]
    go_enter Try.func49, Try.ntmps49
    go_wp2
    go_ret
    exact ⟨rfl, rfl⟩

/-- What is left of the size. -/
def szLeft (ws : List Int) (es : List (Int × Int)) : Int := if 1048576 < ws.length + es.length then -1 else 1048576 - ws.length - es.length

set_option maxRecDepth 100000 in
set_option maxHeartbeats 400000 in
theorem sz_cal (v : Value) (ws : List Int) (es : List (Int × Int)) (w : World) (h : Cal w v ws es) (hm : ws.length ≤ maxLen) (hm' : es.length ≤ maxLen) :
    Calls Try.prog 27 #[v, .int .i64 1048576] w fun e w' => e = .returned (.int .i64 (szLeft ws es)) ∧ Below w.heap.size w w' := by
  obtain ⟨vw, vx, rfl, hw, hx⟩ := h
  obtain ⟨a, c, rfl⟩ := hw.slice
  obtain ⟨a', c', rfl⟩ := hx.slice
  have HM := Lib.hid hm
  have HM' := Lib.hid hm'
  unfold maxLen at hm hm'
  clear hw hx
  go_enter Try.func27, Try.ntmps27
  go_wp2_with fail
  refine (sz_ints _ _ _ _ _ (by omega) (by omega) HM.out).mono ?_
  rintro e w2 ⟨rfl, rfl⟩
  by_cases hbig : (1048576 : Int) < ws.length
  · rw [if_pos hbig]
    have HS : Hid (szLeft ws es = -1) := Lib.hid (if_pos (by omega))
    go_wp2_with fail
    go_ret
    exact ⟨by rw [HS.out]; rfl, (Below.refl _ _).alloc (Nat.le_refl _) _⟩
  · rw [if_neg hbig]
    go_wp2_with fail
    refine (sz_excs _ _ _ _ _ (by omega) (by omega) HM'.out).mono ?_
    rintro e w3 ⟨rfl, rfl⟩
    by_cases hbig2 : (1048576 : Int) - ws.length < es.length
    · rw [if_pos hbig2]
      have HS : Hid (szLeft ws es = -1) := Lib.hid (if_pos (by omega))
      go_wp2_with fail
      go_ret
      exact ⟨by rw [HS.out]; rfl, (Below.refl _ _).alloc (Nat.le_refl _) _⟩
    · rw [if_neg hbig2]
      have HS : Hid (szLeft ws es = 1048576 - ws.length - es.length) := Lib.hid (if_neg (by omega))
      go_wp2_with fail
      go_ret
      exact ⟨by rw [HS.out]; rfl, (Below.refl _ _).alloc (Nat.le_refl _) _⟩

/-- A copy of a calendar. -/
def CopyCal (ws : List Int) (es : List (Int × Int)) (w : World) (e : Ending) (w' : World) : Prop := ∃ v, e = .returned v ∧ Cal w' v ws es ∧ Below w.heap.size w w'

set_option maxRecDepth 100000 in
set_option maxHeartbeats 1000000 in
theorem to_cal (v : Value) (ws : List Int) (es : List (Int × Int)) (w : World) (h : Cal w v ws es) (hm : ws.length ≤ 1048576) (hm' : es.length ≤ 1048576) :
    Calls Try.prog 28 #[v] w (CopyCal ws es w) := by
  obtain ⟨vw, vx, rfl, hw, hx⟩ := h
  have HB : Below w.heap.size w (((w.alloc (.cells #[vw, vx] 37)).alloc (.cells #[.slice none 0 0, .slice none 0 0] 27)).alloc (.cells #[.slice none 0 0, .slice none 0 0] 27)) := (((Below.refl _ _).alloc (Nat.le_refl _) _).alloc (by simp) _).alloc (by simp; omega) _
  have HA : (((w.alloc (.cells #[vw, vx] 37)).alloc (.cells #[.slice none 0 0, .slice none 0 0] 27)).alloc (.cells #[.slice none 0 0, .slice none 0 0] 27)).heap[w.heap.size]? = some (.cells #[vw, vx] 37 (0, 0)) := blk_alloc (heap_alloc2_old w _ _) _
  have HR : (((w.alloc (.cells #[vw, vx] 37)).alloc (.cells #[.slice none 0 0, .slice none 0 0] 27)).alloc (.cells #[.slice none 0 0, .slice none 0 0] 27)).heap[w.heap.size + 1]? = some (.cells #[.slice none 0 0, .slice none 0 0] 27 (0, 0)) := blk_alloc (heap_alloc2_new w _ _) _
  have HO : (((w.alloc (.cells #[vw, vx] 37)).alloc (.cells #[.slice none 0 0, .slice none 0 0] 27)).alloc (.cells #[.slice none 0 0, .slice none 0 0] 27)).heap[w.heap.size + 1 + 1]? = some (.cells #[.slice none 0 0, .slice none 0 0] 27 (0, 0)) := by
    have h0 := heap_alloc_new ((w.alloc (.cells #[vw, vx] 37)).alloc (.cells #[.slice none 0 0, .slice none 0 0] 27)) (.cells #[.slice none 0 0, .slice none 0 0] 27)
    rw [show ((w.alloc (.cells #[vw, vx] 37)).alloc (.cells #[.slice none 0 0, .slice none 0 0] 27)).heap.size = w.heap.size + 1 + 1 from by simp] at h0
    exact h0
  have HZ : Hid ((((w.alloc (.cells #[vw, vx] 37)).alloc (.cells #[.slice none 0 0, .slice none 0 0] 27)).alloc (.cells #[.slice none 0 0, .slice none 0 0] 27)).heap.size = w.heap.size + 1 + 1 + 1) := Lib.hid (by simp)
  have HW := Lib.hid (hw.below HB)
  have HX := Lib.hid hx
  clear hw hx
  go_enter Try.func28, Try.ntmps28
  go_wp2_with fail
  generalize (((w.alloc (.cells #[vw, vx] 37)).alloc (.cells #[.slice none 0 0, .slice none 0 0] 27)).alloc (.cells #[.slice none 0 0, .slice none 0 0] 27)) = w0 at *
  refine (to_intsO _ ws _ HW.out hm).mono ?_
  rintro e w1 ⟨v1, rfl, ho, hb⟩
  have HA1 := blk_below HA hb
  have HR1 := blk_below HR hb
  have HO1 := blk_below HO hb
  obtain ⟨a1, p1, rfl⟩ := own_sl ho
  have HB1 := Lib.hid (HB.trans (hb.mono HB.size))
  have HV1 := Lib.hid ho
  have HZ1 : Hid (w.heap.size + 1 + 1 < w1.heap.size) := Lib.hid (by have := hb.size; have := HZ.out; omega)
  have c1 := cell_of_row _ _ 1 _ _ _ HA1
  have d0 := cell_of_row _ _ 0 _ _ _ HO1
  have f0 := frozen_of_row _ _ 0 _ _ HO1
  clear ho hb HA HR HO HB HW
  go_wp2_with fail
  have HA2 : (w1.setCell ⟨w.heap.size + 1 + 1, 0, none⟩ (.slice a1 ws.length p1)).heap[w.heap.size]? = some (.cells #[vw, vx] 37 (0, 0)) := (heap_setCell_other _ _ _ _ (by simp; omega)).trans HA1
  have HR2 : (w1.setCell ⟨w.heap.size + 1 + 1, 0, none⟩ (.slice a1 ws.length p1)).heap[w.heap.size + 1]? = some (.cells #[.slice none 0 0, .slice none 0 0] 27 (0, 0)) := (heap_setCell_other _ _ _ _ (by simp)).trans HR1
  have HO2 : (w1.setCell ⟨w.heap.size + 1 + 1, 0, none⟩ (.slice a1 ws.length p1)).heap[w.heap.size + 1 + 1]? = some (.cells #[(.slice a1 ws.length p1), .slice none 0 0] 27 (0, 0)) := heap_setCell_same _ _ 0 _ _ _ HO1
  have HV2 := Lib.hid (own_set HV1.out (w.heap.size + 1 + 1) 0 (.slice a1 ws.length p1) (by have := HZ.out; omega))
  have HB2 : Hid (Below w.heap.size w (w1.setCell ⟨w.heap.size + 1 + 1, 0, none⟩ (.slice a1 ws.length p1))) := Lib.hid (HB1.out.setCell (by simp; omega) _)
  have HX2 := Lib.hid (HX.out.below HB2.out)
  have HZ2 : Hid (w.heap.size + 1 + 1 < (w1.setCell ⟨w.heap.size + 1 + 1, 0, none⟩ (.slice a1 ws.length p1)).heap.size) := Lib.hid (by have := HZ1.out; simpa using this)
  clear HA1 HR1 HO1 c1 d0 f0 HB1 HX HV1
  generalize w1.setCell ⟨w.heap.size + 1 + 1, 0, none⟩ (.slice a1 ws.length p1) = w2 at *
  refine (to_excs _ es _ HX2.out hm').mono ?_
  rintro e w3 ⟨v2, rfl, ho, hb⟩
  have HR3 := blk_below HR2 hb
  have HO3 := blk_below HO2 hb
  have HB3 := Lib.hid (HB2.out.trans (hb.mono HB2.out.size))
  have HV3 := Lib.hid (kept_any HV2.out hb)
  have HY3 := Lib.hid ho
  have d0 := cell_of_row _ _ 0 _ _ _ HO3
  have d1 := cell_of_row _ _ 1 _ _ _ HO3
  have f0 := frozen_of_row _ _ 0 _ _ HO3
  have f1 := frozen_of_row _ _ 1 _ _ HO3
  have r0 := cell_of_row _ _ 0 _ _ _ HR3
  have r1 := cell_of_row _ _ 1 _ _ _ HR3
  have g0 := frozen_of_row _ _ 0 _ _ HR3
  have g1 := frozen_of_row _ _ 1 _ _ HR3
  obtain ⟨a2, p2, rfl⟩ := own_sl ho
  clear ho hb HA2 HR2 HO2 HX2 HB2 HV2
  go_wp2_with fail
  have hz1 := HZ.out
  have hz2 := HZ2.out
  have HRf : (w3.setCell ⟨w.heap.size + 1 + 1, 1, none⟩ (.slice a2 es.length p2)).heap[w.heap.size + 1]? = some (.cells #[.slice none 0 0, .slice none 0 0] 27 (0, 0)) := (heap_setCell_other _ _ _ _ (by simp)).trans HR3
  refine bodyPost_ret (v := .agg #[.slice a1 ws.length p1, .slice a2 es.length p2]) (results_cell_row Try.results28 _ _ _ _ #[.slice a1 ws.length p1, .slice a2 es.length p2] (0, 0) _ rfl (blk_pair HRf) Try.underlying27 rfl (by kernel_rfl)) rfl ⟨_, rfl, ⟨_, _, rfl, ?_, ?_⟩, ?_⟩
  · exact ints_of_row rfl (own_set (own_set (own_set HV3.out _ _ _ (by omega)) _ _ _ (by omega)) _ _ _ (by omega))
  · exact excs_of_row rfl (Nat.le_refl _) (own_set (own_set (own_set HY3.out _ _ _ (by omega)) _ _ _ (by omega)) _ _ _ (by omega))
  · exact ((HB3.out.setCell (by simp; omega) _).setCell (by simp) _).setCell (by simp) _

set_option maxRecDepth 100000 in
set_option maxHeartbeats 1000000 in
theorem eq_cal (v v' : Value) (ws : List Int) (es : List (Int × Int)) (w : World) (h : Cal w v ws es) (h' : Cal w v' ws es) (hm : ws.length ≤ 1048577) (hm' : es.length ≤ 1048577) :
    Calls Try.prog 30 #[v, v'] w fun e w' => e = .returned (.bool true) ∧ Below w.heap.size w w' := by
  obtain ⟨vw, vx, rfl, hw, hx⟩ := h
  obtain ⟨vw', vx', rfl, hw', hx'⟩ := h'
  have HB : Below w.heap.size w ((w.alloc (.cells #[vw, vx] 27)).alloc (.cells #[vw', vx'] 27)) := ((Below.refl _ _).alloc (Nat.le_refl _) _).alloc (by simp) _
  have HR : ((w.alloc (.cells #[vw, vx] 27)).alloc (.cells #[vw', vx'] 27)).heap[w.heap.size]? = some (.cells #[vw, vx] 27 (0, 0)) := heap_alloc2_old w _ _
  have HR' : ((w.alloc (.cells #[vw, vx] 27)).alloc (.cells #[vw', vx'] 27)).heap[w.heap.size + 1]? = some (.cells #[vw', vx'] 27 (0, 0)) := heap_alloc2_new w _ _
  have HW := Lib.hid (hw.below HB)
  have HX := Lib.hid (hx.below HB)
  have HW' := Lib.hid (hw'.below HB)
  have HX' := Lib.hid (hx'.below HB)
  clear hw hx hw' hx'
  go_enter Try.func30, Try.ntmps30
  go_wp2_with fail
  generalize (w.alloc (.cells #[vw, vx] 27)).alloc (.cells #[vw', vx'] 27) = w1 at *
  refine (eq_ints _ _ ws _ HW.out HW'.out hm).mono ?_
  rintro e w2 ⟨rfl, hb⟩
  have HR2 := blk_below HR hb
  have HR2' := blk_below HR' hb
  have c1 := cell_of_row _ _ 1 _ _ _ HR2
  have d1 := cell_of_row _ _ 1 _ _ _ HR2'
  have HB2 := Lib.hid (HB.trans (hb.mono HB.size))
  have HX2 := Lib.hid (HX.out.below hb)
  have HX2' := Lib.hid (HX'.out.below hb)
  clear hb HR HR' HB
  go_wp2_with fail
  refine (eq_excs _ _ es _ HX2.out HX2'.out hm').mono ?_
  rintro e w3 ⟨rfl, hb⟩
  go_wp2_with fail
  go_ret
  exact ⟨rfl, HB2.out.trans (hb.mono HB2.out.size)⟩
end Go.Proofs.Ytkhonlcekjckoaa
