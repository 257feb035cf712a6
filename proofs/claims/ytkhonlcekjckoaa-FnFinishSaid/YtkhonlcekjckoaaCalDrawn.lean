/-
  The draw of a calendar.
-/
import Derived.Test.YtkhonlcekjckoaaCalCur
import Derived.Test.YtkhonlcekjckoaaDrawOnce
import Derived.Test.YtkhonlcekjckoaaDrawInt
import Derived.Test.YtkhonlcekjckoaaExcsTo
import Derived.Test.YtkhonlcekjckoaaIntsTo
import Derived.Test.YtkhonlcekjckoaaAppendSep
import Derived.WalkKit
import Derived.WalkSpells
import Derived.WalkSmall
import Derived.BigQuiet
import Derived.Deep.DeepCutAuto
import Derived.Deep.CutBlock
import Derived.Deep.QuietTactic
import Derived.Deep.RegionHeld3
import Derived.Deep.RegionLaw
import Derived.Lib.Hide
namespace Go.Proofs.Ytkhonlcekjckoaa
open Go.RowKit

set_option maxRecDepth 100000 in
set_option maxHeartbeats 4000000 in
theorem draw_cal : DrawCal := by
  intro B b a n c w hn hcode hcur hBw
  have HC := Lib.hid hcode
  have HU := Lib.hid hcur
  have hblt := hcur.lt
  have hBb := hcur.1
  clear hcode hcur
  obtain ⟨i0, hi, hz0, hz1, hz2⟩ := info_parts infoE
  obtain ⟨j0, hj, hj0, hj1, hj2⟩ := info_parts infoI
  have hB3 : B ≤ (((w.alloc (.cells #[.slice none 0 0, .slice none 0 0] 27)).alloc (.cells #[.int .i64 8, .int .i64 8, .int .i64 8, .int .i64 8, .int .i64 8, .int .i64 0, .int .i64 0] 3)).alloc (.cells #[.slice (some ⟨w.heap.size + 1, 0, none⟩) 7 7, .slice none 0 0] 27)).heap.size := by simp; omega
  have HS0 : Hid (CS B b w.heap.size (w.heap.size + 1 + 1) (w.heap.size + 1) 0 a n c w (((w.alloc (.cells #[.slice none 0 0, .slice none 0 0] 27)).alloc (.cells #[.int .i64 8, .int .i64 8, .int .i64 8, .int .i64 8, .int .i64 8, .int .i64 0, .int .i64 0] 3)).alloc (.cells #[.slice (some ⟨w.heap.size + 1, 0, none⟩) 7 7, .slice none 0 0] 27)) [8, 8, 8, 8, 8, 0, 0] (.slice none 0 0) []) := Lib.hid (by
    refine ⟨((HU.out.alloc _).alloc _).alloc _, ((World.grownBy_alloc _ _ _).trans (World.grownBy_alloc _ _ _)).trans (World.grownBy_alloc _ _ _), blk_alloc (blk_alloc (heap_alloc_new w _) _) _, ?_, ?_, World.ownsRow_nil _ _ _ _⟩
    · have h0 := heap_alloc_new ((w.alloc (.cells #[.slice none 0 0, .slice none 0 0] 27)).alloc (.cells #[.int .i64 8, .int .i64 8, .int .i64 8, .int .i64 8, .int .i64 8, .int .i64 0, .int .i64 0] 3)) (.cells #[.slice (some ⟨w.heap.size + 1, 0, none⟩) 7 7, .slice none 0 0] 27)
      rw [show ((w.alloc (.cells #[.slice none 0 0, .slice none 0 0] 27)).alloc (.cells #[.int .i64 8, .int .i64 8, .int .i64 8, .int .i64 8, .int .i64 8, .int .i64 0, .int .i64 0] 3)).heap.size = w.heap.size + 1 + 1 from by simp] at h0
      exact h0
    · have h0 := World.ownsRow_lit (base := w.heap.size) (e := 3) (size := 1) (w.alloc (.cells #[.slice none 0 0, .slice none 0 0] 27)) #[.int .i64 8, .int .i64 8, .int .i64 8, .int .i64 8, .int .i64 8, .int .i64 0, .int .i64 0] 7 (by simp) (by unfold maxLen; omega) rfl
      rw [show (w.alloc (.cells #[.slice none 0 0, .slice none 0 0] 27)).heap.size = w.heap.size + 1 from by simp] at h0
      exact h0.alloc _)
  have HC3 := Lib.hid (((HC.out.alloc hBw (.cells #[.slice none 0 0, .slice none 0 0] 27)).alloc (by simp; omega) (.cells #[.int .i64 8, .int .i64 8, .int .i64 8, .int .i64 8, .int .i64 8, .int .i64 0, .int .i64 0] 3)).alloc (by simp; omega) (.cells #[.slice (some ⟨w.heap.size + 1, 0, none⟩) 7 7, .slice none 0 0] 27))
  go_enter Try.func34, Try.ntmps34
  go_wp2_with fail
  generalize (((w.alloc (.cells #[.slice none 0 0, .slice none 0 0] 27)).alloc (.cells #[.int .i64 8, .int .i64 8, .int .i64 8, .int .i64 8, .int .i64 8, .int .i64 0, .int .i64 0] 3)).alloc (.cells #[.slice (some ⟨w.heap.size + 1, 0, none⟩) 7 7, .slice none 0 0] 27)) = w0 at *
  refine (l1_below B b a n c 5 _ hn HC3.out HS0.out.cur (by omega) (by omega) hB3).mono ?_
  rintro e w1 ⟨x, rfl, hx0, hx1, hd⟩
  have HS1 : Hid (CS B b w.heap.size (w.heap.size + 1 + 1) (w.heap.size + 1) (w.heap.size + 1 + 1 + 1) a n c w w1 [8, 8, 8, 8, 8, 0, 0] (.slice none 0 0) []) := Lib.hid ((HS0.out.rebase _).drawn ⟨hblt, by omega, by omega, by omega, by omega, by omega⟩ hd)
  clear HS0 hd HC3 hB3
  go_upto_block 0 with fail
  go_cut [] (fun wx => ∃ (gw : Nat) (ws : List Int), ws.length = 7 ∧ gw ≠ w.heap.size + 1 + 1 ∧ w.heap.size < gw ∧ gw < wx.heap.size ∧ Hid (CS B b w.heap.size (w.heap.size + 1 + 1) gw 0 a n c w wx ws (.slice none 0 0) []))
  case first =>
    have c0 := HS1.out.c0
    have f0 := HS1.out.f0
    have hlt := HS1.out.lt
    by_cases e0 : x = 0
    · have b0 : (x == 0) = true := beq_iff_eq.2 e0
      clear e0
      go_wp2_with fail
      go_meet
      exact ⟨w1.heap.size, [0, 4, 0, 24, 0, 0, 1], rfl, by omega, by omega, by simp, Lib.hid ((HS1.out.fresh (by omega) (by omega) rfl [0, 4, 0, 24, 0, 0, 1] rfl).rebase 0)⟩
    · have b0 : (x == 0) = false := beq_eq_false_iff_ne.2 e0
      by_cases e1 : x = 1
      · have b1 : (x == 1) = true := beq_iff_eq.2 e1
        clear e0 e1
        go_wp2_with fail
        go_meet
        exact ⟨w1.heap.size, [1, 1, 1, 1, 1, 1, 1], rfl, by omega, by omega, by simp, Lib.hid ((HS1.out.fresh (by omega) (by omega) rfl [1, 1, 1, 1, 1, 1, 1] rfl).rebase 0)⟩
      · have b1 : (x == 1) = false := beq_eq_false_iff_ne.2 e1
        clear e0 e1
        go_wp2_with fail
        go_meet
        exact ⟨w.heap.size + 1, [8, 8, 8, 8, 8, 0, 0], rfl, by omega, by omega, by omega, Lib.hid (HS1.out.rebase 0)⟩
  case rest =>
    obtain ⟨gw, ws, hw7, hg1, hg2, hg3, HSC⟩ := hcut
    have HL : Hid (Lie b w.heap.size (w.heap.size + 1 + 1) gw wc.heap.size) := Lib.hid ⟨hblt, by omega, hg2, hg1, HSC.out.lt, hg3⟩
    have HS2 := Lib.hid (HSC.out.rebase wc.heap.size)
    have HW7 := Lib.hid hw7
    have HCc := Lib.hid (HC.out.below (grown_below' HS2.out.gr hBb hBw))
    have hsc := HS2.out.gr.size
    clear HS1 HSC hw7
    go_wp2_with fail
    refine (l1_below B b a n c 4 _ hn HCc.out HS2.out.cur (by omega) (by omega) (by omega)).mono ?_
    rintro e w2 ⟨m0, rfl, hm0, hm1, hd⟩
    obtain ⟨m0, rfl⟩ : ∃ k : Nat, m0 = (k : Int) := ⟨m0.toNat, by omega⟩
    have HS3 := Lib.hid (HS2.out.drawn HL.out hd)
    have hs2 := hd.grown.size
    clear hd HS2 HCc
    go_wp2_with fail
    go_loopw [4, 5] (fun d y wr => ∃ (dv : Int) (m : Nat) (px : Option Addr) (qx : Nat) (es : List (Int × Int)), d = .int .i64 dv ∧ y = .int .i64 m ∧ 0 ≤ dv ∧ dv + 20 * m ≤ 100 ∧ es.length + m ≤ 3 ∧ wc.heap.size ≤ wr.heap.size ∧ Hid (CS B b w.heap.size (w.heap.size + 1 + 1) gw wc.heap.size a n c w wr ws (.slice px es.length qx) es)) (fun _ y _ => (intOf y).toNat)
    case atStart => exact ⟨0, m0, none, 0, [], rfl, rfl, by omega, by omega, by simp; omega, hs2, HS3⟩
    case round =>
      obtain ⟨dv, m, px, qx, es, rfl, rfl, hd0, hd1, hle, hsz, HS⟩ := hrel
      have HCr := Lib.hid (HC.out.below (grown_below' HS.out.gr hBb hBw))
      clear HS3
      by_cases hm : 0 < m
      · go_wp2_with fail
        refine (l1_below B b a n c 9 _ hn HCr.out HS.out.cur (by omega) (by omega) (by omega)).mono ?_
        rintro e w3 ⟨z, rfl, hz0', hz1', hd⟩
        have HS4 := Lib.hid (HS.out.drawn HL.out hd)
        have hs3 := hd.grown.size
        have HC4 := Lib.hid (HC.out.below (grown_below' HS4.out.gr hBb hBw))
        clear hd HS HCr
        have HPK := Lib.hid (l1_pickInt B b w3.heap.size 4 a n c ((w3.alloc (.cells #[.int .i64 0, .int .i64 0, .int .i64 12, .int .i64 24] 3)).drew) hn (codeAt_drew (HC4.out.alloc (by omega) _)) (curAt_drew (HS4.out.cur.alloc _)) (by omega) (by omega) (by simp; omega) (by omega) (intsAt_drew (ints_new w3 3 [0, 0, 12, 24] (by intro z hz; simp only [List.mem_cons, List.mem_nil_iff, or_false] at hz; omega))))
        go_upto_region 12 with fail
        have c1 := HS4.out.c1
        have hO := HS4.out.lt
        go_region_law (first | (go_simp; go_at_call 55; refine HPK.out.mono ?_; rintro e w4 ⟨z2, rfl, hz20, hz21, hd⟩; have HS5 := Lib.hid ((HS4.out.alloc (.cells #[.int .i64 0, .int .i64 0, .int .i64 12, .int .i64 24] 3)).drew.drawn HL.out hd); have c1' := HS5.out.c1; have hO' := HS5.out.lt; have hs4 : w3.heap.size + 1 ≤ w4.heap.size := (by have h9 := hd.grown.size; simpa using h9)) | (refine step_append_mine rfl (.tmp 30) (.tmp 36) 25 rfl wc.heap.size 56 i0 (.agg #[.int .i64 0, .int .i64 0]) 2 16 Try.underlying25 hi hz0 hz1 hz2 rfl (by decide) (.slice px es.length qx) es.length (halfE es es.length es.length) (by simp [Act.eval]) (HS5.out.alloc _).ex ⟨w4.heap.size, 0, none⟩ 1 1 [.int .i64 (dv + 1 + z), .int .i64 z2] (by simp [Act.eval]) rfl (pair_new _ _ _ _) (by intro u hu; simp at hu; rcases hu with rfl | rfl <;> rfl) (by unfold maxLen; omega) (by omega) (by simp; omega) ?_; intro v' w5 hown hgrow; obtain ⟨py, qy, rfl⟩ := own_sl hown; have HP := Lib.hid (CS.push (HS5.out.alloc _) HL.out rfl hown hgrow); have hout := CS.outApp (HS5.out.alloc _) HL.out hgrow; have d1 := cell_of_row _ _ 1 _ _ _ hout; have f1 := frozen_of_row _ _ 1 _ _ hout; have hs5 : w4.heap.size + 1 ≤ w5.heap.size := (by have h9 := hgrow.size; simpa using h9)))
        all_goals
          go_wp2_with fail
          go_roundw
          case rel => exact ⟨dv + 1 + z, m - 1, py, qy, es ++ [(dv + 1 + z, z2)], rfl, congrArg (Value.int .i64) (by omega), by omega, by omega, by simp; omega, by simp; omega, by simpa using HP⟩
          case measure => simp [intOf]; omega
      · obtain rfl : m = 0 := by omega
        go_wp2_with fail
        refine (l1_below B b a n c 16 _ hn HCr.out HS.out.cur (by omega) (by omega) (by omega)).mono ?_
        rintro e w3 ⟨k, rfl, hk0, hk1, hd⟩
        have HS4 := Lib.hid (HS.out.drawn HL.out hd)
        have hs3 := hd.grown.size
        have HC4 := Lib.hid (HC.out.below (grown_below' HS4.out.gr hBb hBw))
        clear hd HS HCr
        go_upto_block 3 with fail
        go_cut [] (fun wx => ∃ (pw px' : Option Addr) (qw qx' : Nat) (ws' : List Int) (es' : List (Int × Int)), Hid (FS B b w.heap.size (w.heap.size + 1 + 1) a n c w wx (.slice pw ws'.length qw) ws' (.slice px' es'.length qx') es'))
        case first =>
          have c0 := HS4.out.c0
          have c1 := HS4.out.c1
          have hO := HS4.out.lt
          by_cases e0 : k = 0
          · have b0 : (k == 0) = true := beq_iff_eq.2 e0
            clear e0
            have HPK := Lib.hid (l1_pickInt B b w3.heap.size 2 a n c ((w3.alloc (.cells #[.int .i64 (-1), .int .i64 25] 3)).drew) hn (codeAt_drew (HC4.out.alloc (by omega) _)) (curAt_drew (HS4.out.cur.alloc _)) (by omega) (by omega) (by simp; omega) (by omega) (intsAt_drew (ints_new w3 3 [-1, 25] (by intro z hz; simp only [List.mem_cons, List.mem_nil_iff, or_false] at hz; omega))))
            go_upto_region 15 with fail
            go_region_law (first | (go_simp; go_at_call 55; refine HPK.out.mono ?_; rintro e w4 ⟨z2, rfl, hz20, hz21, hd⟩; have HS5 := Lib.hid ((HS4.out.alloc (.cells #[.int .i64 (-1), .int .i64 25] 3)).drew.drawn HL.out hd); have c0' := HS5.out.c0; have hO' := HS5.out.lt; have hs4 : w3.heap.size + 1 ≤ w4.heap.size := (by have h9 := hd.grown.size; simpa using h9); have g3 := HS5.out.wk.frozenAt 3; obtain ⟨u3, hu3⟩ := (⟨_, (HS5.out.wk.cellAt 3 (by omega)).trans (List.getElem?_eq_getElem (by have := HW7.out; simp; omega))⟩ : ∃ u, w4.cell? ⟨gw, 3, none⟩ = some u)))
            all_goals
              go_wp2_with fail
              go_meet
              exact ⟨some ⟨gw, 0, none⟩, px, 7, qx, ws.set 3 z2, es, Lib.hid (FS.cast (CS.fs (HS5.out.week HL.out rfl 3 z2) HL.out (by have := HW7.out; simpa using this) (by omega)) (by rw [List.length_set, HW7.out]) rfl)⟩
          · have b0 : (k == 0) = false := beq_eq_false_iff_ne.2 e0
            by_cases e1 : k = 1
            · have b1 : (k == 1) = true := beq_iff_eq.2 e1
              clear e0 e1
              go_wp2_with (at_builtin; refine wpList_append_sep rfl _ _ 24 rfl w.heap.size 3 j0 (.int .i64 0) Try.underlying24 hj hj0 hj1 hj2 rfl gw 7 7 (ws.map (Value.int .i64)) rfl (HS4.out.alloc _).wk ⟨w3.heap.size, 0, none⟩ 1 (.int .i64 1) rfl ?c1 rfl (by omega) ?c5 ?_)
              case c1 => simp [Addr.add]
              case c5 => simp; omega
              intro g' cap' w5 hown hgrow hsep
              have HP := Lib.hid (CS.more (HS4.out.alloc _) HL.out rfl HW7.out (by omega) hown hgrow (by simpa using hsep))
              have hout := (hgrow.block (w.heap.size + 1 + 1) (HS4.out.alloc _).lt (fun e => hg1 (Option.some.inj e).symm)).trans (HS4.out.alloc _).out
              have d0 := cell_of_row _ _ 0 _ _ _ hout
              have f0 := frozen_of_row _ _ 0 _ _ hout
              clear hown hgrow hsep
              go_wp2_with fail
              go_meet
              exact ⟨some ⟨g', 0, none⟩, px, cap', qx, ws ++ [1], es, Lib.hid (FS.cast HP.out (by rw [List.length_append, HW7.out]; rfl) rfl)⟩
            · have b1 : (k == 1) = false := beq_eq_false_iff_ne.2 e1
              by_cases e2 : k = 2
              · have b2 : (k == 2) = true := beq_iff_eq.2 e2
                clear e0 e1 e2
                have HPK := Lib.hid (l1_pickInt B b w3.heap.size 3 a n c ((w3.alloc (.cells #[.int .i64 0, .int .i64 999, .int .i64 1000] 3)).drew) hn (codeAt_drew (HC4.out.alloc (by omega) _)) (curAt_drew (HS4.out.cur.alloc _)) (by omega) (by omega) (by simp; omega) (by omega) (intsAt_drew (ints_new w3 3 [0, 999, 1000] (by intro z hz; simp only [List.mem_cons, List.mem_nil_iff, or_false] at hz; omega))))
                go_upto_region 19 with fail
                go_region_law (first | (go_simp; go_at_call 55; refine HPK.out.mono ?_; rintro e w4 ⟨z2, rfl, hz20, hz21, hd⟩; have HS5 := Lib.hid ((HS4.out.alloc (.cells #[.int .i64 0, .int .i64 999, .int .i64 1000] 3)).drew.drawn HL.out hd); have c1' := HS5.out.c1; have hO' := HS5.out.lt; have hs4 : w3.heap.size + 1 ≤ w4.heap.size := (by have h9 := hd.grown.size; simpa using h9)) | (refine step_append_mine rfl (.tmp 59) (.tmp 64) 25 rfl wc.heap.size 56 i0 (.agg #[.int .i64 0, .int .i64 0]) 2 16 Try.underlying25 hi hz0 hz1 hz2 rfl (by decide) (.slice px es.length qx) es.length (halfE es es.length es.length) (by simp [Act.eval]) (HS5.out.alloc _).ex ⟨w4.heap.size, 0, none⟩ 1 1 [.int .i64 z2, .int .i64 3] (by simp [Act.eval]) rfl (pair_new _ _ _ _) (by intro u hu; simp at hu; rcases hu with rfl | rfl <;> rfl) (by unfold maxLen; omega) (by omega) (by simp; omega) ?_; intro v' w5 hown hgrow; obtain ⟨py, qy, rfl⟩ := own_sl hown; have HP := Lib.hid (CS.push (HS5.out.alloc _) HL.out rfl hown hgrow); have hout := CS.outApp (HS5.out.alloc _) HL.out hgrow; have d1 := cell_of_row _ _ 1 _ _ _ hout; have f1 := frozen_of_row _ _ 1 _ _ hout; have hs5 : w4.heap.size + 1 ≤ w5.heap.size := (by have h9 := hgrow.size; simpa using h9)))
                all_goals
                  go_wp2_with fail
                  go_meet
                  exact ⟨some ⟨gw, 0, none⟩, py, 7, qy, ws, es ++ [(z2, 3)], Lib.hid (FS.cast (CS.fs HP.out HL.out HW7.out (by simp; omega)) (by rw [HW7.out]) (by simp))⟩
              · have b2 : (k == 2) = false := beq_eq_false_iff_ne.2 e2
                clear e0 e1 e2
                go_wp2_with fail
                go_meet
                exact ⟨some ⟨gw, 0, none⟩, px, 7, qx, ws, es, Lib.hid (FS.cast (CS.fs HS4.out HL.out HW7.out (by omega)) (by rw [HW7.out]) rfl)⟩
        case rest =>
          obtain ⟨pw, px', qw, qx', ws', es', HF⟩ := hcut
          rename_i wd
          have c0 := cell_of_row _ _ 0 _ _ _ HF.out.out
          have c1 := cell_of_row _ _ 1 _ _ _ HF.out.out
          have r0 := cell_of_row _ _ 0 _ _ _ HF.out.row
          have r1 := cell_of_row _ _ 1 _ _ _ HF.out.row
          have f0 := frozen_of_row _ _ 0 _ _ HF.out.row
          have f1 := frozen_of_row _ _ 1 _ _ HF.out.row
          go_wp2_with fail
          exact bodyPost_ret (v := .agg #[.slice pw ws'.length qw, .slice px' es'.length qx']) (results_cell_row Try.results34 _ _ _ _ #[.slice pw ws'.length qw, .slice px' es'.length qx'] (0, 0) _ rfl (blk_pair HF.out.row) Try.underlying27 rfl (by kernel_rfl)) rfl
            ⟨_, _, ws', es', rfl, HF.out.lw, HF.out.le, own_base (own_set (own_set HF.out.wk _ _ _ (by omega)) _ _ _ (by omega)) (by omega), own_base (own_set (own_set HF.out.ex _ _ _ (by omega)) _ _ _ (by omega)) (by omega), HF.out.dr.set2 (by omega) (Nat.le_refl _)⟩
end Go.Proofs.Ytkhonlcekjckoaa
