/-
  The program's iterator over the days with work has its contract.
-/
import Derived.Test.YtkhonlcekjckoaaRows
import Derived.Test.YtkhonlcekjckoaaCalLib
import Derived.Test.YtkhonlcekjckoaaCalList
import Derived.Test.YtkhonlcekjckoaaCalHours
import Derived.Test.YtkhonlcekjckoaaCalPlan
import Derived.Test.YtkhonlcekjckoaaCalImIs
import Derived.RangeFuncNested
import Derived.RangeFuncBound
import Derived.RangeFuncCalls
import Derived.RangeFuncLeaves
import Derived.Shelf.Abstract
import Derived.Shelf.RegionOpen
import Derived.WalkKit
import Derived.OwnWalkIn
import Derived.TacticsInMore
import Derived.LoopNIn
import Derived.LoopIn
import Derived.IntWalk
import Derived.Lib.Hide
namespace Go.Proofs.Ytkhonlcekjckoaa
open Go.RowKit Go.Shelf
attribute [local go_sem] Oper.semAt_some

set_option maxRecDepth 100000 in
theorem impl_workdays (v : Value) (q s : Int) (w : World) (hv : ∃ vw vx, v = .agg #[vw, vx]) : Calls Try.prog 47 #[v, .int .i64 q, .int .i64 s] w fun e w' => ∃ cs, v = .agg cs ∧ cs.size = 2 ∧
    e = .returned (.func (.func 60) #[] #[.pointer (some ⟨w.heap.size + 1, 0, none⟩), .pointer (some ⟨w.heap.size + 1 + 1, 0, none⟩), .pointer (some ⟨w.heap.size, 0, none⟩)]) ∧ w' = ((w.alloc (.cells cs 27)).alloc (.cells #[.int .i64 q] 3)).alloc (.cells #[.int .i64 s] 3) := by
  obtain ⟨vw, vx, rfl⟩ := hv
  go_enter Try.func47, Try.ntmps47
  go_wp2
  go_ret
  exact ⟨_, rfl, rfl, rfl, rfl⟩

theorem day_is {q : Int} (h0 : 0 ≤ q) (h1 : q ≤ 999) : ∃ x : Fin 1000, q = ((x.1 : Nat) : Int) := ⟨dayOf q, (dayOf_val h0 h1).symm⟩
/-- What a round keeps for the iterator. -/
def KpW (n₀ bs bc : Nat) (W W' : World) : Prop := Below n₀ W W' ∧ W'.heap[bs]? = W.heap[bs]? ∧ W'.heap[bc]? = W.heap[bc]?

set_option maxRecDepth 100000 in
set_option maxHeartbeats 2000000 in
theorem work_stops (bf bs bc : Nat) (vw vx : Value) (ws : List Int) (es : List (Int × Int)) (q s : Int) (w₀ w : World) (hs : Step s) (hv : IsCal ws es)
    (hc : Cal w₀ (.agg #[vw, vx]) ws es) (hB : Below w₀.heap.size w₀ w)
    (hf : w.cell? ⟨bf, 0, none⟩ = some (.int .i64 q)) (hst : w.cell? ⟨bs, 0, none⟩ = some (.int .i64 s)) (hcr : w.heap[bc]? = some (.cells #[vw, vx] 27)) :
    SeqStopsK Fence.wide 2 Try.prog 60 #[.pointer (some ⟨bf, 0, none⟩), .pointer (some ⟨bs, 0, none⟩), .pointer (some ⟨bc, 0, none⟩)] (fun x : Fin 1000 => #[.int .i64 ((x.1 : Nat) : Int), .int .i64 (hOf ws es x.1)]) (KpW w₀.heap.size bs bc) (fun xs => xs = daysW (hOf ws es) s q) (fun pre => pre <+: daysW (hOf ws es) s q) (daysW (hOf ws es) s q).length w := fun l J Jx W hW hJ hJx hY h0 => by
  have hf' : W.cell? ⟨bf, 0, none⟩ = some (.int .i64 q) := (hW.cell (p := ⟨bf, 0, none⟩) (block_lt_of_cell hf)).trans hf
  have hst' : W.cell? ⟨bs, 0, none⟩ = some (.int .i64 s) := (hW.cell (p := ⟨bs, 0, none⟩) (block_lt_of_cell hst)).trans hst
  have hcr' : W.heap[bc]? = some (.cells #[vw, vx] 27) := blk_below hcr hW
  have HBW : Hid (Below w₀.heap.size w₀ W) := Lib.hid (hB.trans (hW.mono hB.size))
  have HC := Lib.hid hc
  have HV := Lib.hid hv
  have HS := Lib.hid hs
  have hbs : bs < W.heap.size := block_lt_of_cell hst'
  have hbc : bc < W.heap.size := lt_of_heap hcr'
  have HJ := Lib.hid hJ
  have HJx := Lib.hid hJx
  have HY := Lib.hid hY
  clear hc hv hs hB hf hst hcr hW hJ hJx hY
  refine callsIn_of_wp Try.func60 rfl trivial ?_ rfl
  simp only [Try.ntmps60, List.size_toArray, List.length_cons, List.length_nil, Nat.reduceAdd, Nat.reduceSub, Array.replicate_succ, Array.replicate_zero, List.push_toArray, List.append_toArray, List.nil_append, List.cons_append]
  gi_wp2
  gi_loopw [5] (fun d wr => ∃ (pre : List (Fin 1000)) (q' : Int), d = .int .i64 q' ∧ Hid (daysW (hOf ws es) s q = pre ++ daysW (hOf ws es) s q') ∧ J pre wr ∧ Hid (Below w₀.heap.size W wr) ∧ wr.heap[bs]? = W.heap[bs]? ∧ wr.heap[bc]? = W.heap[bc]?) (fun d _ => leftD s (intOf d))
  case atStart => exact ⟨[], q, rfl, Lib.hid rfl, h0, Lib.hid (Below.refl _ _), rfl, rfl⟩
  case round =>
    obtain ⟨pre, q', rfl, hx, hJs, hbw, hb1, hb2⟩ := hrel
    by_cases hin : 0 ≤ q' ∧ q' ≤ 999
    · have HI := Lib.hid (inB_yes hin.1 hin.2)
      have HON := Lib.hid (fun p => days_yes (hOf ws es) HS.out hin.1 hin.2 p)
      have HNO := Lib.hid (fun p => days_no (hOf ws es) HS.out hin.1 hin.2 p)
      have HLS := Lib.hid (left_step HS.out hin.1 hin.2)
      have hq2 : q' + s ≤ 1000 ∧ -1 ≤ q' + s := by rcases HS.out with rfl | rfl <;> omega
      obtain ⟨x, rfl⟩ := day_is hin.1 hin.2
      have hx9 := x.2
      have htn : (((x.1 : Nat) : Int)).toNat = x.1 := Int.toNat_natCast _
      have hdx : dayOf ((x.1 : Nat) : Int) = x := fin_day x
      rw [htn, hdx] at HON
      rw [htn] at HNO
      clear hin
      have HP := impl_planned (.agg #[vw, vx]) ws es x.1 wr (HC.out.below (HBW.out.trans hbw.out)) HV.out (by omega)
      have hl1 : bs < wr.heap.size := block_lt_of_cell ((World.cell?_of_block (a := ⟨bs, 0, none⟩) hb1).trans hst')
      have hl2 : bc < wr.heap.size := lt_of_heap (hb2.trans hcr')
      have ccr : wr.heap[bc]? = some (.cells #[vw, vx] 27) := hb2.trans hcr'
      have c0 := cell_of_row _ _ 0 _ _ _ ccr
      have c1 := cell_of_row _ _ 1 _ _ _ ccr
      gi_wp2
      refine ⟨trivial, (callsIn_wide.2 (impl_isDay _ _ _ HI.out)).mono ?_⟩
      rintro e w2 ⟨rfl, rfl⟩
      gi_wp2
      refine ⟨trivial, (callsIn_wide.2 HP).mono ?_⟩
      rintro e w3 ⟨rfl, hb3⟩
      have hJ3 : J pre w3 := HJ.out _ _ _ none hJs (grown_of_below hb3 none) (fun r e => by cases e)
      have HB3 : Hid (Below w₀.heap.size W w3) := Lib.hid (hbw.out.trans (hb3.mono (HBW.out.trans hbw.out).size))
      have hb13 : w3.heap[bs]? = W.heap[bs]? := (hb3.block _ hl1).trans hb1
      have hb23 : w3.heap[bc]? = W.heap[bc]? := (hb3.block _ hl2).trans hb2
      have cs3 : w3.cell? ⟨bs, 0, none⟩ = some (.int .i64 s) := (World.cell?_of_block (a := ⟨bs, 0, none⟩) hb13).trans hst'
      clear hb3 hJs hbw hb1 hb2 hl1 hl2 HP c0 c1 ccr
      by_cases hw : 0 < hOf ws es x.1
      · obtain ⟨fn, tmps, assign, body, hy, hR⟩ := HY.out pre x w3 hJ3 (by rw [hx.out, HON.out hw]; simp)
        (try dsimp only at hy)
        have hgt : decide (0 < hOf ws es x.1) = true := decide_eq_true hw
        have HX := Lib.hid (show daysW (hOf ws es) s q = (pre ++ [x]) ++ daysW (hOf ws es) s (((x.1 : Nat) : Int) + s) by rw [hx.out, HON.out hw]; simp)
        clear HON HNO hw
        generalize hOf ws es x.1 = y at *
        gi_wp2
        refine hR.mono ?_
        rintro e W4 (⟨rfl, hJ4, hk4⟩ | ⟨rfl, hJx4⟩)
        · have cs4 : W4.cell? ⟨bs, 0, none⟩ = some (.int .i64 s) := (World.cell?_of_block (a := ⟨bs, 0, none⟩) hk4.2.1).trans cs3
          gi_wp2
          go_roundw
          case rel => exact ⟨pre ++ [x], _, rfl, HX, hJ4, Lib.hid (HB3.out.trans hk4.1), hk4.2.1.trans hb13, hk4.2.2.trans hb23⟩
          case measure => rw [show intOf (.int .i64 ((x.1 : Nat) : Int)) = ((x.1 : Nat) : Int) from rfl, HLS.out]; exact Nat.lt_succ_self _
        · gi_wp2
          refine bodyPost_ret (results_none rfl _ _ _) rfl ?_
          exact ⟨⟨_, rfl⟩, .inr ⟨pre ++ [x], ⟨_, HX.out.symm⟩, hJx4⟩⟩
      · have hgt : decide (0 < hOf ws es x.1) = false := decide_eq_false hw
        have HX := Lib.hid (show daysW (hOf ws es) s q = pre ++ daysW (hOf ws es) s (((x.1 : Nat) : Int) + s) by rw [hx.out, HNO.out (Int.not_lt.1 hw)])
        clear HON HNO hw
        generalize hOf ws es x.1 = y at *
        gi_wp2
        refine ⟨fun _ h => (by cases h), ?_⟩
        gi_wp2
        go_roundw
        case rel => exact ⟨pre, _, rfl, HX, hJ3, HB3, hb13, hb23⟩
        case measure => rw [show intOf (.int .i64 ((x.1 : Nat) : Int)) = ((x.1 : Nat) : Int) from rfl, HLS.out]; exact Nat.lt_succ_self _
    · have HI := Lib.hid (inB_no (x := q') (lo := 0) (hi := 999) (by omega))
      have HX := Lib.hid (show daysW (hOf ws es) s q = pre by rw [hx.out, days_off _ _ hin, List.append_nil])
      clear hin
      gi_wp2
      refine ⟨trivial, (callsIn_wide.2 (impl_isDay _ _ _ HI.out)).mono ?_⟩
      rintro e w2 ⟨rfl, rfl⟩
      gi_wp2
      go_end0
      exact ⟨⟨_, rfl⟩, .inl ⟨pre, HX.out.symm, hJs⟩⟩
end Go.Proofs.Ytkhonlcekjckoaa
