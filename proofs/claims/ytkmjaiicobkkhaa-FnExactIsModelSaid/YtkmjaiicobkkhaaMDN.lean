/-
  The struct Model within a span of blocks: copies, equality, size, an argument.
-/
import Derived.Test.YtkmjaiicobkkhaaRows
import Derived.Test.YtkmjaiicobkkhaaOPN
import Derived.Test.YtkmjaiicobkkhaaRXN
import Derived.Test.YtkmjaiicobkkhaaNest
import Derived.Test.YtkmjaiicobkkhaaNestFlat
import Derived.Test.YtkmjaiicobkkhaaHold
import Derived.Test.YtkmjaiicobkkhaaHoldN
import Derived.Test.YtkmjaiicobkkhaaFind
import Derived.WalkKit
import Derived.WalkSpells
import Derived.WalkSmall
import Derived.BigQuiet
import Derived.Deep.QuietTactic
import Derived.Deep.DeepCutAuto
import Derived.Deep.RegionHeld3
import Derived.Laws.OwnMore
import Derived.Lib.Hide
namespace Go.Proofs.Ytkmjaiicobkkhaa
open Go.RowKit

structure MD where
  opts : List OP
  rules : List (List CN)
instance : Inhabited MD := ⟨⟨[], []⟩⟩
/-- Its cells. -/
def MDN : RelN MD := fun lo hi w x cs => ∃ u0 u1, cs = [u0, u1] ∧ OX lo hi w u0 x.opts ∧ RX lo hi w u1 x.rules
theorem MDN.kept : KeptN MDN := ⟨fun _ _ _ _ _ _ hs h => by
  obtain ⟨u0, u1, rfl, h0, h1⟩ := h
  exact ⟨u0, u1, rfl, h0.same OPN.kept hs, h1.same RXN.kept hs⟩,
  fun _ _ _ _ _ _ _ a b h => by
  obtain ⟨u0, u1, rfl, h0, h1⟩ := h
  exact ⟨u0, u1, rfl, h0.mono OPN.kept a b, h1.mono RXN.kept a b⟩⟩
def MD.Sz (x : MD) : Prop := OX.Sz x.opts ∧ RX.Sz x.rules
def MD.Sm (x : MD) : Prop := OX.Sm x.opts ∧ RX.Sm x.rules
/-- A value that is one. -/
def MD.Is (lo hi : Nat) (w : World) (v : Value) (x : MD) : Prop := ∃ u0 u1, v = .agg #[u0, u1] ∧ OX lo hi w u0 x.opts ∧ RX lo hi w u1 x.rules
theorem MD.Is.same {lo hi : Nat} {w w' : World} {v : Value} {x : MD} (h : MD.Is lo hi w v x) (hs : Same lo hi w w') : MD.Is lo hi w' v x := by
  obtain ⟨u0, u1, rfl, h0, h1⟩ := h
  exact ⟨u0, u1, rfl, h0.same OPN.kept hs, h1.same RXN.kept hs⟩
theorem MD.Is.below {lo hi : Nat} {w w' : World} {v : Value} {x : MD} (h : MD.Is lo hi w v x) (hb : Below w.heap.size w w') : MD.Is lo hi w' v x := h.same (Same.of_below hb)
theorem MD.Is.mono {lo hi lo' hi' : Nat} {w : World} {v : Value} {x : MD} (h : MD.Is lo hi w v x) (a : lo' ≤ lo) (b : hi ≤ hi') : MD.Is lo' hi' w v x := by
  obtain ⟨u0, u1, rfl, h0, h1⟩ := h
  exact ⟨u0, u1, rfl, h0.mono OPN.kept a b, h1.mono RXN.kept a b⟩

set_option maxRecDepth 100000 in
set_option maxHeartbeats 2000000 in
theorem MD.to_one (x : MD) (u0 u1 : Value) (lo hi : Nat) (w : World) (hhi : hi ≤ w.heap.size) (h0 : OX lo hi w u0 x.opts) (h1 : RX lo hi w u1 x.rules) (hm : MD.Sm x) :
    Calls Try.prog 32 #[.agg #[u0, u1]] w fun e w' => ∃ v0 v1, e = .returned (.agg #[v0, v1]) ∧ OX w.heap.size w'.heap.size w' v0 x.opts ∧ RX w.heap.size w'.heap.size w' v1 x.rules ∧ Below w.heap.size w w' := by
  have HM := Lib.hid hm
  have HH := Lib.hid hhi
  clear hm hhi
  obtain ⟨HB, hz, HA, HR, HO⟩ := alloc3 w (.cells #[u0, u1] 51) (.cells #[.slice none 0 0, .slice none 0 0] 27) (.cells #[.slice none 0 0, .slice none 0 0] 27)
  have HZ := Lib.hid hz
  clear hz
  go_enter Try.func32, Try.ntmps32
  have r0_0 := Lib.hid (h0.below OPN.kept HB)
  have r1_0 := Lib.hid (h1.below RXN.kept HB)
  clear h0 h1
  go_wp2_with fail
  generalize (((w.alloc (.cells #[u0, u1] 51)).alloc (.cells #[.slice none 0 0, .slice none 0 0] 27)).alloc (.cells #[.slice none 0 0, .slice none 0 0] 27)) = wA0 at *
  refine (OX.to _ x.opts _ _ _ (Nat.le_trans HH.out HB.size) r0_0.out HM.out.1).mono ?_
  rintro e w1 ⟨vv0, rfl, ho, hb⟩
  have V0 := Lib.hid ho
  have L0 : Hid (w.heap.size + 1 + 1 < wA0.heap.size) := Lib.hid (lt_of_heap HO)
  obtain ⟨a0, p0, hv0⟩ := ho.slice
  subst hv0
  clear ho
  have r1_1 := Lib.hid (r1_0.out.below RXN.kept hb)
  have HA := blk_below HA hb
  have HR := blk_below HR hb
  have HO := blk_below HO hb
  have HB := HB.trans (hb.mono HB.size)
  have hsz0 := hb.size
  clear hb
  have d0 := cell_of_row _ _ 0 _ _ _ HO
  have f0 := frozen_of_row _ _ 0 _ _ HO
  have c1 := cell_of_row _ _ 1 _ _ _ HA
  have d1 := cell_of_row _ _ 1 _ _ _ HO
  have f1 := frozen_of_row _ _ 1 _ _ HO
  have z0_ := HB
  go_wp2_with fail
  have HAn : (w1.setCell ⟨w.heap.size + 1 + 1, 0, none⟩ (.slice a0 x.opts.length p0)).heap[w.heap.size]? = some (.cells #[u0, u1] 51) := (heap_setCell_other _ _ _ _ (by simp; try omega)).trans (HA)
  have HRn : (w1.setCell ⟨w.heap.size + 1 + 1, 0, none⟩ (.slice a0 x.opts.length p0)).heap[w.heap.size + 1]? = some (.cells #[.slice none 0 0, .slice none 0 0] 27) := (heap_setCell_other _ _ _ _ (by simp; try omega)).trans (HR)
  have HOn : (w1.setCell ⟨w.heap.size + 1 + 1, 0, none⟩ (.slice a0 x.opts.length p0)).heap[w.heap.size + 1 + 1]? = some (.cells #[.slice a0 x.opts.length p0, .slice none 0 0] 27) := heap_setCell_same _ _ 0 _ _ (.slice a0 x.opts.length p0) (HO)
  have HBn : Below w.heap.size w (w1.setCell ⟨w.heap.size + 1 + 1, 0, none⟩ (.slice a0 x.opts.length p0)) := (HB.setCell (by simp; try omega) _)
  have HSz1 : (w1.setCell ⟨w.heap.size + 1 + 1, 0, none⟩ (.slice a0 x.opts.length p0)).heap.size = w1.heap.size := by simp
  have r1_n := Lib.hid ((r1_1.out).same RXN.kept (Same.set (g := w.heap.size + 1 + 1) (j := 0) (u := .slice a0 x.opts.length p0) (Or.inr (Nat.le_trans (HH.out) (by omega)))))
  have V0n := Lib.hid ((V0.out).same OPN.kept (Same.set (g := w.heap.size + 1 + 1) (j := 0) (u := .slice a0 x.opts.length p0) (Or.inl (by have := L0.out; omega))))
  clear HA HR HO HB V0
  generalize (w1.setCell ⟨w.heap.size + 1 + 1, 0, none⟩ (.slice a0 x.opts.length p0)) = wA1 at *
  have HA := HAn
  have HR := HRn
  have HO := HOn
  have HB := HBn
  have V0 := V0n
  clear HAn HRn HOn HBn V0n
  have r1_1 := r1_n
  clear r1_n
  refine (RX.to _ x.rules _ _ _ (Nat.le_trans HH.out HB.size) r1_1.out HM.out.2).mono ?_
  rintro e w2 ⟨vv1, rfl, ho, hb⟩
  have V1 := Lib.hid ho
  have L1 : Hid (w.heap.size + 1 + 1 < wA1.heap.size) := Lib.hid (lt_of_heap HO)
  obtain ⟨a1, p1, hv1⟩ := ho.slice
  subst hv1
  clear ho
  have V0 := Lib.hid (V0.out.below OPN.kept hb)
  have HA := blk_below HA hb
  have HR := blk_below HR hb
  have HO := blk_below HO hb
  have HB := HB.trans (hb.mono HB.size)
  have hsz1 := hb.size
  clear hb
  have d0 := cell_of_row _ _ 0 _ _ _ HO
  have f0 := frozen_of_row _ _ 0 _ _ HO
  have d1 := cell_of_row _ _ 1 _ _ _ HO
  have f1 := frozen_of_row _ _ 1 _ _ HO
  have z1_ := HB
  have q0 := cell_of_row _ _ 0 _ _ _ HR
  have y0 := frozen_of_row _ _ 0 _ _ HR
  have q1 := cell_of_row _ _ 1 _ _ _ HR
  have y1 := frozen_of_row _ _ 1 _ _ HR
  go_wp2_with fail
  have HRf : (w2.setCell ⟨w.heap.size + 1 + 1, 1, none⟩ (.slice a1 x.rules.length p1)).heap[w.heap.size + 1]? = some (.cells #[.slice none 0 0, .slice none 0 0] 27) := (heap_setCell_other _ _ _ _ (by simp)).trans (HR)
  refine bodyPost_ret (v := .agg #[.slice a0 x.opts.length p0, .slice a1 x.rules.length p1]) (results_cell_row Try.results32 _ _ _ _ #[.slice a0 x.opts.length p0, .slice a1 x.rules.length p1] (0, 0) _ rfl (heap_setCell_same _ _ 1 _ _ _ (heap_setCell_same _ _ 0 _ _ _ (HRf))) Try.underlying27 rfl (by kernel_rfl)) rfl ⟨_, _, rfl, ?_, ?_, ?_⟩
  · exact ((((V0.out).same OPN.kept (Same.set (Or.inl (by have := L0.out; omega)))).same OPN.kept (Same.set (Or.inl (by have := L0.out; omega)))).same OPN.kept (Same.set (Or.inl (by have := L0.out; omega)))).mono OPN.kept (by have := L0.out; omega) (by simp; try omega)
  · exact ((((V1.out).same RXN.kept (Same.set (Or.inl (by have := L1.out; omega)))).same RXN.kept (Same.set (Or.inl (by have := L1.out; omega)))).same RXN.kept (Same.set (Or.inl (by have := L1.out; omega)))).mono RXN.kept (by have := L1.out; omega) (by simp; try omega)
  · exact (((HB.setCell (by simp; try omega) _).setCell (by simp) _).setCell (by simp) _)

set_option maxRecDepth 100000 in
set_option maxHeartbeats 2000000 in
theorem MD.eq_one (x : MD) (u0 u1 t0 t1 : Value) (lo hi lo' hi' : Nat) (w : World) (h0 : OX lo hi w u0 x.opts) (h1 : RX lo hi w u1 x.rules) (g0 : OX lo' hi' w t0 x.opts) (g1 : RX lo' hi' w t1 x.rules) (hm : MD.Sm x) :
    Calls Try.prog 34 #[.agg #[u0, u1], .agg #[t0, t1]] w (YesRes w) := by
  have HM := Lib.hid hm
  clear hm
  have HB : Below w.heap.size w ((w.alloc (.cells #[u0, u1] 27)).alloc (.cells #[t0, t1] 27)) := ((Below.refl _ _).alloc (Nat.le_refl _) _).alloc (by simp) _
  have HA : ((w.alloc (.cells #[u0, u1] 27)).alloc (.cells #[t0, t1] 27)).heap[w.heap.size]? = some (.cells #[u0, u1] 27) := heap_alloc2_old w _ _
  have HC : ((w.alloc (.cells #[u0, u1] 27)).alloc (.cells #[t0, t1] 27)).heap[w.heap.size + 1]? = some (.cells #[t0, t1] 27) := heap_alloc2_new w _ _
  have r0 := Lib.hid (h0.below OPN.kept HB)
  have s0 := Lib.hid (g0.below OPN.kept HB)
  have r1 := Lib.hid (h1.below RXN.kept HB)
  have s1 := Lib.hid (g1.below RXN.kept HB)
  clear h0 g0 h1 g1
  go_enter Try.func34, Try.ntmps34
  go_wp2_with fail
  generalize (w.alloc (.cells #[u0, u1] 27)).alloc (.cells #[t0, t1] 27) = wA at *
  refine (OX.eq _ _ x.opts _ _ _ _ _ r0.out s0.out HM.out.1).mono ?_
  rintro e w1 ⟨rfl, hb⟩
  have r1 := Lib.hid (r1.out.below RXN.kept hb)
  have s1 := Lib.hid (s1.out.below RXN.kept hb)
  have HA := blk_below HA hb
  have HC := blk_below HC hb
  have HB := HB.trans (hb.mono HB.size)
  clear hb
  have c1 := cell_of_row _ _ 1 _ _ _ HA
  have d1 := cell_of_row _ _ 1 _ _ _ HC
  go_wp2_with fail
  refine (RX.eq _ _ x.rules _ _ _ _ _ r1.out s1.out HM.out.2).mono ?_
  rintro e w2 ⟨rfl, hb⟩
  have HA := blk_below HA hb
  have HC := blk_below HC hb
  have HB := HB.trans (hb.mono HB.size)
  clear hb
  go_wp2_with fail
  go_ret
  exact ⟨rfl, HB⟩

set_option maxRecDepth 100000 in
set_option maxHeartbeats 2000000 in
theorem MD.sz_one (x : MD) (u0 u1 : Value) (left : Int) (lo hi : Nat) (w : World) (h0 : OX lo hi w u0 x.opts) (h1 : RX lo hi w u1 x.rules) (hl0 : 0 ≤ left) (hl1 : left ≤ 1048576) (hs : MD.Sz x) :
    Calls Try.prog 31 #[.agg #[u0, u1], .int .i64 left] w (SzRes (MD.Sm x) w) := by
  have HS := Lib.hid hs
  clear hs
  have HB : Below w.heap.size w (w.alloc (.cells #[u0, u1] 51)) := (Below.refl _ _).alloc (Nat.le_refl _) _
  have HA : (w.alloc (.cells #[u0, u1] 51)).heap[w.heap.size]? = some (.cells #[u0, u1] 51) := heap_alloc_new w _
  have r0 := Lib.hid (h0.below OPN.kept HB)
  have r1 := Lib.hid (h1.below RXN.kept HB)
  clear h0 h1
  go_enter Try.func31, Try.ntmps31
  go_wp2_with fail
  generalize (w.alloc (.cells #[u0, u1] 51)) = wA at *
  refine (OX.sz _ x.opts _ _ _ _ r0.out (by omega) (by omega) HS.out.1).mono ?_
  rintro e w1 ⟨m1, rfl, hl20, hl21, hq, hb⟩
  have Q0 := Lib.hid hq
  have r1 := Lib.hid (r1.out.below RXN.kept hb)
  have HA := blk_below HA hb
  have HB := HB.trans (hb.mono HB.size)
  clear hb hq
  have c1 := cell_of_row _ _ 1 _ _ _ HA
  by_cases hn0 : m1 < 0
  · go_wp2_with fail
    go_ret
    exact ⟨-1, rfl, by omega, by omega, by omega, HB⟩
  go_wp2_with fail
  refine (RX.sz _ x.rules _ _ _ _ r1.out (by omega) (by omega) HS.out.2).mono ?_
  rintro e w2 ⟨m2, rfl, hl30, hl31, hq, hb⟩
  have Q1 := Lib.hid hq
  have HA := blk_below HA hb
  have HB := HB.trans (hb.mono HB.size)
  clear hb hq
  by_cases hn1 : m2 < 0
  · go_wp2_with fail
    go_ret
    exact ⟨-1, rfl, by omega, by omega, by omega, HB⟩
  go_wp2_with fail
  go_ret
  exact ⟨m2, rfl, by omega, by omega, fun _ => ⟨Q0.out (by omega), Q1.out (by omega)⟩, HB⟩

theorem MD.to (v : Value) (x : MD) (lo hi : Nat) (w : World) (hhi : hi ≤ w.heap.size) (h : MD.Is lo hi w v x) (hm : MD.Sm x) : Calls Try.prog 32 #[v] w fun e w' => ∃ v', e = .returned v' ∧ MD.Is w.heap.size w'.heap.size w' v' x ∧ Below w.heap.size w w' := by
  obtain ⟨u0, u1, rfl, h0, h1⟩ := h
  refine (MD.to_one x u0 u1 lo hi w hhi h0 h1 hm).mono ?_
  rintro e w' ⟨v0, v1, rfl, g0, g1, hb⟩
  exact ⟨_, rfl, ⟨v0, v1, rfl, g0, g1⟩, hb⟩
theorem MD.eq (v v' : Value) (x : MD) (lo hi lo' hi' : Nat) (w : World) (h : MD.Is lo hi w v x) (h' : MD.Is lo' hi' w v' x) (hm : MD.Sm x) : Calls Try.prog 34 #[v, v'] w (YesRes w) := by
  obtain ⟨u0, u1, rfl, h0, h1⟩ := h
  obtain ⟨t0, t1, rfl, g0, g1⟩ := h'
  exact MD.eq_one x u0 u1 t0 t1 lo hi lo' hi' w h0 h1 g0 g1 hm
theorem MD.sz (v : Value) (x : MD) (left : Int) (lo hi : Nat) (w : World) (h : MD.Is lo hi w v x) (h0 : 0 ≤ left) (h1 : left ≤ 1048576) (hz : MD.Sz x) : Calls Try.prog 31 #[v, .int .i64 left] w (SzRes (MD.Sm x) w) := by
  obtain ⟨u0, u1, rfl, g0, g1⟩ := h
  exact MD.sz_one x u0 u1 left lo hi w g0 g1 h0 h1 hz
section
open Go.ChangeShapes Go.WideShapes Go.ChangeAt Go.Joins
theorem MD.cellsOf : Try.prog.cellsOf 51 = 2 := by kernel_rfl
set_option maxRecDepth 100000 in
theorem MD.opened {H : Type} {enc : TypeId × Value → H} {W : World} {n : Nat} {cs : List Value} {x : DataW H × List MemPlace} (h : DataW.trod enc Try.prog W 0 (fun _ => true) true n 51 cs = some x) :
    ∃ r : MD, MDN 0 W.heap.size W r cs ∧ MD.Sz r := by
  obtain ⟨xs, k, hk, hxy, hcl, hxl, hf⟩ := DataW.trod_struct Try.underlying51 h
  rw [MD.cellsOf] at hcl
  match cs, hcl with
  | [v0, v1], _ =>
    match xs, hxl with
    | [y0, y1], _ =>
      have g0 : DataW.trod enc Try.prog W 0 (fun _ => true) true k 48 (([v0, v1].drop 0).take (Try.prog.cellsOf 48)) = _ := hf 0 _ rfl
      rw [show Try.prog.cellsOf 48 = 1 by kernel_rfl] at g0
      have g1 : DataW.trod enc Try.prog W 0 (fun _ => true) true k 49 (([v0, v1].drop 1).take (Try.prog.cellsOf 49)) = _ := hf 1 _ rfl
      rw [show Try.prog.cellsOf 49 = 1 by kernel_rfl] at g1
      simp at g0 g1
      obtain ⟨s0, e0, z0⟩ := OX.opened g0
      obtain ⟨s1, e1, z1⟩ := RX.opened g1
      exact ⟨⟨s0, s1⟩, ⟨v0, v1, rfl, e0, e1⟩, ⟨z0, z1⟩⟩
end
section
open Go.ChangeShapes Go.WideShapes Go.ChangeAt Go.Joins
set_option maxRecDepth 100000 in
theorem MD.args_open {H : Type} {enc : TypeId × Value → H} {W : World} {base : Nat} {v : Value} {d : DataW H} {p : List MemPlace} (hv : Value.okWide Try.prog W .any base 51 v)
    (h0 : DataW.Trod enc Try.prog W 0 (fun _ => true) true 51 v d p) : ∃ x : MD, MD.Is 0 W.heap.size W v x ∧ MD.Sz x := by
  obtain ⟨cs, rfl, _⟩ := okWide_struct Try.underlying51 hv
  obtain ⟨fuel, hf⟩ := h0
  obtain ⟨r, ⟨u0, u1, hcs, h0, h1⟩, hz⟩ := MD.opened hf
  refine ⟨r, ⟨u0, u1, ?_, h0, h1⟩, hz⟩
  have h1 : cs = _ := Array.toList_inj.1 hcs
  rw [h1]
end
end Go.Proofs.Ytkmjaiicobkkhaa
