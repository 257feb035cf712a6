/-
  What the laws on calendars draw, where the draw of a calendar keeps its contract.
-/
import Derived.Test.YtkhonlcekjckoaaRows
import Derived.Test.YtkhonlcekjckoaaExcs
import Derived.Test.YtkhonlcekjckoaaExcsRow
import Derived.Test.YtkhonlcekjckoaaCalLaw
import Derived.Test.YtkhonlcekjckoaaDraw
import Derived.Test.YtkhonlcekjckoaaDrawOnce
import Derived.Test.YtkhonlcekjckoaaDrawInt
import Derived.Test.YtkhonlcekjckoaaDrawMore
import Derived.Test.YtkhonlcekjckoaaHold
import Derived.Test.YtkhonlcekjckoaaResKit
import Derived.WalkKit
import Derived.WalkSpells
import Derived.WalkSmall
import Derived.BigQuiet
import Derived.Deep.DeepCutAuto
import Derived.Deep.QuietTactic
import Derived.Deep.RegionHeld3
import Derived.IntWalk
import Derived.Lib.Hide
namespace Go.Proofs.Ytkhonlcekjckoaa
open Go.RowKit

/-- What a draw of a calendar leaves. -/
def DrewCal (B b : Nat) (a : Option Addr) (n c : Nat) (w : World) (e : Ending) (w' : World) : Prop := ∃ (vw vx : Value) (ws : List Int) (es : List (Int × Int)), e = .returned (.agg #[vw, vx]) ∧ ws.length ≤ 8 ∧ es.length ≤ 8 ∧ w'.ownsRow w.heap.size 3 1 vw ws.length (ws.map (Value.int .i64)) ∧ w'.ownsRow w.heap.size 56 2 vx es.length (halfE es es.length es.length) ∧ Drawn B b a n c w w'
def DrawCal : Prop := ∀ (B b : Nat) (a : Option Addr) (n c : Nat) (w : World), n ≤ 1048576 → CodeAt B w a n → CurAt B w b a n c → B ≤ w.heap.size → Calls Try.prog 34 #[.pointer (some ⟨b, 0, none⟩)] w (DrewCal B b a n c w)

set_option maxRecDepth 100000 in
set_option maxHeartbeats 400000 in
theorem l4_day (B b : Nat) (a : Option Addr) (n c : Nat) (w : World) (hn : n ≤ 1048576) (hcode : CodeAt B w a n) (hcur : CurAt B w b a n c) (hBw : B ≤ w.heap.size) :
    Calls Try.prog 35 #[.pointer (some ⟨b, 0, none⟩)] w (Draws B b a n c (-9223372036854775808) 9223372036854775807 w) := by
  have HC := Lib.hid hcode
  have HU := Lib.hid hcur
  clear hcode hcur
  go_enter Try.func35, Try.ntmps35
  go_wp2_with fail
  refine (l1_once B b a n c 12 _ hn HC.out HU.out (by omega) (by omega) hBw).mono ?_
  rintro e w1 ⟨x, rfl, hd⟩
  have HD := Lib.hid hd
  have hB1 : B ≤ w1.heap.size := Nat.le_trans hBw hd.grown.size
  have HC1 := Lib.hid (HC.out.below (hd.below hBw))
  have hblt := hd.cur.lt
  clear hd
  cases x
  · go_wp2_with fail
    refine (l1_below B b a n c 40 _ hn HC1.out HD.out.cur (by omega) (by omega) hB1).mono ?_
    rintro e w2 ⟨y, rfl, hy0, hy1, hd⟩
    have HD2 := Lib.hid (HD.out.trans hd)
    clear hd
    go_wp2
    go_ret
    exact ⟨_, rfl, by omega, by omega, HD2.out⟩
  · go_wp2_with fail
    have hints := ints_new w1 3 [-1, 999, 1000, 998, -9223372036854775808, 9223372036854775807] (by intro z hz; simp only [List.mem_cons, List.mem_nil_iff, or_false] at hz; omega)
    refine (l1_pickInt B b w1.heap.size 6 a n c _ hn (HC1.out.alloc hB1 _) (HD.out.cur.alloc _) (by omega) (by omega) (by simp; omega) (by omega) hints).mono ?_
    rintro e w2 ⟨y, rfl, hy0, hy1, hd⟩
    have HD2 := Lib.hid (HD.out.trans hd.ofAlloc)
    clear hd hints
    go_wp2
    go_ret
    exact ⟨_, rfl, hy0, hy1, HD2.out⟩

theorem curAt_down {B B' b : Nat} {w : World} {a : Option Addr} {n c : Nat} (h : CurAt B w b a n c) (hle : B' ≤ B) : CurAt B' w b a n c := ⟨Nat.le_trans hle h.1, h.2⟩
theorem codeAt_up' {B B' : Nat} {w : World} {a : Option Addr} {n : Nat} (h : CodeAt B w a n) (hle : B ≤ B') : CodeAt B' w a n := by
  rcases h with h | ⟨b, o, ha, hlt, hc⟩
  · exact Or.inl h
  · exact Or.inr ⟨b, o, ha, by omega, hc⟩
/-- The cursor's block has moved on and the result's cells may have been written, all else is as it was. -/
structure Hd (B b R : Nat) (a : Option Addr) (n c : Nat) (W0 W : World) : Prop where
  cur : CurAt B W b a n c
  os : W.os = W0.os
  tape : W.tape = W0.tape
  output : W.output = W0.output
  size : W0.heap.size ≤ W.heap.size
  block : ∀ k, k < W0.heap.size → k ≠ b → k ≠ R → W.heap[k]? = W0.heap[k]?
  row : ∃ x y, W.heap[R]? = some (.cells #[x, y] 27 (0, 0))
theorem hd_step {p : Prop} {B b R : Nat} {a : Option Addr} {n c : Nat} {W0 W W' : World} (hne : R ≠ b) (h : Hid (Hd B b R a n c W0 W) ∧ p) (hd : Drawn B b a n c W W') : Hd B b R a n c W0 W' := by
  have k := h.1.out
  obtain ⟨x, y, hr⟩ := k.row
  exact ⟨hd.cur, hd.grown.os.trans k.os, hd.grown.tape.trans k.tape, hd.grown.output.trans k.output, Nat.le_trans k.size hd.grown.size, fun j h1 h2 h3 => (hd.grown.block j (Nat.lt_of_lt_of_le h1 k.size) (fun e => h2 (Option.some.inj e))).trans (k.block j h1 h2 h3), x, y, hd.blk hr hne⟩
theorem hd_drew {B b R : Nat} {a : Option Addr} {n c : Nat} {W : World} {x y : Value} (h : CurAt B W b a n c) (hr : W.heap[R]? = some (.cells #[x, y] 27 (0, 0))) : Hd B b R a n c W W.drew := ⟨h, rfl, rfl, rfl, Nat.le_refl _, fun _ _ _ _ => rfl, x, y, hr⟩
theorem hd_set {B b R : Nat} {a : Option Addr} {n c : Nat} {W0 W : World} {x y : Value} (hne : R ≠ b) (k : Hd B b R a n c W0 W) : Hd B b R a n c W0 ((W.setCell ⟨R, 0, none⟩ x).setCell ⟨R, 1, none⟩ y) := by
  obtain ⟨u, v, hr⟩ := k.row
  obtain ⟨hB, i, z, h1, h2, h3, hk⟩ := k.cur
  refine ⟨⟨hB, i, z, h1, h2, h3, (heap_setCell_other _ _ _ _ (by simpa using Ne.symm hne)).trans ((heap_setCell_other _ _ _ _ (by simpa using Ne.symm hne)).trans hk)⟩, k.os, k.tape, k.output, by simpa using k.size, fun j h4 h5 h6 => (heap_setCell_other _ _ _ _ (by simpa using h6)).trans ((heap_setCell_other _ _ _ _ (by simpa using h6)).trans (k.block j h4 h5 h6)), x, y, blk_pair hr⟩
theorem hd_set' {p : Prop} {B b R : Nat} {a : Option Addr} {n c : Nat} {W0 W : World} {x y : Value} (hne : R ≠ b) (k : Hid (Hd B b R a n c W0 W) ∧ p) : Hd B b R a n c W0 ((W.setCell ⟨R, 0, none⟩ x).setCell ⟨R, 1, none⟩ y) := hd_set hne k.1.out
theorem held2 {B b R g : Nat} {a : Option Addr} {n c : Nat} {W0 W : World} {v0 v1 : Value} (c0 : W0.cell? ⟨g, 0, none⟩ = some v0) (c1 : W0.cell? ⟨g, 1, none⟩ = some v1) (hne : g ≠ b) (hnR : g ≠ R) (h : Hd B b R a n c W0 W) :
    Hid (Hd B b R a n c W0 W) ∧ W.cell? ⟨g, 0, none⟩ = some v0 ∧ W.cell? ⟨g, 1, none⟩ = some v1 := by
  have hb : W.heap[g]? = W0.heap[g]? := h.block g (block_lt_of_cell c0) hne hnR
  refine ⟨Lib.hid h, ?_, ?_⟩
  · rw [← c0]; exact World.cell?_of_block (a := ⟨g, 0, none⟩) hb
  · rw [← c1]; exact World.cell?_of_block (a := ⟨g, 1, none⟩) hb
theorem own_hdR {B b R : Nat} {a : Option Addr} {n c : Nat} {W0 W : World} {base e size : Nat} {v : Value} {k : Nat} {xs : List Value} (h : W0.ownsRow base e size v k xs) (hd : Hd B b R a n c W0 W) (hb : b < base) (hR : R < base) : W.ownsRow base e size v k xs :=
  ⟨h.1, h.2.imp id (fun ⟨g, cap, cur, hv, hbg, hg, r⟩ => ⟨g, cap, cur, hv, hbg, (hd.block g (lt_of_heap hg) (by omega) (by omega)).trans hg, r⟩)⟩
theorem below_hdR {B b R base : Nat} {a : Option Addr} {n c : Nat} {W0 W : World} (hd : Hd B b R a n c W0 W) (hb : base ≤ b) (hR : base ≤ R) (hB : base ≤ W0.heap.size) : Below base W0 W :=
  ⟨hd.os, hd.tape, hd.output, hd.size, fun k hk => hd.block k (by omega) (by omega) (by omega)⟩
theorem rows_cal {w : World} {B1 B2 : Nat} {vw vx : Value} {ws : List Int} {es : List (Int × Int)} (h1 : w.ownsRow B1 3 1 vw ws.length (ws.map (Value.int .i64))) (h2 : w.ownsRow B2 56 2 vx es.length (halfE es es.length es.length)) : Cal w (.agg #[vw, vx]) ws es :=
  ⟨vw, vx, rfl, ints_of_row rfl h1, excs_of_row rfl (Nat.le_refl _) h2⟩
/-- A row of one's own stays when the cursor moves on. -/
theorem own_hd {b : Nat} {W0 W : World} {base e size : Nat} {v : Value} {k : Nat} {xs : List Value} (h : W0.ownsRow base e size v k xs) (hd : W0.grownBy W (some b)) (hb : b < base) : W.ownsRow base e size v k xs :=
  h.kept hd (by
    cases hv : v.ownBlock with
    | none => exact Or.inl rfl
    | some j => exact Or.inr (fun e => by have := (h.lt j hv).1; cases e; omega))
theorem grown_below' {b base : Nat} {W0 W : World} (h : W0.grownBy W (some b)) (hb : base ≤ b) (hB : base ≤ W0.heap.size) : Below base W0 W := (Below.refl base W0).grown h hB (fun k hk => by cases hk; exact hb)

set_option maxRecDepth 100000 in
set_option maxHeartbeats 2000000 in
theorem draw_add (HCAL : DrawCal) (a : Option Addr) (n c : Nat) (w : World) (hn : n ≤ 1048576) (hcode : CodeAt w.heap.size w a n) :
    Calls Try.prog 14 #[.slice a n c] w (DrewC w) := by
  have HB : Below w.heap.size w (w.alloc (.cells #[.slice none 0 0, .slice none 0 0] 27)) := (Below.refl _ _).alloc (Nat.le_refl _) _
  have HR := heap_alloc_new w (.cells #[.slice none 0 0, .slice none 0 0] 27)
  have HC0 : Hid (CodeAt (w.alloc (.cells #[.slice none 0 0, .slice none 0 0] 27)).heap.size (w.alloc (.cells #[.slice none 0 0, .slice none 0 0] 27)) a n) := Lib.hid (codeAt_up' (hcode.below HB) HB.size)
  have HZ : Hid (w.heap.size < (w.alloc (.cells #[.slice none 0 0, .slice none 0 0] 27)).heap.size) := Lib.hid (by simp)
  have HCW := Lib.hid (hcode.below HB)
  clear hcode
  go_enter Try.func14, Try.ntmps14
  go_wp2_with fail
  generalize w.alloc (.cells #[.slice none 0 0, .slice none 0 0] 27) = w0 at *
  refine (l1_new a n c _ hn HC0.out).mono ?_
  rintro e w1 ⟨b, rfl, hcur, hb1⟩
  have HC1 := Lib.hid (HCW.out.below (hb1.mono HB.size))
  have HU1 : Hid (CurAt w.heap.size w1 b a n c) := Lib.hid (curAt_down hcur HB.size)
  have HR1 := Lib.hid (blk_below HR hb1)
  have HB1 := Lib.hid (HB.trans (hb1.mono HB.size))
  have hbb := hcur.1
  have hblt := hcur.lt
  have hs1 := hb1.size
  have hz := HZ.out
  have hbb' : w.heap.size ≤ b := Nat.le_trans HB.size hbb
  have hs1' : w.heap.size ≤ w1.heap.size := Nat.le_trans HB.size hs1
  clear hcur hb1 HR HB
  go_wp2_with fail
  refine (HCAL w.heap.size b a n c _ hn HC1.out HU1.out hs1').mono ?_
  rintro e w2 ⟨vw, vx, ws, es, rfl, hlw, hle, how, hox, hd⟩
  have HG2 := Lib.hid hd.grown
  have hs2 := hd.grown.size
  have HU2 := Lib.hid hd.cur
  obtain ⟨p1, q1, rfl⟩ := own_sl how
  obtain ⟨p2, q2, rfl⟩ := own_sl hox
  have HO2 := Lib.hid how
  have HX2 := Lib.hid hox
  clear hd how hox
  go_wp2_with fail
  have HA : Below w2.heap.size w2 (w2.alloc (.cells #[.slice p1 ws.length q1, .slice p2 es.length q2] 27)) := (Below.refl _ _).alloc (Nat.le_refl _) _
  have HBX := heap_alloc_new w2 (.cells #[.slice p1 ws.length q1, .slice p2 es.length q2] 27)
  have HU3 := Lib.hid (HU2.out.alloc (.cells #[.slice p1 ws.length q1, .slice p2 es.length q2] 27))
  have HO3 := Lib.hid (kept_any HO2.out HA)
  have HX3 := Lib.hid (kept_any HX2.out HA)
  have HG3 : Hid (w1.grownBy (w2.alloc (.cells #[.slice p1 ws.length q1, .slice p2 es.length q2] 27)) (some b)) := Lib.hid (HG2.out.trans (grown_below HA))
  have hs3 := HA.size
  have hs3' : w2.heap.size < (w2.alloc (.cells #[.slice p1 ws.length q1, .slice p2 es.length q2] 27)).heap.size := by simp
  clear HA HG2 HU2 HO2 HX2
  generalize w2.alloc (.cells #[.slice p1 ws.length q1, .slice p2 es.length q2] 27) = w3 at *
  refine (l4_day w.heap.size b a n c _ hn (HC1.out.below (grown_below' HG3.out hbb' hs1')) HU3.out (by omega)).mono ?_
  rintro e w4 ⟨dy, rfl, hdy0, hdy1, hd⟩
  have HG4 := Lib.hid (HG3.out.trans hd.grown)
  have HX4 := Lib.hid (own_hd HX3.out hd.grown (by omega))
  have HO4 := Lib.hid (own_hd HO3.out hd.grown (by omega))
  have HBX4 := Drawn.blk hd HBX (by omega)
  have HU4 := Lib.hid hd.cur
  have hs4 := hd.grown.size
  clear hd HG3 HX3 HO3 HBX HU3
  go_wp2_with fail
  refine (l1_once w.heap.size b a n c 12 _ hn (HC1.out.below (grown_below' HG4.out hbb' hs1')) HU4.out (by omega) (by omega) (by omega)).mono ?_
  rintro e w5 ⟨x, rfl, hd⟩
  have HG5 := Lib.hid (HG4.out.trans hd.grown)
  have HX5 := Lib.hid (own_hd HX4.out hd.grown (by omega))
  have HO5 := Lib.hid (own_hd HO4.out hd.grown (by omega))
  have HBX5 := Drawn.blk hd HBX4 (by omega)
  have HU5 := Lib.hid hd.cur
  have hs5 := hd.grown.size
  have HC5 := Lib.hid (HC1.out.below (grown_below' HG5.out hbb' hs1'))
  have HR5 : w5.heap[w.heap.size]? = some (.cells #[.slice none 0 0, .slice none 0 0] 27 (0, 0)) := (HG5.out.block _ (by omega) (by simp; omega)).trans HR1.out
  have c0 := cell_of_row _ _ 0 _ _ _ HBX5
  have c1 := cell_of_row _ _ 1 _ _ _ HBX5
  have HRR := Lib.hid HR5
  clear hd HG4 HX4 HO4 HBX4 HU4 HBX5 HR5
  have HODD : Hid (∀ W', Hd w.heap.size b w.heap.size a n c w5 W' → Calls Try.prog 37 #[.pointer (some ⟨b, 0, none⟩)] W' (Draws w.heap.size b a n c (-9223372036854775808) 9223372036854775807 W')) := Lib.hid (fun W' k => l1_odd w.heap.size b a n c _ hn (HC5.out.below (below_hdR k hbb' (by omega) (by omega))) k.cur (by have := k.size; omega))
  have HBEL : Hid (∀ W', Hd w.heap.size b w.heap.size a n c w5 W' → Calls Try.prog 38 #[.pointer (some ⟨b, 0, none⟩), .int .i64 41] W' (Draws w.heap.size b a n c 0 (41 - 1) W')) := Lib.hid (fun W' k => l1_below w.heap.size b a n c 41 _ hn (HC5.out.below (below_hdR k hbb' (by omega) (by omega))) k.cur (by omega) (by omega) (by have := k.size; omega))
  have hne1 : w2.heap.size ≠ b := by omega
  have hne2 : w2.heap.size ≠ w.heap.size := by omega
  have hne3 : w.heap.size ≠ b := by omega
  cases x
  · go_upto_region 6 with fail
    go_region_held3 (fun W' => Hid (Hd w.heap.size b w.heap.size a n c w5 W') ∧ W'.cell? ⟨w2.heap.size, 0, none⟩ = some (.slice p1 ws.length q1) ∧ W'.cell? ⟨w2.heap.size, 1, none⟩ = some (.slice p2 es.length q2))
      (first | assumption | exact held2 c0 c1 hne1 hne2 (hd_step hne3 (by assumption) (by assumption)) | exact held2 c0 c1 hne1 hne2 (hd_set' hne3 (by assumption)) | exact held2 c0 c1 hne1 hne2 (hd_drew HU5.out HRR.out))
      (first | (go_at_call 38; refine (HBEL.out _ (by assumption : Hid (Hd _ _ _ _ _ _ _ _) ∧ _).1.out).mono ?_; rintro e w' ⟨y, rfl, hy0, hy1, hd⟩; obtain ⟨rx, ry, hrow⟩ := (hd_step hne3 (by assumption) hd).row; have r0 := cell_of_row _ _ 0 _ _ _ hrow; have r1 := cell_of_row _ _ 1 _ _ _ hrow; have f0 := frozen_of_row _ _ 0 _ _ hrow; have f1 := frozen_of_row _ _ 1 _ _ hrow))
    all_goals
      go_wp2
      have hwy : IntKind.i64.wrap (y - 20) = y - 20 := IntWalk.i64_in _ (by omega)
      have hS := (by assumption : Hid (Hd w.heap.size b w.heap.size a n c w5 _) ∧ _).1.out
      exact bodyPost_ret (v := .tuple #[.agg #[.slice p1 ws.length q1, .slice p2 es.length q2], .int .i64 dy, .int .i64 (IntKind.i64.wrap (y - 20))]) (results_cell_row_slot2 Try.results14 _ _ _ _ #[.slice p1 ws.length q1, .slice p2 es.length q2] (0, 0) _ _ _ rfl rfl rfl (blk_pair hrow) Try.underlying27 rfl (by kernel_rfl)) rfl
        ⟨_, _, ws, es, dy, _, rfl, ⟨hdy0, hdy1⟩, ⟨by omega, by omega⟩, by omega, by omega, rows_cal (own_hdR HO5.out hS (by omega) (by omega)) (own_hdR HX5.out hS (by omega) (by omega)), HB1.out.trans ((grown_below' HG5.out hbb' hs1').trans (below_hdR hS hbb' (Nat.le_refl _) (by omega)))⟩
  · go_upto_region 5 with fail
    go_region_held3 (fun W' => Hid (Hd w.heap.size b w.heap.size a n c w5 W') ∧ W'.cell? ⟨w2.heap.size, 0, none⟩ = some (.slice p1 ws.length q1) ∧ W'.cell? ⟨w2.heap.size, 1, none⟩ = some (.slice p2 es.length q2))
      (first | assumption | exact held2 c0 c1 hne1 hne2 (hd_step hne3 (by assumption) (by assumption)) | exact held2 c0 c1 hne1 hne2 (hd_set' hne3 (by assumption)) | exact held2 c0 c1 hne1 hne2 (hd_drew HU5.out HRR.out))
      (first | (go_at_call 37; refine (HODD.out _ (by assumption : Hid (Hd _ _ _ _ _ _ _ _) ∧ _).1.out).mono ?_; rintro e w' ⟨y, rfl, hy0, hy1, hd⟩; obtain ⟨rx, ry, hrow⟩ := (hd_step hne3 (by assumption) hd).row; have r0 := cell_of_row _ _ 0 _ _ _ hrow; have r1 := cell_of_row _ _ 1 _ _ _ hrow; have f0 := frozen_of_row _ _ 0 _ _ hrow; have f1 := frozen_of_row _ _ 1 _ _ hrow))
    all_goals
      go_wp2
      have hS := (by assumption : Hid (Hd w.heap.size b w.heap.size a n c w5 _) ∧ _).1.out
      exact bodyPost_ret (v := .tuple #[.agg #[.slice p1 ws.length q1, .slice p2 es.length q2], .int .i64 dy, .int .i64 y]) (results_cell_row_slot2 Try.results14 _ _ _ _ #[.slice p1 ws.length q1, .slice p2 es.length q2] (0, 0) _ _ _ rfl rfl rfl (blk_pair hrow) Try.underlying27 rfl (by kernel_rfl)) rfl
        ⟨_, _, ws, es, dy, _, rfl, ⟨hdy0, hdy1⟩, ⟨by omega, by omega⟩, by omega, by omega, rows_cal (own_hdR HO5.out hS (by omega) (by omega)) (own_hdR HX5.out hS (by omega) (by omega)), HB1.out.trans ((grown_below' HG5.out hbb' hs1').trans (below_hdR hS hbb' (Nat.le_refl _) (by omega)))⟩

set_option maxRecDepth 100000 in
set_option maxHeartbeats 2000000 in
theorem draw_fin (HCAL : DrawCal) (a : Option Addr) (n c : Nat) (w : World) (hn : n ≤ 1048576) (hcode : CodeAt w.heap.size w a n) :
    Calls Try.prog 24 #[.slice a n c] w (DrewC w) := by
  have HB : Below w.heap.size w (w.alloc (.cells #[.slice none 0 0, .slice none 0 0] 27)) := (Below.refl _ _).alloc (Nat.le_refl _) _
  have HR := heap_alloc_new w (.cells #[.slice none 0 0, .slice none 0 0] 27)
  have HC0 : Hid (CodeAt (w.alloc (.cells #[.slice none 0 0, .slice none 0 0] 27)).heap.size (w.alloc (.cells #[.slice none 0 0, .slice none 0 0] 27)) a n) := Lib.hid (codeAt_up' (hcode.below HB) HB.size)
  have HZ : Hid (w.heap.size < (w.alloc (.cells #[.slice none 0 0, .slice none 0 0] 27)).heap.size) := Lib.hid (by simp)
  have HCW := Lib.hid (hcode.below HB)
  clear hcode
  go_enter Try.func24, Try.ntmps24
  go_wp2_with fail
  generalize w.alloc (.cells #[.slice none 0 0, .slice none 0 0] 27) = w0 at *
  refine (l1_new a n c _ hn HC0.out).mono ?_
  rintro e w1 ⟨b, rfl, hcur, hb1⟩
  have HC1 := Lib.hid (HCW.out.below (hb1.mono HB.size))
  have HU1 : Hid (CurAt w.heap.size w1 b a n c) := Lib.hid (curAt_down hcur HB.size)
  have HR1 := Lib.hid (blk_below HR hb1)
  have HB1 := Lib.hid (HB.trans (hb1.mono HB.size))
  have hbb := hcur.1
  have hblt := hcur.lt
  have hs1 := hb1.size
  have hz := HZ.out
  have hbb' : w.heap.size ≤ b := Nat.le_trans HB.size hbb
  have hs1' : w.heap.size ≤ w1.heap.size := Nat.le_trans HB.size hs1
  clear hcur hb1 HR HB
  go_wp2_with fail
  refine (HCAL w.heap.size b a n c _ hn HC1.out HU1.out hs1').mono ?_
  rintro e w2 ⟨vw, vx, ws, es, rfl, hlw, hle, how, hox, hd⟩
  have HG2 := Lib.hid hd.grown
  have hs2 := hd.grown.size
  have HU2 := Lib.hid hd.cur
  obtain ⟨p1, q1, rfl⟩ := own_sl how
  obtain ⟨p2, q2, rfl⟩ := own_sl hox
  have HO2 := Lib.hid how
  have HX2 := Lib.hid hox
  clear hd how hox
  go_wp2_with fail
  have HA : Below w2.heap.size w2 (w2.alloc (.cells #[.slice p1 ws.length q1, .slice p2 es.length q2] 27)) := (Below.refl _ _).alloc (Nat.le_refl _) _
  have HBX := heap_alloc_new w2 (.cells #[.slice p1 ws.length q1, .slice p2 es.length q2] 27)
  have HU3 := Lib.hid (HU2.out.alloc (.cells #[.slice p1 ws.length q1, .slice p2 es.length q2] 27))
  have HO3 := Lib.hid (kept_any HO2.out HA)
  have HX3 := Lib.hid (kept_any HX2.out HA)
  have HG3 : Hid (w1.grownBy (w2.alloc (.cells #[.slice p1 ws.length q1, .slice p2 es.length q2] 27)) (some b)) := Lib.hid (HG2.out.trans (grown_below HA))
  have hs3 := HA.size
  have hs3' : w2.heap.size < (w2.alloc (.cells #[.slice p1 ws.length q1, .slice p2 es.length q2] 27)).heap.size := by simp
  clear HA HG2 HU2 HO2 HX2
  generalize w2.alloc (.cells #[.slice p1 ws.length q1, .slice p2 es.length q2] 27) = w3 at *
  refine (l4_day w.heap.size b a n c _ hn (HC1.out.below (grown_below' HG3.out hbb' hs1')) HU3.out (by omega)).mono ?_
  rintro e w4 ⟨dy, rfl, hdy0, hdy1, hd⟩
  have HG4 := Lib.hid (HG3.out.trans hd.grown)
  have HX4 := Lib.hid (own_hd HX3.out hd.grown (by omega))
  have HO4 := Lib.hid (own_hd HO3.out hd.grown (by omega))
  have HBX4 := Drawn.blk hd HBX (by omega)
  have HU4 := Lib.hid hd.cur
  have hs4 := hd.grown.size
  clear hd HG3 HX3 HO3 HBX HU3
  go_wp2_with fail
  refine (l1_once w.heap.size b a n c 12 _ hn (HC1.out.below (grown_below' HG4.out hbb' hs1')) HU4.out (by omega) (by omega) (by omega)).mono ?_
  rintro e w5 ⟨x, rfl, hd⟩
  have HG5 := Lib.hid (HG4.out.trans hd.grown)
  have HX5 := Lib.hid (own_hd HX4.out hd.grown (by omega))
  have HO5 := Lib.hid (own_hd HO4.out hd.grown (by omega))
  have HBX5 := Drawn.blk hd HBX4 (by omega)
  have HU5 := Lib.hid hd.cur
  have hs5 := hd.grown.size
  have HC5 := Lib.hid (HC1.out.below (grown_below' HG5.out hbb' hs1'))
  have HR5 : w5.heap[w.heap.size]? = some (.cells #[.slice none 0 0, .slice none 0 0] 27 (0, 0)) := (HG5.out.block _ (by omega) (by simp; omega)).trans HR1.out
  have c0 := cell_of_row _ _ 0 _ _ _ HBX5
  have c1 := cell_of_row _ _ 1 _ _ _ HBX5
  have HRR := Lib.hid HR5
  clear hd HG4 HX4 HO4 HBX4 HU4 HBX5 HR5
  have HODD : Hid (∀ W', Hd w.heap.size b w.heap.size a n c w5 W' → Calls Try.prog 37 #[.pointer (some ⟨b, 0, none⟩)] W' (Draws w.heap.size b a n c (-9223372036854775808) 9223372036854775807 W')) := Lib.hid (fun W' k => l1_odd w.heap.size b a n c _ hn (HC5.out.below (below_hdR k hbb' (by omega) (by omega))) k.cur (by have := k.size; omega))
  have HBEL : Hid (∀ W', Hd w.heap.size b w.heap.size a n c w5 W' → Calls Try.prog 38 #[.pointer (some ⟨b, 0, none⟩), .int .i64 120] W' (Draws w.heap.size b a n c 0 (120 - 1) W')) := Lib.hid (fun W' k => l1_below w.heap.size b a n c 120 _ hn (HC5.out.below (below_hdR k hbb' (by omega) (by omega))) k.cur (by omega) (by omega) (by have := k.size; omega))
  have hne1 : w2.heap.size ≠ b := by omega
  have hne2 : w2.heap.size ≠ w.heap.size := by omega
  have hne3 : w.heap.size ≠ b := by omega
  cases x
  · go_upto_region 6 with fail
    go_region_held3 (fun W' => Hid (Hd w.heap.size b w.heap.size a n c w5 W') ∧ W'.cell? ⟨w2.heap.size, 0, none⟩ = some (.slice p1 ws.length q1) ∧ W'.cell? ⟨w2.heap.size, 1, none⟩ = some (.slice p2 es.length q2))
      (first | assumption | exact held2 c0 c1 hne1 hne2 (hd_step hne3 (by assumption) (by assumption)) | exact held2 c0 c1 hne1 hne2 (hd_set' hne3 (by assumption)) | exact held2 c0 c1 hne1 hne2 (hd_drew HU5.out HRR.out))
      (first | (go_at_call 38; refine (HBEL.out _ (by assumption : Hid (Hd _ _ _ _ _ _ _ _) ∧ _).1.out).mono ?_; rintro e w' ⟨y, rfl, hy0, hy1, hd⟩; obtain ⟨rx, ry, hrow⟩ := (hd_step hne3 (by assumption) hd).row; have r0 := cell_of_row _ _ 0 _ _ _ hrow; have r1 := cell_of_row _ _ 1 _ _ _ hrow; have f0 := frozen_of_row _ _ 0 _ _ hrow; have f1 := frozen_of_row _ _ 1 _ _ hrow))
    all_goals
      go_wp2
      have hwy : IntKind.i64.wrap (y - 20) = y - 20 := IntWalk.i64_in _ (by omega)
      have hS := (by assumption : Hid (Hd w.heap.size b w.heap.size a n c w5 _) ∧ _).1.out
      exact bodyPost_ret (v := .tuple #[.agg #[.slice p1 ws.length q1, .slice p2 es.length q2], .int .i64 dy, .int .i64 y]) (results_cell_row_slot2 Try.results24 _ _ _ _ #[.slice p1 ws.length q1, .slice p2 es.length q2] (0, 0) _ _ _ rfl rfl rfl (blk_pair hrow) Try.underlying27 rfl (by kernel_rfl)) rfl
        ⟨_, _, ws, es, dy, _, rfl, ⟨hdy0, hdy1⟩, ⟨by omega, by omega⟩, by omega, by omega, rows_cal (own_hdR HO5.out hS (by omega) (by omega)) (own_hdR HX5.out hS (by omega) (by omega)), HB1.out.trans ((grown_below' HG5.out hbb' hs1').trans (below_hdR hS hbb' (Nat.le_refl _) (by omega)))⟩
  · go_upto_region 5 with fail
    go_region_held3 (fun W' => Hid (Hd w.heap.size b w.heap.size a n c w5 W') ∧ W'.cell? ⟨w2.heap.size, 0, none⟩ = some (.slice p1 ws.length q1) ∧ W'.cell? ⟨w2.heap.size, 1, none⟩ = some (.slice p2 es.length q2))
      (first | assumption | exact held2 c0 c1 hne1 hne2 (hd_step hne3 (by assumption) (by assumption)) | exact held2 c0 c1 hne1 hne2 (hd_set' hne3 (by assumption)) | exact held2 c0 c1 hne1 hne2 (hd_drew HU5.out HRR.out))
      (first | (go_at_call 37; refine (HODD.out _ (by assumption : Hid (Hd _ _ _ _ _ _ _ _) ∧ _).1.out).mono ?_; rintro e w' ⟨y, rfl, hy0, hy1, hd⟩; obtain ⟨rx, ry, hrow⟩ := (hd_step hne3 (by assumption) hd).row; have r0 := cell_of_row _ _ 0 _ _ _ hrow; have r1 := cell_of_row _ _ 1 _ _ _ hrow; have f0 := frozen_of_row _ _ 0 _ _ hrow; have f1 := frozen_of_row _ _ 1 _ _ hrow))
    all_goals
      go_wp2
      have hS := (by assumption : Hid (Hd w.heap.size b w.heap.size a n c w5 _) ∧ _).1.out
      exact bodyPost_ret (v := .tuple #[.agg #[.slice p1 ws.length q1, .slice p2 es.length q2], .int .i64 dy, .int .i64 y]) (results_cell_row_slot2 Try.results24 _ _ _ _ #[.slice p1 ws.length q1, .slice p2 es.length q2] (0, 0) _ _ _ rfl rfl rfl (blk_pair hrow) Try.underlying27 rfl (by kernel_rfl)) rfl
        ⟨_, _, ws, es, dy, _, rfl, ⟨hdy0, hdy1⟩, ⟨by omega, by omega⟩, by omega, by omega, rows_cal (own_hdR HO5.out hS (by omega) (by omega)) (own_hdR HX5.out hS (by omega) (by omega)), HB1.out.trans ((grown_below' HG5.out hbb' hs1').trans (below_hdR hS hbb' (Nat.le_refl _) (by omega)))⟩

theorem own_base {w : World} {base base' e size : Nat} {v : Value} {k : Nat} {xs : List Value} (h : w.ownsRow base e size v k xs) (hle : base' ≤ base) : w.ownsRow base' e size v k xs :=
  ⟨h.1, h.2.imp id (fun ⟨g, cap, cur, hv, hb, r⟩ => ⟨g, cap, cur, hv, Nat.le_trans hle hb, r⟩)⟩
/-- A calendar of one's own and two numbers, drawn. -/
def DrewO (w : World) (e : Ending) (w' : World) : Prop := ∃ (vw vx : Value) (ws : List Int) (es : List (Int × Int)) (x y : Int), e = .returned (.tuple #[.agg #[vw, vx], .int .i64 x, .int .i64 y]) ∧ (-9223372036854775808 ≤ x ∧ x ≤ 9223372036854775807) ∧ (-9223372036854775808 ≤ y ∧ y ≤ 9223372036854775807) ∧ ws.length ≤ 1048576 ∧ es.length ≤ 1048576 ∧ w'.ownsRow w.heap.size 3 1 vw ws.length (ws.map (Value.int .i64)) ∧ w'.ownsRow w.heap.size 56 2 vx es.length (halfE es es.length es.length) ∧ Below w.heap.size w w'

set_option maxRecDepth 100000 in
set_option maxHeartbeats 2000000 in
theorem draw_two (HCAL : DrawCal) (a : Option Addr) (n c : Nat) (w : World) (hn : n ≤ 1048576) (hcode : CodeAt w.heap.size w a n) :
    Calls Try.prog 45 #[.slice a n c] w (DrewO w) := by
  have HB : Below w.heap.size w (w.alloc (.cells #[.slice none 0 0, .slice none 0 0] 27)) := (Below.refl _ _).alloc (Nat.le_refl _) _
  have HR := heap_alloc_new w (.cells #[.slice none 0 0, .slice none 0 0] 27)
  have HC0 : Hid (CodeAt (w.alloc (.cells #[.slice none 0 0, .slice none 0 0] 27)).heap.size (w.alloc (.cells #[.slice none 0 0, .slice none 0 0] 27)) a n) := Lib.hid (codeAt_up' (hcode.below HB) HB.size)
  have HZ : Hid (w.heap.size < (w.alloc (.cells #[.slice none 0 0, .slice none 0 0] 27)).heap.size) := Lib.hid (by simp)
  have HCW := Lib.hid (hcode.below HB)
  clear hcode
  go_enter Try.func45, Try.ntmps45
  go_wp2_with fail
  generalize w.alloc (.cells #[.slice none 0 0, .slice none 0 0] 27) = w0 at *
  refine (l1_new a n c _ hn HC0.out).mono ?_
  rintro e w1 ⟨b, rfl, hcur, hb1⟩
  have HC1 := Lib.hid (HCW.out.below (hb1.mono HB.size))
  have HU1 : Hid (CurAt w.heap.size w1 b a n c) := Lib.hid (curAt_down hcur HB.size)
  have HR1 := Lib.hid (blk_below HR hb1)
  have HB1 := Lib.hid (HB.trans (hb1.mono HB.size))
  have hbb := hcur.1
  have hblt := hcur.lt
  have hs1 := hb1.size
  have hz := HZ.out
  have hbb' : w.heap.size ≤ b := Nat.le_trans HB.size hbb
  have hs1' : w.heap.size ≤ w1.heap.size := Nat.le_trans HB.size hs1
  clear hcur hb1 HR HB
  go_wp2_with fail
  refine (HCAL w.heap.size b a n c _ hn HC1.out HU1.out hs1').mono ?_
  rintro e w2 ⟨vw, vx, ws, es, rfl, hlw, hle, how, hox, hd⟩
  have HG3 := Lib.hid hd.grown
  have hs2 := hd.grown.size
  have HU3 := Lib.hid hd.cur
  obtain ⟨p1, q1, rfl⟩ := own_sl how
  obtain ⟨p2, q2, rfl⟩ := own_sl hox
  have HO3 := Lib.hid how
  have HX3 := Lib.hid hox
  clear hd how hox
  go_wp2_with fail
  refine (l4_day w.heap.size b a n c _ hn (HC1.out.below (grown_below' HG3.out hbb' hs1')) HU3.out (by omega)).mono ?_
  rintro e w4 ⟨dy, rfl, hdy0, hdy1, hd⟩
  have HG4 := Lib.hid (HG3.out.trans hd.grown)
  have HX4 := Lib.hid (own_hd HX3.out hd.grown (by omega))
  have HO4 := Lib.hid (own_hd HO3.out hd.grown (by omega))
  have HU4 := Lib.hid hd.cur
  have hs4 := hd.grown.size
  clear hd HG3 HX3 HO3 HU3
  go_wp2_with fail
  refine (l4_day w.heap.size b a n c _ hn (HC1.out.below (grown_below' HG4.out hbb' hs1')) HU4.out (by omega)).mono ?_
  rintro e w5 ⟨y, rfl, hy0, hy1, hd⟩
  have HG5 := Lib.hid (HG4.out.trans hd.grown)
  have HX5 := Lib.hid (own_hd HX4.out hd.grown (by omega))
  have HO5 := Lib.hid (own_hd HO4.out hd.grown (by omega))
  have HU5 := Lib.hid hd.cur
  have hs5 := hd.grown.size
  have hrow : w5.heap[w.heap.size]? = some (.cells #[.slice none 0 0, .slice none 0 0] 27 (0, 0)) := (HG5.out.block _ (by omega) (by simp; omega)).trans HR1.out
  have r0 := cell_of_row _ _ 0 _ _ _ hrow
  have r1 := cell_of_row _ _ 1 _ _ _ hrow
  have f0 := frozen_of_row _ _ 0 _ _ hrow
  have f1 := frozen_of_row _ _ 1 _ _ hrow
  clear hd HG4 HX4 HO4 HU4
  go_wp2_with fail
  have hS : Hd w.heap.size b w.heap.size a n c w5 ((w5.setCell ⟨w.heap.size, 0, none⟩ (.slice p1 ws.length q1)).setCell ⟨w.heap.size, 1, none⟩ (.slice p2 es.length q2)) := hd_set (by omega) ⟨HU5.out, rfl, rfl, rfl, Nat.le_refl _, fun _ _ _ _ => rfl, _, _, hrow⟩
  exact bodyPost_ret (v := .tuple #[.agg #[.slice p1 ws.length q1, .slice p2 es.length q2], .int .i64 dy, .int .i64 y]) (results_cell_row_slot2 Try.results45 _ _ _ _ #[.slice p1 ws.length q1, .slice p2 es.length q2] (0, 0) _ _ _ rfl rfl rfl (blk_pair hrow) Try.underlying27 rfl (by kernel_rfl)) rfl
    ⟨_, _, ws, es, dy, _, rfl, ⟨hdy0, hdy1⟩, ⟨by omega, by omega⟩, by omega, by omega, own_base (own_hdR HO5.out hS (by omega) (by omega)) hs1', own_base (own_hdR HX5.out hS (by omega) (by omega)) hs1', HB1.out.trans ((grown_below' HG5.out hbb' hs1').trans (below_hdR hS hbb' (Nat.le_refl _) (by omega)))⟩

set_option maxRecDepth 100000 in
set_option maxHeartbeats 2000000 in
theorem draw_hrs (HCAL : DrawCal) (a : Option Addr) (n c : Nat) (w : World) (hn : n ≤ 1048576) (hcode : CodeAt w.heap.size w a n) :
    Calls Try.prog 20 #[.slice a n c] w (DrewC w) := by
  have HB : Below w.heap.size w (w.alloc (.cells #[.slice none 0 0, .slice none 0 0] 27)) := (Below.refl _ _).alloc (Nat.le_refl _) _
  have HR := heap_alloc_new w (.cells #[.slice none 0 0, .slice none 0 0] 27)
  have HC0 : Hid (CodeAt (w.alloc (.cells #[.slice none 0 0, .slice none 0 0] 27)).heap.size (w.alloc (.cells #[.slice none 0 0, .slice none 0 0] 27)) a n) := Lib.hid (codeAt_up' (hcode.below HB) HB.size)
  have HZ : Hid (w.heap.size < (w.alloc (.cells #[.slice none 0 0, .slice none 0 0] 27)).heap.size) := Lib.hid (by simp)
  clear hcode
  go_enter Try.func20, Try.ntmps20
  go_wp2_with fail
  generalize w.alloc (.cells #[.slice none 0 0, .slice none 0 0] 27) = w0 at *
  refine (draw_two HCAL a n c _ hn HC0.out).mono ?_
  rintro e w1 ⟨vw, vx, ws, es, dy, y, rfl, hdy, hy, hlw, hle, how, hox, hb⟩
  obtain ⟨p1, q1, rfl⟩ := own_sl how
  obtain ⟨p2, q2, rfl⟩ := own_sl hox
  have hrow := blk_below HR hb
  have HB1 := Lib.hid (HB.trans (hb.mono HB.size))
  have r0 := cell_of_row _ _ 0 _ _ _ hrow
  have r1 := cell_of_row _ _ 1 _ _ _ hrow
  have f0 := frozen_of_row _ _ 0 _ _ hrow
  have f1 := frozen_of_row _ _ 1 _ _ hrow
  clear HB HR
  go_wp2_with fail
  have hz := HZ.out
  exact bodyPost_ret (v := .tuple #[.agg #[.slice p1 ws.length q1, .slice p2 es.length q2], .int .i64 dy, .int .i64 y]) (results_cell_row_slot2 Try.results20 _ _ _ _ #[.slice p1 ws.length q1, .slice p2 es.length q2] (0, 0) _ _ _ rfl rfl rfl (blk_pair hrow) Try.underlying27 rfl (by kernel_rfl)) rfl
    ⟨_, _, ws, es, dy, _, rfl, hdy, hy, hlw, hle, rows_cal (own_set (own_set how _ _ _ (by omega)) _ _ _ (by omega)) (own_set (own_set hox _ _ _ (by omega)) _ _ _ (by omega)), (HB1.out.setCell (by simp) _).setCell (by simp) _⟩

set_option maxRecDepth 100000 in
set_option maxHeartbeats 2000000 in
theorem draw_wbt (HCAL : DrawCal) (a : Option Addr) (n c : Nat) (w : World) (hn : n ≤ 1048576) (hcode : CodeAt w.heap.size w a n) :
    Calls Try.prog 21 #[.slice a n c] w (DrewC w) := by
  have HB : Below w.heap.size w (w.alloc (.cells #[.slice none 0 0, .slice none 0 0] 27)) := (Below.refl _ _).alloc (Nat.le_refl _) _
  have HR := heap_alloc_new w (.cells #[.slice none 0 0, .slice none 0 0] 27)
  have HC0 : Hid (CodeAt (w.alloc (.cells #[.slice none 0 0, .slice none 0 0] 27)).heap.size (w.alloc (.cells #[.slice none 0 0, .slice none 0 0] 27)) a n) := Lib.hid (codeAt_up' (hcode.below HB) HB.size)
  have HZ : Hid (w.heap.size < (w.alloc (.cells #[.slice none 0 0, .slice none 0 0] 27)).heap.size) := Lib.hid (by simp)
  clear hcode
  go_enter Try.func21, Try.ntmps21
  go_wp2_with fail
  generalize w.alloc (.cells #[.slice none 0 0, .slice none 0 0] 27) = w0 at *
  refine (draw_two HCAL a n c _ hn HC0.out).mono ?_
  rintro e w1 ⟨vw, vx, ws, es, dy, y, rfl, hdy, hy, hlw, hle, how, hox, hb⟩
  obtain ⟨p1, q1, rfl⟩ := own_sl how
  obtain ⟨p2, q2, rfl⟩ := own_sl hox
  have hrow := blk_below HR hb
  have HB1 := Lib.hid (HB.trans (hb.mono HB.size))
  have r0 := cell_of_row _ _ 0 _ _ _ hrow
  have r1 := cell_of_row _ _ 1 _ _ _ hrow
  have f0 := frozen_of_row _ _ 0 _ _ hrow
  have f1 := frozen_of_row _ _ 1 _ _ hrow
  clear HB HR
  go_wp2_with fail
  have hz := HZ.out
  exact bodyPost_ret (v := .tuple #[.agg #[.slice p1 ws.length q1, .slice p2 es.length q2], .int .i64 dy, .int .i64 y]) (results_cell_row_slot2 Try.results21 _ _ _ _ #[.slice p1 ws.length q1, .slice p2 es.length q2] (0, 0) _ _ _ rfl rfl rfl (blk_pair hrow) Try.underlying27 rfl (by kernel_rfl)) rfl
    ⟨_, _, ws, es, dy, _, rfl, hdy, hy, hlw, hle, rows_cal (own_set (own_set how _ _ _ (by omega)) _ _ _ (by omega)) (own_set (own_set hox _ _ _ (by omega)) _ _ _ (by omega)), (HB1.out.setCell (by simp) _).setCell (by simp) _⟩

end Go.Proofs.Ytkhonlcekjckoaa
