/-
  The program's count of days with work and of their hours between two days.
-/
import Derived.Test.YtkhonlcekjckoaaCalFind
import Derived.Test.YtkhonlcekjckoaaCalSeq
import Derived.Test.YtkhonlcekjckoaaHold
namespace Go.Proofs.Ytkhonlcekjckoaa
open Go.RowKit Go.Shelf
attribute [local go_sem] Oper.semAt_some

theorem aggs {vw vx : Value} {cs : Array Value} (h : Value.agg #[vw, vx] = .agg cs) : cs = #[vw, vx] := by cases h; rfl
/-- Four blocks are laid. -/
theorem four (w : World) (o0 o1 o2 o3 : Obj) : Below w.heap.size w ((((w.alloc o0).alloc o1).alloc o2).alloc o3) ∧ ((((w.alloc o0).alloc o1).alloc o2).alloc o3).heap.size = w.heap.size + 1 + 1 + 1 + 1 ∧
    ((((w.alloc o0).alloc o1).alloc o2).alloc o3).heap[w.heap.size]? = some o0 ∧ ((((w.alloc o0).alloc o1).alloc o2).alloc o3).heap[w.heap.size + 1]? = some o1 ∧
    ((((w.alloc o0).alloc o1).alloc o2).alloc o3).heap[w.heap.size + 1 + 1]? = some o2 ∧ ((((w.alloc o0).alloc o1).alloc o2).alloc o3).heap[w.heap.size + 1 + 1 + 1]? = some o3 := by
  have e1 : (w.alloc o0).heap.size = w.heap.size + 1 := by simp
  have e2 : ((w.alloc o0).alloc o1).heap.size = w.heap.size + 1 + 1 := by simp
  have e3 : (((w.alloc o0).alloc o1).alloc o2).heap.size = w.heap.size + 1 + 1 + 1 := by simp
  have h2 := heap_alloc_new ((w.alloc o0).alloc o1) o2
  rw [e2] at h2
  have h3 := heap_alloc_new (((w.alloc o0).alloc o1).alloc o2) o3
  rw [e3] at h3
  exact ⟨((((Below.refl _ w).alloc (Nat.le_refl _) _).alloc (by simp) _).alloc (by simp; omega) _).alloc (by simp; omega) _, by simp,
    blk_alloc (blk_alloc (blk_alloc (heap_alloc_new w _) _) _) _, blk_alloc (blk_alloc (heap_alloc2_new w _ _) _) _, blk_alloc h2 _, h3⟩
/-- Three blocks are laid. -/
theorem three (w : World) (o0 o1 o2 : Obj) : Below w.heap.size w (((w.alloc o0).alloc o1).alloc o2) ∧ (((w.alloc o0).alloc o1).alloc o2).heap.size = w.heap.size + 1 + 1 + 1 ∧
    (((w.alloc o0).alloc o1).alloc o2).heap[w.heap.size]? = some o0 ∧ (((w.alloc o0).alloc o1).alloc o2).heap[w.heap.size + 1]? = some o1 ∧ (((w.alloc o0).alloc o1).alloc o2).heap[w.heap.size + 1 + 1]? = some o2 := by
  have e2 : ((w.alloc o0).alloc o1).heap.size = w.heap.size + 1 + 1 := by simp
  have h2 := heap_alloc_new ((w.alloc o0).alloc o1) o2
  rw [e2] at h2
  exact ⟨(((Below.refl _ w).alloc (Nat.le_refl _) _).alloc (by simp) _).alloc (by simp; omega) _, by simp, blk_alloc (blk_alloc (heap_alloc_new w _) _) _, blk_alloc (heap_alloc2_new w _ _) _, h2⟩
theorem kpW_t {n₀ bs bc : Nat} {A B C : World} (h : KpW n₀ bs bc A B) (k : KpW n₀ bs bc B C) : KpW n₀ bs bc A C := ⟨h.1.trans k.1, k.2.1.trans h.2.1, k.2.2.trans h.2.2⟩
theorem kpW_b {n₀ bs bc : Nat} {w : World} (h0 : n₀ ≤ w.heap.size) (h1 : bs < w.heap.size) (h2 : bc < w.heap.size) (W : World) (l : Nat) (o o' : Obj) (hl : w.heap.size ≤ l) (ho : W.heap[l]? = some o) (hc : o.isCells = false) (hw : o.isWalk = false) : KpW n₀ bs bc W (W.putObj l o') :=
  have k := belowK_b (n₀ := w.heap.size) (Nat.le_refl _) W l o o' hl ho hc hw
  ⟨k.mono h0, k.block _ h1, k.block _ h2⟩

set_option maxRecDepth 100000 in
set_option maxHeartbeats 4000000 in
theorem workBetween_neg (v : Value) (ws : List Int) (es : List (Int × Int)) (a b : Int) (w : World) (h : Cal w v ws es) (hv : IsCal ws es) (ha : a < 0) :
    Calls Try.prog 43 #[v, .int .i64 a, .int .i64 b] w fun e w' => e = .returned (.tuple #[.int .i64 (cnt (wOf ws es) 0 b), .int .i64 (cnt (hOf ws es) 0 b)]) ∧ Below w.heap.size w w' := by
  have HC := Lib.hid h
  obtain ⟨vw, vx, rfl, hw, hx⟩ := h
  have HV := Lib.hid hv
  clear hw hx hv
  refine (callsIn_wide (n := 3)).1 ?_
  refine callsIn_of_wp_marks Try.func43 rfl trivial ?_
  simp only [Try.ntmps43, List.size_toArray, List.length_cons, List.length_nil, Nat.reduceAdd, Nat.reduceSub, Array.replicate_succ, Array.replicate_zero, List.push_toArray, List.append_toArray, List.nil_append, List.cons_append]
  gi_wp2
  refine ⟨trivial, (callsIn_wide.2 (impl_workdays _ _ _ _ ⟨_, _, rfl⟩)).mono ?_⟩
  rintro e w7 ⟨cs, hcs, hcz, rfl, rfl⟩
  obtain rfl := aggs hcs
  clear hcs hcz
  obtain ⟨hB4, hz4, r0, r1, r2, r3⟩ := four w (.cells #[vw, vx] 27) (.cells #[.int .i64 b] 3) (.cells #[.int .i64 0] 3) (.cells #[.int .i64 0] 3)
  generalize ((((w.alloc (.cells #[vw, vx] 27)).alloc (.cells #[.int .i64 b] 3)).alloc (.cells #[.int .i64 0] 3)).alloc (.cells #[.int .i64 0] 3)) = w4 at *
  obtain ⟨hB7, hz7, s0, s1, s2⟩ := three w4 (.cells #[vw, vx] 27) (.cells #[.int .i64 0] 3) (.cells #[.int .i64 1] 3)
  generalize (((w4.alloc (.cells #[vw, vx] 27)).alloc (.cells #[.int .i64 0] 3)).alloc (.cells #[.int .i64 1] 3)) = W0 at *
  have HBW : Below w.heap.size w W0 := hB4.trans (hB7.mono hB4.size)
  have hsz : W0.heap.size = w.heap.size + 7 := by omega
  have r1' := blk_below r1 hB7
  have r2' := blk_below r2 hB7
  have r3' := blk_below r3 hB7
  clear r0 r1 r2 r3 hB4 hB7
  have cb := cell_of_row _ _ 0 _ _ _ r1'
  have cd := cell_of_row _ _ 0 _ _ _ r2'
  have cdf := frozen_of_row _ _ 0 _ _ r2'
  have ch := cell_of_row _ _ 0 _ _ _ r3'
  have chf := frozen_of_row _ _ 0 _ _ r3'
  rw [hz4] at s0 s1 s2 hz7
  have cq := cell_of_row _ _ 0 _ _ _ s1
  have cst := cell_of_row _ _ 0 _ _ _ s2
  gi_wp2
  have hmx : Try.prog.follows .mixedOrders = true := by kernel_rfl
  refine wpIn_rangeFunc_ownF rfl (by omega) (gf := 60) (lb := #[.pointer (some ⟨w.heap.size + 1 + 1 + 1 + 1 + 1, 0, none⟩), .pointer (some ⟨w.heap.size + 1 + 1 + 1 + 1 + 1 + 1, 0, none⟩), .pointer (some ⟨w.heap.size + 1 + 1 + 1 + 1, 0, none⟩)]) rfl trivial (enters_of Try.func60 (by kernel_rfl) rfl)
    (work_stops (w.heap.size + 1 + 1 + 1 + 1 + 1) (w.heap.size + 1 + 1 + 1 + 1 + 1 + 1) (w.heap.size + 1 + 1 + 1 + 1) vw vx ws es 0 1 w W0 (Or.inl rfl) HV.out HC.out HBW cq cst s0) kpW_t (kpW_b (by omega) (by omega) (by omega)) (Below.refl _ _) (fun _ => rfl)
    (fun pre W => (W.cell? ⟨w.heap.size + 1 + 1, 0, none⟩ = some (.int .i64 ((pre.length : Nat) : Int)) ∧ W.frozen? ⟨w.heap.size + 1 + 1, 0, none⟩ = false ∧ W.cell? ⟨w.heap.size + 1 + 1 + 1, 0, none⟩ = some (.int .i64 (sumD (hOf ws es) pre)) ∧ W.frozen? ⟨w.heap.size + 1 + 1 + 1, 0, none⟩ = false ∧ W.cell? ⟨w.heap.size + 1, 0, none⟩ = some (.int .i64 b) ∧ AllB b pre) ∧ Below w.heap.size w W)
    (fun c pre W => (∃ (p : List (Fin 1000)) (x : Fin 1000), pre = p ++ [x] ∧ c = .exit 0 ∧ b ≤ ((x.1 : Nat) : Int) ∧ AllB b p ∧ W.cell? ⟨w.heap.size + 1 + 1, 0, none⟩ = some (.int .i64 ((p.length : Nat) : Int)) ∧ W.cell? ⟨w.heap.size + 1 + 1 + 1, 0, none⟩ = some (.int .i64 (sumD (hOf ws es) p))) ∧ Below w.heap.size w W)
    (OwnFrom.and (Own.from (fun s A B row hs hg hr => ⟨cell_kept hs.1 hg hr, (frozen_kept hs.1 hg hr).trans hs.2.1, cell_kept hs.2.2.1 hg hr, (frozen_kept hs.2.2.1 hg hr).trans hs.2.2.2.1, cell_kept hs.2.2.2.2.1 hg hr, hs.2.2.2.2.2⟩) _) (ownFrom_below (Nat.le_refl _) (by omega)))
    (fun c => OwnFrom.and (Own.from (fun s A B row hs hg hr => by obtain ⟨p, x, h1, h2, h3, h4, h5, h6⟩ := hs; exact ⟨p, x, h1, h2, h3, h4, cell_kept h5 hg hr, cell_kept h6 hg hr⟩) _) (ownFrom_below (Nat.le_refl _) (by omega)))
    ⟨⟨cd, cdf, ch, chf, cb, fun y hy => by cases hy⟩, HBW⟩
    (fun x => { tmps := #[.agg #[vw, vx], .int .i64 a, .int .i64 b, .pointer (some ⟨w.heap.size, 0, none⟩), undef, .pointer (some ⟨w.heap.size + 1, 0, none⟩), .int .i64 0, .int .i64 0, .pointer (some ⟨w.heap.size + 1 + 1, 0, none⟩), .pointer (some ⟨w.heap.size + 1 + 1 + 1, 0, none⟩), .int .i64 ((x.1 : Nat) : Int), .int .i64 (hOf ws es x.1), .agg #[vw, vx], .int .i64 a, .int .i64 0, .func (.func 60) #[] #[.pointer (some ⟨w.heap.size + 1 + 1 + 1 + 1 + 1, 0, none⟩), .pointer (some ⟨w.heap.size + 1 + 1 + 1 + 1 + 1 + 1, 0, none⟩), .pointer (some ⟨w.heap.size + 1 + 1 + 1 + 1, 0, none⟩)], .int .i64 ((x.1 : Nat) : Int), .int .i64 (hOf ws es x.1), undef, undef, undef, undef, undef, undef, undef, undef, undef, undef], defers := [] }) ?assign ?body ?done ?stop
  case assign =>
    intro l x W K hK
    gi_wp2
    exact hK
  case body =>
    rintro l pre x W ⟨⟨hc, hf, hg, hgf, hcb, hall⟩, hBB⟩ hlen
    have hx := x.2
    have hob := hOf_bound HV.out x.1
    have hsb := sumD_bound (g := hOf ws es) (B := 24) (fun d => hOf_bound HV.out d) pre
    have hdl := days_length_up (hOf ws es) (q := 0) (by omega)
    have HSN := Lib.hid (sumD_snoc (hOf ws es) pre x)
    have HLN := Lib.hid (show ((pre ++ [x]).length : Int) = (pre.length : Int) + 1 by simp)
    have HAL := Lib.hid hall
    have hpl : pre.length < 1000 := by omega
    by_cases hbx : b ≤ ((x.1 : Nat) : Int)
    · have b1 : decide (b ≤ ((x.1 : Nat) : Int)) = true := decide_eq_true hbx
      have HBX := Lib.hid hbx
      have HSP : Hid (∃ s, s = sumD (hOf ws es) pre) := Lib.hid ⟨_, rfl⟩
      clear hbx hall hlen hdl
      gi_wp2
      exact ⟨KeepsOthers.refl _, ⟨pre, x, rfl, rfl, HBX.out, HAL.out, hc, hg⟩, hBB⟩
    · have b1 : decide (b ≤ ((x.1 : Nat) : Int)) = false := decide_eq_false hbx
      have HA2 := Lib.hid (allB_snoc hall (Int.not_le.1 hbx))
      clear hbx hall hlen hdl
      generalize sumD (hOf ws es) pre = s at *
      generalize hOf ws es x.1 = y at *
      have hbl0 := block_lt_of_cell hc
      have hbl1 := block_lt_of_cell hg
      have hbl2 := block_lt_of_cell hcb
      gi_wp2
      have e1 : ∀ (k : Nat), k ≠ w.heap.size + 1 + 1 → k ≠ w.heap.size + 1 + 1 + 1 → ∀ u u' : Value, ((W.setCell ⟨w.heap.size + 1 + 1, 0, none⟩ u).setCell ⟨w.heap.size + 1 + 1 + 1, 0, none⟩ u').heap[k]? = W.heap[k]? := fun k h1 h2 u u' => (heap_setCell_other _ _ _ _ h2).trans (heap_setCell_other _ _ _ _ h1)
      have hg' : ∀ u : Value, (W.setCell ⟨w.heap.size + 1 + 1, 0, none⟩ u).cell? ⟨w.heap.size + 1 + 1 + 1, 0, none⟩ = some (.int .i64 s) := fun u => (World.cell?_of_block (a := ⟨w.heap.size + 1 + 1 + 1, 0, none⟩) (heap_setCell_other _ _ _ _ (by simp))).trans hg
      refine ⟨(KeepsOthers.setCell _ _ _).trans (KeepsOthers.setCell _ _ _), ⟨((Below.refl _ W).setCell (p := ⟨w.heap.size + 1 + 1, 0, none⟩) (by simp; omega) _).setCell (p := ⟨w.heap.size + 1 + 1 + 1, 0, none⟩) (by simp; omega) _, e1 _ (by omega) (by omega) _ _, e1 _ (by omega) (by omega) _ _⟩, ⟨?_, ?_, ?_, ?_, ?_, HA2.out⟩, (hBB.setCell (p := ⟨w.heap.size + 1 + 1, 0, none⟩) (by simp; omega) _).setCell (p := ⟨w.heap.size + 1 + 1 + 1, 0, none⟩) (by simp; omega) _⟩
      · rw [HLN.out]; exact (World.cell?_of_block (a := ⟨w.heap.size + 1 + 1, 0, none⟩) (heap_setCell_other _ _ _ _ (by simp))).trans (World.cell?_setCell_same' _ _ _ (by rw [hc]; rfl))
      · rw [World.frozen?_setCell, World.frozen?_setCell]; exact hf
      · rw [HSN.out]; exact World.cell?_setCell_same' _ _ _ (by rw [hg']; rfl)
      · rw [World.frozen?_setCell, World.frozen?_setCell]; exact hgf
      · exact (World.cell?_of_block (a := ⟨w.heap.size + 1, 0, none⟩) (e1 (w.heap.size + 1) (by omega) (by omega) _ _)).trans hcb
  case done =>
    rintro D ys W hD rfl ⟨⟨hc, _, hg, _, _, hall⟩, hB⟩ hK
    have HU := Lib.hid (between HV.out (by omega) (upTo_all hall))
    clear hall
    rw [HU.out.1] at hc
    rw [HU.out.2] at hg
    obtain ⟨m, hm⟩ : ∃ m, cnt (wOf ws es) 0 b = m := ⟨_, rfl⟩
    obtain ⟨t, ht⟩ : ∃ t, cnt (hOf ws es) 0 b = t := ⟨_, rfl⟩
    rw [hm] at hc
    rw [ht] at hg
    have HM := Lib.hid hm
    have HT := Lib.hid ht
    clear hm ht HU
    gi_wp2
    gi_region
    all_goals gi_wp2
    all_goals (try go_bits)
    all_goals
      refine ⟨by simp, .inl ⟨_, _, rfl, run_takeDeferred hK, ?_⟩⟩
      exact ⟨_, results_tmp2 rfl _ _ _, by rw [HM.out, HT.out]; rfl, (hB.trans (Below.refl _ W).drew).trans (belowK_b (n₀ := w.heap.size) (w := W0) (by omega) W.drew D _ _ hD hK rfl rfl)⟩
  case stop =>
    rintro D c pre W hD hSp ⟨⟨p, x, rfl, rfl, hbx, hall, hc, hg⟩, hB⟩ hK
    have HU := Lib.hid (between HV.out (by omega) (upTo_stop hall hSp hbx))
    clear hall hSp hbx
    rw [HU.out.1] at hc
    rw [HU.out.2] at hg
    obtain ⟨m, hm⟩ : ∃ m, cnt (wOf ws es) 0 b = m := ⟨_, rfl⟩
    obtain ⟨t, ht⟩ : ∃ t, cnt (hOf ws es) 0 b = t := ⟨_, rfl⟩
    rw [hm] at hc
    rw [ht] at hg
    have HM := Lib.hid hm
    have HT := Lib.hid ht
    clear hm ht HU
    gi_wp2
    gi_region
    all_goals gi_wp2
    all_goals (try go_bits)
    all_goals
      refine ⟨by simp, .inl ⟨_, _, rfl, run_takeDeferred hK, ?_⟩⟩
      exact ⟨_, results_tmp2 rfl _ _ _, by rw [HM.out, HT.out]; rfl, (hB.trans (Below.refl _ W).drew).trans (belowK_b (n₀ := w.heap.size) (w := W0) (by omega) W.drew D _ _ hD hK rfl rfl)⟩

set_option maxRecDepth 100000 in
set_option maxHeartbeats 4000000 in
theorem workBetween_pos (v : Value) (ws : List Int) (es : List (Int × Int)) (a b : Int) (w : World) (h : Cal w v ws es) (hv : IsCal ws es) (ha : 0 ≤ a) :
    Calls Try.prog 43 #[v, .int .i64 a, .int .i64 b] w fun e w' => e = .returned (.tuple #[.int .i64 (cnt (wOf ws es) a b), .int .i64 (cnt (hOf ws es) a b)]) ∧ Below w.heap.size w w' := by
  have HC := Lib.hid h
  obtain ⟨vw, vx, rfl, hw, hx⟩ := h
  have HV := Lib.hid hv
  clear hw hx hv
  refine (callsIn_wide (n := 3)).1 ?_
  refine callsIn_of_wp_marks Try.func43 rfl trivial ?_
  simp only [Try.ntmps43, List.size_toArray, List.length_cons, List.length_nil, Nat.reduceAdd, Nat.reduceSub, Array.replicate_succ, Array.replicate_zero, List.push_toArray, List.append_toArray, List.nil_append, List.cons_append]
  gi_wp2
  refine ⟨trivial, (callsIn_wide.2 (impl_workdays _ _ _ _ ⟨_, _, rfl⟩)).mono ?_⟩
  rintro e w7 ⟨cs, hcs, hcz, rfl, rfl⟩
  obtain rfl := aggs hcs
  clear hcs hcz
  obtain ⟨hB4, hz4, r0, r1, r2, r3⟩ := four w (.cells #[vw, vx] 27) (.cells #[.int .i64 b] 3) (.cells #[.int .i64 0] 3) (.cells #[.int .i64 0] 3)
  generalize ((((w.alloc (.cells #[vw, vx] 27)).alloc (.cells #[.int .i64 b] 3)).alloc (.cells #[.int .i64 0] 3)).alloc (.cells #[.int .i64 0] 3)) = w4 at *
  obtain ⟨hB7, hz7, s0, s1, s2⟩ := three w4 (.cells #[vw, vx] 27) (.cells #[.int .i64 a] 3) (.cells #[.int .i64 1] 3)
  generalize (((w4.alloc (.cells #[vw, vx] 27)).alloc (.cells #[.int .i64 a] 3)).alloc (.cells #[.int .i64 1] 3)) = W0 at *
  have HBW : Below w.heap.size w W0 := hB4.trans (hB7.mono hB4.size)
  have hsz : W0.heap.size = w.heap.size + 7 := by omega
  have r1' := blk_below r1 hB7
  have r2' := blk_below r2 hB7
  have r3' := blk_below r3 hB7
  clear r0 r1 r2 r3 hB4 hB7
  have cb := cell_of_row _ _ 0 _ _ _ r1'
  have cd := cell_of_row _ _ 0 _ _ _ r2'
  have cdf := frozen_of_row _ _ 0 _ _ r2'
  have ch := cell_of_row _ _ 0 _ _ _ r3'
  have chf := frozen_of_row _ _ 0 _ _ r3'
  rw [hz4] at s0 s1 s2 hz7
  have cq := cell_of_row _ _ 0 _ _ _ s1
  have cst := cell_of_row _ _ 0 _ _ _ s2
  gi_wp2
  have hmx : Try.prog.follows .mixedOrders = true := by kernel_rfl
  refine wpIn_rangeFunc_ownF rfl (by omega) (gf := 60) (lb := #[.pointer (some ⟨w.heap.size + 1 + 1 + 1 + 1 + 1, 0, none⟩), .pointer (some ⟨w.heap.size + 1 + 1 + 1 + 1 + 1 + 1, 0, none⟩), .pointer (some ⟨w.heap.size + 1 + 1 + 1 + 1, 0, none⟩)]) rfl trivial (enters_of Try.func60 (by kernel_rfl) rfl)
    (work_stops (w.heap.size + 1 + 1 + 1 + 1 + 1) (w.heap.size + 1 + 1 + 1 + 1 + 1 + 1) (w.heap.size + 1 + 1 + 1 + 1) vw vx ws es a 1 w W0 (Or.inl rfl) HV.out HC.out HBW cq cst s0) kpW_t (kpW_b (by omega) (by omega) (by omega)) (Below.refl _ _) (fun _ => rfl)
    (fun pre W => (W.cell? ⟨w.heap.size + 1 + 1, 0, none⟩ = some (.int .i64 ((pre.length : Nat) : Int)) ∧ W.frozen? ⟨w.heap.size + 1 + 1, 0, none⟩ = false ∧ W.cell? ⟨w.heap.size + 1 + 1 + 1, 0, none⟩ = some (.int .i64 (sumD (hOf ws es) pre)) ∧ W.frozen? ⟨w.heap.size + 1 + 1 + 1, 0, none⟩ = false ∧ W.cell? ⟨w.heap.size + 1, 0, none⟩ = some (.int .i64 b) ∧ AllB b pre) ∧ Below w.heap.size w W)
    (fun c pre W => (∃ (p : List (Fin 1000)) (x : Fin 1000), pre = p ++ [x] ∧ c = .exit 0 ∧ b ≤ ((x.1 : Nat) : Int) ∧ AllB b p ∧ W.cell? ⟨w.heap.size + 1 + 1, 0, none⟩ = some (.int .i64 ((p.length : Nat) : Int)) ∧ W.cell? ⟨w.heap.size + 1 + 1 + 1, 0, none⟩ = some (.int .i64 (sumD (hOf ws es) p))) ∧ Below w.heap.size w W)
    (OwnFrom.and (Own.from (fun s A B row hs hg hr => ⟨cell_kept hs.1 hg hr, (frozen_kept hs.1 hg hr).trans hs.2.1, cell_kept hs.2.2.1 hg hr, (frozen_kept hs.2.2.1 hg hr).trans hs.2.2.2.1, cell_kept hs.2.2.2.2.1 hg hr, hs.2.2.2.2.2⟩) _) (ownFrom_below (Nat.le_refl _) (by omega)))
    (fun c => OwnFrom.and (Own.from (fun s A B row hs hg hr => by obtain ⟨p, x, h1, h2, h3, h4, h5, h6⟩ := hs; exact ⟨p, x, h1, h2, h3, h4, cell_kept h5 hg hr, cell_kept h6 hg hr⟩) _) (ownFrom_below (Nat.le_refl _) (by omega)))
    ⟨⟨cd, cdf, ch, chf, cb, fun y hy => by cases hy⟩, HBW⟩
    (fun x => { tmps := #[.agg #[vw, vx], .int .i64 a, .int .i64 b, .pointer (some ⟨w.heap.size, 0, none⟩), undef, .pointer (some ⟨w.heap.size + 1, 0, none⟩), .int .i64 0, .int .i64 0, .pointer (some ⟨w.heap.size + 1 + 1, 0, none⟩), .pointer (some ⟨w.heap.size + 1 + 1 + 1, 0, none⟩), .int .i64 ((x.1 : Nat) : Int), .int .i64 (hOf ws es x.1), .agg #[vw, vx], .int .i64 a, .int .i64 a, .func (.func 60) #[] #[.pointer (some ⟨w.heap.size + 1 + 1 + 1 + 1 + 1, 0, none⟩), .pointer (some ⟨w.heap.size + 1 + 1 + 1 + 1 + 1 + 1, 0, none⟩), .pointer (some ⟨w.heap.size + 1 + 1 + 1 + 1, 0, none⟩)], .int .i64 ((x.1 : Nat) : Int), .int .i64 (hOf ws es x.1), undef, undef, undef, undef, undef, undef, undef, undef, undef, undef], defers := [] }) ?assign ?body ?done ?stop
  case assign =>
    intro l x W K hK
    gi_wp2
    exact hK
  case body =>
    rintro l pre x W ⟨⟨hc, hf, hg, hgf, hcb, hall⟩, hBB⟩ hlen
    have hx := x.2
    have hob := hOf_bound HV.out x.1
    have hsb := sumD_bound (g := hOf ws es) (B := 24) (fun d => hOf_bound HV.out d) pre
    have hdl := days_length_up (hOf ws es) (q := a) (by omega)
    have HSN := Lib.hid (sumD_snoc (hOf ws es) pre x)
    have HLN := Lib.hid (show ((pre ++ [x]).length : Int) = (pre.length : Int) + 1 by simp)
    have HAL := Lib.hid hall
    have hpl : pre.length < 1000 := by omega
    by_cases hbx : b ≤ ((x.1 : Nat) : Int)
    · have b1 : decide (b ≤ ((x.1 : Nat) : Int)) = true := decide_eq_true hbx
      have HBX := Lib.hid hbx
      have HSP : Hid (∃ s, s = sumD (hOf ws es) pre) := Lib.hid ⟨_, rfl⟩
      clear hbx hall hlen hdl
      gi_wp2
      exact ⟨KeepsOthers.refl _, ⟨pre, x, rfl, rfl, HBX.out, HAL.out, hc, hg⟩, hBB⟩
    · have b1 : decide (b ≤ ((x.1 : Nat) : Int)) = false := decide_eq_false hbx
      have HA2 := Lib.hid (allB_snoc hall (Int.not_le.1 hbx))
      clear hbx hall hlen hdl
      generalize sumD (hOf ws es) pre = s at *
      generalize hOf ws es x.1 = y at *
      have hbl0 := block_lt_of_cell hc
      have hbl1 := block_lt_of_cell hg
      have hbl2 := block_lt_of_cell hcb
      gi_wp2
      have e1 : ∀ (k : Nat), k ≠ w.heap.size + 1 + 1 → k ≠ w.heap.size + 1 + 1 + 1 → ∀ u u' : Value, ((W.setCell ⟨w.heap.size + 1 + 1, 0, none⟩ u).setCell ⟨w.heap.size + 1 + 1 + 1, 0, none⟩ u').heap[k]? = W.heap[k]? := fun k h1 h2 u u' => (heap_setCell_other _ _ _ _ h2).trans (heap_setCell_other _ _ _ _ h1)
      have hg' : ∀ u : Value, (W.setCell ⟨w.heap.size + 1 + 1, 0, none⟩ u).cell? ⟨w.heap.size + 1 + 1 + 1, 0, none⟩ = some (.int .i64 s) := fun u => (World.cell?_of_block (a := ⟨w.heap.size + 1 + 1 + 1, 0, none⟩) (heap_setCell_other _ _ _ _ (by simp))).trans hg
      refine ⟨(KeepsOthers.setCell _ _ _).trans (KeepsOthers.setCell _ _ _), ⟨((Below.refl _ W).setCell (p := ⟨w.heap.size + 1 + 1, 0, none⟩) (by simp; omega) _).setCell (p := ⟨w.heap.size + 1 + 1 + 1, 0, none⟩) (by simp; omega) _, e1 _ (by omega) (by omega) _ _, e1 _ (by omega) (by omega) _ _⟩, ⟨?_, ?_, ?_, ?_, ?_, HA2.out⟩, (hBB.setCell (p := ⟨w.heap.size + 1 + 1, 0, none⟩) (by simp; omega) _).setCell (p := ⟨w.heap.size + 1 + 1 + 1, 0, none⟩) (by simp; omega) _⟩
      · rw [HLN.out]; exact (World.cell?_of_block (a := ⟨w.heap.size + 1 + 1, 0, none⟩) (heap_setCell_other _ _ _ _ (by simp))).trans (World.cell?_setCell_same' _ _ _ (by rw [hc]; rfl))
      · rw [World.frozen?_setCell, World.frozen?_setCell]; exact hf
      · rw [HSN.out]; exact World.cell?_setCell_same' _ _ _ (by rw [hg']; rfl)
      · rw [World.frozen?_setCell, World.frozen?_setCell]; exact hgf
      · exact (World.cell?_of_block (a := ⟨w.heap.size + 1, 0, none⟩) (e1 (w.heap.size + 1) (by omega) (by omega) _ _)).trans hcb
  case done =>
    rintro D ys W hD rfl ⟨⟨hc, _, hg, _, _, hall⟩, hB⟩ hK
    have HU := Lib.hid (between HV.out (by omega) (upTo_all hall))
    clear hall
    rw [HU.out.1] at hc
    rw [HU.out.2] at hg
    obtain ⟨m, hm⟩ : ∃ m, cnt (wOf ws es) a b = m := ⟨_, rfl⟩
    obtain ⟨t, ht⟩ : ∃ t, cnt (hOf ws es) a b = t := ⟨_, rfl⟩
    rw [hm] at hc
    rw [ht] at hg
    have HM := Lib.hid hm
    have HT := Lib.hid ht
    clear hm ht HU
    gi_wp2
    gi_region
    all_goals gi_wp2
    all_goals (try go_bits)
    all_goals
      refine ⟨by simp, .inl ⟨_, _, rfl, run_takeDeferred hK, ?_⟩⟩
      exact ⟨_, results_tmp2 rfl _ _ _, by rw [HM.out, HT.out]; rfl, (hB.trans (Below.refl _ W).drew).trans (belowK_b (n₀ := w.heap.size) (w := W0) (by omega) W.drew D _ _ hD hK rfl rfl)⟩
  case stop =>
    rintro D c pre W hD hSp ⟨⟨p, x, rfl, rfl, hbx, hall, hc, hg⟩, hB⟩ hK
    have HU := Lib.hid (between HV.out (by omega) (upTo_stop hall hSp hbx))
    clear hall hSp hbx
    rw [HU.out.1] at hc
    rw [HU.out.2] at hg
    obtain ⟨m, hm⟩ : ∃ m, cnt (wOf ws es) a b = m := ⟨_, rfl⟩
    obtain ⟨t, ht⟩ : ∃ t, cnt (hOf ws es) a b = t := ⟨_, rfl⟩
    rw [hm] at hc
    rw [ht] at hg
    have HM := Lib.hid hm
    have HT := Lib.hid ht
    clear hm ht HU
    gi_wp2
    gi_region
    all_goals gi_wp2
    all_goals (try go_bits)
    all_goals
      refine ⟨by simp, .inl ⟨_, _, rfl, run_takeDeferred hK, ?_⟩⟩
      exact ⟨_, results_tmp2 rfl _ _ _, by rw [HM.out, HT.out]; rfl, (hB.trans (Below.refl _ W).drew).trans (belowK_b (n₀ := w.heap.size) (w := W0) (by omega) W.drew D _ _ hD hK rfl rfl)⟩

theorem impl_workBetween (v : Value) (ws : List Int) (es : List (Int × Int)) (a b : Int) (w : World) (h : Cal w v ws es) (hv : IsCal ws es) :
    Calls Try.prog 43 #[v, .int .i64 a, .int .i64 b] w fun e w' => e = .returned (.tuple #[.int .i64 (cnt (wOf ws es) a b), .int .i64 (cnt (hOf ws es) a b)]) ∧ Below w.heap.size w w' := by
  by_cases ha : a < 0
  · have := workBetween_neg v ws es a b w h hv ha
    rwa [cnt_low _ ha, cnt_low _ ha] at this
  · exact workBetween_pos v ws es a b w h hv (Int.not_lt.1 ha)
end Go.Proofs.Ytkhonlcekjckoaa
