/-
  The program's search for a day with work.
-/
import Derived.Test.YtkhonlcekjckoaaCalFind
import Derived.Test.YtkhonlcekjckoaaCalSeq
import Derived.Test.YtkhonlcekjckoaaCalWork
import Derived.Test.YtkhonlcekjckoaaHold
namespace Go.Proofs.Ytkhonlcekjckoaa
open Go.RowKit Go.Shelf
attribute [local go_sem] Oper.semAt_some

/-- Six blocks are laid. -/
theorem six (w : World) (o0 o1 o2 o3 o4 o5 : Obj) : ∃ W, ((((((w.alloc o0).alloc o1).alloc o2).alloc o3).alloc o4).alloc o5) = W ∧ Below w.heap.size w W ∧ W.heap.size = w.heap.size + 1 + 1 + 1 + 1 + 1 + 1 ∧
    W.heap[w.heap.size]? = some o0 ∧ W.heap[w.heap.size + 1]? = some o1 ∧ W.heap[w.heap.size + 1 + 1]? = some o2 ∧ W.heap[w.heap.size + 1 + 1 + 1]? = some o3 ∧ W.heap[w.heap.size + 1 + 1 + 1 + 1]? = some o4 ∧ W.heap[w.heap.size + 1 + 1 + 1 + 1 + 1]? = some o5 := by
  obtain ⟨hB, hz, h0, h1, h2, h3⟩ := four w o0 o1 o2 o3
  generalize ((((w.alloc o0).alloc o1).alloc o2).alloc o3) = W4 at *
  have h4 := heap_alloc_new W4 o4
  have h5 := heap_alloc2_new W4 o4 o5
  rw [hz] at h4 h5
  exact ⟨_, rfl, (hB.alloc hB.size _).alloc (by simp; omega) _, by simp [hz], blk_alloc (blk_alloc h0 _) _, blk_alloc (blk_alloc h1 _) _, blk_alloc (blk_alloc h2 _) _, blk_alloc (blk_alloc h3 _) _, blk_alloc h4 _, h5⟩

/-- What the search answers. -/
def FindRes (ws : List Int) (es : List (Int × Int)) (s q n x : Int) (y : Bool) : Prop :=
  (y = true ∧ ∃ (p : List (Fin 1000)) (z : Fin 1000), (p ++ [z]) <+: daysW (hOf ws es) s q ∧ x = ((z.1 : Nat) : Int) ∧ s * (p.length : Int) + s = n) ∨
  (y = false ∧ x = 0 ∧ ((daysW (hOf ws es) s q).length : Int) < s * n)
def FindEnd (ws : List Int) (es : List (Int × Int)) (s q n : Int) (w : World) (e : Ending) (w' : World) : Prop := ∃ (x : Int) (y : Bool), e = .returned (.tuple #[.int .i64 x, .bool y]) ∧ FindRes ws es s q n x y ∧ Below w.heap.size w w'
theorem step_mul {s : Int} (hs : Step s) (l : Nat) : -l ≤ s * (l : Int) ∧ s * (l : Int) ≤ l ∧ s * ((l + 1 : Nat) : Int) = s * (l : Int) + s := by
  rcases hs with rfl | rfl <;> (push_cast; omega)
theorem step_less {s n : Int} (hs : Step s) {l : Nat} (h : (l : Int) < s * n) (hne : s * (l : Int) + s ≠ n) : ((l + 1 : Nat) : Int) < s * n := by
  rcases hs with rfl | rfl <;> (push_cast; omega)

set_option maxRecDepth 100000 in
set_option maxHeartbeats 4000000 in
theorem impl_findWorkday (v : Value) (ws : List Int) (es : List (Int × Int)) (q s n : Int) (w : World) (h : Cal w v ws es) (hv : IsCal ws es) (hs : Step s) (hn : 0 < s * n) (hl : (daysW (hOf ws es) s q).length ≤ 1000) :
    Calls Try.prog 40 #[v, .int .i64 q, .int .i64 s, .int .i64 n] w (FindEnd ws es s q n w) := by
  have HC := Lib.hid h
  obtain ⟨vw, vx, rfl, hw, hx⟩ := h
  have HV := Lib.hid hv
  have HS := Lib.hid hs
  have HN := Lib.hid hn
  have HL := Lib.hid hl
  have hs1 : -1 ≤ s ∧ s ≤ 1 := by rcases hs with rfl | rfl <;> omega
  clear hw hx hv hs hn hl
  refine (callsIn_wide (n := 3)).1 ?_
  refine callsIn_of_wp_marks Try.func40 rfl trivial ?_
  simp only [Try.ntmps40, List.size_toArray, List.length_cons, List.length_nil, Nat.reduceAdd, Nat.reduceSub, Array.replicate_succ, Array.replicate_zero, List.push_toArray, List.append_toArray, List.nil_append, List.cons_append]
  gi_wp2
  refine ⟨trivial, (callsIn_wide.2 (impl_workdays _ _ _ _ ⟨_, _, rfl⟩)).mono ?_⟩
  rintro e w7 ⟨cs, hcs, hcz, rfl, rfl⟩
  obtain rfl := aggs hcs
  clear hcs hcz
  obtain ⟨w4, hw4, hB4, hz4, r0, r1, r2, r3, r4, r5⟩ := six w (.cells #[vw, vx] 27) (.cells #[.int .i64 s] 3) (.cells #[.int .i64 n] 3) (.cells #[.int .i64 0] 3) (.cells #[.bool false] 4) (.cells #[.int .i64 0] 3)
  rw [hw4]
  clear hw4
  obtain ⟨hB7, hz7, s0, s1, s2⟩ := three w4 (.cells #[vw, vx] 27) (.cells #[.int .i64 q] 3) (.cells #[.int .i64 s] 3)
  generalize (((w4.alloc (.cells #[vw, vx] 27)).alloc (.cells #[.int .i64 q] 3)).alloc (.cells #[.int .i64 s] 3)) = W0 at *
  have HBW : Below w.heap.size w W0 := hB4.trans (hB7.mono hB4.size)
  have hsz : W0.heap.size = w.heap.size + 9 := by omega
  have r1' := blk_below r1 hB7
  have r2' := blk_below r2 hB7
  have r3' := blk_below r3 hB7
  have r4' := blk_below r4 hB7
  have r5' := blk_below r5 hB7
  clear r0 r1 r2 r3 r4 r5 hB4 hB7
  rw [hz4] at s0 s1 s2 hz7
  have cs := cell_of_row _ _ 0 _ _ _ r1'
  have cn := cell_of_row _ _ 0 _ _ _ r2'
  have cx := cell_of_row _ _ 0 _ _ _ r3'
  have cxf := frozen_of_row _ _ 0 _ _ r3'
  have cy := cell_of_row _ _ 0 _ _ _ r4'
  have cyf := frozen_of_row _ _ 0 _ _ r4'
  have ck := cell_of_row _ _ 0 _ _ _ r5'
  have ckf := frozen_of_row _ _ 0 _ _ r5'
  have cq := cell_of_row _ _ 0 _ _ _ s1
  have cst := cell_of_row _ _ 0 _ _ _ s2
  have hk0 : s * (([] : List (Fin 1000)).length : Int) = 0 := by simp
  gi_wp2
  refine wpIn_rangeFunc_ownF rfl (by omega) (gf := 60) (lb := #[.pointer (some ⟨w.heap.size + 1 + 1 + 1 + 1 + 1 + 1 + 1, 0, none⟩), .pointer (some ⟨w.heap.size + 1 + 1 + 1 + 1 + 1 + 1 + 1 + 1, 0, none⟩), .pointer (some ⟨w.heap.size + 1 + 1 + 1 + 1 + 1 + 1, 0, none⟩)]) rfl trivial (enters_of Try.func60 (by kernel_rfl) rfl)
    (work_stops (w.heap.size + 1 + 1 + 1 + 1 + 1 + 1 + 1) (w.heap.size + 1 + 1 + 1 + 1 + 1 + 1 + 1 + 1) (w.heap.size + 1 + 1 + 1 + 1 + 1 + 1) vw vx ws es q s w W0 HS.out HV.out HC.out HBW cq cst s0) kpW_t (kpW_b (by omega) (by omega) (by omega)) (Below.refl _ _) (fun _ => rfl)
    (fun pre W => (W.cell? ⟨w.heap.size + 1 + 1 + 1 + 1 + 1, 0, none⟩ = some (.int .i64 (s * (pre.length : Int))) ∧ W.frozen? ⟨w.heap.size + 1 + 1 + 1 + 1 + 1, 0, none⟩ = false ∧ (W.cell? ⟨w.heap.size + 1 + 1 + 1, 0, none⟩ = some (.int .i64 0) ∧ W.frozen? ⟨w.heap.size + 1 + 1 + 1, 0, none⟩ = false) ∧ (W.cell? ⟨w.heap.size + 1 + 1 + 1 + 1, 0, none⟩ = some (.bool false) ∧ W.frozen? ⟨w.heap.size + 1 + 1 + 1 + 1, 0, none⟩ = false) ∧ W.cell? ⟨w.heap.size + 1, 0, none⟩ = some (.int .i64 s) ∧ W.cell? ⟨w.heap.size + 1 + 1, 0, none⟩ = some (.int .i64 n) ∧ (pre.length : Int) < s * n) ∧ Below w.heap.size w W)
    (fun c pre W => (∃ (p : List (Fin 1000)) (x : Fin 1000), pre = p ++ [x] ∧ c = .ret ∧ s * (p.length : Int) + s = n ∧ W.cell? ⟨w.heap.size + 1 + 1 + 1, 0, none⟩ = some (.int .i64 ((x.1 : Nat) : Int)) ∧ W.cell? ⟨w.heap.size + 1 + 1 + 1 + 1, 0, none⟩ = some (.bool true)) ∧ Below w.heap.size w W)
    (OwnFrom.and (Own.from (fun z A B row hs hg hr => ⟨cell_kept hs.1 hg hr, (frozen_kept hs.1 hg hr).trans hs.2.1, ⟨cell_kept hs.2.2.1.1 hg hr, (frozen_kept hs.2.2.1.1 hg hr).trans hs.2.2.1.2⟩, ⟨cell_kept hs.2.2.2.1.1 hg hr, (frozen_kept hs.2.2.2.1.1 hg hr).trans hs.2.2.2.1.2⟩, cell_kept hs.2.2.2.2.1 hg hr, cell_kept hs.2.2.2.2.2.1 hg hr, hs.2.2.2.2.2.2⟩) _) (ownFrom_below (Nat.le_refl _) (by omega)))
    (fun c => OwnFrom.and (Own.from (fun z A B row hs hg hr => by obtain ⟨p, x, h1, h2, h3, h5, h6⟩ := hs; exact ⟨p, x, h1, h2, h3, cell_kept h5 hg hr, cell_kept h6 hg hr⟩) _) (ownFrom_below (Nat.le_refl _) (by omega)))
    ⟨⟨by rw [hk0]; exact ck, ckf, ⟨cx, cxf⟩, ⟨cy, cyf⟩, cs, cn, by simp; exact HN.out⟩, HBW⟩
    (fun x => { tmps := #[.agg #[vw, vx], .int .i64 q, .int .i64 s, .int .i64 n, .pointer (some ⟨w.heap.size, 0, none⟩), undef, .pointer (some ⟨w.heap.size + 1, 0, none⟩), .pointer (some ⟨w.heap.size + 1 + 1, 0, none⟩), .pointer (some ⟨w.heap.size + 1 + 1 + 1, 0, none⟩), .pointer (some ⟨w.heap.size + 1 + 1 + 1 + 1, 0, none⟩), .pointer (some ⟨w.heap.size + 1 + 1 + 1 + 1 + 1, 0, none⟩), .int .i64 ((x.1 : Nat) : Int), .agg #[vw, vx], .int .i64 q, .int .i64 s, .func (.func 60) #[] #[.pointer (some ⟨w.heap.size + 1 + 1 + 1 + 1 + 1 + 1 + 1, 0, none⟩), .pointer (some ⟨w.heap.size + 1 + 1 + 1 + 1 + 1 + 1 + 1 + 1, 0, none⟩), .pointer (some ⟨w.heap.size + 1 + 1 + 1 + 1 + 1 + 1, 0, none⟩)], .int .i64 ((x.1 : Nat) : Int), .int .i64 (hOf ws es x.1), undef, undef, undef, undef, undef, undef, undef], defers := [] }) ?assign ?body ?done ?stop
  case assign =>
    intro l x W K hK
    gi_wp2
    exact hK
  case body =>
    rintro l pre x W ⟨⟨hc, hf, ⟨hx, hxf⟩, ⟨hy, hyf⟩, hcs, hcn, hlt⟩, hBB⟩ hlen
    have hx9 := x.2
    have hll := HL.out
    have hm := step_mul HS.out pre.length
    have HM : Hid (s * (((pre ++ [x]).length : Nat) : Int) = s * (pre.length : Int) + s) := Lib.hid (by rw [List.length_append]; exact hm.2.2)
    have HLT := Lib.hid (fun e => step_less HS.out hlt e)
    have HPL : Hid ((((pre ++ [x]).length : Nat) : Int) = ((pre.length + 1 : Nat) : Int)) := Lib.hid (by simp)
    obtain ⟨k, hk⟩ : ∃ k, s * (pre.length : Int) = k := ⟨_, rfl⟩
    rw [hk] at hc hm HM HLT
    have HK := Lib.hid hk
    have hk1 : -1000 ≤ k ∧ k ≤ 1000 := by omega
    clear hm hk hlt hlen hll
    have hbk := block_lt_of_cell hc
    have hbx := block_lt_of_cell hx
    have hby := block_lt_of_cell hy
    have hbs := block_lt_of_cell hcs
    have hbn := block_lt_of_cell hcn
    have hx' : ∀ u : Value, (W.setCell ⟨w.heap.size + 1 + 1 + 1 + 1 + 1, 0, none⟩ u).cell? ⟨w.heap.size + 1 + 1 + 1, 0, none⟩ = some (.int .i64 0) := fun u => (World.cell?_of_block (a := ⟨w.heap.size + 1 + 1 + 1, 0, none⟩) (heap_setCell_other _ _ _ _ (by simp))).trans hx
    have hxf' : ∀ u : Value, (W.setCell ⟨w.heap.size + 1 + 1 + 1 + 1 + 1, 0, none⟩ u).frozen? ⟨w.heap.size + 1 + 1 + 1, 0, none⟩ = false := fun u => (World.frozen?_of_block (a := ⟨w.heap.size + 1 + 1 + 1, 0, none⟩) (heap_setCell_other _ _ _ _ (by simp))).trans hxf
    by_cases he : k + s = n
    · have b1 : (k + s == n) = true := beq_iff_eq.2 he
      have HE := Lib.hid he
      clear he
      have hy' : ∀ u u' : Value, ((W.setCell ⟨w.heap.size + 1 + 1 + 1 + 1 + 1, 0, none⟩ u).setCell ⟨w.heap.size + 1 + 1 + 1, 0, none⟩ u').cell? ⟨w.heap.size + 1 + 1 + 1 + 1, 0, none⟩ = some (.bool false) := fun u u' => (World.cell?_of_block (a := ⟨w.heap.size + 1 + 1 + 1 + 1, 0, none⟩) ((heap_setCell_other _ _ _ _ (by simp)).trans (heap_setCell_other _ _ _ _ (by simp)))).trans hy
      gi_wp2
      refine ⟨((KeepsOthers.setCell _ _ _).trans (KeepsOthers.setCell _ _ _)).trans (KeepsOthers.setCell _ _ _), ⟨pre, x, rfl, rfl, by rw [HK.out]; exact HE.out, ?_, ?_⟩, ((hBB.setCell (p := ⟨w.heap.size + 1 + 1 + 1 + 1 + 1, 0, none⟩) (by simp; omega) _).setCell (p := ⟨w.heap.size + 1 + 1 + 1, 0, none⟩) (by simp; omega) _).setCell (p := ⟨w.heap.size + 1 + 1 + 1 + 1, 0, none⟩) (by simp; omega) _⟩
      · exact (World.cell?_of_block (a := ⟨w.heap.size + 1 + 1 + 1, 0, none⟩) (heap_setCell_other _ _ _ _ (by simp))).trans (World.cell?_setCell_same' _ _ _ (by rw [hx']; rfl))
      · exact World.cell?_setCell_same' _ _ _ (by rw [hy']; rfl)
    · have b1 : (k + s == n) = false := beq_eq_false_iff_ne.2 he
      have HE := Lib.hid he
      clear he
      gi_wp2
      have e1 : ∀ (j : Nat), j ≠ w.heap.size + 1 + 1 + 1 + 1 + 1 → ∀ u : Value, (W.setCell ⟨w.heap.size + 1 + 1 + 1 + 1 + 1, 0, none⟩ u).heap[j]? = W.heap[j]? := fun j h1 u => heap_setCell_other _ _ _ _ h1
      refine ⟨KeepsOthers.setCell _ _ _, ⟨(Below.refl _ W).setCell (p := ⟨w.heap.size + 1 + 1 + 1 + 1 + 1, 0, none⟩) (by simp; omega) _, e1 _ (by omega) _, e1 _ (by omega) _⟩, ⟨?_, ?_, ⟨hx' _, hxf' _⟩, ⟨?_, ?_⟩, ?_, ?_, ?_⟩, hBB.setCell (p := ⟨w.heap.size + 1 + 1 + 1 + 1 + 1, 0, none⟩) (by simp; omega) _⟩
      · rw [HM.out]; exact World.cell?_setCell_same' _ _ _ (by rw [hc]; rfl)
      · rw [World.frozen?_setCell]; exact hf
      · exact (World.cell?_of_block (a := ⟨w.heap.size + 1 + 1 + 1 + 1, 0, none⟩) (e1 (w.heap.size + 1 + 1 + 1 + 1) (by omega) _)).trans hy
      · rw [World.frozen?_setCell]; exact hyf
      · exact (World.cell?_of_block (a := ⟨w.heap.size + 1, 0, none⟩) (e1 (w.heap.size + 1) (by omega) _)).trans hcs
      · exact (World.cell?_of_block (a := ⟨w.heap.size + 1 + 1, 0, none⟩) (e1 (w.heap.size + 1 + 1) (by omega) _)).trans hcn
      · rw [HPL.out]; exact HLT.out HE.out
  case done =>
    rintro D ys W hD rfl ⟨⟨_, _, ⟨hx, hxf⟩, ⟨hy, hyf⟩, _, _, hlt⟩, hB⟩ hK
    have HLT := Lib.hid hlt
    clear hlt
    have hbx := block_lt_of_cell hx
    have hby := block_lt_of_cell hy
    have hy' : ∀ u : Value, (W.setCell ⟨w.heap.size + 1 + 1 + 1, 0, none⟩ u).cell? ⟨w.heap.size + 1 + 1 + 1 + 1, 0, none⟩ = some (.bool false) := fun u => (World.cell?_of_block (a := ⟨w.heap.size + 1 + 1 + 1 + 1, 0, none⟩) (heap_setCell_other _ _ _ _ (by simp))).trans hy
    have hyf' : ∀ u : Value, (W.setCell ⟨w.heap.size + 1 + 1 + 1, 0, none⟩ u).frozen? ⟨w.heap.size + 1 + 1 + 1 + 1, 0, none⟩ = false := fun u => (World.frozen?_of_block (a := ⟨w.heap.size + 1 + 1 + 1 + 1, 0, none⟩) (heap_setCell_other _ _ _ _ (by simp))).trans hyf
    gi_wp2
    have hK' := ((KeepsOthers.setCell W ⟨w.heap.size + 1 + 1 + 1, 0, none⟩ (.int .i64 0)).trans (KeepsOthers.setCell _ ⟨w.heap.size + 1 + 1 + 1 + 1, 0, none⟩ (.bool false))).same D _ hK rfl
    have hx4 : ((W.setCell ⟨w.heap.size + 1 + 1 + 1, 0, none⟩ (.int .i64 0)).setCell ⟨w.heap.size + 1 + 1 + 1 + 1, 0, none⟩ (.bool false)).cell? ⟨w.heap.size + 1 + 1 + 1, 0, none⟩ = some (.int .i64 0) := (World.cell?_of_block (a := ⟨w.heap.size + 1 + 1 + 1, 0, none⟩) (heap_setCell_other _ _ _ _ (by simp))).trans (World.cell?_setCell_same' _ _ _ (by rw [hx]; rfl))
    have hy4 : ((W.setCell ⟨w.heap.size + 1 + 1 + 1, 0, none⟩ (.int .i64 0)).setCell ⟨w.heap.size + 1 + 1 + 1 + 1, 0, none⟩ (.bool false)).cell? ⟨w.heap.size + 1 + 1 + 1 + 1, 0, none⟩ = some (.bool false) := World.cell?_setCell_same' _ _ _ (by rw [hy']; rfl)
    refine ⟨by simp, .inl ⟨_, _, rfl, run_takeDeferred hK', ?_⟩⟩
    have hx5 := cell_kept hx4 (grownBy_putObj' _ D (.deferred none)) (fun r e => by cases e; exact ⟨_, hK', rfl⟩)
    have hy5 := cell_kept hy4 (grownBy_putObj' _ D (.deferred none)) (fun r e => by cases e; exact ⟨_, hK', rfl⟩)
    refine ⟨.tuple #[.int .i64 0, .bool false], ?_, _, _, rfl, Or.inr ⟨rfl, rfl, HLT.out⟩, ((hB.setCell (p := ⟨w.heap.size + 1 + 1 + 1, 0, none⟩) (by simp; omega) _).setCell (p := ⟨w.heap.size + 1 + 1 + 1 + 1, 0, none⟩) (by simp; omega) _).trans (belowK_b (n₀ := w.heap.size) (w := W0) (by omega) _ D _ _ hD hK' rfl rfl)⟩
    simp [results, Try.f40, go_sem, hx5, hy5]
  case stop =>
    rintro D c pre W hD hSp ⟨⟨p, x, rfl, rfl, hn, hx, hy⟩, hB⟩ hK
    gi_wp2
    refine ⟨by simp, .inl ⟨_, _, rfl, run_takeDeferred hK, ?_⟩⟩
    have hx5 := cell_kept hx (grownBy_putObj' _ D (.deferred none)) (fun r e => by cases e; exact ⟨_, hK, rfl⟩)
    have hy5 := cell_kept hy (grownBy_putObj' _ D (.deferred none)) (fun r e => by cases e; exact ⟨_, hK, rfl⟩)
    refine ⟨.tuple #[.int .i64 ((x.1 : Nat) : Int), .bool true], ?_, _, _, rfl, Or.inl ⟨rfl, p, x, hSp, rfl, hn⟩, hB.trans (belowK_b (n₀ := w.heap.size) (w := W0) (by omega) W D _ _ hD hK rfl rfl)⟩
    simp [results, Try.f40, go_sem, hx5, hy5]
end Go.Proofs.Ytkhonlcekjckoaa
