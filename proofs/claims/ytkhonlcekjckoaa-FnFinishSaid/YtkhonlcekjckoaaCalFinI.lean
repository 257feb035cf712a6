/-
  The program's FinishDay.
-/
import Derived.Test.YtkhonlcekjckoaaCalFind
import Derived.Test.YtkhonlcekjckoaaCalSeq
import Derived.Test.YtkhonlcekjckoaaCalWork
import Derived.Test.YtkhonlcekjckoaaCalFin
import Derived.Test.YtkhonlcekjckoaaHold
namespace Go.Proofs.Ytkhonlcekjckoaa
open Go.RowKit Go.Shelf
attribute [local go_sem] Oper.semAt_some

theorem sum_cap {ws : List Int} {es : List (Int × Int)} (hc : IsCal ws es) (l : List (Fin 1000)) (h : l.length ≤ 1000) : 0 ≤ sumD (hOf ws es) l ∧ sumD (hOf ws es) l ≤ 24000 := by
  have := sumD_bound (g := hOf ws es) (B := 24) (fun d => hOf_bound hc d) l
  omega

set_option maxRecDepth 100000 in
set_option maxHeartbeats 4000000 in
theorem impl_finish (v : Value) (ws : List Int) (es : List (Int × Int)) (q n : Int) (w : World) (h : Cal w v ws es) (hm' : es.length ≤ 1048577) (hn0 : -9223372036854775808 ≤ n) (hn1 : n ≤ 9223372036854775807) :
    Calls Try.prog 25 #[v, .int .i64 q, .int .i64 n] w (FinEnd ws es q n w) := by
  have HC := Lib.hid h
  obtain ⟨vw, vx, rfl, hw, hx⟩ := h
  clear hw hx
  refine (callsIn_wide (n := 3)).1 ?_
  refine callsIn_of_wp_marks Try.func25 rfl trivial ?_
  simp only [Try.ntmps25, List.size_toArray, List.length_cons, List.length_nil, Nat.reduceAdd, Nat.reduceSub, Array.replicate_succ, Array.replicate_zero, List.push_toArray, List.append_toArray, List.nil_append, List.cons_append]
  obtain ⟨hB4, hz4, r0, r1, r2, r3⟩ := four w (.cells #[vw, vx] 27) (.cells #[.int .i64 n] 3) (.cells #[.int .i64 0] 3) (.cells #[.bool false] 4)
  gi_wp2
  generalize ((((w.alloc (.cells #[vw, vx] 27)).alloc (.cells #[.int .i64 n] 3)).alloc (.cells #[.int .i64 0] 3)).alloc (.cells #[.bool false] 4)) = w4 at *
  refine ⟨trivial, (callsIn_wide.2 (impl_isCal _ ws es _ (HC.out.below hB4) hm')).mono ?_⟩
  rintro e w5 ⟨rfl, hb⟩
  have r0' := blk_below r0 hb
  have r1' := blk_below r1 hb
  have r2' := blk_below r2 hb
  have r3' := blk_below r3 hb
  have HB5 : Below w.heap.size w w5 := hB4.trans (hb.mono hB4.size)
  have hz5 : w.heap.size + 4 ≤ w5.heap.size := by have := hb.size; omega
  clear r0 r1 r2 r3 hB4 hb hz4
  have c0 := cell_of_row _ _ 0 _ _ _ r0'
  have c1 := cell_of_row _ _ 1 _ _ _ r0'
  have cn := cell_of_row _ _ 0 _ _ _ r1'
  have cx := cell_of_row _ _ 0 _ _ _ r2'
  have cxf := frozen_of_row _ _ 0 _ _ r2'
  have cy := cell_of_row _ _ 0 _ _ _ r3'
  have cyf := frozen_of_row _ _ 0 _ _ r3'
  have HEARLY : Hid (¬(On ws es q ∧ 1 ≤ n) → FinEnd ws es q n w (.returned (.tuple #[.int .i64 0, .bool false])) ((w5.setCell ⟨w.heap.size + 1 + 1, 0, none⟩ (.int .i64 0)).setCell ⟨w.heap.size + 1 + 1 + 1, 0, none⟩ (.bool false))) := Lib.hid (fun hno => ⟨_, _, rfl, finRes_off hno, (HB5.setCell (p := ⟨w.heap.size + 1 + 1, 0, none⟩) (by simp; omega) _).setCell (p := ⟨w.heap.size + 1 + 1 + 1, 0, none⟩) (by simp; omega) _⟩)
  have hx4 : ((w5.setCell ⟨w.heap.size + 1 + 1, 0, none⟩ (.int .i64 0)).setCell ⟨w.heap.size + 1 + 1 + 1, 0, none⟩ (.bool false)).cell? ⟨w.heap.size + 1 + 1, 0, none⟩ = some (.int .i64 0) := (World.cell?_of_block (a := ⟨w.heap.size + 1 + 1, 0, none⟩) (heap_setCell_other _ _ _ _ (by simp))).trans (World.cell?_setCell_same' _ _ _ (by rw [cx]; rfl))
  have hy' : ∀ u : Value, (w5.setCell ⟨w.heap.size + 1 + 1, 0, none⟩ u).cell? ⟨w.heap.size + 1 + 1 + 1, 0, none⟩ = some (.bool false) := fun u => (World.cell?_of_block (a := ⟨w.heap.size + 1 + 1 + 1, 0, none⟩) (heap_setCell_other _ _ _ _ (by simp))).trans cy
  have hyf' : ∀ u : Value, (w5.setCell ⟨w.heap.size + 1 + 1, 0, none⟩ u).frozen? ⟨w.heap.size + 1 + 1 + 1, 0, none⟩ = false := fun u => (World.frozen?_of_block (a := ⟨w.heap.size + 1 + 1 + 1, 0, none⟩) (heap_setCell_other _ _ _ _ (by simp))).trans cyf
  have hy4 : ((w5.setCell ⟨w.heap.size + 1 + 1, 0, none⟩ (.int .i64 0)).setCell ⟨w.heap.size + 1 + 1 + 1, 0, none⟩ (.bool false)).cell? ⟨w.heap.size + 1 + 1 + 1, 0, none⟩ = some (.bool false) := World.cell?_setCell_same' _ _ _ (by rw [hy']; rfl)
  have HX4 := Lib.hid hx4
  have HY4 := Lib.hid hy4
  clear hx4 hy4
  by_cases hcal : IsCal ws es
  · rw [decide_eq_true hcal]
    by_cases hday : 0 ≤ q ∧ q ≤ 999
    · have HI := Lib.hid (inB_yes hday.1 hday.2)
      by_cases hone : 1 ≤ n
      · have b1 : decide (n < 1) = false := decide_eq_false (by omega)
        have HO : Hid (On ws es q) := Lib.hid ⟨hcal, hday⟩
        have HV := Lib.hid hcal
        have HN := Lib.hid hone
        have HQ := Lib.hid hday
        have HL := Lib.hid (days_length_up (hOf ws es) hday.1)
        clear hcal hday hone HEARLY HX4 HY4 hy' hyf'
        gi_wp2
        refine ⟨trivial, (callsIn_wide.2 (impl_isDay _ _ _ HI.out)).mono ?_⟩
        rintro e w6 ⟨rfl, rfl⟩
        have d0 := cell_of_row _ _ 0 _ _ _ (blk_alloc r0' (.cells #[.int .i64 0] 3))
        have d1 := cell_of_row _ _ 1 _ _ _ (blk_alloc r0' (.cells #[.int .i64 0] 3))
        gi_wp2
        refine ⟨trivial, (callsIn_wide.2 (impl_workdays _ _ _ _ ⟨_, _, rfl⟩)).mono ?_⟩
        rintro e w7 ⟨cs, hcs, hcz, rfl, rfl⟩
        obtain rfl := aggs hcs
        clear hcs hcz
        obtain ⟨hB7, hz7, s9, s0, s1, s2⟩ := four w5 (.cells #[.int .i64 0] 3) (.cells #[vw, vx] 27) (.cells #[.int .i64 q] 3) (.cells #[.int .i64 1] 3)
        have he5 : (w5.alloc (.cells #[.int .i64 0] 3)).heap.size = w5.heap.size + 1 := by simp
        rw [he5]
        generalize ((((w5.alloc (.cells #[.int .i64 0] 3)).alloc (.cells #[vw, vx] 27)).alloc (.cells #[.int .i64 q] 3)).alloc (.cells #[.int .i64 1] 3)) = W0 at *
        clear he5
        have HBW : Below w.heap.size w W0 := HB5.trans (hB7.mono HB5.size)
        have r1 := blk_below r1' hB7
        have r2 := blk_below r2' hB7
        have r3 := blk_below r3' hB7
        clear r0' r1' r2' r3' hB7 c0 c1 d0 d1 cn cx cxf cy cyf
        have cn := cell_of_row _ _ 0 _ _ _ r1
        have cx := cell_of_row _ _ 0 _ _ _ r2
        have cxf := frozen_of_row _ _ 0 _ _ r2
        have cy := cell_of_row _ _ 0 _ _ _ r3
        have cyf := frozen_of_row _ _ 0 _ _ r3
        have ck := cell_of_row _ _ 0 _ _ _ s9
        have ckf := frozen_of_row _ _ 0 _ _ s9
        have cq := cell_of_row _ _ 0 _ _ _ s1
        have cst := cell_of_row _ _ 0 _ _ _ s2
        gi_wp2
        refine wpIn_rangeFunc_ownF rfl (by omega) (gf := 60) (lb := #[.pointer (some ⟨w5.heap.size + 1 + 1, 0, none⟩), .pointer (some ⟨w5.heap.size + 1 + 1 + 1, 0, none⟩), .pointer (some ⟨w5.heap.size + 1, 0, none⟩)]) rfl trivial (enters_of Try.func60 (by kernel_rfl) rfl)
          (work_stops (w5.heap.size + 1 + 1) (w5.heap.size + 1 + 1 + 1) (w5.heap.size + 1) vw vx ws es q 1 w W0 (Or.inl rfl) HV.out HC.out HBW cq cst s0) kpW_t (kpW_b (by omega) (by omega) (by omega)) (Below.refl _ _) (fun _ => rfl)
          (fun pre W => (W.cell? ⟨w5.heap.size, 0, none⟩ = some (.int .i64 (sumD (hOf ws es) pre)) ∧ W.frozen? ⟨w5.heap.size, 0, none⟩ = false ∧ (W.cell? ⟨w.heap.size + 1 + 1, 0, none⟩ = some (.int .i64 0) ∧ W.frozen? ⟨w.heap.size + 1 + 1, 0, none⟩ = false) ∧ (W.cell? ⟨w.heap.size + 1 + 1 + 1, 0, none⟩ = some (.bool false) ∧ W.frozen? ⟨w.heap.size + 1 + 1 + 1, 0, none⟩ = false) ∧ W.cell? ⟨w.heap.size + 1, 0, none⟩ = some (.int .i64 n) ∧ sumD (hOf ws es) pre < n) ∧ Below w.heap.size w W)
          (fun c pre W => (∃ (p : List (Fin 1000)) (x : Fin 1000), pre = p ++ [x] ∧ c = .ret ∧ sumD (hOf ws es) p < n ∧ n ≤ sumD (hOf ws es) p + hOf ws es x.1 ∧ W.cell? ⟨w.heap.size + 1 + 1, 0, none⟩ = some (.int .i64 ((x.1 : Nat) : Int)) ∧ W.cell? ⟨w.heap.size + 1 + 1 + 1, 0, none⟩ = some (.bool true)) ∧ Below w.heap.size w W)
          (OwnFrom.and (Own.from (fun z A B row hs hg hr => ⟨cell_kept hs.1 hg hr, (frozen_kept hs.1 hg hr).trans hs.2.1, ⟨cell_kept hs.2.2.1.1 hg hr, (frozen_kept hs.2.2.1.1 hg hr).trans hs.2.2.1.2⟩, ⟨cell_kept hs.2.2.2.1.1 hg hr, (frozen_kept hs.2.2.2.1.1 hg hr).trans hs.2.2.2.1.2⟩, cell_kept hs.2.2.2.2.1 hg hr, hs.2.2.2.2.2⟩) _) (ownFrom_below (Nat.le_refl _) (by omega)))
          (fun c => OwnFrom.and (Own.from (fun z A B row hs hg hr => by obtain ⟨p, x, h1, h2, h3, h4, h5, h6⟩ := hs; exact ⟨p, x, h1, h2, h3, h4, cell_kept h5 hg hr, cell_kept h6 hg hr⟩) _) (ownFrom_below (Nat.le_refl _) (by omega)))
          ⟨⟨ck, ckf, ⟨cx, cxf⟩, ⟨cy, cyf⟩, cn, by have := HN.out; simp only [sumD]; omega⟩, HBW⟩
          (fun x => { tmps := #[.agg #[vw, vx], .int .i64 q, .int .i64 n, .pointer (some ⟨w.heap.size, 0, none⟩), undef, .pointer (some ⟨w.heap.size + 1, 0, none⟩), .pointer (some ⟨w.heap.size + 1 + 1, 0, none⟩), .pointer (some ⟨w.heap.size + 1 + 1 + 1, 0, none⟩), .pointer (some ⟨w5.heap.size, 0, none⟩), .int .i64 ((x.1 : Nat) : Int), .int .i64 (hOf ws es x.1), .agg #[vw, vx], .bool true, .bool false, .bool false, .int .i64 q, .bool true, .bool false, .bool false, .bool false, .int .i64 n, .bool false, .bool false, .agg #[vw, vx], .int .i64 q, .func (.func 60) #[] #[.pointer (some ⟨w5.heap.size + 1 + 1, 0, none⟩), .pointer (some ⟨w5.heap.size + 1 + 1 + 1, 0, none⟩), .pointer (some ⟨w5.heap.size + 1, 0, none⟩)], .int .i64 ((x.1 : Nat) : Int), .int .i64 (hOf ws es x.1), undef, undef, undef, undef, undef, undef, undef], defers := [] }) ?assign ?body ?done ?stop
        case assign =>
          intro l x W K hK
          gi_wp2
          exact hK
        case body =>
          rintro l pre x W ⟨⟨hc, hf, ⟨hx, hxf⟩, ⟨hy, hyf⟩, hcn, hlt⟩, hBB⟩ hlen
          have hx9 := x.2
          have hll := HL.out
          have HSN := Lib.hid (sumD_snoc (hOf ws es) pre x)
          have hsb := sum_cap HV.out pre (by omega)
          have hob := hOf_bound HV.out x.1
          have HLT := Lib.hid hlt
          clear hlt hlen hll
          have hbk := block_lt_of_cell hc
          have hbx := block_lt_of_cell hx
          have hby := block_lt_of_cell hy
          have hbn := block_lt_of_cell hcn
          have hx' : ∀ u : Value, (W.setCell ⟨w5.heap.size, 0, none⟩ u).cell? ⟨w.heap.size + 1 + 1, 0, none⟩ = some (.int .i64 0) := fun u => (World.cell?_of_block (a := ⟨w.heap.size + 1 + 1, 0, none⟩) (heap_setCell_other _ _ _ _ (by simp; omega))).trans hx
          have hxf' : ∀ u : Value, (W.setCell ⟨w5.heap.size, 0, none⟩ u).frozen? ⟨w.heap.size + 1 + 1, 0, none⟩ = false := fun u => (World.frozen?_of_block (a := ⟨w.heap.size + 1 + 1, 0, none⟩) (heap_setCell_other _ _ _ _ (by simp; omega))).trans hxf
          have hn' : ∀ u : Value, (W.setCell ⟨w5.heap.size, 0, none⟩ u).cell? ⟨w.heap.size + 1, 0, none⟩ = some (.int .i64 n) := fun u => (World.cell?_of_block (a := ⟨w.heap.size + 1, 0, none⟩) (heap_setCell_other _ _ _ _ (by simp; omega))).trans hcn
          by_cases he : n ≤ sumD (hOf ws es) pre + hOf ws es x.1
          · have b1 : decide (n ≤ sumD (hOf ws es) pre + hOf ws es x.1) = true := decide_eq_true he
            have HE := Lib.hid he
            clear he
            have hy' : ∀ u u' : Value, ((W.setCell ⟨w5.heap.size, 0, none⟩ u).setCell ⟨w.heap.size + 1 + 1, 0, none⟩ u').cell? ⟨w.heap.size + 1 + 1 + 1, 0, none⟩ = some (.bool false) := fun u u' => (World.cell?_of_block (a := ⟨w.heap.size + 1 + 1 + 1, 0, none⟩) ((heap_setCell_other _ _ _ _ (by simp)).trans (heap_setCell_other _ _ _ _ (by simp; omega)))).trans hy
            obtain ⟨s, hs⟩ : ∃ s, sumD (hOf ws es) pre = s := ⟨_, rfl⟩
            obtain ⟨y, hyy⟩ : ∃ y, hOf ws es x.1 = y := ⟨_, rfl⟩
            have HS := Lib.hid hs
            have HYY := Lib.hid hyy
            rw [hs] at hc hsb b1
            rw [hyy] at hob b1 ⊢
            clear hs hyy
            gi_wp2
            refine ⟨((KeepsOthers.setCell _ _ _).trans (KeepsOthers.setCell _ _ _)).trans (KeepsOthers.setCell _ _ _), ⟨pre, x, rfl, rfl, HLT.out, HE.out, ?_, ?_⟩, ((hBB.setCell (p := ⟨w5.heap.size, 0, none⟩) (by simp; omega) _).setCell (p := ⟨w.heap.size + 1 + 1, 0, none⟩) (by simp; omega) _).setCell (p := ⟨w.heap.size + 1 + 1 + 1, 0, none⟩) (by simp; omega) _⟩
            · exact (World.cell?_of_block (a := ⟨w.heap.size + 1 + 1, 0, none⟩) (heap_setCell_other _ _ _ _ (by simp))).trans (World.cell?_setCell_same' _ _ _ (by rw [hx']; rfl))
            · exact World.cell?_setCell_same' _ _ _ (by rw [hy']; rfl)
          · have b1 : decide (n ≤ sumD (hOf ws es) pre + hOf ws es x.1) = false := decide_eq_false he
            have HE := Lib.hid (Int.not_le.1 he)
            clear he
            obtain ⟨s, hs⟩ : ∃ s, sumD (hOf ws es) pre = s := ⟨_, rfl⟩
            obtain ⟨y, hyy⟩ : ∃ y, hOf ws es x.1 = y := ⟨_, rfl⟩
            have HS := Lib.hid hs
            have HYY := Lib.hid hyy
            rw [hs] at hc hsb b1
            rw [hyy] at hob b1 ⊢
            clear hs hyy
            gi_wp2
            have e1 : ∀ (j : Nat), j ≠ w5.heap.size → ∀ u : Value, (W.setCell ⟨w5.heap.size, 0, none⟩ u).heap[j]? = W.heap[j]? := fun j h1 u => heap_setCell_other _ _ _ _ h1
            refine ⟨KeepsOthers.setCell _ _ _, ⟨(Below.refl _ W).setCell (p := ⟨w5.heap.size, 0, none⟩) (by simp; omega) _, e1 _ (by omega) _, e1 _ (by omega) _⟩, ⟨?_, ?_, ⟨hx' _, hxf' _⟩, ⟨?_, ?_⟩, hn' _, ?_⟩, hBB.setCell (p := ⟨w5.heap.size, 0, none⟩) (by simp; omega) _⟩
            · rw [HSN.out, HS.out, HYY.out]; exact World.cell?_setCell_same' _ _ _ (by rw [hc]; rfl)
            · rw [World.frozen?_setCell]; exact hf
            · exact (World.cell?_of_block (a := ⟨w.heap.size + 1 + 1 + 1, 0, none⟩) (e1 (w.heap.size + 1 + 1 + 1) (by omega) _)).trans hy
            · rw [World.frozen?_setCell]; exact hyf
            · rw [HSN.out]; exact HE.out
        case done =>
          rintro D ys W hD rfl ⟨⟨_, _, ⟨hx, hxf⟩, ⟨hy, hyf⟩, _, hlt⟩, hB⟩ hK
          have HF := Lib.hid (fin_no HO.out hlt)
          clear hlt
          have hbx := block_lt_of_cell hx
          have hby := block_lt_of_cell hy
          have hy' : ∀ u : Value, (W.setCell ⟨w.heap.size + 1 + 1, 0, none⟩ u).cell? ⟨w.heap.size + 1 + 1 + 1, 0, none⟩ = some (.bool false) := fun u => (World.cell?_of_block (a := ⟨w.heap.size + 1 + 1 + 1, 0, none⟩) (heap_setCell_other _ _ _ _ (by simp))).trans hy
          have hyf' : ∀ u : Value, (W.setCell ⟨w.heap.size + 1 + 1, 0, none⟩ u).frozen? ⟨w.heap.size + 1 + 1 + 1, 0, none⟩ = false := fun u => (World.frozen?_of_block (a := ⟨w.heap.size + 1 + 1 + 1, 0, none⟩) (heap_setCell_other _ _ _ _ (by simp))).trans hyf
          gi_wp2
          have hK' := ((KeepsOthers.setCell W ⟨w.heap.size + 1 + 1, 0, none⟩ (.int .i64 0)).trans (KeepsOthers.setCell _ ⟨w.heap.size + 1 + 1 + 1, 0, none⟩ (.bool false))).same D _ hK rfl
          have hx4 : ((W.setCell ⟨w.heap.size + 1 + 1, 0, none⟩ (.int .i64 0)).setCell ⟨w.heap.size + 1 + 1 + 1, 0, none⟩ (.bool false)).cell? ⟨w.heap.size + 1 + 1, 0, none⟩ = some (.int .i64 0) := (World.cell?_of_block (a := ⟨w.heap.size + 1 + 1, 0, none⟩) (heap_setCell_other _ _ _ _ (by simp))).trans (World.cell?_setCell_same' _ _ _ (by rw [hx]; rfl))
          have hy4 : ((W.setCell ⟨w.heap.size + 1 + 1, 0, none⟩ (.int .i64 0)).setCell ⟨w.heap.size + 1 + 1 + 1, 0, none⟩ (.bool false)).cell? ⟨w.heap.size + 1 + 1 + 1, 0, none⟩ = some (.bool false) := World.cell?_setCell_same' _ _ _ (by rw [hy']; rfl)
          refine ⟨by simp, .inl ⟨_, _, rfl, run_takeDeferred hK', ?_⟩⟩
          have hx5 := cell_kept hx4 (grownBy_putObj' _ D (.deferred none)) (fun r e => by cases e; exact ⟨_, hK', rfl⟩)
          have hy5 := cell_kept hy4 (grownBy_putObj' _ D (.deferred none)) (fun r e => by cases e; exact ⟨_, hK', rfl⟩)
          refine ⟨.tuple #[.int .i64 0, .bool false], ?_, _, _, rfl, HF.out, ((hB.setCell (p := ⟨w.heap.size + 1 + 1, 0, none⟩) (by simp; omega) _).setCell (p := ⟨w.heap.size + 1 + 1 + 1, 0, none⟩) (by simp; omega) _).trans (belowK_b (n₀ := w.heap.size) (w := W0) (by omega) _ D _ _ hD hK' rfl rfl)⟩
          simp [results, Try.f25, go_sem, hx5, hy5]
        case stop =>
          rintro D c pre W hD hSp ⟨⟨p, x, rfl, rfl, h1, h2, hx, hy⟩, hB⟩ hK
          have HF := Lib.hid (fin_found HO.out HN.out hSp h1 h2)
          clear h1 h2 hSp
          gi_wp2
          refine ⟨by simp, .inl ⟨_, _, rfl, run_takeDeferred hK, ?_⟩⟩
          have hx5 := cell_kept hx (grownBy_putObj' _ D (.deferred none)) (fun r e => by cases e; exact ⟨_, hK, rfl⟩)
          have hy5 := cell_kept hy (grownBy_putObj' _ D (.deferred none)) (fun r e => by cases e; exact ⟨_, hK, rfl⟩)
          refine ⟨.tuple #[.int .i64 ((x.1 : Nat) : Int), .bool true], ?_, _, _, rfl, HF.out, hB.trans (belowK_b (n₀ := w.heap.size) (w := W0) (by omega) W D _ _ hD hK rfl rfl)⟩
          simp [results, Try.f25, go_sem, hx5, hy5]
      · have b1 : decide (n < 1) = true := decide_eq_true (by omega)
        have HF := Lib.hid (HEARLY.out (fun h => hone h.2))
        clear hcal hday hone HEARLY
        gi_wp2
        refine ⟨trivial, (callsIn_wide.2 (impl_isDay _ _ _ HI.out)).mono ?_⟩
        rintro e w6 ⟨rfl, rfl⟩
        gi_wp2
        have hx5 := HX4.out
        have hy5 := HY4.out
        refine ⟨.tuple #[.int .i64 0, .bool false], ?_, HF.out⟩
        simp [results, Try.f25, go_sem, hx5, hy5]
    · have HI := Lib.hid (inB_no (x := q) (lo := 0) (hi := 999) (by omega))
      have HF := Lib.hid (HEARLY.out (fun h => hday h.1.2))
      clear hcal hday HEARLY
      gi_wp2
      refine ⟨trivial, (callsIn_wide.2 (impl_isDay _ _ _ HI.out)).mono ?_⟩
      rintro e w6 ⟨rfl, rfl⟩
      gi_wp2
      have hx5 := HX4.out
      have hy5 := HY4.out
      refine ⟨.tuple #[.int .i64 0, .bool false], ?_, HF.out⟩
      simp [results, Try.f25, go_sem, hx5, hy5]
  · rw [decide_eq_false hcal]
    have HF := Lib.hid (HEARLY.out (fun h => hcal h.1.1))
    clear hcal HEARLY
    gi_wp2
    refine ⟨trivial, ?_⟩
    gi_wp2
    have hx5 := HX4.out
    have hy5 := HY4.out
    refine ⟨.tuple #[.int .i64 0, .bool false], ?_, HF.out⟩
    simp [results, Try.f25, go_sem, hx5, hy5]
end Go.Proofs.Ytkhonlcekjckoaa
