/-
  The model's l6Simple and ParseCond.
-/
import Derived.Test.YtghofgjlmfdnpaaCondParse
import Derived.WalkKit
import Derived.WalkSpells
import Derived.WalkSmall
import Derived.Laws.AppendOwn
import Derived.BigQuiet
import Derived.Deep.QuietTactic
import Derived.Deep.DeepCutAuto
import Derived.Deep.RegionHeld3
import Derived.Deep.RegionLaw
import Derived.Lib.Hide
namespace Go.Proofs.Ytghofgjlmfdnpaa
open Go.RowKit

theorem grown_drewL {w w' : World} {o : Option Nat} (h : w.drew.grownBy w' o) : w.grownBy w' o := ⟨h.os, h.tape, h.output, h.size, h.block⟩
theorem RdS.deep {b : Nat} {s : ByteArray} {r : RS} {dp dp' x : Int} {w : World} (h : RdS b s r dp w) (hx : x = dp') : RdS b s r dp' (w.setCell ⟨b, 4, none⟩ (.int .i64 x)) := by
  subst hx
  obtain ⟨v, h1, h2, h3⟩ := h
  exact ⟨v, heap_setCell_same w b 4 _ _ _ h1, own_setL h2 (by omega) _, by simpa using h3⟩
theorem RdS.lost {b : Nat} {s : ByteArray} {r : RS} {dp : Int} {w : World} (h : RdS b s r dp w) : RdS b s r.spoil dp (w.setCell ⟨b, 3, none⟩ (.bool true)) := by
  obtain ⟨v, h1, h2, h3⟩ := h
  exact ⟨v, heap_setCell_same w b 3 _ _ _ h1, own_setL h2 (by omega) _, by simpa using h3⟩
theorem RdS.cells {b : Nat} {s : ByteArray} {r : RS} {dp : Int} {w : World} (h : RdS b s r dp w) : ∃ a c, w.heap[b]? = some (.cells #[.string s, .int .i64 r.i, .slice a r.out.length c, .bool r.bad, .int .i64 dp] 87 (0, 0)) ∧ w.ownsRow (b + 1) 43 3 (.slice a r.out.length c) r.out.length (CN.cells r.out) := by
  obtain ⟨v, h1, h2, h3⟩ := h
  rcases h2.2 with ⟨rfl, hn⟩ | ⟨g, cap, cur, rfl, _⟩
  · exact ⟨none, 0, by rw [hn]; exact h1, by rw [hn] at h2 ⊢; exact h2⟩
  · exact ⟨_, cap, h1, h2⟩

set_option maxRecDepth 100000 in
set_option maxHeartbeats 1000000 in
theorem parse_simple0 (b : Nat) (s : ByteArray) : RunsAs 82 (rdSimple s 0) b s 31 := by
  intro r w h hi ho
  have H := Lib.hid h
  obtain ⟨a, c, HG, HO⟩ := h.cells
  have hbw := h.lt
  clear h HO
  have g2 := cell_of_row _ _ 2 _ _ _ HG
  have g3 := cell_of_row _ _ 3 _ _ _ HG
  have g4 := cell_of_row _ _ 4 _ _ _ HG
  have f3 := frozen_of_row _ _ 3 _ _ HG
  by_cases h30 : 30 < r.out.length
  · go_enter Try.func82, Try.ntmps82
    go_wp2_with fail
    (try simp only [Exit.inBlock, Exit.then])
    refine bodyPost_ret (results_none rfl _ _ _) rfl ?_
    exact ⟨rfl, H.out.lost, (Below.refl b w).setCell (p := ⟨b, 3, none⟩) (Nat.le_refl _) _⟩
  · go_enter Try.func82, Try.ntmps82
    go_wp2_with fail
    (try simp only [Exit.inBlock, Exit.then])
    refine bodyPost_ret (results_none rfl _ _ _) rfl ?_
    exact ⟨rfl, H.out.lost, (Below.refl b w).setCell (p := ⟨b, 3, none⟩) (Nat.le_refl _) _⟩

set_option maxRecDepth 100000 in
set_option maxHeartbeats 4000000 in
theorem parse_simple (n : Nat) (hn : n ≤ 30) (b : Nat) (s : ByteArray) (hs : s.size ≤ 1048576) (hA : RunsAs 82 (rdSimple s n) b s (31 - (n : Int))) (hO : RunsAs 62 (rdOr s (rdSimple s n)) b s (31 - (n : Int))) :
    RunsAs 82 (rdSimple s (n + 1)) b s (30 - (n : Int)) := by
  obtain ⟨i0, hi0, hz0, hz1, hz2⟩ := info_parts CN.info
  intro r w h hi ho
  have H := Lib.hid h
  have HA := Lib.hid hA
  have HOR := Lib.hid hO
  obtain ⟨a, c, HG, HO⟩ := h.cells
  have hbw := h.lt
  clear h HO hA hO
  have g2 := cell_of_row _ _ 2 _ _ _ HG
  have g3 := cell_of_row _ _ 3 _ _ _ HG
  have g4 := cell_of_row _ _ 4 _ _ _ HG
  have f3 := frozen_of_row _ _ 3 _ _ HG
  have f4 := frozen_of_row _ _ 4 _ _ HG
  by_cases h30 : 30 < r.out.length
  · have HE : Hid (rdSimple s (n + 1) r = r.spoil) := Lib.hid (if_pos h30)
    rw [HE.out]
    go_enter Try.func82, Try.ntmps82
    go_wp2_with fail
    (try simp only [Exit.inBlock, Exit.then])
    refine bodyPost_ret (results_none rfl _ _ _) rfl ?_
    exact ⟨rfl, H.out.lost, (Below.refl b w).setCell (p := ⟨b, 3, none⟩) (Nat.le_refl _) _⟩
  have HR1 := Lib.hid (H.out.deep (x := 30 - (n : Int) + 1) (dp' := 31 - (n : Int)) (by omega))
  have HB1 := Lib.hid ((Below.refl b w).setCell (p := ⟨b, 4, none⟩) (Nat.le_refl _) (.int .i64 (30 - (n : Int) + 1)))
  obtain ⟨y, hy⟩ : ∃ y, takes s tOpen r.i = y := ⟨_, rfl⟩
  have HY := Lib.hid hy
  have HT := Lib.hid (spec_take b s tOpen r (31 - (n : Int)) _ HR1.out hi hs (by decide))
  rw [hy] at HT
  have hl30 : r.out.length ≤ 30 := by omega
  cases y with
  | true =>
    have hle := (takes_yes hy).1
    have e1 : tOpen.size = 1 := rfl
    have HGOES := Lib.hid (goes_or (goes_simple s n) (r.on 1) (by show r.i + 1 ≤ s.size; omega))
    obtain ⟨q, hq⟩ : ∃ q, rdOr s (rdSimple s n) (r.on 1) = q := ⟨_, rfl⟩
    have HE : Hid (rdSimple s (n + 1) r = rdShut s q) := Lib.hid (by rw [← hq]; exact (if_neg h30).trans (if_pos hy))
    rw [hq] at HGOES
    have HQ := Lib.hid hq
    clear hq
    rw [HE.out]
    clear hy
    go_enter Try.func82, Try.ntmps82
    go_wp2_with fail
    generalize w.setCell ⟨b, 4, none⟩ (.int .i64 (30 - (n : Int) + 1)) = w1 at *
    refine HT.out.mono ?_
    rintro e w2 ⟨rfl, hr, hb⟩
    have HR2 : Hid (RdS b s (r.on 1) (31 - (n : Int)) w2) := Lib.hid hr
    have HB2 := Lib.hid (HB1.out.trans hb)
    clear hr hb HT
    go_wp2_with fail
    refine (HOR.out (r.on 1) _ HR2.out (by show r.i + 1 ≤ s.size; omega) (by show r.out.length ≤ r.i + 1; omega)).mono ?_
    rintro e w3 ⟨rfl, hr, hb⟩
    rw [HQ.out] at hr
    have HR3 := Lib.hid hr
    have HB3 := Lib.hid (HB2.out.trans hb)
    clear hr hb
    have hqi := HGOES.out.2.1
    go_wp2_with fail
    refine (spec_take b s tShut q (31 - (n : Int)) _ HR3.out hqi hs (by decide)).mono ?_
    rintro e w4 ⟨rfl, hr, hb⟩
    obtain ⟨y2, hy2⟩ : ∃ y, takes s tShut q.i = y := ⟨_, rfl⟩
    rw [hy2] at hr
    rw [hy2]
    have HB4 := Lib.hid (HB3.out.trans hb)
    clear hb
    cases y2 with
    | true =>
      have HR4 : Hid (RdS b s (q.on 1) (31 - (n : Int)) w4) := Lib.hid hr
      have HE2 : Hid (rdShut s q = q.on 1) := Lib.hid (if_pos hy2)
      clear hr hy2
      obtain ⟨a5, c5, HG5, HO5⟩ := HR4.out.cells
      have q4 := cell_of_row _ _ 4 _ _ _ HG5
      have qf4 := frozen_of_row _ _ 4 _ _ HG5
      go_wp2_with fail
      first | go_ret | go_end0
      exact ⟨rfl, by rw [HE2.out]; exact HR4.out.deep (by omega), HB4.out.setCell (Nat.le_refl _) _⟩
    | false =>
      have HR4 : Hid (RdS b s q (31 - (n : Int)) w4) := Lib.hid hr
      have HE2 : Hid (rdShut s q = q.spoil) := Lib.hid (if_neg (by rw [hy2]; exact Bool.noConfusion))
      clear hr hy2
      obtain ⟨a5, c5, HG5, HO5⟩ := HR4.out.cells
      have q3 := cell_of_row _ _ 3 _ _ _ HG5
      have qf3 := frozen_of_row _ _ 3 _ _ HG5
      have q4 := cell_of_row _ _ 4 _ _ _ HG5
      have qf4 := frozen_of_row _ _ 4 _ _ HG5
      go_wp2_with fail
      first | go_ret | go_end0
      exact ⟨rfl, by rw [HE2.out]; exact HR4.out.lost.deep (by omega), (HB4.out.setCell (Nat.le_refl _) _).setCell (Nat.le_refl _) _⟩
  | false =>
    have HYF : Hid (¬takes s tOpen r.i = true) := Lib.hid (by rw [hy]; exact Bool.noConfusion)
    clear hy
    obtain ⟨y2, hy2⟩ : ∃ y, takes s tNot r.i = y := ⟨_, rfl⟩
    cases y2 with
    | true =>
      have hle := (takes_yes hy2).1
      have e1 : tNot.size = 1 := rfl
      have HGOES := Lib.hid (goes_simple s n (r.on 1) (by show r.i + 1 ≤ s.size; omega))
      obtain ⟨q, hq⟩ : ∃ q, rdSimple s n (r.on 1) = q := ⟨_, rfl⟩
      have HE : Hid (rdSimple s (n + 1) r = q.push nNot) := Lib.hid (by rw [← hq]; exact (if_neg h30).trans ((if_neg HYF.out).trans (if_pos hy2)))
      rw [hq] at HGOES
      have HQ := Lib.hid hq
      clear hq
      have HY2 := Lib.hid hy2
      rw [HE.out]
      clear hy2
      go_enter Try.func82, Try.ntmps82
      go_wp2_with fail
      generalize w.setCell ⟨b, 4, none⟩ (.int .i64 (30 - (n : Int) + 1)) = w1 at *
      refine HT.out.mono ?_
      rintro e w2 ⟨rfl, hr, hb⟩
      have HR2 : Hid (RdS b s r (31 - (n : Int)) w2) := Lib.hid hr
      have HB2 := Lib.hid (HB1.out.trans hb)
      clear hr hb HT
      go_wp2_with fail
      refine (spec_take b s tNot r (31 - (n : Int)) _ HR2.out hi hs (by decide)).mono ?_
      rintro e w3 ⟨rfl, hr, hb⟩
      rw [HY2.out] at hr
      rw [HY2.out]
      have HR3 : Hid (RdS b s (r.on 1) (31 - (n : Int)) w3) := Lib.hid hr
      have HB3 := Lib.hid (HB2.out.trans hb)
      clear hr hb
      go_wp2_with fail
      refine (HA.out (r.on 1) _ HR3.out (by show r.i + 1 ≤ s.size; omega) (by show r.out.length ≤ r.i + 1; omega)).mono ?_
      rintro e w4 ⟨rfl, hr, hb⟩
      rw [HQ.out] at hr
      have HR4 := Lib.hid hr
      have HB4 := Lib.hid (HB3.out.trans hb)
      clear hr hb
      have hgo := HGOES.out
      have e3 : (r.on 1).i = r.i + 1 := rfl
      have e4 : (r.on 1).out = r.out := rfl
      rw [e3, e4] at hgo
      obtain ⟨a5, c5, HG5, HO5⟩ := HR4.out.cells
      have HG5 := Lib.hid HG5
      have HO5 := Lib.hid HO5
      have hb5 := HR4.out.lt
      have q2 := cell_of_row _ _ 2 _ _ _ HG5.out
      have qf2 := frozen_of_row _ _ 2 _ _ HG5.out
      go_wp2_with (at_builtin; refine wpList_append_own _ rfl _ _ 24 rfl (b + 1) 43 i0 (.agg #[.int .i64 0, .string ByteArray.empty, .string ByteArray.empty]) 3 40 Try.underlying24 hi0 hz0 hz1 hz2 rfl (by decide) (.slice a5 q.out.length c5) q.out.length (CN.cells q.out) rfl (HO5.out.alloc _) ⟨w4.heap.size, 0, none⟩ 1 1 [.int .i64 2, .string eB, .string eB] rfl rfl (newL3 _ _ _ _ _) (by intro u hu; simp at hu; rcases hu with rfl | rfl | rfl <;> rfl) (by unfold maxLen; omega) (by omega) (by simp; omega) ?_)
      intro v6 w6 ho6 hg6 _
      obtain ⟨g6, c6, rfl⟩ := own_someL ho6
      have HPS := Lib.hid (pushed (x := nNot) HG5.out HO5.out ho6 hg6)
      have HG6 := blk_grownL (blk_alloc HG5.out (.cells #[.int .i64 2, .string eB, .string eB] 43)) hg6 (fun e => by have := (HO5.out.lt b e.symm).1; omega)
      have q2 := cell_of_row _ _ 2 _ _ _ HG6
      have qf2 := frozen_of_row _ _ 2 _ _ HG6
      have q4 := cell_of_row _ _ 4 _ _ _ HG6
      have qf4 := frozen_of_row _ _ 4 _ _ HG6
      clear ho6 hg6
      go_wp2_with fail
      first | go_ret | go_end0
      exact ⟨rfl, HPS.out.1.deep (by omega), (HB4.out.trans HPS.out.2).setCell (Nat.le_refl _) _⟩
    | false =>
      have HE : Hid (rdSimple s (n + 1) r = rdLeaf s r) := Lib.hid ((if_neg h30).trans ((if_neg HYF.out).trans (if_neg (by rw [hy2]; exact Bool.noConfusion))))
      have HY2 := Lib.hid hy2
      rw [HE.out]
      clear hy2
      have hw1 := wEnd_le s s.size r.i hi
      have hw0 := wEnd_ge s s.size r.i
      go_enter Try.func82, Try.ntmps82
      go_wp2_with fail
      generalize w.setCell ⟨b, 4, none⟩ (.int .i64 (30 - (n : Int) + 1)) = w1 at *
      refine HT.out.mono ?_
      rintro e w2 ⟨rfl, hr, hb⟩
      have HR2 : Hid (RdS b s r (31 - (n : Int)) w2) := Lib.hid hr
      have HB2 := Lib.hid (HB1.out.trans hb)
      clear hr hb HT
      go_wp2_with fail
      refine (spec_take b s tNot r (31 - (n : Int)) _ HR2.out hi hs (by decide)).mono ?_
      rintro e w3 ⟨rfl, hr, hb⟩
      rw [HY2.out] at hr
      rw [HY2.out]
      have HR3 : Hid (RdS b s r (31 - (n : Int)) w3) := Lib.hid hr
      have HB3 := Lib.hid (HB2.out.trans hb)
      clear hr hb
      obtain ⟨i, out, bad⟩ := r
      simp only at hi ho h30 hw1 hw0 hl30
      obtain ⟨vo, hvo⟩ := HR3.out
      have HV3 : Hid (RdV b s ⟨i, out, bad⟩ (31 - (n : Int)) vo w3) := Lib.hid hvo
      clear hvo
      obtain ⟨j, hj⟩ : ∃ j, wEnd s s.size i = j := ⟨_, rfl⟩
      have HLF : Hid (rdLeaf s ⟨i, out, bad⟩ = if takes s tEq j = true then
          (⟨wEnd s s.size (j + 1), out, bad⟩ : RS).push ⟨1, s.extract i j, s.extract (j + 1) (wEnd s s.size (j + 1))⟩
        else (⟨j, out, if s.extract i j = tTrue then bad else true⟩ : RS).push nTrue) := Lib.hid (by unfold rdLeaf RS.push; simp only [hj])
      have HWD := Lib.hid (spec_wordV b s i out bad (31 - (n : Int)) vo w3 HV3.out hi hs)
      rw [hj] at HWD hw0 hw1
      obtain ⟨u, hu⟩ : ∃ u, s.extract i j = u := ⟨_, rfl⟩
      rw [hu] at HWD HLF
      clear hj hu
      obtain ⟨y3, hy3⟩ : ∃ y, takes s tEq j = y := ⟨_, rfl⟩
      have HY3 := Lib.hid hy3
      rw [hy3] at HLF
      clear hy3
      go_wp2_with fail
      refine HWD.out.mono ?_
      rintro e w4 ⟨rfl, hr, hb, _⟩
      have HV4 : Hid (RdV b s ⟨j, out, bad⟩ (31 - (n : Int)) vo w4) := Lib.hid hr
      have HB4 := Lib.hid (HB3.out.trans hb)
      have hvb : vo.ownBlock ≠ some w4.heap.size := fun e => by have := (hr.2.1.lt _ e).2; omega
      have hbl := hr.2.2
      clear hr hb HWD HV3
      have HAL4 := heap_alloc_new w4 (.cells #[.int .i64 0, .string eB, .string eB] 43)
      have HBA : Below w4.heap.size w4 (w4.alloc (.cells #[.int .i64 0, .string eB, .string eB] 43)) := (Below.refl _ _).alloc (Nat.le_refl _) _
      have HR5 := Lib.hid (HV4.out.below HBA)
      have HB5 := Lib.hid (HB4.out.trans (HBA.mono (show b ≤ w4.heap.size by omega)))
      have hsA : (w4.alloc (.cells #[.int .i64 0, .string eB, .string eB] 43)).heap.size = w4.heap.size + 1 := by simp
      go_upto_if 32 with (go_at_call 77; refine (spec_takeV b s tEq ⟨j, out, bad⟩ (31 - (n : Int)) vo _ HR5.out hw1 hs (by decide)).mono ?_; rintro e w5 ⟨rfl, hr, hb, hg⟩)
      have HX5 := blk_grownL HAL4 hg (by simp; omega)
      have HB6 := Lib.hid (HB5.out.trans hb)
      have hs5 := hg.size
      simp only [HY3.out] at hr ⊢
      clear hb hg HR5 HB5 HAL4 HBA
      go_cut [] from 33 to 41 (fun wx => ∃ (q : RS) (x : CN), q.i ≤ s.size ∧ q.out.length ≤ 30 ∧ Hid (RdV b s q (31 - (n : Int)) vo wx) ∧ Hid (wx.heap[w4.heap.size]? = some (.cells #[.int .i64 x.kind, .string x.opt, .string x.vl] 43 (0, 0))) ∧ Hid (rdLeaf s ⟨i, out, bad⟩ = q.push x) ∧ Hid (Below b w wx))
      case first =>
        cases y3 with
        | true =>
          have HR6 : Hid (RdV b s ⟨j + 1, out, bad⟩ (31 - (n : Int)) vo w5) := Lib.hid hr
          have hle := (takes_yes HY3.out).1
          have e1 : tEq.size = 1 := rfl
          have hwl := wEnd_le s s.size (j + 1) (by omega)
          have HLF2 : Hid (rdLeaf s ⟨i, out, bad⟩ = (⟨wEnd s s.size (j + 1), out, bad⟩ : RS).push ⟨1, u, s.extract (j + 1) (wEnd s s.size (j + 1))⟩) := Lib.hid (HLF.out.trans (if_pos rfl))
          have HWD := Lib.hid (spec_wordV b s (j + 1) out bad (31 - (n : Int)) vo w5 HR6.out (by omega) hs)
          obtain ⟨v, hv⟩ : ∃ v, s.extract (j + 1) (wEnd s s.size (j + 1)) = v := ⟨_, rfl⟩
          rw [hv] at HLF2 HWD
          clear hr hv HLF
          go_wp2_with fail
          refine HWD.out.mono ?_
          rintro e w6 ⟨rfl, hr, hb, hg⟩
          have HX6 := blk_grownL HX5 hg (by simp; omega)
          have HB7 := Lib.hid (HB6.out.trans hb)
          have HR7 := Lib.hid hr
          have hs6 := hg.size
          clear hr hb hg HX5 HB6 HR6 HWD
          have HX7 := heap_setCell_same _ _ 2 _ _ (.string v) (heap_setCell_same _ _ 1 _ _ (.string u) (heap_setCell_same _ _ 0 _ _ (.int .i64 1) HX6))
          have HR8 := Lib.hid (((HR7.out.other (g := w4.heap.size) (i := 0) (x := .int .i64 1) (by omega) hvb).other (g := w4.heap.size) (i := 1) (x := .string u) (by omega) hvb).other (g := w4.heap.size) (i := 2) (x := .string v) (by omega) hvb)
          have HB8 := Lib.hid (((HB7.out.setCell (p := ⟨w4.heap.size, 0, none⟩) (show b ≤ w4.heap.size by omega) (.int .i64 1)).setCell (p := ⟨w4.heap.size, 1, none⟩) (show b ≤ w4.heap.size by omega) (.string u)).setCell (p := ⟨w4.heap.size, 2, none⟩) (show b ≤ w4.heap.size by omega) (.string v))
          have q0 := cell_of_row _ _ 0 _ _ _ HX6
          have q1 := cell_of_row _ _ 1 _ _ _ HX6
          have q2 := cell_of_row _ _ 2 _ _ _ HX6
          have f0 := frozen_of_row _ _ 0 _ _ HX6
          have f1 := frozen_of_row _ _ 1 _ _ HX6
          have f2 := frozen_of_row _ _ 2 _ _ HX6
          go_wp2_with fail
          go_meet
          exact ⟨⟨wEnd s s.size (j + 1), out, bad⟩, ⟨1, u, v⟩, hwl, hl30, HR8, Lib.hid HX7, HLF2, HB8⟩
        | false =>
          have HR6 : Hid (RdV b s ⟨j, out, bad⟩ (31 - (n : Int)) vo w5) := Lib.hid hr
          clear hr
          by_cases htt : u = tTrue
          · have HLF2 : Hid (rdLeaf s ⟨i, out, bad⟩ = (⟨j, out, bad⟩ : RS).push nTrue) := Lib.hid (by rw [HLF.out]; simp [htt])
            have bt : u.toList = [84, 82, 85, 69] := by rw [htt]; simp
            clear htt
            go_wp2_with fail
            go_meet
            exact ⟨⟨j, out, bad⟩, nTrue, hw1, hl30, HR6, Lib.hid HX5, HLF2, HB6⟩
          · have bt0 : ¬u.toList = [84, 82, 85, 69] := fun e => by
              have h1 := str_ne htt
              rw [e] at h1
              simp at h1
            have bt : (u.toList == [84, 82, 85, 69]) = false := beq_eq_false_iff_ne.2 bt0
            have bt2 : (u.toList != [84, 82, 85, 69]) = true := bne_iff_ne.2 bt0
            clear bt0
            have HLF2 : Hid (rdLeaf s ⟨i, out, bad⟩ = (⟨j, out, true⟩ : RS).push nTrue) := Lib.hid (by rw [HLF.out]; simp [htt])
            clear htt
            obtain ⟨HG5, HO5, _⟩ := HR6.out
            have q3 := cell_of_row _ _ 3 _ _ _ HG5
            have f3 := frozen_of_row _ _ 3 _ _ HG5
            have HR8 : Hid (RdV b s ⟨j, out, true⟩ (31 - (n : Int)) vo (w5.setCell ⟨b, 3, none⟩ (.bool true))) := Lib.hid ⟨heap_setCell_same w5 b 3 _ _ _ HG5, own_setL HO5 (by omega) _, by simpa using HR6.out.2.2⟩
            go_wp2_with fail
            go_meet
            exact ⟨⟨j, out, true⟩, nTrue, hw1, hl30, HR8, Lib.hid (blk_other HX5 (by omega)), HLF2, Lib.hid (HB6.out.setCell (p := ⟨b, 3, none⟩) (Nat.le_refl _) _)⟩
      case rest =>
        obtain ⟨q, x, hqi, hq30, HV, HX, HLX, HBW⟩ := hcut
        clear HLF HX5 HB6 HR2 HB2 hr
        obtain ⟨HG, HO, _⟩ := HV.out
        have HO := Lib.hid HO
        have g2 := cell_of_row _ _ 2 _ _ _ HG
        have f2 := frozen_of_row _ _ 2 _ _ HG
        have x0 := cell_of_row _ _ 0 _ _ _ HX.out
        have x1 := cell_of_row _ _ 1 _ _ _ HX.out
        have x2 := cell_of_row _ _ 2 _ _ _ HX.out
        go_wp2_with fail
        have HOA : Hid (((wc.alloc (.cells #[.int .i64 x.kind, .string x.opt, .string x.vl] 43)).drew).ownsRow (b + 1) 43 3 vo q.out.length (CN.cells q.out)) := Lib.hid (HO.out.alloc (.cells #[.int .i64 x.kind, .string x.opt, .string x.vl] 43))
        have HNW : Hid (∀ j u, [Value.int .i64 x.kind, .string x.opt, .string x.vl][j]? = some u → ((wc.alloc (.cells #[.int .i64 x.kind, .string x.opt, .string x.vl] 43)).drew).cell? ((⟨wc.heap.size, 0, none⟩ : Addr).add j) = some u) := Lib.hid (newL3 wc (.int .i64 x.kind) (.string x.opt) (.string x.vl) 43)
        have h1c : ∀ u ∈ [Value.int .i64 x.kind, .string x.opt, .string x.vl], u.oneCell' = true := by intro z hz; simp at hz; rcases hz with rfl | rfl | rfl <;> rfl
        have hbs : b + 1 ≤ ((wc.alloc (.cells #[.int .i64 x.kind, .string x.opt, .string x.vl] 43)).drew).heap.size := by have := HV.out.2.2; show b + 1 ≤ (wc.alloc (.cells #[.int .i64 x.kind, .string x.opt, .string x.vl] 43)).heap.size; simp; omega
        go_region_law (first | (refine step_append_ownL rfl (.tmp 46) (.tmp 48) 24 rfl (b + 1) 43 i0 (.agg #[.int .i64 0, .string ByteArray.empty, .string ByteArray.empty]) 3 40 Try.underlying24 hi0 hz0 hz1 hz2 rfl (by decide) vo q.out.length (CN.cells q.out) (by simp [Act.eval]) HOA.out ⟨wc.heap.size, 0, none⟩ 1 1 [.int .i64 x.kind, .string x.opt, .string x.vl] (by simp [Act.eval]) rfl HNW.out h1c (by unfold maxLen; omega) (by omega) hbs ?_; intro v6 w6 ho6 hg6; obtain ⟨g6, c6, rfl⟩ := own_someL ho6; have HPS := Lib.hid (pushed (x := x) HG HO.out ho6 (grown_drewL hg6)); have HG6 := blk_grownL (blk_alloc HG (.cells #[.int .i64 x.kind, .string x.opt, .string x.vl] 43)) (grown_drewL hg6) (fun e => by have := (HO.out.lt b e.symm).1; omega); have p2 := cell_of_row _ _ 2 _ _ _ HG6; have pf2 := frozen_of_row _ _ 2 _ _ HG6; have p4 := cell_of_row _ _ 4 _ _ _ HG6; have pf4 := frozen_of_row _ _ 4 _ _ HG6; clear ho6 hg6))
        all_goals
          go_wp2_with fail
          first | go_end0 | go_ret
          exact ⟨rfl, by rw [HLX.out]; exact HPS.out.1.deep (by omega), (HBW.out.trans HPS.out.2).setCell (p := ⟨b, 4, none⟩) (Nat.le_refl _) _⟩

theorem parse_simples (b : Nat) (s : ByteArray) (hs : s.size ≤ 1048576) : ∀ n : Nat, n ≤ 31 → RunsAs 82 (rdSimple s n) b s (31 - (n : Int))
  | 0, _ => by
    have := parse_simple0 b s
    simpa using this
  | n + 1, hn => by
    have h1 := parse_simples b s hs n (by omega)
    have h2 := parse_and (rdSimple s n) b s (31 - (n : Int)) (goes_simple s n) h1 hs
    have h3 := parse_or (rdAnd s (rdSimple s n)) b s (31 - (n : Int)) (goes_and (goes_simple s n)) h2 hs
    have h4 := parse_simple n (by omega) b s hs h1 h3
    have e : (31 : Int) - ((n + 1 : Nat) : Int) = 30 - (n : Int) := by omega
    rw [e]
    exact h4
end Go.Proofs.Ytghofgjlmfdnpaa
