/-
 The draws of bills of material: l9When, l9Bills, DrawLevelsOf.
-/
import Derived.Test.YtmnncinpepeocaaGreatCatDraw
import Derived.Test.YtmnncinpepeocaaGreatCondDr
import Derived.Test.YtmnncinpepeocaaGreatBLOwn
import Derived.Test.YtmnncinpepeocaaGreatBLOwn
import Derived.Test.YtmnncinpepeocaaGreatOwnTop
import Derived.Test.YtmnncinpepeocaaGreatBuDr
import Derived.Test.YtmnncinpepeocaaGreatBuA
import Derived.WalkKit
import Derived.WalkSpells
import Derived.WalkSmall
import Derived.BigQuiet
import Derived.OneCell
import Derived.Deep.QuietTactic
import Derived.Deep.DeepCutAuto
import Derived.Deep.RegionHeld3
import Derived.Laws.AppendOwn
import Derived.Laws.OwnMore
import Derived.Lib.Hide
namespace Go.Proofs.YtmnncinpepeocaaGreat
open Go.RowKit

section
variable {w w' : World}
theorem chg_grown {b : Nat} (hd : w.grownBy w' (some b)) : ChgIn b (b + 1) w w' := ⟨hd.os, hd.tape, hd.output, hd.size, fun k hk ho => hd.block k hk (fun e => by cases e; omega)⟩
theorem BX.Own.drawn {b base top : Nat} {v : Value} {xs : List BL} (h : BX.Own base top w v xs) (hd : w.grownBy w' (some b)) (hb : b < base) : BX.Own base top w' v xs := h.far (chg_grown hd) (Or.inr hb)
theorem BX.Own.set6 {g base top : Nat} {v : Value} {xs : List BL} {y0 y1 y2 y3 y4 y5 : Value} (h : BX.Own base top w v xs) (hg : top ≤ g) : BX.Own base top ((((((w.setCell ⟨g, 0, none⟩ y0).setCell ⟨g, 1, none⟩ y1).setCell ⟨g, 2, none⟩ y2).setCell ⟨g, 3, none⟩ y3).setCell ⟨g, 4, none⟩ y4).setCell ⟨g, 5, none⟩ y5) v xs :=
 h.far (((((((ChgIn.refl g (g + 1) w).trans (ChgIn.set (Nat.le_refl _) (Nat.lt_succ_self _))).trans (ChgIn.set (Nat.le_refl _) (Nat.lt_succ_self _))).trans (ChgIn.set (Nat.le_refl _) (Nat.lt_succ_self _))).trans (ChgIn.set (Nat.le_refl _) (Nat.lt_succ_self _))).trans (ChgIn.set (Nat.le_refl _) (Nat.lt_succ_self _))).trans (ChgIn.set (Nat.le_refl _) (Nat.lt_succ_self _))) (Or.inl hg)
theorem BX.Own.setq {g base top i : Nat} {v y : Value} {xs : List BL} (h : BX.Own base top w v xs) (hg : top ≤ g) : BX.Own base top (w.setCell ⟨g, i, none⟩ y) v xs :=
 h.far (ChgIn.set (Nat.le_refl g) (Nat.lt_succ_self g)) (Or.inl hg)
theorem own_ne_blk {base e K n : Nat} {v : Value} {xs : List Value} {g e' : Nat} {cs : Array Value} (h : w.ownsRow base e K v n xs) (hb : w.heap[g]? = some (.cells cs e' (0, 0))) (hne : e ≠ e') : v.ownBlock ≠ some g := by
 intro hv
 rcases h.2 with ⟨rfl, _⟩ | ⟨g2, cap, cur, rfl, _, hg, _⟩
 · cases hv
 · simp only [Value.ownBlock, Option.some.injEq] at hv
   subst hv
   rw [hb] at hg
   injection hg with h1
   injection h1 with _ h2
   exact hne h2.symm
theorem own_set6 {base e K n g : Nat} {v : Value} {xs : List Value} {y0 y1 y2 y3 y4 y5 : Value} (h : w.ownsRow base e K v n xs) (hne : v.ownBlock ≠ some g) : ((((((w.setCell ⟨g, 0, none⟩ y0).setCell ⟨g, 1, none⟩ y1).setCell ⟨g, 2, none⟩ y2).setCell ⟨g, 3, none⟩ y3).setCell ⟨g, 4, none⟩ y4).setCell ⟨g, 5, none⟩ y5).ownsRow base e K v n xs := (ownsRow_setCell_other (ownsRow_setCell_other (ownsRow_setCell_other (ownsRow_setCell_other (ownsRow_setCell_other (ownsRow_setCell_other h hne y0) hne y1) hne y2) hne y3) hne y4) hne y5)
theorem blk_set6r {g : Nat} {y0 y1 y2 y3 y4 y5 z0 z1 z2 z3 z4 z5 : Value} {t : TypeId} (h : w.heap[g]? = some (.cells #[z0, z1, z2, z3, z4, z5] t (0, 0))) : ((((((w.setCell ⟨g, 0, none⟩ y0).setCell ⟨g, 1, none⟩ y1).setCell ⟨g, 2, none⟩ y2).setCell ⟨g, 3, none⟩ y3).setCell ⟨g, 4, none⟩ y4).setCell ⟨g, 5, none⟩ y5).heap[g]? = some (.cells #[y0, y1, y2, y3, y4, y5] t (0, 0)) := (heap_setCell_same _ _ 5 _ _ _ (heap_setCell_same _ _ 4 _ _ _ (heap_setCell_same _ _ 3 _ _ _ (heap_setCell_same _ _ 2 _ _ _ (heap_setCell_same _ _ 1 _ _ _ (heap_setCell_same _ _ 0 _ _ _ h))))))
theorem Drawn.set6r {B b g : Nat} {a : Option Addr} {n c : Nat} {w1 : World} {y0 y1 y2 y3 y4 y5 : Value} (h : Drawn B b a n c w w1) (hb : b < w.heap.size) (hg : w.heap.size ≤ g) : Drawn B b a n c w ((((((w1.setCell ⟨g, 0, none⟩ y0).setCell ⟨g, 1, none⟩ y1).setCell ⟨g, 2, none⟩ y2).setCell ⟨g, 3, none⟩ y3).setCell ⟨g, 4, none⟩ y4).setCell ⟨g, 5, none⟩ y5) := ((((((h.set1 hb hg).set1 hb hg).set1 hb hg).set1 hb hg).set1 hb hg).set1 hb hg)
theorem alloc_row {base e K n : Nat} {v : Value} {xs : List Value} (_ : w.ownsRow base e K v n xs) (o : Obj) : (w.alloc o).heap[w.heap.size]? = some o := heap_alloc_new _ _
theorem drew_alloc (w : World) (o : Obj) : (w.alloc o).drew = w.drew.alloc o := rfl
theorem size_drewW (w : World) : w.drew.heap.size = w.heap.size := rfl
theorem ex_world {base e K n : Nat} {v : Value} {xs : List Value} (_ : w.ownsRow base e K v n xs) (o : Obj) : ∃ W, w.alloc o = W := ⟨_, rfl⟩
theorem Drawn.drN {B b : Nat} {a : Option Addr} {n c : Nat} (h : CurAt B w b a n c) : Drawn B b a n c w w.drew := ⟨h, rfl, rfl, rfl, Nat.le_refl _, fun _ _ _ => rfl⟩
end
/-- A line drawn is small. -/
def BLS (x : BL) : Prop := x.par.size ≤ 1000 ∧ x.prt.size ≤ 1000 ∧ x.whn.length ≤ 3 ∧ ∀ r, r ∈ x.whn → r.opt.size ≤ 1000 ∧ r.vl.size ≤ 1000
/-- Lines drawn, the call's own. -/
def DrewB (B b : Nat) (a : Option Addr) (n c : Nat) (w : World) (e : Ending) (w' : World) : Prop :=
 ∃ (p : Option Addr) (q : Nat) (ls : List BL), e = .returned (.slice p ls.length q) ∧ ls.length ≤ 9 ∧ Hid (∀ x, x ∈ ls → BLS x) ∧ Hid (BX.Own w.heap.size w'.heap.size w' (.slice p ls.length q) ls) ∧ Hid (Drawn B b a n c w w')
theorem bls_push {ls : List BL} {x : BL} (h : ∀ y, y ∈ ls → BLS y) (hx : BLS x) : ∀ y, y ∈ ls ++ [x] → BLS y := fun y hy => by
 rcases List.mem_append.1 hy with hy | hy
 · exact h y hy
 · obtain rfl := List.mem_singleton.1 hy; exact hx
/-- One number of a record is written. -/
theorem BX.Own.qty {base top g n c : Nat} {w : World} {xs : List BL} (h : BX.Own base top w (.slice (some ⟨g, 0, none⟩) n c) xs) (k : Nat) (hk : k < xs.length) (z : Int) :
 BX.Own base top (w.setCell ⟨g, k * 6 + 2, none⟩ (.int .i64 z)) (.slice (some ⟨g, 0, none⟩) n c) (xs.set k { xs[k]'hk with qty := z }) := by
 obtain ⟨rs, ⟨hl, hr⟩, ho⟩ := h
 have hkr : k < rs.length := by omega
 refine ⟨_, ⟨by simpa using hl, fun j hj hr2 => ?_⟩, ho.setc (by decide) k hkr 2 (by omega) (by decide) (.int .i64 z)⟩
 simp only [List.getElem_set]
 split
 · rename_i e
   subst e
   obtain ⟨u, hu⟩ := hr k hk hkr
   exact ⟨u, by rw [hu]; rfl⟩
 · exact hr j (by simpa using hj) (by simpa using hr2)

set_option maxRecDepth 100000 in
set_option maxHeartbeats 1000000 in
theorem l9_when (B b : Nat) (a : Option Addr) (n c : Nat) (w : World) (hn : n ≤ 1048576) (hcode : CodeAt B w a n) (hcur : CurAt B w b a n c) (hBw : B ≤ w.heap.size) :
 Calls Tryz.prog 105 #[.pointer (some ⟨b, 0, none⟩)] w (DrewL B b a n c 3 w) := by
 have hlt := hcur.lt
 have HC0 := Lib.hid hcode
 have HU0 := Lib.hid hcur
 clear hcode hcur
 go_enter Tryz.func105, Tryz.ntmps105
 go_wp2_with fail
 refine (l1_once B b a n c 3 _ hn HC0.out HU0.out (by omega) (by omega) hBw).mono ?_
 rintro e w1 ⟨y, rfl, hd⟩
 have HD := Lib.hid hd
 have hs1 := hd.grown.size
 have HC1 := Lib.hid (HC0.out.below (hd.below hBw))
 clear hd
 cases y with
 | true =>
  go_wp2_with fail
  refine (l6_draw1 B b a n c w1 hn HC1.out HD.out.cur (by omega)).mono ?_
  rintro e w2 ⟨g, q, l, rfl, h1, h2, h3, ho, hd⟩
  have HD2 := Lib.hid (HD.out.trans hd)
  have HO2 := Lib.hid (own_downL ho hs1)
  have HZ := Lib.hid h3
  clear hd ho h3
  go_wp2_with fail
  go_ret
  exact ⟨g, q, l, rfl, h1, h2, HZ.out, HO2.out, HD2.out⟩
 | false =>
  have HO2 := Lib.hid (own_downL (World.ownsRow_lit w1 #[.int .i64 0, .string eB, .string eB] 1 (Nat.le_refl _) (by unfold maxLen; omega) rfl (e := 145) (size := 3)) hs1)
  have HD3 := Lib.hid (HD.out.al hlt (.cells #[.int .i64 0, .string eB, .string eB] 145))
  go_wp2_with fail
  go_ret
  exact ⟨_, _, [⟨0, eB, eB⟩], rfl, Nat.le_refl _, by decide, fun r hr => (by obtain rfl := List.mem_singleton.1 hr; exact ⟨by decide, by decide⟩), HO2.out, HD3.out⟩

set_option maxRecDepth 100000 in
set_option maxHeartbeats 4000000 in
theorem l9_bills (B b : Nat) (a : Option Addr) (n c : Nat) (w : World) (v : Value) (l : List IT) (bc : Nat) (hn : n ≤ 1048576) (hcode : CodeAt B w a n) (hcur : CurAt B w b a n c) (hBw : B ≤ w.heap.size) (hcat : w.ownsRow bc 33 8 v l.length (IT.cells l)) (hbc : b < bc) (hl6 : l.length ≤ 6) (hsz : ∀ r, r ∈ l → r.code.size ≤ 1000 ∧ r.unt.size ≤ 1000) :
 Calls Tryz.prog 79 #[.pointer (some ⟨b, 0, none⟩), v] w (DrewB B b a n c w) := by
 obtain ⟨i0, hi0, hz0, hz1, hz2⟩ := info_parts BX.info
 have hlt := hcur.lt
 have HC0 := Lib.hid hcode
 have HSZ := Lib.hid hsz
 have HD0 : Hid (Drawn B b a n c w (w.alloc (.cells #[] 94))) := Lib.hid ((show Drawn B b a n c w w from ⟨hcur, ⟨rfl, rfl, rfl, Nat.le_refl _, fun _ _ _ => rfl⟩⟩).al hlt _)
 have HO0 : Hid (BX.Own w.heap.size (w.alloc (.cells #[] 94)).heap.size (w.alloc (.cells #[] 94)) (.slice (some ⟨w.heap.size, 0, none⟩) 0 0) []) := Lib.hid ⟨[], ⟨rfl, fun j hj => by simp at hj⟩, OwnN.empty (Nat.le_refl _)⟩
 have HCT0 := Lib.hid (hcat.alloc (.cells #[] 94))
 obtain ⟨pc, qc, rfl⟩ := own_sliceN hcat
 have hs0 : w.heap.size ≤ (w.alloc (.cells #[] 94)).heap.size := by simp
 clear hcode hcur hcat hsz
 go_enter Tryz.func79, Tryz.ntmps79
 go_upto_region 2 with fail
 generalize w.alloc (.cells #[] 94) = w0 at *
 go_wp2_with fail
 refine (l1_below B b a n c 9 _ hn (HC0.out.below (HD0.out.below hBw)) HD0.out.cur (by omega) (by omega) (by omega)).mono ?_
 rintro e w1 ⟨mz, rfl, hm0, hm1, hd⟩
 obtain ⟨m, rfl⟩ := Int.eq_ofNat_of_zero_le hm0
 have HD1 := Lib.hid (HD0.out.trans hd)
 have HO1 := Lib.hid ((HO0.out.drawn hd.grown hlt).topw hd.grown.size)
 have HCT1 := Lib.hid (own_hdC HCT0.out hd.grown hbc)
 have hm8 : m ≤ 8 := by omega
 clear hd HD0 HO0 hm0 hm1 hs0 HCT0
 go_wp2_with fail
 go_loopw [5, 6] (fun s i wr => ∃ (k : Nat) (ls : List BL) (p : Option Addr) (q : Nat), k ≤ 8 ∧ i = .int .i64 k ∧ s = .slice p ls.length q ∧ Hid (ls.length + k ≤ 8) ∧ Hid (∀ x, x ∈ ls → BLS x) ∧ Hid (BX.Own w.heap.size wr.heap.size wr (.slice p ls.length q) ls) ∧ Hid (wr.ownsRow bc 33 8 (.slice pc l.length qc) l.length (IT.cells l)) ∧ Hid (Drawn B b a n c w wr)) (fun _ i _ => (intOf i).toNat)
 case atStart => exact ⟨m, [], _, _, hm8, rfl, rfl, Lib.hid (by simpa using hm8), Lib.hid (fun x hx => by cases hx), HO1, HCT1, HD1⟩
 case round =>
  clear HO1 HCT1 HD1
  obtain ⟨k, ls, p, q, hk, rfl, rfl, HLK, HZ, HO, HCT, HD⟩ := hrel
  have hsr := HD.out.grown.size
  have HC := Lib.hid (HC0.out.below (HD.out.below hBw))
  by_cases hgo : 0 < k ∧ 1 < l.length
  rotate_left
  · have hg1 : ¬(0 < k) ∨ ¬(1 < l.length) := by omega
    rcases hg1 with hg1 | hg1
    · have hd9 : decide ((0 : Int) < (k : Int)) = false := decide_eq_false (by omega)
      go_wp2_with fail
      refine (l1_below B b a n c 24 _ hn HC.out HD.out.cur (by omega) (by omega) (by omega)).mono ?_
      rintro e w2 ⟨sw, rfl, h0, h1, hd⟩
      have HO2 := Lib.hid ((HO.out.drawn hd.grown hlt).topw hd.grown.size)
      have HD2 := Lib.hid (HD.out.trans hd)
      have HC2 := Lib.hid (HC0.out.below (HD2.out.below hBw))
      have hs2 := HD2.out.grown.size
      clear hd HO HD HC HCT
      by_cases e0 : sw = 0
      · have b0 : (sw == 0) = true := beq_iff_eq.2 e0
        clear e0
        have hsz : (w2.alloc (.cells #[.int .i64 0, .string eB, .string eB] 145)).heap.size = w2.heap.size + 1 := by simp
        have HUc := Lib.hid (World.ownsRow_lit w2 #[.int .i64 0, .string eB, .string eB] 1 (Nat.le_refl _) (by unfold maxLen; omega) rfl (e := 145) (size := 3))
        obtain ⟨rs, hrec, hown⟩ := HO2.out.below ((Below.refl _ _).alloc (Nat.le_refl _) (.cells #[.int .i64 0, .string eB, .string eB] 145))
        have hrl := hrec.1
        have HRW : Hid ((w2.alloc (.cells #[.int .i64 0, .string eB, .string eB] 145)).ownsRow w.heap.size 94 6 (.slice p ls.length q) ls.length (flatN rs)) := Lib.hid (by rw [← hrl]; rw [← hrl] at hown; exact hown.row)
        have HREC := Lib.hid hrec
        have HOWN := Lib.hid hown
        have HLL := Lib.hid hrl
        have hlk := HLK.out
        have HNEW : Hid (∀ (j : Nat) (u : Value), [.string { data := #[67] }, .string { data := #[65] }, .int .i64 1, .int .i64 0, .int .i64 9, .slice (some ⟨w2.heap.size, 0, none⟩) 1 1][j]? = some u → ((w2.alloc (.cells #[.int .i64 0, .string eB, .string eB] 145)).alloc (.cells #[.string { data := #[67] }, .string { data := #[65] }, .int .i64 1, .int .i64 0, .int .i64 9, .slice (some ⟨w2.heap.size, 0, none⟩) 1 1] 94)).cell? ((⟨w2.heap.size + 1, 0, none⟩ : Addr).add j) = some u) := Lib.hid (by rw [← hsz]; exact new_6 _ _ _ _ _ _ _ _)
        clear hrec hown hrl hsz
        go_wp2_with (at_builtin; refine wpList_append_own _ rfl _ _ 25 rfl w.heap.size 94 i0 (.agg #[.string ByteArray.empty, .string ByteArray.empty, .int .i64 0, .int .i64 0, .int .i64 0, .slice none 0 0]) 6 80 Tryz.underlying25 hi0 hz0 hz1 hz2 rfl (by decide) _ ls.length (flatN rs) rfl (HRW.out.alloc _) ⟨w2.heap.size + 1, 0, none⟩ 1 1 [.string { data := #[67] }, .string { data := #[65] }, .int .i64 1, .int .i64 0, .int .i64 9, .slice (some ⟨w2.heap.size, 0, none⟩) 1 1] rfl rfl HNEW.out (by intro u hu; simp at hu; rcases hu with rfl | rfl | rfl | rfl | rfl | rfl <;> rfl) (by unfold maxLen; omega) (by omega) (by simp; omega) ?_)
        intro v4 w9 ho hg9 _
        obtain ⟨p2, q2, rfl⟩ := own_sliceN ho
        have HO5 : Hid (BX.Own w.heap.size w9.heap.size w9 (.slice p2 (ls.length + 1) q2) (ls ++ [(⟨{ data := #[67] }, { data := #[65] }, 1, 0, 9, [⟨0, eB, eB⟩]⟩ : BL)])) := Lib.hid (BX.ownPush HREC.out (HOWN.out.below ((Below.refl _ _).alloc (Nat.le_refl _) _)) (HUc.out.alloc _) (Nat.le_refl _) (by omega) (by rw [HLL.out]; exact ho) hg9)
        have HD5 := Lib.hid (((HD2.out.al hlt _).al hlt _).row hlt hg9 (fun g hg2 => (HRW.out.lt g hg2).1))
        have HZ5 := Lib.hid (bls_push (x := (⟨{ data := #[67] }, { data := #[65] }, 1, 0, 9, [⟨0, eB, eB⟩]⟩ : BL)) HZ.out ⟨by decide, by decide, by decide, fun r hr => by obtain rfl := List.mem_singleton.1 hr; exact ⟨by decide, by decide⟩⟩)
        clear ho hg9
        go_wp2_with fail
        go_ret
        exact ⟨p2, q2, ls ++ [(⟨{ data := #[67] }, { data := #[65] }, 1, 0, 9, [⟨0, eB, eB⟩]⟩ : BL)], by simp, by simp; omega, HZ5, by simpa using HO5, HD5⟩
      have b0 : (sw == 0) = false := beq_eq_false_iff_ne.2 e0
      by_cases e1 : sw = 1
      · have b1 : (sw == 1) = true := beq_iff_eq.2 e1
        clear e0 e1
        have hsz : (w2.alloc (.cells #[.int .i64 0, .string eB, .string eB] 145)).heap.size = w2.heap.size + 1 := by simp
        have HUc := Lib.hid (World.ownsRow_lit w2 #[.int .i64 0, .string eB, .string eB] 1 (Nat.le_refl _) (by unfold maxLen; omega) rfl (e := 145) (size := 3))
        obtain ⟨rs, hrec, hown⟩ := HO2.out.below ((Below.refl _ _).alloc (Nat.le_refl _) (.cells #[.int .i64 0, .string eB, .string eB] 145))
        have hrl := hrec.1
        have HRW : Hid ((w2.alloc (.cells #[.int .i64 0, .string eB, .string eB] 145)).ownsRow w.heap.size 94 6 (.slice p ls.length q) ls.length (flatN rs)) := Lib.hid (by rw [← hrl]; rw [← hrl] at hown; exact hown.row)
        have HREC := Lib.hid hrec
        have HOWN := Lib.hid hown
        have HLL := Lib.hid hrl
        have hlk := HLK.out
        have HNEW : Hid (∀ (j : Nat) (u : Value), [.string { data := #[65] }, .string { data := #[81] }, .int .i64 1, .int .i64 0, .int .i64 9, .slice (some ⟨w2.heap.size, 0, none⟩) 1 1][j]? = some u → ((w2.alloc (.cells #[.int .i64 0, .string eB, .string eB] 145)).alloc (.cells #[.string { data := #[65] }, .string { data := #[81] }, .int .i64 1, .int .i64 0, .int .i64 9, .slice (some ⟨w2.heap.size, 0, none⟩) 1 1] 94)).cell? ((⟨w2.heap.size + 1, 0, none⟩ : Addr).add j) = some u) := Lib.hid (by rw [← hsz]; exact new_6 _ _ _ _ _ _ _ _)
        clear hrec hown hrl hsz
        go_wp2_with (at_builtin; refine wpList_append_own _ rfl _ _ 25 rfl w.heap.size 94 i0 (.agg #[.string ByteArray.empty, .string ByteArray.empty, .int .i64 0, .int .i64 0, .int .i64 0, .slice none 0 0]) 6 80 Tryz.underlying25 hi0 hz0 hz1 hz2 rfl (by decide) _ ls.length (flatN rs) rfl (HRW.out.alloc _) ⟨w2.heap.size + 1, 0, none⟩ 1 1 [.string { data := #[65] }, .string { data := #[81] }, .int .i64 1, .int .i64 0, .int .i64 9, .slice (some ⟨w2.heap.size, 0, none⟩) 1 1] rfl rfl HNEW.out (by intro u hu; simp at hu; rcases hu with rfl | rfl | rfl | rfl | rfl | rfl <;> rfl) (by unfold maxLen; omega) (by omega) (by simp; omega) ?_)
        intro v4 w9 ho hg9 _
        obtain ⟨p2, q2, rfl⟩ := own_sliceN ho
        have HO5 : Hid (BX.Own w.heap.size w9.heap.size w9 (.slice p2 (ls.length + 1) q2) (ls ++ [(⟨{ data := #[65] }, { data := #[81] }, 1, 0, 9, [⟨0, eB, eB⟩]⟩ : BL)])) := Lib.hid (BX.ownPush HREC.out (HOWN.out.below ((Below.refl _ _).alloc (Nat.le_refl _) _)) (HUc.out.alloc _) (Nat.le_refl _) (by omega) (by rw [HLL.out]; exact ho) hg9)
        have HD5 := Lib.hid (((HD2.out.al hlt _).al hlt _).row hlt hg9 (fun g hg2 => (HRW.out.lt g hg2).1))
        have HZ5 := Lib.hid (bls_push (x := (⟨{ data := #[65] }, { data := #[81] }, 1, 0, 9, [⟨0, eB, eB⟩]⟩ : BL)) HZ.out ⟨by decide, by decide, by decide, fun r hr => by obtain rfl := List.mem_singleton.1 hr; exact ⟨by decide, by decide⟩⟩)
        clear ho hg9
        go_wp2_with fail
        go_ret
        exact ⟨p2, q2, ls ++ [(⟨{ data := #[65] }, { data := #[81] }, 1, 0, 9, [⟨0, eB, eB⟩]⟩ : BL)], by simp, by simp; omega, HZ5, by simpa using HO5, HD5⟩
      have b1 : (sw == 1) = false := beq_eq_false_iff_ne.2 e1
      have HLX : Hid (ls.length ≤ 9) := Lib.hid (by have := HLK.out; omega)
      by_cases e2 : sw = 2
      rotate_left
      · have b2 : (sw == 2) = false := beq_eq_false_iff_ne.2 e2
        clear e0 e1 e2
        go_wp2_with fail
        go_ret
        exact ⟨p, q, ls, rfl, HLX.out, HZ, HO2, HD2⟩
      have b2 : (sw == 2) = true := beq_iff_eq.2 e2
      clear e0 e1 e2
      by_cases hl0 : 0 < ls.length
      rotate_left
      · have hd0 : decide ((0 : Int) < (ls.length : Int)) = false := decide_eq_false (by omega)
        go_wp2_with fail
        go_ret
        exact ⟨p, q, ls, rfl, HLX.out, HZ, HO2, HD2⟩
      have hd0 : decide ((0 : Int) < (ls.length : Int)) = true := decide_eq_true (by omega)
      obtain ⟨gp, rfl, hgp⟩ : ∃ g : Nat, p = some ⟨g, 0, none⟩ ∧ w.heap.size ≤ g := by
       obtain ⟨rs, hrec, hown⟩ := HO2.out
       have hrow := hown.row
       rw [hrec.1] at hrow
       exact own_blk hrow hl0
      have hii : IntsAt (w2.alloc (.cells #[.int .i64 0, .int .i64 1000, .int .i64 1001] 3)) w2.heap.size 3 := ints_new w2 3 [0, 1000, 1001] (by intro z hz; simp only [List.mem_cons, List.mem_nil_iff, or_false] at hz; omega)
      have HDa := Lib.hid (HD2.out.al hlt (.cells #[.int .i64 0, .int .i64 1000, .int .i64 1001] 3))
      have HOa := Lib.hid ((HO2.out.below ((Below.refl _ _).alloc (Nat.le_refl _) (.cells #[.int .i64 0, .int .i64 1000, .int .i64 1001] 3))))
      go_wp2_with fail
      refine (l1_pickInt B b w2.heap.size 3 a n c _ hn (HC0.out.below (HDa.out.below hBw)) HDa.out.cur (by omega) (by omega) (by simp; omega) (by omega) hii).mono ?_
      rintro e w4 ⟨zq, rfl, hz0', hz1', hd⟩
      have HD4 := Lib.hid (HDa.out.trans hd)
      have HO4 := Lib.hid (HOa.out.drawn hd.grown hlt)
      have hs4 := hd.grown.size
      simp at hs4
      clear hd HDa HOa hii HO2 HD2
      obtain ⟨⟨u2, hu2⟩, fz2⟩ : (∃ u, w4.cell? ⟨gp, 2, none⟩ = some u) ∧ w4.frozen? ⟨gp, 2, none⟩ = false := by
       obtain ⟨rs, hrec, hown⟩ := HO4.out
       have h := hown.cellw 0 (by rw [hrec.1]; exact hl0) 2 (by omega)
       simpa using h
      have hL0 : (0 : Int) < (ls.length : Int) := by omega
      have HO6 := Lib.hid ((HO4.out.qty 0 hl0 zq))
      have HD6 := Lib.hid (HD4.out.set1 (g := gp) (i := 2) (x := .int .i64 zq) hlt hgp)
      have HZ6 : Hid (∀ x, x ∈ ls.set 0 { ls[0]'hl0 with qty := zq } → BLS x) := Lib.hid (fun x hx => by
       rcases List.mem_or_eq_of_mem_set hx with hx | rfl
       · exact HZ.out x hx
       · have h := HZ.out (ls[0]'hl0) (List.getElem_mem hl0)
         exact ⟨h.1, h.2.1, h.2.2.1, h.2.2.2⟩)
      simp only [Nat.zero_mul, Nat.zero_add] at HO6
      have HO7 := Lib.hid (HO6.out.topw (top' := (w4.setCell ⟨gp, 2, none⟩ (.int .i64 zq)).heap.size) (by simp; omega))
      go_wp2_with fail
      go_ret
      exact ⟨_, q, ls.set 0 { ls[0]'hl0 with qty := zq }, by simp; rfl, by simpa using HLX.out, HZ6, (by simpa using HO7), HD6⟩
    · by_cases hk9 : 0 < k
      · have hd9 : decide ((0 : Int) < (k : Int)) = true := decide_eq_true (by omega)
        have hd8 : decide ((1 : Int) < (l.length : Int)) = false := decide_eq_false (by omega)
        go_wp2_with fail
        refine (l1_below B b a n c 24 _ hn HC.out HD.out.cur (by omega) (by omega) (by omega)).mono ?_
        rintro e w2 ⟨sw, rfl, h0, h1, hd⟩
        have HO2 := Lib.hid ((HO.out.drawn hd.grown hlt).topw hd.grown.size)
        have HD2 := Lib.hid (HD.out.trans hd)
        have HC2 := Lib.hid (HC0.out.below (HD2.out.below hBw))
        have hs2 := HD2.out.grown.size
        clear hd HO HD HC HCT
        by_cases e0 : sw = 0
        · have b0 : (sw == 0) = true := beq_iff_eq.2 e0
          clear e0
          have hsz : (w2.alloc (.cells #[.int .i64 0, .string eB, .string eB] 145)).heap.size = w2.heap.size + 1 := by simp
          have HUc := Lib.hid (World.ownsRow_lit w2 #[.int .i64 0, .string eB, .string eB] 1 (Nat.le_refl _) (by unfold maxLen; omega) rfl (e := 145) (size := 3))
          obtain ⟨rs, hrec, hown⟩ := HO2.out.below ((Below.refl _ _).alloc (Nat.le_refl _) (.cells #[.int .i64 0, .string eB, .string eB] 145))
          have hrl := hrec.1
          have HRW : Hid ((w2.alloc (.cells #[.int .i64 0, .string eB, .string eB] 145)).ownsRow w.heap.size 94 6 (.slice p ls.length q) ls.length (flatN rs)) := Lib.hid (by rw [← hrl]; rw [← hrl] at hown; exact hown.row)
          have HREC := Lib.hid hrec
          have HOWN := Lib.hid hown
          have HLL := Lib.hid hrl
          have hlk := HLK.out
          have HNEW : Hid (∀ (j : Nat) (u : Value), [.string { data := #[67] }, .string { data := #[65] }, .int .i64 1, .int .i64 0, .int .i64 9, .slice (some ⟨w2.heap.size, 0, none⟩) 1 1][j]? = some u → ((w2.alloc (.cells #[.int .i64 0, .string eB, .string eB] 145)).alloc (.cells #[.string { data := #[67] }, .string { data := #[65] }, .int .i64 1, .int .i64 0, .int .i64 9, .slice (some ⟨w2.heap.size, 0, none⟩) 1 1] 94)).cell? ((⟨w2.heap.size + 1, 0, none⟩ : Addr).add j) = some u) := Lib.hid (by rw [← hsz]; exact new_6 _ _ _ _ _ _ _ _)
          clear hrec hown hrl hsz
          go_wp2_with (at_builtin; refine wpList_append_own _ rfl _ _ 25 rfl w.heap.size 94 i0 (.agg #[.string ByteArray.empty, .string ByteArray.empty, .int .i64 0, .int .i64 0, .int .i64 0, .slice none 0 0]) 6 80 Tryz.underlying25 hi0 hz0 hz1 hz2 rfl (by decide) _ ls.length (flatN rs) rfl (HRW.out.alloc _) ⟨w2.heap.size + 1, 0, none⟩ 1 1 [.string { data := #[67] }, .string { data := #[65] }, .int .i64 1, .int .i64 0, .int .i64 9, .slice (some ⟨w2.heap.size, 0, none⟩) 1 1] rfl rfl HNEW.out (by intro u hu; simp at hu; rcases hu with rfl | rfl | rfl | rfl | rfl | rfl <;> rfl) (by unfold maxLen; omega) (by omega) (by simp; omega) ?_)
          intro v4 w9 ho hg9 _
          obtain ⟨p2, q2, rfl⟩ := own_sliceN ho
          have HO5 : Hid (BX.Own w.heap.size w9.heap.size w9 (.slice p2 (ls.length + 1) q2) (ls ++ [(⟨{ data := #[67] }, { data := #[65] }, 1, 0, 9, [⟨0, eB, eB⟩]⟩ : BL)])) := Lib.hid (BX.ownPush HREC.out (HOWN.out.below ((Below.refl _ _).alloc (Nat.le_refl _) _)) (HUc.out.alloc _) (Nat.le_refl _) (by omega) (by rw [HLL.out]; exact ho) hg9)
          have HD5 := Lib.hid (((HD2.out.al hlt _).al hlt _).row hlt hg9 (fun g hg2 => (HRW.out.lt g hg2).1))
          have HZ5 := Lib.hid (bls_push (x := (⟨{ data := #[67] }, { data := #[65] }, 1, 0, 9, [⟨0, eB, eB⟩]⟩ : BL)) HZ.out ⟨by decide, by decide, by decide, fun r hr => by obtain rfl := List.mem_singleton.1 hr; exact ⟨by decide, by decide⟩⟩)
          clear ho hg9
          go_wp2_with fail
          go_ret
          exact ⟨p2, q2, ls ++ [(⟨{ data := #[67] }, { data := #[65] }, 1, 0, 9, [⟨0, eB, eB⟩]⟩ : BL)], by simp, by simp; omega, HZ5, by simpa using HO5, HD5⟩
        have b0 : (sw == 0) = false := beq_eq_false_iff_ne.2 e0
        by_cases e1 : sw = 1
        · have b1 : (sw == 1) = true := beq_iff_eq.2 e1
          clear e0 e1
          have hsz : (w2.alloc (.cells #[.int .i64 0, .string eB, .string eB] 145)).heap.size = w2.heap.size + 1 := by simp
          have HUc := Lib.hid (World.ownsRow_lit w2 #[.int .i64 0, .string eB, .string eB] 1 (Nat.le_refl _) (by unfold maxLen; omega) rfl (e := 145) (size := 3))
          obtain ⟨rs, hrec, hown⟩ := HO2.out.below ((Below.refl _ _).alloc (Nat.le_refl _) (.cells #[.int .i64 0, .string eB, .string eB] 145))
          have hrl := hrec.1
          have HRW : Hid ((w2.alloc (.cells #[.int .i64 0, .string eB, .string eB] 145)).ownsRow w.heap.size 94 6 (.slice p ls.length q) ls.length (flatN rs)) := Lib.hid (by rw [← hrl]; rw [← hrl] at hown; exact hown.row)
          have HREC := Lib.hid hrec
          have HOWN := Lib.hid hown
          have HLL := Lib.hid hrl
          have hlk := HLK.out
          have HNEW : Hid (∀ (j : Nat) (u : Value), [.string { data := #[65] }, .string { data := #[81] }, .int .i64 1, .int .i64 0, .int .i64 9, .slice (some ⟨w2.heap.size, 0, none⟩) 1 1][j]? = some u → ((w2.alloc (.cells #[.int .i64 0, .string eB, .string eB] 145)).alloc (.cells #[.string { data := #[65] }, .string { data := #[81] }, .int .i64 1, .int .i64 0, .int .i64 9, .slice (some ⟨w2.heap.size, 0, none⟩) 1 1] 94)).cell? ((⟨w2.heap.size + 1, 0, none⟩ : Addr).add j) = some u) := Lib.hid (by rw [← hsz]; exact new_6 _ _ _ _ _ _ _ _)
          clear hrec hown hrl hsz
          go_wp2_with (at_builtin; refine wpList_append_own _ rfl _ _ 25 rfl w.heap.size 94 i0 (.agg #[.string ByteArray.empty, .string ByteArray.empty, .int .i64 0, .int .i64 0, .int .i64 0, .slice none 0 0]) 6 80 Tryz.underlying25 hi0 hz0 hz1 hz2 rfl (by decide) _ ls.length (flatN rs) rfl (HRW.out.alloc _) ⟨w2.heap.size + 1, 0, none⟩ 1 1 [.string { data := #[65] }, .string { data := #[81] }, .int .i64 1, .int .i64 0, .int .i64 9, .slice (some ⟨w2.heap.size, 0, none⟩) 1 1] rfl rfl HNEW.out (by intro u hu; simp at hu; rcases hu with rfl | rfl | rfl | rfl | rfl | rfl <;> rfl) (by unfold maxLen; omega) (by omega) (by simp; omega) ?_)
          intro v4 w9 ho hg9 _
          obtain ⟨p2, q2, rfl⟩ := own_sliceN ho
          have HO5 : Hid (BX.Own w.heap.size w9.heap.size w9 (.slice p2 (ls.length + 1) q2) (ls ++ [(⟨{ data := #[65] }, { data := #[81] }, 1, 0, 9, [⟨0, eB, eB⟩]⟩ : BL)])) := Lib.hid (BX.ownPush HREC.out (HOWN.out.below ((Below.refl _ _).alloc (Nat.le_refl _) _)) (HUc.out.alloc _) (Nat.le_refl _) (by omega) (by rw [HLL.out]; exact ho) hg9)
          have HD5 := Lib.hid (((HD2.out.al hlt _).al hlt _).row hlt hg9 (fun g hg2 => (HRW.out.lt g hg2).1))
          have HZ5 := Lib.hid (bls_push (x := (⟨{ data := #[65] }, { data := #[81] }, 1, 0, 9, [⟨0, eB, eB⟩]⟩ : BL)) HZ.out ⟨by decide, by decide, by decide, fun r hr => by obtain rfl := List.mem_singleton.1 hr; exact ⟨by decide, by decide⟩⟩)
          clear ho hg9
          go_wp2_with fail
          go_ret
          exact ⟨p2, q2, ls ++ [(⟨{ data := #[65] }, { data := #[81] }, 1, 0, 9, [⟨0, eB, eB⟩]⟩ : BL)], by simp, by simp; omega, HZ5, by simpa using HO5, HD5⟩
        have b1 : (sw == 1) = false := beq_eq_false_iff_ne.2 e1
        have HLX : Hid (ls.length ≤ 9) := Lib.hid (by have := HLK.out; omega)
        by_cases e2 : sw = 2
        rotate_left
        · have b2 : (sw == 2) = false := beq_eq_false_iff_ne.2 e2
          clear e0 e1 e2
          go_wp2_with fail
          go_ret
          exact ⟨p, q, ls, rfl, HLX.out, HZ, HO2, HD2⟩
        have b2 : (sw == 2) = true := beq_iff_eq.2 e2
        clear e0 e1 e2
        by_cases hl0 : 0 < ls.length
        rotate_left
        · have hd0 : decide ((0 : Int) < (ls.length : Int)) = false := decide_eq_false (by omega)
          go_wp2_with fail
          go_ret
          exact ⟨p, q, ls, rfl, HLX.out, HZ, HO2, HD2⟩
        have hd0 : decide ((0 : Int) < (ls.length : Int)) = true := decide_eq_true (by omega)
        obtain ⟨gp, rfl, hgp⟩ : ∃ g : Nat, p = some ⟨g, 0, none⟩ ∧ w.heap.size ≤ g := by
         obtain ⟨rs, hrec, hown⟩ := HO2.out
         have hrow := hown.row
         rw [hrec.1] at hrow
         exact own_blk hrow hl0
        have hii : IntsAt (w2.alloc (.cells #[.int .i64 0, .int .i64 1000, .int .i64 1001] 3)) w2.heap.size 3 := ints_new w2 3 [0, 1000, 1001] (by intro z hz; simp only [List.mem_cons, List.mem_nil_iff, or_false] at hz; omega)
        have HDa := Lib.hid (HD2.out.al hlt (.cells #[.int .i64 0, .int .i64 1000, .int .i64 1001] 3))
        have HOa := Lib.hid ((HO2.out.below ((Below.refl _ _).alloc (Nat.le_refl _) (.cells #[.int .i64 0, .int .i64 1000, .int .i64 1001] 3))))
        go_wp2_with fail
        refine (l1_pickInt B b w2.heap.size 3 a n c _ hn (HC0.out.below (HDa.out.below hBw)) HDa.out.cur (by omega) (by omega) (by simp; omega) (by omega) hii).mono ?_
        rintro e w4 ⟨zq, rfl, hz0', hz1', hd⟩
        have HD4 := Lib.hid (HDa.out.trans hd)
        have HO4 := Lib.hid (HOa.out.drawn hd.grown hlt)
        have hs4 := hd.grown.size
        simp at hs4
        clear hd HDa HOa hii HO2 HD2
        obtain ⟨⟨u2, hu2⟩, fz2⟩ : (∃ u, w4.cell? ⟨gp, 2, none⟩ = some u) ∧ w4.frozen? ⟨gp, 2, none⟩ = false := by
         obtain ⟨rs, hrec, hown⟩ := HO4.out
         have h := hown.cellw 0 (by rw [hrec.1]; exact hl0) 2 (by omega)
         simpa using h
        have hL0 : (0 : Int) < (ls.length : Int) := by omega
        have HO6 := Lib.hid ((HO4.out.qty 0 hl0 zq))
        have HD6 := Lib.hid (HD4.out.set1 (g := gp) (i := 2) (x := .int .i64 zq) hlt hgp)
        have HZ6 : Hid (∀ x, x ∈ ls.set 0 { ls[0]'hl0 with qty := zq } → BLS x) := Lib.hid (fun x hx => by
         rcases List.mem_or_eq_of_mem_set hx with hx | rfl
         · exact HZ.out x hx
         · have h := HZ.out (ls[0]'hl0) (List.getElem_mem hl0)
           exact ⟨h.1, h.2.1, h.2.2.1, h.2.2.2⟩)
        simp only [Nat.zero_mul, Nat.zero_add] at HO6
        have HO7 := Lib.hid (HO6.out.topw (top' := (w4.setCell ⟨gp, 2, none⟩ (.int .i64 zq)).heap.size) (by simp; omega))
        go_wp2_with fail
        go_ret
        exact ⟨_, q, ls.set 0 { ls[0]'hl0 with qty := zq }, by simp; rfl, by simpa using HLX.out, HZ6, (by simpa using HO7), HD6⟩
      · have hd9 : decide ((0 : Int) < (k : Int)) = false := decide_eq_false (by omega)
        go_wp2_with fail
        refine (l1_below B b a n c 24 _ hn HC.out HD.out.cur (by omega) (by omega) (by omega)).mono ?_
        rintro e w2 ⟨sw, rfl, h0, h1, hd⟩
        have HO2 := Lib.hid ((HO.out.drawn hd.grown hlt).topw hd.grown.size)
        have HD2 := Lib.hid (HD.out.trans hd)
        have HC2 := Lib.hid (HC0.out.below (HD2.out.below hBw))
        have hs2 := HD2.out.grown.size
        clear hd HO HD HC HCT
        by_cases e0 : sw = 0
        · have b0 : (sw == 0) = true := beq_iff_eq.2 e0
          clear e0
          have hsz : (w2.alloc (.cells #[.int .i64 0, .string eB, .string eB] 145)).heap.size = w2.heap.size + 1 := by simp
          have HUc := Lib.hid (World.ownsRow_lit w2 #[.int .i64 0, .string eB, .string eB] 1 (Nat.le_refl _) (by unfold maxLen; omega) rfl (e := 145) (size := 3))
          obtain ⟨rs, hrec, hown⟩ := HO2.out.below ((Below.refl _ _).alloc (Nat.le_refl _) (.cells #[.int .i64 0, .string eB, .string eB] 145))
          have hrl := hrec.1
          have HRW : Hid ((w2.alloc (.cells #[.int .i64 0, .string eB, .string eB] 145)).ownsRow w.heap.size 94 6 (.slice p ls.length q) ls.length (flatN rs)) := Lib.hid (by rw [← hrl]; rw [← hrl] at hown; exact hown.row)
          have HREC := Lib.hid hrec
          have HOWN := Lib.hid hown
          have HLL := Lib.hid hrl
          have hlk := HLK.out
          have HNEW : Hid (∀ (j : Nat) (u : Value), [.string { data := #[67] }, .string { data := #[65] }, .int .i64 1, .int .i64 0, .int .i64 9, .slice (some ⟨w2.heap.size, 0, none⟩) 1 1][j]? = some u → ((w2.alloc (.cells #[.int .i64 0, .string eB, .string eB] 145)).alloc (.cells #[.string { data := #[67] }, .string { data := #[65] }, .int .i64 1, .int .i64 0, .int .i64 9, .slice (some ⟨w2.heap.size, 0, none⟩) 1 1] 94)).cell? ((⟨w2.heap.size + 1, 0, none⟩ : Addr).add j) = some u) := Lib.hid (by rw [← hsz]; exact new_6 _ _ _ _ _ _ _ _)
          clear hrec hown hrl hsz
          go_wp2_with (at_builtin; refine wpList_append_own _ rfl _ _ 25 rfl w.heap.size 94 i0 (.agg #[.string ByteArray.empty, .string ByteArray.empty, .int .i64 0, .int .i64 0, .int .i64 0, .slice none 0 0]) 6 80 Tryz.underlying25 hi0 hz0 hz1 hz2 rfl (by decide) _ ls.length (flatN rs) rfl (HRW.out.alloc _) ⟨w2.heap.size + 1, 0, none⟩ 1 1 [.string { data := #[67] }, .string { data := #[65] }, .int .i64 1, .int .i64 0, .int .i64 9, .slice (some ⟨w2.heap.size, 0, none⟩) 1 1] rfl rfl HNEW.out (by intro u hu; simp at hu; rcases hu with rfl | rfl | rfl | rfl | rfl | rfl <;> rfl) (by unfold maxLen; omega) (by omega) (by simp; omega) ?_)
          intro v4 w9 ho hg9 _
          obtain ⟨p2, q2, rfl⟩ := own_sliceN ho
          have HO5 : Hid (BX.Own w.heap.size w9.heap.size w9 (.slice p2 (ls.length + 1) q2) (ls ++ [(⟨{ data := #[67] }, { data := #[65] }, 1, 0, 9, [⟨0, eB, eB⟩]⟩ : BL)])) := Lib.hid (BX.ownPush HREC.out (HOWN.out.below ((Below.refl _ _).alloc (Nat.le_refl _) _)) (HUc.out.alloc _) (Nat.le_refl _) (by omega) (by rw [HLL.out]; exact ho) hg9)
          have HD5 := Lib.hid (((HD2.out.al hlt _).al hlt _).row hlt hg9 (fun g hg2 => (HRW.out.lt g hg2).1))
          have HZ5 := Lib.hid (bls_push (x := (⟨{ data := #[67] }, { data := #[65] }, 1, 0, 9, [⟨0, eB, eB⟩]⟩ : BL)) HZ.out ⟨by decide, by decide, by decide, fun r hr => by obtain rfl := List.mem_singleton.1 hr; exact ⟨by decide, by decide⟩⟩)
          clear ho hg9
          go_wp2_with fail
          go_ret
          exact ⟨p2, q2, ls ++ [(⟨{ data := #[67] }, { data := #[65] }, 1, 0, 9, [⟨0, eB, eB⟩]⟩ : BL)], by simp, by simp; omega, HZ5, by simpa using HO5, HD5⟩
        have b0 : (sw == 0) = false := beq_eq_false_iff_ne.2 e0
        by_cases e1 : sw = 1
        · have b1 : (sw == 1) = true := beq_iff_eq.2 e1
          clear e0 e1
          have hsz : (w2.alloc (.cells #[.int .i64 0, .string eB, .string eB] 145)).heap.size = w2.heap.size + 1 := by simp
          have HUc := Lib.hid (World.ownsRow_lit w2 #[.int .i64 0, .string eB, .string eB] 1 (Nat.le_refl _) (by unfold maxLen; omega) rfl (e := 145) (size := 3))
          obtain ⟨rs, hrec, hown⟩ := HO2.out.below ((Below.refl _ _).alloc (Nat.le_refl _) (.cells #[.int .i64 0, .string eB, .string eB] 145))
          have hrl := hrec.1
          have HRW : Hid ((w2.alloc (.cells #[.int .i64 0, .string eB, .string eB] 145)).ownsRow w.heap.size 94 6 (.slice p ls.length q) ls.length (flatN rs)) := Lib.hid (by rw [← hrl]; rw [← hrl] at hown; exact hown.row)
          have HREC := Lib.hid hrec
          have HOWN := Lib.hid hown
          have HLL := Lib.hid hrl
          have hlk := HLK.out
          have HNEW : Hid (∀ (j : Nat) (u : Value), [.string { data := #[65] }, .string { data := #[81] }, .int .i64 1, .int .i64 0, .int .i64 9, .slice (some ⟨w2.heap.size, 0, none⟩) 1 1][j]? = some u → ((w2.alloc (.cells #[.int .i64 0, .string eB, .string eB] 145)).alloc (.cells #[.string { data := #[65] }, .string { data := #[81] }, .int .i64 1, .int .i64 0, .int .i64 9, .slice (some ⟨w2.heap.size, 0, none⟩) 1 1] 94)).cell? ((⟨w2.heap.size + 1, 0, none⟩ : Addr).add j) = some u) := Lib.hid (by rw [← hsz]; exact new_6 _ _ _ _ _ _ _ _)
          clear hrec hown hrl hsz
          go_wp2_with (at_builtin; refine wpList_append_own _ rfl _ _ 25 rfl w.heap.size 94 i0 (.agg #[.string ByteArray.empty, .string ByteArray.empty, .int .i64 0, .int .i64 0, .int .i64 0, .slice none 0 0]) 6 80 Tryz.underlying25 hi0 hz0 hz1 hz2 rfl (by decide) _ ls.length (flatN rs) rfl (HRW.out.alloc _) ⟨w2.heap.size + 1, 0, none⟩ 1 1 [.string { data := #[65] }, .string { data := #[81] }, .int .i64 1, .int .i64 0, .int .i64 9, .slice (some ⟨w2.heap.size, 0, none⟩) 1 1] rfl rfl HNEW.out (by intro u hu; simp at hu; rcases hu with rfl | rfl | rfl | rfl | rfl | rfl <;> rfl) (by unfold maxLen; omega) (by omega) (by simp; omega) ?_)
          intro v4 w9 ho hg9 _
          obtain ⟨p2, q2, rfl⟩ := own_sliceN ho
          have HO5 : Hid (BX.Own w.heap.size w9.heap.size w9 (.slice p2 (ls.length + 1) q2) (ls ++ [(⟨{ data := #[65] }, { data := #[81] }, 1, 0, 9, [⟨0, eB, eB⟩]⟩ : BL)])) := Lib.hid (BX.ownPush HREC.out (HOWN.out.below ((Below.refl _ _).alloc (Nat.le_refl _) _)) (HUc.out.alloc _) (Nat.le_refl _) (by omega) (by rw [HLL.out]; exact ho) hg9)
          have HD5 := Lib.hid (((HD2.out.al hlt _).al hlt _).row hlt hg9 (fun g hg2 => (HRW.out.lt g hg2).1))
          have HZ5 := Lib.hid (bls_push (x := (⟨{ data := #[65] }, { data := #[81] }, 1, 0, 9, [⟨0, eB, eB⟩]⟩ : BL)) HZ.out ⟨by decide, by decide, by decide, fun r hr => by obtain rfl := List.mem_singleton.1 hr; exact ⟨by decide, by decide⟩⟩)
          clear ho hg9
          go_wp2_with fail
          go_ret
          exact ⟨p2, q2, ls ++ [(⟨{ data := #[65] }, { data := #[81] }, 1, 0, 9, [⟨0, eB, eB⟩]⟩ : BL)], by simp, by simp; omega, HZ5, by simpa using HO5, HD5⟩
        have b1 : (sw == 1) = false := beq_eq_false_iff_ne.2 e1
        have HLX : Hid (ls.length ≤ 9) := Lib.hid (by have := HLK.out; omega)
        by_cases e2 : sw = 2
        rotate_left
        · have b2 : (sw == 2) = false := beq_eq_false_iff_ne.2 e2
          clear e0 e1 e2
          go_wp2_with fail
          go_ret
          exact ⟨p, q, ls, rfl, HLX.out, HZ, HO2, HD2⟩
        have b2 : (sw == 2) = true := beq_iff_eq.2 e2
        clear e0 e1 e2
        by_cases hl0 : 0 < ls.length
        rotate_left
        · have hd0 : decide ((0 : Int) < (ls.length : Int)) = false := decide_eq_false (by omega)
          go_wp2_with fail
          go_ret
          exact ⟨p, q, ls, rfl, HLX.out, HZ, HO2, HD2⟩
        have hd0 : decide ((0 : Int) < (ls.length : Int)) = true := decide_eq_true (by omega)
        obtain ⟨gp, rfl, hgp⟩ : ∃ g : Nat, p = some ⟨g, 0, none⟩ ∧ w.heap.size ≤ g := by
         obtain ⟨rs, hrec, hown⟩ := HO2.out
         have hrow := hown.row
         rw [hrec.1] at hrow
         exact own_blk hrow hl0
        have hii : IntsAt (w2.alloc (.cells #[.int .i64 0, .int .i64 1000, .int .i64 1001] 3)) w2.heap.size 3 := ints_new w2 3 [0, 1000, 1001] (by intro z hz; simp only [List.mem_cons, List.mem_nil_iff, or_false] at hz; omega)
        have HDa := Lib.hid (HD2.out.al hlt (.cells #[.int .i64 0, .int .i64 1000, .int .i64 1001] 3))
        have HOa := Lib.hid ((HO2.out.below ((Below.refl _ _).alloc (Nat.le_refl _) (.cells #[.int .i64 0, .int .i64 1000, .int .i64 1001] 3))))
        go_wp2_with fail
        refine (l1_pickInt B b w2.heap.size 3 a n c _ hn (HC0.out.below (HDa.out.below hBw)) HDa.out.cur (by omega) (by omega) (by simp; omega) (by omega) hii).mono ?_
        rintro e w4 ⟨zq, rfl, hz0', hz1', hd⟩
        have HD4 := Lib.hid (HDa.out.trans hd)
        have HO4 := Lib.hid (HOa.out.drawn hd.grown hlt)
        have hs4 := hd.grown.size
        simp at hs4
        clear hd HDa HOa hii HO2 HD2
        obtain ⟨⟨u2, hu2⟩, fz2⟩ : (∃ u, w4.cell? ⟨gp, 2, none⟩ = some u) ∧ w4.frozen? ⟨gp, 2, none⟩ = false := by
         obtain ⟨rs, hrec, hown⟩ := HO4.out
         have h := hown.cellw 0 (by rw [hrec.1]; exact hl0) 2 (by omega)
         simpa using h
        have hL0 : (0 : Int) < (ls.length : Int) := by omega
        have HO6 := Lib.hid ((HO4.out.qty 0 hl0 zq))
        have HD6 := Lib.hid (HD4.out.set1 (g := gp) (i := 2) (x := .int .i64 zq) hlt hgp)
        have HZ6 : Hid (∀ x, x ∈ ls.set 0 { ls[0]'hl0 with qty := zq } → BLS x) := Lib.hid (fun x hx => by
         rcases List.mem_or_eq_of_mem_set hx with hx | rfl
         · exact HZ.out x hx
         · have h := HZ.out (ls[0]'hl0) (List.getElem_mem hl0)
           exact ⟨h.1, h.2.1, h.2.2.1, h.2.2.2⟩)
        simp only [Nat.zero_mul, Nat.zero_add] at HO6
        have HO7 := Lib.hid (HO6.out.topw (top' := (w4.setCell ⟨gp, 2, none⟩ (.int .i64 zq)).heap.size) (by simp; omega))
        go_wp2_with fail
        go_ret
        exact ⟨_, q, ls.set 0 { ls[0]'hl0 with qty := zq }, by simp; rfl, by simpa using HLX.out, HZ6, (by simpa using HO7), HD6⟩
  obtain ⟨hk0, hl1⟩ := hgo
  have HK0 := Lib.hid hk0
  have hl1i : decide ((1 : Int) < (l.length : Int)) = true := decide_eq_true (by omega)
  have hk0i : decide ((0 : Int) < (k : Int)) = true := decide_eq_true (by omega)
  have hw1 : IntKind.i64.wrap ((l.length : Int) - 1) = (l.length : Int) - 1 := (IntKind.wrap_i64 _).trans (by omega)
  go_wp2_with fail
  refine (l1_below B b a n c ((l.length : Int) - 1) _ hn HC.out HD.out.cur (by omega) (by omega) (by omega)).mono ?_
  rintro e w2 ⟨xa, rfl, ha0, ha1, hd⟩
  obtain ⟨ka, rfl⟩ := Int.eq_ofNat_of_zero_le ha0
  have HO2 := Lib.hid ((HO.out.drawn hd.grown hlt).topw hd.grown.size)
  have HCT2 := Lib.hid (own_hdC HCT.out hd.grown hbc)
  have HD2 := Lib.hid (HD.out.trans hd)
  have HC2 := Lib.hid (HC0.out.below (HD2.out.below hBw))
  have hs2 := HD2.out.grown.size
  have hka : ka + 1 < l.length := by omega
  clear hd ha0 ha1 HO HCT HD HC
  have hw2 : IntKind.i64.wrap ((l.length : Int) - (ka : Int)) = (l.length : Int) - (ka : Int) := (IntKind.wrap_i64 _).trans (by omega)
  have hw3 : IntKind.i64.wrap ((l.length : Int) - (ka : Int) - 1) = (l.length : Int) - (ka : Int) - 1 := (IntKind.wrap_i64 _).trans (by omega)
  go_wp2_with fail
  refine (l1_below B b a n c ((l.length : Int) - (ka : Int) - 1) _ hn HC2.out HD2.out.cur (by omega) (by omega) (by omega)).mono ?_
  rintro e w3 ⟨xb, rfl, hb0, hb1, hd⟩
  obtain ⟨kd, rfl⟩ := Int.eq_ofNat_of_zero_le hb0
  have HO3 := Lib.hid ((HO2.out.drawn hd.grown hlt).topw hd.grown.size)
  have HCT3 := Lib.hid (own_hdC HCT2.out hd.grown hbc)
  have HD3 := Lib.hid (HD2.out.trans hd)
  have HC3 := Lib.hid (HC0.out.below (HD3.out.below hBw))
  have hs3 := HD3.out.grown.size
  obtain ⟨kb, hkb⟩ : ∃ kb, ka + 1 + kd = kb := ⟨_, rfl⟩
  have hkbl : kb < l.length := by omega
  have hkbi : (ka : Int) + 1 + (kd : Int) = (kb : Int) := by omega
  clear hd hb0 hb1 HO2 HCT2 HD2 HC2 hw2 hw3
  obtain ⟨gc, rfl, hgc⟩ := own_blk HCT3.out (by omega)
  have hkal : ka < l.length := by omega
  obtain ⟨x, hx⟩ : ∃ x, l[ka]'hkal = x := ⟨_, rfl⟩
  obtain ⟨y, hy⟩ : ∃ x, l[kb]'hkbl = x := ⟨_, rfl⟩
  have HXZ := Lib.hid (HSZ.out _ (List.getElem_mem hkal))
  have HYZ := Lib.hid (HSZ.out _ (List.getElem_mem hkbl))
  rw [hx] at HXZ
  rw [hy] at HYZ
  have HAT : Hid (∀ W' : World, W'.ownsRow bc 33 8 (.slice (some ⟨gc, 0, none⟩) l.length qc) l.length (IT.cells l) → W'.cell? ⟨gc, ka * 8, none⟩ = some (.string x.code) ∧ W'.cell? ⟨gc, kb * 8, none⟩ = some (.string y.code)) := Lib.hid (fun W' h => ⟨(it_cell0 h ka hkal hx).1, (it_cell0 h kb hkbl hy).1⟩)
  obtain ⟨_, _, p2, _, _, _, _, _⟩ := it_cell0 HCT3.out ka hkal hx
  have ha0' : (0 : Int) ≤ (ka : Int) := by omega
  have ha1' : (ka : Int) < (l.length : Int) := by omega
  have hb0' : (0 : Int) ≤ (kb : Int) := by omega
  have hb1' : (kb : Int) < (l.length : Int) := by omega
  have hwk : IntKind.i64.wrap ((k : Int) - 1) = ((k - 1 : Nat) : Int) := (IntKind.wrap_i64 _).trans (by omega)
  have hki : (k : Int) - 1 = ((k - 1 : Nat) : Int) := by omega
  clear hx hy hkb
  by_cases hkind : x.kind = 0
  · have hq : (x.kind == 0) = true := beq_iff_eq.2 hkind
    clear hkind
    go_wp2_with fail
    go_roundw
    case rel => exact ⟨k - 1, ls, p, q, by omega, by first | rfl | (congr 1), rfl, Lib.hid (by have := HLK.out; omega), HZ, HO3, HCT3, HD3⟩
    case measure => have := HK0.out; simp [intOf]; omega
  have hq : (x.kind == 0) = false := beq_eq_false_iff_ne.2 hkind
  clear hkind
  have HLSZ := Lib.hid HO3.out
  have HCB : Hid ((Value.slice (some ⟨gc, 0, none⟩) l.length qc).ownBlock = some gc ∧ gc < w3.heap.size) := Lib.hid ⟨rfl, (HCT3.out.lt gc rfl).2⟩
  go_upto_region 8 with fail
  clear p2
  go_cut [9] (fun s wx => ∃ (g : Nat) (z : BL) (pu : Option Addr) (qu : Nat), s = .pointer (some ⟨g, 0, none⟩) ∧ Hid (w3.heap.size ≤ g) ∧ Hid (BLS z) ∧ Hid (0 ≤ z.fr ∧ z.fr ≤ 100) ∧ Hid (wx.heap[g]? = some (.cells #[.string z.par, .string z.prt, .int .i64 z.qty, .int .i64 z.fr, .int .i64 z.un, .slice pu z.whn.length qu] 94)) ∧ Hid (wx.ownsRow w3.heap.size 145 3 (.slice pu z.whn.length qu) z.whn.length (CN.cells z.whn)) ∧ Hid (BX.Own w.heap.size w3.heap.size wx (.slice p ls.length q) ls) ∧ Hid (wx.ownsRow bc 33 8 (.slice (some ⟨gc, 0, none⟩) l.length qc) l.length (IT.cells l)) ∧ Hid (Drawn B b a n c w wx))
  case first =>
   have hb3 : b < w3.heap.size := by omega
   have HDr := Lib.hid (Drawn.drN HD3.out.cur)
   have HCT : Hid (w3.drew.ownsRow bc 33 8 (.slice (some ⟨gc, 0, none⟩) l.length qc) l.length (IT.cells l)) := HCT3
   have HLS : Hid (BX.Own w.heap.size w3.heap.size w3.drew (.slice p ls.length q) ls) := Lib.hid (HO3.out.below (Below.refl _ _).drew)
   have HCx : Hid (CodeAt B w3.drew a n) := HC3
   have HD : Hid (Drawn B b a n c w w3) := HD3
   clear HO3 HCT3 HC3 HD3
   refine wp_region_held_drew (S := (fun W' => W'.cell? ⟨gc, ka * 8, none⟩ = some (.string x.code) ∧ W'.cell? ⟨gc, kb * 8, none⟩ = some (.string y.code))) (by kernel_rfl) (HAT.out _ HCT.out) (fun hHeld => ?_)
   refine wpAnyH_take (i := 0) (oi := { dst := some 43, op := Op.move (Operand.tmp 1), type := 24, pos := _, after := #[], guard := none }) (v := ?vr1x1) rfl (by kernel_rfl) (by kernel_rfl) (by kernel_rfl) (fun _ _ _ h => h) (Or.inl ⟨by rfl, ?yr1x1⟩) (by assumption) ?rr1x1
   case yr1x1 => (intro w' hSw; (try dsimp only at hSw); go_simp; (try with_reducible rfl))
   refine wpAnyH_take (i := 1) (oi := { dst := some 44, op := Op.move (Operand.tmp 7), type := 3, pos := _, after := #[], guard := none }) (v := ?vr1x2) rfl (by kernel_rfl) (by kernel_rfl) (by kernel_rfl) (fun _ _ _ h => h) (Or.inl ⟨by rfl, ?yr1x2⟩) (by assumption) ?rr1x2
   case yr1x2 => (intro w' hSw; (try dsimp only at hSw); go_simp; (try with_reducible rfl))
   refine wpAnyH_take (i := 2) (oi := { dst := some 45, op := Op.indexAddr 24 (Operand.tmp 43) (Operand.tmp 44), type := 0, pos := _, after := #[{ on := 0, ground := Ground.data }, { on := 1, ground := Ground.data }], guard := none }) (v := ?vr1x3) rfl (by kernel_rfl) (by kernel_rfl) (by kernel_rfl) (fun _ _ _ h => h) (Or.inl ⟨by rfl, ?yr1x3⟩) (by assumption) ?rr1x3
   case yr1x3 => (intro w' hSw; (try dsimp only at hSw); go_simp; (try with_reducible rfl))
   (try simp only [Act.put, List.setIfInBounds_toArray, List.set_cons_zero, List.set_cons_succ])
   refine wpAnyH_take (i := 3) (oi := { dst := some 46, op := Op.fieldAddr 33 (Operand.tmp 45) 0, type := 0, pos := _, after := #[{ on := 2, ground := Ground.data }], guard := none }) (v := ?vr1x4) rfl (by kernel_rfl) (by kernel_rfl) (by kernel_rfl) (fun _ _ _ h => h) (Or.inl ⟨by rfl, ?yr1x4⟩) (by assumption) ?rr1x4
   case yr1x4 => (intro w' hSw; (try dsimp only at hSw); go_simp; (try with_reducible rfl))
   refine wpAnyH_take (i := 4) (oi := { dst := some 47, op := Op.load 9 (Operand.tmp 46), type := 9, pos := _, after := #[{ on := 3, ground := Ground.data }], guard := none }) (v := ?vr1x5) rfl (by kernel_rfl) (by kernel_rfl) (by kernel_rfl) (fun _ _ _ h => h) (Or.inl ⟨by rfl, ?yr1x5⟩) (by assumption) ?rr1x5
   case yr1x5 => (intro w' hSw; (try dsimp only at hSw); go_simp; (try with_reducible rfl))
   refine wpAnyH_take (i := 5) (oi := { dst := some 48, op := Op.move (Operand.tmp 1), type := 24, pos := _, after := #[], guard := none }) (v := ?vr1x6) rfl (by kernel_rfl) (by kernel_rfl) (by kernel_rfl) (fun _ _ _ h => h) (Or.inl ⟨by rfl, ?yr1x6⟩) (by assumption) ?rr1x6
   case yr1x6 => (intro w' hSw; (try dsimp only at hSw); go_simp; (try with_reducible rfl))
   (try simp only [Act.put, List.setIfInBounds_toArray, List.set_cons_zero, List.set_cons_succ])
   refine wpAnyH_take (i := 6) (oi := { dst := some 49, op := Op.move (Operand.tmp 8), type := 3, pos := _, after := #[], guard := none }) (v := ?vr1x7) rfl (by kernel_rfl) (by kernel_rfl) (by kernel_rfl) (fun _ _ _ h => h) (Or.inl ⟨by rfl, ?yr1x7⟩) (by assumption) ?rr1x7
   case yr1x7 => (intro w' hSw; (try dsimp only at hSw); go_simp; (try with_reducible rfl))
   refine wpAnyH_take (i := 7) (oi := { dst := some 50, op := Op.indexAddr 24 (Operand.tmp 48) (Operand.tmp 49), type := 0, pos := _, after := #[{ on := 5, ground := Ground.data }, { on := 6, ground := Ground.data }], guard := none }) (v := ?vr1x8) rfl (by kernel_rfl) (by kernel_rfl) (by kernel_rfl) (fun _ _ _ h => h) (Or.inl ⟨by rfl, ?yr1x8⟩) (by assumption) ?rr1x8
   case yr1x8 => (intro w' hSw; (try dsimp only at hSw); go_simp; (try with_reducible rfl))
   refine wpAnyH_take (i := 8) (oi := { dst := some 51, op := Op.fieldAddr 33 (Operand.tmp 50) 0, type := 0, pos := _, after := #[{ on := 7, ground := Ground.data }], guard := none }) (v := ?vr1x9) rfl (by kernel_rfl) (by kernel_rfl) (by kernel_rfl) (fun _ _ _ h => h) (Or.inl ⟨by rfl, ?yr1x9⟩) (by assumption) ?rr1x9
   case yr1x9 => (intro w' hSw; (try dsimp only at hSw); go_simp; (try with_reducible rfl))
   (try simp only [Act.put, List.setIfInBounds_toArray, List.set_cons_zero, List.set_cons_succ])
   refine wpAnyH_take (i := 9) (oi := { dst := some 52, op := Op.load 9 (Operand.tmp 51), type := 9, pos := _, after := #[{ on := 8, ground := Ground.data }], guard := none }) (v := ?vr1x10) rfl (by kernel_rfl) (by kernel_rfl) (by kernel_rfl) (fun _ _ _ h => h) (Or.inl ⟨by rfl, ?yr1x10⟩) (by assumption) ?rr1x10
   case yr1x10 => (intro w' hSw; (try dsimp only at hSw); go_simp; (try with_reducible rfl))
   refine wpAnyH_take (i := 10) (oi := { dst := some 53, op := Op.move (Operand.tmp 0), type := 64, pos := _, after := #[], guard := none }) (v := ?vr1x11) rfl (by kernel_rfl) (by kernel_rfl) (by kernel_rfl) (fun _ _ _ h => h) (Or.inl ⟨by rfl, ?yr1x11⟩) (by assumption) ?rr1x11
   case yr1x11 => (intro w' hSw; (try dsimp only at hSw); go_simp; (try with_reducible rfl))
   refine wpAnyH_take (i := 13) (oi := { dst := some 56, op := Op.move (Operand.tmp 0), type := 64, pos := _, after := #[], guard := none }) (v := ?vr1x12) rfl (by kernel_rfl) (by kernel_rfl) (by kernel_rfl) (fun _ _ _ h => h) (Or.inl ⟨by rfl, ?yr1x12⟩) (by assumption) ?rr1x12
   case yr1x12 => (intro w' hSw; (try dsimp only at hSw); go_simp; (try with_reducible rfl))
   (try simp only [Act.put, List.setIfInBounds_toArray, List.set_cons_zero, List.set_cons_succ])
   refine wpAnyH_ready (rs := [11, 16]) (by kernel_rfl) (by simp) ?_
   refine AllReadyH.cons (o := { dst := some 54, op := Op.call { callee := Callee.value (Operand.func 83), args := #[Operand.tmp 53, Operand.const (Value.int IntKind.i64 5)], argTypes := #[64, 3] }, type := 3, pos := _, after := #[{ on := 10, ground := Ground.data }], guard := none }) rfl (fun K hK => ?_) ?_
   · skip
     go_simp
     refine (l1_below B b a n c 5 _ hn HCx.out HDr.out.cur (by omega) (by omega) (by have := HDr.out.grown.size; omega)).mono ?_; rintro e w' ⟨qz, rfl, hq0, hq1, hd⟩; have HQ := Lib.hid (And.intro hq0 hq1); have hwq : IntKind.i64.wrap (1 + qz) = 1 + qz := (IntKind.wrap_i64 _).trans (by omega); have HCT := Lib.hid (own_hdC HCT.out hd.grown hbc); have HLS := Lib.hid (HLS.out.drawn hd.grown hlt); (try have HBX := Lib.hid (Drawn.blk hd HBX.out (by have := HDr.out.grown.size; omega))); have HDr := Lib.hid (HDr.out.trans hd); have HCx := Lib.hid (HC0.out.below ((HD.out.trans HDr.out).below hBw)); clear hd hq0 hq1
     (try go_wp2_with fail)
     refine hK.out _ _ ?_ (fun hHeld => ?_)
     · (try dsimp only); first | with_reducible assumption | exact HAT.out _ HCT.out
     clear hK K
     (try simp only [Act.put, List.setIfInBounds_toArray, List.set_cons_zero, List.set_cons_succ])
     refine wpAnyH_take (i := 12) (oi := { dst := some 55, op := Op.binOp BinOp.add 3 (Operand.const (Value.int IntKind.i64 1)) (Operand.tmp 54) 3, type := 3, pos := _, after := #[{ on := 11, ground := Ground.data }], guard := none }) (v := ?vr1x13) rfl (by kernel_rfl) (by kernel_rfl) (by kernel_rfl) (fun _ _ _ h => h) (Or.inl ⟨by rfl, ?yr1x13⟩) (by assumption) ?rr1x13
     case yr1x13 => (intro w' hSw; (try dsimp only at hSw); go_simp; (try with_reducible rfl))
     (try simp only [Act.put, List.setIfInBounds_toArray, List.set_cons_zero, List.set_cons_succ])
     refine wpAnyH_ready (rs := [14, 16]) (by kernel_rfl) (by simp) ?_
     refine AllReadyH.cons (o := { dst := some 57, op := Op.call { callee := Callee.value (Operand.func 105), args := #[Operand.tmp 56], argTypes := #[64] }, type := 92, pos := _, after := #[{ on := 13, ground := Ground.data }, { on := 11, ground := Ground.chain }], guard := none }) rfl (fun K hK => ?_) ?_
     · skip
       go_simp
       refine (l9_when B b a n c _ hn HCx.out HDr.out.cur (by have := HDr.out.grown.size; omega)).mono ?_; rintro e w' ⟨gu, qu, lu, rfl, hu1, hu2, hus, hu, hd⟩; have HUS := Lib.hid (And.intro hu2 hus); have HU := Lib.hid (own_lowerN hu HDr.out.grown.size); have HCT := Lib.hid (own_hdC HCT.out hd.grown hbc); have HLS := Lib.hid (HLS.out.drawn hd.grown hlt); (try have HBX := Lib.hid (Drawn.blk hd HBX.out (by have := HDr.out.grown.size; omega))); have HDr := Lib.hid (HDr.out.trans hd); have HCx := Lib.hid (HC0.out.below ((HD.out.trans HDr.out).below hBw)); clear hd hu hus hu1 hu2
       (try go_wp2_with fail)
       refine hK.out _ _ ?_ (fun hHeld => ?_)
       · (try dsimp only); first | with_reducible assumption | exact HAT.out _ HCT.out
       clear hK K
       (try simp only [Act.put, List.setIfInBounds_toArray, List.set_cons_zero, List.set_cons_succ])
       refine wpAnyH_take (i := 15) (oi := { dst := some 58, op := Op.build 94 #[(0, Operand.tmp 47), (1, Operand.tmp 52), (2, Operand.tmp 55), (4, Operand.const (Value.int IntKind.i64 999)), (5, Operand.tmp 57)], type := 94, pos := _, after := #[{ on := 4, ground := Ground.data }, { on := 9, ground := Ground.data }, { on := 12, ground := Ground.data }, { on := 14, ground := Ground.data }], guard := none }) (v := ?vr1x14) rfl (by kernel_rfl) (by kernel_rfl) (by kernel_rfl) (fun _ _ _ h => h) (Or.inl ⟨by rfl, ?yr1x14⟩) (by assumption) ?rr1x14
       case yr1x14 => (intro w' hSw; (try dsimp only at hSw); go_simp; (try with_reducible rfl))
       (try simp only [Act.put, List.setIfInBounds_toArray, List.set_cons_zero, List.set_cons_succ])
       refine wpAnyH_ready (rs := [16]) (by kernel_rfl) (by simp) ?_
       refine AllReadyH.cons (o := { dst := some 9, op := Op.alloc 94, type := 0, pos := _, after := #[], guard := none }) rfl (fun K hK => ?_) AllReadyH.nil
       go_simp
       have hgx := HDr.out.grown.size; obtain ⟨Wz, hWz⟩ := ex_world HCT.out (.cells #[.string { data := #[] }, .string { data := #[] }, .int .i64 0, .int .i64 0, .int .i64 0, .slice none 0 0] 94); have HGX := Lib.hid hgx; have HBX := Lib.hid (alloc_row HCT.out (.cells #[.string { data := #[] }, .string { data := #[] }, .int .i64 0, .int .i64 0, .int .i64 0, .slice none 0 0] 94)); have HCT := Lib.hid (HCT.out.alloc (.cells #[.string { data := #[] }, .string { data := #[] }, .int .i64 0, .int .i64 0, .int .i64 0, .slice none 0 0] 94)); have HLS := Lib.hid (HLS.out.below ((Below.refl _ _).alloc (Nat.le_refl _) (.cells #[.string { data := #[] }, .string { data := #[] }, .int .i64 0, .int .i64 0, .int .i64 0, .slice none 0 0] 94))); (try have HU := Lib.hid (HU.out.alloc (.cells #[.string { data := #[] }, .string { data := #[] }, .int .i64 0, .int .i64 0, .int .i64 0, .slice none 0 0] 94))); have HDr := Lib.hid (HDr.out.al hb3 (.cells #[.string { data := #[] }, .string { data := #[] }, .int .i64 0, .int .i64 0, .int .i64 0, .slice none 0 0] 94)); have HCx := Lib.hid (HC0.out.below ((HD.out.trans HDr.out).below hBw))
       (try go_wp2_with fail)
       refine hK.out _ _ ?_ (fun hHeld => ?_)
       · (try dsimp only); first | with_reducible assumption | exact HAT.out _ HCT.out
       clear hK K
       (try simp only [Act.put, List.setIfInBounds_toArray, List.set_cons_zero, List.set_cons_succ])
       (try simp only [drew_alloc] at hHeld ⊢); rw [hWz] at HCT HLS HDr HCx HBX hHeld ⊢; (try rw [hWz] at HU); (try rw [size_drewW] at HBX); (try rw [size_drewW] at HGX); clear hWz
       refine wpAnyH_ready (rs := [17]) (by kernel_rfl) (by simp) ?_
       refine AllReadyH.cons (o := { dst := none, op := Op.store 94 (Operand.tmp 9) (Operand.tmp 58), type := 0, pos := _, after := #[{ on := 16, ground := Ground.data }, { on := 15, ground := Ground.data }, { on := 14, ground := Ground.chain }, { on := 0, ground := Ground.phase }, { on := 1, ground := Ground.phase }, { on := 2, ground := Ground.phase }, { on := 3, ground := Ground.phase }, { on := 4, ground := Ground.phase }, { on := 5, ground := Ground.phase }, { on := 6, ground := Ground.phase }, { on := 7, ground := Ground.phase }, { on := 8, ground := Ground.phase }, { on := 9, ground := Ground.phase }, { on := 10, ground := Ground.phase }, { on := 11, ground := Ground.phase }, { on := 12, ground := Ground.phase }, { on := 13, ground := Ground.phase }, { on := 14, ground := Ground.phase }, { on := 15, ground := Ground.phase }, { on := 16, ground := Ground.phase }], guard := none }) rfl (fun K hK => ?_) AllReadyH.nil
       go_simp
       have q0 := cell_of_row _ _ 0 _ _ _ HBX.out; have q1 := cell_of_row _ _ 1 _ _ _ HBX.out; have q2 := cell_of_row _ _ 2 _ _ _ HBX.out; have q3 := cell_of_row _ _ 3 _ _ _ HBX.out; have q4 := cell_of_row _ _ 4 _ _ _ HBX.out; have q5 := cell_of_row _ _ 5 _ _ _ HBX.out; have f0 := frozen_of_row _ _ 0 _ _ HBX.out; have f1 := frozen_of_row _ _ 1 _ _ HBX.out; have f2 := frozen_of_row _ _ 2 _ _ HBX.out; have f3 := frozen_of_row _ _ 3 _ _ HBX.out; have f4 := frozen_of_row _ _ 4 _ _ HBX.out; have f5 := frozen_of_row _ _ 5 _ _ HBX.out; have HNU := Lib.hid (own_ne_blk HU.out HBX.out (by decide)); have HNC := Lib.hid (own_ne_blk HCT.out HBX.out (by decide)); have HCT := Lib.hid (own_set6 HCT.out HNC.out (y0 := .string x.code) (y1 := .string y.code) (y2 := .int .i64 (1 + qz)) (y3 := .int .i64 0) (y4 := .int .i64 999) (y5 := .slice (some ⟨gu, 0, none⟩) lu.length qu)); have HU := Lib.hid (own_set6 HU.out HNU.out (y0 := .string x.code) (y1 := .string y.code) (y2 := .int .i64 (1 + qz)) (y3 := .int .i64 0) (y4 := .int .i64 999) (y5 := .slice (some ⟨gu, 0, none⟩) lu.length qu)); have HLS := Lib.hid (HLS.out.set6 (y0 := .string x.code) (y1 := .string y.code) (y2 := .int .i64 (1 + qz)) (y3 := .int .i64 0) (y4 := .int .i64 999) (y5 := .slice (some ⟨gu, 0, none⟩) lu.length qu) HGX.out); have HDr := Lib.hid (HDr.out.set6r (y0 := .string x.code) (y1 := .string y.code) (y2 := .int .i64 (1 + qz)) (y3 := .int .i64 0) (y4 := .int .i64 999) (y5 := .slice (some ⟨gu, 0, none⟩) lu.length qu) hb3 HGX.out); have HBX := Lib.hid (blk_set6r (y0 := .string x.code) (y1 := .string y.code) (y2 := .int .i64 (1 + qz)) (y3 := .int .i64 0) (y4 := .int .i64 999) (y5 := .slice (some ⟨gu, 0, none⟩) lu.length qu) HBX.out); go_simp
       (try go_wp2_with fail)
       refine hK.out _ _ ?_ (fun hHeld => ?_)
       · (try dsimp only); first | with_reducible assumption | exact HAT.out _ HCT.out
       clear hK K
       (try simp only [Act.put, List.setIfInBounds_toArray, List.set_cons_zero, List.set_cons_succ])
       refine wpAnyH_done (by kernel_rfl) ?_ _
       go_wp2_with fail
       go_meet
       exact ⟨_, ⟨x.code, y.code, 1 + qz, 0, 999, lu⟩, _, _, rfl, HGX, Lib.hid ⟨HXZ.out.1, HYZ.out.1, HUS.out.1, HUS.out.2⟩, Lib.hid ⟨Int.le_refl 0, (by show (0 : Int) ≤ 100; decide)⟩, HBX, HU, HLS, HCT, Lib.hid (HD.out.trans HDr.out)⟩
     refine AllReadyH.cons (o := { dst := some 9, op := Op.alloc 94, type := 0, pos := _, after := #[], guard := none }) rfl (fun K hK => ?_) AllReadyH.nil
     go_simp
     have hgx := HDr.out.grown.size; obtain ⟨Wz, hWz⟩ := ex_world HCT.out (.cells #[.string { data := #[] }, .string { data := #[] }, .int .i64 0, .int .i64 0, .int .i64 0, .slice none 0 0] 94); have HGX := Lib.hid hgx; have HBX := Lib.hid (alloc_row HCT.out (.cells #[.string { data := #[] }, .string { data := #[] }, .int .i64 0, .int .i64 0, .int .i64 0, .slice none 0 0] 94)); have HCT := Lib.hid (HCT.out.alloc (.cells #[.string { data := #[] }, .string { data := #[] }, .int .i64 0, .int .i64 0, .int .i64 0, .slice none 0 0] 94)); have HLS := Lib.hid (HLS.out.below ((Below.refl _ _).alloc (Nat.le_refl _) (.cells #[.string { data := #[] }, .string { data := #[] }, .int .i64 0, .int .i64 0, .int .i64 0, .slice none 0 0] 94))); (try have HU := Lib.hid (HU.out.alloc (.cells #[.string { data := #[] }, .string { data := #[] }, .int .i64 0, .int .i64 0, .int .i64 0, .slice none 0 0] 94))); have HDr := Lib.hid (HDr.out.al hb3 (.cells #[.string { data := #[] }, .string { data := #[] }, .int .i64 0, .int .i64 0, .int .i64 0, .slice none 0 0] 94)); have HCx := Lib.hid (HC0.out.below ((HD.out.trans HDr.out).below hBw))
     (try go_wp2_with fail)
     refine hK.out _ _ ?_ (fun hHeld => ?_)
     · (try dsimp only); first | with_reducible assumption | exact HAT.out _ HCT.out
     clear hK K
     (try simp only [Act.put, List.setIfInBounds_toArray, List.set_cons_zero, List.set_cons_succ])
     (try simp only [drew_alloc] at hHeld ⊢); rw [hWz] at HCT HLS HDr HCx HBX hHeld ⊢; (try rw [hWz] at HU); (try rw [size_drewW] at HBX); (try rw [size_drewW] at HGX); clear hWz
     refine wpAnyH_ready (rs := [14]) (by kernel_rfl) (by simp) ?_
     refine AllReadyH.cons (o := { dst := some 57, op := Op.call { callee := Callee.value (Operand.func 105), args := #[Operand.tmp 56], argTypes := #[64] }, type := 92, pos := _, after := #[{ on := 13, ground := Ground.data }, { on := 11, ground := Ground.chain }], guard := none }) rfl (fun K hK => ?_) AllReadyH.nil
     go_simp
     refine (l9_when B b a n c _ hn HCx.out HDr.out.cur (by have := HDr.out.grown.size; omega)).mono ?_; rintro e w' ⟨gu, qu, lu, rfl, hu1, hu2, hus, hu, hd⟩; have HUS := Lib.hid (And.intro hu2 hus); have HU := Lib.hid (own_lowerN hu HDr.out.grown.size); have HCT := Lib.hid (own_hdC HCT.out hd.grown hbc); have HLS := Lib.hid (HLS.out.drawn hd.grown hlt); (try have HBX := Lib.hid (Drawn.blk hd HBX.out (by have := HDr.out.grown.size; omega))); have HDr := Lib.hid (HDr.out.trans hd); have HCx := Lib.hid (HC0.out.below ((HD.out.trans HDr.out).below hBw)); clear hd hu hus hu1 hu2
     (try go_wp2_with fail)
     refine hK.out _ _ ?_ (fun hHeld => ?_)
     · (try dsimp only); first | with_reducible assumption | exact HAT.out _ HCT.out
     clear hK K
     (try simp only [Act.put, List.setIfInBounds_toArray, List.set_cons_zero, List.set_cons_succ])
     refine wpAnyH_take (i := 15) (oi := { dst := some 58, op := Op.build 94 #[(0, Operand.tmp 47), (1, Operand.tmp 52), (2, Operand.tmp 55), (4, Operand.const (Value.int IntKind.i64 999)), (5, Operand.tmp 57)], type := 94, pos := _, after := #[{ on := 4, ground := Ground.data }, { on := 9, ground := Ground.data }, { on := 12, ground := Ground.data }, { on := 14, ground := Ground.data }], guard := none }) (v := ?vr1x15) rfl (by kernel_rfl) (by kernel_rfl) (by kernel_rfl) (fun _ _ _ h => h) (Or.inl ⟨by rfl, ?yr1x15⟩) (by assumption) ?rr1x15
     case yr1x15 => (intro w' hSw; (try dsimp only at hSw); go_simp; (try with_reducible rfl))
     (try simp only [Act.put, List.setIfInBounds_toArray, List.set_cons_zero, List.set_cons_succ])
     refine wpAnyH_ready (rs := [17]) (by kernel_rfl) (by simp) ?_
     refine AllReadyH.cons (o := { dst := none, op := Op.store 94 (Operand.tmp 9) (Operand.tmp 58), type := 0, pos := _, after := #[{ on := 16, ground := Ground.data }, { on := 15, ground := Ground.data }, { on := 14, ground := Ground.chain }, { on := 0, ground := Ground.phase }, { on := 1, ground := Ground.phase }, { on := 2, ground := Ground.phase }, { on := 3, ground := Ground.phase }, { on := 4, ground := Ground.phase }, { on := 5, ground := Ground.phase }, { on := 6, ground := Ground.phase }, { on := 7, ground := Ground.phase }, { on := 8, ground := Ground.phase }, { on := 9, ground := Ground.phase }, { on := 10, ground := Ground.phase }, { on := 11, ground := Ground.phase }, { on := 12, ground := Ground.phase }, { on := 13, ground := Ground.phase }, { on := 14, ground := Ground.phase }, { on := 15, ground := Ground.phase }, { on := 16, ground := Ground.phase }], guard := none }) rfl (fun K hK => ?_) AllReadyH.nil
     go_simp
     have q0 := cell_of_row _ _ 0 _ _ _ HBX.out; have q1 := cell_of_row _ _ 1 _ _ _ HBX.out; have q2 := cell_of_row _ _ 2 _ _ _ HBX.out; have q3 := cell_of_row _ _ 3 _ _ _ HBX.out; have q4 := cell_of_row _ _ 4 _ _ _ HBX.out; have q5 := cell_of_row _ _ 5 _ _ _ HBX.out; have f0 := frozen_of_row _ _ 0 _ _ HBX.out; have f1 := frozen_of_row _ _ 1 _ _ HBX.out; have f2 := frozen_of_row _ _ 2 _ _ HBX.out; have f3 := frozen_of_row _ _ 3 _ _ HBX.out; have f4 := frozen_of_row _ _ 4 _ _ HBX.out; have f5 := frozen_of_row _ _ 5 _ _ HBX.out; have HNU := Lib.hid (own_ne_blk HU.out HBX.out (by decide)); have HNC := Lib.hid (own_ne_blk HCT.out HBX.out (by decide)); have HCT := Lib.hid (own_set6 HCT.out HNC.out (y0 := .string x.code) (y1 := .string y.code) (y2 := .int .i64 (1 + qz)) (y3 := .int .i64 0) (y4 := .int .i64 999) (y5 := .slice (some ⟨gu, 0, none⟩) lu.length qu)); have HU := Lib.hid (own_set6 HU.out HNU.out (y0 := .string x.code) (y1 := .string y.code) (y2 := .int .i64 (1 + qz)) (y3 := .int .i64 0) (y4 := .int .i64 999) (y5 := .slice (some ⟨gu, 0, none⟩) lu.length qu)); have HLS := Lib.hid (HLS.out.set6 (y0 := .string x.code) (y1 := .string y.code) (y2 := .int .i64 (1 + qz)) (y3 := .int .i64 0) (y4 := .int .i64 999) (y5 := .slice (some ⟨gu, 0, none⟩) lu.length qu) HGX.out); have HDr := Lib.hid (HDr.out.set6r (y0 := .string x.code) (y1 := .string y.code) (y2 := .int .i64 (1 + qz)) (y3 := .int .i64 0) (y4 := .int .i64 999) (y5 := .slice (some ⟨gu, 0, none⟩) lu.length qu) hb3 HGX.out); have HBX := Lib.hid (blk_set6r (y0 := .string x.code) (y1 := .string y.code) (y2 := .int .i64 (1 + qz)) (y3 := .int .i64 0) (y4 := .int .i64 999) (y5 := .slice (some ⟨gu, 0, none⟩) lu.length qu) HBX.out); go_simp
     (try go_wp2_with fail)
     refine hK.out _ _ ?_ (fun hHeld => ?_)
     · (try dsimp only); first | with_reducible assumption | exact HAT.out _ HCT.out
     clear hK K
     (try simp only [Act.put, List.setIfInBounds_toArray, List.set_cons_zero, List.set_cons_succ])
     refine wpAnyH_done (by kernel_rfl) ?_ _
     go_wp2_with fail
     go_meet
     exact ⟨_, ⟨x.code, y.code, 1 + qz, 0, 999, lu⟩, _, _, rfl, HGX, Lib.hid ⟨HXZ.out.1, HYZ.out.1, HUS.out.1, HUS.out.2⟩, Lib.hid ⟨Int.le_refl 0, (by show (0 : Int) ≤ 100; decide)⟩, HBX, HU, HLS, HCT, Lib.hid (HD.out.trans HDr.out)⟩
   refine AllReadyH.cons (o := { dst := some 9, op := Op.alloc 94, type := 0, pos := _, after := #[], guard := none }) rfl (fun K hK => ?_) AllReadyH.nil
   go_simp
   have hgx := HDr.out.grown.size; obtain ⟨Wz, hWz⟩ := ex_world HCT.out (.cells #[.string { data := #[] }, .string { data := #[] }, .int .i64 0, .int .i64 0, .int .i64 0, .slice none 0 0] 94); have HGX := Lib.hid hgx; have HBX := Lib.hid (alloc_row HCT.out (.cells #[.string { data := #[] }, .string { data := #[] }, .int .i64 0, .int .i64 0, .int .i64 0, .slice none 0 0] 94)); have HCT := Lib.hid (HCT.out.alloc (.cells #[.string { data := #[] }, .string { data := #[] }, .int .i64 0, .int .i64 0, .int .i64 0, .slice none 0 0] 94)); have HLS := Lib.hid (HLS.out.below ((Below.refl _ _).alloc (Nat.le_refl _) (.cells #[.string { data := #[] }, .string { data := #[] }, .int .i64 0, .int .i64 0, .int .i64 0, .slice none 0 0] 94))); (try have HU := Lib.hid (HU.out.alloc (.cells #[.string { data := #[] }, .string { data := #[] }, .int .i64 0, .int .i64 0, .int .i64 0, .slice none 0 0] 94))); have HDr := Lib.hid (HDr.out.al hb3 (.cells #[.string { data := #[] }, .string { data := #[] }, .int .i64 0, .int .i64 0, .int .i64 0, .slice none 0 0] 94)); have HCx := Lib.hid (HC0.out.below ((HD.out.trans HDr.out).below hBw))
   (try go_wp2_with fail)
   refine hK.out _ _ ?_ (fun hHeld => ?_)
   · (try dsimp only); first | with_reducible assumption | exact HAT.out _ HCT.out
   clear hK K
   (try simp only [Act.put, List.setIfInBounds_toArray, List.set_cons_zero, List.set_cons_succ])
   (try simp only [drew_alloc] at hHeld ⊢); rw [hWz] at HCT HLS HDr HCx HBX hHeld ⊢; (try rw [hWz] at HU); (try rw [size_drewW] at HBX); (try rw [size_drewW] at HGX); clear hWz
   refine wpAnyH_ready (rs := [11]) (by kernel_rfl) (by simp) ?_
   refine AllReadyH.cons (o := { dst := some 54, op := Op.call { callee := Callee.value (Operand.func 83), args := #[Operand.tmp 53, Operand.const (Value.int IntKind.i64 5)], argTypes := #[64, 3] }, type := 3, pos := _, after := #[{ on := 10, ground := Ground.data }], guard := none }) rfl (fun K hK => ?_) AllReadyH.nil
   go_simp
   refine (l1_below B b a n c 5 _ hn HCx.out HDr.out.cur (by omega) (by omega) (by have := HDr.out.grown.size; omega)).mono ?_; rintro e w' ⟨qz, rfl, hq0, hq1, hd⟩; have HQ := Lib.hid (And.intro hq0 hq1); have hwq : IntKind.i64.wrap (1 + qz) = 1 + qz := (IntKind.wrap_i64 _).trans (by omega); have HCT := Lib.hid (own_hdC HCT.out hd.grown hbc); have HLS := Lib.hid (HLS.out.drawn hd.grown hlt); (try have HBX := Lib.hid (Drawn.blk hd HBX.out (by have := HDr.out.grown.size; omega))); have HDr := Lib.hid (HDr.out.trans hd); have HCx := Lib.hid (HC0.out.below ((HD.out.trans HDr.out).below hBw)); clear hd hq0 hq1
   (try go_wp2_with fail)
   refine hK.out _ _ ?_ (fun hHeld => ?_)
   · (try dsimp only); first | with_reducible assumption | exact HAT.out _ HCT.out
   clear hK K
   (try simp only [Act.put, List.setIfInBounds_toArray, List.set_cons_zero, List.set_cons_succ])
   refine wpAnyH_take (i := 12) (oi := { dst := some 55, op := Op.binOp BinOp.add 3 (Operand.const (Value.int IntKind.i64 1)) (Operand.tmp 54) 3, type := 3, pos := _, after := #[{ on := 11, ground := Ground.data }], guard := none }) (v := ?vr1x16) rfl (by kernel_rfl) (by kernel_rfl) (by kernel_rfl) (fun _ _ _ h => h) (Or.inl ⟨by rfl, ?yr1x16⟩) (by assumption) ?rr1x16
   case yr1x16 => (intro w' hSw; (try dsimp only at hSw); go_simp; (try with_reducible rfl))
   (try simp only [Act.put, List.setIfInBounds_toArray, List.set_cons_zero, List.set_cons_succ])
   refine wpAnyH_ready (rs := [14]) (by kernel_rfl) (by simp) ?_
   refine AllReadyH.cons (o := { dst := some 57, op := Op.call { callee := Callee.value (Operand.func 105), args := #[Operand.tmp 56], argTypes := #[64] }, type := 92, pos := _, after := #[{ on := 13, ground := Ground.data }, { on := 11, ground := Ground.chain }], guard := none }) rfl (fun K hK => ?_) AllReadyH.nil
   go_simp
   refine (l9_when B b a n c _ hn HCx.out HDr.out.cur (by have := HDr.out.grown.size; omega)).mono ?_; rintro e w' ⟨gu, qu, lu, rfl, hu1, hu2, hus, hu, hd⟩; have HUS := Lib.hid (And.intro hu2 hus); have HU := Lib.hid (own_lowerN hu HDr.out.grown.size); have HCT := Lib.hid (own_hdC HCT.out hd.grown hbc); have HLS := Lib.hid (HLS.out.drawn hd.grown hlt); (try have HBX := Lib.hid (Drawn.blk hd HBX.out (by have := HDr.out.grown.size; omega))); have HDr := Lib.hid (HDr.out.trans hd); have HCx := Lib.hid (HC0.out.below ((HD.out.trans HDr.out).below hBw)); clear hd hu hus hu1 hu2
   (try go_wp2_with fail)
   refine hK.out _ _ ?_ (fun hHeld => ?_)
   · (try dsimp only); first | with_reducible assumption | exact HAT.out _ HCT.out
   clear hK K
   (try simp only [Act.put, List.setIfInBounds_toArray, List.set_cons_zero, List.set_cons_succ])
   refine wpAnyH_take (i := 15) (oi := { dst := some 58, op := Op.build 94 #[(0, Operand.tmp 47), (1, Operand.tmp 52), (2, Operand.tmp 55), (4, Operand.const (Value.int IntKind.i64 999)), (5, Operand.tmp 57)], type := 94, pos := _, after := #[{ on := 4, ground := Ground.data }, { on := 9, ground := Ground.data }, { on := 12, ground := Ground.data }, { on := 14, ground := Ground.data }], guard := none }) (v := ?vr1x17) rfl (by kernel_rfl) (by kernel_rfl) (by kernel_rfl) (fun _ _ _ h => h) (Or.inl ⟨by rfl, ?yr1x17⟩) (by assumption) ?rr1x17
   case yr1x17 => (intro w' hSw; (try dsimp only at hSw); go_simp; (try with_reducible rfl))
   (try simp only [Act.put, List.setIfInBounds_toArray, List.set_cons_zero, List.set_cons_succ])
   refine wpAnyH_ready (rs := [17]) (by kernel_rfl) (by simp) ?_
   refine AllReadyH.cons (o := { dst := none, op := Op.store 94 (Operand.tmp 9) (Operand.tmp 58), type := 0, pos := _, after := #[{ on := 16, ground := Ground.data }, { on := 15, ground := Ground.data }, { on := 14, ground := Ground.chain }, { on := 0, ground := Ground.phase }, { on := 1, ground := Ground.phase }, { on := 2, ground := Ground.phase }, { on := 3, ground := Ground.phase }, { on := 4, ground := Ground.phase }, { on := 5, ground := Ground.phase }, { on := 6, ground := Ground.phase }, { on := 7, ground := Ground.phase }, { on := 8, ground := Ground.phase }, { on := 9, ground := Ground.phase }, { on := 10, ground := Ground.phase }, { on := 11, ground := Ground.phase }, { on := 12, ground := Ground.phase }, { on := 13, ground := Ground.phase }, { on := 14, ground := Ground.phase }, { on := 15, ground := Ground.phase }, { on := 16, ground := Ground.phase }], guard := none }) rfl (fun K hK => ?_) AllReadyH.nil
   go_simp
   have q0 := cell_of_row _ _ 0 _ _ _ HBX.out; have q1 := cell_of_row _ _ 1 _ _ _ HBX.out; have q2 := cell_of_row _ _ 2 _ _ _ HBX.out; have q3 := cell_of_row _ _ 3 _ _ _ HBX.out; have q4 := cell_of_row _ _ 4 _ _ _ HBX.out; have q5 := cell_of_row _ _ 5 _ _ _ HBX.out; have f0 := frozen_of_row _ _ 0 _ _ HBX.out; have f1 := frozen_of_row _ _ 1 _ _ HBX.out; have f2 := frozen_of_row _ _ 2 _ _ HBX.out; have f3 := frozen_of_row _ _ 3 _ _ HBX.out; have f4 := frozen_of_row _ _ 4 _ _ HBX.out; have f5 := frozen_of_row _ _ 5 _ _ HBX.out; have HNU := Lib.hid (own_ne_blk HU.out HBX.out (by decide)); have HNC := Lib.hid (own_ne_blk HCT.out HBX.out (by decide)); have HCT := Lib.hid (own_set6 HCT.out HNC.out (y0 := .string x.code) (y1 := .string y.code) (y2 := .int .i64 (1 + qz)) (y3 := .int .i64 0) (y4 := .int .i64 999) (y5 := .slice (some ⟨gu, 0, none⟩) lu.length qu)); have HU := Lib.hid (own_set6 HU.out HNU.out (y0 := .string x.code) (y1 := .string y.code) (y2 := .int .i64 (1 + qz)) (y3 := .int .i64 0) (y4 := .int .i64 999) (y5 := .slice (some ⟨gu, 0, none⟩) lu.length qu)); have HLS := Lib.hid (HLS.out.set6 (y0 := .string x.code) (y1 := .string y.code) (y2 := .int .i64 (1 + qz)) (y3 := .int .i64 0) (y4 := .int .i64 999) (y5 := .slice (some ⟨gu, 0, none⟩) lu.length qu) HGX.out); have HDr := Lib.hid (HDr.out.set6r (y0 := .string x.code) (y1 := .string y.code) (y2 := .int .i64 (1 + qz)) (y3 := .int .i64 0) (y4 := .int .i64 999) (y5 := .slice (some ⟨gu, 0, none⟩) lu.length qu) hb3 HGX.out); have HBX := Lib.hid (blk_set6r (y0 := .string x.code) (y1 := .string y.code) (y2 := .int .i64 (1 + qz)) (y3 := .int .i64 0) (y4 := .int .i64 999) (y5 := .slice (some ⟨gu, 0, none⟩) lu.length qu) HBX.out); go_simp
   (try go_wp2_with fail)
   refine hK.out _ _ ?_ (fun hHeld => ?_)
   · (try dsimp only); first | with_reducible assumption | exact HAT.out _ HCT.out
   clear hK K
   (try simp only [Act.put, List.setIfInBounds_toArray, List.set_cons_zero, List.set_cons_succ])
   refine wpAnyH_done (by kernel_rfl) ?_ _
   go_wp2_with fail
   go_meet
   exact ⟨_, ⟨x.code, y.code, 1 + qz, 0, 999, lu⟩, _, _, rfl, HGX, Lib.hid ⟨HXZ.out.1, HYZ.out.1, HUS.out.1, HUS.out.2⟩, Lib.hid ⟨Int.le_refl 0, (by show (0 : Int) ≤ 100; decide)⟩, HBX, HU, HLS, HCT, Lib.hid (HD.out.trans HDr.out)⟩
  case rest =>
   clear HO3 HCT3 HD3 HC3
   obtain ⟨g, z, pu, qu, rfl, HG, HZZ, HFR, HBX, HU, HLS, HCT, HD⟩ := hcut
   have hg3 := HG.out
   have hbg : g ≠ b := by omega
   have hwg : w.heap.size ≤ g := by omega
   have hs4 := HD.out.grown.size
   have HC := Lib.hid (HC0.out.below (HD.out.below hBw))
   go_wp2_with fail
   refine (l1_once B b a n c 3 _ hn HC.out HD.out.cur (by omega) (by omega) (by omega)).mono ?_
   rintro e w5 ⟨y5, rfl, hd⟩
   have HBX := Lib.hid (Drawn.blk hd HBX.out hbg)
   have HU := Lib.hid (own_hdC HU.out hd.grown (by omega))
   have HLS := Lib.hid (HLS.out.drawn hd.grown hlt)
   have HCT := Lib.hid (own_hdC HCT.out hd.grown hbc)
   have HD := Lib.hid (HD.out.trans hd)
   have HC := Lib.hid (HC0.out.below (HD.out.below hBw))
   have hs5 := HD.out.grown.size
   clear hd
   go_upto_if 60 with fail
   go_cut [9] (fun s wx => ∃ (z2 : BL), s = .pointer (some ⟨g, 0, none⟩) ∧ Hid (BLS z2) ∧ Hid (wx.heap[g]? = some (.cells #[.string z2.par, .string z2.prt, .int .i64 z2.qty, .int .i64 z2.fr, .int .i64 z2.un, .slice pu z2.whn.length qu] 94)) ∧ Hid (wx.ownsRow w3.heap.size 145 3 (.slice pu z2.whn.length qu) z2.whn.length (CN.cells z2.whn)) ∧ Hid (BX.Own w.heap.size w3.heap.size wx (.slice p ls.length q) ls) ∧ Hid (wx.ownsRow bc 33 8 (.slice (some ⟨gc, 0, none⟩) l.length qc) l.length (IT.cells l)) ∧ Hid (Drawn B b a n c w wx))
   case first =>
    cases y5 with
    | false =>
     go_wp2_with fail
     go_meet
     exact ⟨z, rfl, HZZ, HBX, HU, HLS, HCT, HD⟩
    | true =>
     go_wp2_with fail
     refine (l1_below B b a n c 20 _ hn HC.out HD.out.cur (by omega) (by omega) (by omega)).mono ?_
     rintro e w6 ⟨f, rfl, hf0, hf1, hd⟩
     have HBX := Lib.hid (Drawn.blk hd HBX.out hbg)
     have HU := Lib.hid (own_hdC HU.out hd.grown (by omega))
     have HLS := Lib.hid (HLS.out.drawn hd.grown hlt)
     have HCT := Lib.hid (own_hdC HCT.out hd.grown hbc)
     have HD := Lib.hid (HD.out.trans hd)
     have HC := Lib.hid (HC0.out.below (HD.out.below hBw))
     have hs6 := HD.out.grown.size
     clear hd
     have q3 := cell_of_row _ _ 3 _ _ _ HBX.out
     have f3 := frozen_of_row _ _ 3 _ _ HBX.out
     have HBX7 := Lib.hid (heap_setCell_same _ _ 3 _ _ (.int .i64 f) HBX.out)
     have HU7 := Lib.hid (ownsRow_setCell_other (a := ⟨g, 3, none⟩) HU.out (own_ne_blk HU.out HBX.out (by decide)) (.int .i64 f))
     have HCT7 := Lib.hid (ownsRow_setCell_other (a := ⟨g, 3, none⟩) HCT.out (own_ne_blk HCT.out HBX.out (by decide)) (.int .i64 f))
     have HLS7 := Lib.hid (HLS.out.setq (i := 3) (y := .int .i64 f) hg3)
     have HD7 := Lib.hid (HD.out.set1 (i := 3) (x := .int .i64 f) hlt hwg)
     clear HBX HU HCT HLS HD
     have HBX := HBX7
     have HU := HU7
     have HCT := HCT7
     have HLS := HLS7
     have HD := HD7
     clear HBX7 HU7 HCT7 HLS7 HD7
     go_upto_region 11 with fail
     clear q3 f3
     generalize w6.setCell ⟨g, 3, none⟩ (.int .i64 f) = w7 at *
     have hs7 := HD.out.grown.size
     have HSA : Hid (∀ W' : World, W'.heap[g]? = some (.cells #[.string z.par, .string z.prt, .int .i64 z.qty, .int .i64 f, .int .i64 z.un, .slice pu z.whn.length qu] 94) → W'.cell? ⟨g, 3, none⟩ = some (.int .i64 f)) := Lib.hid (fun W' h => cell_of_row _ _ 3 _ _ _ h)
     have HDr := Lib.hid (Drawn.drN HD.out.cur)
     have HDp := HD
     have HCx0 : Hid (CodeAt B w7 a n) := Lib.hid (HC0.out.below (HD.out.below hBw))
     have HCx : Hid (CodeAt B w7.drew a n) := HCx0
     have HBX : Hid (w7.drew.heap[g]? = some (.cells #[.string z.par, .string z.prt, .int .i64 z.qty, .int .i64 f, .int .i64 z.un, .slice pu z.whn.length qu] 94)) := HBX
     have HU : Hid (w7.drew.ownsRow w3.heap.size 145 3 (.slice pu z.whn.length qu) z.whn.length (CN.cells z.whn)) := HU
     have HCT : Hid (w7.drew.ownsRow bc 33 8 (.slice (some ⟨gc, 0, none⟩) l.length qc) l.length (IT.cells l)) := HCT
     have HLS : Hid (BX.Own w.heap.size w3.heap.size w7.drew (.slice p ls.length q) ls) := Lib.hid (HLS.out.below (Below.refl _ _).drew)
     refine wp_region_held_drew (S := (fun W' => W'.cell? ⟨g, 3, none⟩ = some (.int .i64 f))) (by kernel_rfl) (HSA.out _ HBX.out) (fun hHeld => ?_)
     refine wpAnyH_take (i := 0) (oi := { dst := some 64, op := Op.fieldAddr 94 (Operand.tmp 9) 3, type := 0, pos := _, after := #[], guard := none }) (v := ?vr2x1) rfl (by kernel_rfl) (by kernel_rfl) (by kernel_rfl) (fun _ _ _ h => h) (Or.inl ⟨by rfl, ?yr2x1⟩) (by assumption) ?rr2x1
     case yr2x1 => (intro w' hSw; (try dsimp only at hSw); go_simp; (try with_reducible rfl))
     refine wpAnyH_take (i := 1) (oi := { dst := some 65, op := Op.load 3 (Operand.tmp 64), type := 3, pos := _, after := #[{ on := 0, ground := Ground.data }], guard := none }) (v := ?vr2x2) rfl (by kernel_rfl) (by kernel_rfl) (by kernel_rfl) (fun _ _ _ h => h) (Or.inl ⟨by rfl, ?yr2x2⟩) (by assumption) ?rr2x2
     case yr2x2 => (intro w' hSw; (try dsimp only at hSw); go_simp; (try with_reducible rfl))
     refine wpAnyH_take (i := 2) (oi := { dst := some 66, op := Op.move (Operand.tmp 0), type := 64, pos := _, after := #[], guard := none }) (v := ?vr2x3) rfl (by kernel_rfl) (by kernel_rfl) (by kernel_rfl) (fun _ _ _ h => h) (Or.inl ⟨by rfl, ?yr2x3⟩) (by assumption) ?rr2x3
     case yr2x3 => (intro w' hSw; (try dsimp only at hSw); go_simp; (try with_reducible rfl))
     (try simp only [Act.put, List.setIfInBounds_toArray, List.set_cons_zero, List.set_cons_succ])
     refine wpAnyH_ready (rs := [3]) (by kernel_rfl) (by simp) ?_
     refine AllReadyH.cons (o := { dst := some 67, op := Op.call { callee := Callee.value (Operand.func 83), args := #[Operand.tmp 66, Operand.const (Value.int IntKind.i64 20)], argTypes := #[64, 3] }, type := 3, pos := _, after := #[{ on := 2, ground := Ground.data }], guard := none }) rfl (fun K hK => ?_) AllReadyH.nil
     go_simp
     refine (l1_below B b a n c 20 _ hn HCx.out HDr.out.cur (by omega) (by omega) (by have := HDr.out.grown.size; omega)).mono ?_; rintro e w' ⟨u, rfl, hu0, hu1, hd⟩; have hwu : IntKind.i64.wrap (f + u) = f + u := (IntKind.wrap_i64 _).trans (by omega); have HCT := Lib.hid (own_hdC HCT.out hd.grown hbc); have HLS := Lib.hid (HLS.out.drawn hd.grown hlt); have HU := Lib.hid (own_hdC HU.out hd.grown (by omega)); have HBX := Lib.hid (Drawn.blk hd HBX.out hbg); have HDr := Lib.hid (HDr.out.trans hd); clear hd
     (try go_wp2_with fail)
     refine hK.out _ _ ?_ (fun hHeld => ?_)
     · (try dsimp only); first | with_reducible assumption | exact HSA.out _ HBX.out | exact HKE.out
     clear hK K
     (try simp only [Act.put, List.setIfInBounds_toArray, List.set_cons_zero, List.set_cons_succ])
     refine wpAnyH_take (i := 4) (oi := { dst := some 68, op := Op.binOp BinOp.add 3 (Operand.tmp 65) (Operand.tmp 67) 3, type := 3, pos := _, after := #[{ on := 1, ground := Ground.data }, { on := 3, ground := Ground.data }], guard := none }) (v := ?vr2x4) rfl (by kernel_rfl) (by kernel_rfl) (by kernel_rfl) (fun _ _ _ h => h) (Or.inl ⟨by rfl, ?yr2x4⟩) (by assumption) ?rr2x4
     case yr2x4 => (intro w' hSw; (try dsimp only at hSw); go_simp; (try with_reducible rfl))
     refine wpAnyH_take (i := 5) (oi := { dst := some 69, op := Op.fieldAddr 94 (Operand.tmp 9) 4, type := 0, pos := _, after := #[{ on := 0, ground := Ground.phase }, { on := 1, ground := Ground.phase }, { on := 2, ground := Ground.phase }, { on := 3, ground := Ground.phase }, { on := 4, ground := Ground.phase }], guard := none }) (v := ?vr2x5) rfl (by kernel_rfl) (by kernel_rfl) (by kernel_rfl) (fun _ _ _ h => h) (Or.inl ⟨by rfl, ?yr2x5⟩) (by assumption) ?rr2x5
     case yr2x5 => (intro w' hSw; (try dsimp only at hSw); go_simp; (try with_reducible rfl))
     (try simp only [Act.put, List.setIfInBounds_toArray, List.set_cons_zero, List.set_cons_succ])
     refine wpAnyH_ready (rs := [6]) (by kernel_rfl) (by simp) ?_
     refine AllReadyH.cons (o := { dst := none, op := Op.store 3 (Operand.tmp 69) (Operand.tmp 68), type := 0, pos := _, after := #[{ on := 5, ground := Ground.data }, { on := 4, ground := Ground.data }, { on := 3, ground := Ground.chain }, { on := 0, ground := Ground.phase }, { on := 1, ground := Ground.phase }, { on := 2, ground := Ground.phase }, { on := 3, ground := Ground.phase }, { on := 4, ground := Ground.phase }], guard := none }) rfl (fun K hK => ?_) AllReadyH.nil
     go_simp
     have q4 := cell_of_row _ _ 4 _ _ _ HBX.out; have f4 := frozen_of_row _ _ 4 _ _ HBX.out; have HNU := Lib.hid (own_ne_blk HU.out HBX.out (by decide)); have HNC := Lib.hid (own_ne_blk HCT.out HBX.out (by decide)); have HCT := Lib.hid (ownsRow_setCell_other (a := ⟨g, 4, none⟩) HCT.out HNC.out (.int .i64 (f + u))); have HU := Lib.hid (ownsRow_setCell_other (a := ⟨g, 4, none⟩) HU.out HNU.out (.int .i64 (f + u))); have HLS := Lib.hid (HLS.out.setq (i := 4) (y := .int .i64 (f + u)) hg3); have HDt := Lib.hid ((HDp.out.trans HDr.out).set1 (i := 4) (x := .int .i64 (f + u)) hlt hwg); have HBX2 := Lib.hid (heap_setCell_same _ _ 4 _ _ (.int .i64 (f + u)) HBX.out); have HKE := Lib.hid (cell_of_row _ _ 3 _ _ _ HBX2.out); go_simp
     (try go_wp2_with fail)
     refine hK.out _ _ ?_ (fun hHeld => ?_)
     · (try dsimp only); first | with_reducible assumption | exact HSA.out _ HBX.out | exact HKE.out
     clear hK K
     (try simp only [Act.put, List.setIfInBounds_toArray, List.set_cons_zero, List.set_cons_succ])
     refine wpAnyH_done (by kernel_rfl) ?_ _
     go_wp2_with fail
     go_meet
     exact ⟨⟨z.par, z.prt, z.qty, f, f + u, z.whn⟩, rfl, HZZ, HBX2, HU, HLS, HCT, HDt⟩
   case rest =>
    clear HBX HU HLS HCT HD HC hs4 hs5
    obtain ⟨z2, rfl, HZ2, HBX, HU, HLS, HCT, HD⟩ := hcut
    have hs4 := HD.out.grown.size
    have q0 := cell_of_row _ _ 0 _ _ _ HBX.out
    have q1 := cell_of_row _ _ 1 _ _ _ HBX.out
    have q2 := cell_of_row _ _ 2 _ _ _ HBX.out
    have q3 := cell_of_row _ _ 3 _ _ _ HBX.out
    have q4 := cell_of_row _ _ 4 _ _ _ HBX.out
    have q5 := cell_of_row _ _ 5 _ _ _ HBX.out
    obtain ⟨rs, hrec, hown⟩ := HLS.out
    have hrl := hrec.1
    have HRW : Hid (wc.ownsRow w.heap.size 94 6 (.slice p ls.length q) ls.length (flatN rs)) := Lib.hid (by rw [← hrl]; rw [← hrl] at hown; exact hown.row)
    have HREC := Lib.hid hrec
    have HOWN := Lib.hid hown
    have HLL := Lib.hid hrl
    have hlk := HLK.out
    clear hrec hown hrl
    go_wp2_with (at_builtin; refine wpList_append_own _ rfl _ _ 25 rfl w.heap.size 94 i0 (.agg #[.string ByteArray.empty, .string ByteArray.empty, .int .i64 0, .int .i64 0, .int .i64 0, .slice none 0 0]) 6 80 Tryz.underlying25 hi0 hz0 hz1 hz2 rfl (by decide) _ ls.length (flatN rs) rfl (HRW.out.alloc _) ⟨wc.heap.size, 0, none⟩ 1 1 [.string z2.par, .string z2.prt, .int .i64 z2.qty, .int .i64 z2.fr, .int .i64 z2.un, .slice pu z2.whn.length qu] rfl rfl (new_6 _ _ _ _ _ _ _ _) (by intro u hu; simp at hu; rcases hu with rfl | rfl | rfl | rfl | rfl | rfl <;> rfl) (by unfold maxLen; omega) (by omega) (by simp; omega) ?_)
    intro v4 w9 ho hg9 _
    obtain ⟨p2, q2, rfl⟩ := own_sliceN ho
    have HO5 : Hid (BX.Own w.heap.size w9.heap.size w9 (.slice p2 (ls.length + 1) q2) (ls ++ [z2])) := Lib.hid (BX.ownPush HREC.out (HOWN.out.below ((Below.refl _ _).alloc (Nat.le_refl _) _)) (HU.out.alloc _) (Nat.le_refl _) (by omega) (by rw [HLL.out]; exact ho) hg9)
    have HCT5 := Lib.hid ((HCT.out.alloc _).kept hg9 (Or.inr (fun e2 => apart_type (HRW.out.alloc (.cells #[.string z2.par, .string z2.prt, .int .i64 z2.qty, .int .i64 z2.fr, .int .i64 z2.un, .slice pu z2.whn.length qu] 94)) (HCT.out.alloc (.cells #[.string z2.par, .string z2.prt, .int .i64 z2.qty, .int .i64 z2.fr, .int .i64 z2.un, .slice pu z2.whn.length qu] 94)) (by decide) gc e2.symm rfl)))
    have HD5 := Lib.hid ((HD.out.al hlt _).row hlt hg9 (fun g hg2 => (HRW.out.lt g hg2).1))
    clear ho hg9
    go_wp2_with fail
    go_roundw
    case rel => exact ⟨k - 1, ls ++ [z2], p2, q2, by omega, by first | rfl | (congr 1), by simp, Lib.hid (by have := HLK.out; have := HK0.out; simp; omega), Lib.hid (bls_push HZ.out HZ2.out), by simpa using HO5, HCT5, HD5⟩
    case measure => have := HK0.out; simp [intOf]; omega
end Go.Proofs.YtmnncinpepeocaaGreat
