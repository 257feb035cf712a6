/-
 Slices of BillLine that are the call's own, with all that they lead into: made, measured, marked, found again.
-/
import Derived.Test.YtmnncinpepeocaaGreatRows
import Derived.Test.YtmnncinpepeocaaGreatOwnN
import Derived.Test.YtmnncinpepeocaaGreatBLN
import Derived.Test.YtmnncinpepeocaaGreatBuRec
import Derived.Test.YtmnncinpepeocaaGreatBuA
import Derived.WalkKit
import Derived.WalkSpells
import Derived.WalkSmall
import Derived.BigQuiet
import Derived.OneCell
import Derived.Deep.QuietTactic
import Derived.Deep.DeepCutAuto
import Derived.Deep.RegionHeld3
import Derived.Laws.OwnMore
import Derived.Lib.Hide
namespace Go.Proofs.YtmnncinpepeocaaGreat
open Go.RowKit

/-- The record of x whose row is u. -/
def BL.rec1 (x : BL) (u : Value) : NR := ⟨[.string x.par, .string x.prt, .int .i64 x.qty, .int .i64 x.fr, .int .i64 x.un, u], x.whn.length, CN.cells x.whn⟩
theorem BL.rec1_at (x : BL) (u : Value) : (BL.rec1 x u).cs[5]? = some u := rfl
def BX.RecN (xs : List BL) (rs : List NR) : Prop := rs.length = xs.length ∧ ∀ j (hj : j < xs.length) (hr : j < rs.length), ∃ u, rs[j]'hr = BL.rec1 (xs[j]'hj) u
/-- The slice xs, the call's own, between base and top. -/
def BX.Own (base top : Nat) (w : World) (v : Value) (xs : List BL) : Prop := ∃ rs, BX.RecN xs rs ∧ OwnN 6 5 3 94 145 (base) (top) w v rs
theorem BX.Own.below {base top : Nat} {w w' : World} {v : Value} {xs : List BL} (h : BX.Own base top w v xs) (hb : Below w.heap.size w w') : BX.Own base top w' v xs := by
 obtain ⟨rs, a, b⟩ := h; exact ⟨rs, a, b.below hb⟩
theorem BX.Own.far {base top lo hi : Nat} {w w' : World} {v : Value} {xs : List BL} (h : BX.Own base top w v xs) (hc : ChgIn lo hi w w') (ho : top ≤ lo ∨ hi ≤ base) : BX.Own base top w' v xs := by
 obtain ⟨rs, a, b⟩ := h; exact ⟨rs, a, b.far hc ho⟩
theorem BX.Own.lower {base base' top : Nat} {w : World} {v : Value} {xs : List BL} (h : BX.Own base top w v xs) (hb : base' ≤ base) : BX.Own base' top w v xs := by
 obtain ⟨rs, a, b⟩ := h; exact ⟨rs, a, b.lower hb⟩
theorem BX.Own.sl {base top : Nat} {w : World} {v : Value} {xs : List BL} (h : BX.Own base top w v xs) : BX base top w v xs := by
 obtain ⟨rs, ⟨hl, hr⟩, ho⟩ := h
 by_cases h0 : 0 < rs.length
 · obtain ⟨g, cap, rfl, hg, hb, ht⟩ := ho.at0 h0
   have hcap : rs.length ≤ cap := by
    rcases ho.row.2 with ⟨h1, _⟩ | ⟨g', cap', cur', h1, _, _, h2, _⟩
    · cases h1
    · injection h1 with _ _ h3; omega
   refine ⟨some ⟨g, 0, none⟩, cap, by rw [hl], by omega, fun _ => ⟨g, 0, rfl, ⟨hb, ht⟩, hg, fun j hj => ?_⟩⟩
   obtain ⟨u, hu⟩ := hr j hj (by omega)
   obtain ⟨u2, hu2, hrow, hsp⟩ := ho.sub j (by omega)
   have hcell : ∀ i, i < 6 → w.cell? ⟨g, j * 6 + i, none⟩ = (BL.rec1 (xs[j]'hj) u).cs[i]? := fun i hi => by rw [← hu]; exact ho.cell j (by omega) i hi
   rw [hu] at hu2 hrow
   have hu3 : u2 = u := Option.some.inj (hu2.symm.trans (BL.rec1_at _ u))
   subst hu3
   refine ⟨(BL.rec1 (xs[j]'hj) u2).cs, rfl, ⟨u2, rfl, ?_⟩, fun i hi => ?_⟩
   · have h1 := (CX.of_row hrow).mono CnN.kept (Nat.zero_le _) (Nat.le_refl _)
     obtain ⟨a, c, rfl, hc, h1⟩ := h1
     refine ⟨a, c, rfl, hc, fun h2 => ?_⟩
     obtain ⟨b, o, rfl, _, hb2, h3⟩ := h1 h2
     exact ⟨b, o, rfl, hsp b rfl, hb2, fun j hj => by obtain ⟨cs, h4, h5, h6⟩ := h3 j hj; exact ⟨cs, h4, h5, h6⟩⟩
   · rw [Nat.zero_add]; exact hcell i hi
 · obtain ⟨a, c, rfl⟩ := ho.slice
   have h1 : rs.length = 0 := by omega
   rw [h1]
   have : xs = [] := List.eq_nil_of_length_eq_zero (by omega)
   subst this
   exact SlN.nil _ _ _ _ _ _ _
theorem BX.ownPush {base top low : Nat} {w w' : World} {v v' u : Value} {xs : List BL} {x : BL} {rs : List NR} (hrec : BX.RecN xs rs) (ho : OwnN 6 5 3 94 145 (base) (top) w v rs) (hx : w.ownsRow low 145 3 u x.whn.length (CN.cells x.whn)) (hlow : top ≤ low) (hb : base ≤ low)
 (hr : w'.ownsRow base 94 6 v' (rs.length + 1) (flatN rs ++ (BL.rec1 x u).cs)) (hg : w.grownBy w' v.ownBlock) : BX.Own base w'.heap.size w' v' (xs ++ [x]) := by
 have hx2 : w.ownsRow base 145 3 u x.whn.length (CN.cells x.whn) := own_lowerN hx hb
 refine ⟨rs ++ [BL.rec1 x u], ⟨by simp [hrec.1], fun j hj hr2 => ?_⟩, ho.push (by decide) (BL.rec1 x u) u rfl rfl hx2 (fun q hq y hy => ?_) hr hg⟩
 · by_cases hlt : j < xs.length
   · obtain ⟨u2, h2⟩ := hrec.2 j hlt (by rw [hrec.1]; exact hlt)
     refine ⟨u2, ?_⟩
     rw [List.getElem_append_left (by rw [hrec.1]; exact hlt), List.getElem_append_left hlt]
     exact h2
   · have hj2 : j = xs.length := by simp at hj; omega
     subst hj2
     refine ⟨u, ?_⟩
     rw [List.getElem_append_right (by rw [hrec.1]; exact Nat.le_refl _), List.getElem_append_right (Nat.le_refl _)]
     simp
 · obtain ⟨y2, h2, _, h3⟩ := ho.sub q hq
   have h4 : y2 = y := Option.some.inj (h2.symm.trans hy)
   subst h4
   exact h3.apart (fun k hk => hx.lt k hk) (Or.inl hlow)

set_option maxRecDepth 100000 in
set_option maxHeartbeats 2000000 in
theorem BL.to_oneO (x : BL) (u5 : Value) (lo hi : Nat) (w : World) (hhi : hi ≤ w.heap.size) (h5 : CX lo hi w u5 x.whn) (hm : BL.Sm x) :
 Calls Tryz.prog 69 #[.agg #[.string x.par, .string x.prt, .int .i64 x.qty, .int .i64 x.fr, .int .i64 x.un, u5]] w fun e w' => ∃ v5, e = .returned (.agg #[.string x.par, .string x.prt, .int .i64 x.qty, .int .i64 x.fr, .int .i64 x.un, v5]) ∧ w'.ownsRow w.heap.size 145 3 v5 x.whn.length (CN.cells x.whn) ∧ Below w.heap.size w w' := by
 have HM := Lib.hid hm
 have HH := Lib.hid hhi
 clear hm hhi
 obtain ⟨HB, hz, HA, HR, HO⟩ := alloc3 w (.cells #[.string x.par, .string x.prt, .int .i64 x.qty, .int .i64 x.fr, .int .i64 x.un, u5] 102) (.cells #[.string { data := #[] }, .string { data := #[] }, .int .i64 0, .int .i64 0, .int .i64 0, .slice none 0 0] 94) (.cells #[.string x.par, .string x.prt, .int .i64 x.qty, .int .i64 x.fr, .int .i64 x.un, .slice none 0 0] 94)
 have HZ := Lib.hid hz
 clear hz
 go_enter Tryz.func69, Tryz.ntmps69
 have r5_0 := Lib.hid (h5.below CnN.kept HB)
 clear h5
 go_wp2_with fail
 generalize (((w.alloc (.cells #[.string x.par, .string x.prt, .int .i64 x.qty, .int .i64 x.fr, .int .i64 x.un, u5] 102)).alloc (.cells #[.string { data := #[] }, .string { data := #[] }, .int .i64 0, .int .i64 0, .int .i64 0, .slice none 0 0] 94)).alloc (.cells #[.string x.par, .string x.prt, .int .i64 x.qty, .int .i64 x.fr, .int .i64 x.un, .slice none 0 0] 94)) = wA0 at *
 refine (CN.to_all _ x.whn _ (CX.is r5_0.out) HM.out).mono ?_
 rintro e w1 ⟨vv5, rfl, ho, hb⟩
 have V5 := Lib.hid ho
 have L5 : Hid (w.heap.size + 1 + 1 < wA0.heap.size) := Lib.hid (lt_of_heap HO)
 obtain ⟨a5, p5, hv5⟩ := own_sliceN ho
 subst hv5
 clear ho
 have HA := blk_below HA hb
 have HR := blk_below HR hb
 have HO := blk_below HO hb
 have HB := HB.trans (hb.mono HB.size)
 have hsz0 := hb.size
 clear hb
 have d0 := cell_of_row _ _ 0 _ _ _ HO
 have f0 := frozen_of_row _ _ 0 _ _ HO
 have d1 := cell_of_row _ _ 1 _ _ _ HO
 have f1 := frozen_of_row _ _ 1 _ _ HO
 have d2 := cell_of_row _ _ 2 _ _ _ HO
 have f2 := frozen_of_row _ _ 2 _ _ HO
 have d3 := cell_of_row _ _ 3 _ _ _ HO
 have f3 := frozen_of_row _ _ 3 _ _ HO
 have d4 := cell_of_row _ _ 4 _ _ _ HO
 have f4 := frozen_of_row _ _ 4 _ _ HO
 have d5 := cell_of_row _ _ 5 _ _ _ HO
 have f5 := frozen_of_row _ _ 5 _ _ HO
 have z5_ := HB
 have q0 := cell_of_row _ _ 0 _ _ _ HR
 have y0 := frozen_of_row _ _ 0 _ _ HR
 have q1 := cell_of_row _ _ 1 _ _ _ HR
 have y1 := frozen_of_row _ _ 1 _ _ HR
 have q2 := cell_of_row _ _ 2 _ _ _ HR
 have y2 := frozen_of_row _ _ 2 _ _ HR
 have q3 := cell_of_row _ _ 3 _ _ _ HR
 have y3 := frozen_of_row _ _ 3 _ _ HR
 have q4 := cell_of_row _ _ 4 _ _ _ HR
 have y4 := frozen_of_row _ _ 4 _ _ HR
 have q5 := cell_of_row _ _ 5 _ _ _ HR
 have y5 := frozen_of_row _ _ 5 _ _ HR
 go_wp2_with fail
 have HRf : (w1.setCell ⟨w.heap.size + 1 + 1, 5, none⟩ (.slice a5 x.whn.length p5)).heap[w.heap.size + 1]? = some (.cells #[.string { data := #[] }, .string { data := #[] }, .int .i64 0, .int .i64 0, .int .i64 0, .slice none 0 0] 94) := (heap_setCell_other _ _ _ _ (by simp)).trans (HR)
 refine bodyPost_ret (v := .agg #[.string x.par, .string x.prt, .int .i64 x.qty, .int .i64 x.fr, .int .i64 x.un, .slice a5 x.whn.length p5]) (results_cell_row Tryz.results69 _ _ _ _ #[.string x.par, .string x.prt, .int .i64 x.qty, .int .i64 x.fr, .int .i64 x.un, .slice a5 x.whn.length p5] (0, 0) _ rfl (heap_setCell_same _ _ 5 _ _ _ (heap_setCell_same _ _ 4 _ _ _ (heap_setCell_same _ _ 3 _ _ _ (heap_setCell_same _ _ 2 _ _ _ (heap_setCell_same _ _ 1 _ _ _ (heap_setCell_same _ _ 0 _ _ _ (HRf))))))) Tryz.underlying94 rfl (by kernel_rfl)) rfl ⟨_, rfl, ?_, ?_⟩
 · exact own_lowerN (own_setlow (own_setlow (own_setlow (own_setlow (own_setlow (own_setlow (own_setlow V5.out _ _ _ (by have := L5.out; omega)) _ _ _ (by have := L5.out; omega)) _ _ _ (by have := L5.out; omega)) _ _ _ (by have := L5.out; omega)) _ _ _ (by have := L5.out; omega)) _ _ _ (by have := L5.out; omega)) _ _ _ (by have := L5.out; omega)) (by have := L5.out; omega)
 · exact (((((((HB.setCell (by simp; try omega) _).setCell (by simp) _).setCell (by simp) _).setCell (by simp) _).setCell (by simp) _).setCell (by simp) _).setCell (by simp) _)

theorem BX.zinfo : (Tryz.prog.info? 94).map (fun i => (i.zero, i.size, i.bytes)) = some (some (.agg #[.string ByteArray.empty, .string ByteArray.empty, .int .i64 0, .int .i64 0, .int .i64 0, .slice none 0 0]), 6, 80) := by kernel_rfl
/-- 6 cells of a row of nothing. -/
def BX.zr : NR := ⟨[.string ByteArray.empty, .string ByteArray.empty, .int .i64 0, .int .i64 0, .int .i64 0, .slice none 0 0], 0, []⟩
theorem BX.zflat (n : Nat) : (madeCells #[.string ByteArray.empty, .string ByteArray.empty, .int .i64 0, .int .i64 0, .int .i64 0, .slice none 0 0] (n * 6)).toList = flatN (List.replicate n BX.zr) := by
 refine List.ext_getElem? (fun i => ?_)
 have hl : (flatN (List.replicate n BX.zr)).length = n * 6 := by
  rw [flatN_length (K := 6) (fun r hr => by rw [List.eq_of_mem_replicate hr]; rfl)]; simp
 by_cases hi : i < n * 6
 · have h1 : (flatN (List.replicate n BX.zr))[i / 6 * 6 + i % 6]? = _ := flatN_get (K := 6) (fun r hr => by rw [List.eq_of_mem_replicate hr]; rfl) (i / 6) (by simp; omega) (i % 6) (Nat.mod_lt _ (by omega))
   rw [show i / 6 * 6 + i % 6 = i by omega] at h1
   rw [h1, List.getElem_replicate]
   have hm : i % 6 < 6 := Nat.mod_lt _ (by omega)
   rw [Array.getElem?_toList]
   obtain ⟨y, hy⟩ : ∃ y, ([.string ByteArray.empty, .string ByteArray.empty, .int .i64 0, .int .i64 0, .int .i64 0, .slice none 0 0] : List Value)[i % 6]? = some y := ⟨_, List.getElem?_eq_getElem (by simpa using hm)⟩
   show _ = ([.string ByteArray.empty, .string ByteArray.empty, .int .i64 0, .int .i64 0, .int .i64 0, .slice none 0 0] : List Value)[i % 6]?
   simp [madeCells, hi, hy]
 · rw [List.getElem?_eq_none (by simp [size_madeCells]; omega), List.getElem?_eq_none (by omega)]
theorem BX.zown {base top : Nat} {w : World} {g n : Nat} (h : w.ownsRow base 94 6 (.slice (some ⟨g, 0, none⟩) n n) n (flatN (List.replicate n BX.zr))) (ht : g < top) : OwnN 6 5 3 94 145 (base) (top) w (.slice (some ⟨g, 0, none⟩) n n) (List.replicate n BX.zr) := by
 have hz : ∀ r, r ∈ List.replicate n BX.zr → r = BX.zr := fun r hr => List.eq_of_mem_replicate hr
 refine ⟨fun r hr => by rw [hz r hr]; rfl, by simpa using h, fun k hk => ⟨(h.lt k hk).1, by cases hk; exact ht⟩, fun j hj => ⟨.slice none 0 0, by rw [List.getElem_replicate]; rfl, by rw [List.getElem_replicate]; exact ⟨rfl, Or.inl ⟨rfl, rfl⟩⟩, fun k hk => by cases hk⟩, fun i j hi hj _ u u' hu _ => ?_⟩
 rw [List.getElem_replicate] at hu
 have : u = .slice none 0 0 := (Option.some.inj hu).symm
 subst this
 exact fun k hk => by cases hk

set_option maxRecDepth 100000 in
set_option maxHeartbeats 2000000 in
theorem BX.toO (v : Value) (xs : List BL) (lo hi : Nat) (w : World) (hhi : hi ≤ w.heap.size) (h : BX lo hi w v xs) (hm : BX.Sm xs) : Calls Tryz.prog 24 #[v] w fun e w' => ∃ v', e = .returned v' ∧ Hid (BX.Own w.heap.size w'.heap.size w' v' xs) ∧ Hid (Below w.heap.size w w') := by
 obtain ⟨i0, hif, hz0, hz1, hz2⟩ := info_parts BX.zinfo
 obtain ⟨hm, hM⟩ := hm
 have HM := Lib.hid hM
 have HX := Lib.hid h
 have HH := Lib.hid hhi
 obtain ⟨a, c, rfl⟩ := h.slice
 clear h hM hhi
 go_enter Tryz.func24, Tryz.ntmps24
 go_wp2_with (at_make; refine wpList_make_full _ rfl _ _ 25 rfl w.heap.size 94 i0 (.agg #[.string ByteArray.empty, .string ByteArray.empty, .int .i64 0, .int .i64 0, .int .i64 0, .slice none 0 0]) 6 Tryz.underlying25 hif hz0 hz1 _ _ _ _ xs.length rfl rfl rfl rfl (by rw [hz2]; omega) (by unfold maxLen; omega) (Nat.le_refl _) ?_)
 intro w0 hown0 hgrow0
 have hb0 : Hid (Below w.heap.size w w0) := Lib.hid ((Below.refl _ _).grown hgrow0 (Nat.le_refl _) (fun k h => by cases h))
 have HO0 : Hid (OwnN 6 5 3 94 145 (w.heap.size) (w0.heap.size) w0 (.slice (some ⟨w.heap.size, 0, none⟩) xs.length xs.length) (List.replicate xs.length BX.zr)) := Lib.hid (BX.zown (by rw [← BX.zflat]; exact hown0) (hown0.lt _ rfl).2)
 clear hown0 hgrow0
 go_wp2
 go_loopw [4] (fun i wr => ∃ (k : Nat) (rs : List NR), k ≤ xs.length ∧ i = .int .i64 k ∧ rs.length = xs.length ∧ Hid (OwnN 6 5 3 94 145 (w.heap.size) (wr.heap.size) wr (.slice (some ⟨w.heap.size, 0, none⟩) xs.length xs.length) rs) ∧ Hid (∀ j (hj : j < xs.length) (hr : j < rs.length), (j < k → ∃ u, rs[j]'hr = BL.rec1 (xs[j]'hj) u) ∧ (k ≤ j → rs[j]'hr = BX.zr)) ∧ Hid (Below w.heap.size w wr)) (fun i _ => xs.length - (intOf i).toNat)
 case atStart => exact ⟨0, _, Nat.zero_le _, rfl, by simp, HO0, Lib.hid (fun j hj hr => ⟨fun h => by omega, fun _ => by rw [List.getElem_replicate]⟩), hb0⟩
 case round =>
  clear HO0 hb0
  obtain ⟨k, rs, hk, rfl, hrl, HO, HR, HB⟩ := hrel
  by_cases hlt : k < xs.length
  · obtain ⟨b2, o2, c2, cs, hv2, hc2, hb2, hl, hr, hcell⟩ := (HX.out.below BLN.kept HB.out).get k hlt
    simp only [Value.slice.injEq] at hv2
    obtain ⟨rfl, _, rfl⟩ := hv2
    have HSM := Lib.hid (HM.out _ (List.getElem_mem hlt))
    obtain ⟨u5, rfl, r5⟩ := hr
    have e0 := hcell 0 (by omega)
    have e1 := hcell 1 (by omega)
    have e2 := hcell 2 (by omega)
    have e3 := hcell 3 (by omega)
    have e4 := hcell 4 (by omega)
    have e5 := hcell 5 (by omega)
    have HLT := Lib.hid hlt
    have HKR : Hid (k < rs.length) := Lib.hid (by omega)
    have HPUT : Hid (∀ (u : Value) (rs' : List NR), rs' = rs.set k (BL.rec1 (xs[k]'hlt) u) → ∀ j (hj : j < xs.length) (hr : j < rs'.length), (j < k + 1 → ∃ u, rs'[j]'hr = BL.rec1 (xs[j]'hj) u) ∧ (k + 1 ≤ j → rs'[j]'hr = BX.zr)) := Lib.hid (fun u rs' e j hj hr => by
     subst e
     simp only [List.getElem_set]
     refine ⟨fun h => ?_, fun h => ?_⟩
     · split
       · rename_i e2; subst e2; exact ⟨u, rfl⟩
       · exact (HR.out j hj (by simpa using hr)).1 (by omega)
     · rw [if_neg (by omega)]
       exact (HR.out j hj (by simpa using hr)).2 (by omega))
    simp only [List.getElem?_cons_zero, List.getElem?_cons_succ, Nat.add_zero] at e0 e1 e2 e3 e4 e5
    generalize xs[k]'hlt = x at *
    have HP := Lib.hid (BL.to_oneO x u5 _ _ wr (Nat.le_trans HH.out HB.out.size) r5 HSM.out)
    clear hcell hc2 hb2 hl r5
    go_wp2_with fail
    refine HP.out.mono ?_
    rintro e w2 ⟨v5, rfl, hown, hb2⟩
    have HO2 := Lib.hid ((HO.out.below hb2).top hb2.size)
    have HB2 := Lib.hid (HB.out.trans (hb2.mono HB.out.size))
    obtain ⟨sa, sc, rfl⟩ := own_sliceN hown
    have hps := (HO.out.sp w.heap.size rfl).2
    have hput := HO2.out.put (by decide) k HKR.out (by omega) [.string x.par, .string x.prt, .int .i64 x.qty, .int .i64 x.fr, .int .i64 x.un, .slice sa x.whn.length sc] rfl _ rfl x.whn.length (CN.cells x.whn) (own_lowerN hown HB.out.size) (fun q hq => ⟨by have := (hown.lt q hq).1; have := HB.out.size; omega, (hown.lt q hq).2⟩) (fun q hq _ u hu => by
     obtain ⟨u2, h1, _, h3⟩ := HO.out.sub q hq
     have h4 : u2 = u := Option.some.inj (h1.symm.trans hu)
     subst h4
     exact (h3.apart (fun q hq => hown.lt q hq) (Or.inl (Nat.le_refl _))))
    simp only [putC, Nat.add_assoc, Nat.reduceAdd] at hput
    have HN := Lib.hid hput
    obtain ⟨⟨o_0, ho_0⟩, fo_0⟩ : (∃ u, w2.cell? ⟨w.heap.size, k * 6, none⟩ = some u) ∧ w2.frozen? ⟨w.heap.size, k * 6, none⟩ = false := HO2.out.cellw k HKR.out 0 (by omega)
    obtain ⟨⟨o_1, ho_1⟩, fo_1⟩ : (∃ u, w2.cell? ⟨w.heap.size, k * 6 + 1, none⟩ = some u) ∧ w2.frozen? ⟨w.heap.size, k * 6 + 1, none⟩ = false := HO2.out.cellw k HKR.out 1 (by omega)
    obtain ⟨⟨o_2, ho_2⟩, fo_2⟩ : (∃ u, w2.cell? ⟨w.heap.size, k * 6 + 2, none⟩ = some u) ∧ w2.frozen? ⟨w.heap.size, k * 6 + 2, none⟩ = false := HO2.out.cellw k HKR.out 2 (by omega)
    obtain ⟨⟨o_3, ho_3⟩, fo_3⟩ : (∃ u, w2.cell? ⟨w.heap.size, k * 6 + 3, none⟩ = some u) ∧ w2.frozen? ⟨w.heap.size, k * 6 + 3, none⟩ = false := HO2.out.cellw k HKR.out 3 (by omega)
    obtain ⟨⟨o_4, ho_4⟩, fo_4⟩ : (∃ u, w2.cell? ⟨w.heap.size, k * 6 + 4, none⟩ = some u) ∧ w2.frozen? ⟨w.heap.size, k * 6 + 4, none⟩ = false := HO2.out.cellw k HKR.out 4 (by omega)
    obtain ⟨⟨o_5, ho_5⟩, fo_5⟩ : (∃ u, w2.cell? ⟨w.heap.size, k * 6 + 5, none⟩ = some u) ∧ w2.frozen? ⟨w.heap.size, k * 6 + 5, none⟩ = false := HO2.out.cellw k HKR.out 5 (by omega)
    clear hown hb2 HP hput
    go_wp2_with fail
    go_roundw
    case rel => exact ⟨k + 1, rs.set k (BL.rec1 x (.slice sa x.whn.length sc)), by have := HLT.out; omega, by go_num, by simpa using hrl, Lib.hid (HN.out.topw (by simp)), Lib.hid (HPUT.out _ _ rfl), Lib.hid ((((((HB2.out.setCell (Nat.le_refl _) _).setCell (Nat.le_refl _) _).setCell (Nat.le_refl _) _).setCell (Nat.le_refl _) _).setCell (Nat.le_refl _) _).setCell (Nat.le_refl _) _)⟩
    case measure => have := HLT.out; simp [intOf]; omega
  · have HE : Hid (BX.Own w.heap.size wr.heap.size wr (.slice (some ⟨w.heap.size, 0, none⟩) xs.length xs.length) xs) := Lib.hid ⟨rs, ⟨hrl, fun j hj hr => (HR.out j hj hr).1 (by omega)⟩, HO.out⟩
    go_wp2
    go_ret
    exact ⟨_, rfl, HE, HB⟩

/-- How long all that they lead into is. -/
def BX.tot (xs : List BL) : Nat := (xs.map (fun x => x.whn.length)).sum
theorem BX.tot_snoc (xs : List BL) (x : BL) : BX.tot (xs ++ [x]) = BX.tot xs + x.whn.length := by simp [BX.tot]

set_option maxRecDepth 100000 in
set_option maxHeartbeats 2000000 in
theorem BL.sz_oneT (x : BL) (u5 : Value) (left : Int) (lo hi : Nat) (w : World) (h5 : CX lo hi w u5 x.whn) (hl0 : 0 ≤ left) (hl1 : left ≤ 1048576) (hs : BL.Sz x) :
 Calls Tryz.prog 66 #[.agg #[.string x.par, .string x.prt, .int .i64 x.qty, .int .i64 x.fr, .int .i64 x.un, u5], .int .i64 left] w (SzResT (BL.Sm x) x.whn.length left w) := by
 have HS := Lib.hid hs
 clear hs
 have z_par : x.par.size ≤ 9223372036854775807 := by have := HS.out.1; unfold maxLen at this; omega
 have z_prt : x.prt.size ≤ 9223372036854775807 := by have := HS.out.2.1; unfold maxLen at this; omega
 have HB : Below w.heap.size w (w.alloc (.cells #[.string x.par, .string x.prt, .int .i64 x.qty, .int .i64 x.fr, .int .i64 x.un, u5] 102)) := (Below.refl _ _).alloc (Nat.le_refl _) _
 have HA : (w.alloc (.cells #[.string x.par, .string x.prt, .int .i64 x.qty, .int .i64 x.fr, .int .i64 x.un, u5] 102)).heap[w.heap.size]? = some (.cells #[.string x.par, .string x.prt, .int .i64 x.qty, .int .i64 x.fr, .int .i64 x.un, u5] 102) := heap_alloc_new w _
 have r5 := Lib.hid (h5.below CnN.kept HB)
 clear h5
 by_cases hc0 : left < (x.par.size : Int)
 · go_enter Tryz.func66, Tryz.ntmps66
   go_wp2_with fail
   go_ret
   exact ⟨-1, rfl, by omega, by omega, by omega, HB⟩
 by_cases hc1 : left - x.par.size < (x.prt.size : Int)
 · go_enter Tryz.func66, Tryz.ntmps66
   go_wp2_with fail
   go_ret
   exact ⟨-1, rfl, by omega, by omega, by omega, HB⟩
 go_enter Tryz.func66, Tryz.ntmps66
 go_wp2_with fail
 generalize (w.alloc (.cells #[.string x.par, .string x.prt, .int .i64 x.qty, .int .i64 x.fr, .int .i64 x.un, u5] 102)) = wA at *
 refine (CX.szT _ x.whn _ _ _ _ r5.out (by omega) (by omega) HS.out.2.2).mono ?_
 rintro e w1 ⟨m1, rfl, hl20, hl21, hq, hb⟩
 have Q5 := Lib.hid hq
 have HA := blk_below HA hb
 have HB := HB.trans (hb.mono HB.size)
 clear hb hq
 by_cases hn5 : m1 < 0
 · go_wp2_with fail
   go_ret
   exact ⟨-1, rfl, by omega, by omega, by omega, HB⟩
 go_wp2_with fail
 go_ret
 exact ⟨m1, rfl, by omega, by omega, fun _ => ⟨(Q5.out (by omega)).1, by have := (Q5.out (by omega)).2; omega⟩, HB⟩

set_option maxRecDepth 100000 in
set_option maxHeartbeats 2000000 in
theorem BX.szT (v : Value) (xs : List BL) (left : Int) (lo hi : Nat) (w : World) (h : BX lo hi w v xs) (h0 : 0 ≤ left) (h1 : left ≤ 1048576) (hz : BX.Sz xs) : Calls Tryz.prog 20 #[v, .int .i64 left] w (SzResT (BX.Sm xs) (xs.length + BX.tot xs) left w) := by
 obtain ⟨hm, hs⟩ := hz
 unfold maxLen at hm
 have HX := Lib.hid h
 have HS := Lib.hid hs
 obtain ⟨a, c, rfl⟩ := h.slice
 clear h hs
 by_cases hb : left < xs.length
 · go_enter Tryz.func20, Tryz.ntmps20
   go_wp2_with fail
   go_ret
   exact ⟨-1, rfl, by omega, by omega, by omega, Below.refl _ _⟩
 have HLE : Hid (xs.length ≤ 1048576) := Lib.hid (by omega)
 go_enter Tryz.func20, Tryz.ntmps20
 go_wp2_with fail
 go_loopw [1, 5] (fun t i wr => ∃ (k : Nat) (m : Int), k ≤ xs.length ∧ i = .int .i64 k ∧ t = .int .i64 m ∧ 0 ≤ m ∧ m ≤ 1048576 ∧ Hid ((∀ x, x ∈ xs.take k → BL.Sm x) ∧ m + xs.length + BX.tot (xs.take k) ≤ left) ∧ Hid (Below w.heap.size w wr)) (fun _ i _ => xs.length - (intOf i).toNat)
 case atStart => exact ⟨0, left - xs.length, Nat.zero_le _, rfl, rfl, by omega, by omega, Lib.hid ⟨fun x hx => by simp at hx, by simp [BX.tot]⟩, Lib.hid (Below.refl _ _)⟩
 case round =>
  obtain ⟨k, m, hk, rfl, rfl, hm0, hm1, HQ, HB⟩ := hrel
  by_cases hlt : k < xs.length
  · obtain ⟨b2, o2, c2, cs, hv2, hc2, _, _, hr, hcell⟩ := (HX.out.below BLN.kept HB.out).get k hlt
    simp only [Value.slice.injEq] at hv2
    obtain ⟨rfl, _, rfl⟩ := hv2
    have HSZ := Lib.hid (HS.out _ (List.getElem_mem hlt))
    have HT : Hid (xs.take (k + 1) = xs.take k ++ [xs[k]'hlt]) := Lib.hid (List.take_succ_eq_append_getElem hlt)
    obtain ⟨u5, rfl, r5⟩ := hr
    have e0 := hcell 0 (by omega)
    have e1 := hcell 1 (by omega)
    have e2 := hcell 2 (by omega)
    have e3 := hcell 3 (by omega)
    have e4 := hcell 4 (by omega)
    have e5 := hcell 5 (by omega)
    clear hcell
    generalize xs[k]'hlt = x at *
    simp only [List.getElem?_cons_zero, List.getElem?_cons_succ, Nat.add_zero] at e0 e1 e2 e3 e4 e5
    have HP := Lib.hid (BL.sz_oneT x u5 m _ _ wr r5 hm0 hm1 HSZ.out)
    clear r5
    go_wp2_with fail
    refine HP.out.mono ?_
    rintro e w2 ⟨z, rfl, hz0, hz1, hq, hb2⟩
    have HQ2 := Lib.hid hq
    have HB2 := Lib.hid (HB.out.trans (hb2.mono HB.out.size))
    clear hq hb2 HP
    by_cases hn : z < 0
    · go_wp2_with fail
      go_ret
      exact ⟨-1, rfl, by omega, by omega, by omega, HB2.out⟩
    · go_wp2_with fail
      go_roundw
      case rel => exact ⟨k + 1, z, by omega, by go_num, rfl, by omega, by omega, Lib.hid ⟨fun y hy => by
       rw [HT.out] at hy
       rcases List.mem_append.1 hy with hy | hy
       · exact HQ.out.1 y hy
       · obtain rfl := List.mem_singleton.1 hy
         exact (HQ2.out (by omega)).1, by rw [HT.out, BX.tot_snoc]; have := HQ.out.2; have := (HQ2.out (by omega)).2; push_cast; omega⟩, HB2⟩
      case measure => simp [intOf]; omega
  · have HQA : Hid (∀ x, x ∈ xs → BL.Sm x) := Lib.hid (by have := HQ.out.1; rwa [List.take_of_length_le (by omega)] at this)
    have HQT : Hid (m + xs.length + BX.tot xs ≤ left) := Lib.hid (by have := HQ.out.2; rwa [List.take_of_length_le (by omega)] at this)
    go_wp2_with fail
    go_ret
    exact ⟨m, rfl, by omega, by omega, fun _ => ⟨⟨HLE.out, HQA.out⟩, by have := HQT.out; push_cast; omega⟩, HB.out⟩
end Go.Proofs.YtmnncinpepeocaaGreat
