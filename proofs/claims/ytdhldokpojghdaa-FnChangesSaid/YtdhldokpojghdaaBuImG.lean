import Derived.Test.YtdhldokpojghdaaBuIm
import Derived.Test.YtdhldokpojghdaaBuOwn
import Derived.WalkKit
import Derived.WalkSpells
import Derived.WalkSmall
import Derived.BigQuiet
import Derived.OneCell
import Derived.Deep.QuietTactic
import Derived.Deep.DeepCutAuto
import Derived.Deep.RegionHeld3
import Derived.Laws.OwnMore
import Derived.Lib.Hide
namespace Go.Proofs.Ytdhldokpojghdaa
open Go.RowKit

/-- The cells of a record of lines of the call's own, all six. -/
theorem recCellsI {base top : Nat} {w : World} {g n q : Nat} {xs : List BL} {rs : List NR} (hrec : BX.RecN xs rs) (h : OwnN 6 5 3 36 110 base top w (.slice (some ⟨g, 0, none⟩) n q) rs) (m : Nat) (hm : m < xs.length) :
    ∃ u, w.cell? ⟨g, m * 6, none⟩ = some (.string (xs[m]'hm).par) ∧ w.cell? ⟨g, m * 6 + 1, none⟩ = some (.string (xs[m]'hm).prt) ∧ w.cell? ⟨g, m * 6 + 2, none⟩ = some (.int .i64 (xs[m]'hm).qty) ∧ w.cell? ⟨g, m * 6 + 3, none⟩ = some (.int .i64 (xs[m]'hm).fr) ∧ w.cell? ⟨g, m * 6 + 4, none⟩ = some (.int .i64 (xs[m]'hm).un) ∧ w.cell? ⟨g, m * 6 + 5, none⟩ = some u ∧ CX base w.heap.size w u (xs[m]'hm).whn := by
  have hr : m < rs.length := by rw [hrec.1]; exact hm
  obtain ⟨u, hu⟩ := hrec.2 m hm hr
  obtain ⟨u2, h2, h3, h4⟩ := h.sub m hr
  have hc : ∀ i, i < 6 → w.cell? ⟨g, m * 6 + i, none⟩ = (BL.rec1 (xs[m]'hm) u).cs[i]? := fun i hi => by rw [← hu]; exact h.cell m hr i hi
  rw [hu] at h2 h3
  have h5 : u2 = u := Option.some.inj (h2.symm.trans (BL.rec1_at _ u))
  subst h5
  exact ⟨u2, hc 0 (by omega), hc 1 (by omega), hc 2 (by omega), hc 3 (by omega), hc 4 (by omega), hc 5 (by omega), CX.of_row h3⟩

set_option maxRecDepth 100000 in
set_option maxHeartbeats 16000000 in
theorem im_tidyLines' (v v2 : Value) (l : List IT) (xs : List BL) (lo hi : Nat) (w : World) (h : IT.Is w v l) (h2 : BX lo hi w v2 xs) (hm : l.length ≤ maxLen) (hs : ∀ r, r ∈ l → IT.Sz r) (hs2 : BX.Sz xs) :
    Calls Try.prog 20 #[v, v2] w (LnOut (tidyR l xs) w) := by
  obtain ⟨i0, hi0, hz0, hz1, hz2⟩ := info_parts infoBLi
  have HX := Lib.hid h2.whole
  obtain ⟨a, c, rfl⟩ := h.slice
  obtain ⟨a2, c2, rfl⟩ := h2.slice
  have HCK := Lib.hid (im_bills _ _ l xs lo hi w h h2 hm hs hs2)
  clear h h2 hs hs2 hm
  go_enter Try.func20, Try.ntmps20
  go_wp2_with fail
  refine HCK.out.mono ?_
  rintro e w1 ⟨rfl, hb⟩
  have HB1 := Lib.hid hb
  clear hb HCK
  rcases Bool.eq_false_or_eq_true (billsB l xs) with hc | hc
  rotate_left
  · have HE := Lib.hid (tidyR_no hc)
    rw [hc]
    clear hc
    go_wp2_with fail
    go_ret
    exact ⟨_, rfl, by rw [HE.out]; exact Lib.hid (BX.ownNone _ _ _), HB1⟩
  have HE := Lib.hid (tidyR_yes hc)
  have HBT := Lib.hid hc
  have h24 := (billsB_iff.1 hc).1.2.1
  rw [hc]
  clear hc
  go_wp2_with fail
  go_loopw [5, 15] (fun s i wr => ∃ (k : Nat) (ys : List BL) (p : Option Addr) (q : Nat), k ≤ xs.length ∧ i = .int .i64 k ∧ s = .slice p ys.length q ∧ ys.length ≤ k ∧ Hid (ys = tidyL (xs.take k)) ∧ Hid (BX.Own w.heap.size wr.heap.size wr (.slice p ys.length q) ys) ∧ Hid (Below w.heap.size w wr)) (fun _ i _ => xs.length - (intOf i).toNat)
  case atStart => exact ⟨0, [], _, _, Nat.zero_le _, rfl, rfl, Nat.le_refl _, Lib.hid rfl, Lib.hid (BX.ownNone _ _ _), HB1⟩
  case round =>
    clear HB1
    obtain ⟨k, ys, p, q, hk, rfl, rfl, hyk, HY, HO, HB⟩ := hrel
    by_cases hlt : k < xs.length
    rotate_left
    · have HE2 : Hid (ys = tidyR l xs) := Lib.hid (by
        have h1 := HY.out
        rw [List.take_of_length_le (by omega)] at h1
        rw [HE.out]; exact h1)
      go_wp2_with fail
      go_ret
      exact ⟨_, rfl, by rw [← HE2.out]; exact HO, HB⟩
    have HT := Lib.hid (tidyL_take hlt)
    have HLI : Hid (∀ y, y ∈ ys → LineOk l y) := Lib.hid (by rw [HY.out]; exact tidy_line (billsB_iff.1 HBT.out) k)
    have HLT := Lib.hid hlt
    have HCO := Lib.hid (billsB_cond HBT.out hlt)
    obtain ⟨b2, o2, c2', cl, hv2, hc2, hb2, hcl, hr5, hcell⟩ := ((HX.out.below BLN.kept HB.out)).get k hlt
    simp only [Value.slice.injEq] at hv2
    obtain ⟨rfl, _, rfl⟩ := hv2
    obtain ⟨u5, rfl, h5⟩ := hr5
    obtain ⟨sa5, sc5, rfl⟩ := h5.slice
    have e0 := hcell 0 (by omega)
    have e1 := hcell 1 (by omega)
    have e2 := hcell 2 (by omega)
    have e3 := hcell 3 (by omega)
    have e4 := hcell 4 (by omega)
    have e5 := hcell 5 (by omega)
    simp only [List.getElem?_cons_zero, List.getElem?_cons_succ, Nat.add_zero] at e0 e1 e2 e3 e4 e5
    clear hcell hc2 hcl hb2
    generalize xs[k]'hlt = x at *
    have H5 := Lib.hid h5
    clear h5
    obtain ⟨W4, hW4⟩ : ∃ W, wr.alloc (.cells #[.string x.par, .string x.prt, .int .i64 x.qty, .int .i64 x.fr, .int .i64 x.un, .slice sa5 x.whn.length sc5] 36) = W := ⟨_, rfl⟩
    have HW4 := Lib.hid hW4
    have HL4 : Hid (Below wr.heap.size wr W4) := Lib.hid (by rw [← hW4]; exact (Below.refl _ _).alloc (Nat.le_refl _) _)
    have HY4 : Hid (W4.heap[wr.heap.size]? = some (.cells #[.string x.par, .string x.prt, .int .i64 x.qty, .int .i64 x.fr, .int .i64 x.un, .slice sa5 x.whn.length sc5] 36)) := Lib.hid (by rw [← hW4]; exact heap_alloc_new _ _)
    clear hW4
    have hs4 : wr.heap.size < W4.heap.size := lt_of_heap HY4.out
    have HB4 := Lib.hid (HB.out.trans (HL4.out.mono HB.out.size))
    have HO4 := Lib.hid (HO.out.below HL4.out)
    have H54 := Lib.hid (H5.out.below CnN.kept HL4.out)
    have hwl : IntKind.i64.wrap ((ys.length : Int) - 1) = (ys.length : Int) - 1 := (IntKind.wrap_i64 _).trans (by omega)
    go_upto_region 8 with fail
    rw [HW4.out]
    clear HW4 e0 e1 e2 e3 e4 e5 H5 hwl
    have q0 := cell_of_row _ _ 0 _ _ _ HY4.out
    have q1 := cell_of_row _ _ 1 _ _ _ HY4.out
    have q2 := cell_of_row _ _ 2 _ _ _ HY4.out
    have q3 := cell_of_row _ _ 3 _ _ _ HY4.out
    have q4 := cell_of_row _ _ 4 _ _ _ HY4.out
    have q5 := cell_of_row _ _ 5 _ _ _ HY4.out
    by_cases h0 : 0 < ys.length
    rotate_left
    · have hd : decide ((1 : Int) ≤ (ys.length : Int)) = false := decide_eq_false (by omega)
      have HNIL : Hid (ys = []) := Lib.hid (List.eq_nil_of_length_eq_zero (by omega))
      refine wp_region_held_drew (S := (fun W' => Hid (Below W4.heap.size W4 W') ∧ True)) (by kernel_rfl) (hold0 (Below.refl _ _).drew) (fun hHeld => ?_)
      refine wpAnyH_take (i := 0) (oi := { dst := some 22, op := Op.move (Operand.tmp 8), type := 3, pos := _, after := #[], guard := none }) (v := ?vr1x1) rfl (by kernel_rfl) (by kernel_rfl) (by kernel_rfl) (fun _ _ _ h => h) (Or.inl ⟨by rfl, ?yr1x1⟩) (by assumption) ?rr1x1
      case yr1x1 => (intro w' hSw; (try dsimp only at hSw); go_simp; (try with_reducible rfl))
      refine wpAnyH_take (i := 1) (oi := { dst := some 23, op := Op.binOp BinOp.geq 3 (Operand.tmp 22) (Operand.const (Value.int IntKind.i64 0)) 3, type := 4, pos := _, after := #[{ on := 0, ground := Ground.data }], guard := none }) (v := ?vr1x2) rfl (by kernel_rfl) (by kernel_rfl) (by kernel_rfl) (fun _ _ _ h => h) (Or.inl ⟨by rfl, ?yr1x2⟩) (by assumption) ?rr1x2
      case yr1x2 => (intro w' hSw; (try dsimp only at hSw); go_simp; (try with_reducible rfl))
      refine wpAnyH_take (i := 2) (oi := { dst := some 24, op := Op.move (Operand.tmp 23), type := 4, pos := _, after := #[{ on := 1, ground := Ground.data }], guard := none }) (v := ?vr1x3) rfl (by kernel_rfl) (by kernel_rfl) (by kernel_rfl) (fun _ _ _ h => h) (Or.inl ⟨by rfl, ?yr1x3⟩) (by assumption) ?rr1x3
      case yr1x3 => (intro w' hSw; (try dsimp only at hSw); go_simp; (try with_reducible rfl))
      (try simp only [Act.put, List.setIfInBounds_toArray, List.set_cons_zero, List.set_cons_succ])
      refine wpAnyH_take (i := 3) (oi := { dst := some 25, op := Op.load 36 (Operand.tmp 7), type := 36, pos := _, after := #[{ on := 2, ground := Ground.guard }], guard := some (2, true) }) (v := undef) rfl (by kernel_rfl) (by kernel_rfl) (by kernel_rfl) (fun _ _ _ h => h) (Or.inr ⟨by rfl, rfl⟩) (by assumption) ?_
      refine wpAnyH_take (i := 4) (oi := { dst := some 26, op := Op.move (Operand.tmp 5), type := 25, pos := _, after := #[{ on := 2, ground := Ground.guard }], guard := some (2, true) }) (v := undef) rfl (by kernel_rfl) (by kernel_rfl) (by kernel_rfl) (fun _ _ _ h => h) (Or.inr ⟨by rfl, rfl⟩) (by assumption) ?_
      refine wpAnyH_take (i := 5) (oi := { dst := some 27, op := Op.move (Operand.tmp 8), type := 3, pos := _, after := #[{ on := 2, ground := Ground.guard }], guard := some (2, true) }) (v := undef) rfl (by kernel_rfl) (by kernel_rfl) (by kernel_rfl) (fun _ _ _ h => h) (Or.inr ⟨by rfl, rfl⟩) (by assumption) ?_
      (try simp only [Act.put, List.setIfInBounds_toArray, List.set_cons_zero, List.set_cons_succ])
      refine wpAnyH_take (i := 6) (oi := { dst := some 28, op := Op.indexAddr 25 (Operand.tmp 26) (Operand.tmp 27), type := 0, pos := _, after := #[{ on := 4, ground := Ground.data }, { on := 5, ground := Ground.data }, { on := 2, ground := Ground.guard }], guard := some (2, true) }) (v := undef) rfl (by kernel_rfl) (by kernel_rfl) (by kernel_rfl) (fun _ _ _ h => h) (Or.inr ⟨by rfl, rfl⟩) (by assumption) ?_
      refine wpAnyH_take (i := 7) (oi := { dst := some 29, op := Op.load 36 (Operand.tmp 28), type := 36, pos := _, after := #[{ on := 6, ground := Ground.data }, { on := 2, ground := Ground.guard }], guard := some (2, true) }) (v := undef) rfl (by kernel_rfl) (by kernel_rfl) (by kernel_rfl) (fun _ _ _ h => h) (Or.inr ⟨by rfl, rfl⟩) (by assumption) ?_
      refine wpAnyH_take (i := 8) (oi := { dst := some 30, op := Op.call { callee := Callee.value (Operand.func 59), args := #[Operand.tmp 25, Operand.tmp 29], argTypes := #[36, 36] }, type := 4, pos := _, after := #[{ on := 3, ground := Ground.data }, { on := 7, ground := Ground.data }, { on := 2, ground := Ground.chain }, { on := 2, ground := Ground.guard }], guard := some (2, true) }) (v := undef) rfl (by kernel_rfl) (by kernel_rfl) (by kernel_rfl) (fun _ _ _ h => h) (Or.inr ⟨by rfl, rfl⟩) (by assumption) ?_
      (try simp only [Act.put, List.setIfInBounds_toArray, List.set_cons_zero, List.set_cons_succ])
      refine wpAnyH_take (i := 9) (oi := { dst := some 31, op := Op.pick (Operand.tmp 24) (Operand.tmp 30) (Operand.const (Value.bool false)), type := 4, pos := _, after := #[{ on := 2, ground := Ground.data }, { on := 8, ground := Ground.data }], guard := none }) (v := ?vr1x4) rfl (by kernel_rfl) (by kernel_rfl) (by kernel_rfl) (fun _ _ _ h => h) (Or.inl ⟨by rfl, ?yr1x4⟩) (by assumption) ?rr1x4
      case yr1x4 => (intro w' hSw; (try dsimp only at hSw); go_simp; (try with_reducible rfl))
      (try simp only [Act.put, List.setIfInBounds_toArray, List.set_cons_zero, List.set_cons_succ])
      refine wpAnyH_done (by kernel_rfl) ?_ _
      have hS := (by assumption : Hid (Below W4.heap.size W4 _) ∧ _)
      obtain ⟨w5, hww5⟩ : ∃ W, W = worldI hS := ⟨_, rfl⟩
      simp only [worldI] at hww5
      have hbw5 : Below W4.heap.size W4 w5 := by rw [hww5]; exact hS.1.out
      rw [← hww5]
      clear hww5 hS
      have HB5 := Lib.hid (HB4.out.trans (hbw5.mono HB4.out.size))
      have HO5 := Lib.hid ((HO4.out.below hbw5).topw (top' := w5.heap.size) (by have := hbw5.size; omega))
      have H55 := Lib.hid (H54.out.below CnN.kept hbw5)
      have HY5 := Lib.hid (blk_below HY4.out hbw5)
      clear hbw5
      clear q0 q1 q2 q3 q4 q5
      have q0 := cell_of_row _ _ 0 _ _ _ HY5.out
      have q1 := cell_of_row _ _ 1 _ _ _ HY5.out
      have q2 := cell_of_row _ _ 2 _ _ _ HY5.out
      have q3 := cell_of_row _ _ 3 _ _ _ HY5.out
      have q4 := cell_of_row _ _ 4 _ _ _ HY5.out
      have q5 := cell_of_row _ _ 5 _ _ _ HY5.out
      have HCP := Lib.hid (im_copied x _ 0 _ w5 H55.out HCO.out.1 HCO.out.2)
      go_wp2_with fail
      refine HCP.out.mono ?_
      rintro e w6 ⟨a6, c6, rfl, HOL, HBL⟩
      have HBP := Lib.hid (HB5.out.trans (HBL.out.mono HB5.out.size))
      have HOP := Lib.hid ((HO5.out.below HBL.out))
      have hs6 := HBL.out.size
      have hsW := HB5.out.size
      have hsP := HBP.out.size
      obtain ⟨rs, hrec, hrl, hown⟩ := HOP.out.recs
      have HREC := Lib.hid hrec
      have HRL := Lib.hid hrl
      have HOWN := Lib.hid hown
      clear hrec hrl hown HCP
      have HRW := Lib.hid (HOWN.out.rowL HRL.out)
      go_wp2_with (at_builtin; refine wpList_append_own _ rfl _ _ 25 rfl w.heap.size 36 i0 (.agg #[.string ByteArray.empty, .string ByteArray.empty, .int .i64 0, .int .i64 0, .int .i64 0, .slice none 0 0]) 6 80 Try.underlying25 hi0 hz0 hz1 hz2 rfl (by decide) _ ys.length (flatN rs) rfl (HRW.out.alloc _) ⟨w6.heap.size, 0, none⟩ 1 1 [.string x.par, .string x.prt, .int .i64 x.qty, .int .i64 x.fr, .int .i64 x.un, .slice a6 x.whn.length c6] rfl rfl (new_6 _ _ _ _ _ _ _ _) (by intro u hu; simp at hu; rcases hu with rfl | rfl | rfl | rfl | rfl | rfl <;> rfl) (by unfold maxLen; omega) (by omega) (by simp; omega) ?_)
      intro v7 w7 ho hg _
      obtain ⟨p7, q7, rfl⟩ := own_sliceN ho
      have HOF : Hid (BX.Own w.heap.size w7.heap.size w7 (.slice p7 (ys.length + 1) q7) (ys ++ [x])) := Lib.hid ⟨_, HREC.out.push (x) _, BX.pushR (HOWN.out.below ((Below.refl _ _).alloc (Nat.le_refl _) _)) (HOL.out.alloc _) (RowsB.of HOWN.out) (by omega) (by rw [HRL.out]; exact ho) hg⟩
      have HBF := Lib.hid ((HBP.out.alloc HBP.out.size _).grown hg (by simp; omega) (fun g hg2 => (HRW.out.lt g hg2).1))
      clear ho hg
      go_wp2_with fail
      go_roundw
      case rel => exact ⟨k + 1, ys ++ [x], p7, q7, by have := HLT.out; omega, by go_num, by simp, by simp; omega, Lib.hid (by rw [HT.out, ← HY.out]; exact ((by rw [HNIL.out]; rfl : tidyS ys x = ys ++ [x])).symm), by simpa using HOF, HBF⟩
      case measure => have := HLT.out; simp [intOf]; omega
    have hd : decide ((1 : Int) ≤ (ys.length : Int)) = true := decide_eq_true (by omega)
    obtain ⟨m, hm⟩ : ∃ m, m + 1 = ys.length := ⟨ys.length - 1, by omega⟩
    have hmlt : m < ys.length := by omega
    obtain ⟨rs, hrec, hrl, hown⟩ := HO4.out.recs
    have HREC := Lib.hid hrec
    have HRL := Lib.hid hrl
    have HOWN := Lib.hid hown
    clear hrec hrl hown
    obtain ⟨g, rfl, hgb⟩ := BX.own_some HREC.out HOWN.out h0
    obtain ⟨up, p0, p1, p2, p3, p4, p5, hup⟩ := recCellsI HREC.out HOWN.out m hmlt
    obtain ⟨ap, cp, rfl⟩ := hup.slice
    have HTS := Lib.hid (tidyS_set hmlt hm x)
    have HPL := Lib.hid (HLI.out _ (List.getElem_mem hmlt))
    have HRS := Lib.hid (fun z => HREC.out.setUn hmlt (show m < rs.length by rw [HRL.out]; exact hmlt) z)
    have hgt : g < wr.heap.size := by
      obtain ⟨g2, cap2, hv2, _, _, ht2⟩ := HOWN.out.at0 (by rw [HRL.out]; exact h0)
      injection hv2 with e1 _ _
      injection e1 with e1
      injection e1 with e1 _ _
      rw [e1]; exact ht2
    have hix : ((ys.length : Int) - 1) = (m : Int) := by omega
    have hwm : IntKind.i64.wrap (m : Int) = (m : Int) := (IntKind.wrap_i64 _).trans (by omega)
    have hmi : (m : Int) < (ys.length : Int) := by omega
    have hm0 : (0 : Int) ≤ (m : Int) := by omega
    have HMR : Hid (m < rs.length) := Lib.hid (by rw [HRL.out]; exact hmlt)
    have HUN0 : Hid (0 ≤ (ys[m]'hmlt).un) := Lib.hid (by have := HPL.out.2.2.2.2.2.1; have := HPL.out.2.2.2.2.2.2.1; omega)
    have HUN1 : Hid ((ys[m]'hmlt).un ≤ 999) := Lib.hid HPL.out.2.2.2.2.2.2.2.1
    have HGO : Hid (∀ W, Below W4.heap.size W4 W → Calls Try.prog 59 #[.agg #[.string x.par, .string x.prt, .int .i64 x.qty, .int .i64 x.fr, .int .i64 x.un, .slice sa5 x.whn.length sc5], .agg #[.string (ys[m]'hmlt).par, .string (ys[m]'hmlt).prt, .int .i64 (ys[m]'hmlt).qty, .int .i64 (ys[m]'hmlt).fr, .int .i64 (ys[m]'hmlt).un, .slice ap (ys[m]'hmlt).whn.length cp]] W (BoolRes (joinB (ys[m]'hmlt) x) W)) := Lib.hid (fun W hW => im_goesOn x (ys[m]'hmlt) sa5 ap sc5 cp W ((CX.is H54.out).below hW) (hup.is.below hW) HCO.out.2 (line_whn HPL.out) HUN0.out HUN1.out)
    have HMM := Lib.hid hm
    clear hup hm
    generalize hpl : ys[m]'hmlt = pl at *
    have HPLE := Lib.hid hpl
    clear hpl
    refine wp_region_held_drew (S := (fun W' => Hid (Below W4.heap.size W4 W') ∧ W'.cell? ⟨wr.heap.size, 0, none⟩ = some (.string x.par) ∧ W'.cell? ⟨wr.heap.size, 1, none⟩ = some (.string x.prt) ∧ W'.cell? ⟨wr.heap.size, 2, none⟩ = some (.int .i64 x.qty) ∧ W'.cell? ⟨wr.heap.size, 3, none⟩ = some (.int .i64 x.fr) ∧ W'.cell? ⟨wr.heap.size, 4, none⟩ = some (.int .i64 x.un) ∧ W'.cell? ⟨wr.heap.size, 5, none⟩ = some (.slice sa5 x.whn.length sc5) ∧ W'.cell? ⟨g, m * 6, none⟩ = some (.string pl.par) ∧ W'.cell? ⟨g, m * 6 + 1, none⟩ = some (.string pl.prt) ∧ W'.cell? ⟨g, m * 6 + 2, none⟩ = some (.int .i64 pl.qty) ∧ W'.cell? ⟨g, m * 6 + 3, none⟩ = some (.int .i64 pl.fr) ∧ W'.cell? ⟨g, m * 6 + 4, none⟩ = some (.int .i64 pl.un) ∧ W'.cell? ⟨g, m * 6 + 5, none⟩ = some (.slice ap pl.whn.length cp))) (by kernel_rfl) (hold12 q0 q1 q2 q3 q4 q5 p0 p1 p2 p3 p4 p5 (Below.refl _ _).drew) (fun hHeld => ?_)
    refine wpAnyH_take (i := 0) (oi := { dst := some 22, op := Op.move (Operand.tmp 8), type := 3, pos := _, after := #[], guard := none }) (v := ?vr2x1) rfl (by kernel_rfl) (by kernel_rfl) (by kernel_rfl) (fun _ _ _ h => h) (Or.inl ⟨by rfl, ?yr2x1⟩) (by assumption) ?rr2x1
    case yr2x1 => (intro w' hSw; (try dsimp only at hSw); go_simp; (try with_reducible rfl))
    refine wpAnyH_take (i := 1) (oi := { dst := some 23, op := Op.binOp BinOp.geq 3 (Operand.tmp 22) (Operand.const (Value.int IntKind.i64 0)) 3, type := 4, pos := _, after := #[{ on := 0, ground := Ground.data }], guard := none }) (v := ?vr2x2) rfl (by kernel_rfl) (by kernel_rfl) (by kernel_rfl) (fun _ _ _ h => h) (Or.inl ⟨by rfl, ?yr2x2⟩) (by assumption) ?rr2x2
    case yr2x2 => (intro w' hSw; (try dsimp only at hSw); go_simp; (try with_reducible rfl))
    refine wpAnyH_take (i := 2) (oi := { dst := some 24, op := Op.move (Operand.tmp 23), type := 4, pos := _, after := #[{ on := 1, ground := Ground.data }], guard := none }) (v := ?vr2x3) rfl (by kernel_rfl) (by kernel_rfl) (by kernel_rfl) (fun _ _ _ h => h) (Or.inl ⟨by rfl, ?yr2x3⟩) (by assumption) ?rr2x3
    case yr2x3 => (intro w' hSw; (try dsimp only at hSw); go_simp; (try with_reducible rfl))
    (try simp only [Act.put, List.setIfInBounds_toArray, List.set_cons_zero, List.set_cons_succ])
    refine wpAnyH_take (i := 3) (oi := { dst := some 25, op := Op.load 36 (Operand.tmp 7), type := 36, pos := _, after := #[{ on := 2, ground := Ground.guard }], guard := some (2, true) }) (v := ?vr2x4) rfl (by kernel_rfl) (by kernel_rfl) (by kernel_rfl) (fun _ _ _ h => h) (Or.inl ⟨by rfl, ?yr2x4⟩) (by assumption) ?rr2x4
    case yr2x4 => (intro w' hSw; (try dsimp only at hSw); go_simp; (try with_reducible rfl))
    refine wpAnyH_take (i := 4) (oi := { dst := some 26, op := Op.move (Operand.tmp 5), type := 25, pos := _, after := #[{ on := 2, ground := Ground.guard }], guard := some (2, true) }) (v := ?vr2x5) rfl (by kernel_rfl) (by kernel_rfl) (by kernel_rfl) (fun _ _ _ h => h) (Or.inl ⟨by rfl, ?yr2x5⟩) (by assumption) ?rr2x5
    case yr2x5 => (intro w' hSw; (try dsimp only at hSw); go_simp; (try with_reducible rfl))
    refine wpAnyH_take (i := 5) (oi := { dst := some 27, op := Op.move (Operand.tmp 8), type := 3, pos := _, after := #[{ on := 2, ground := Ground.guard }], guard := some (2, true) }) (v := ?vr2x6) rfl (by kernel_rfl) (by kernel_rfl) (by kernel_rfl) (fun _ _ _ h => h) (Or.inl ⟨by rfl, ?yr2x6⟩) (by assumption) ?rr2x6
    case yr2x6 => (intro w' hSw; (try dsimp only at hSw); go_simp; (try with_reducible rfl))
    (try simp only [Act.put, List.setIfInBounds_toArray, List.set_cons_zero, List.set_cons_succ])
    refine wpAnyH_take (i := 6) (oi := { dst := some 28, op := Op.indexAddr 25 (Operand.tmp 26) (Operand.tmp 27), type := 0, pos := _, after := #[{ on := 4, ground := Ground.data }, { on := 5, ground := Ground.data }, { on := 2, ground := Ground.guard }], guard := some (2, true) }) (v := ?vr2x7) rfl (by kernel_rfl) (by kernel_rfl) (by kernel_rfl) (fun _ _ _ h => h) (Or.inl ⟨by rfl, ?yr2x7⟩) (by assumption) ?rr2x7
    case yr2x7 => (intro w' hSw; (try dsimp only at hSw); go_simp; (try with_reducible rfl))
    refine wpAnyH_take (i := 7) (oi := { dst := some 29, op := Op.load 36 (Operand.tmp 28), type := 36, pos := _, after := #[{ on := 6, ground := Ground.data }, { on := 2, ground := Ground.guard }], guard := some (2, true) }) (v := ?vr2x8) rfl (by kernel_rfl) (by kernel_rfl) (by kernel_rfl) (fun _ _ _ h => h) (Or.inl ⟨by rfl, ?yr2x8⟩) (by assumption) ?rr2x8
    case yr2x8 => (intro w' hSw; (try dsimp only at hSw); go_simp; (try with_reducible rfl))
    (try simp only [Act.put, List.setIfInBounds_toArray, List.set_cons_zero, List.set_cons_succ])
    refine wpAnyH_ready (rs := [8]) (by kernel_rfl) (by simp) ?_
    refine AllReadyH.cons (o := { dst := some 30, op := Op.call { callee := Callee.value (Operand.func 59), args := #[Operand.tmp 25, Operand.tmp 29], argTypes := #[36, 36] }, type := 4, pos := _, after := #[{ on := 3, ground := Ground.data }, { on := 7, ground := Ground.data }, { on := 2, ground := Ground.chain }, { on := 2, ground := Ground.guard }], guard := some (2, true) }) rfl (fun K hK => ?_) AllReadyH.nil
    go_simp
    refine (HGO.out _ (by first | exact (by assumption : Hid (Below W4.heap.size W4 _) ∧ _).1.out | exact Below.refl _ _ | exact (Below.refl _ _).drew)).mono ?_; rintro e w' ⟨rfl, hb⟩; have hle := hold_le (by assumption) hb
    (try go_wp2_with fail)
    refine hK.out _ _ ?_ (fun hHeld => ?_)
    · (try dsimp only); first | assumption | exact hold12 q0 q1 q2 q3 q4 q5 p0 p1 p2 p3 p4 p5 (hold_call (by assumption) (by assumption))
    clear hK K
    (try simp only [Act.put, List.setIfInBounds_toArray, List.set_cons_zero, List.set_cons_succ])
    refine wpAnyH_take (i := 9) (oi := { dst := some 31, op := Op.pick (Operand.tmp 24) (Operand.tmp 30) (Operand.const (Value.bool false)), type := 4, pos := _, after := #[{ on := 2, ground := Ground.data }, { on := 8, ground := Ground.data }], guard := none }) (v := ?vr2x9) rfl (by kernel_rfl) (by kernel_rfl) (by kernel_rfl) (fun _ _ _ h => h) (Or.inl ⟨by rfl, ?yr2x9⟩) (by assumption) ?rr2x9
    case yr2x9 => (intro w' hSw; (try dsimp only at hSw); go_simp; (try with_reducible rfl))
    (try simp only [Act.put, List.setIfInBounds_toArray, List.set_cons_zero, List.set_cons_succ])
    refine wpAnyH_done (by kernel_rfl) ?_ _
    have hS := (by assumption : Hid (Below W4.heap.size W4 _) ∧ _)
    obtain ⟨w5, hww5⟩ : ∃ W, W = worldI hS := ⟨_, rfl⟩
    simp only [worldI] at hww5
    have hbw5 : Below W4.heap.size W4 w5 := by rw [hww5]; exact hS.1.out
    rw [← hww5]
    clear hww5 hS
    have HOWNX := Lib.hid (HOWN.out.below hbw5)
    have hsX := hbw5.size
    have HB5 := Lib.hid (HB4.out.trans (hbw5.mono HB4.out.size))
    have HO5 := Lib.hid ((HO4.out.below hbw5).topw (top' := w5.heap.size) (by have := hbw5.size; omega))
    have H55 := Lib.hid (H54.out.below CnN.kept hbw5)
    have HY5 := Lib.hid (blk_below HY4.out hbw5)
    clear hbw5
    clear q0 q1 q2 q3 q4 q5 p0 p1 p2 p3 p4 p5 HGO
    by_cases hj : Joins pl x
    rotate_left
    · have HNJ := Lib.hid (HTS.out.2 hj)
      rw [joinB_no hj]
      clear hj HTS HOWN HOWNX HRS HREC HRL HMR
      have q0 := cell_of_row _ _ 0 _ _ _ HY5.out
      have q1 := cell_of_row _ _ 1 _ _ _ HY5.out
      have q2 := cell_of_row _ _ 2 _ _ _ HY5.out
      have q3 := cell_of_row _ _ 3 _ _ _ HY5.out
      have q4 := cell_of_row _ _ 4 _ _ _ HY5.out
      have q5 := cell_of_row _ _ 5 _ _ _ HY5.out
      have HCP := Lib.hid (im_copied x _ 0 _ w5 H55.out HCO.out.1 HCO.out.2)
      go_wp2_with fail
      refine HCP.out.mono ?_
      rintro e w6 ⟨a6, c6, rfl, HOL, HBL⟩
      have HBP := Lib.hid (HB5.out.trans (HBL.out.mono HB5.out.size))
      have HOP := Lib.hid ((HO5.out.below HBL.out))
      have hs6 := HBL.out.size
      have hsW := HB5.out.size
      have hsP := HBP.out.size
      obtain ⟨rs, hrec, hrl, hown⟩ := HOP.out.recs
      have HREC := Lib.hid hrec
      have HRL := Lib.hid hrl
      have HOWN := Lib.hid hown
      clear hrec hrl hown HCP
      have HRW := Lib.hid (HOWN.out.rowL HRL.out)
      go_wp2_with (at_builtin; refine wpList_append_own _ rfl _ _ 25 rfl w.heap.size 36 i0 (.agg #[.string ByteArray.empty, .string ByteArray.empty, .int .i64 0, .int .i64 0, .int .i64 0, .slice none 0 0]) 6 80 Try.underlying25 hi0 hz0 hz1 hz2 rfl (by decide) _ ys.length (flatN rs) rfl (HRW.out.alloc _) ⟨w6.heap.size, 0, none⟩ 1 1 [.string x.par, .string x.prt, .int .i64 x.qty, .int .i64 x.fr, .int .i64 x.un, .slice a6 x.whn.length c6] rfl rfl (new_6 _ _ _ _ _ _ _ _) (by intro u hu; simp at hu; rcases hu with rfl | rfl | rfl | rfl | rfl | rfl <;> rfl) (by unfold maxLen; omega) (by omega) (by simp; omega) ?_)
      intro v7 w7 ho hg _
      obtain ⟨p7, q7, rfl⟩ := own_sliceN ho
      have HOF : Hid (BX.Own w.heap.size w7.heap.size w7 (.slice p7 (ys.length + 1) q7) (ys ++ [x])) := Lib.hid ⟨_, HREC.out.push (x) _, BX.pushR (HOWN.out.below ((Below.refl _ _).alloc (Nat.le_refl _) _)) (HOL.out.alloc _) (RowsB.of HOWN.out) (by omega) (by rw [HRL.out]; exact ho) hg⟩
      have HBF := Lib.hid ((HBP.out.alloc HBP.out.size _).grown hg (by simp; omega) (fun g hg2 => (HRW.out.lt g hg2).1))
      clear ho hg
      go_wp2_with fail
      go_roundw
      case rel => exact ⟨k + 1, ys ++ [x], p7, q7, by have := HLT.out; omega, by go_num, by simp, by simp; omega, Lib.hid (by rw [HT.out, ← HY.out]; exact (HNJ.out).symm), by simpa using HOF, HBF⟩
      case measure => have := HLT.out; simp [intOf]; omega
    have HNJ := Lib.hid (HTS.out.1 hj)
    rw [joinB_yes hj]
    clear hj HTS
    have q4 := cell_of_row _ _ 4 _ _ _ HY5.out
    obtain ⟨⟨z4, hz4⟩, fz4⟩ := HOWNX.out.cellw m HMR.out 4 (by omega)
    have HSF := Lib.hid (HOWNX.out.setc (by decide) m HMR.out 4 (by omega) (by decide) (.int .i64 x.un))
    have HBF := Lib.hid (HB5.out.setCell (p := ⟨g, m * 6 + 4, none⟩) hgb (.int .i64 x.un))
    have HOF := Lib.hid (show BX.Own w.heap.size _ _ _ (ys.set m { pl with un := x.un }) from ⟨_, HRS.out x.un, HSF.out⟩)
    have HLEN : Hid ((ys.set m { pl with un := x.un }).length = ys.length) := Lib.hid (by simp)
    go_wp2_with fail
    go_roundw
    case rel => exact ⟨k + 1, ys.set m { pl with un := x.un }, some ⟨g, 0, none⟩, q, by have := HLT.out; omega, by go_num, by rw [HLEN.out], by rw [HLEN.out]; omega, Lib.hid (by rw [HT.out, ← HY.out]; exact HNJ.out.symm), by rw [HLEN.out]; exact Lib.hid (HOF.out.topw (by simp; omega)), HBF⟩
    case measure => have := HLT.out; simp [intOf]; omega
theorem im_tidyLines : ImplTidyLines := fun v v2 l ls lo hi w h hm hs h2 hs2 => im_tidyLines' v v2 l ls lo hi w h h2 hm hs hs2
end Go.Proofs.Ytdhldokpojghdaa


