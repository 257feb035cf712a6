/-
  The model's UnitsFrom, FactorOf, ConvertUp and ConvertDown.
-/
import Derived.Test.YtaomjggamamckaaRows
import Derived.Test.YtaomjggamamckaaRules
import Derived.Test.YtaomjggamamckaaTabLib
import Derived.Test.YtaomjggamamckaaUnitLib
import Derived.Test.YtaomjggamamckaaReach
import Derived.Test.YtaomjggamamckaaTab
import Derived.Test.YtaomjggamamckaaRuleOk
import Derived.Test.YtaomjggamamckaaFind
import Derived.Test.YtaomjggamamckaaIsCodeWalkA
import Derived.Test.YtaomjggamamckaaResKit
import Derived.Test.YtaomjggamamckaaHold
import Derived.WalkKit
import Derived.WalkSpells
import Derived.WalkSmall
import Derived.BigQuiet
import Derived.Deep.QuietTactic
import Derived.Deep.DeepCutAuto
import Derived.IntWalk
import Derived.Lib.Hide
namespace Go.Proofs.Ytaomjggamamckaa
open Go.RowKit

/-- What is asked of the arguments. -/
structure TabArg (w : World) (v : Value) (rs : List UR) : Prop where
  rules : Rules w v rs
  len : rs.length ≤ 1048577
  sz : ∀ r, r ∈ rs → r.src.size ≤ maxLen ∧ r.dst.size ≤ maxLen
theorem TabArg.below {w w' : World} {v : Value} {rs : List UR} (h : TabArg w v rs) (hb : Below w.heap.size w w') : TabArg w' v rs := ⟨h.rules.below hb, h.len, h.sz⟩

/-- Texts are returned. -/
def StrsRes (ns : List ByteArray) (w : World) (e : Ending) (w' : World) : Prop := ∃ v, e = .returned v ∧ Strs w' v ns ∧ Below w.heap.size w w'

set_option maxRecDepth 100000 in
set_option maxHeartbeats 1000000 in
theorem spec_units (v : Value) (rs : List UR) (a : ByteArray) (w : World) (h : TabArg w v rs) (ha : a.size ≤ maxLen) :
    Calls Try.prog 27 #[v, .string a] w (StrsRes (unitsR rs a) w) := by
  have H := Lib.hid h
  have SA := Lib.hid ha
  obtain ⟨a', c', rfl⟩ := h.rules.slice
  clear h ha
  have HT := Lib.hid (spec_tab _ rs w H.out.rules H.out.len H.out.sz)
  rcases Bool.eq_false_or_eq_true (tabB rs) with ht | ht
  rotate_left
  · have HY := Lib.hid (unitsR_no1 (a := a) ht)
    rw [ht] at HT
    clear ht
    go_enter Try.func27, Try.ntmps27
    go_wp2_with fail
    refine HT.out.mono ?_
    rintro e w1 ⟨rfl, hb⟩
    go_wp2_with fail
    go_ret
    exact ⟨_, rfl, by rw [HY.out]; exact Or.inl ⟨rfl, _, _, rfl⟩, hb.alloc hb.size _⟩
  have H12 := Lib.hid (tabB_iff.1 ht).1
  rcases Bool.eq_false_or_eq_true (isCode.codeB a) with hc | hc
  rotate_left
  · have HY := Lib.hid (unitsR_no2 (rs := rs) hc)
    have HC := Lib.hid hc
    rw [ht] at HT
    clear ht hc
    go_enter Try.func27, Try.ntmps27
    go_wp2_with fail
    refine HT.out.mono ?_
    rintro e w1 ⟨rfl, hb⟩
    go_wp2_with fail
    refine (isCode.spec_walk a _ SA.out).mono ?_
    rintro e w2 ⟨rfl, rfl⟩
    rw [HC.out]
    go_wp2_with fail
    go_ret
    exact ⟨_, rfl, by rw [HY.out]; exact Or.inl ⟨rfl, _, _, rfl⟩, hb.alloc hb.size _⟩
  · have HY := Lib.hid (unitsR_yes ht hc)
    have HC := Lib.hid hc
    rw [ht] at HT
    clear ht hc
    go_enter Try.func27, Try.ntmps27
    go_wp2_with fail
    refine HT.out.mono ?_
    rintro e w1 ⟨rfl, hb⟩
    go_wp2_with fail
    refine (isCode.spec_walk a _ SA.out).mono ?_
    rintro e w2 ⟨rfl, rfl⟩
    rw [HC.out]
    go_wp2_with fail
    refine (spec_reach _ rs a _ (H.out.rules.below hb) H12.out).mono ?_
    rintro e w3 ⟨v1, v2, rfl, hs, he, hb3⟩
    go_wp2_with fail
    go_ret
    exact ⟨_, rfl, by rw [HY.out]; exact hs, hb.trans (hb3.mono hb.size)⟩

/-- A factor is returned, and whether there is one. -/
def FacRes (f : (Int × Int) × Bool) (w : World) (e : Ending) (w' : World) : Prop := ∃ (n d : Int) (y : Bool), e = .returned (.tuple #[.agg #[.int .i64 n, .int .i64 d], .bool y]) ∧ Hid (f = ((n, d), y)) ∧ Below w.heap.size w w'

set_option maxRecDepth 100000 in
set_option maxHeartbeats 1000000 in
theorem spec_factor (v : Value) (rs : List UR) (a b : ByteArray) (w : World) (h : TabArg w v rs) (ha : a.size ≤ maxLen) (hb' : b.size ≤ maxLen) :
    Calls Try.prog 13 #[v, .string a, .string b] w (FacRes (facR rs a b) w) := by
  have HBA : Below w.heap.size w (w.alloc (.cells #[.int .i64 0, .int .i64 0] 28)) := (Below.refl _ _).alloc (Nat.le_refl _) _
  have HRA := heap_alloc_new w (.cells #[.int .i64 0, .int .i64 0] 28)
  have H := Lib.hid (h.below HBA)
  have SA := Lib.hid ha
  have SB := Lib.hid hb'
  obtain ⟨a', c', rfl⟩ := h.rules.slice
  clear h ha hb'
  have HT := Lib.hid (spec_tab _ rs _ H.out.rules H.out.len H.out.sz)
  go_enter Try.func13, Try.ntmps13
  go_wp2_with fail
  generalize w.alloc (.cells #[.int .i64 0, .int .i64 0] 28) = wa at *
  refine HT.out.mono ?_
  rintro e w1 ⟨rfl, hb⟩
  have HR1 := blk_below HRA hb
  have HB1 := Lib.hid (HBA.trans (hb.mono HBA.size))
  have H1 := Lib.hid (H.out.below hb)
  have q0 := cell_of_row _ _ 0 _ _ _ HR1
  have q1 := cell_of_row _ _ 1 _ _ _ HR1
  have qf0 := frozen_of_row _ _ 0 _ _ HR1
  have qf1 := frozen_of_row _ _ 1 _ _ HR1
  clear hb HT HRA HBA
  rcases Bool.eq_false_or_eq_true (tabB rs) with ht | ht
  rotate_left
  · have HY := Lib.hid (facR_no1 (a := a) (b := b) ht)
    rw [ht]
    clear ht
    go_wp2_with fail
    exact bodyPost_ret (v := .tuple #[.agg #[.int .i64 0, .int .i64 0], .bool false]) (results_cell_row_slot Try.results13 _ _ _ _ _ _ _ _ rfl rfl (blk_set2 HR1) Try.underlying28 rfl (by kernel_rfl)) rfl ⟨0, 0, false, rfl, HY, (HB1.out.setCell (Nat.le_refl _) _).setCell (Nat.le_refl _) _⟩
  have HTT := Lib.hid ht
  have HTI := Lib.hid (tabB_iff.1 ht)
  rw [ht]
  clear ht
  rcases Bool.eq_false_or_eq_true (isCode.codeB a) with hc | hc
  rotate_left
  · have HY := Lib.hid (facR_no2 (rs := rs) (b := b) hc)
    have HC := Lib.hid hc
    clear hc
    go_wp2_with fail
    refine (isCode.spec_walk a _ SA.out).mono ?_
    rintro e w2 ⟨rfl, rfl⟩
    rw [HC.out]
    go_wp2_with fail
    exact bodyPost_ret (v := .tuple #[.agg #[.int .i64 0, .int .i64 0], .bool false]) (results_cell_row_slot Try.results13 _ _ _ _ _ _ _ _ rfl rfl (blk_set2 HR1) Try.underlying28 rfl (by kernel_rfl)) rfl ⟨0, 0, false, rfl, HY, (HB1.out.setCell (Nat.le_refl _) _).setCell (Nat.le_refl _) _⟩
  have HCA := Lib.hid hc
  clear hc
  rcases Bool.eq_false_or_eq_true (isCode.codeB b) with hc | hc
  rotate_left
  · have HY := Lib.hid (facR_no3 (rs := rs) (a := a) hc)
    have HC := Lib.hid hc
    clear hc
    go_wp2_with fail
    refine (isCode.spec_walk a _ SA.out).mono ?_
    rintro e w2 ⟨rfl, rfl⟩
    rw [HCA.out]
    go_wp2_with fail
    refine (isCode.spec_walk b _ SB.out).mono ?_
    rintro e w2 ⟨rfl, rfl⟩
    rw [HC.out]
    go_wp2_with fail
    exact bodyPost_ret (v := .tuple #[.agg #[.int .i64 0, .int .i64 0], .bool false]) (results_cell_row_slot Try.results13 _ _ _ _ _ _ _ _ rfl rfl (blk_set2 HR1) Try.underlying28 rfl (by kernel_rfl)) rfl ⟨0, 0, false, rfl, HY, (HB1.out.setCell (Nat.le_refl _) _).setCell (Nat.le_refl _) _⟩
  have HCB := Lib.hid hc
  clear hc
  have HIN := Lib.hid (facR_in (a := a) (b := b) HTT.out HCA.out HCB.out)
  have HPL := Lib.hid (reachU_len rs a)
  go_wp2_with fail
  refine (isCode.spec_walk a _ SA.out).mono ?_
  rintro e w2 ⟨rfl, rfl⟩
  rw [HCA.out]
  go_wp2_with fail
  refine (isCode.spec_walk b _ SB.out).mono ?_
  rintro e w2 ⟨rfl, rfl⟩
  rw [HCB.out]
  go_wp2_with fail
  refine (spec_reach _ rs a _ H1.out.rules HTI.out.1).mono ?_
  rintro e w3 ⟨v1, v2, rfl, hs, he, hb3⟩
  obtain ⟨ps, hps⟩ : ∃ ps, reachU rs a = ps := ⟨_, rfl⟩
  rw [hps] at hs he HPL HIN
  clear hps
  have hp25 : ps.length ≤ 25 := by have := HPL.out; have := HTI.out.1; omega
  obtain ⟨p1, k1, rfl⟩ := hs.slice
  obtain ⟨p2, k2, rfl⟩ := he.slice
  have HS := Lib.hid hs
  have HE := Lib.hid he
  have HR3 := blk_below HR1 hb3
  have HB3 := Lib.hid (HB1.out.trans (hb3.mono HB1.out.size))
  clear hs he hb3 HR1 HB1 H1 q0 q1 qf0 qf1
  go_wp2_with fail
  refine (spec_find _ (namesOf ps) b _ HS.out (by rw [namesOf_length]; omega)).mono ?_
  rintro e w4 ⟨rfl, hb4⟩
  have HR4 := blk_below HR3 hb4
  have HB4 := Lib.hid (HB3.out.trans (hb4.mono HB3.out.size))
  have HE4 := Lib.hid (HE.out.below hb4)
  clear hb4 HR3 HB3 HS HE
  have q0 := cell_of_row _ _ 0 _ _ _ HR4
  have q1 := cell_of_row _ _ 1 _ _ _ HR4
  have qf0 := frozen_of_row _ _ 0 _ _ HR4
  have qf1 := frozen_of_row _ _ 1 _ _ HR4
  by_cases hf : fndI (namesOf ps) b < 0
  · have HY : Hid (facR rs a b = ((0, 0), false)) := Lib.hid (by rw [HIN.out, if_pos hf])
    have bf := decide_eq_true hf
    clear hf
    generalize fndI (namesOf ps) b = z at *
    go_wp2_with fail
    exact bodyPost_ret (v := .tuple #[.agg #[.int .i64 0, .int .i64 0], .bool false]) (results_cell_row_slot Try.results13 _ _ _ _ _ _ _ _ rfl rfl (blk_set2 HR4) Try.underlying28 rfl (by kernel_rfl)) rfl ⟨0, 0, false, rfl, HY, (HB4.out.setCell (Nat.le_refl _) _).setCell (Nat.le_refl _) _⟩
  · have HY : Hid (facR rs a b = (facI ps (fndI (namesOf ps) b), true)) := Lib.hid (by rw [HIN.out, if_neg hf])
    obtain ⟨k, hk, hz⟩ := fnd_in hf
    rw [hz] at HY
    have hkf : k < (facsOf ps).length := by rw [facsOf_length]; rw [namesOf_length] at hk; exact hk
    rw [hz]
    obtain ⟨b3, o3, c3, hv3, hc3, hcell3⟩ := HE4.out.some (by omega)
    simp only [Value.slice.injEq] at hv3
    obtain ⟨rfl, hl3, rfl⟩ := hv3
    have e1 := hcell3.fst k hkf
    have e2 := hcell3.snd k hkf
    rw [facI_get hkf] at e1 e2
    have bf : decide ((k : Int) < 0) = false := decide_eq_false (by omega)
    clear hf hz hcell3 hc3 hl3 hk HIN
    obtain ⟨n, d, hnd⟩ : ∃ n d, facI ps (k : Int) = (n, d) := ⟨_, _, rfl⟩
    rw [hnd] at HY e1 e2
    clear hnd
    go_wp2_with fail
    exact bodyPost_ret (v := .tuple #[.agg #[.int .i64 n, .int .i64 d], .bool true]) (results_cell_row_slot Try.results13 _ _ _ _ _ _ _ _ rfl rfl (blk_set2 HR4) Try.underlying28 rfl (by kernel_rfl)) rfl ⟨n, d, true, rfl, HY, (HB4.out.setCell (Nat.le_refl _) _).setCell (Nat.le_refl _) _⟩
end Go.Proofs.Ytaomjggamamckaa
