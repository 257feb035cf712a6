/-
  ParentsOf: the model's and the program's.
-/
import Derived.Test.YtmnncinpepeocaaBillLines
import Derived.Test.YtmnncinpepeocaaBuA
import Derived.WalkKit
import Derived.WalkSpells
import Derived.WalkSmall
import Derived.BigQuiet
import Derived.OneCell
import Derived.Deep.QuietTactic
import Derived.Deep.DeepCutAuto
import Derived.Deep.RegionHeld3
import Derived.Laws.OwnMore
import Derived.Lib.Hide
namespace Go.Proofs.Ytmnncinpepeocaa
open Go.RowKit

theorem infoSt : (Try.prog.info? 9).map (fun i => (i.zero, i.size, i.bytes)) = some (some (.string ByteArray.empty), 1, 16) := by kernel_rfl
theorem hasB_no1 {c prt : ByteArray} {day : Int} {ps : List PK} {x : BL} (h : ¬x.par = c) : hasB c prt day ps x = false := by unfold hasB; rw [decide_eq_false h]; rfl
theorem hasB_no2 {c prt : ByteArray} {day : Int} {ps : List PK} {x : BL} (h : ¬x.prt = prt) : hasB c prt day ps x = false := by unfold hasB; rw [decide_eq_false h]; simp
theorem hasB_is {c prt : ByteArray} {day : Int} {ps : List PK} {x : BL} (h : x.par = c) (h2 : x.prt = prt) : hasB c prt day ps x = onB x day ps := by unfold hasB; rw [decide_eq_true h, decide_eq_true h2]; rfl
/-- The parents among the first k items. -/
noncomputable def parTo (l : List IT) (xs : List BL) (prt : ByteArray) (day : Int) (ps : List PK) (k : Nat) : List ByteArray := ((l.take k).filter (parB xs prt day ps)).map IT.code
theorem parTo_zero (l : List IT) (xs : List BL) (prt : ByteArray) (day : Int) (ps : List PK) : parTo l xs prt day ps 0 = [] := by simp [parTo]
theorem parTo_succ {l : List IT} {xs : List BL} {prt : ByteArray} {day : Int} {ps : List PK} {k : Nat} (hk : k < l.length) : parTo l xs prt day ps (k + 1) = parTo l xs prt day ps k ++ (if parB xs prt day ps (l[k]'hk) then [(l[k]'hk).code] else []) := by
  unfold parTo
  rw [filter_take_succ hk, List.map_append]
  cases parB xs prt day ps (l[k]'hk) <;> simp
theorem parTo_all {l : List IT} {xs : List BL} {prt : ByteArray} {day : Int} {ps : List PK} {k : Nat} (hk : l.length ≤ k) (h : billsB l xs = true) : parTo l xs prt day ps k = parentsR l xs prt day ps := by
  unfold parTo parentsR
  rw [List.take_of_length_le hk, if_pos h]
theorem parentsR_no {l : List IT} {xs : List BL} {prt : ByteArray} {day : Int} {ps : List PK} (h : billsB l xs = false) : parentsR l xs prt day ps = [] := if_neg (by rw [h]; decide)
/-- Codes of the call's own. -/
def NmRes (ns : List ByteArray) (w : World) (e : Ending) (w' : World) : Prop := ∃ v', e = .returned v' ∧ Hid (w'.ownsRow w.heap.size 9 1 v' ns.length (ns.map Value.string)) ∧ Hid (Below w.heap.size w w')

/-- What the program's function literal asks of a line. -/
def fpVal (g : Nat) (g1 g2 g3 : Nat) : Value := .func (.func 46) #[] #[.pointer (some ⟨g, 0, none⟩), .pointer (some ⟨g1, 0, none⟩), .pointer (some ⟨g2, 0, none⟩), .pointer (some ⟨g3, 0, none⟩)]
/-- The boxes that it reads. -/
def FpAt (it : IT) (prt : ByteArray) (day : Int) (v3 : Value) (ps : List PK) (g g1 g2 g3 : Nat) (w : World) : Prop :=
  w.heap[g]? = some (.cells #[.string it.code, .string it.unt, .int .i64 it.kind, .int .i64 it.lead, .int .i64 it.rule, .int .i64 it.lsz, .int .i64 it.safe, .int .i64 it.scr] 34) ∧ w.heap[g1]? = some (.cells #[.string prt] 9) ∧ w.heap[g2]? = some (.cells #[.int .i64 day] 3) ∧ w.heap[g3]? = some (.cells #[v3] 26) ∧ PK.Is w v3 ps
theorem FpAt.below {it : IT} {prt : ByteArray} {day : Int} {v3 : Value} {ps : List PK} {g g1 g2 g3 : Nat} {w w' : World} (h : FpAt it prt day v3 ps g g1 g2 g3 w) (hb : Below w.heap.size w w') : FpAt it prt day v3 ps g g1 g2 g3 w' :=
  ⟨blk_below h.1 hb, blk_below h.2.1 hb, blk_below h.2.2.1 hb, blk_below h.2.2.2.1 hb, h.2.2.2.2.below hb⟩

set_option maxRecDepth 100000 in
set_option maxHeartbeats 2000000 in
theorem im_leads (it : IT) (prt : ByteArray) (day : Int) (v3 : Value) (ps : List PK) (g g1 g2 g3 : Nat) (x : BL) (u5 : Value) (lo hi : Nat) (w : World) (h : FpAt it prt day v3 ps g g1 g2 g3 w) (hm : ps.length ≤ maxLen) (h5 : CX lo hi w u5 x.whn) (hs : CX.Sz x.whn) :
    Calls Try.prog 46 #[.agg #[.string x.par, .string x.prt, .int .i64 x.qty, .int .i64 x.fr, .int .i64 x.un, u5], .pointer (some ⟨g, 0, none⟩), .pointer (some ⟨g1, 0, none⟩), .pointer (some ⟨g2, 0, none⟩), .pointer (some ⟨g3, 0, none⟩)] w (BoolRes (hasB it.code prt day ps x) w) := by
  obtain ⟨sa5, sc5, rfl⟩ := h5.slice
  obtain ⟨pa, pc, rfl⟩ := h.2.2.2.2.slice
  obtain ⟨W1, hW1⟩ : ∃ W, w.alloc (.cells #[.string x.par, .string x.prt, .int .i64 x.qty, .int .i64 x.fr, .int .i64 x.un, .slice sa5 x.whn.length sc5] 37) = W := ⟨_, rfl⟩
  have HBX : Hid (W1.heap[w.heap.size]? = some (.cells #[.string x.par, .string x.prt, .int .i64 x.qty, .int .i64 x.fr, .int .i64 x.un, .slice sa5 x.whn.length sc5] 37)) := Lib.hid (by rw [← hW1]; exact heap_alloc_new _ _)
  have hBA : Below w.heap.size w W1 := by rw [← hW1]; exact (Below.refl _ _).alloc (Nat.le_refl _) _
  have HB := Lib.hid hBA
  have hf := h.below hBA
  have HON := Lib.hid (im_on x (.slice sa5 x.whn.length sc5) (.slice pa ps.length pc) day ps lo hi W1 (h5.below CnN.kept hBA) hs hf.2.2.2.2 hm)
  have k0 := cell_of_row _ _ 0 _ _ _ hf.1
  have k1 := cell_of_row _ _ 0 _ _ _ hf.2.1
  have k2 := cell_of_row _ _ 0 _ _ _ hf.2.2.1
  have k3 := cell_of_row _ _ 0 _ _ _ hf.2.2.2.1
  have q0 := cell_of_row _ _ 0 _ _ _ HBX.out
  have q1 := cell_of_row _ _ 1 _ _ _ HBX.out
  have q2 := cell_of_row _ _ 2 _ _ _ HBX.out
  have q3 := cell_of_row _ _ 3 _ _ _ HBX.out
  have q4 := cell_of_row _ _ 4 _ _ _ HBX.out
  have q5 := cell_of_row _ _ 5 _ _ _ HBX.out
  have HW1 := Lib.hid hW1
  clear h h5 hs hf hW1 hBA HBX
  by_cases hp : x.par = it.code
  rotate_left
  · have HY := Lib.hid (hasB_no1 (prt := prt) (day := day) (ps := ps) hp)
    have hq := str_ne hp
    clear hp
    go_enter Try.func46, Try.ntmps46
    go_upto_region 1 with fail
    rw [HW1.out]
    go_wp2_with fail
    go_ret
    exact ⟨by rw [HY.out]; rfl, HB.out⟩
  have hq := str_eq hp
  by_cases hp2 : x.prt = prt
  rotate_left
  · have HY := Lib.hid (hasB_no2 (c := it.code) (day := day) (ps := ps) hp2)
    have hq2 := str_ne hp2
    clear hp hp2
    go_enter Try.func46, Try.ntmps46
    go_upto_region 1 with fail
    rw [HW1.out]
    go_wp2_with fail
    go_ret
    exact ⟨by rw [HY.out]; rfl, HB.out⟩
  have HY := Lib.hid (hasB_is (day := day) (ps := ps) hp hp2)
  have hq2 := str_eq hp2
  clear hp hp2
  go_enter Try.func46, Try.ntmps46
  go_upto_region 1 with fail
  rw [HW1.out]
  go_wp2_with fail
  refine HON.out.mono ?_
  rintro e w2 ⟨rfl, hb⟩
  have HB2 := Lib.hid (HB.out.trans (hb.mono HB.out.size))
  clear hb
  obtain ⟨z, hz⟩ : ∃ z, onB x day ps = z := ⟨_, rfl⟩
  rw [hz] at HY ⊢
  clear hz
  go_wp2_with fail
  go_ret
  exact ⟨by rw [HY.out]; rfl, HB2.out⟩

set_option maxRecDepth 100000 in
set_option maxHeartbeats 2000000 in
theorem im_indexL (it : IT) (prt : ByteArray) (day : Int) (v3 : Value) (ps : List PK) (g g1 g2 g3 : Nat) (v2 : Value) (xs : List BL) (lo hi : Nat) (w : World) (h : FpAt it prt day v3 ps g g1 g2 g3 w) (hm : ps.length ≤ maxLen) (h2 : BX lo hi w v2 xs) (hs : BX.Sz xs) :
    Calls Try.prog 93 #[v2, .func (.func 46) #[] #[.pointer (some ⟨g, 0, none⟩), .pointer (some ⟨g1, 0, none⟩), .pointer (some ⟨g2, 0, none⟩), .pointer (some ⟨g3, 0, none⟩)]] w (IdxRes (parB xs prt day ps it) w) := by
  have HX := Lib.hid h2
  have HF := Lib.hid h
  have HS2 := Lib.hid hs
  have hm2 := hs.1
  unfold maxLen at hm2
  obtain ⟨a2, c2, rfl⟩ := h2.slice
  clear h h2 hs
  go_enter Try.func93, Try.ntmps93
  go_wp2_with fail
  go_loopw [8] (fun i wr => ∃ k : Nat, k ≤ xs.length ∧ i = .int .i64 k ∧ Hid ((xs.take k).any (hasB it.code prt day ps) = false) ∧ Hid (Below w.heap.size w wr)) (fun i _ => xs.length - (intOf i).toNat)
  case atStart => exact ⟨0, Nat.zero_le _, rfl, Lib.hid (by simp), Lib.hid (Below.refl _ _)⟩
  case round =>
    obtain ⟨k, hk, rfl, HN, HB⟩ := hrel
    by_cases hlt : k < xs.length
    rotate_left
    · have HY : Hid (parB xs prt day ps it = false) := Lib.hid (by
        have h1 := HN.out
        rw [List.take_of_length_le (by omega)] at h1
        exact h1)
      go_wp2_with fail
      go_ret
      exact ⟨-1, rfl, (fun h => by rw [HY.out] at h; cases h), fun _ => by decide, HB.out⟩
    have HLT := Lib.hid hlt
    have HMEM := Lib.hid (List.getElem_mem hlt)
    have HT : Hid ((xs.take (k + 1)).any (hasB it.code prt day ps) = ((xs.take k).any (hasB it.code prt day ps) || hasB it.code prt day ps (xs[k]'hlt))) := Lib.hid (any_take_succ hlt)
    obtain ⟨b2, o2, c2', cs, hv2, hc2, hb2, hcl, hr5, hcell⟩ := (HX.out.below BLN.kept HB.out).get k hlt
    simp only [Value.slice.injEq] at hv2
    obtain ⟨rfl, _, rfl⟩ := hv2
    obtain ⟨u5, rfl, h5⟩ := hr5
    obtain ⟨sa5, sc5, rfl⟩ := h5.slice
    have e0 := hcell 0 (by omega)
    have e1 := hcell 1 (by omega)
    have e2 := hcell 2 (by omega)
    have e3 := hcell 3 (by omega)
    have e4 := hcell 4 (by omega)
    have e5 := hcell 5 (by omega)
    simp only [List.getElem?_cons_zero, List.getElem?_cons_succ, Nat.add_zero] at e0 e1 e2 e3 e4 e5
    have HSZ := Lib.hid (HS2.out.2 _ (List.getElem_mem hlt))
    have H5 := Lib.hid h5
    clear hcell h5 hc2 hb2 hcl
    generalize xs[k]'hlt = x at *
    have HL := Lib.hid (im_leads it prt day v3 ps g g1 g2 g3 x (.slice sa5 x.whn.length sc5) lo hi wr (HF.out.below HB.out) hm H5.out HSZ.out.2.2)
    go_wp2_with fail
    refine HL.out.mono ?_
    rintro e w2 ⟨rfl, hb⟩
    have HB2 := Lib.hid (HB.out.trans (hb.mono HB.out.size))
    clear hb HL
    obtain ⟨z, hz⟩ : ∃ z, hasB it.code prt day ps x = z := ⟨_, rfl⟩
    have HZ := Lib.hid hz
    rw [hz]
    clear hz
    cases z with
    | false =>
      have HN2 : Hid ((xs.take (k + 1)).any (hasB it.code prt day ps) = false) := Lib.hid (by rw [HT.out, HN.out, HZ.out]; rfl)
      go_wp2_with fail
      go_roundw
      case rel => exact ⟨k + 1, by have := HLT.out; omega, by go_num, HN2, HB2⟩
      case measure => have := HLT.out; simp [intOf]; omega
    | true =>
      have HY : Hid (parB xs prt day ps it = true) := Lib.hid (by
        unfold parB
        rw [List.any_eq_true]
        exact ⟨x, HMEM.out, HZ.out⟩)
      go_wp2_with fail
      go_ret
      exact ⟨k, rfl, fun _ => by omega, (fun h => by rw [HY.out] at h; cases h), HB2.out⟩

set_option maxRecDepth 100000 in
set_option maxHeartbeats 1000000 in
theorem im_containsL (it : IT) (prt : ByteArray) (day : Int) (v3 : Value) (ps : List PK) (g g1 g2 g3 : Nat) (v2 : Value) (xs : List BL) (lo hi : Nat) (w : World) (h : FpAt it prt day v3 ps g g1 g2 g3 w) (hm : ps.length ≤ maxLen) (h2 : BX lo hi w v2 xs) (hs : BX.Sz xs) :
    Calls Try.prog 48 #[v2, .func (.func 46) #[] #[.pointer (some ⟨g, 0, none⟩), .pointer (some ⟨g1, 0, none⟩), .pointer (some ⟨g2, 0, none⟩), .pointer (some ⟨g3, 0, none⟩)]] w (BoolRes (parB xs prt day ps it) w) := by
  have HI := Lib.hid (im_indexL it prt day v3 ps g g1 g2 g3 v2 xs lo hi w h hm h2 hs)
  obtain ⟨a2, c2, rfl⟩ := h2.slice
  obtain ⟨y, hy⟩ : ∃ y, parB xs prt day ps it = y := ⟨_, rfl⟩
  rw [hy] at HI
  rw [hy]
  clear h h2 hs hy
  go_enter Try.func48, Try.ntmps48
  go_wp2_with fail
  refine HI.out.mono ?_
  rintro e w1 ⟨z, rfl, h1, h2, hb⟩
  have HB := Lib.hid hb
  clear hb
  cases y with
  | true =>
    have hz := h1 rfl
    have hd : decide ((0 : Int) ≤ z) = true := decide_eq_true hz
    clear h1 h2
    go_wp2_with fail
    go_ret
    exact ⟨rfl, HB.out⟩
  | false =>
    have hz := h2 rfl
    have hd : decide ((0 : Int) ≤ z) = false := decide_eq_false (by omega)
    clear h1 h2
    go_wp2_with fail
    go_ret
    exact ⟨rfl, HB.out⟩

set_option maxRecDepth 100000 in
set_option maxHeartbeats 4000000 in
theorem im_parentsOf (v v2 : Value) (l : List IT) (xs : List BL) (prt : ByteArray) (day : Int) (v3 : Value) (ps : List PK) (lo hi : Nat) (w : World) (h : IT.Is w v l) (h2 : BX lo hi w v2 xs) (h3 : PK.Is w v3 ps) (hm : l.length ≤ maxLen) (hs : ∀ r, r ∈ l → IT.Sz r) (hs2 : BX.Sz xs) (hm3 : ps.length ≤ maxLen) :
    Calls Try.prog 10 #[v, v2, .string prt, .int .i64 day, v3] w (NmRes (parentsR l xs prt day ps) w) := by
  obtain ⟨i0, hi0, hz0, hz1, hz2⟩ := info_parts infoSt
  have HI := Lib.hid h
  have HX := Lib.hid h2
  have HP := Lib.hid h3
  have HS := Lib.hid hs
  have HS2 := Lib.hid hs2
  have HM := Lib.hid hm
  have HM3 := Lib.hid hm3
  have hm2 := hs2.1
  unfold maxLen at hm hm2
  obtain ⟨a, c, rfl⟩ := h.slice
  obtain ⟨a2, c2, rfl⟩ := h2.slice
  obtain ⟨pa, pc, rfl⟩ := h3.slice
  obtain ⟨W0, hW0⟩ : ∃ W, ((w.alloc (.cells #[.string prt] 9)).alloc (.cells #[.int .i64 day] 3)).alloc (.cells #[.slice pa ps.length pc] 26) = W := ⟨_, rfl⟩
  obtain ⟨hB0, hsz, hG1, hG2, hG3⟩ := alloc3 w (.cells #[.string prt] 9) (.cells #[.int .i64 day] 3) (.cells #[.slice pa ps.length pc] 26)
  rw [hW0] at hB0 hsz hG1 hG2 hG3
  have HG1 := Lib.hid hG1
  have HG2 := Lib.hid hG2
  have HG3 := Lib.hid hG3
  have HW0 := Lib.hid hW0
  have HBB := Lib.hid hB0
  have HCK := Lib.hid (im_bills _ _ l xs lo hi W0 (h.below hB0) (h2.below BLN.kept hB0) HM.out hs hs2)
  clear h h2 h3 hs hs2 hG1 hG2 hG3 hW0 hsz hB0
  rcases Bool.eq_false_or_eq_true (billsB l xs) with hc | hc
  rotate_left
  · have HE : Hid (parentsR l xs prt day ps = []) := Lib.hid (parentsR_no hc)
    rw [hc] at HCK
    clear hc
    go_enter Try.func10, Try.ntmps10
    go_upto_region 1 with fail
    rw [HW0.out]
    go_wp2_with fail
    refine HCK.out.mono ?_
    rintro e w1 ⟨rfl, hb⟩
    have HB1 := Lib.hid (HBB.out.trans (hb.mono HBB.out.size))
    clear hb
    go_wp2_with fail
    go_ret
    exact ⟨_, rfl, by rw [HE.out]; exact Lib.hid ⟨rfl, Or.inl ⟨rfl, rfl⟩⟩, HB1⟩
  have HBT := Lib.hid hc
  have h12 := (billsB_iff.1 hc).1.1.2
  rw [hc] at HCK
  clear hc
  go_enter Try.func10, Try.ntmps10
  go_upto_region 1 with fail
  rw [HW0.out]
  go_wp2_with fail
  refine HCK.out.mono ?_
  rintro e w0 ⟨rfl, hb⟩
  have HB0 := Lib.hid (HBB.out.trans (hb.mono HBB.out.size))
  have HG1 := Lib.hid (blk_below HG1.out hb)
  have HG2 := Lib.hid (blk_below HG2.out hb)
  have HG3 := Lib.hid (blk_below HG3.out hb)
  clear hb HCK HBB HW0
  have HO0 : Hid (w0.ownsRow (w.heap.size + 3) 9 1 (.slice none 0 0) 0 []) := Lib.hid ⟨rfl, Or.inl ⟨rfl, rfl⟩⟩
  go_wp2_with fail
  go_loopw [11, 21] (fun s i wr => ∃ (k : Nat) (ns : List ByteArray) (p : Option Addr) (q : Nat), k ≤ l.length ∧ i = .int .i64 k ∧ s = .slice p ns.length q ∧ ns.length ≤ k ∧ Hid (ns = parTo l xs prt day ps k) ∧ Hid (wr.ownsRow (w.heap.size + 3) 9 1 (.slice p ns.length q) ns.length (ns.map Value.string)) ∧ Hid (wr.heap[w.heap.size]? = some (.cells #[.string prt] 9)) ∧ Hid (wr.heap[w.heap.size + 1]? = some (.cells #[.int .i64 day] 3)) ∧ Hid (wr.heap[w.heap.size + 1 + 1]? = some (.cells #[.slice pa ps.length pc] 26)) ∧ Hid (Below w.heap.size w wr)) (fun _ i _ => l.length - (intOf i).toNat)
  case atStart => exact ⟨0, [], _, _, Nat.zero_le _, rfl, rfl, Nat.le_refl _, Lib.hid (parTo_zero _ _ _ _ _).symm, HO0, HG1, HG2, HG3, HB0⟩
  case round =>
    clear HO0 HB0 HG1 HG2 HG3
    obtain ⟨k, ns, p, q, hk, rfl, rfl, hnk, HY, HO, HG1, HG2, HG3, HB⟩ := hrel
    by_cases hlt : k < l.length
    rotate_left
    · have HE2 : Hid (ns = parentsR l xs prt day ps) := Lib.hid (by rw [HY.out]; exact parTo_all (by omega) HBT.out)
      go_wp2_with fail
      go_ret
      exact ⟨_, rfl, by rw [← HE2.out]; exact Lib.hid (own_lowerN HO.out (by omega)), HB⟩
    have HLT := Lib.hid hlt
    have HT : Hid (parTo l xs prt day ps (k + 1) = parTo l xs prt day ps k ++ (if parB xs prt day ps (l[k]'hlt) then [(l[k]'hlt).code] else [])) := Lib.hid (parTo_succ hlt)
    obtain ⟨b2, o2, c2', hv2, hc2, hcell2⟩ := HI.out.some (by omega)
    simp only [Value.slice.injEq] at hv2
    obtain ⟨rfl, _, rfl⟩ := hv2
    obtain ⟨e0, e1, e2, e3, e4, e5, e6, e7⟩ := (hcell2.below HB.out).at k hlt
    clear hcell2 hc2
    generalize l[k]'hlt = it at *
    obtain ⟨W1, hW1⟩ : ∃ W, wr.alloc (.cells #[.string it.code, .string it.unt, .int .i64 it.kind, .int .i64 it.lead, .int .i64 it.rule, .int .i64 it.lsz, .int .i64 it.safe, .int .i64 it.scr] 34) = W := ⟨_, rfl⟩
    have HW1 := Lib.hid hW1
    have HA : Hid (W1.heap[wr.heap.size]? = some (.cells #[.string it.code, .string it.unt, .int .i64 it.kind, .int .i64 it.lead, .int .i64 it.rule, .int .i64 it.lsz, .int .i64 it.safe, .int .i64 it.scr] 34)) := Lib.hid (by rw [← hW1]; exact heap_alloc_new _ _)
    have hBA : Below wr.heap.size wr W1 := by rw [← hW1]; exact (Below.refl _ _).alloc (Nat.le_refl _) _
    have HO1 := Lib.hid (own_keepL HO.out hBA)
    have HB1 := Lib.hid (HB.out.trans (hBA.mono HB.out.size))
    have HGG1 := Lib.hid (blk_below HG1.out hBA)
    have HGG2 := Lib.hid (blk_below HG2.out hBA)
    have HGG3 := Lib.hid (blk_below HG3.out hBA)
    have HL := Lib.hid (im_containsL it prt day (.slice pa ps.length pc) ps wr.heap.size w.heap.size (w.heap.size + 1) (w.heap.size + 1 + 1) (.slice a2 xs.length c2) xs lo hi W1 ⟨HA.out, HGG1.out, HGG2.out, HGG3.out, HP.out.below HB1.out⟩ HM3.out (HX.out.below BLN.kept HB1.out) HS2.out)
    clear hW1 hBA HO HB HG1 HG2 HG3
    go_upto_region 7 with fail
    rw [HW1.out]
    clear HW1 e0 e1 e2 e3 e4 e5 e6 e7
    go_wp2_with fail
    refine HL.out.mono ?_
    rintro e w2 ⟨rfl, hb⟩
    have HO2 := Lib.hid (own_keepL HO1.out hb)
    have HB2 := Lib.hid (HB1.out.trans (hb.mono HB1.out.size))
    have HG1 := Lib.hid (blk_below HGG1.out hb)
    have HG2 := Lib.hid (blk_below HGG2.out hb)
    have HG3 := Lib.hid (blk_below HGG3.out hb)
    have HA2 := Lib.hid (blk_below HA.out hb)
    clear hb HL HA HO1 HB1 HGG1 HGG2 HGG3
    obtain ⟨z, hz⟩ : ∃ z, parB xs prt day ps it = z := ⟨_, rfl⟩
    have HZ := Lib.hid hz
    rw [hz]
    clear hz
    cases z with
    | false =>
      have HY2 : Hid (ns = parTo l xs prt day ps (k + 1)) := Lib.hid (by rw [HT.out, HZ.out, ← HY.out]; simp)
      go_wp2_with fail
      go_roundw
      case rel => exact ⟨k + 1, ns, p, q, by have := HLT.out; omega, by go_num, rfl, by omega, HY2, HO2, HG1, HG2, HG3, HB2⟩
      case measure => have := HLT.out; simp [intOf]; omega
    | true =>
      have HY2 : Hid (ns ++ [it.code] = parTo l xs prt day ps (k + 1)) := Lib.hid (by rw [HT.out, HZ.out, ← HY.out]; rfl)
      have g0 := cell_of_row _ _ 0 _ _ _ HA2.out
      have hsw := HB2.out.size
      have HNB : Hid (∀ g, (Value.slice p ns.length q).ownBlock = some g → w.heap.size + 3 ≤ g) := Lib.hid (fun g hg => (HO2.out.lt g hg).1)
      have hlt3 := lt_of_heap HG3.out
      go_wp2_with (at_builtin; refine wpList_append_own _ rfl _ _ 29 rfl (w.heap.size + 3) 9 i0 (.string ByteArray.empty) 1 16 Try.underlying29 hi0 hz0 hz1 hz2 rfl (by decide) _ ns.length (ns.map Value.string) rfl (HO2.out.alloc _) ⟨w2.heap.size, 0, none⟩ 1 1 [.string it.code] rfl rfl (new_1 _ _ _) (by intro u hu; simp at hu; rcases hu with rfl; rfl) (by unfold maxLen; omega) (by omega) (by simp; omega) ?_)
      intro v4 w5 ho hg _
      obtain ⟨p2, q2, rfl⟩ := own_sliceN ho
      have HO5 : Hid (w5.ownsRow (w.heap.size + 3) 9 1 (.slice p2 (ns.length + 1) q2) (ns ++ [it.code]).length ((ns ++ [it.code]).map Value.string)) := Lib.hid (by simpa using ho)
      have HB5 := Lib.hid ((HB2.out.alloc HB2.out.size _).grown hg (by have := HB2.out.size; simp; omega) (fun g hg2 => (by have := (HO2.out.lt g hg2).1; omega)))
      have HG1 := Lib.hid ((hg.block w.heap.size (by have := lt_of_heap HG1.out; simp; omega) (fun e => by have := HNB.out _ e.symm; omega)).trans (blk_alloc HG1.out _))
      have HG2 := Lib.hid ((hg.block (w.heap.size + 1) (by have := lt_of_heap HG2.out; simp; omega) (fun e => by have := HNB.out _ e.symm; omega)).trans (blk_alloc HG2.out _))
      have HG3 := Lib.hid ((hg.block (w.heap.size + 1 + 1) (by have := lt_of_heap HG3.out; simp; omega) (fun e => by have := HNB.out _ e.symm; omega)).trans (blk_alloc HG3.out _))
      clear ho hg
      go_wp2_with fail
      go_roundw
      case rel => exact ⟨k + 1, ns ++ [it.code], p2, q2, by have := HLT.out; omega, by go_num, by simp, by simp; omega, HY2, (by simpa using HO5), HG1, HG2, HG3, HB5⟩
      case measure => have := HLT.out; simp [intOf]; omega

set_option maxRecDepth 100000 in
set_option maxHeartbeats 8000000 in
theorem spec_parentsOf (v v2 : Value) (l : List IT) (xs : List BL) (prt : ByteArray) (day : Int) (v3 : Value) (ps : List PK) (lo hi : Nat) (w : World) (h : IT.Is w v l) (h2 : BX lo hi w v2 xs) (h3 : PK.Is w v3 ps) (hm : l.length ≤ maxLen) (hs : ∀ r, r ∈ l → IT.Sz r) (hs2 : BX.Sz xs) (hm3 : ps.length ≤ maxLen) :
    Calls Try.prog 15 #[v, v2, .string prt, .int .i64 day, v3] w (NmRes (parentsR l xs prt day ps) w) := by
  obtain ⟨i0, hi0, hz0, hz1, hz2⟩ := info_parts infoSt
  have HI := Lib.hid h
  have HX := Lib.hid h2
  have HP := Lib.hid h3
  have HS := Lib.hid hs
  have HS2 := Lib.hid hs2
  have HM := Lib.hid hm
  have HM3 := Lib.hid hm3
  have hm2 := hs2.1
  unfold maxLen at hm hm2
  obtain ⟨a, c, rfl⟩ := h.slice
  obtain ⟨a2, c2, rfl⟩ := h2.slice
  have HBI : Hid (∀ W, Below w.heap.size w W → Calls Try.prog 11 #[.slice a l.length c, .slice a2 xs.length c2] W (BoolRes (billsB l xs) W)) := Lib.hid (fun W hW => spec_bills _ _ l xs lo hi W (HI.out.below hW) (HX.out.below BLN.kept hW) HM.out HS.out HS2.out)
  clear h h2 h3 hs hs2
  have HO0 : Hid ((w.alloc (.cells #[] 9)).ownsRow w.heap.size 9 1 (.slice (some ⟨w.heap.size, 0, none⟩) 0 0) 0 []) := Lib.hid (own_empty (Nat.le_refl _))
  have HB0 : Hid (Below w.heap.size w (w.alloc (.cells #[] 9))) := Lib.hid ((Below.refl _ _).alloc (Nat.le_refl _) _)
  go_enter Try.func15, Try.ntmps15
  go_wp2_with fail
  generalize w.alloc (.cells #[] 9) = w0 at *
  go_loopw [11, 12] (fun s i wr => ∃ (k : Nat) (ns : List ByteArray) (p : Option Addr) (q : Nat), k ≤ l.length ∧ i = .int .i64 k ∧ s = .slice p ns.length q ∧ ns.length ≤ k ∧ Hid (0 < k → billsB l xs = true) ∧ Hid (ns = parTo l xs prt day ps k) ∧ Hid (wr.ownsRow w.heap.size 9 1 (.slice p ns.length q) ns.length (ns.map Value.string)) ∧ Hid (Below w.heap.size w wr)) (fun _ i _ => l.length - (intOf i).toNat)
  case atStart => exact ⟨0, [], _, _, Nat.zero_le _, rfl, rfl, Nat.le_refl _, Lib.hid (fun h => by omega), Lib.hid (parTo_zero _ _ _ _ _).symm, HO0, HB0⟩
  case round =>
    clear HO0 HB0
    obtain ⟨k, ns, p, q, hk, rfl, rfl, hnk, HK, HY, HO, HB⟩ := hrel
    by_cases hlt : k < l.length
    rotate_left
    · have HE : Hid (ns = parentsR l xs prt day ps) := Lib.hid (by
        cases hc : billsB l xs with
        | true => rw [HY.out]; exact parTo_all (by omega) hc
        | false =>
          rw [parentsR_no hc]
          have h0 : k = 0 := by
            rcases Nat.eq_zero_or_pos k with h | h
            · exact h
            · have := HK.out h; rw [hc] at this; cases this
          rw [HY.out, h0, parTo_zero])
      go_wp2_with fail
      go_ret
      exact ⟨_, rfl, by rw [← HE.out]; exact HO, HB⟩
    have HLT := Lib.hid hlt
    have HCK := Lib.hid (HBI.out wr HB.out)
    rcases Bool.eq_false_or_eq_true (billsB l xs) with hc | hc
    rotate_left
    · have HE : Hid (ns = parentsR l xs prt day ps) := Lib.hid (by
        have h0 : k = 0 := by
          rcases Nat.eq_zero_or_pos k with h | h
          · exact h
          · have := HK.out h; rw [hc] at this; cases this
        rw [parentsR_no hc, HY.out, h0, parTo_zero])
      rw [hc] at HCK
      clear hc
      go_wp2_with fail
      refine HCK.out.mono ?_
      rintro e w1 ⟨rfl, hb⟩
      have HO1 := Lib.hid (own_keepL HO.out hb)
      have HB1 := Lib.hid (HB.out.trans (hb.mono HB.out.size))
      clear hb
      go_wp2_with fail
      go_ret
      exact ⟨_, rfl, by rw [← HE.out]; exact HO1, HB1⟩
    have HBT := Lib.hid hc
    have h12 := (billsB_iff.1 hc).1.1.2
    have HT : Hid (parTo l xs prt day ps (k + 1) = parTo l xs prt day ps k ++ (if parB xs prt day ps (l[k]'hlt) then [(l[k]'hlt).code] else [])) := Lib.hid (parTo_succ hlt)
    rw [hc] at HCK
    clear hc
    obtain ⟨b3, o3, c3', hv3, hc3, hcell3⟩ := HI.out.some (by omega)
    simp only [Value.slice.injEq] at hv3
    obtain ⟨rfl, _, rfl⟩ := hv3
    have HIC : Hid (∀ W, Below w.heap.size w W → W.cell? ⟨b3, o3 + k * 8, none⟩ = some (.string (l[k]'hlt).code)) := Lib.hid (fun W hW => ((hcell3.below hW).at k hlt).1)
    clear hcell3 hc3
    generalize l[k]'hlt = it at *
    go_wp2_with fail
    refine HCK.out.mono ?_
    rintro e w1 ⟨rfl, hb⟩
    have HO1 := Lib.hid (own_keepL HO.out hb)
    have HB1 := Lib.hid (HB.out.trans (hb.mono HB.out.size))
    clear hb HO HB HCK
    go_wp2_with fail
    go_loopw [13, 14] (fun f i wx => ∃ (j : Nat) (y : Bool), j ≤ xs.length ∧ i = .int .i64 j ∧ f = .bool y ∧ Hid (y = (xs.take j).any (hasB it.code prt day ps)) ∧ Hid (wx.ownsRow w.heap.size 9 1 (.slice p ns.length q) ns.length (ns.map Value.string)) ∧ Hid (Below w.heap.size w wx)) (fun _ i _ => xs.length - (intOf i).toNat)
    case atStart => exact ⟨0, false, Nat.zero_le _, rfl, rfl, Lib.hid (by simp), HO1, HB1⟩
    case round =>
      clear HO1 HB1
      obtain ⟨j, y, hj, rfl, rfl, HF, HO, HB⟩ := hrel
      by_cases hlj : j < xs.length
      rotate_left
      · have HZ : Hid (parB xs prt day ps it = y) := Lib.hid (by
          have h1 := HF.out
          rw [List.take_of_length_le (by omega)] at h1
          rw [h1]; rfl)
        have hic := HIC.out _ HB.out
        have hsw := HB.out.size
        cases y with
        | false =>
          have HY2 : Hid (ns = parTo l xs prt day ps (k + 1)) := Lib.hid (by rw [HT.out, HZ.out, ← HY.out]; simp)
          go_wp2_with fail
          go_roundw
          case rel => exact ⟨k + 1, ns, p, q, by have := HLT.out; omega, by go_num, rfl, by omega, Lib.hid (fun _ => HBT.out), HY2, HO, HB⟩
          case measure => have := HLT.out; simp [intOf]; omega
        | true =>
          have HY2 : Hid (ns ++ [it.code] = parTo l xs prt day ps (k + 1)) := Lib.hid (by rw [HT.out, HZ.out, ← HY.out]; rfl)
          generalize wr = w2 at *
          have HO2 := HO
          have HB2 := HB
          go_wp2_with (at_builtin; refine wpList_append_own _ rfl _ _ 29 rfl w.heap.size 9 i0 (.string ByteArray.empty) 1 16 Try.underlying29 hi0 hz0 hz1 hz2 rfl (by decide) _ ns.length (ns.map Value.string) rfl (HO2.out.alloc _) ⟨w2.heap.size, 0, none⟩ 1 1 [.string it.code] rfl rfl (new_1 _ _ _) (by intro u hu; simp at hu; rcases hu with rfl; rfl) (by unfold maxLen; omega) (by omega) (by simp; omega) ?_)
          intro v4 w5 ho hg _
          obtain ⟨p2, q2, rfl⟩ := own_sliceN ho
          have HO5 : Hid (w5.ownsRow w.heap.size 9 1 (.slice p2 (ns.length + 1) q2) (ns ++ [it.code]).length ((ns ++ [it.code]).map Value.string)) := Lib.hid (by simpa using ho)
          have HB5 := Lib.hid ((HB2.out.alloc HB2.out.size _).grown hg (by have := HB2.out.size; simp; omega) (fun g hg2 => (by have := (HO2.out.lt g hg2).1; omega)))
          clear ho hg
          go_wp2_with fail
          go_roundw
          case rel => exact ⟨k + 1, ns ++ [it.code], p2, q2, by have := HLT.out; omega, by go_num, by simp, by simp; omega, Lib.hid (fun _ => HBT.out), HY2, (by simpa using HO5), HB5⟩
          case measure => have := HLT.out; simp [intOf]; omega
      have HLJ := Lib.hid hlj
      have HTJ : Hid ((xs.take (j + 1)).any (hasB it.code prt day ps) = ((xs.take j).any (hasB it.code prt day ps) || hasB it.code prt day ps (xs[j]'hlj))) := Lib.hid (any_take_succ hlj)
      have HCO := Lib.hid (bills_cond HBT.out hlj)
      obtain ⟨b2, o2, c2', cs, hv2, hc2, hb2, hcl, hr5, hcell⟩ := (HX.out.below BLN.kept HB.out).get j hlj
      simp only [Value.slice.injEq] at hv2
      obtain ⟨rfl, _, rfl⟩ := hv2
      obtain ⟨u5, rfl, h5⟩ := hr5
      obtain ⟨sa5, sc5, rfl⟩ := h5.slice
      have e0 := hcell 0 (by omega)
      have e1 := hcell 1 (by omega)
      have e2 := hcell 2 (by omega)
      have e3 := hcell 3 (by omega)
      have e4 := hcell 4 (by omega)
      have e5 := hcell 5 (by omega)
      simp only [List.getElem?_cons_zero, List.getElem?_cons_succ, Nat.add_zero] at e0 e1 e2 e3 e4 e5
      have HSZ := Lib.hid (HS2.out.2 _ (List.getElem_mem hlj))
      have H5 := Lib.hid h5
      clear hcell h5 hc2 hb2 hcl
      generalize xs[j]'hlj = x at *
      have hic := HIC.out _ HB.out
      have i0' : (0 : Int) ≤ (k : Int) := by omega
      have i1' : (k : Int) < (l.length : Int) := by omega
      have i2' : (0 : Int) ≤ (j : Int) := by omega
      have i3' : (j : Int) < (xs.length : Int) := by omega
      cases y with
      | true =>
        have HF2 : Hid (true = (xs.take (j + 1)).any (hasB it.code prt day ps)) := Lib.hid (by rw [HTJ.out, ← HF.out]; rfl)
        go_upto_region 9 with fail
        refine wp_region_held_drew (S := (fun W' => Hid (Below wr.heap.size wr W') ∧ True)) (by kernel_rfl) (hold0 (Below.refl _ _).drew) (fun hHeld => ?_)
        refine wpAnyH_take (i := 0) (oi := { dst := some 33, op := Op.move (Operand.tmp 13), type := 4, pos := _, after := #[], guard := none }) (v := ?vr1x1) rfl (by kernel_rfl) (by kernel_rfl) (by kernel_rfl) (fun _ _ _ h => h) (Or.inl ⟨by rfl, ?yr1x1⟩) (by assumption) ?rr1x1
        case yr1x1 => (intro w' hSw; (try dsimp only at hSw); go_simp; (try with_reducible rfl))
        refine wpAnyH_take (i := 1) (oi := { dst := some 34, op := Op.move (Operand.tmp 33), type := 4, pos := _, after := #[{ on := 0, ground := Ground.data }], guard := none }) (v := ?vr1x2) rfl (by kernel_rfl) (by kernel_rfl) (by kernel_rfl) (fun _ _ _ h => h) (Or.inl ⟨by rfl, ?yr1x2⟩) (by assumption) ?rr1x2
        case yr1x2 => (intro w' hSw; (try dsimp only at hSw); go_simp; (try with_reducible rfl))
        refine wpAnyH_take (i := 2) (oi := { dst := some 35, op := Op.move (Operand.tmp 1), type := 25, pos := _, after := #[{ on := 1, ground := Ground.guard }], guard := some (1, false) }) (v := undef) rfl (by kernel_rfl) (by kernel_rfl) (by kernel_rfl) (fun _ _ _ h => h) (Or.inr ⟨by rfl, rfl⟩) (by assumption) ?_
        (try simp only [Act.put, List.setIfInBounds_toArray, List.set_cons_zero, List.set_cons_succ])
        refine wpAnyH_take (i := 3) (oi := { dst := some 36, op := Op.move (Operand.tmp 14), type := 3, pos := _, after := #[{ on := 1, ground := Ground.guard }], guard := some (1, false) }) (v := undef) rfl (by kernel_rfl) (by kernel_rfl) (by kernel_rfl) (fun _ _ _ h => h) (Or.inr ⟨by rfl, rfl⟩) (by assumption) ?_
        refine wpAnyH_take (i := 4) (oi := { dst := some 37, op := Op.indexAddr 25 (Operand.tmp 35) (Operand.tmp 36), type := 0, pos := _, after := #[{ on := 2, ground := Ground.data }, { on := 3, ground := Ground.data }, { on := 1, ground := Ground.guard }], guard := some (1, false) }) (v := undef) rfl (by kernel_rfl) (by kernel_rfl) (by kernel_rfl) (fun _ _ _ h => h) (Or.inr ⟨by rfl, rfl⟩) (by assumption) ?_
        refine wpAnyH_take (i := 5) (oi := { dst := some 38, op := Op.fieldAddr 37 (Operand.tmp 37) 0, type := 0, pos := _, after := #[{ on := 4, ground := Ground.data }, { on := 1, ground := Ground.guard }], guard := some (1, false) }) (v := undef) rfl (by kernel_rfl) (by kernel_rfl) (by kernel_rfl) (fun _ _ _ h => h) (Or.inr ⟨by rfl, rfl⟩) (by assumption) ?_
        (try simp only [Act.put, List.setIfInBounds_toArray, List.set_cons_zero, List.set_cons_succ])
        refine wpAnyH_take (i := 6) (oi := { dst := some 39, op := Op.load 9 (Operand.tmp 38), type := 9, pos := _, after := #[{ on := 5, ground := Ground.data }, { on := 1, ground := Ground.guard }], guard := some (1, false) }) (v := undef) rfl (by kernel_rfl) (by kernel_rfl) (by kernel_rfl) (fun _ _ _ h => h) (Or.inr ⟨by rfl, rfl⟩) (by assumption) ?_
        refine wpAnyH_take (i := 7) (oi := { dst := some 40, op := Op.move (Operand.tmp 0), type := 24, pos := _, after := #[{ on := 1, ground := Ground.guard }], guard := some (1, false) }) (v := undef) rfl (by kernel_rfl) (by kernel_rfl) (by kernel_rfl) (fun _ _ _ h => h) (Or.inr ⟨by rfl, rfl⟩) (by assumption) ?_
        refine wpAnyH_take (i := 8) (oi := { dst := some 41, op := Op.move (Operand.tmp 12), type := 3, pos := _, after := #[{ on := 1, ground := Ground.guard }], guard := some (1, false) }) (v := undef) rfl (by kernel_rfl) (by kernel_rfl) (by kernel_rfl) (fun _ _ _ h => h) (Or.inr ⟨by rfl, rfl⟩) (by assumption) ?_
        (try simp only [Act.put, List.setIfInBounds_toArray, List.set_cons_zero, List.set_cons_succ])
        refine wpAnyH_take (i := 9) (oi := { dst := some 42, op := Op.indexAddr 24 (Operand.tmp 40) (Operand.tmp 41), type := 0, pos := _, after := #[{ on := 7, ground := Ground.data }, { on := 8, ground := Ground.data }, { on := 1, ground := Ground.guard }], guard := some (1, false) }) (v := undef) rfl (by kernel_rfl) (by kernel_rfl) (by kernel_rfl) (fun _ _ _ h => h) (Or.inr ⟨by rfl, rfl⟩) (by assumption) ?_
        refine wpAnyH_take (i := 10) (oi := { dst := some 43, op := Op.fieldAddr 34 (Operand.tmp 42) 0, type := 0, pos := _, after := #[{ on := 9, ground := Ground.data }, { on := 1, ground := Ground.guard }], guard := some (1, false) }) (v := undef) rfl (by kernel_rfl) (by kernel_rfl) (by kernel_rfl) (fun _ _ _ h => h) (Or.inr ⟨by rfl, rfl⟩) (by assumption) ?_
        refine wpAnyH_take (i := 11) (oi := { dst := some 44, op := Op.load 9 (Operand.tmp 43), type := 9, pos := _, after := #[{ on := 10, ground := Ground.data }, { on := 1, ground := Ground.guard }], guard := some (1, false) }) (v := undef) rfl (by kernel_rfl) (by kernel_rfl) (by kernel_rfl) (fun _ _ _ h => h) (Or.inr ⟨by rfl, rfl⟩) (by assumption) ?_
        (try simp only [Act.put, List.setIfInBounds_toArray, List.set_cons_zero, List.set_cons_succ])
        refine wpAnyH_take (i := 12) (oi := { dst := some 45, op := Op.binOp BinOp.eql 9 (Operand.tmp 39) (Operand.tmp 44) 9, type := 4, pos := _, after := #[{ on := 6, ground := Ground.data }, { on := 11, ground := Ground.data }, { on := 1, ground := Ground.guard }], guard := some (1, false) }) (v := undef) rfl (by kernel_rfl) (by kernel_rfl) (by kernel_rfl) (fun _ _ _ h => h) (Or.inr ⟨by rfl, rfl⟩) (by assumption) ?_
        refine wpAnyH_take (i := 13) (oi := { dst := some 46, op := Op.move (Operand.tmp 45), type := 4, pos := _, after := #[{ on := 12, ground := Ground.data }, { on := 1, ground := Ground.chain }, { on := 1, ground := Ground.guard }], guard := some (1, false) }) (v := undef) rfl (by kernel_rfl) (by kernel_rfl) (by kernel_rfl) (fun _ _ _ h => h) (Or.inr ⟨by rfl, rfl⟩) (by assumption) ?_
        refine wpAnyH_take (i := 14) (oi := { dst := some 47, op := Op.move (Operand.tmp 1), type := 25, pos := _, after := #[{ on := 13, ground := Ground.guard }], guard := some (13, true) }) (v := undef) rfl (by kernel_rfl) (by kernel_rfl) (by kernel_rfl) (fun _ _ _ h => h) (Or.inr ⟨by rfl, rfl⟩) (by assumption) ?_
        (try simp only [Act.put, List.setIfInBounds_toArray, List.set_cons_zero, List.set_cons_succ])
        refine wpAnyH_take (i := 15) (oi := { dst := some 48, op := Op.move (Operand.tmp 14), type := 3, pos := _, after := #[{ on := 13, ground := Ground.guard }], guard := some (13, true) }) (v := undef) rfl (by kernel_rfl) (by kernel_rfl) (by kernel_rfl) (fun _ _ _ h => h) (Or.inr ⟨by rfl, rfl⟩) (by assumption) ?_
        refine wpAnyH_take (i := 16) (oi := { dst := some 49, op := Op.indexAddr 25 (Operand.tmp 47) (Operand.tmp 48), type := 0, pos := _, after := #[{ on := 14, ground := Ground.data }, { on := 15, ground := Ground.data }, { on := 13, ground := Ground.guard }], guard := some (13, true) }) (v := undef) rfl (by kernel_rfl) (by kernel_rfl) (by kernel_rfl) (fun _ _ _ h => h) (Or.inr ⟨by rfl, rfl⟩) (by assumption) ?_
        refine wpAnyH_take (i := 17) (oi := { dst := some 50, op := Op.fieldAddr 37 (Operand.tmp 49) 1, type := 0, pos := _, after := #[{ on := 16, ground := Ground.data }, { on := 13, ground := Ground.guard }], guard := some (13, true) }) (v := undef) rfl (by kernel_rfl) (by kernel_rfl) (by kernel_rfl) (fun _ _ _ h => h) (Or.inr ⟨by rfl, rfl⟩) (by assumption) ?_
        (try simp only [Act.put, List.setIfInBounds_toArray, List.set_cons_zero, List.set_cons_succ])
        refine wpAnyH_take (i := 18) (oi := { dst := some 51, op := Op.load 9 (Operand.tmp 50), type := 9, pos := _, after := #[{ on := 17, ground := Ground.data }, { on := 13, ground := Ground.guard }], guard := some (13, true) }) (v := undef) rfl (by kernel_rfl) (by kernel_rfl) (by kernel_rfl) (fun _ _ _ h => h) (Or.inr ⟨by rfl, rfl⟩) (by assumption) ?_
        refine wpAnyH_take (i := 19) (oi := { dst := some 52, op := Op.move (Operand.tmp 2), type := 9, pos := _, after := #[{ on := 13, ground := Ground.guard }], guard := some (13, true) }) (v := undef) rfl (by kernel_rfl) (by kernel_rfl) (by kernel_rfl) (fun _ _ _ h => h) (Or.inr ⟨by rfl, rfl⟩) (by assumption) ?_
        refine wpAnyH_take (i := 20) (oi := { dst := some 53, op := Op.binOp BinOp.eql 9 (Operand.tmp 51) (Operand.tmp 52) 9, type := 4, pos := _, after := #[{ on := 18, ground := Ground.data }, { on := 19, ground := Ground.data }, { on := 13, ground := Ground.guard }], guard := some (13, true) }) (v := undef) rfl (by kernel_rfl) (by kernel_rfl) (by kernel_rfl) (fun _ _ _ h => h) (Or.inr ⟨by rfl, rfl⟩) (by assumption) ?_
        (try simp only [Act.put, List.setIfInBounds_toArray, List.set_cons_zero, List.set_cons_succ])
        refine wpAnyH_take (i := 21) (oi := { dst := some 54, op := Op.pick (Operand.tmp 46) (Operand.tmp 53) (Operand.const (Value.bool false)), type := 4, pos := _, after := #[{ on := 13, ground := Ground.data }, { on := 20, ground := Ground.data }, { on := 1, ground := Ground.guard }], guard := some (1, false) }) (v := undef) rfl (by kernel_rfl) (by kernel_rfl) (by kernel_rfl) (fun _ _ _ h => h) (Or.inr ⟨by rfl, rfl⟩) (by assumption) ?_
        refine wpAnyH_take (i := 22) (oi := { dst := some 55, op := Op.move (Operand.tmp 54), type := 4, pos := _, after := #[{ on := 21, ground := Ground.data }, { on := 13, ground := Ground.chain }, { on := 1, ground := Ground.guard }], guard := some (1, false) }) (v := undef) rfl (by kernel_rfl) (by kernel_rfl) (by kernel_rfl) (fun _ _ _ h => h) (Or.inr ⟨by rfl, rfl⟩) (by assumption) ?_
        refine wpAnyH_take (i := 23) (oi := { dst := some 56, op := Op.move (Operand.tmp 1), type := 25, pos := _, after := #[{ on := 22, ground := Ground.guard }], guard := some (22, true) }) (v := undef) rfl (by kernel_rfl) (by kernel_rfl) (by kernel_rfl) (fun _ _ _ h => h) (Or.inr ⟨by rfl, rfl⟩) (by assumption) ?_
        (try simp only [Act.put, List.setIfInBounds_toArray, List.set_cons_zero, List.set_cons_succ])
        refine wpAnyH_take (i := 24) (oi := { dst := some 57, op := Op.move (Operand.tmp 14), type := 3, pos := _, after := #[{ on := 22, ground := Ground.guard }], guard := some (22, true) }) (v := undef) rfl (by kernel_rfl) (by kernel_rfl) (by kernel_rfl) (fun _ _ _ h => h) (Or.inr ⟨by rfl, rfl⟩) (by assumption) ?_
        refine wpAnyH_take (i := 25) (oi := { dst := some 58, op := Op.indexAddr 25 (Operand.tmp 56) (Operand.tmp 57), type := 0, pos := _, after := #[{ on := 23, ground := Ground.data }, { on := 24, ground := Ground.data }, { on := 22, ground := Ground.guard }], guard := some (22, true) }) (v := undef) rfl (by kernel_rfl) (by kernel_rfl) (by kernel_rfl) (fun _ _ _ h => h) (Or.inr ⟨by rfl, rfl⟩) (by assumption) ?_
        refine wpAnyH_take (i := 26) (oi := { dst := some 59, op := Op.load 37 (Operand.tmp 58), type := 37, pos := _, after := #[{ on := 25, ground := Ground.data }, { on := 22, ground := Ground.guard }], guard := some (22, true) }) (v := undef) rfl (by kernel_rfl) (by kernel_rfl) (by kernel_rfl) (fun _ _ _ h => h) (Or.inr ⟨by rfl, rfl⟩) (by assumption) ?_
        (try simp only [Act.put, List.setIfInBounds_toArray, List.set_cons_zero, List.set_cons_succ])
        refine wpAnyH_take (i := 27) (oi := { dst := some 60, op := Op.move (Operand.tmp 3), type := 3, pos := _, after := #[{ on := 22, ground := Ground.guard }], guard := some (22, true) }) (v := undef) rfl (by kernel_rfl) (by kernel_rfl) (by kernel_rfl) (fun _ _ _ h => h) (Or.inr ⟨by rfl, rfl⟩) (by assumption) ?_
        refine wpAnyH_take (i := 28) (oi := { dst := some 61, op := Op.move (Operand.tmp 4), type := 26, pos := _, after := #[{ on := 22, ground := Ground.guard }], guard := some (22, true) }) (v := undef) rfl (by kernel_rfl) (by kernel_rfl) (by kernel_rfl) (fun _ _ _ h => h) (Or.inr ⟨by rfl, rfl⟩) (by assumption) ?_
        refine wpAnyH_take (i := 29) (oi := { dst := some 62, op := Op.call { callee := Callee.value (Operand.func 56), args := #[Operand.tmp 59, Operand.tmp 60, Operand.tmp 61], argTypes := #[37, 3, 26] }, type := 4, pos := _, after := #[{ on := 26, ground := Ground.data }, { on := 27, ground := Ground.data }, { on := 28, ground := Ground.data }, { on := 22, ground := Ground.chain }, { on := 22, ground := Ground.guard }], guard := some (22, true) }) (v := undef) rfl (by kernel_rfl) (by kernel_rfl) (by kernel_rfl) (fun _ _ _ h => h) (Or.inr ⟨by rfl, rfl⟩) (by assumption) ?_
        (try simp only [Act.put, List.setIfInBounds_toArray, List.set_cons_zero, List.set_cons_succ])
        refine wpAnyH_take (i := 30) (oi := { dst := some 63, op := Op.pick (Operand.tmp 55) (Operand.tmp 62) (Operand.const (Value.bool false)), type := 4, pos := _, after := #[{ on := 22, ground := Ground.data }, { on := 29, ground := Ground.data }, { on := 1, ground := Ground.guard }], guard := some (1, false) }) (v := undef) rfl (by kernel_rfl) (by kernel_rfl) (by kernel_rfl) (fun _ _ _ h => h) (Or.inr ⟨by rfl, rfl⟩) (by assumption) ?_
        refine wpAnyH_take (i := 31) (oi := { dst := some 64, op := Op.pick (Operand.tmp 34) (Operand.const (Value.bool true)) (Operand.tmp 63), type := 4, pos := _, after := #[{ on := 1, ground := Ground.data }, { on := 30, ground := Ground.data }], guard := none }) (v := ?vr1x3) rfl (by kernel_rfl) (by kernel_rfl) (by kernel_rfl) (fun _ _ _ h => h) (Or.inl ⟨by rfl, ?yr1x3⟩) (by assumption) ?rr1x3
        case yr1x3 => (intro w' hSw; (try dsimp only at hSw); go_simp; (try with_reducible rfl))
        refine wpAnyH_take (i := 32) (oi := { dst := some 13, op := Op.assign (Operand.tmp 64), type := 4, pos := _, after := #[{ on := 31, ground := Ground.data }, { on := 29, ground := Ground.chain }, { on := 0, ground := Ground.phase }, { on := 1, ground := Ground.phase }, { on := 2, ground := Ground.phase }, { on := 3, ground := Ground.phase }, { on := 4, ground := Ground.phase }, { on := 5, ground := Ground.phase }, { on := 6, ground := Ground.phase }, { on := 7, ground := Ground.phase }, { on := 8, ground := Ground.phase }, { on := 9, ground := Ground.phase }, { on := 10, ground := Ground.phase }, { on := 11, ground := Ground.phase }, { on := 12, ground := Ground.phase }, { on := 13, ground := Ground.phase }, { on := 14, ground := Ground.phase }, { on := 15, ground := Ground.phase }, { on := 16, ground := Ground.phase }, { on := 17, ground := Ground.phase }, { on := 18, ground := Ground.phase }, { on := 19, ground := Ground.phase }, { on := 20, ground := Ground.phase }, { on := 21, ground := Ground.phase }, { on := 22, ground := Ground.phase }, { on := 23, ground := Ground.phase }, { on := 24, ground := Ground.phase }, { on := 25, ground := Ground.phase }, { on := 26, ground := Ground.phase }, { on := 27, ground := Ground.phase }, { on := 28, ground := Ground.phase }, { on := 29, ground := Ground.phase }, { on := 30, ground := Ground.phase }, { on := 31, ground := Ground.phase }], guard := none }) (v := ?vr1x4) rfl (by kernel_rfl) (by kernel_rfl) (by kernel_rfl) (fun _ _ _ h => h) (Or.inl ⟨by rfl, ?yr1x4⟩) (by assumption) ?rr1x4
        case yr1x4 => (intro w' hSw; (try dsimp only at hSw); go_simp; (try with_reducible rfl))
        (try simp only [Act.put, List.setIfInBounds_toArray, List.set_cons_zero, List.set_cons_succ])
        refine wpAnyH_done (by kernel_rfl) ?_ _
        have hS := (by assumption : Hid (Below wr.heap.size wr _) ∧ _)
        have HO9 := Lib.hid (own_keepL HO.out hS.1.out)
        have HB9 := Lib.hid (HB.out.trans (hS.1.out.mono HB.out.size))
        go_wp2_with fail
        go_roundw
        case rel => exact ⟨j + 1, true, by have := HLJ.out; omega, by go_num, rfl, HF2, HO9, HB9⟩
        case measure => have := HLJ.out; simp [intOf]; omega
      | false =>
        by_cases hp : x.par = it.code
        rotate_left
        · have HF2 : Hid (false = (xs.take (j + 1)).any (hasB it.code prt day ps)) := Lib.hid (by rw [HTJ.out, ← HF.out, hasB_no1 hp]; rfl)
          have hq := str_ne hp
          clear hp
          go_upto_region 9 with fail
          refine wp_region_held_drew (S := (fun W' => Hid (Below wr.heap.size wr W') ∧ W'.cell? ⟨b2, o2 + j * 6, none⟩ = some (.string x.par) ∧ W'.cell? ⟨b3, o3 + k * 8, none⟩ = some (.string it.code))) (by kernel_rfl) (hold2 e0 hic (Below.refl _ _).drew) (fun hHeld => ?_)
          refine wpAnyH_take (i := 0) (oi := { dst := some 33, op := Op.move (Operand.tmp 13), type := 4, pos := _, after := #[], guard := none }) (v := ?vr2x1) rfl (by kernel_rfl) (by kernel_rfl) (by kernel_rfl) (fun _ _ _ h => h) (Or.inl ⟨by rfl, ?yr2x1⟩) (by assumption) ?rr2x1
          case yr2x1 => (intro w' hSw; (try dsimp only at hSw); go_simp; (try with_reducible rfl))
          refine wpAnyH_take (i := 1) (oi := { dst := some 34, op := Op.move (Operand.tmp 33), type := 4, pos := _, after := #[{ on := 0, ground := Ground.data }], guard := none }) (v := ?vr2x2) rfl (by kernel_rfl) (by kernel_rfl) (by kernel_rfl) (fun _ _ _ h => h) (Or.inl ⟨by rfl, ?yr2x2⟩) (by assumption) ?rr2x2
          case yr2x2 => (intro w' hSw; (try dsimp only at hSw); go_simp; (try with_reducible rfl))
          refine wpAnyH_take (i := 2) (oi := { dst := some 35, op := Op.move (Operand.tmp 1), type := 25, pos := _, after := #[{ on := 1, ground := Ground.guard }], guard := some (1, false) }) (v := ?vr2x3) rfl (by kernel_rfl) (by kernel_rfl) (by kernel_rfl) (fun _ _ _ h => h) (Or.inl ⟨by rfl, ?yr2x3⟩) (by assumption) ?rr2x3
          case yr2x3 => (intro w' hSw; (try dsimp only at hSw); go_simp; (try with_reducible rfl))
          (try simp only [Act.put, List.setIfInBounds_toArray, List.set_cons_zero, List.set_cons_succ])
          refine wpAnyH_take (i := 3) (oi := { dst := some 36, op := Op.move (Operand.tmp 14), type := 3, pos := _, after := #[{ on := 1, ground := Ground.guard }], guard := some (1, false) }) (v := ?vr2x4) rfl (by kernel_rfl) (by kernel_rfl) (by kernel_rfl) (fun _ _ _ h => h) (Or.inl ⟨by rfl, ?yr2x4⟩) (by assumption) ?rr2x4
          case yr2x4 => (intro w' hSw; (try dsimp only at hSw); go_simp; (try with_reducible rfl))
          refine wpAnyH_take (i := 4) (oi := { dst := some 37, op := Op.indexAddr 25 (Operand.tmp 35) (Operand.tmp 36), type := 0, pos := _, after := #[{ on := 2, ground := Ground.data }, { on := 3, ground := Ground.data }, { on := 1, ground := Ground.guard }], guard := some (1, false) }) (v := ?vr2x5) rfl (by kernel_rfl) (by kernel_rfl) (by kernel_rfl) (fun _ _ _ h => h) (Or.inl ⟨by rfl, ?yr2x5⟩) (by assumption) ?rr2x5
          case yr2x5 => (intro w' hSw; (try dsimp only at hSw); go_simp; (try with_reducible rfl))
          refine wpAnyH_take (i := 5) (oi := { dst := some 38, op := Op.fieldAddr 37 (Operand.tmp 37) 0, type := 0, pos := _, after := #[{ on := 4, ground := Ground.data }, { on := 1, ground := Ground.guard }], guard := some (1, false) }) (v := ?vr2x6) rfl (by kernel_rfl) (by kernel_rfl) (by kernel_rfl) (fun _ _ _ h => h) (Or.inl ⟨by rfl, ?yr2x6⟩) (by assumption) ?rr2x6
          case yr2x6 => (intro w' hSw; (try dsimp only at hSw); go_simp; (try with_reducible rfl))
          (try simp only [Act.put, List.setIfInBounds_toArray, List.set_cons_zero, List.set_cons_succ])
          refine wpAnyH_take (i := 6) (oi := { dst := some 39, op := Op.load 9 (Operand.tmp 38), type := 9, pos := _, after := #[{ on := 5, ground := Ground.data }, { on := 1, ground := Ground.guard }], guard := some (1, false) }) (v := ?vr2x7) rfl (by kernel_rfl) (by kernel_rfl) (by kernel_rfl) (fun _ _ _ h => h) (Or.inl ⟨by rfl, ?yr2x7⟩) (by assumption) ?rr2x7
          case yr2x7 => (intro w' hSw; (try dsimp only at hSw); go_simp; (try with_reducible rfl))
          refine wpAnyH_take (i := 7) (oi := { dst := some 40, op := Op.move (Operand.tmp 0), type := 24, pos := _, after := #[{ on := 1, ground := Ground.guard }], guard := some (1, false) }) (v := ?vr2x8) rfl (by kernel_rfl) (by kernel_rfl) (by kernel_rfl) (fun _ _ _ h => h) (Or.inl ⟨by rfl, ?yr2x8⟩) (by assumption) ?rr2x8
          case yr2x8 => (intro w' hSw; (try dsimp only at hSw); go_simp; (try with_reducible rfl))
          refine wpAnyH_take (i := 8) (oi := { dst := some 41, op := Op.move (Operand.tmp 12), type := 3, pos := _, after := #[{ on := 1, ground := Ground.guard }], guard := some (1, false) }) (v := ?vr2x9) rfl (by kernel_rfl) (by kernel_rfl) (by kernel_rfl) (fun _ _ _ h => h) (Or.inl ⟨by rfl, ?yr2x9⟩) (by assumption) ?rr2x9
          case yr2x9 => (intro w' hSw; (try dsimp only at hSw); go_simp; (try with_reducible rfl))
          (try simp only [Act.put, List.setIfInBounds_toArray, List.set_cons_zero, List.set_cons_succ])
          refine wpAnyH_take (i := 9) (oi := { dst := some 42, op := Op.indexAddr 24 (Operand.tmp 40) (Operand.tmp 41), type := 0, pos := _, after := #[{ on := 7, ground := Ground.data }, { on := 8, ground := Ground.data }, { on := 1, ground := Ground.guard }], guard := some (1, false) }) (v := ?vr2x10) rfl (by kernel_rfl) (by kernel_rfl) (by kernel_rfl) (fun _ _ _ h => h) (Or.inl ⟨by rfl, ?yr2x10⟩) (by assumption) ?rr2x10
          case yr2x10 => (intro w' hSw; (try dsimp only at hSw); go_simp; (try with_reducible rfl))
          refine wpAnyH_take (i := 10) (oi := { dst := some 43, op := Op.fieldAddr 34 (Operand.tmp 42) 0, type := 0, pos := _, after := #[{ on := 9, ground := Ground.data }, { on := 1, ground := Ground.guard }], guard := some (1, false) }) (v := ?vr2x11) rfl (by kernel_rfl) (by kernel_rfl) (by kernel_rfl) (fun _ _ _ h => h) (Or.inl ⟨by rfl, ?yr2x11⟩) (by assumption) ?rr2x11
          case yr2x11 => (intro w' hSw; (try dsimp only at hSw); go_simp; (try with_reducible rfl))
          refine wpAnyH_take (i := 11) (oi := { dst := some 44, op := Op.load 9 (Operand.tmp 43), type := 9, pos := _, after := #[{ on := 10, ground := Ground.data }, { on := 1, ground := Ground.guard }], guard := some (1, false) }) (v := ?vr2x12) rfl (by kernel_rfl) (by kernel_rfl) (by kernel_rfl) (fun _ _ _ h => h) (Or.inl ⟨by rfl, ?yr2x12⟩) (by assumption) ?rr2x12
          case yr2x12 => (intro w' hSw; (try dsimp only at hSw); go_simp; (try with_reducible rfl))
          (try simp only [Act.put, List.setIfInBounds_toArray, List.set_cons_zero, List.set_cons_succ])
          refine wpAnyH_take (i := 12) (oi := { dst := some 45, op := Op.binOp BinOp.eql 9 (Operand.tmp 39) (Operand.tmp 44) 9, type := 4, pos := _, after := #[{ on := 6, ground := Ground.data }, { on := 11, ground := Ground.data }, { on := 1, ground := Ground.guard }], guard := some (1, false) }) (v := ?vr2x13) rfl (by kernel_rfl) (by kernel_rfl) (by kernel_rfl) (fun _ _ _ h => h) (Or.inl ⟨by rfl, ?yr2x13⟩) (by assumption) ?rr2x13
          case yr2x13 => (intro w' hSw; (try dsimp only at hSw); go_simp; (try with_reducible rfl))
          refine wpAnyH_take (i := 13) (oi := { dst := some 46, op := Op.move (Operand.tmp 45), type := 4, pos := _, after := #[{ on := 12, ground := Ground.data }, { on := 1, ground := Ground.chain }, { on := 1, ground := Ground.guard }], guard := some (1, false) }) (v := ?vr2x14) rfl (by kernel_rfl) (by kernel_rfl) (by kernel_rfl) (fun _ _ _ h => h) (Or.inl ⟨by rfl, ?yr2x14⟩) (by assumption) ?rr2x14
          case yr2x14 => (intro w' hSw; (try dsimp only at hSw); go_simp; (try with_reducible rfl))
          refine wpAnyH_take (i := 14) (oi := { dst := some 47, op := Op.move (Operand.tmp 1), type := 25, pos := _, after := #[{ on := 13, ground := Ground.guard }], guard := some (13, true) }) (v := undef) rfl (by kernel_rfl) (by kernel_rfl) (by kernel_rfl) (fun _ _ _ h => h) (Or.inr ⟨by rfl, rfl⟩) (by assumption) ?_
          (try simp only [Act.put, List.setIfInBounds_toArray, List.set_cons_zero, List.set_cons_succ])
          refine wpAnyH_take (i := 15) (oi := { dst := some 48, op := Op.move (Operand.tmp 14), type := 3, pos := _, after := #[{ on := 13, ground := Ground.guard }], guard := some (13, true) }) (v := undef) rfl (by kernel_rfl) (by kernel_rfl) (by kernel_rfl) (fun _ _ _ h => h) (Or.inr ⟨by rfl, rfl⟩) (by assumption) ?_
          refine wpAnyH_take (i := 16) (oi := { dst := some 49, op := Op.indexAddr 25 (Operand.tmp 47) (Operand.tmp 48), type := 0, pos := _, after := #[{ on := 14, ground := Ground.data }, { on := 15, ground := Ground.data }, { on := 13, ground := Ground.guard }], guard := some (13, true) }) (v := undef) rfl (by kernel_rfl) (by kernel_rfl) (by kernel_rfl) (fun _ _ _ h => h) (Or.inr ⟨by rfl, rfl⟩) (by assumption) ?_
          refine wpAnyH_take (i := 17) (oi := { dst := some 50, op := Op.fieldAddr 37 (Operand.tmp 49) 1, type := 0, pos := _, after := #[{ on := 16, ground := Ground.data }, { on := 13, ground := Ground.guard }], guard := some (13, true) }) (v := undef) rfl (by kernel_rfl) (by kernel_rfl) (by kernel_rfl) (fun _ _ _ h => h) (Or.inr ⟨by rfl, rfl⟩) (by assumption) ?_
          (try simp only [Act.put, List.setIfInBounds_toArray, List.set_cons_zero, List.set_cons_succ])
          refine wpAnyH_take (i := 18) (oi := { dst := some 51, op := Op.load 9 (Operand.tmp 50), type := 9, pos := _, after := #[{ on := 17, ground := Ground.data }, { on := 13, ground := Ground.guard }], guard := some (13, true) }) (v := undef) rfl (by kernel_rfl) (by kernel_rfl) (by kernel_rfl) (fun _ _ _ h => h) (Or.inr ⟨by rfl, rfl⟩) (by assumption) ?_
          refine wpAnyH_take (i := 19) (oi := { dst := some 52, op := Op.move (Operand.tmp 2), type := 9, pos := _, after := #[{ on := 13, ground := Ground.guard }], guard := some (13, true) }) (v := undef) rfl (by kernel_rfl) (by kernel_rfl) (by kernel_rfl) (fun _ _ _ h => h) (Or.inr ⟨by rfl, rfl⟩) (by assumption) ?_
          refine wpAnyH_take (i := 20) (oi := { dst := some 53, op := Op.binOp BinOp.eql 9 (Operand.tmp 51) (Operand.tmp 52) 9, type := 4, pos := _, after := #[{ on := 18, ground := Ground.data }, { on := 19, ground := Ground.data }, { on := 13, ground := Ground.guard }], guard := some (13, true) }) (v := undef) rfl (by kernel_rfl) (by kernel_rfl) (by kernel_rfl) (fun _ _ _ h => h) (Or.inr ⟨by rfl, rfl⟩) (by assumption) ?_
          (try simp only [Act.put, List.setIfInBounds_toArray, List.set_cons_zero, List.set_cons_succ])
          refine wpAnyH_take (i := 21) (oi := { dst := some 54, op := Op.pick (Operand.tmp 46) (Operand.tmp 53) (Operand.const (Value.bool false)), type := 4, pos := _, after := #[{ on := 13, ground := Ground.data }, { on := 20, ground := Ground.data }, { on := 1, ground := Ground.guard }], guard := some (1, false) }) (v := ?vr2x15) rfl (by kernel_rfl) (by kernel_rfl) (by kernel_rfl) (fun _ _ _ h => h) (Or.inl ⟨by rfl, ?yr2x15⟩) (by assumption) ?rr2x15
          case yr2x15 => (intro w' hSw; (try dsimp only at hSw); go_simp; (try with_reducible rfl))
          refine wpAnyH_take (i := 22) (oi := { dst := some 55, op := Op.move (Operand.tmp 54), type := 4, pos := _, after := #[{ on := 21, ground := Ground.data }, { on := 13, ground := Ground.chain }, { on := 1, ground := Ground.guard }], guard := some (1, false) }) (v := ?vr2x16) rfl (by kernel_rfl) (by kernel_rfl) (by kernel_rfl) (fun _ _ _ h => h) (Or.inl ⟨by rfl, ?yr2x16⟩) (by assumption) ?rr2x16
          case yr2x16 => (intro w' hSw; (try dsimp only at hSw); go_simp; (try with_reducible rfl))
          refine wpAnyH_take (i := 23) (oi := { dst := some 56, op := Op.move (Operand.tmp 1), type := 25, pos := _, after := #[{ on := 22, ground := Ground.guard }], guard := some (22, true) }) (v := undef) rfl (by kernel_rfl) (by kernel_rfl) (by kernel_rfl) (fun _ _ _ h => h) (Or.inr ⟨by rfl, rfl⟩) (by assumption) ?_
          (try simp only [Act.put, List.setIfInBounds_toArray, List.set_cons_zero, List.set_cons_succ])
          refine wpAnyH_take (i := 24) (oi := { dst := some 57, op := Op.move (Operand.tmp 14), type := 3, pos := _, after := #[{ on := 22, ground := Ground.guard }], guard := some (22, true) }) (v := undef) rfl (by kernel_rfl) (by kernel_rfl) (by kernel_rfl) (fun _ _ _ h => h) (Or.inr ⟨by rfl, rfl⟩) (by assumption) ?_
          refine wpAnyH_take (i := 25) (oi := { dst := some 58, op := Op.indexAddr 25 (Operand.tmp 56) (Operand.tmp 57), type := 0, pos := _, after := #[{ on := 23, ground := Ground.data }, { on := 24, ground := Ground.data }, { on := 22, ground := Ground.guard }], guard := some (22, true) }) (v := undef) rfl (by kernel_rfl) (by kernel_rfl) (by kernel_rfl) (fun _ _ _ h => h) (Or.inr ⟨by rfl, rfl⟩) (by assumption) ?_
          refine wpAnyH_take (i := 26) (oi := { dst := some 59, op := Op.load 37 (Operand.tmp 58), type := 37, pos := _, after := #[{ on := 25, ground := Ground.data }, { on := 22, ground := Ground.guard }], guard := some (22, true) }) (v := undef) rfl (by kernel_rfl) (by kernel_rfl) (by kernel_rfl) (fun _ _ _ h => h) (Or.inr ⟨by rfl, rfl⟩) (by assumption) ?_
          (try simp only [Act.put, List.setIfInBounds_toArray, List.set_cons_zero, List.set_cons_succ])
          refine wpAnyH_take (i := 27) (oi := { dst := some 60, op := Op.move (Operand.tmp 3), type := 3, pos := _, after := #[{ on := 22, ground := Ground.guard }], guard := some (22, true) }) (v := undef) rfl (by kernel_rfl) (by kernel_rfl) (by kernel_rfl) (fun _ _ _ h => h) (Or.inr ⟨by rfl, rfl⟩) (by assumption) ?_
          refine wpAnyH_take (i := 28) (oi := { dst := some 61, op := Op.move (Operand.tmp 4), type := 26, pos := _, after := #[{ on := 22, ground := Ground.guard }], guard := some (22, true) }) (v := undef) rfl (by kernel_rfl) (by kernel_rfl) (by kernel_rfl) (fun _ _ _ h => h) (Or.inr ⟨by rfl, rfl⟩) (by assumption) ?_
          refine wpAnyH_take (i := 29) (oi := { dst := some 62, op := Op.call { callee := Callee.value (Operand.func 56), args := #[Operand.tmp 59, Operand.tmp 60, Operand.tmp 61], argTypes := #[37, 3, 26] }, type := 4, pos := _, after := #[{ on := 26, ground := Ground.data }, { on := 27, ground := Ground.data }, { on := 28, ground := Ground.data }, { on := 22, ground := Ground.chain }, { on := 22, ground := Ground.guard }], guard := some (22, true) }) (v := undef) rfl (by kernel_rfl) (by kernel_rfl) (by kernel_rfl) (fun _ _ _ h => h) (Or.inr ⟨by rfl, rfl⟩) (by assumption) ?_
          (try simp only [Act.put, List.setIfInBounds_toArray, List.set_cons_zero, List.set_cons_succ])
          refine wpAnyH_take (i := 30) (oi := { dst := some 63, op := Op.pick (Operand.tmp 55) (Operand.tmp 62) (Operand.const (Value.bool false)), type := 4, pos := _, after := #[{ on := 22, ground := Ground.data }, { on := 29, ground := Ground.data }, { on := 1, ground := Ground.guard }], guard := some (1, false) }) (v := ?vr2x17) rfl (by kernel_rfl) (by kernel_rfl) (by kernel_rfl) (fun _ _ _ h => h) (Or.inl ⟨by rfl, ?yr2x17⟩) (by assumption) ?rr2x17
          case yr2x17 => (intro w' hSw; (try dsimp only at hSw); go_simp; (try with_reducible rfl))
          refine wpAnyH_take (i := 31) (oi := { dst := some 64, op := Op.pick (Operand.tmp 34) (Operand.const (Value.bool true)) (Operand.tmp 63), type := 4, pos := _, after := #[{ on := 1, ground := Ground.data }, { on := 30, ground := Ground.data }], guard := none }) (v := ?vr2x18) rfl (by kernel_rfl) (by kernel_rfl) (by kernel_rfl) (fun _ _ _ h => h) (Or.inl ⟨by rfl, ?yr2x18⟩) (by assumption) ?rr2x18
          case yr2x18 => (intro w' hSw; (try dsimp only at hSw); go_simp; (try with_reducible rfl))
          refine wpAnyH_take (i := 32) (oi := { dst := some 13, op := Op.assign (Operand.tmp 64), type := 4, pos := _, after := #[{ on := 31, ground := Ground.data }, { on := 29, ground := Ground.chain }, { on := 0, ground := Ground.phase }, { on := 1, ground := Ground.phase }, { on := 2, ground := Ground.phase }, { on := 3, ground := Ground.phase }, { on := 4, ground := Ground.phase }, { on := 5, ground := Ground.phase }, { on := 6, ground := Ground.phase }, { on := 7, ground := Ground.phase }, { on := 8, ground := Ground.phase }, { on := 9, ground := Ground.phase }, { on := 10, ground := Ground.phase }, { on := 11, ground := Ground.phase }, { on := 12, ground := Ground.phase }, { on := 13, ground := Ground.phase }, { on := 14, ground := Ground.phase }, { on := 15, ground := Ground.phase }, { on := 16, ground := Ground.phase }, { on := 17, ground := Ground.phase }, { on := 18, ground := Ground.phase }, { on := 19, ground := Ground.phase }, { on := 20, ground := Ground.phase }, { on := 21, ground := Ground.phase }, { on := 22, ground := Ground.phase }, { on := 23, ground := Ground.phase }, { on := 24, ground := Ground.phase }, { on := 25, ground := Ground.phase }, { on := 26, ground := Ground.phase }, { on := 27, ground := Ground.phase }, { on := 28, ground := Ground.phase }, { on := 29, ground := Ground.phase }, { on := 30, ground := Ground.phase }, { on := 31, ground := Ground.phase }], guard := none }) (v := ?vr2x19) rfl (by kernel_rfl) (by kernel_rfl) (by kernel_rfl) (fun _ _ _ h => h) (Or.inl ⟨by rfl, ?yr2x19⟩) (by assumption) ?rr2x19
          case yr2x19 => (intro w' hSw; (try dsimp only at hSw); go_simp; (try with_reducible rfl))
          (try simp only [Act.put, List.setIfInBounds_toArray, List.set_cons_zero, List.set_cons_succ])
          refine wpAnyH_done (by kernel_rfl) ?_ _
          have hS := (by assumption : Hid (Below wr.heap.size wr _) ∧ _)
          have HO9 := Lib.hid (own_keepL HO.out hS.1.out)
          have HB9 := Lib.hid (HB.out.trans (hS.1.out.mono HB.out.size))
          go_wp2_with fail
          go_roundw
          case rel => exact ⟨j + 1, false, by have := HLJ.out; omega, by go_num, rfl, HF2, HO9, HB9⟩
          case measure => have := HLJ.out; simp [intOf]; omega
        have hq := str_eq hp
        by_cases hp2 : x.prt = prt
        rotate_left
        · have HF2 : Hid (false = (xs.take (j + 1)).any (hasB it.code prt day ps)) := Lib.hid (by rw [HTJ.out, ← HF.out, hasB_no2 hp2]; rfl)
          have hq2 := str_ne hp2
          clear hp hp2
          go_upto_region 9 with fail
          refine wp_region_held_drew (S := (fun W' => Hid (Below wr.heap.size wr W') ∧ W'.cell? ⟨b2, o2 + j * 6, none⟩ = some (.string x.par) ∧ W'.cell? ⟨b2, o2 + j * 6 + 1, none⟩ = some (.string x.prt) ∧ W'.cell? ⟨b3, o3 + k * 8, none⟩ = some (.string it.code))) (by kernel_rfl) (hold3 e0 e1 hic (Below.refl _ _).drew) (fun hHeld => ?_)
          refine wpAnyH_take (i := 0) (oi := { dst := some 33, op := Op.move (Operand.tmp 13), type := 4, pos := _, after := #[], guard := none }) (v := ?vr3x1) rfl (by kernel_rfl) (by kernel_rfl) (by kernel_rfl) (fun _ _ _ h => h) (Or.inl ⟨by rfl, ?yr3x1⟩) (by assumption) ?rr3x1
          case yr3x1 => (intro w' hSw; (try dsimp only at hSw); go_simp; (try with_reducible rfl))
          refine wpAnyH_take (i := 1) (oi := { dst := some 34, op := Op.move (Operand.tmp 33), type := 4, pos := _, after := #[{ on := 0, ground := Ground.data }], guard := none }) (v := ?vr3x2) rfl (by kernel_rfl) (by kernel_rfl) (by kernel_rfl) (fun _ _ _ h => h) (Or.inl ⟨by rfl, ?yr3x2⟩) (by assumption) ?rr3x2
          case yr3x2 => (intro w' hSw; (try dsimp only at hSw); go_simp; (try with_reducible rfl))
          refine wpAnyH_take (i := 2) (oi := { dst := some 35, op := Op.move (Operand.tmp 1), type := 25, pos := _, after := #[{ on := 1, ground := Ground.guard }], guard := some (1, false) }) (v := ?vr3x3) rfl (by kernel_rfl) (by kernel_rfl) (by kernel_rfl) (fun _ _ _ h => h) (Or.inl ⟨by rfl, ?yr3x3⟩) (by assumption) ?rr3x3
          case yr3x3 => (intro w' hSw; (try dsimp only at hSw); go_simp; (try with_reducible rfl))
          (try simp only [Act.put, List.setIfInBounds_toArray, List.set_cons_zero, List.set_cons_succ])
          refine wpAnyH_take (i := 3) (oi := { dst := some 36, op := Op.move (Operand.tmp 14), type := 3, pos := _, after := #[{ on := 1, ground := Ground.guard }], guard := some (1, false) }) (v := ?vr3x4) rfl (by kernel_rfl) (by kernel_rfl) (by kernel_rfl) (fun _ _ _ h => h) (Or.inl ⟨by rfl, ?yr3x4⟩) (by assumption) ?rr3x4
          case yr3x4 => (intro w' hSw; (try dsimp only at hSw); go_simp; (try with_reducible rfl))
          refine wpAnyH_take (i := 4) (oi := { dst := some 37, op := Op.indexAddr 25 (Operand.tmp 35) (Operand.tmp 36), type := 0, pos := _, after := #[{ on := 2, ground := Ground.data }, { on := 3, ground := Ground.data }, { on := 1, ground := Ground.guard }], guard := some (1, false) }) (v := ?vr3x5) rfl (by kernel_rfl) (by kernel_rfl) (by kernel_rfl) (fun _ _ _ h => h) (Or.inl ⟨by rfl, ?yr3x5⟩) (by assumption) ?rr3x5
          case yr3x5 => (intro w' hSw; (try dsimp only at hSw); go_simp; (try with_reducible rfl))
          refine wpAnyH_take (i := 5) (oi := { dst := some 38, op := Op.fieldAddr 37 (Operand.tmp 37) 0, type := 0, pos := _, after := #[{ on := 4, ground := Ground.data }, { on := 1, ground := Ground.guard }], guard := some (1, false) }) (v := ?vr3x6) rfl (by kernel_rfl) (by kernel_rfl) (by kernel_rfl) (fun _ _ _ h => h) (Or.inl ⟨by rfl, ?yr3x6⟩) (by assumption) ?rr3x6
          case yr3x6 => (intro w' hSw; (try dsimp only at hSw); go_simp; (try with_reducible rfl))
          (try simp only [Act.put, List.setIfInBounds_toArray, List.set_cons_zero, List.set_cons_succ])
          refine wpAnyH_take (i := 6) (oi := { dst := some 39, op := Op.load 9 (Operand.tmp 38), type := 9, pos := _, after := #[{ on := 5, ground := Ground.data }, { on := 1, ground := Ground.guard }], guard := some (1, false) }) (v := ?vr3x7) rfl (by kernel_rfl) (by kernel_rfl) (by kernel_rfl) (fun _ _ _ h => h) (Or.inl ⟨by rfl, ?yr3x7⟩) (by assumption) ?rr3x7
          case yr3x7 => (intro w' hSw; (try dsimp only at hSw); go_simp; (try with_reducible rfl))
          refine wpAnyH_take (i := 7) (oi := { dst := some 40, op := Op.move (Operand.tmp 0), type := 24, pos := _, after := #[{ on := 1, ground := Ground.guard }], guard := some (1, false) }) (v := ?vr3x8) rfl (by kernel_rfl) (by kernel_rfl) (by kernel_rfl) (fun _ _ _ h => h) (Or.inl ⟨by rfl, ?yr3x8⟩) (by assumption) ?rr3x8
          case yr3x8 => (intro w' hSw; (try dsimp only at hSw); go_simp; (try with_reducible rfl))
          refine wpAnyH_take (i := 8) (oi := { dst := some 41, op := Op.move (Operand.tmp 12), type := 3, pos := _, after := #[{ on := 1, ground := Ground.guard }], guard := some (1, false) }) (v := ?vr3x9) rfl (by kernel_rfl) (by kernel_rfl) (by kernel_rfl) (fun _ _ _ h => h) (Or.inl ⟨by rfl, ?yr3x9⟩) (by assumption) ?rr3x9
          case yr3x9 => (intro w' hSw; (try dsimp only at hSw); go_simp; (try with_reducible rfl))
          (try simp only [Act.put, List.setIfInBounds_toArray, List.set_cons_zero, List.set_cons_succ])
          refine wpAnyH_take (i := 9) (oi := { dst := some 42, op := Op.indexAddr 24 (Operand.tmp 40) (Operand.tmp 41), type := 0, pos := _, after := #[{ on := 7, ground := Ground.data }, { on := 8, ground := Ground.data }, { on := 1, ground := Ground.guard }], guard := some (1, false) }) (v := ?vr3x10) rfl (by kernel_rfl) (by kernel_rfl) (by kernel_rfl) (fun _ _ _ h => h) (Or.inl ⟨by rfl, ?yr3x10⟩) (by assumption) ?rr3x10
          case yr3x10 => (intro w' hSw; (try dsimp only at hSw); go_simp; (try with_reducible rfl))
          refine wpAnyH_take (i := 10) (oi := { dst := some 43, op := Op.fieldAddr 34 (Operand.tmp 42) 0, type := 0, pos := _, after := #[{ on := 9, ground := Ground.data }, { on := 1, ground := Ground.guard }], guard := some (1, false) }) (v := ?vr3x11) rfl (by kernel_rfl) (by kernel_rfl) (by kernel_rfl) (fun _ _ _ h => h) (Or.inl ⟨by rfl, ?yr3x11⟩) (by assumption) ?rr3x11
          case yr3x11 => (intro w' hSw; (try dsimp only at hSw); go_simp; (try with_reducible rfl))
          refine wpAnyH_take (i := 11) (oi := { dst := some 44, op := Op.load 9 (Operand.tmp 43), type := 9, pos := _, after := #[{ on := 10, ground := Ground.data }, { on := 1, ground := Ground.guard }], guard := some (1, false) }) (v := ?vr3x12) rfl (by kernel_rfl) (by kernel_rfl) (by kernel_rfl) (fun _ _ _ h => h) (Or.inl ⟨by rfl, ?yr3x12⟩) (by assumption) ?rr3x12
          case yr3x12 => (intro w' hSw; (try dsimp only at hSw); go_simp; (try with_reducible rfl))
          (try simp only [Act.put, List.setIfInBounds_toArray, List.set_cons_zero, List.set_cons_succ])
          refine wpAnyH_take (i := 12) (oi := { dst := some 45, op := Op.binOp BinOp.eql 9 (Operand.tmp 39) (Operand.tmp 44) 9, type := 4, pos := _, after := #[{ on := 6, ground := Ground.data }, { on := 11, ground := Ground.data }, { on := 1, ground := Ground.guard }], guard := some (1, false) }) (v := ?vr3x13) rfl (by kernel_rfl) (by kernel_rfl) (by kernel_rfl) (fun _ _ _ h => h) (Or.inl ⟨by rfl, ?yr3x13⟩) (by assumption) ?rr3x13
          case yr3x13 => (intro w' hSw; (try dsimp only at hSw); go_simp; (try with_reducible rfl))
          refine wpAnyH_take (i := 13) (oi := { dst := some 46, op := Op.move (Operand.tmp 45), type := 4, pos := _, after := #[{ on := 12, ground := Ground.data }, { on := 1, ground := Ground.chain }, { on := 1, ground := Ground.guard }], guard := some (1, false) }) (v := ?vr3x14) rfl (by kernel_rfl) (by kernel_rfl) (by kernel_rfl) (fun _ _ _ h => h) (Or.inl ⟨by rfl, ?yr3x14⟩) (by assumption) ?rr3x14
          case yr3x14 => (intro w' hSw; (try dsimp only at hSw); go_simp; (try with_reducible rfl))
          refine wpAnyH_take (i := 14) (oi := { dst := some 47, op := Op.move (Operand.tmp 1), type := 25, pos := _, after := #[{ on := 13, ground := Ground.guard }], guard := some (13, true) }) (v := ?vr3x15) rfl (by kernel_rfl) (by kernel_rfl) (by kernel_rfl) (fun _ _ _ h => h) (Or.inl ⟨by rfl, ?yr3x15⟩) (by assumption) ?rr3x15
          case yr3x15 => (intro w' hSw; (try dsimp only at hSw); go_simp; (try with_reducible rfl))
          (try simp only [Act.put, List.setIfInBounds_toArray, List.set_cons_zero, List.set_cons_succ])
          refine wpAnyH_take (i := 15) (oi := { dst := some 48, op := Op.move (Operand.tmp 14), type := 3, pos := _, after := #[{ on := 13, ground := Ground.guard }], guard := some (13, true) }) (v := ?vr3x16) rfl (by kernel_rfl) (by kernel_rfl) (by kernel_rfl) (fun _ _ _ h => h) (Or.inl ⟨by rfl, ?yr3x16⟩) (by assumption) ?rr3x16
          case yr3x16 => (intro w' hSw; (try dsimp only at hSw); go_simp; (try with_reducible rfl))
          refine wpAnyH_take (i := 16) (oi := { dst := some 49, op := Op.indexAddr 25 (Operand.tmp 47) (Operand.tmp 48), type := 0, pos := _, after := #[{ on := 14, ground := Ground.data }, { on := 15, ground := Ground.data }, { on := 13, ground := Ground.guard }], guard := some (13, true) }) (v := ?vr3x17) rfl (by kernel_rfl) (by kernel_rfl) (by kernel_rfl) (fun _ _ _ h => h) (Or.inl ⟨by rfl, ?yr3x17⟩) (by assumption) ?rr3x17
          case yr3x17 => (intro w' hSw; (try dsimp only at hSw); go_simp; (try with_reducible rfl))
          refine wpAnyH_take (i := 17) (oi := { dst := some 50, op := Op.fieldAddr 37 (Operand.tmp 49) 1, type := 0, pos := _, after := #[{ on := 16, ground := Ground.data }, { on := 13, ground := Ground.guard }], guard := some (13, true) }) (v := ?vr3x18) rfl (by kernel_rfl) (by kernel_rfl) (by kernel_rfl) (fun _ _ _ h => h) (Or.inl ⟨by rfl, ?yr3x18⟩) (by assumption) ?rr3x18
          case yr3x18 => (intro w' hSw; (try dsimp only at hSw); go_simp; (try with_reducible rfl))
          (try simp only [Act.put, List.setIfInBounds_toArray, List.set_cons_zero, List.set_cons_succ])
          refine wpAnyH_take (i := 18) (oi := { dst := some 51, op := Op.load 9 (Operand.tmp 50), type := 9, pos := _, after := #[{ on := 17, ground := Ground.data }, { on := 13, ground := Ground.guard }], guard := some (13, true) }) (v := ?vr3x19) rfl (by kernel_rfl) (by kernel_rfl) (by kernel_rfl) (fun _ _ _ h => h) (Or.inl ⟨by rfl, ?yr3x19⟩) (by assumption) ?rr3x19
          case yr3x19 => (intro w' hSw; (try dsimp only at hSw); go_simp; (try with_reducible rfl))
          refine wpAnyH_take (i := 19) (oi := { dst := some 52, op := Op.move (Operand.tmp 2), type := 9, pos := _, after := #[{ on := 13, ground := Ground.guard }], guard := some (13, true) }) (v := ?vr3x20) rfl (by kernel_rfl) (by kernel_rfl) (by kernel_rfl) (fun _ _ _ h => h) (Or.inl ⟨by rfl, ?yr3x20⟩) (by assumption) ?rr3x20
          case yr3x20 => (intro w' hSw; (try dsimp only at hSw); go_simp; (try with_reducible rfl))
          refine wpAnyH_take (i := 20) (oi := { dst := some 53, op := Op.binOp BinOp.eql 9 (Operand.tmp 51) (Operand.tmp 52) 9, type := 4, pos := _, after := #[{ on := 18, ground := Ground.data }, { on := 19, ground := Ground.data }, { on := 13, ground := Ground.guard }], guard := some (13, true) }) (v := ?vr3x21) rfl (by kernel_rfl) (by kernel_rfl) (by kernel_rfl) (fun _ _ _ h => h) (Or.inl ⟨by rfl, ?yr3x21⟩) (by assumption) ?rr3x21
          case yr3x21 => (intro w' hSw; (try dsimp only at hSw); go_simp; (try with_reducible rfl))
          (try simp only [Act.put, List.setIfInBounds_toArray, List.set_cons_zero, List.set_cons_succ])
          refine wpAnyH_take (i := 21) (oi := { dst := some 54, op := Op.pick (Operand.tmp 46) (Operand.tmp 53) (Operand.const (Value.bool false)), type := 4, pos := _, after := #[{ on := 13, ground := Ground.data }, { on := 20, ground := Ground.data }, { on := 1, ground := Ground.guard }], guard := some (1, false) }) (v := ?vr3x22) rfl (by kernel_rfl) (by kernel_rfl) (by kernel_rfl) (fun _ _ _ h => h) (Or.inl ⟨by rfl, ?yr3x22⟩) (by assumption) ?rr3x22
          case yr3x22 => (intro w' hSw; (try dsimp only at hSw); go_simp; (try with_reducible rfl))
          refine wpAnyH_take (i := 22) (oi := { dst := some 55, op := Op.move (Operand.tmp 54), type := 4, pos := _, after := #[{ on := 21, ground := Ground.data }, { on := 13, ground := Ground.chain }, { on := 1, ground := Ground.guard }], guard := some (1, false) }) (v := ?vr3x23) rfl (by kernel_rfl) (by kernel_rfl) (by kernel_rfl) (fun _ _ _ h => h) (Or.inl ⟨by rfl, ?yr3x23⟩) (by assumption) ?rr3x23
          case yr3x23 => (intro w' hSw; (try dsimp only at hSw); go_simp; (try with_reducible rfl))
          refine wpAnyH_take (i := 23) (oi := { dst := some 56, op := Op.move (Operand.tmp 1), type := 25, pos := _, after := #[{ on := 22, ground := Ground.guard }], guard := some (22, true) }) (v := undef) rfl (by kernel_rfl) (by kernel_rfl) (by kernel_rfl) (fun _ _ _ h => h) (Or.inr ⟨by rfl, rfl⟩) (by assumption) ?_
          (try simp only [Act.put, List.setIfInBounds_toArray, List.set_cons_zero, List.set_cons_succ])
          refine wpAnyH_take (i := 24) (oi := { dst := some 57, op := Op.move (Operand.tmp 14), type := 3, pos := _, after := #[{ on := 22, ground := Ground.guard }], guard := some (22, true) }) (v := undef) rfl (by kernel_rfl) (by kernel_rfl) (by kernel_rfl) (fun _ _ _ h => h) (Or.inr ⟨by rfl, rfl⟩) (by assumption) ?_
          refine wpAnyH_take (i := 25) (oi := { dst := some 58, op := Op.indexAddr 25 (Operand.tmp 56) (Operand.tmp 57), type := 0, pos := _, after := #[{ on := 23, ground := Ground.data }, { on := 24, ground := Ground.data }, { on := 22, ground := Ground.guard }], guard := some (22, true) }) (v := undef) rfl (by kernel_rfl) (by kernel_rfl) (by kernel_rfl) (fun _ _ _ h => h) (Or.inr ⟨by rfl, rfl⟩) (by assumption) ?_
          refine wpAnyH_take (i := 26) (oi := { dst := some 59, op := Op.load 37 (Operand.tmp 58), type := 37, pos := _, after := #[{ on := 25, ground := Ground.data }, { on := 22, ground := Ground.guard }], guard := some (22, true) }) (v := undef) rfl (by kernel_rfl) (by kernel_rfl) (by kernel_rfl) (fun _ _ _ h => h) (Or.inr ⟨by rfl, rfl⟩) (by assumption) ?_
          (try simp only [Act.put, List.setIfInBounds_toArray, List.set_cons_zero, List.set_cons_succ])
          refine wpAnyH_take (i := 27) (oi := { dst := some 60, op := Op.move (Operand.tmp 3), type := 3, pos := _, after := #[{ on := 22, ground := Ground.guard }], guard := some (22, true) }) (v := undef) rfl (by kernel_rfl) (by kernel_rfl) (by kernel_rfl) (fun _ _ _ h => h) (Or.inr ⟨by rfl, rfl⟩) (by assumption) ?_
          refine wpAnyH_take (i := 28) (oi := { dst := some 61, op := Op.move (Operand.tmp 4), type := 26, pos := _, after := #[{ on := 22, ground := Ground.guard }], guard := some (22, true) }) (v := undef) rfl (by kernel_rfl) (by kernel_rfl) (by kernel_rfl) (fun _ _ _ h => h) (Or.inr ⟨by rfl, rfl⟩) (by assumption) ?_
          refine wpAnyH_take (i := 29) (oi := { dst := some 62, op := Op.call { callee := Callee.value (Operand.func 56), args := #[Operand.tmp 59, Operand.tmp 60, Operand.tmp 61], argTypes := #[37, 3, 26] }, type := 4, pos := _, after := #[{ on := 26, ground := Ground.data }, { on := 27, ground := Ground.data }, { on := 28, ground := Ground.data }, { on := 22, ground := Ground.chain }, { on := 22, ground := Ground.guard }], guard := some (22, true) }) (v := undef) rfl (by kernel_rfl) (by kernel_rfl) (by kernel_rfl) (fun _ _ _ h => h) (Or.inr ⟨by rfl, rfl⟩) (by assumption) ?_
          (try simp only [Act.put, List.setIfInBounds_toArray, List.set_cons_zero, List.set_cons_succ])
          refine wpAnyH_take (i := 30) (oi := { dst := some 63, op := Op.pick (Operand.tmp 55) (Operand.tmp 62) (Operand.const (Value.bool false)), type := 4, pos := _, after := #[{ on := 22, ground := Ground.data }, { on := 29, ground := Ground.data }, { on := 1, ground := Ground.guard }], guard := some (1, false) }) (v := ?vr3x24) rfl (by kernel_rfl) (by kernel_rfl) (by kernel_rfl) (fun _ _ _ h => h) (Or.inl ⟨by rfl, ?yr3x24⟩) (by assumption) ?rr3x24
          case yr3x24 => (intro w' hSw; (try dsimp only at hSw); go_simp; (try with_reducible rfl))
          refine wpAnyH_take (i := 31) (oi := { dst := some 64, op := Op.pick (Operand.tmp 34) (Operand.const (Value.bool true)) (Operand.tmp 63), type := 4, pos := _, after := #[{ on := 1, ground := Ground.data }, { on := 30, ground := Ground.data }], guard := none }) (v := ?vr3x25) rfl (by kernel_rfl) (by kernel_rfl) (by kernel_rfl) (fun _ _ _ h => h) (Or.inl ⟨by rfl, ?yr3x25⟩) (by assumption) ?rr3x25
          case yr3x25 => (intro w' hSw; (try dsimp only at hSw); go_simp; (try with_reducible rfl))
          refine wpAnyH_take (i := 32) (oi := { dst := some 13, op := Op.assign (Operand.tmp 64), type := 4, pos := _, after := #[{ on := 31, ground := Ground.data }, { on := 29, ground := Ground.chain }, { on := 0, ground := Ground.phase }, { on := 1, ground := Ground.phase }, { on := 2, ground := Ground.phase }, { on := 3, ground := Ground.phase }, { on := 4, ground := Ground.phase }, { on := 5, ground := Ground.phase }, { on := 6, ground := Ground.phase }, { on := 7, ground := Ground.phase }, { on := 8, ground := Ground.phase }, { on := 9, ground := Ground.phase }, { on := 10, ground := Ground.phase }, { on := 11, ground := Ground.phase }, { on := 12, ground := Ground.phase }, { on := 13, ground := Ground.phase }, { on := 14, ground := Ground.phase }, { on := 15, ground := Ground.phase }, { on := 16, ground := Ground.phase }, { on := 17, ground := Ground.phase }, { on := 18, ground := Ground.phase }, { on := 19, ground := Ground.phase }, { on := 20, ground := Ground.phase }, { on := 21, ground := Ground.phase }, { on := 22, ground := Ground.phase }, { on := 23, ground := Ground.phase }, { on := 24, ground := Ground.phase }, { on := 25, ground := Ground.phase }, { on := 26, ground := Ground.phase }, { on := 27, ground := Ground.phase }, { on := 28, ground := Ground.phase }, { on := 29, ground := Ground.phase }, { on := 30, ground := Ground.phase }, { on := 31, ground := Ground.phase }], guard := none }) (v := ?vr3x26) rfl (by kernel_rfl) (by kernel_rfl) (by kernel_rfl) (fun _ _ _ h => h) (Or.inl ⟨by rfl, ?yr3x26⟩) (by assumption) ?rr3x26
          case yr3x26 => (intro w' hSw; (try dsimp only at hSw); go_simp; (try with_reducible rfl))
          (try simp only [Act.put, List.setIfInBounds_toArray, List.set_cons_zero, List.set_cons_succ])
          refine wpAnyH_done (by kernel_rfl) ?_ _
          have hS := (by assumption : Hid (Below wr.heap.size wr _) ∧ _)
          have HO9 := Lib.hid (own_keepL HO.out hS.1.out)
          have HB9 := Lib.hid (HB.out.trans (hS.1.out.mono HB.out.size))
          go_wp2_with fail
          go_roundw
          case rel => exact ⟨j + 1, false, by have := HLJ.out; omega, by go_num, rfl, HF2, HO9, HB9⟩
          case measure => have := HLJ.out; simp [intOf]; omega
        have HIS := Lib.hid (hasB_is (day := day) (ps := ps) hp hp2)
        have hq2 := str_eq hp2
        clear hp hp2
        obtain ⟨z, hz⟩ : ∃ z, onB x day ps = z := ⟨_, rfl⟩
        have HF2 : Hid (z = (xs.take (j + 1)).any (hasB it.code prt day ps)) := Lib.hid (by rw [HTJ.out, ← HF.out, HIS.out, hz]; rfl)
        have HON : Hid (∀ W, Below wr.heap.size wr W → Calls Try.prog 56 #[.agg #[.string x.par, .string x.prt, .int .i64 x.qty, .int .i64 x.fr, .int .i64 x.un, .slice sa5 x.whn.length sc5], .int .i64 day, v3] W (BoolRes z W)) := Lib.hid (fun W hW => by
          rw [← hz]
          exact spec_on x (.slice sa5 x.whn.length sc5) v3 day ps lo hi W (H5.out.below CnN.kept hW) HCO.out.1 (HP.out.below (HB.out.trans (hW.mono HB.out.size))) HM3.out)
        clear hz
        go_upto_region 9 with fail
        refine wp_region_held_drew (S := (fun W' => Hid (Below wr.heap.size wr W') ∧ W'.cell? ⟨b2, o2 + j * 6, none⟩ = some (.string x.par) ∧ W'.cell? ⟨b2, o2 + j * 6 + 1, none⟩ = some (.string x.prt) ∧ W'.cell? ⟨b2, o2 + j * 6 + 2, none⟩ = some (.int .i64 x.qty) ∧ W'.cell? ⟨b2, o2 + j * 6 + 3, none⟩ = some (.int .i64 x.fr) ∧ W'.cell? ⟨b2, o2 + j * 6 + 4, none⟩ = some (.int .i64 x.un) ∧ W'.cell? ⟨b2, o2 + j * 6 + 5, none⟩ = some (.slice sa5 x.whn.length sc5) ∧ W'.cell? ⟨b3, o3 + k * 8, none⟩ = some (.string it.code))) (by kernel_rfl) (hold7 e0 e1 e2 e3 e4 e5 hic (Below.refl _ _).drew) (fun hHeld => ?_)
        refine wpAnyH_take (i := 0) (oi := { dst := some 33, op := Op.move (Operand.tmp 13), type := 4, pos := _, after := #[], guard := none }) (v := ?vr4x1) rfl (by kernel_rfl) (by kernel_rfl) (by kernel_rfl) (fun _ _ _ h => h) (Or.inl ⟨by rfl, ?yr4x1⟩) (by assumption) ?rr4x1
        case yr4x1 => (intro w' hSw; (try dsimp only at hSw); go_simp; (try with_reducible rfl))
        refine wpAnyH_take (i := 1) (oi := { dst := some 34, op := Op.move (Operand.tmp 33), type := 4, pos := _, after := #[{ on := 0, ground := Ground.data }], guard := none }) (v := ?vr4x2) rfl (by kernel_rfl) (by kernel_rfl) (by kernel_rfl) (fun _ _ _ h => h) (Or.inl ⟨by rfl, ?yr4x2⟩) (by assumption) ?rr4x2
        case yr4x2 => (intro w' hSw; (try dsimp only at hSw); go_simp; (try with_reducible rfl))
        refine wpAnyH_take (i := 2) (oi := { dst := some 35, op := Op.move (Operand.tmp 1), type := 25, pos := _, after := #[{ on := 1, ground := Ground.guard }], guard := some (1, false) }) (v := ?vr4x3) rfl (by kernel_rfl) (by kernel_rfl) (by kernel_rfl) (fun _ _ _ h => h) (Or.inl ⟨by rfl, ?yr4x3⟩) (by assumption) ?rr4x3
        case yr4x3 => (intro w' hSw; (try dsimp only at hSw); go_simp; (try with_reducible rfl))
        (try simp only [Act.put, List.setIfInBounds_toArray, List.set_cons_zero, List.set_cons_succ])
        refine wpAnyH_take (i := 3) (oi := { dst := some 36, op := Op.move (Operand.tmp 14), type := 3, pos := _, after := #[{ on := 1, ground := Ground.guard }], guard := some (1, false) }) (v := ?vr4x4) rfl (by kernel_rfl) (by kernel_rfl) (by kernel_rfl) (fun _ _ _ h => h) (Or.inl ⟨by rfl, ?yr4x4⟩) (by assumption) ?rr4x4
        case yr4x4 => (intro w' hSw; (try dsimp only at hSw); go_simp; (try with_reducible rfl))
        refine wpAnyH_take (i := 4) (oi := { dst := some 37, op := Op.indexAddr 25 (Operand.tmp 35) (Operand.tmp 36), type := 0, pos := _, after := #[{ on := 2, ground := Ground.data }, { on := 3, ground := Ground.data }, { on := 1, ground := Ground.guard }], guard := some (1, false) }) (v := ?vr4x5) rfl (by kernel_rfl) (by kernel_rfl) (by kernel_rfl) (fun _ _ _ h => h) (Or.inl ⟨by rfl, ?yr4x5⟩) (by assumption) ?rr4x5
        case yr4x5 => (intro w' hSw; (try dsimp only at hSw); go_simp; (try with_reducible rfl))
        refine wpAnyH_take (i := 5) (oi := { dst := some 38, op := Op.fieldAddr 37 (Operand.tmp 37) 0, type := 0, pos := _, after := #[{ on := 4, ground := Ground.data }, { on := 1, ground := Ground.guard }], guard := some (1, false) }) (v := ?vr4x6) rfl (by kernel_rfl) (by kernel_rfl) (by kernel_rfl) (fun _ _ _ h => h) (Or.inl ⟨by rfl, ?yr4x6⟩) (by assumption) ?rr4x6
        case yr4x6 => (intro w' hSw; (try dsimp only at hSw); go_simp; (try with_reducible rfl))
        (try simp only [Act.put, List.setIfInBounds_toArray, List.set_cons_zero, List.set_cons_succ])
        refine wpAnyH_take (i := 6) (oi := { dst := some 39, op := Op.load 9 (Operand.tmp 38), type := 9, pos := _, after := #[{ on := 5, ground := Ground.data }, { on := 1, ground := Ground.guard }], guard := some (1, false) }) (v := ?vr4x7) rfl (by kernel_rfl) (by kernel_rfl) (by kernel_rfl) (fun _ _ _ h => h) (Or.inl ⟨by rfl, ?yr4x7⟩) (by assumption) ?rr4x7
        case yr4x7 => (intro w' hSw; (try dsimp only at hSw); go_simp; (try with_reducible rfl))
        refine wpAnyH_take (i := 7) (oi := { dst := some 40, op := Op.move (Operand.tmp 0), type := 24, pos := _, after := #[{ on := 1, ground := Ground.guard }], guard := some (1, false) }) (v := ?vr4x8) rfl (by kernel_rfl) (by kernel_rfl) (by kernel_rfl) (fun _ _ _ h => h) (Or.inl ⟨by rfl, ?yr4x8⟩) (by assumption) ?rr4x8
        case yr4x8 => (intro w' hSw; (try dsimp only at hSw); go_simp; (try with_reducible rfl))
        refine wpAnyH_take (i := 8) (oi := { dst := some 41, op := Op.move (Operand.tmp 12), type := 3, pos := _, after := #[{ on := 1, ground := Ground.guard }], guard := some (1, false) }) (v := ?vr4x9) rfl (by kernel_rfl) (by kernel_rfl) (by kernel_rfl) (fun _ _ _ h => h) (Or.inl ⟨by rfl, ?yr4x9⟩) (by assumption) ?rr4x9
        case yr4x9 => (intro w' hSw; (try dsimp only at hSw); go_simp; (try with_reducible rfl))
        (try simp only [Act.put, List.setIfInBounds_toArray, List.set_cons_zero, List.set_cons_succ])
        refine wpAnyH_take (i := 9) (oi := { dst := some 42, op := Op.indexAddr 24 (Operand.tmp 40) (Operand.tmp 41), type := 0, pos := _, after := #[{ on := 7, ground := Ground.data }, { on := 8, ground := Ground.data }, { on := 1, ground := Ground.guard }], guard := some (1, false) }) (v := ?vr4x10) rfl (by kernel_rfl) (by kernel_rfl) (by kernel_rfl) (fun _ _ _ h => h) (Or.inl ⟨by rfl, ?yr4x10⟩) (by assumption) ?rr4x10
        case yr4x10 => (intro w' hSw; (try dsimp only at hSw); go_simp; (try with_reducible rfl))
        refine wpAnyH_take (i := 10) (oi := { dst := some 43, op := Op.fieldAddr 34 (Operand.tmp 42) 0, type := 0, pos := _, after := #[{ on := 9, ground := Ground.data }, { on := 1, ground := Ground.guard }], guard := some (1, false) }) (v := ?vr4x11) rfl (by kernel_rfl) (by kernel_rfl) (by kernel_rfl) (fun _ _ _ h => h) (Or.inl ⟨by rfl, ?yr4x11⟩) (by assumption) ?rr4x11
        case yr4x11 => (intro w' hSw; (try dsimp only at hSw); go_simp; (try with_reducible rfl))
        refine wpAnyH_take (i := 11) (oi := { dst := some 44, op := Op.load 9 (Operand.tmp 43), type := 9, pos := _, after := #[{ on := 10, ground := Ground.data }, { on := 1, ground := Ground.guard }], guard := some (1, false) }) (v := ?vr4x12) rfl (by kernel_rfl) (by kernel_rfl) (by kernel_rfl) (fun _ _ _ h => h) (Or.inl ⟨by rfl, ?yr4x12⟩) (by assumption) ?rr4x12
        case yr4x12 => (intro w' hSw; (try dsimp only at hSw); go_simp; (try with_reducible rfl))
        (try simp only [Act.put, List.setIfInBounds_toArray, List.set_cons_zero, List.set_cons_succ])
        refine wpAnyH_take (i := 12) (oi := { dst := some 45, op := Op.binOp BinOp.eql 9 (Operand.tmp 39) (Operand.tmp 44) 9, type := 4, pos := _, after := #[{ on := 6, ground := Ground.data }, { on := 11, ground := Ground.data }, { on := 1, ground := Ground.guard }], guard := some (1, false) }) (v := ?vr4x13) rfl (by kernel_rfl) (by kernel_rfl) (by kernel_rfl) (fun _ _ _ h => h) (Or.inl ⟨by rfl, ?yr4x13⟩) (by assumption) ?rr4x13
        case yr4x13 => (intro w' hSw; (try dsimp only at hSw); go_simp; (try with_reducible rfl))
        refine wpAnyH_take (i := 13) (oi := { dst := some 46, op := Op.move (Operand.tmp 45), type := 4, pos := _, after := #[{ on := 12, ground := Ground.data }, { on := 1, ground := Ground.chain }, { on := 1, ground := Ground.guard }], guard := some (1, false) }) (v := ?vr4x14) rfl (by kernel_rfl) (by kernel_rfl) (by kernel_rfl) (fun _ _ _ h => h) (Or.inl ⟨by rfl, ?yr4x14⟩) (by assumption) ?rr4x14
        case yr4x14 => (intro w' hSw; (try dsimp only at hSw); go_simp; (try with_reducible rfl))
        refine wpAnyH_take (i := 14) (oi := { dst := some 47, op := Op.move (Operand.tmp 1), type := 25, pos := _, after := #[{ on := 13, ground := Ground.guard }], guard := some (13, true) }) (v := ?vr4x15) rfl (by kernel_rfl) (by kernel_rfl) (by kernel_rfl) (fun _ _ _ h => h) (Or.inl ⟨by rfl, ?yr4x15⟩) (by assumption) ?rr4x15
        case yr4x15 => (intro w' hSw; (try dsimp only at hSw); go_simp; (try with_reducible rfl))
        (try simp only [Act.put, List.setIfInBounds_toArray, List.set_cons_zero, List.set_cons_succ])
        refine wpAnyH_take (i := 15) (oi := { dst := some 48, op := Op.move (Operand.tmp 14), type := 3, pos := _, after := #[{ on := 13, ground := Ground.guard }], guard := some (13, true) }) (v := ?vr4x16) rfl (by kernel_rfl) (by kernel_rfl) (by kernel_rfl) (fun _ _ _ h => h) (Or.inl ⟨by rfl, ?yr4x16⟩) (by assumption) ?rr4x16
        case yr4x16 => (intro w' hSw; (try dsimp only at hSw); go_simp; (try with_reducible rfl))
        refine wpAnyH_take (i := 16) (oi := { dst := some 49, op := Op.indexAddr 25 (Operand.tmp 47) (Operand.tmp 48), type := 0, pos := _, after := #[{ on := 14, ground := Ground.data }, { on := 15, ground := Ground.data }, { on := 13, ground := Ground.guard }], guard := some (13, true) }) (v := ?vr4x17) rfl (by kernel_rfl) (by kernel_rfl) (by kernel_rfl) (fun _ _ _ h => h) (Or.inl ⟨by rfl, ?yr4x17⟩) (by assumption) ?rr4x17
        case yr4x17 => (intro w' hSw; (try dsimp only at hSw); go_simp; (try with_reducible rfl))
        refine wpAnyH_take (i := 17) (oi := { dst := some 50, op := Op.fieldAddr 37 (Operand.tmp 49) 1, type := 0, pos := _, after := #[{ on := 16, ground := Ground.data }, { on := 13, ground := Ground.guard }], guard := some (13, true) }) (v := ?vr4x18) rfl (by kernel_rfl) (by kernel_rfl) (by kernel_rfl) (fun _ _ _ h => h) (Or.inl ⟨by rfl, ?yr4x18⟩) (by assumption) ?rr4x18
        case yr4x18 => (intro w' hSw; (try dsimp only at hSw); go_simp; (try with_reducible rfl))
        (try simp only [Act.put, List.setIfInBounds_toArray, List.set_cons_zero, List.set_cons_succ])
        refine wpAnyH_take (i := 18) (oi := { dst := some 51, op := Op.load 9 (Operand.tmp 50), type := 9, pos := _, after := #[{ on := 17, ground := Ground.data }, { on := 13, ground := Ground.guard }], guard := some (13, true) }) (v := ?vr4x19) rfl (by kernel_rfl) (by kernel_rfl) (by kernel_rfl) (fun _ _ _ h => h) (Or.inl ⟨by rfl, ?yr4x19⟩) (by assumption) ?rr4x19
        case yr4x19 => (intro w' hSw; (try dsimp only at hSw); go_simp; (try with_reducible rfl))
        refine wpAnyH_take (i := 19) (oi := { dst := some 52, op := Op.move (Operand.tmp 2), type := 9, pos := _, after := #[{ on := 13, ground := Ground.guard }], guard := some (13, true) }) (v := ?vr4x20) rfl (by kernel_rfl) (by kernel_rfl) (by kernel_rfl) (fun _ _ _ h => h) (Or.inl ⟨by rfl, ?yr4x20⟩) (by assumption) ?rr4x20
        case yr4x20 => (intro w' hSw; (try dsimp only at hSw); go_simp; (try with_reducible rfl))
        refine wpAnyH_take (i := 20) (oi := { dst := some 53, op := Op.binOp BinOp.eql 9 (Operand.tmp 51) (Operand.tmp 52) 9, type := 4, pos := _, after := #[{ on := 18, ground := Ground.data }, { on := 19, ground := Ground.data }, { on := 13, ground := Ground.guard }], guard := some (13, true) }) (v := ?vr4x21) rfl (by kernel_rfl) (by kernel_rfl) (by kernel_rfl) (fun _ _ _ h => h) (Or.inl ⟨by rfl, ?yr4x21⟩) (by assumption) ?rr4x21
        case yr4x21 => (intro w' hSw; (try dsimp only at hSw); go_simp; (try with_reducible rfl))
        (try simp only [Act.put, List.setIfInBounds_toArray, List.set_cons_zero, List.set_cons_succ])
        refine wpAnyH_take (i := 21) (oi := { dst := some 54, op := Op.pick (Operand.tmp 46) (Operand.tmp 53) (Operand.const (Value.bool false)), type := 4, pos := _, after := #[{ on := 13, ground := Ground.data }, { on := 20, ground := Ground.data }, { on := 1, ground := Ground.guard }], guard := some (1, false) }) (v := ?vr4x22) rfl (by kernel_rfl) (by kernel_rfl) (by kernel_rfl) (fun _ _ _ h => h) (Or.inl ⟨by rfl, ?yr4x22⟩) (by assumption) ?rr4x22
        case yr4x22 => (intro w' hSw; (try dsimp only at hSw); go_simp; (try with_reducible rfl))
        refine wpAnyH_take (i := 22) (oi := { dst := some 55, op := Op.move (Operand.tmp 54), type := 4, pos := _, after := #[{ on := 21, ground := Ground.data }, { on := 13, ground := Ground.chain }, { on := 1, ground := Ground.guard }], guard := some (1, false) }) (v := ?vr4x23) rfl (by kernel_rfl) (by kernel_rfl) (by kernel_rfl) (fun _ _ _ h => h) (Or.inl ⟨by rfl, ?yr4x23⟩) (by assumption) ?rr4x23
        case yr4x23 => (intro w' hSw; (try dsimp only at hSw); go_simp; (try with_reducible rfl))
        refine wpAnyH_take (i := 23) (oi := { dst := some 56, op := Op.move (Operand.tmp 1), type := 25, pos := _, after := #[{ on := 22, ground := Ground.guard }], guard := some (22, true) }) (v := ?vr4x24) rfl (by kernel_rfl) (by kernel_rfl) (by kernel_rfl) (fun _ _ _ h => h) (Or.inl ⟨by rfl, ?yr4x24⟩) (by assumption) ?rr4x24
        case yr4x24 => (intro w' hSw; (try dsimp only at hSw); go_simp; (try with_reducible rfl))
        (try simp only [Act.put, List.setIfInBounds_toArray, List.set_cons_zero, List.set_cons_succ])
        refine wpAnyH_take (i := 24) (oi := { dst := some 57, op := Op.move (Operand.tmp 14), type := 3, pos := _, after := #[{ on := 22, ground := Ground.guard }], guard := some (22, true) }) (v := ?vr4x25) rfl (by kernel_rfl) (by kernel_rfl) (by kernel_rfl) (fun _ _ _ h => h) (Or.inl ⟨by rfl, ?yr4x25⟩) (by assumption) ?rr4x25
        case yr4x25 => (intro w' hSw; (try dsimp only at hSw); go_simp; (try with_reducible rfl))
        refine wpAnyH_take (i := 25) (oi := { dst := some 58, op := Op.indexAddr 25 (Operand.tmp 56) (Operand.tmp 57), type := 0, pos := _, after := #[{ on := 23, ground := Ground.data }, { on := 24, ground := Ground.data }, { on := 22, ground := Ground.guard }], guard := some (22, true) }) (v := ?vr4x26) rfl (by kernel_rfl) (by kernel_rfl) (by kernel_rfl) (fun _ _ _ h => h) (Or.inl ⟨by rfl, ?yr4x26⟩) (by assumption) ?rr4x26
        case yr4x26 => (intro w' hSw; (try dsimp only at hSw); go_simp; (try with_reducible rfl))
        refine wpAnyH_take (i := 26) (oi := { dst := some 59, op := Op.load 37 (Operand.tmp 58), type := 37, pos := _, after := #[{ on := 25, ground := Ground.data }, { on := 22, ground := Ground.guard }], guard := some (22, true) }) (v := ?vr4x27) rfl (by kernel_rfl) (by kernel_rfl) (by kernel_rfl) (fun _ _ _ h => h) (Or.inl ⟨by rfl, ?yr4x27⟩) (by assumption) ?rr4x27
        case yr4x27 => (intro w' hSw; (try dsimp only at hSw); go_simp; (try with_reducible rfl))
        (try simp only [Act.put, List.setIfInBounds_toArray, List.set_cons_zero, List.set_cons_succ])
        refine wpAnyH_take (i := 27) (oi := { dst := some 60, op := Op.move (Operand.tmp 3), type := 3, pos := _, after := #[{ on := 22, ground := Ground.guard }], guard := some (22, true) }) (v := ?vr4x28) rfl (by kernel_rfl) (by kernel_rfl) (by kernel_rfl) (fun _ _ _ h => h) (Or.inl ⟨by rfl, ?yr4x28⟩) (by assumption) ?rr4x28
        case yr4x28 => (intro w' hSw; (try dsimp only at hSw); go_simp; (try with_reducible rfl))
        refine wpAnyH_take (i := 28) (oi := { dst := some 61, op := Op.move (Operand.tmp 4), type := 26, pos := _, after := #[{ on := 22, ground := Ground.guard }], guard := some (22, true) }) (v := ?vr4x29) rfl (by kernel_rfl) (by kernel_rfl) (by kernel_rfl) (fun _ _ _ h => h) (Or.inl ⟨by rfl, ?yr4x29⟩) (by assumption) ?rr4x29
        case yr4x29 => (intro w' hSw; (try dsimp only at hSw); go_simp; (try with_reducible rfl))
        (try simp only [Act.put, List.setIfInBounds_toArray, List.set_cons_zero, List.set_cons_succ])
        refine wpAnyH_ready (rs := [29]) (by kernel_rfl) (by simp) ?_
        refine AllReadyH.cons (o := { dst := some 62, op := Op.call { callee := Callee.value (Operand.func 56), args := #[Operand.tmp 59, Operand.tmp 60, Operand.tmp 61], argTypes := #[37, 3, 26] }, type := 4, pos := _, after := #[{ on := 26, ground := Ground.data }, { on := 27, ground := Ground.data }, { on := 28, ground := Ground.data }, { on := 22, ground := Ground.chain }, { on := 22, ground := Ground.guard }], guard := some (22, true) }) rfl (fun K hK => ?_) AllReadyH.nil
        go_simp
        refine (HON.out _ (by first | exact (by assumption : Hid (Below wr.heap.size wr _) ∧ _).1.out | exact Below.refl _ _ | exact (Below.refl _ _).drew)).mono ?_; rintro e w' ⟨rfl, hb⟩; have hle := hold_le (by assumption) hb
        (try go_wp2_with fail)
        refine hK.out _ _ ?_ (fun hHeld => ?_)
        · (try dsimp only); first | assumption | exact hold7 e0 e1 e2 e3 e4 e5 hic (hold_call (by assumption) (by assumption))
        clear hK K
        (try simp only [Act.put, List.setIfInBounds_toArray, List.set_cons_zero, List.set_cons_succ])
        refine wpAnyH_take (i := 30) (oi := { dst := some 63, op := Op.pick (Operand.tmp 55) (Operand.tmp 62) (Operand.const (Value.bool false)), type := 4, pos := _, after := #[{ on := 22, ground := Ground.data }, { on := 29, ground := Ground.data }, { on := 1, ground := Ground.guard }], guard := some (1, false) }) (v := ?vr4x30) rfl (by kernel_rfl) (by kernel_rfl) (by kernel_rfl) (fun _ _ _ h => h) (Or.inl ⟨by rfl, ?yr4x30⟩) (by assumption) ?rr4x30
        case yr4x30 => (intro w' hSw; (try dsimp only at hSw); go_simp; (try with_reducible rfl))
        refine wpAnyH_take (i := 31) (oi := { dst := some 64, op := Op.pick (Operand.tmp 34) (Operand.const (Value.bool true)) (Operand.tmp 63), type := 4, pos := _, after := #[{ on := 1, ground := Ground.data }, { on := 30, ground := Ground.data }], guard := none }) (v := ?vr4x31) rfl (by kernel_rfl) (by kernel_rfl) (by kernel_rfl) (fun _ _ _ h => h) (Or.inl ⟨by rfl, ?yr4x31⟩) (by assumption) ?rr4x31
        case yr4x31 => (intro w' hSw; (try dsimp only at hSw); go_simp; (try with_reducible rfl))
        refine wpAnyH_take (i := 32) (oi := { dst := some 13, op := Op.assign (Operand.tmp 64), type := 4, pos := _, after := #[{ on := 31, ground := Ground.data }, { on := 29, ground := Ground.chain }, { on := 0, ground := Ground.phase }, { on := 1, ground := Ground.phase }, { on := 2, ground := Ground.phase }, { on := 3, ground := Ground.phase }, { on := 4, ground := Ground.phase }, { on := 5, ground := Ground.phase }, { on := 6, ground := Ground.phase }, { on := 7, ground := Ground.phase }, { on := 8, ground := Ground.phase }, { on := 9, ground := Ground.phase }, { on := 10, ground := Ground.phase }, { on := 11, ground := Ground.phase }, { on := 12, ground := Ground.phase }, { on := 13, ground := Ground.phase }, { on := 14, ground := Ground.phase }, { on := 15, ground := Ground.phase }, { on := 16, ground := Ground.phase }, { on := 17, ground := Ground.phase }, { on := 18, ground := Ground.phase }, { on := 19, ground := Ground.phase }, { on := 20, ground := Ground.phase }, { on := 21, ground := Ground.phase }, { on := 22, ground := Ground.phase }, { on := 23, ground := Ground.phase }, { on := 24, ground := Ground.phase }, { on := 25, ground := Ground.phase }, { on := 26, ground := Ground.phase }, { on := 27, ground := Ground.phase }, { on := 28, ground := Ground.phase }, { on := 29, ground := Ground.phase }, { on := 30, ground := Ground.phase }, { on := 31, ground := Ground.phase }], guard := none }) (v := ?vr4x32) rfl (by kernel_rfl) (by kernel_rfl) (by kernel_rfl) (fun _ _ _ h => h) (Or.inl ⟨by rfl, ?yr4x32⟩) (by assumption) ?rr4x32
        case yr4x32 => (intro w' hSw; (try dsimp only at hSw); go_simp; (try with_reducible rfl))
        (try simp only [Act.put, List.setIfInBounds_toArray, List.set_cons_zero, List.set_cons_succ])
        refine wpAnyH_done (by kernel_rfl) ?_ _
        have hS := (by assumption : Hid (Below wr.heap.size wr _) ∧ _)
        have HO9 := Lib.hid (own_keepL HO.out hS.1.out)
        have HB9 := Lib.hid (HB.out.trans (hS.1.out.mono HB.out.size))
        go_wp2_with fail
        go_roundw
        case rel => exact ⟨j + 1, z, by have := HLJ.out; omega, by go_num, rfl, HF2, HO9, HB9⟩
        case measure => have := HLJ.out; simp [intOf]; omega
end Go.Proofs.Ytmnncinpepeocaa
