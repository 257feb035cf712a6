/-
 The program's structureOn: its walks.
-/
import Derived.Test.YtmnncinpepeocaaGreatStruc
import Derived.Test.YtmnncinpepeocaaGreatBuWay
import Derived.WalkKit
import Derived.WalkSpells
import Derived.WalkSmall
import Derived.BigQuiet
import Derived.OneCell
import Derived.Deep.QuietTactic
import Derived.Deep.DeepCutAuto
import Derived.Laws.OwnMore
import Derived.Lib.SliceRun
import Derived.Lib.Hide
namespace Go.Proofs.YtmnncinpepeocaaGreat
open Go.RowKit

theorem BX.infoX : (Tryz.prog.info? 94).map (fun i => (i.zero, i.size, i.bytes)) = some (some (.agg #[.string ByteArray.empty, .string ByteArray.empty, .int .i64 0, .int .i64 0, .int .i64 0, .slice none 0 0]), 6, 80) := by kernel_rfl
theorem ty_one {rs : List NR} (h : ∀ r, r ∈ rs → DLB.Ty r) : ∀ u ∈ flatN rs, u.oneCell' = true := fun u hu => by
 obtain ⟨r, hr, hu⟩ := List.mem_flatMap.1 hu
 obtain ⟨s0, s1, z2, z3, z4, a5, n5, k5, e⟩ := h r hr
 rw [e] at hu
 simp only [List.mem_cons, List.not_mem_nil, or_false] at hu
 rcases hu with rfl | rfl | rfl | rfl | rfl | rfl <;> rfl

set_option maxRecDepth 100000 in
set_option maxHeartbeats 1000000 in
/-- The lines as a list of the call's own. -/
theorem im_cloneB (v : Value) (xs : List BL) (rs : List NR) (lo hi : Nat) (w : World) (h : BX lo hi w v xs) (hr : RecC lo hi w xs rs) (hl : xs.length ≤ 24)
 (hc : 0 < xs.length → ∃ b o c, v = .slice (some ⟨b, o, none⟩) xs.length c ∧ b < w.heap.size ∧ ∀ j u, (flatN rs)[j]? = some u → w.cell? ((⟨b, o, none⟩ : Addr).add j) = some u) :
 Calls Tryz.prog 90 #[v] w fun e w' => ∃ v', e = .returned v' ∧ Hid (w'.ownsRow w.heap.size 94 6 v' xs.length (flatN rs)) ∧ Hid (Below w.heap.size w w') := by
 obtain ⟨i0, hi0, hz0, hz1, hz2⟩ := info_parts BX.infoX
 have hlen : ∀ r, r ∈ rs → r.cs.length = 6 := fun r hr2 => (hr.ty r hr2).len
 have HF : Hid ((flatN rs).length = xs.length * 6) := Lib.hid (by rw [flatN_length hlen, hr.1])
 have HT := Lib.hid (ty_one hr.ty)
 obtain ⟨ad, c, rfl⟩ := h.slice
 cases ad with
 | none =>
  have h0 : xs.length = 0 := by
   rcases Nat.eq_zero_or_pos xs.length with h1 | h1
   · exact h1
   · obtain ⟨b, o, c', e, _⟩ := hc h1
     cases e
  have HE : Hid (w.ownsRow w.heap.size 94 6 (.slice none 0 0) xs.length (flatN rs)) := Lib.hid ⟨HF.out, Or.inl ⟨rfl, h0⟩⟩
  have hnil : (binOp .eql 25 (.slice none 0 c) (.slice none 0 0)).run Tryz.prog w = .ok (.bool true) w := Lib.run_eql_slice_nil w 25 94 none 0 c 0 0 Tryz.underlying25
  rw [h0] at HE ⊢
  clear hc hr h hlen
  go_enter Tryz.func90, Tryz.ntmps90
  go_wp2_with fail
  go_ret
  exact ⟨.slice none 0 0, rfl, HE, Lib.hid (Below.refl _ _)⟩
 | some ad =>
  have hnews : ∀ j u, (flatN rs)[j]? = some u → (w.alloc (.cells #[] 94)).cell? (ad.add j) = some u := fun j u hu => by
   have h1 : 0 < xs.length := by
    have := (List.getElem?_eq_some_iff.1 hu).1
    rw [HF.out] at this
    omega
   obtain ⟨b, o, c', e, hb, h2⟩ := hc h1
   cases e
   have h3 := h2 j u hu
   rw [Addr.add_lit] at h3 ⊢
   exact (((Below.refl w.heap.size w).alloc (Nat.le_refl _) (.cells #[] 94)).cell (p := ⟨b, o + j, none⟩) hb).trans h3
  have HN := Lib.hid hnews
  have hnil : (binOp .eql 25 (.slice (some ad) xs.length c) (.slice none 0 0)).run Tryz.prog w = .ok (.bool false) w := Lib.run_eql_slice_nil w 25 94 (some ad) xs.length c 0 0 Tryz.underlying25
  clear hc hr h hlen hnews
  go_enter Tryz.func90, Tryz.ntmps90
  go_wp2_with (at_builtin; refine wpList_append_own _ rfl _ _ 25 rfl w.heap.size 94 i0 (.agg #[.string ByteArray.empty, .string ByteArray.empty, .int .i64 0, .int .i64 0, .int .i64 0, .slice none 0 0]) 6 80 Tryz.underlying25 hi0 hz0 hz1 hz2 rfl (by decide) _ 0 [] rfl (own_empty (Nat.le_refl _)) ad xs.length c (flatN rs) rfl HF.out HN.out HT.out (by unfold maxLen; omega) (by omega) (by simp) ?_)
  intro v3 w3 ho hg _
  obtain ⟨a3, c3, rfl⟩ := own_sliceN ho
  have HO := Lib.hid ho
  have HB := Lib.hid (((Below.refl w.heap.size w).alloc (Nat.le_refl _) _).grown hg (by simp) (fun k hk => by cases hk; exact Nat.le_refl _))
  clear ho hg
  go_wp2_with fail
  go_ret
  exact ⟨_, rfl, HO, HB⟩

set_option maxRecDepth 100000 in
set_option maxHeartbeats 1000000 in
/-- The test: not in force. -/
theorem im_idle (x : BL) (u5 v2 : Value) (day : Int) (ps : List PK) (lo hi b0 b1 : Nat) (w : World) (h0 : w.heap[b0]? = some (.cells #[.int .i64 day] 3)) (h1 : w.heap[b1]? = some (.cells #[v2] 26)) (h5 : CX lo hi w u5 x.whn) (hs : CX.Sz x.whn) (h2 : PK.Is w v2 ps) (hm : ps.length ≤ maxLen) :
 Calls Tryz.prog 87 #[.agg #[.string x.par, .string x.prt, .int .i64 x.qty, .int .i64 x.fr, .int .i64 x.un, u5], .pointer (some ⟨b0, 0, none⟩), .pointer (some ⟨b1, 0, none⟩)] w (BoolRes (!onB x day ps) w) := by
 obtain ⟨a5, c5, rfl⟩ := h5.slice
 obtain ⟨a2, c2, rfl⟩ := h2.slice
 obtain ⟨W1, hW1⟩ : ∃ W, w.alloc (.cells #[.string x.par, .string x.prt, .int .i64 x.qty, .int .i64 x.fr, .int .i64 x.un, .slice a5 x.whn.length c5] 94) = W := ⟨_, rfl⟩
 have HA : Hid (W1.heap[w.heap.size]? = some (.cells #[.string x.par, .string x.prt, .int .i64 x.qty, .int .i64 x.fr, .int .i64 x.un, .slice a5 x.whn.length c5] 94)) := Lib.hid (by rw [← hW1]; exact heap_alloc_new _ _)
 have HB : Hid (Below w.heap.size w W1) := Lib.hid (by rw [← hW1]; exact (Below.refl _ _).alloc (Nat.le_refl _) _)
 have H0 := Lib.hid (blk_below h0 HB.out)
 have H1 := Lib.hid (blk_below h1 HB.out)
 have HC := Lib.hid (im_on x _ _ day ps lo hi W1 (h5.below CnN.kept HB.out) hs (h2.below HB.out) hm)
 have HW1 := Lib.hid hW1
 clear h0 h1 h5 hs h2 hW1
 go_enter Tryz.func87, Tryz.ntmps87
 go_upto_region 1 with fail
 rw [HW1.out]
 have q0 := cell_of_row _ _ 0 _ _ _ HA.out
 have q1 := cell_of_row _ _ 1 _ _ _ HA.out
 have q2 := cell_of_row _ _ 2 _ _ _ HA.out
 have q3 := cell_of_row _ _ 3 _ _ _ HA.out
 have q4 := cell_of_row _ _ 4 _ _ _ HA.out
 have q5 := cell_of_row _ _ 5 _ _ _ HA.out
 have q6 := cell_of_row _ _ 0 _ _ _ H0.out
 have q7 := cell_of_row _ _ 0 _ _ _ H1.out
 go_wp2_with fail
 refine HC.out.mono ?_
 rintro e w2 ⟨rfl, hb⟩
 have HBF := Lib.hid (HB.out.trans (hb.mono HB.out.size))
 clear hb HC
 generalize onB x day ps = y at *
 go_wp2_with fail
 go_ret
 exact ⟨rfl, HBF.out⟩

theorem RecC.below {lo hi : Nat} {w w' : World} {xs : List BL} {rs : List NR} (h : RecC lo hi w xs rs) (hb : Below w.heap.size w w') : RecC lo hi w' xs rs := ⟨h.1, fun j hj hr => by
 obtain ⟨u, e, hu⟩ := h.2 j hj hr
 exact ⟨u, e, hu.below CnN.kept hb⟩⟩
theorem Strs.slice' {w : World} {v : Value} {ss : List ByteArray} (h : Strs w v ss) : ∃ (a : Option Addr) (c : Nat), v = .slice a ss.length c := by
 rcases h with ⟨rfl, a, c, rfl⟩ | ⟨h0, b, o, c, rfl, hc, hcell⟩
 · exact ⟨a, c, rfl⟩
 · exact ⟨_, c, rfl⟩
theorem Strs.at' {w : World} {v : Value} {ss : List ByteArray} (h : Strs w v ss) (k : Nat) (hk : k < ss.length) : ∃ b o c, v = .slice (some ⟨b, o, none⟩) ss.length c ∧ w.cell? ⟨b, o + k, none⟩ = some (.string (ss[k]'hk)) := by
 rcases h with ⟨rfl, a, c, rfl⟩ | ⟨h0, b, o, c, rfl, hc, hcell⟩
 · simp at hk
 · exact ⟨b, o, c, rfl, hcell.at k hk⟩
/-- The test at a record's number. -/
noncomputable def idleAt (xs : List BL) (day : Int) (ps : List PK) (j : Nat) : Bool := match xs[j]? with
 | some x => !onB x day ps
 | none => false
theorem idleAt_get {xs : List BL} {day : Int} {ps : List PK} {j : Nat} (hj : j < xs.length) : idleAt xs day ps j = !onB (xs[j]'hj) day ps := by
 unfold idleAt; rw [List.getElem?_eq_getElem hj]
theorem blk_set2s {w : World} {g : Nat} {a b x y : Value} {t : TypeId} (h : w.heap[g]? = some (.cells #[a, b] t (0, 0))) : ((w.setCell ⟨g, 0, none⟩ x).setCell ⟨g, 1, none⟩ y).heap[g]? = some (.cells #[x, y] t (0, 0)) :=
 heap_setCell_same _ _ 1 _ _ _ (heap_setCell_same _ _ 0 _ _ _ h)
/-- The bills are valid, and all codes are items. -/
def StrucOk (l : List IT) (xs : List BL) (cs : List ByteArray) : Prop := BillsOk l xs ∧ ∀ s, s ∈ cs → 0 ≤ fiI l s
/-- What structureOn gives. -/
def StrRes (l : List IT) (xs : List BL) (day : Int) (ps : List PK) (cs : List ByteArray) (v : Value) (w : World) (e : Ending) (w' : World) : Prop :=
 (¬StrucOk l xs cs ∧ e = .returned (.tuple #[.agg #[.slice none 0 0, .slice none 0 0], .bool false]) ∧ Hid (Below w.heap.size w w')) ∨
 (StrucOk l xs cs ∧ ∃ v', e = .returned (.tuple #[.agg #[v, v'], .bool true]) ∧ Hid (BX 0 w'.heap.size w' v' (onX xs day ps)) ∧ Hid (Below w.heap.size w w'))

set_option maxRecDepth 100000 in
set_option maxHeartbeats 2000000 in
theorem im_struc (v v2 vc vk : Value) (l : List IT) (xs : List BL) (day : Int) (ps : List PK) (cs : List ByteArray) (lo hi : Nat) (w : World) (h : IT.Is w v l) (h2 : BX lo hi w v2 xs) (h3 : PK.Is w vc ps) (h4 : Strs w vk cs)
 (hm : l.length ≤ maxLen) (hs : ∀ r, r ∈ l → IT.Sz r) (hs2 : BX.Sz xs) (hm3 : ps.length ≤ maxLen) (hm4 : cs.length ≤ 2) :
 Calls Tryz.prog 44 #[v, v2, .int .i64 day, vc, vk] w (StrRes l xs day ps cs v w) := by
 obtain ⟨a, c, rfl⟩ := h.slice
 obtain ⟨a2, c2, rfl⟩ := h2.slice
 obtain ⟨a3, c3, rfl⟩ := h3.slice
 obtain ⟨ak, ck, rfl⟩ := h4.slice'
 obtain ⟨W1, hW1⟩ : ∃ W, ((w.alloc (.cells #[.int .i64 day] 3)).alloc (.cells #[.slice a3 ps.length c3] 26)).alloc (.cells #[.slice none 0 0, .slice none 0 0] 71) = W := ⟨_, rfl⟩
 have HW1 := Lib.hid hW1
 have hal := alloc3 w (.cells #[.int .i64 day] 3) (.cells #[.slice a3 ps.length c3] 26) (.cells #[.slice none 0 0, .slice none 0 0] 71)
 rw [hW1] at hal
 obtain ⟨hB, hz, h0, h1, h5⟩ := hal
 have HB := Lib.hid hB
 have H0 := Lib.hid h0
 have H1 := Lib.hid h1
 have H5 := Lib.hid h5
 have HX := Lib.hid h
 have HY := Lib.hid h2
 have HP := Lib.hid h3
 have HK := Lib.hid h4
 have HS2 := Lib.hid hs2
 have HI := Lib.hid (im_bills _ _ l xs lo hi W1 (h.below hB) (h2.below BLN.kept hB) hm hs hs2)
 obtain ⟨yb, hyb⟩ : ∃ y, billsB l xs = y := ⟨_, rfl⟩
 have HYB := Lib.hid hyb
 rw [hyb] at HI
 clear h h2 h3 h4 hs hs2 hB h0 h1 h5 hW1 hyb
 go_enter Tryz.func44, Tryz.ntmps44
 go_upto_region 1 with fail
 rw [HW1.out]
 go_wp2_with fail
 refine HI.out.mono ?_
 rintro e w1 ⟨rfl, hb⟩
 have HB1 := Lib.hid (HB.out.trans (hb.mono HB.out.size))
 have H0b := Lib.hid (blk_below H0.out hb)
 have H1b := Lib.hid (blk_below H1.out hb)
 have H5b := Lib.hid (blk_below H5.out hb)
 clear hb HI H0 H1 H5 HB
 cases yb with
 | false =>
  have q0 := cell_of_row _ _ 0 _ _ _ H5b.out
  have q1 := cell_of_row _ _ 1 _ _ _ H5b.out
  have f0 := frozen_of_row _ _ 0 _ _ H5b.out
  have f1 := frozen_of_row _ _ 1 _ _ H5b.out
  have HN : Hid (¬StrucOk l xs cs) := Lib.hid (fun h => by have := billsB_yes h.1; rw [HYB.out] at this; cases this)
  go_wp2_with fail
  refine bodyPost_ret (v := .tuple #[.agg #[.slice none 0 0, .slice none 0 0], .bool false]) (results_cell_row_slot Tryz.results44 _ _ _ _ #[.slice none 0 0, .slice none 0 0] (0, 0) _ (.bool false) rfl rfl (blk_set2s H5b.out) Tryz.underlying71 rfl (by kernel_rfl)) rfl ?_
  exact Or.inl ⟨HN.out, rfl, Lib.hid ((HB1.out.setCell (by simp; omega) _).setCell (by simp; omega) _)⟩
 | true =>
  have HBO : Hid (BillsOk l xs) := Lib.hid (billsB_iff.1 HYB.out)
  have hx24 := HBO.out.1.2.1
  have hmf : ∀ (fn : Fn) (first cap : Array Value) (w : World), (Instr.makeFunc fn first cap).run Tryz.prog w = .ok (.func fn first cap) w := fun _ _ _ _ => rfl
  go_wp2_with fail
  go_loopw [22] (fun i wr => ∃ k : Nat, k ≤ cs.length ∧ i = .int .i64 k ∧ Hid (∀ t (ht : t < cs.length), t < k → 0 ≤ fiI l (cs[t]'ht)) ∧ Hid (Below w1.heap.size w1 wr)) (fun i _ => cs.length - (intOf i).toNat)
  case atStart => exact ⟨0, Nat.zero_le _, rfl, Lib.hid (fun t ht h => by omega), Lib.hid (Below.refl _ _)⟩
  case round =>
   obtain ⟨k, hk, rfl, HF, HBr⟩ := hrel
   have HBw : Hid (Below w.heap.size w wr) := Lib.hid (HB1.out.trans (HBr.out.mono HB1.out.size))
   by_cases hlt : k < cs.length
   · have HLT := Lib.hid hlt
     obtain ⟨bk, ok, ck', hv, hcell⟩ := (HK.out.below HBw.out).at' k hlt
     simp only [Value.slice.injEq] at hv
     obtain ⟨rfl, _, rfl⟩ := hv
     obtain ⟨s, hse⟩ : ∃ s, cs[k]'hlt = s := ⟨_, rfl⟩
     rw [hse] at hcell
     have HSE : Hid (∀ h, cs[k]'h = s) := Lib.hid (fun _ => hse)
     clear hse
     go_wp2_with fail
     refine (im_findItem _ l s wr (HX.out.below HBw.out) hm).mono ?_
     rintro e w2 ⟨rfl, hb⟩
     have HB2 := Lib.hid (HBr.out.trans (hb.mono HBr.out.size))
     clear hb hcell
     by_cases hneg : fiI l s < 0
     · have HN : Hid (¬StrucOk l xs cs) := Lib.hid (fun h => by have := h.2 s (by rw [← HSE.out HLT.out]; exact List.getElem_mem _); omega)
       have H5c := Lib.hid (blk_below H5b.out HB2.out)
       have HBF := Lib.hid (HB1.out.trans (HB2.out.mono HB1.out.size))
       have q0 := cell_of_row _ _ 0 _ _ _ H5c.out
       have q1 := cell_of_row _ _ 1 _ _ _ H5c.out
       have f0 := frozen_of_row _ _ 0 _ _ H5c.out
       have f1 := frozen_of_row _ _ 1 _ _ H5c.out
       have hd : decide (fiI l s < 0) = true := decide_eq_true hneg
       go_wp2_with fail
       refine bodyPost_ret (v := .tuple #[.agg #[.slice none 0 0, .slice none 0 0], .bool false]) (results_cell_row_slot Tryz.results44 _ _ _ _ #[.slice none 0 0, .slice none 0 0] (0, 0) _ (.bool false) rfl rfl (blk_set2s H5c.out) Tryz.underlying71 rfl (by kernel_rfl)) rfl ?_
       exact Or.inl ⟨HN.out, rfl, Lib.hid ((HBF.out.setCell (by simp; omega) _).setCell (by simp; omega) _)⟩
     · have hd : decide (fiI l s < 0) = false := decide_eq_false hneg
       have HF2 : Hid (∀ t (ht : t < cs.length), t < k + 1 → 0 ≤ fiI l (cs[t]'ht)) := Lib.hid (fun t ht h => by
        by_cases e : t = k
        · subst e; rw [HSE.out ht]; omega
        · exact HF.out t ht (by omega))
       clear hneg
       go_wp2_with fail
       go_roundw
       case rel => exact ⟨k + 1, HLT.out, by go_num, HF2, HB2⟩
       case measure => have := HLT.out; simp [intOf]; omega
   · have HSO : Hid (StrucOk l xs cs) := Lib.hid ⟨HBO.out, fun s hs => by
      obtain ⟨t, ht, rfl⟩ := List.getElem_of_mem hs
      exact HF.out t ht (by omega)⟩
     clear HF
     obtain ⟨rs, hrc, hcs⟩ := recC_of HY.out
     have HRC := Lib.hid hrc
     have HCL := Lib.hid (im_cloneB _ xs rs lo hi wr (HY.out.below BLN.kept HBw.out) (hrc.below HBw.out) hx24 (fun h0 => by
      obtain ⟨b, o, c', e1, hb, h1⟩ := hcs h0
      refine ⟨b, o, c', e1, Nat.lt_of_lt_of_le hb HBw.out.size, fun j u hu => ?_⟩
      have h3 := h1 j u hu
      rw [Addr.add_lit] at h3 ⊢
      exact (HBw.out.cell (p := ⟨b, o + j, none⟩) hb).trans h3))
     have hrl : rs.length = xs.length := hrc.1
     have H0c := Lib.hid (blk_below H0b.out HBr.out)
     have H1c := Lib.hid (blk_below H1b.out HBr.out)
     have H5c := Lib.hid (blk_below H5b.out HBr.out)
     have hz5 := lt_of_heap H5c.out
     clear hrc hcs H0b H1b H5b
     go_wp2_with fail
     refine HCL.out.mono ?_
     rintro e w2 ⟨v', rfl, HO, HB2⟩
     clear HCL
     have HBw2 : Hid (Below w.heap.size w w2) := Lib.hid (HBw.out.trans (HB2.out.mono HBw.out.size))
     have H5d := Lib.hid (blk_below H5c.out HB2.out)
     by_cases h0 : 0 < xs.length
     rotate_left
     · have hxe : xs = [] := List.eq_nil_of_length_eq_zero (by omega)
       obtain ⟨a', c', rfl⟩ := own_sliceN HO.out
       have hn0 : xs.length = 0 := by omega
       rw [hn0]
       go_wp2_with fail
       refine (DLB.del0 a' c' _ _ w2).mono ?_
       rintro e w3 ⟨rfl, HB3⟩
       have H5e := Lib.hid (blk_below H5d.out HB3.out)
       have HBF : Hid (Below w.heap.size w w3) := Lib.hid (HBw2.out.trans (HB3.out.mono HBw2.out.size))
       have q0 := cell_of_row _ _ 0 _ _ _ H5e.out
       have q1 := cell_of_row _ _ 1 _ _ _ H5e.out
       have f0 := frozen_of_row _ _ 0 _ _ H5e.out
       have f1 := frozen_of_row _ _ 1 _ _ H5e.out
       have HXN : Hid (onX xs day ps = []) := Lib.hid (by rw [hxe]; rfl)
       go_wp2_with fail
       refine bodyPost_ret (v := .tuple #[.agg #[.slice a l.length c, .slice a' 0 c'], .bool true]) (results_cell_row_slot Tryz.results44 _ _ _ _ #[.slice a l.length c, .slice a' 0 c'] (0, 0) _ (.bool true) rfl rfl (blk_set2s H5e.out) Tryz.underlying71 rfl (by kernel_rfl)) rfl ?_
       exact Or.inr ⟨HSO.out, _, rfl, Lib.hid (by rw [HXN.out]; exact SlN.nil _ _ _ _ _ _ _), Lib.hid ((HBF.out.setCell (by simp; omega) _).setCell (by simp; omega) _)⟩
     · obtain ⟨g, cap, rfl, hg1, hg2⟩ := own_pos HO.out h0
       rw [← hrl] at HO
       have HD := Lib.hid (DLB.del wr.heap.size g cap w.heap.size (w.heap.size + 1) rs (idleAt xs day ps) w2 HRC.out.ty HO.out (by unfold maxLen; omega) (fun j hj w' hgr => by
        have hjx : j < xs.length := by omega
        obtain ⟨u, e1, hu⟩ := HRC.out.2 j hjx hj
        rw [e1, idleAt_get hjx]
        have hbr : Below wr.heap.size wr w' := HB2.out.grown hgr HB2.out.size (fun k hk => by cases hk; exact hg1)
        have hbw : Below w.heap.size w w' := HBw.out.trans (hbr.mono HBw.out.size)
        exact im_idle _ u _ day ps lo hi _ _ w' (blk_below H0c.out hbr) (blk_below H1c.out hbr) (hu.below CnN.kept hbw) (HS2.out.2 _ (List.getElem_mem hjx)).2.2 (HP.out.below hbw) hm3))
       clear HO
       rw [hrl] at HD
       go_wp2_with fail
       refine HD.out.mono ?_
       rintro e w3 ⟨rfl, HO3, HG3⟩
       have hb3 : Below wr.heap.size wr w3 := HB2.out.grown HG3.out HB2.out.size (fun k hk => by cases hk; exact hg1)
       have HBF : Hid (Below w.heap.size w w3) := Lib.hid (HBw.out.trans (hb3.mono HBw.out.size))
       have H5e := Lib.hid (blk_below H5c.out hb3)
       have HRA := Lib.hid (HRC.out.all day ps (idleAt xs day ps) (fun j hj => idleAt_get hj))
       rw [HRA.out.1] at HO3 ⊢
       have q0 := cell_of_row _ _ 0 _ _ _ H5e.out
       have q1 := cell_of_row _ _ 1 _ _ _ H5e.out
       have f0 := frozen_of_row _ _ 0 _ _ H5e.out
       have f1 := frozen_of_row _ _ 1 _ _ H5e.out
       clear hb3 HD HG3
       go_wp2_with fail
       refine bodyPost_ret (v := .tuple #[.agg #[.slice a l.length c, .slice (some ⟨g, 0, none⟩) (onX xs day ps).length cap], .bool true]) (results_cell_row_slot Tryz.results44 _ _ _ _ #[.slice a l.length c, .slice (some ⟨g, 0, none⟩) (onX xs day ps).length cap] (0, 0) _ (.bool true) rfl rfl (blk_set2s H5e.out) Tryz.underlying71 rfl (by kernel_rfl)) rfl ?_
       refine Or.inr ⟨HSO.out, _, rfl, Lib.hid (bx_of_row (own_setlow (own_setlow HO3.out _ _ _ hz5) _ _ _ hz5) HRA.out ((HBF.out.setCell (by simp; omega) _).setCell (by simp; omega) _)), Lib.hid ((HBF.out.setCell (by simp; omega) _).setCell (by simp; omega) _)⟩
end Go.Proofs.YtmnncinpepeocaaGreat
