/-
 The program's PartsOf.
-/
import Derived.Test.YtmnncinpepeocaaGreatExpImpl
import Derived.Test.YtmnncinpepeocaaGreatPhan
import Derived.Test.YtmnncinpepeocaaGreatDLN
import Derived.WalkKit
import Derived.WalkSpells
import Derived.WalkSmall
import Derived.BigQuiet
import Derived.OneCell
import Derived.Deep.QuietTactic
import Derived.Deep.DeepCutAuto
import Derived.Laws.EntriesVeiled
import Derived.Laws.OwnMore
import Derived.Lib.Hide
namespace Go.Proofs.YtmnncinpepeocaaGreat
open Go.RowKit

theorem call_ph (args : Array Value) (w : World) : (callFunc 57 args).run Tryz.prog w = .ok (.enter 57 args) w := by kernel_rfl

set_option maxRecDepth 100000 in
set_option maxHeartbeats 1000000 in
/-- The test: a phantom. -/
theorem im_phNeed (v1 v2 : Value) (l : List IT) (x : NE) (k b0 : Nat) (w : World) (h : IT.Is w v1 l) (hv2 : ∃ (a : Option Addr) (n k : Nat), v2 = .slice a n k) (h0 : w.heap[b0]? = some (.cells #[v1, v2] 71)) (hm : l.length ≤ maxLen) (hf : fiI l x.code = (k : Int)) :
 Calls Tryz.prog 59 #[.agg #[.string x.code, .int .i64 x.qty], .pointer (some ⟨b0, 0, none⟩)] w (BoolRes (betw l true x.code) w) := by
 obtain ⟨W1, hW1⟩ : ∃ W, w.alloc (.cells #[.string x.code, .int .i64 x.qty] 42) = W := ⟨_, rfl⟩
 have HA : Hid (W1.heap[w.heap.size]? = some (.cells #[.string x.code, .int .i64 x.qty] 42)) := Lib.hid (by rw [← hW1]; exact heap_alloc_new _ _)
 have HB : Hid (Below w.heap.size w W1) := Lib.hid (by rw [← hW1]; exact (Below.refl _ _).alloc (Nat.le_refl _) _)
 have HC := Lib.hid (im_phantom v1 v2 l x.code k W1 (h.below HB.out) hv2 hm hf)
 have H0 := Lib.hid (blk_below h0 HB.out)
 have HW1 := Lib.hid hW1
 obtain ⟨a1, k1, rfl⟩ := h.slice
 obtain ⟨a2, n2, k2, rfl⟩ := hv2
 clear h h0 hf hW1
 go_enter Tryz.func59, Tryz.ntmps59
 go_upto_region 1 with fail
 rw [HW1.out]
 have q0 := cell_of_row _ _ 0 _ _ _ HA.out
 have q6 := cell_of_row _ _ 0 _ _ _ H0.out
 have q7 := cell_of_row _ _ 1 _ _ _ H0.out
 go_wp2_with fail
 refine HC.out.mono ?_
 rintro e w2 ⟨rfl, hb⟩
 have HBF := Lib.hid (HB.out.trans (hb.mono HB.out.size))
 clear hb HC
 generalize betw l true x.code = y at *
 go_wp2_with fail
 go_ret
 exact ⟨rfl, HBF.out⟩
/-- The test at a need's number. -/
def phAt (l : List IT) (zs : List NE) (j : Nat) : Bool := match zs[j]? with
 | some x => betw l true x.code
 | none => false
theorem phAt_get {l : List IT} {zs : List NE} {j : Nat} (hj : j < zs.length) : phAt l zs j = betw l true (zs[j]'hj).code := by
 unfold phAt; rw [List.getElem?_eq_getElem hj]
theorem needL_mem {l : List IT} {c : ByteArray} {V : ByteArray → Nat} {x : NE} (h : x ∈ needL l c V) : x.code ∈ l.map IT.code := by
 unfold needL at h
 obtain ⟨r, hr, rfl⟩ := List.mem_map.1 h
 exact List.mem_map.2 ⟨r, (List.mem_filter.1 hr).1, rfl⟩

set_option maxRecDepth 100000 in
set_option maxHeartbeats 2000000 in
theorem im_partsOf (v v2 vc : Value) (l : List IT) (xs : List BL) (s : ByteArray) (q day : Int) (ps : List PK) (lo hi : Nat) (w : World) (h : IT.Is w v l) (h2 : BX lo hi w v2 xs) (h3 : PK.Is w vc ps)
 (hm : l.length ≤ maxLen) (hs : ∀ r, r ∈ l → IT.Sz r) (hs2 : BX.Sz xs) (hm3 : ps.length ≤ maxLen) :
 Calls Tryz.prog 17 #[v, v2, .string s, .int .i64 q, .int .i64 day, vc] w (NeOut (exB l xs s q day ps true) (exZ l xs s q day ps true) w) := by
 have HI := Lib.hid h
 have HSZ := Lib.hid hs
 have hb0 : Below w.heap.size w (w.alloc (.cells #[.string s] 9)) := (Below.refl _ _).alloc (Nat.le_refl _) _
 have HB0 := Lib.hid hb0
 have HST := Lib.hid (im_struc v v2 vc _ l xs day ps [s] lo hi _ (h.below hb0) (h2.below BLN.kept hb0) (h3.below hb0) (strs_one w s) hm hs hs2 hm3 (by simp))
 obtain ⟨a1, k1, rfl⟩ := h.slice
 obtain ⟨a2, k2, rfl⟩ := h2.slice
 obtain ⟨a3, k3, rfl⟩ := h3.slice
 have HN : Hid (¬ExYes l xs s q day ps true → exB l xs s q day ps true = false ∧ exZ l xs s q day ps true = []) := Lib.hid (fun h => ⟨exB_no h, exZ_no h⟩)
 have HY : Hid (ExYes l xs s q day ps true → exB l xs s q day ps true = true ∧ exZ l xs s q day ps true = (needL l s (exV l xs s q day ps true)).filter (fun x => !betw l true x.code)) := Lib.hid (fun h => ⟨exB_yes h, by rw [exZ_yes h, needP_on h.1.1.1.1]⟩)
 clear h h2 h3 hs hs2 hb0
 go_enter Tryz.func17, Tryz.ntmps17
 go_wp2_with fail
 refine HST.out.mono ?_
 clear HST
 rintro e w1 (⟨hno, rfl, HB1⟩ | ⟨hyes, v', rfl, HX, HB1⟩)
 · have HE := Lib.hid (HN.out (fun h => hno (struc_one.2 ⟨h.1.1, h.1.2.1⟩)))
   have HBF := Lib.hid ((HB0.out.trans (HB1.out.mono HB0.out.size)).alloc (Nat.le_trans HB0.out.size HB1.out.size) (.cells #[.slice none 0 0, .slice none 0 0] 71))
   clear hno HN HY
   go_wp2_with fail
   go_ret2
   exact ⟨_, by rw [HE.out.1]; rfl, Lib.hid (by rw [HE.out.2]; exact own_nilNE _), HBF⟩
 have hbi := struc_one.1 hyes
 have HBI := Lib.hid hbi
 obtain ⟨ad, cd, rfl⟩ := HX.out.slice
 have HBW : Hid (Below w.heap.size w w1) := Lib.hid (HB0.out.trans (HB1.out.mono HB0.out.size))
 have hal := (Below.refl w1.heap.size w1).alloc (Nat.le_refl _) (.cells #[.slice a1 l.length k1, .slice ad (onX xs day ps).length cd] 71)
 have hbx := heap_alloc_new w1 (.cells #[.slice a1 l.length k1, .slice ad (onX xs day ps).length cd] 71)
 clear hyes
 go_upto_region 2 with fail
 generalize w1.alloc (.cells #[.slice a1 l.length k1, .slice ad (onX xs day ps).length cd] 71) = w2 at *
 have HB2 := Lib.hid (HBW.out.trans (hal.mono HBW.out.size))
 have HX2 := Lib.hid (HX.out.below BLN.kept hal)
 have HBX := Lib.hid hbx
 clear hal hbx HX HB1 HBW
 by_cases hq : 0 ≤ q ∧ q ≤ 100000
 rotate_left
 · have HE := Lib.hid (HN.out (fun h => hq h.1.2.2))
   have hqn : inB q 0 100000 = false := inB_no (by omega)
   go_wp2_with fail
   refine (im_upTo q 100000 false w2 hqn).mono ?_
   rintro e w3 ⟨rfl, rfl⟩
   go_wp2_with fail
   go_ret2
   exact ⟨_, by rw [HE.out.1]; rfl, Lib.hid (by rw [HE.out.2]; exact own_nilNE _), HB2⟩
 have hqy : inB q 0 100000 = true := inB_yes hq.1 hq.2
 obtain ⟨n, rfl⟩ : ∃ n : Nat, q = (n : Int) := ⟨q.toNat, by omega⟩
 go_wp2_with fail
 refine (im_upTo n 100000 true w2 hqy).mono ?_
 rintro e w3 ⟨rfl, rfl⟩
 obtain ⟨lv, hon⟩ := on_ok hbi.1 day ps
 have HND := Lib.hid (im_needs (.slice a1 l.length k1) (.slice ad (onX xs day ps).length cd) l (onX xs day ps) _ _ s (betw l true) n 57 #[.agg #[.slice a1 l.length k1, .slice ad (onX xs day ps).length cd]] lv w3 (HI.out.below HB2.out) HX2.out hbi.1.1.1 HSZ.out hon.len hon.qty hon.par hon.lvl hon.lv12 (fi_mem hbi.2).1 (by omega) (fun t ht w' hw => by
  obtain ⟨k, _, hf⟩ := mem_fi hbi.1.1.1 ht
  exact im_phantom _ _ l t k w' ((HI.out.below HB2.out).below hw) ⟨_, _, _, rfl⟩ hm hf) call_ph)
 have HOK : Hid (ExOk l xs s (n : Int)) := Lib.hid ⟨hbi.1, hbi.2, hq⟩
 have p0 := cell_of_row _ _ 0 _ _ _ HBX.out
 have p1 := cell_of_row _ _ 1 _ _ _ HBX.out
 clear hon hbi hqy
 go_wp2_with fail
 refine HND.out.mono ?_
 clear HND
 have hb0' : w.heap.size ≤ w3.heap.size := HB2.out.size
 rintro e w4 (⟨hno, rfl, HB4⟩ | ⟨hfit, v5, rfl, HO, HB4⟩)
 · have HE := Lib.hid (HN.out (fun h => hno (by have := h.2; unfold exV at this; rwa [Int.toNat_natCast] at this)))
   have HBF := Lib.hid (HB2.out.trans (HB4.out.mono HB2.out.size))
   clear hno
   go_wp2_with fail
   refine (DLN.del0 none 0 _ w4).mono ?_
   rintro e w5 ⟨rfl, HB5⟩
   have HBG := Lib.hid (HBF.out.trans (HB5.out.mono HBF.out.size))
   go_wp2_with fail
   go_ret2
   exact ⟨_, by rw [HE.out.1]; rfl, Lib.hid (by rw [HE.out.2]; exact own_nilNE _), HBG⟩
 have HV : Hid (exV l xs s (n : Int) day ps true = pv (onX xs day ps) s (betw l true) n) := Lib.hid (by funext b; unfold exV; rw [Int.toNat_natCast])
 have HE := Lib.hid (HY.out ⟨HOK.out, by rw [HV.out]; exact hfit⟩)
 have HBF := Lib.hid (HB2.out.trans (HB4.out.mono HB2.out.size))
 have HBX4 := Lib.hid (blk_below HBX.out HB4.out)
 have HCAT : Hid (CatOk l) := Lib.hid HOK.out.1.1.1
 have HMEM : Hid (∀ x, x ∈ needL l s (pv (onX xs day ps) s (betw l true) n) → x.code ∈ l.map IT.code) := Lib.hid (fun x hx => needL_mem hx)
 have hln := needL_le l s (pv (onX xs day ps) s (betw l true) n)
 rw [HV.out] at HE
 generalize needL l s (pv (onX xs day ps) s (betw l true) n) = zs at *
 have h12 := HCAT.out.2
 have HSELF : Hid (∀ w', Below w.heap.size w w' → IT.Is w' (.slice a1 l.length k1) l) := Lib.hid (fun w' hw => HI.out.below hw)
 clear hfit p0 p1
 by_cases h0 : 0 < zs.length
 rotate_left
 · have hze : zs = [] := List.eq_nil_of_length_eq_zero (by omega)
   obtain ⟨a5, c5, rfl⟩ := own_sliceN HO.out
   have hn0 : zs.length = 0 := by omega
   rw [hn0]
   have HZE := Lib.hid hze
   have HO5 : Hid (w4.ownsRow w3.heap.size 42 2 (.slice a5 0 c5) ([] : List NE).length (NE.cells [])) := Lib.hid (by have := HO.out; rw [hze] at this; exact this)
   clear hze hn0 HO
   go_wp2_with fail
   refine (DLN.del0 a5 c5 _ w4).mono ?_
   rintro e w5 ⟨rfl, HB5⟩
   have HBG := Lib.hid (HBF.out.trans (HB5.out.mono HBF.out.size))
   have HOG := Lib.hid (own_lower (own_keepL HO5.out HB5.out) hb0')
   go_wp2_with fail
   go_ret2
   exact ⟨_, by rw [HE.out.1]; rfl, Lib.hid (by rw [HE.out.2, HZE.out]; exact HOG.out), HBG⟩
 obtain ⟨g, cap, rfl, hg1, hg2⟩ := own_pos HO.out h0
 have HD := Lib.hid (DLN.del w3.heap.size g cap w1.heap.size (zs.map neR) (phAt l zs) w4 (fun r hr => by
  obtain ⟨x, _, rfl⟩ := List.mem_map.1 hr
  exact ⟨_, _, rfl⟩) (by rw [neR_flat, List.length_map]; exact HO.out) (by rw [List.length_map]; unfold maxLen; omega) (fun j hj w' hgr => by
  have hjz : j < zs.length := by simpa using hj
  rw [phAt_get hjz, List.getElem_map]
  have hb : Below w3.heap.size w3 w' := HB4.out.grown hgr HB4.out.size (fun k hk => by cases hk; exact hg1)
  have hbw : Below w.heap.size w w' := HB2.out.trans (hb.mono HB2.out.size)
  obtain ⟨k, _, hf⟩ := mem_fi HCAT.out (HMEM.out _ (List.getElem_mem hjz))
  exact im_phNeed _ _ l _ k _ w' (HSELF.out w' hbw) ⟨_, _, _, rfl⟩ (blk_below HBX.out hb) hm hf))
 rw [List.length_map] at HD
 clear HO
 go_wp2_with fail
 refine HD.out.mono ?_
 rintro e w5 ⟨rfl, HO5, HG5⟩
 have hkept := neR_kept zs (phAt l zs) (fun x => betw l true x.code) (fun j hj => phAt_get hj) zs.length (Nat.le_refl _)
 rw [List.take_length] at hkept
 rw [List.length_map, hkept, List.length_map, neR_flat] at HO5
 rw [List.length_map, hkept, List.length_map]
 have HBG : Hid (Below w.heap.size w w5) := Lib.hid (HBF.out.grown HG5.out HBF.out.size (fun k hk => by cases hk; omega))
 have HOG := Lib.hid (own_lower HO5.out hb0')
 clear hkept HD HG5 HO5
 go_wp2_with fail
 go_ret2
 exact ⟨_, by rw [HE.out.1]; rfl, Lib.hid (by rw [HE.out.2]; exact HOG.out), HBG⟩
end Go.Proofs.YtmnncinpepeocaaGreat
