/-
 The program's QuantityIn.
-/
import Derived.Test.YtmnncinpepeocaaGreatExpImpl
import Derived.WalkKit
import Derived.WalkSpells
import Derived.WalkSmall
import Derived.BigQuiet
import Derived.OneCell
import Derived.Deep.QuietTactic
import Derived.Deep.DeepCutAuto
import Derived.Laws.EntriesVeiled
import Derived.Laws.OwnMore
import Derived.Lib.Hide
namespace Go.Proofs.YtmnncinpepeocaaGreat
open Go.RowKit

set_option maxRecDepth 100000 in
theorem im_upMax (n : Int) (w : World) : Calls Tryz.prog 53 #[.int .i64 n] w fun e w' => e = .returned (.tuple #[.int .i64 (if n ≤ 1000000000 then n else 0), .bool (decide (n ≤ 1000000000))]) ∧ w' = w := by
 by_cases h : n ≤ 1000000000
 · have hd : decide (1000000000 < n) = false := decide_eq_false (by omega)
   rw [if_pos h, decide_eq_true h]
   go_enter Tryz.func53, Tryz.ntmps53
   go_wp2_with fail
   go_ret2
   exact ⟨rfl, rfl⟩
 · have hd : decide (1000000000 < n) = true := decide_eq_true (by omega)
   rw [if_neg h, decide_eq_false h]
   go_enter Tryz.func53, Tryz.ntmps53
   go_wp2_with fail
   go_ret2
   exact ⟨rfl, rfl⟩

set_option maxRecDepth 100000 in
set_option maxHeartbeats 2000000 in
theorem im_quantityIn (v v2 vc : Value) (l : List IT) (xs : List BL) (s t : ByteArray) (day : Int) (ps : List PK) (lo hi : Nat) (w : World) (h : IT.Is w v l) (h2 : BX lo hi w v2 xs) (h3 : PK.Is w vc ps)
 (hm : l.length ≤ maxLen) (hs : ∀ r, r ∈ l → IT.Sz r) (hs2 : BX.Sz xs) (hm3 : ps.length ≤ maxLen) :
 Calls Tryz.prog 12 #[v, v2, .string s, .string t, .int .i64 day, vc] w (NumOut (quB l xs s t day ps) (quN l xs s t day ps) w) := by
 have HI := Lib.hid h
 have HSZ := Lib.hid hs
 have hb0 : Below w.heap.size w (w.alloc (.cells #[.string s, .string t] 9)) := (Below.refl _ _).alloc (Nat.le_refl _) _
 have HB0 := Lib.hid hb0
 have HST := Lib.hid (im_struc v v2 vc _ l xs day ps [s, t] lo hi _ (h.below hb0) (h2.below BLN.kept hb0) (h3.below hb0) (strs_two w s t) hm hs hs2 hm3 (by simp))
 obtain ⟨a1, k1, rfl⟩ := h.slice
 obtain ⟨a2, k2, rfl⟩ := h2.slice
 obtain ⟨a3, k3, rfl⟩ := h3.slice
 clear h h2 h3 hs hs2 hb0
 go_enter Tryz.func12, Tryz.ntmps12
 go_wp2_with fail
 refine HST.out.mono ?_
 clear HST
 rintro e w1 (⟨hno, rfl, HB1⟩ | ⟨hyes, v', rfl, HX, HB1⟩)
 · have HE := Lib.hid (qu_no (ps := ps) (day := day) (fun h => hno (struc_two.2 h.1)))
   have HBF := Lib.hid ((HB0.out.trans (HB1.out.mono HB0.out.size)).alloc (Nat.le_trans HB0.out.size HB1.out.size) (.cells #[.slice none 0 0, .slice none 0 0] 71))
   clear hno
   go_wp2_with fail
   go_ret2
   exact ⟨by rw [HE.out.1, HE.out.2]; rfl, HBF⟩
 have hbi := struc_two.1 hyes
 obtain ⟨ad, cd, rfl⟩ := HX.out.slice
 have HBW : Hid (Below w.heap.size w w1) := Lib.hid (HB0.out.trans (HB1.out.mono HB0.out.size))
 have hal := (Below.refl w1.heap.size w1).alloc (Nat.le_refl _) (.cells #[.slice a1 l.length k1, .slice ad (onX xs day ps).length cd] 71)
 have hbx := heap_alloc_new w1 (.cells #[.slice a1 l.length k1, .slice ad (onX xs day ps).length cd] 71)
 clear hyes
 go_upto_region 2 with fail
 generalize w1.alloc (.cells #[.slice a1 l.length k1, .slice ad (onX xs day ps).length cd] 71) = w2 at *
 have HB2 := Lib.hid (HBW.out.trans (hal.mono HBW.out.size))
 have HX2 := Lib.hid (HX.out.below BLN.kept hal)
 have HBX := Lib.hid hbx
 clear hal hbx HX HB1 HBW
 obtain ⟨lv, hon⟩ := on_ok hbi.1 day ps
 have hcat := hbi.1.1.1
 have HPC := Lib.hid (im_pieces (.slice a1 l.length k1) (.slice ad (onX xs day ps).length cd) (onX xs day ps) _ _ s (betw l false) 1 47 #[] (l.map IT.code) lv w2 HX2.out ⟨_, _, _, rfl⟩ hon.len hon.qty hon.par hon.lvl hon.lv12 (fi_mem hbi.2.1).1 (by omega) (fun t _ w' _ => im_any l t w') call_any (cat_codes hcat) (by rw [List.length_map]; exact hcat.2) (fun s hs => by
  obtain ⟨r, hr, rfl⟩ := List.mem_map.1 hs
  exact (HSZ.out r hr).1))
 have HLV := Lib.hid hon.lv12
 have HT := Lib.hid (fi_mem hbi.2.2).1
 have HBI := Lib.hid hbi
 have p0 := cell_of_row _ _ 0 _ _ _ HBX.out
 have p1 := cell_of_row _ _ 1 _ _ _ HBX.out
 clear hon hbi hcat
 go_wp2_with fail
 refine HPC.out.mono ?_
 rintro e w3 ⟨m, L, rfl, HOK, ⟨hm1, hm2, hm3, hm4, hm5, hm6⟩, HS, HB3, hbm⟩
 have HV : Hid (m.V t = quV l xs s t day ps) := Lib.hid (by unfold MC.V quV; rw [hm1, hm2, hm3, hm4])
 have HB4 := Lib.hid (HB2.out.trans (HB3.out.mono HB2.out.size))
 have hbmw : w.heap.size ≤ m.bm := Nat.le_trans HB2.out.size hbm
 have HASK := Lib.hid (im_askAll m HOK.out 12 t w3 L (by rw [hm5]; exact HT.out) (by rw [hm6]; exact HLV.out t) HS.out)
 clear HPC p0 p1 hm1 hm2 hm3 hm4 hm5 hm6
 unfold MC.askV
 go_wp2_with fail
 refine HASK.out.mono ?_
 rintro e w4 ⟨rfl, L4, HS4, HU4, HG4⟩
 have HBF : Hid (Below w.heap.size w w4) := Lib.hid (HB4.out.grown HG4.out HB4.out.size (fun k hk => by cases hk; exact hbmw))
 rw [HV.out]
 clear HASK HS4 HU4 HG4
 go_wp2_with fail
 refine (im_upMax _ w4).mono ?_
 rintro e w5 ⟨rfl, rfl⟩
 have hr := capT_big (n := quV l xs s t day ps)
 by_cases hfit : quV l xs s t day ps ≤ 1000000000
 · have HE := Lib.hid (qu_yes ⟨HBI.out, hfit⟩)
   rw [capT_small hfit, if_pos (by omega), decide_eq_true (by omega)]
   clear hfit hr
   go_wp2_with fail
   go_ret2
   exact ⟨by rw [HE.out.1, HE.out.2]; rfl, HBF⟩
 · have HE := Lib.hid (qu_no (ps := ps) (day := day) (fun (h : QuYes l xs s t day ps) => hfit h.2))
   have hbig := hr.2 hfit
   rw [if_neg (by omega), decide_eq_false (by omega)]
   clear hfit hr hbig
   go_wp2_with fail
   go_ret2
   exact ⟨by rw [HE.out.1, HE.out.2]; rfl, HBF⟩
end Go.Proofs.YtmnncinpepeocaaGreat
