/-
 The program's Explosion, PartsOf and QuantityIn.
-/
import Derived.Test.YtmnncinpepeocaaGreatNeeds
import Derived.Test.YtmnncinpepeocaaGreatBuWay
import Derived.Test.YtmnncinpepeocaaGreatBuCat
import Derived.WalkKit
import Derived.WalkSpells
import Derived.WalkSmall
import Derived.BigQuiet
import Derived.OneCell
import Derived.Deep.QuietTactic
import Derived.Deep.DeepCutAuto
import Derived.Laws.EntriesVeiled
import Derived.Laws.OwnMore
import Derived.Lib.Hide
namespace Go.Proofs.YtmnncinpepeocaaGreat
open Go.RowKit

theorem call_any (args : Array Value) (w : World) : (callFunc 47 args).run Tryz.prog w = .ok (.enter 47 args) w := by kernel_rfl
/-- One text, laid as a list. -/
theorem strs_one (w : World) (s : ByteArray) : Strs (w.alloc (.cells #[.string s] 9)) (.slice (some ⟨w.heap.size, 0, none⟩) 1 1) [s] :=
 Or.inr ⟨by simp, w.heap.size, 0, 1, rfl, Nat.le_refl _, by simp, fun j x hx => by
  match j, hx with
  | 0, hx => simp at hx; subst hx; exact cell_of_row _ _ 0 _ _ _ (heap_alloc_new _ _)⟩
theorem strs_two (w : World) (s t : ByteArray) : Strs (w.alloc (.cells #[.string s, .string t] 9)) (.slice (some ⟨w.heap.size, 0, none⟩) 2 2) [s, t] :=
 Or.inr ⟨by simp, w.heap.size, 0, 2, rfl, Nat.le_refl _, by simp, fun j x hx => by
  match j, hx with
  | 0, hx => simp at hx; subst hx; exact cell_of_row _ _ 0 _ _ _ (heap_alloc_new _ _)
  | 1, hx => simp at hx; subst hx; exact cell_of_row _ _ 1 _ _ _ (heap_alloc_new _ _)⟩
theorem struc_one {l : List IT} {xs : List BL} {s : ByteArray} : StrucOk l xs [s] ↔ BillsOk l xs ∧ 0 ≤ fiI l s := by
 unfold StrucOk; simp
theorem struc_two {l : List IT} {xs : List BL} {s t : ByteArray} : StrucOk l xs [s, t] ↔ BillsOk l xs ∧ 0 ≤ fiI l s ∧ 0 ≤ fiI l t := by
 unfold StrucOk; simp
theorem own_nilNE {base : Nat} (w : World) : w.ownsRow base 42 2 (.slice none 0 0) ([] : List NE).length (NE.cells []) := World.ownsRow_nil _ _ _ _

set_option maxRecDepth 100000 in
set_option maxHeartbeats 2000000 in
theorem im_explosion (v v2 vc : Value) (l : List IT) (xs : List BL) (s : ByteArray) (q day : Int) (ps : List PK) (lo hi : Nat) (w : World) (h : IT.Is w v l) (h2 : BX lo hi w v2 xs) (h3 : PK.Is w vc ps)
 (hm : l.length ≤ maxLen) (hs : ∀ r, r ∈ l → IT.Sz r) (hs2 : BX.Sz xs) (hm3 : ps.length ≤ maxLen) :
 Calls Tryz.prog 10 #[v, v2, .string s, .int .i64 q, .int .i64 day, vc] w (NeOut (exB l xs s q day ps false) (exZ l xs s q day ps false) w) := by
 have HI := Lib.hid h
 have HSZ := Lib.hid hs
 have hb0 : Below w.heap.size w (w.alloc (.cells #[.string s] 9)) := (Below.refl _ _).alloc (Nat.le_refl _) _
 have HB0 := Lib.hid hb0
 have HST := Lib.hid (im_struc v v2 vc _ l xs day ps [s] lo hi _ (h.below hb0) (h2.below BLN.kept hb0) (h3.below hb0) (strs_one w s) hm hs hs2 hm3 (by simp))
 obtain ⟨a1, k1, rfl⟩ := h.slice
 obtain ⟨a2, k2, rfl⟩ := h2.slice
 obtain ⟨a3, k3, rfl⟩ := h3.slice
 have HN : Hid (¬ExYes l xs s q day ps false → exB l xs s q day ps false = false ∧ exZ l xs s q day ps false = []) := Lib.hid (fun h => ⟨exB_no h, exZ_no h⟩)
 have HY : Hid (ExYes l xs s q day ps false → exB l xs s q day ps false = true ∧ exZ l xs s q day ps false = needL l s (exV l xs s q day ps false)) := Lib.hid (fun h => ⟨exB_yes h, by rw [exZ_yes h, needP_off]⟩)
 clear h h2 h3 hs hs2 hb0
 go_enter Tryz.func10, Tryz.ntmps10
 go_wp2_with fail
 refine HST.out.mono ?_
 clear HST
 rintro e w1 (⟨hno, rfl, HB1⟩ | ⟨hyes, v', rfl, HX, HB1⟩)
 · have HE := Lib.hid (HN.out (fun h => hno (struc_one.2 ⟨h.1.1, h.1.2.1⟩)))
   have HBF := Lib.hid ((HB0.out.trans (HB1.out.mono HB0.out.size)).alloc (Nat.le_trans HB0.out.size HB1.out.size) (.cells #[.slice none 0 0, .slice none 0 0] 71))
   clear hno HN HY
   go_wp2_with fail
   go_ret2
   exact ⟨_, by rw [HE.out.1]; rfl, Lib.hid (by rw [HE.out.2]; exact own_nilNE _), HBF⟩
 have hbi := struc_one.1 hyes
 have HBI := Lib.hid hbi
 obtain ⟨ad, cd, rfl⟩ := HX.out.slice
 have HBW : Hid (Below w.heap.size w w1) := Lib.hid (HB0.out.trans (HB1.out.mono HB0.out.size))
 have hal := (Below.refl w1.heap.size w1).alloc (Nat.le_refl _) (.cells #[.slice a1 l.length k1, .slice ad (onX xs day ps).length cd] 71)
 have hbx := heap_alloc_new w1 (.cells #[.slice a1 l.length k1, .slice ad (onX xs day ps).length cd] 71)
 clear hyes
 go_upto_region 2 with fail
 generalize w1.alloc (.cells #[.slice a1 l.length k1, .slice ad (onX xs day ps).length cd] 71) = w2 at *
 have HB2 := Lib.hid (HBW.out.trans (hal.mono HBW.out.size))
 have HX2 := Lib.hid (HX.out.below BLN.kept hal)
 have HBX := Lib.hid hbx
 clear hal hbx HX HB1 HBW
 by_cases hq : 0 ≤ q ∧ q ≤ 100000
 rotate_left
 · have HE := Lib.hid (HN.out (fun h => hq h.1.2.2))
   have hqn : inB q 0 100000 = false := inB_no (by omega)
   go_wp2_with fail
   refine (im_upTo q 100000 false w2 hqn).mono ?_
   rintro e w3 ⟨rfl, rfl⟩
   go_wp2_with fail
   go_ret2
   exact ⟨_, by rw [HE.out.1]; rfl, Lib.hid (by rw [HE.out.2]; exact own_nilNE _), HB2⟩
 have hqy : inB q 0 100000 = true := inB_yes hq.1 hq.2
 obtain ⟨n, rfl⟩ : ∃ n : Nat, q = (n : Int) := ⟨q.toNat, by omega⟩
 go_wp2_with fail
 refine (im_upTo n 100000 true w2 hqy).mono ?_
 rintro e w3 ⟨rfl, rfl⟩
 obtain ⟨lv, hon⟩ := on_ok hbi.1 day ps
 have HND := Lib.hid (im_needs (.slice a1 l.length k1) (.slice ad (onX xs day ps).length cd) l (onX xs day ps) _ _ s (betw l false) n 47 #[] lv w3 (HI.out.below HB2.out) HX2.out hbi.1.1.1 HSZ.out hon.len hon.qty hon.par hon.lvl hon.lv12 (fi_mem hbi.2).1 (by omega) (fun t _ w' _ => im_any l t w') call_any)
 have HOK : Hid (ExOk l xs s (n : Int)) := Lib.hid ⟨hbi.1, hbi.2, hq⟩
 have p0 := cell_of_row _ _ 0 _ _ _ HBX.out
 have p1 := cell_of_row _ _ 1 _ _ _ HBX.out
 clear hon hbi hqy
 go_wp2_with fail
 refine HND.out.mono ?_
 clear HND
 rintro e w4 (⟨hno, rfl, HB4⟩ | ⟨hfit, v5, rfl, HO, HB4⟩)
 · have HE := Lib.hid (HN.out (fun h => hno (by have := h.2; unfold exV at this; rwa [Int.toNat_natCast] at this)))
   have HBF := Lib.hid (HB2.out.trans (HB4.out.mono HB2.out.size))
   clear hno
   go_wp2_with fail
   go_ret2
   exact ⟨_, by rw [HE.out.1]; rfl, Lib.hid (by rw [HE.out.2]; exact own_nilNE _), HBF⟩
 · have HV : Hid (exV l xs s (n : Int) day ps false = pv (onX xs day ps) s (betw l false) n) := Lib.hid (by funext b; unfold exV; rw [Int.toNat_natCast])
   have HE := Lib.hid (HY.out ⟨HOK.out, by rw [HV.out]; exact hfit⟩)
   have HBF := Lib.hid (HB2.out.trans (HB4.out.mono HB2.out.size))
   have HOF := Lib.hid (own_lower HO.out HB2.out.size)
   obtain ⟨a5, c5, rfl⟩ := own_sliceN HO.out
   clear hfit HO
   go_wp2_with fail
   go_ret2
   exact ⟨_, by rw [HE.out.1]; rfl, Lib.hid (by rw [HE.out.2, HV.out]; exact HOF.out), HBF⟩
end Go.Proofs.YtmnncinpepeocaaGreat
