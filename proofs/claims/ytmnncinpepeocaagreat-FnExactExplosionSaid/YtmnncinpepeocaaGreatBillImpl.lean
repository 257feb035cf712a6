/-
 The program's IsBills and LevelsOf.
-/
import Derived.Test.YtmnncinpepeocaaGreatRaise
import Derived.Test.YtmnncinpepeocaaGreatLineImpl
import Derived.WalkKit
import Derived.WalkSpells
import Derived.WalkSmall
import Derived.BigQuiet
import Derived.OneCell
import Derived.Deep.QuietTactic
import Derived.Deep.DeepCutAuto
import Derived.Lib.Hide
namespace Go.Proofs.YtmnncinpepeocaaGreat
open Go.RowKit

/-- What billLevels gives. -/
def BlRes (l : List IT) (xs : List BL) (w : World) (e : Ending) (w' : World) : Prop :=
 ∃ (v' : Value) (vs : List Nat), e = .returned (.tuple #[v', .bool (billsB l xs)]) ∧ Hid (LevOut l xs vs) ∧ Hid (w'.ownsRow w.heap.size 3 1 v' vs.length (cellsLv vs)) ∧ Hid (Below w.heap.size w w')

set_option maxRecDepth 100000 in
set_option maxHeartbeats 1000000 in
theorem im_billLevels (v v2 : Value) (l : List IT) (xs : List BL) (lo hi : Nat) (w : World) (h : IT.Is w v l) (h2 : BX lo hi w v2 xs) (hm : l.length ≤ maxLen) (hs : ∀ r, r ∈ l → IT.Sz r) (hs2 : BX.Sz xs) :
 Calls Tryz.prog 107 #[v, v2] w (BlRes l xs w) := by
 have HI := Lib.hid h
 have HX := Lib.hid h2
 have HCT := Lib.hid (im_lines v v2 l xs lo hi w h h2 hm hs hs2)
 have HM := Lib.hid hm
 obtain ⟨a, c, rfl⟩ := h.slice
 obtain ⟨a2, c2, rfl⟩ := h2.slice
 clear h h2 hs hs2 hm
 rcases Bool.eq_false_or_eq_true (linesB l xs) with hc | hc
 rotate_left
 · have HN := Lib.hid (bills_no hc)
   have HY : Hid (¬BillsOk l xs) := Lib.hid (fun h => by rw [linesB_yes h.1] at hc; cases hc)
   rw [hc] at HCT
   clear hc
   unfold BlRes
   rw [HN.out]
   go_enter Tryz.func107, Tryz.ntmps107
   go_wp2_with fail
   refine HCT.out.mono ?_
   rintro e w1 ⟨rfl, hb⟩
   have HB := Lib.hid hb
   clear hb
   go_wp2_with fail
   go_ret2
   exact ⟨_, [], rfl, Lib.hid (Or.inr ⟨HY.out, rfl⟩), Lib.hid ⟨rfl, Or.inl ⟨rfl, rfl⟩⟩, HB⟩
 have HLO := Lib.hid (linesB_iff.1 hc)
 have hl12 := HLO.out.1.2
 rw [hc] at HCT
 clear hc
 obtain ⟨yb, hyb⟩ : ∃ y, billsB l xs = y := ⟨_, rfl⟩
 have HYB := Lib.hid hyb
 unfold BlRes
 rw [hyb]
 clear hyb
 go_enter Tryz.func107, Tryz.ntmps107
 go_wp2_with fail
 refine HCT.out.mono ?_
 rintro e w1 ⟨rfl, hb⟩
 have HB := Lib.hid hb
 clear hb HCT
 go_wp2_with fail
 refine (im_links _ _ l xs lo hi w1 (HI.out.below HB.out) (HX.out.below BLN.kept HB.out) HM.out HLO.out.2.1 HLO.out.2.2).mono ?_
 rintro e w2 ⟨v3, rfl, HO, HB2⟩
 have HBW := Lib.hid (HB.out.trans (HB2.out.mono HB.out.size))
 obtain ⟨a3, c3, rfl⟩ := own_slice HO.out
 clear HB HB2
 go_wp2_with fail
 refine (im_raised _ l.length (pairs l xs) w1.heap.size w2 (by rw [pairs_length]; exact HO.out) hl12 (by rw [pairs_length]; exact HLO.out.2.1) HLO.out.inb).mono ?_
 rintro e w3 ⟨v4, vs, y, rfl, HR, HOV, HB3⟩
 have HBF := Lib.hid (HBW.out.trans (HB3.out.mono HBW.out.size))
 have HOF := Lib.hid (own_lower HOV.out HBW.out.size)
 have HLV : Hid (LevOut l xs vs ∧ y = yb) := Lib.hid (by
  rcases HR.out with ⟨rfl, hv⟩ | ⟨rfl, hv, hvs⟩
  · have hok : BillsOk l xs := ⟨HLO.out, _, hv.2.1⟩
    exact ⟨Or.inl ⟨hok, hv⟩, by rw [← HYB.out, billsB_yes hok]⟩
  · have hno : ¬BillsOk l xs := fun h => hv h.2
    exact ⟨Or.inr ⟨hno, hvs⟩, by rw [← HYB.out, billsB_no hno]⟩)
 obtain ⟨a4, c4, rfl⟩ := own_slice HOV.out
 have hyy := HLV.out.2
 subst hyy
 clear HR HOV HB3 HO HBW
 go_wp2_with fail
 go_ret2
 exact ⟨_, vs, rfl, Lib.hid HLV.out.1, HOF, HBF⟩

set_option maxRecDepth 100000 in
set_option maxHeartbeats 1000000 in
theorem im_bills (v v2 : Value) (l : List IT) (xs : List BL) (lo hi : Nat) (w : World) (h : IT.Is w v l) (h2 : BX lo hi w v2 xs) (hm : l.length ≤ maxLen) (hs : ∀ r, r ∈ l → IT.Sz r) (hs2 : BX.Sz xs) :
 Calls Tryz.prog 85 #[v, v2] w (BoolRes (billsB l xs) w) := by
 have HCT := Lib.hid (im_billLevels v v2 l xs lo hi w h h2 hm hs hs2)
 unfold BlRes at HCT
 obtain ⟨a, c, rfl⟩ := h.slice
 obtain ⟨a2, c2, rfl⟩ := h2.slice
 clear h h2 hs hs2 hm
 obtain ⟨yb, hyb⟩ : ∃ y, billsB l xs = y := ⟨_, rfl⟩
 rw [hyb] at HCT
 rw [hyb]
 clear hyb
 go_enter Tryz.func85, Tryz.ntmps85
 go_wp2_with fail
 refine HCT.out.mono ?_
 rintro e w1 ⟨v', vs, rfl, HL, HO, HB⟩
 obtain ⟨a4, c4, rfl⟩ := own_slice HO.out
 clear HL HO HCT
 go_wp2_with fail
 go_ret
 exact ⟨rfl, HB.out⟩
end Go.Proofs.YtmnncinpepeocaaGreat
