/-
 The model's PartsOf.
-/
import Derived.Test.YtmnncinpepeocaaGreatSpecExp
import Derived.Test.YtmnncinpepeocaaGreatSpecDown
import Derived.Test.YtmnncinpepeocaaGreatSpecNeeds
import Derived.Test.YtmnncinpepeocaaGreatBillSpec
import Derived.Test.YtmnncinpepeocaaGreatBuA
import Derived.Test.YtmnncinpepeocaaGreatBuWay
import Derived.WalkKit
import Derived.WalkSpells
import Derived.WalkSmall
import Derived.BigQuiet
import Derived.OneCell
import Derived.Deep.QuietTactic
import Derived.Deep.DeepCutAuto
import Derived.Laws.OwnMore
import Derived.Lib.Hide
namespace Go.Proofs.YtmnncinpepeocaaGreat
open Go.RowKit


set_option maxRecDepth 100000 in
set_option maxHeartbeats 2000000 in
theorem spec_partsOf (v v2 vc : Value) (l : List IT) (xs : List BL) (s : ByteArray) (q day : Int) (ps : List PK) (lo hi : Nat) (w : World) (h : IT.Is w v l) (h2 : BX lo hi w v2 xs) (h3 : PK.Is w vc ps)
 (hm : l.length ≤ maxLen) (hs : ∀ r, r ∈ l → IT.Sz r) (hs2 : BX.Sz xs) (hm3 : ps.length ≤ maxLen) :
 Calls Tryz.prog 22 #[v, v2, .string s, .int .i64 q, .int .i64 day, vc] w (NeOut (exB l xs s q day ps true) (exZ l xs s q day ps true) w) := by
 have HI := Lib.hid h
 have HX := Lib.hid h2
 have HP := Lib.hid h3
 have HFI := Lib.hid (spec_findItem v l s w h hm)
 have HBI := Lib.hid (spec_bills v v2 l xs lo hi w h h2 hm hs hs2)
 have HN : Hid (¬ExYes l xs s q day ps true → exB l xs s q day ps true = false ∧ exZ l xs s q day ps true = []) := Lib.hid (fun h => ⟨exB_no h, exZ_no h⟩)
 have HY : Hid (ExYes l xs s q day ps true → exB l xs s q day ps true = true ∧ exZ l xs s q day ps true = needP l s (exV l xs s q day ps true) true) := Lib.hid (fun h => ⟨exB_yes h, exZ_yes h⟩)
 obtain ⟨a1, k1, rfl⟩ := h.slice
 obtain ⟨a2, k2, rfl⟩ := h2.slice
 obtain ⟨a3, k3, rfl⟩ := h3.slice
 obtain ⟨yb, hyb⟩ : ∃ y, billsB l xs = y := ⟨_, rfl⟩
 have HYB := Lib.hid hyb
 rw [hyb] at HBI
 clear h h2 h3 hs hs2 hyb
 go_enter Tryz.func22, Tryz.ntmps22
 go_wp2_with fail
 refine HFI.out.mono ?_
 rintro e w0 ⟨rfl, rfl⟩
 go_wp2_with fail
 refine HBI.out.mono ?_
 rintro e w1 ⟨rfl, hb⟩
 have HB1 := Lib.hid hb
 have HBE : Hid (Below w.heap.size w (w1.alloc (.cells #[] 42))) := Lib.hid (hb.alloc hb.size _)
 have HOE : Hid ((w1.alloc (.cells #[] 42)).ownsRow w.heap.size 42 2 (.slice (some ⟨w1.heap.size, 0, none⟩) 0 0) ([] : List NE).length (NE.cells [])) := Lib.hid (own_empty hb.size)
 clear hb HFI HBI
 cases yb with
 | false =>
  have HE := Lib.hid (HN.out (fun h => by have := billsB_yes h.1.1; rw [HYB.out] at this; cases this))
  go_wp2_with fail
  go_ret2
  exact ⟨_, by rw [HE.out.1]; rfl, Lib.hid (by rw [HE.out.2]; exact HOE.out), HBE⟩
 | true =>
 have hbo := billsB_iff.1 HYB.out
 have HBO := Lib.hid hbo
 by_cases hf : fiI l s < 0
 · have HE := Lib.hid (HN.out (fun h => by have := h.1.2.1; omega))
   have hd : decide (fiI l s < 0) = true := decide_eq_true hf
   clear hf
   go_wp2_with fail
   go_ret2
   exact ⟨_, by rw [HE.out.1]; rfl, Lib.hid (by rw [HE.out.2]; exact HOE.out), HBE⟩
 obtain ⟨ia, hia⟩ : ∃ k : Nat, fiI l s = (k : Int) := ⟨(fiI l s).toNat, by omega⟩
 obtain ⟨hial, hcode⟩ := fi_code hia
 have HCODE := Lib.hid hcode
 have HF0 : Hid (0 ≤ fiI l s) := Lib.hid (by omega)
 have hd : decide ((ia : Int) < 0) = false := decide_eq_false (by omega)
 rw [hia]
 clear hf hia hcode hbo
 go_wp2_with fail
 refine (spec_in q 0 100000 w1).mono ?_
 rintro e w2 ⟨rfl, rfl⟩
 by_cases hq : 0 ≤ q ∧ q ≤ 100000
 rotate_left
 · have HE := Lib.hid (HN.out (fun h => hq h.1.2.2))
   rw [inB_no (by omega)]
   clear hq
   go_wp2_with fail
   go_ret2
   exact ⟨_, by rw [HE.out.1]; rfl, Lib.hid (by rw [HE.out.2]; exact HOE.out), HBE⟩
 rw [inB_yes hq.1 hq.2]
 have HQ := Lib.hid hq
 obtain ⟨n, rfl⟩ : ∃ n : Nat, q = (n : Int) := ⟨q.toNat, by omega⟩
 have hn5 : n ≤ 100000 := by omega
 have HFT := Lib.hid (dn_fit (day := day) (ps := ps) (ph := true) HBO.out hial hn5 HCODE.out)
 have HNZ := Lib.hid (fun hf => dn_nz (day := day) (ps := ps) (ph := true) (q := n) HBO.out hial HCODE.out hf l.length (Nat.le_refl _))
 have HOKX : Hid (ExOk l xs s (n : Int)) := Lib.hid ⟨HBO.out, HF0.out, HQ.out⟩
 have HDW := Lib.hid (spec_down _ _ _ l xs ia n day ps true lo hi w2 (HI.out.below HB1.out) (HX.out.below BLN.kept HB1.out) (HP.out.below HB1.out) HBO.out hial hn5 hm3)
 clear hq hial HOE HBE
 go_wp2_with fail
 refine HDW.out.mono ?_
 rintro e w3 ⟨vn, S, rfl, HSV, HOS, HB3⟩
 have HBW3 := Lib.hid (HB1.out.trans (HB3.out.mono HB1.out.size))
 have HND := Lib.hid (spec_needs _ _ vn l S w3 (HI.out.below HBW3.out) HSV.out.1 HBO.out.1.1.2 HOS.out)
 obtain ⟨an, cn, rfl⟩ := own_sliceN HOS.out
 clear HDW HOS HB3
 go_wp2_with fail
 refine HND.out.mono ?_
 clear HND
 have hbw : w.heap.size ≤ w3.heap.size := HBW3.out.size
 rintro e w4 (⟨hno, v5, rfl, HO, HB4⟩ | ⟨hfit, v5, rfl, HO, HB4⟩)
 · have HE := Lib.hid (HN.out (fun h => hno (fun i hi => by rw [HSV.out.2 i hi]; exact (HFT.out.2 h.2) i hi)))
   have HBF := Lib.hid (HBW3.out.trans (HB4.out.mono HBW3.out.size))
   have HOF := Lib.hid (own_lower HO.out hbw)
   obtain ⟨a5, c5, rfl⟩ := own_sliceN HO.out
   clear hno HO
   go_wp2_with fail
   go_ret2
   exact ⟨_, by rw [HE.out.1]; rfl, Lib.hid (by rw [HE.out.2]; exact HOF.out), HBF⟩
 · have hfl : FitL l (exV l xs s (n : Int) day ps true) := HFT.out.1 (fun i hi => by rw [← HSV.out.2 i hi]; exact hfit i hi)
   have HE := Lib.hid (HY.out ⟨HOKX.out, hfl⟩)
   have HEQ : Hid (nzL l (lv S) l.length = needP l s (exV l xs s (n : Int) day ps true) true) := Lib.hid (by
    rw [nzL_congr (fun i hi => HSV.out.2 i hi), HNZ.out hfl, List.take_length])
   have HBF := Lib.hid (HBW3.out.trans (HB4.out.mono HBW3.out.size))
   have HOF := Lib.hid (own_lower HO.out hbw)
   obtain ⟨a5, c5, rfl⟩ := own_sliceN HO.out
   clear hfit HO hfl
   go_wp2_with fail
   go_ret2
   exact ⟨_, by rw [HE.out.1]; rfl, Lib.hid (by rw [HE.out.2, ← HEQ.out]; exact HOF.out), HBF⟩
end Go.Proofs.YtmnncinpepeocaaGreat
