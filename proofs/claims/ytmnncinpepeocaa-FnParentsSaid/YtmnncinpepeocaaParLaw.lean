/-
  The walk of FnParents.
-/
import Derived.Test.YtmnncinpepeocaaParDraw
import Derived.Test.YtmnncinpepeocaaBillPar
import Derived.Test.YtmnncinpepeocaaBillLines
import Derived.Test.YtmnncinpepeocaaBillSpec
import Derived.Test.YtmnncinpepeocaaCondHolds
import Derived.Test.YtmnncinpepeocaaCondHolds2
import Derived.Test.YtmnncinpepeocaaHasTx
import Derived.Test.YtmnncinpepeocaaBuDr
import Derived.Test.YtmnncinpepeocaaBuA
import Derived.WalkKit
import Derived.WalkSpells
import Derived.WalkSmall
import Derived.BigQuiet
import Derived.OneCell
import Derived.Deep.QuietTactic
import Derived.Deep.DeepCutAuto
import Derived.Deep.RegionHeld3
import Derived.Lib.Hide
namespace Go.Proofs.Ytmnncinpepeocaa
open Go.RowKit

/-- The texts of a list of the call's own. -/
theorem strs_own {w : World} {base e : Nat} {v : Value} {ns : List ByteArray} (h : w.ownsRow base e 1 v ns.length (ns.map Value.string)) : Strs w v ns := by
  rcases h.2 with ⟨rfl, hx⟩ | ⟨g, cap, cur, rfl, hb, hg, hnc, hcm, hcs, htake⟩
  · exact Or.inl ⟨List.eq_nil_of_length_eq_zero hx, _, _, rfl⟩
  · by_cases h0 : ns = []
    · subst h0
      exact Or.inl ⟨rfl, _, _, rfl⟩
    · refine Or.inr ⟨h0, g, 0, cap, rfl, hnc, (h.lt g rfl).2, fun j x hx => ?_⟩
      have hj : j < ns.length := (List.getElem?_eq_some_iff.1 hx).1
      rw [Nat.zero_add, h.cellAt j (by omega), List.getElem?_map, hx]
      rfl
/-- What is asked of each line given. -/
theorem lines_is {l : List IT} {xs : List BL} {par : ByteArray} {day : Int} {ps : List PK} (hs : BX.Sz xs) : ∀ m (hm : m < (linesR l xs par day ps).length), ((linesR l xs par day ps)[m]'hm).par = par ∧ ((linesR l xs par day ps)[m]'hm).fr ≤ day ∧ day ≤ ((linesR l xs par day ps)[m]'hm).un ∧ holdsB ((linesR l xs par day ps)[m]'hm).whn ps = true ∧ BL.Sz ((linesR l xs par day ps)[m]'hm) := fun m hm => by
  have hmem := List.getElem_mem hm
  generalize (linesR l xs par day ps)[m]'hm = y at *
  unfold linesR at hmem
  split at hmem
  · obtain ⟨h1, h2⟩ := List.mem_filter.1 hmem
    unfold ofB onB at h2
    simp only [Bool.and_eq_true, decide_eq_true_eq] at h2
    exact ⟨h2.1, h2.2.1.1, h2.2.1.2, h2.2.2, hs.2 y h1⟩
  · cases hmem
/-- A line with the part is given just where the item is one of the parents. -/
theorem lines_par {l : List IT} {xs : List BL} {prt : ByteArray} {day : Int} {ps : List PK} (hb : billsB l xs = true) {it : IT} (hi : it ∈ l) : (linesR l xs it.code day ps).any (fun x => decide (x.prt = prt)) = true ↔ it.code ∈ parentsR l xs prt day ps := by
  unfold linesR parentsR
  rw [if_pos hb, if_pos hb]
  have hk : ∀ x : BL, (ofB it.code day ps x = true ∧ decide (x.prt = prt) = true) ↔ hasB it.code prt day ps x = true := fun x => by
    unfold ofB hasB
    simp only [Bool.and_eq_true, decide_eq_true_eq]
    constructor
    · rintro ⟨⟨h1, h2⟩, h3⟩; exact ⟨⟨h1, h3⟩, h2⟩
    · rintro ⟨⟨h1, h3⟩, h2⟩; exact ⟨⟨h1, h2⟩, h3⟩
  constructor
  · intro h
    obtain ⟨x, hx, hp⟩ := List.any_eq_true.1 h
    obtain ⟨hx1, hx2⟩ := List.mem_filter.1 hx
    refine List.mem_map.2 ⟨it, List.mem_filter.2 ⟨hi, ?_⟩, rfl⟩
    exact List.any_eq_true.2 ⟨x, hx1, (hk x).1 ⟨hx2, hp⟩⟩
  · intro h
    obtain ⟨r, hr, hc⟩ := List.mem_map.1 h
    obtain ⟨hr1, hr2⟩ := List.mem_filter.1 hr
    obtain ⟨x, hx, hp⟩ := List.any_eq_true.1 hr2
    rw [hc] at hp
    obtain ⟨h1, h2⟩ := (hk x).2 hp
    exact List.any_eq_true.2 ⟨x, List.mem_filter.2 ⟨hx, h1⟩, h2⟩
theorem parentsR_len (l : List IT) (xs : List BL) (prt : ByteArray) (day : Int) (ps : List PK) : (parentsR l xs prt day ps).length ≤ l.length := by
  unfold parentsR
  split
  · rw [List.length_map]; exact List.length_filter_le _ _
  · exact Nat.zero_le _
theorem linesR_len (l : List IT) (xs : List BL) (par : ByteArray) (day : Int) (ps : List PK) : (linesR l xs par day ps).length ≤ xs.length := by
  unfold linesR
  split
  · exact List.length_filter_le _ _
  · exact Nat.zero_le _
/-- The bit says whether the text is there. -/
def SaysIn (b : Bool) (s : ByteArray) (ns : List ByteArray) : Prop := b = true ↔ s ∈ ns
theorem any_take_all {α : Type} {p : α → Bool} {xs : List α} {k : Nat} (h : xs.length ≤ k) : (xs.take k).any p = xs.any p := by rw [List.take_of_length_le h]

set_option maxRecDepth 100000 in
set_option maxHeartbeats 8000000 in
theorem walk_FnParents (a : Option Addr) (n c : Nat) (w : World) (hm : n ≤ maxLen) (hcode : CodeAt w.heap.size w a n) :
    Calls Try.prog 3 #[.slice a n c] w fun e w' => e = .returned (.bool true) ∧ Below w.heap.size w w' := by
  unfold maxLen at hm
  have HCO := Lib.hid hcode
  clear hcode
  by_cases hbig : 1048576 < n
  · have e0 : decide ((1048576 : Int) < (n : Int)) = true := decide_eq_true (by omega)
    go_enter Try.func3, Try.ntmps3
    go_wp2_with fail
    refine (laws_big a n c _).mono ?_
    rintro e w1 ⟨rfl, rfl⟩
    go_wp2
    go_ret
    exact ⟨rfl, Below.refl _ _⟩
  have e0 : decide ((1048576 : Int) < (n : Int)) = false := decide_eq_false (by omega)
  go_enter Try.func3, Try.ntmps3
  go_wp2_with fail
  refine (laws_big a n c _).mono ?_
  rintro e w1 ⟨rfl, rfl⟩
  go_wp2_with fail
  refine (draw_parents a n c _ (by omega) HCO.out).mono ?_
  rintro e w2 ⟨p, q, l, p2, q2, ls, s, d, g3, q3, ps, rfl, HL6, HL9, HP3, HSZ, HXZ, HI, HXX, HPK, HB0⟩
  obtain ⟨lo, hi, hx⟩ := HXX.out
  have HX := Lib.hid hx
  have hl6 := HL6.out
  have hl9 := HL9.out
  have hp3 := HP3.out
  have HM : Hid (l.length ≤ maxLen ∧ ps.length ≤ maxLen) := Lib.hid (by unfold maxLen; omega)
  have HSB : Hid (∀ W, Below w2.heap.size w2 W → Calls Try.prog 11 #[.slice p l.length q, .slice p2 ls.length q2] W (BoolRes (billsB l ls) W)) := Lib.hid (fun W hW => spec_bills _ _ l ls lo hi W (HI.out.below hW) (HX.out.below BLN.kept hW) HM.out.1 HSZ.out HXZ.out)
  have HLN : Hid (∀ W (par : ByteArray), Below w2.heap.size w2 W → Calls Try.prog 12 #[.slice p l.length q, .slice p2 ls.length q2, .string par, .int .i64 d, .slice (some ⟨g3, 0, none⟩) ps.length q3] W (LnRes (linesR l ls par d ps) W)) := Lib.hid (fun W par hW => im_linesOf _ _ l ls par d _ ps lo hi W (HI.out.below hW) (HX.out.below BLN.kept hW) (HPK.out.below hW) HM.out.1 HSZ.out HXZ.out HM.out.2)
  have HSP : Hid (∀ W, Below w2.heap.size w2 W → Calls Try.prog 15 #[.slice p l.length q, .slice p2 ls.length q2, .string s, .int .i64 d, .slice (some ⟨g3, 0, none⟩) ps.length q3] W (NmRes (parentsR l ls s d ps) W)) := Lib.hid (fun W hW => spec_parentsOf _ _ l ls s d _ ps lo hi W (HI.out.below hW) (HX.out.below BLN.kept hW) (HPK.out.below hW) HM.out.1 HSZ.out HXZ.out HM.out.2)
  have HIP := Lib.hid (im_parentsOf _ _ l ls s d _ ps lo hi w2 HI.out HX.out HPK.out HM.out.1 HSZ.out HXZ.out HM.out.2)
  clear hx HXX HCO hbig hm e0 HL6 HL9 HP3
  have HNO : Hid (billsB l ls = false → parentsR l ls s d ps = []) := Lib.hid parentsR_no
  have HPL : Hid (billsB l ls = true → ∀ it, it ∈ l → ((linesR l ls it.code d ps).any (fun x => decide (x.prt = s)) = true ↔ it.code ∈ parentsR l ls s d ps)) := Lib.hid (fun hb it hi => lines_par hb hi)
  have HNL : Hid ((parentsR l ls s d ps).length ≤ 1048577) := Lib.hid (by have := parentsR_len l ls s d ps; omega)
  have HYL : Hid (∀ par, (linesR l ls par d ps).length ≤ 9) := Lib.hid (fun par => by have := linesR_len l ls par d ps; omega)
  generalize parentsR l ls s d ps = ns at *
  go_wp2_with fail
  refine HIP.out.mono ?_
  rintro e w3 ⟨v', rfl, HO, HB3⟩
  have HST := Lib.hid (strs_own HO.out)
  obtain ⟨pv, qv, rfl⟩ := own_slice HO.out
  clear HIP HO
  go_wp2_with fail
  go_loopw [9] (fun i wr => ∃ k : Nat, k ≤ l.length ∧ i = .int .i64 k ∧ Hid (0 < k → billsB l ls = true) ∧ Hid (Below w3.heap.size w3 wr)) (fun i _ => l.length - (intOf i).toNat)
  case atStart => exact ⟨0, Nat.zero_le _, rfl, Lib.hid (fun h => by omega), Lib.hid (Below.refl _ _)⟩
  case round =>
    obtain ⟨k, hk, rfl, HK, HB⟩ := hrel
    have HBB := Lib.hid (HB3.out.trans (HB.out.mono HB3.out.size))
    by_cases hlt : k < l.length
    rotate_left
    · have hkd : decide ((k : Int) < (l.length : Int)) = false := decide_eq_false (by omega)
      rcases Bool.eq_false_or_eq_true (billsB l ls) with hc | hc
      · rw [hc] at HSB
        clear hc HK HB
        have HBC := HBB
        clear HBB
        go_wp2_with fail
        refine (HSB.out _ HBC.out).mono ?_
        rintro e w6 ⟨rfl, hb⟩
        have HBD := Lib.hid (HBC.out.trans (hb.mono HBC.out.size))
        clear hb HBC
        have hee : (((ns.length : Nat) : Int) == ((ns.length : Nat) : Int)) = true := by simp
        go_wp2_with fail
        refine (HSP.out _ HBD.out).mono ?_
        rintro e w7 ⟨v7, rfl, HO7, HB7⟩
        obtain ⟨pz, qz, rfl⟩ := own_slice HO7.out
        go_wp2_with fail
        go_ret
        exact ⟨rfl, HB0.out.trans ((HBD.out.trans (HB7.out.mono HBD.out.size)).mono HB0.out.size)⟩
      · have hn0 := HNO.out hc
        rw [hc] at HSB
        clear hc HK HB
        have HBC := HBB
        clear HBB
        have hz0 : (((ns.length : Nat) : Int) == 0) = true := by rw [hn0]; rfl
        have hz1 : (ns.length == 0) = true := by rw [hn0]; rfl
        clear hn0
        go_wp2_with fail
        refine (HSB.out _ HBC.out).mono ?_
        rintro e w6 ⟨rfl, hb⟩
        have HBD := Lib.hid (HBC.out.trans (hb.mono HBC.out.size))
        clear hb HBC
        have hee : (((ns.length : Nat) : Int) == ((ns.length : Nat) : Int)) = true := by simp
        go_wp2_with fail
        refine (HSP.out _ HBD.out).mono ?_
        rintro e w7 ⟨v7, rfl, HO7, HB7⟩
        obtain ⟨pz, qz, rfl⟩ := own_slice HO7.out
        go_wp2_with fail
        go_ret
        exact ⟨rfl, HB0.out.trans ((HBD.out.trans (HB7.out.mono HBD.out.size)).mono HB0.out.size)⟩
    have hkd : decide ((k : Int) < (l.length : Int)) = true := decide_eq_true (by omega)
    rcases Bool.eq_false_or_eq_true (billsB l ls) with hc | hc
    rotate_left
    · have hn0 := HNO.out hc
      rw [hc] at HSB
      clear hc
      go_wp2_with fail
      refine (HSB.out _ HBB.out).mono ?_
      rintro e w4 ⟨rfl, hb⟩
      have HBC := Lib.hid (HBB.out.trans (hb.mono HBB.out.size))
      clear hb HBB HB HK
      have hz0 : (((ns.length : Nat) : Int) == 0) = true := by rw [hn0]; rfl
      have hz1 : (ns.length == 0) = true := by rw [hn0]; rfl
      clear hn0
      go_wp2_with fail
      refine (HSB.out _ HBC.out).mono ?_
      rintro e w6 ⟨rfl, hb⟩
      have HBD := Lib.hid (HBC.out.trans (hb.mono HBC.out.size))
      clear hb HBC
      have hee : (((ns.length : Nat) : Int) == ((ns.length : Nat) : Int)) = true := by simp
      go_wp2_with fail
      refine (HSP.out _ HBD.out).mono ?_
      rintro e w7 ⟨v7, rfl, HO7, HB7⟩
      obtain ⟨pz, qz, rfl⟩ := own_slice HO7.out
      go_wp2_with fail
      go_ret
      exact ⟨rfl, HB0.out.trans ((HBD.out.trans (HB7.out.mono HBD.out.size)).mono HB0.out.size)⟩
    have HBT := Lib.hid hc
    have hpl := HPL.out hc _ (List.getElem_mem hlt)
    have HPI := Lib.hid hpl
    have hlen := lines_is (l := l) (par := (l[k]'hlt).code) (day := d) (ps := ps) HXZ.out
    have HLI := Lib.hid hlen
    have hys9 := HYL.out (l[k]'hlt).code
    rw [hc] at HSB
    clear hc hpl hlen HPL HNO
    obtain ⟨b3, o3, c3', hv3, hc3, hcell3⟩ := HI.out.some (by omega)
    simp only [Value.slice.injEq] at hv3
    obtain ⟨rfl, _, rfl⟩ := hv3
    have HIC : Hid (∀ W, Below w2.heap.size w2 W → W.cell? ⟨b3, o3 + k * 8, none⟩ = some (.string (l[k]'hlt).code)) := Lib.hid (fun W hW => ((hcell3.below hW).at k hlt).1)
    clear hcell3 hc3
    have HLT := Lib.hid hlt
    generalize l[k]'hlt = it at *
    have i0' : (0 : Int) ≤ (k : Int) := by omega
    have i1' : (k : Int) < (l.length : Int) := by omega
    go_wp2_with fail
    refine (HSB.out _ HBB.out).mono ?_
    rintro e w4 ⟨rfl, hb⟩
    have HB4 := Lib.hid (HB.out.trans (hb.mono HB.out.size))
    have HBB4 := Lib.hid (HBB.out.trans (hb.mono HBB.out.size))
    clear hb HB HBB
    have hic := HIC.out _ HBB4.out
    go_wp2_with fail
    refine (HLN.out w4 it.code HBB4.out).mono ?_
    rintro e w5 ⟨v5, rfl, HY, HB5⟩
    have HB6 := Lib.hid (HB4.out.trans (HB5.out.mono HB4.out.size))
    have HBB6 := Lib.hid (HBB4.out.trans (HB5.out.mono HBB4.out.size))
    clear hic HB4 HBB4 HB5
    generalize linesR l ls it.code d ps = ys at *
    have HYX := Lib.hid HY.out.sl
    obtain ⟨py, qy, rfl⟩ := HY.out.slice
    clear HY
    go_wp2_with fail
    go_loopw [10, 12] (fun f i wx => ∃ (m : Nat) (y : Bool), m ≤ ys.length ∧ i = .int .i64 m ∧ f = .bool y ∧ Hid (y = (ys.take m).any (fun x => decide (x.prt = s))) ∧ Hid (Below w5.heap.size w5 wx)) (fun _ i _ => ys.length - (intOf i).toNat)
    case atStart => exact ⟨0, false, Nat.zero_le _, rfl, rfl, Lib.hid (by simp), Lib.hid (Below.refl _ _)⟩
    case round =>
      obtain ⟨m, y, hmy, rfl, rfl, HF, HBX⟩ := hrel
      have HB7 := Lib.hid (HB6.out.trans (HBX.out.mono HB6.out.size))
      have HBB7 := Lib.hid (HBB6.out.trans (HBX.out.mono HBB6.out.size))
      by_cases hlj : m < ys.length
      rotate_left
      · have hd7 : decide ((m : Int) < (ys.length : Int)) = false := decide_eq_false (by omega)
        have hyy : SaysIn y it.code ns := by
          unfold SaysIn
          have h1 := HF.out
          rw [any_take_all (by omega)] at h1
          rw [h1]; exact HPI.out
        have HYY := Lib.hid hyy
        have HS7 := Lib.hid (HST.out.below HB7.out)
        have hic := HIC.out _ HBB7.out
        clear hyy hmy
        cases y with
        | true =>
          go_wp2_with fail
          refine (laws_has _ ns it.code true _ HS7.out HNL.out HYY.out).mono ?_
          rintro e w8 ⟨rfl, hb⟩
          have HB8 := Lib.hid (HB7.out.trans (hb.mono HB7.out.size))
          clear hb
          go_wp2_with fail
          go_roundw
          case rel => exact ⟨k + 1, HLT.out, by go_num, Lib.hid (fun _ => HBT.out), HB8⟩
          case measure => have := HLT.out; simp [intOf]; omega
        | false =>
          go_wp2_with fail
          refine (laws_has _ ns it.code false _ HS7.out HNL.out HYY.out).mono ?_
          rintro e w8 ⟨rfl, hb⟩
          have HB8 := Lib.hid (HB7.out.trans (hb.mono HB7.out.size))
          clear hb
          go_wp2_with fail
          go_roundw
          case rel => exact ⟨k + 1, HLT.out, by go_num, Lib.hid (fun _ => HBT.out), HB8⟩
          case measure => have := HLT.out; simp [intOf]; omega
      have hd7 : decide ((m : Int) < (ys.length : Int)) = true := decide_eq_true (by omega)
      have HLJ := Lib.hid hlj
      have HTJ : Hid ((ys.take (m + 1)).any (fun x => decide (x.prt = s)) = ((ys.take m).any (fun x => decide (x.prt = s)) || decide ((ys[m]'hlj).prt = s))) := Lib.hid (any_take_succ hlj)
      obtain ⟨hpar, hfr, hun, hho, hsz⟩ := HLI.out m hlj
      obtain ⟨b2, o2, c2', cs, hv2, hc2, hb2, hcl, hr5, hcell⟩ := (HYX.out.below BLN.kept HBX.out).get m hlj
      simp only [Value.slice.injEq] at hv2
      obtain ⟨rfl, _, rfl⟩ := hv2
      obtain ⟨u5, rfl, h5⟩ := hr5
      obtain ⟨sa5, sc5, rfl⟩ := h5.slice
      have e0 := hcell 0 (by omega)
      have e1 := hcell 1 (by omega)
      have e3 := hcell 3 (by omega)
      have e4 := hcell 4 (by omega)
      have e5 := hcell 5 (by omega)
      simp only [List.getElem?_cons_zero, List.getElem?_cons_succ, Nat.add_zero] at e0 e1 e3 e4 e5
      have HHO : Hid (∀ W, Below wr.heap.size wr W → Calls Try.prog 13 #[.slice sa5 (ys[m]'hlj).whn.length sc5, .slice (some ⟨g3, 0, none⟩) ps.length q3] W (BoolRes true W)) := Lib.hid (fun W hW => by
        rw [← hho]
        exact spec_holds _ _ _ ps W (h5.is.below hW) hsz.2.2.2 hsz.2.2.1 ((HPK.out.below HBB7.out).below hW) HM.out.2)
      have HPAR := Lib.hid hpar
      have HDAY := Lib.hid (And.intro hfr hun)
      clear hcell h5 hc2 hb2 hcl hpar hfr hun hho hsz
      generalize ys[m]'hlj = x at *
      have hic := HIC.out _ HBB7.out
      have j0' : (0 : Int) ≤ (m : Int) := by omega
      have j1' : (m : Int) < (ys.length : Int) := by omega
      have hq := str_eq HPAR.out
      have hqn : (x.par.toList != it.code.toList) = false := by rw [bne, hq]; rfl
      have hdf : decide (d < x.fr) = false := decide_eq_false (by have := HDAY.out.1; omega)
      have hdu : decide (x.un < d) = false := decide_eq_false (by have := HDAY.out.2; omega)
      cases y with
      | true =>
        have HF2 : Hid (true = (ys.take (m + 1)).any (fun x => decide (x.prt = s))) := Lib.hid (by rw [HTJ.out, ← HF.out]; rfl)
        go_upto_region 14 with fail
        clear e1
        refine wp_region_held_drew (S := (fun W' => Hid (Below wr.heap.size wr W') ∧ W'.cell? ⟨b2, o2 + m * 6, none⟩ = some (.string x.par) ∧ W'.cell? ⟨b2, o2 + m * 6 + 3, none⟩ = some (.int .i64 x.fr) ∧ W'.cell? ⟨b2, o2 + m * 6 + 4, none⟩ = some (.int .i64 x.un) ∧ W'.cell? ⟨b2, o2 + m * 6 + 5, none⟩ = some (.slice sa5 x.whn.length sc5) ∧ W'.cell? ⟨b3, o3 + k * 8, none⟩ = some (.string it.code))) (by kernel_rfl) (hold5 e0 e3 e4 e5 hic (Below.refl _ _).drew) (fun hHeld => ?_)
        refine wpAnyH_take (i := 0) (oi := { dst := some 66, op := Op.move (Operand.tmp 11), type := 25, pos := _, after := #[], guard := none }) (v := ?vr1x1) rfl (by kernel_rfl) (by kernel_rfl) (by kernel_rfl) (fun _ _ _ h => h) (Or.inl ⟨by rfl, ?yr1x1⟩) (by assumption) ?rr1x1
        case yr1x1 => (intro w' hSw; (try dsimp only at hSw); go_simp; (try with_reducible rfl))
        refine wpAnyH_take (i := 1) (oi := { dst := some 67, op := Op.move (Operand.tmp 12), type := 3, pos := _, after := #[], guard := none }) (v := ?vr1x2) rfl (by kernel_rfl) (by kernel_rfl) (by kernel_rfl) (fun _ _ _ h => h) (Or.inl ⟨by rfl, ?yr1x2⟩) (by assumption) ?rr1x2
        case yr1x2 => (intro w' hSw; (try dsimp only at hSw); go_simp; (try with_reducible rfl))
        refine wpAnyH_take (i := 2) (oi := { dst := some 68, op := Op.indexAddr 25 (Operand.tmp 66) (Operand.tmp 67), type := 0, pos := _, after := #[{ on := 0, ground := Ground.data }, { on := 1, ground := Ground.data }], guard := none }) (v := ?vr1x3) rfl (by kernel_rfl) (by kernel_rfl) (by kernel_rfl) (fun _ _ _ h => h) (Or.inl ⟨by rfl, ?yr1x3⟩) (by assumption) ?rr1x3
        case yr1x3 => (intro w' hSw; (try dsimp only at hSw); go_simp; (try with_reducible rfl))
        (try simp only [Act.put, List.setIfInBounds_toArray, List.set_cons_zero, List.set_cons_succ])
        refine wpAnyH_take (i := 3) (oi := { dst := some 69, op := Op.fieldAddr 37 (Operand.tmp 68) 0, type := 0, pos := _, after := #[{ on := 2, ground := Ground.data }], guard := none }) (v := ?vr1x4) rfl (by kernel_rfl) (by kernel_rfl) (by kernel_rfl) (fun _ _ _ h => h) (Or.inl ⟨by rfl, ?yr1x4⟩) (by assumption) ?rr1x4
        case yr1x4 => (intro w' hSw; (try dsimp only at hSw); go_simp; (try with_reducible rfl))
        refine wpAnyH_take (i := 4) (oi := { dst := some 70, op := Op.load 9 (Operand.tmp 69), type := 9, pos := _, after := #[{ on := 3, ground := Ground.data }], guard := none }) (v := ?vr1x5) rfl (by kernel_rfl) (by kernel_rfl) (by kernel_rfl) (fun _ _ _ h => h) (Or.inl ⟨by rfl, ?yr1x5⟩) (by assumption) ?rr1x5
        case yr1x5 => (intro w' hSw; (try dsimp only at hSw); go_simp; (try with_reducible rfl))
        refine wpAnyH_take (i := 5) (oi := { dst := some 71, op := Op.move (Operand.tmp 3), type := 24, pos := _, after := #[], guard := none }) (v := ?vr1x6) rfl (by kernel_rfl) (by kernel_rfl) (by kernel_rfl) (fun _ _ _ h => h) (Or.inl ⟨by rfl, ?yr1x6⟩) (by assumption) ?rr1x6
        case yr1x6 => (intro w' hSw; (try dsimp only at hSw); go_simp; (try with_reducible rfl))
        (try simp only [Act.put, List.setIfInBounds_toArray, List.set_cons_zero, List.set_cons_succ])
        refine wpAnyH_take (i := 6) (oi := { dst := some 72, op := Op.move (Operand.tmp 9), type := 3, pos := _, after := #[], guard := none }) (v := ?vr1x7) rfl (by kernel_rfl) (by kernel_rfl) (by kernel_rfl) (fun _ _ _ h => h) (Or.inl ⟨by rfl, ?yr1x7⟩) (by assumption) ?rr1x7
        case yr1x7 => (intro w' hSw; (try dsimp only at hSw); go_simp; (try with_reducible rfl))
        refine wpAnyH_take (i := 7) (oi := { dst := some 73, op := Op.indexAddr 24 (Operand.tmp 71) (Operand.tmp 72), type := 0, pos := _, after := #[{ on := 5, ground := Ground.data }, { on := 6, ground := Ground.data }], guard := none }) (v := ?vr1x8) rfl (by kernel_rfl) (by kernel_rfl) (by kernel_rfl) (fun _ _ _ h => h) (Or.inl ⟨by rfl, ?yr1x8⟩) (by assumption) ?rr1x8
        case yr1x8 => (intro w' hSw; (try dsimp only at hSw); go_simp; (try with_reducible rfl))
        refine wpAnyH_take (i := 8) (oi := { dst := some 74, op := Op.fieldAddr 34 (Operand.tmp 73) 0, type := 0, pos := _, after := #[{ on := 7, ground := Ground.data }], guard := none }) (v := ?vr1x9) rfl (by kernel_rfl) (by kernel_rfl) (by kernel_rfl) (fun _ _ _ h => h) (Or.inl ⟨by rfl, ?yr1x9⟩) (by assumption) ?rr1x9
        case yr1x9 => (intro w' hSw; (try dsimp only at hSw); go_simp; (try with_reducible rfl))
        (try simp only [Act.put, List.setIfInBounds_toArray, List.set_cons_zero, List.set_cons_succ])
        refine wpAnyH_take (i := 9) (oi := { dst := some 75, op := Op.load 9 (Operand.tmp 74), type := 9, pos := _, after := #[{ on := 8, ground := Ground.data }], guard := none }) (v := ?vr1x10) rfl (by kernel_rfl) (by kernel_rfl) (by kernel_rfl) (fun _ _ _ h => h) (Or.inl ⟨by rfl, ?yr1x10⟩) (by assumption) ?rr1x10
        case yr1x10 => (intro w' hSw; (try dsimp only at hSw); go_simp; (try with_reducible rfl))
        refine wpAnyH_take (i := 10) (oi := { dst := some 76, op := Op.binOp BinOp.neq 9 (Operand.tmp 70) (Operand.tmp 75) 9, type := 4, pos := _, after := #[{ on := 4, ground := Ground.data }, { on := 9, ground := Ground.data }], guard := none }) (v := ?vr1x11) rfl (by kernel_rfl) (by kernel_rfl) (by kernel_rfl) (fun _ _ _ h => h) (Or.inl ⟨by rfl, ?yr1x11⟩) (by assumption) ?rr1x11
        case yr1x11 => (intro w' hSw; (try dsimp only at hSw); go_simp; (try with_reducible rfl))
        refine wpAnyH_take (i := 11) (oi := { dst := some 77, op := Op.move (Operand.tmp 76), type := 4, pos := _, after := #[{ on := 10, ground := Ground.data }], guard := none }) (v := ?vr1x12) rfl (by kernel_rfl) (by kernel_rfl) (by kernel_rfl) (fun _ _ _ h => h) (Or.inl ⟨by rfl, ?yr1x12⟩) (by assumption) ?rr1x12
        case yr1x12 => (intro w' hSw; (try dsimp only at hSw); go_simp; (try with_reducible rfl))
        (try simp only [Act.put, List.setIfInBounds_toArray, List.set_cons_zero, List.set_cons_succ])
        refine wpAnyH_take (i := 12) (oi := { dst := some 78, op := Op.move (Operand.tmp 11), type := 25, pos := _, after := #[{ on := 11, ground := Ground.guard }], guard := some (11, false) }) (v := ?vr1x13) rfl (by kernel_rfl) (by kernel_rfl) (by kernel_rfl) (fun _ _ _ h => h) (Or.inl ⟨by rfl, ?yr1x13⟩) (by assumption) ?rr1x13
        case yr1x13 => (intro w' hSw; (try dsimp only at hSw); go_simp; (try with_reducible rfl))
        refine wpAnyH_take (i := 13) (oi := { dst := some 79, op := Op.move (Operand.tmp 12), type := 3, pos := _, after := #[{ on := 11, ground := Ground.guard }], guard := some (11, false) }) (v := ?vr1x14) rfl (by kernel_rfl) (by kernel_rfl) (by kernel_rfl) (fun _ _ _ h => h) (Or.inl ⟨by rfl, ?yr1x14⟩) (by assumption) ?rr1x14
        case yr1x14 => (intro w' hSw; (try dsimp only at hSw); go_simp; (try with_reducible rfl))
        refine wpAnyH_take (i := 14) (oi := { dst := some 80, op := Op.indexAddr 25 (Operand.tmp 78) (Operand.tmp 79), type := 0, pos := _, after := #[{ on := 12, ground := Ground.data }, { on := 13, ground := Ground.data }, { on := 11, ground := Ground.guard }], guard := some (11, false) }) (v := ?vr1x15) rfl (by kernel_rfl) (by kernel_rfl) (by kernel_rfl) (fun _ _ _ h => h) (Or.inl ⟨by rfl, ?yr1x15⟩) (by assumption) ?rr1x15
        case yr1x15 => (intro w' hSw; (try dsimp only at hSw); go_simp; (try with_reducible rfl))
        (try simp only [Act.put, List.setIfInBounds_toArray, List.set_cons_zero, List.set_cons_succ])
        refine wpAnyH_take (i := 15) (oi := { dst := some 81, op := Op.fieldAddr 37 (Operand.tmp 80) 3, type := 0, pos := _, after := #[{ on := 14, ground := Ground.data }, { on := 11, ground := Ground.guard }], guard := some (11, false) }) (v := ?vr1x16) rfl (by kernel_rfl) (by kernel_rfl) (by kernel_rfl) (fun _ _ _ h => h) (Or.inl ⟨by rfl, ?yr1x16⟩) (by assumption) ?rr1x16
        case yr1x16 => (intro w' hSw; (try dsimp only at hSw); go_simp; (try with_reducible rfl))
        refine wpAnyH_take (i := 16) (oi := { dst := some 82, op := Op.load 3 (Operand.tmp 81), type := 3, pos := _, after := #[{ on := 15, ground := Ground.data }, { on := 11, ground := Ground.guard }], guard := some (11, false) }) (v := ?vr1x17) rfl (by kernel_rfl) (by kernel_rfl) (by kernel_rfl) (fun _ _ _ h => h) (Or.inl ⟨by rfl, ?yr1x17⟩) (by assumption) ?rr1x17
        case yr1x17 => (intro w' hSw; (try dsimp only at hSw); go_simp; (try with_reducible rfl))
        refine wpAnyH_take (i := 17) (oi := { dst := some 83, op := Op.move (Operand.tmp 6), type := 3, pos := _, after := #[{ on := 11, ground := Ground.guard }], guard := some (11, false) }) (v := ?vr1x18) rfl (by kernel_rfl) (by kernel_rfl) (by kernel_rfl) (fun _ _ _ h => h) (Or.inl ⟨by rfl, ?yr1x18⟩) (by assumption) ?rr1x18
        case yr1x18 => (intro w' hSw; (try dsimp only at hSw); go_simp; (try with_reducible rfl))
        (try simp only [Act.put, List.setIfInBounds_toArray, List.set_cons_zero, List.set_cons_succ])
        refine wpAnyH_take (i := 18) (oi := { dst := some 84, op := Op.binOp BinOp.gtr 3 (Operand.tmp 82) (Operand.tmp 83) 3, type := 4, pos := _, after := #[{ on := 16, ground := Ground.data }, { on := 17, ground := Ground.data }, { on := 11, ground := Ground.guard }], guard := some (11, false) }) (v := ?vr1x19) rfl (by kernel_rfl) (by kernel_rfl) (by kernel_rfl) (fun _ _ _ h => h) (Or.inl ⟨by rfl, ?yr1x19⟩) (by assumption) ?rr1x19
        case yr1x19 => (intro w' hSw; (try dsimp only at hSw); go_simp; (try with_reducible rfl))
        refine wpAnyH_take (i := 19) (oi := { dst := some 85, op := Op.pick (Operand.tmp 77) (Operand.const (Value.bool true)) (Operand.tmp 84), type := 4, pos := _, after := #[{ on := 11, ground := Ground.data }, { on := 18, ground := Ground.data }], guard := none }) (v := ?vr1x20) rfl (by kernel_rfl) (by kernel_rfl) (by kernel_rfl) (fun _ _ _ h => h) (Or.inl ⟨by rfl, ?yr1x20⟩) (by assumption) ?rr1x20
        case yr1x20 => (intro w' hSw; (try dsimp only at hSw); go_simp; (try with_reducible rfl))
        refine wpAnyH_take (i := 20) (oi := { dst := some 86, op := Op.move (Operand.tmp 85), type := 4, pos := _, after := #[{ on := 19, ground := Ground.data }, { on := 11, ground := Ground.chain }], guard := none }) (v := ?vr1x21) rfl (by kernel_rfl) (by kernel_rfl) (by kernel_rfl) (fun _ _ _ h => h) (Or.inl ⟨by rfl, ?yr1x21⟩) (by assumption) ?rr1x21
        case yr1x21 => (intro w' hSw; (try dsimp only at hSw); go_simp; (try with_reducible rfl))
        (try simp only [Act.put, List.setIfInBounds_toArray, List.set_cons_zero, List.set_cons_succ])
        refine wpAnyH_take (i := 21) (oi := { dst := some 87, op := Op.move (Operand.tmp 11), type := 25, pos := _, after := #[{ on := 20, ground := Ground.guard }], guard := some (20, false) }) (v := ?vr1x22) rfl (by kernel_rfl) (by kernel_rfl) (by kernel_rfl) (fun _ _ _ h => h) (Or.inl ⟨by rfl, ?yr1x22⟩) (by assumption) ?rr1x22
        case yr1x22 => (intro w' hSw; (try dsimp only at hSw); go_simp; (try with_reducible rfl))
        refine wpAnyH_take (i := 22) (oi := { dst := some 88, op := Op.move (Operand.tmp 12), type := 3, pos := _, after := #[{ on := 20, ground := Ground.guard }], guard := some (20, false) }) (v := ?vr1x23) rfl (by kernel_rfl) (by kernel_rfl) (by kernel_rfl) (fun _ _ _ h => h) (Or.inl ⟨by rfl, ?yr1x23⟩) (by assumption) ?rr1x23
        case yr1x23 => (intro w' hSw; (try dsimp only at hSw); go_simp; (try with_reducible rfl))
        refine wpAnyH_take (i := 23) (oi := { dst := some 89, op := Op.indexAddr 25 (Operand.tmp 87) (Operand.tmp 88), type := 0, pos := _, after := #[{ on := 21, ground := Ground.data }, { on := 22, ground := Ground.data }, { on := 20, ground := Ground.guard }], guard := some (20, false) }) (v := ?vr1x24) rfl (by kernel_rfl) (by kernel_rfl) (by kernel_rfl) (fun _ _ _ h => h) (Or.inl ⟨by rfl, ?yr1x24⟩) (by assumption) ?rr1x24
        case yr1x24 => (intro w' hSw; (try dsimp only at hSw); go_simp; (try with_reducible rfl))
        (try simp only [Act.put, List.setIfInBounds_toArray, List.set_cons_zero, List.set_cons_succ])
        refine wpAnyH_take (i := 24) (oi := { dst := some 90, op := Op.fieldAddr 37 (Operand.tmp 89) 4, type := 0, pos := _, after := #[{ on := 23, ground := Ground.data }, { on := 20, ground := Ground.guard }], guard := some (20, false) }) (v := ?vr1x25) rfl (by kernel_rfl) (by kernel_rfl) (by kernel_rfl) (fun _ _ _ h => h) (Or.inl ⟨by rfl, ?yr1x25⟩) (by assumption) ?rr1x25
        case yr1x25 => (intro w' hSw; (try dsimp only at hSw); go_simp; (try with_reducible rfl))
        refine wpAnyH_take (i := 25) (oi := { dst := some 91, op := Op.load 3 (Operand.tmp 90), type := 3, pos := _, after := #[{ on := 24, ground := Ground.data }, { on := 20, ground := Ground.guard }], guard := some (20, false) }) (v := ?vr1x26) rfl (by kernel_rfl) (by kernel_rfl) (by kernel_rfl) (fun _ _ _ h => h) (Or.inl ⟨by rfl, ?yr1x26⟩) (by assumption) ?rr1x26
        case yr1x26 => (intro w' hSw; (try dsimp only at hSw); go_simp; (try with_reducible rfl))
        refine wpAnyH_take (i := 26) (oi := { dst := some 92, op := Op.move (Operand.tmp 6), type := 3, pos := _, after := #[{ on := 20, ground := Ground.guard }], guard := some (20, false) }) (v := ?vr1x27) rfl (by kernel_rfl) (by kernel_rfl) (by kernel_rfl) (fun _ _ _ h => h) (Or.inl ⟨by rfl, ?yr1x27⟩) (by assumption) ?rr1x27
        case yr1x27 => (intro w' hSw; (try dsimp only at hSw); go_simp; (try with_reducible rfl))
        (try simp only [Act.put, List.setIfInBounds_toArray, List.set_cons_zero, List.set_cons_succ])
        refine wpAnyH_take (i := 27) (oi := { dst := some 93, op := Op.binOp BinOp.lss 3 (Operand.tmp 91) (Operand.tmp 92) 3, type := 4, pos := _, after := #[{ on := 25, ground := Ground.data }, { on := 26, ground := Ground.data }, { on := 20, ground := Ground.guard }], guard := some (20, false) }) (v := ?vr1x28) rfl (by kernel_rfl) (by kernel_rfl) (by kernel_rfl) (fun _ _ _ h => h) (Or.inl ⟨by rfl, ?yr1x28⟩) (by assumption) ?rr1x28
        case yr1x28 => (intro w' hSw; (try dsimp only at hSw); go_simp; (try with_reducible rfl))
        refine wpAnyH_take (i := 28) (oi := { dst := some 94, op := Op.pick (Operand.tmp 86) (Operand.const (Value.bool true)) (Operand.tmp 93), type := 4, pos := _, after := #[{ on := 20, ground := Ground.data }, { on := 27, ground := Ground.data }], guard := none }) (v := ?vr1x29) rfl (by kernel_rfl) (by kernel_rfl) (by kernel_rfl) (fun _ _ _ h => h) (Or.inl ⟨by rfl, ?yr1x29⟩) (by assumption) ?rr1x29
        case yr1x29 => (intro w' hSw; (try dsimp only at hSw); go_simp; (try with_reducible rfl))
        refine wpAnyH_take (i := 29) (oi := { dst := some 95, op := Op.move (Operand.tmp 94), type := 4, pos := _, after := #[{ on := 28, ground := Ground.data }, { on := 20, ground := Ground.chain }], guard := none }) (v := ?vr1x30) rfl (by kernel_rfl) (by kernel_rfl) (by kernel_rfl) (fun _ _ _ h => h) (Or.inl ⟨by rfl, ?yr1x30⟩) (by assumption) ?rr1x30
        case yr1x30 => (intro w' hSw; (try dsimp only at hSw); go_simp; (try with_reducible rfl))
        (try simp only [Act.put, List.setIfInBounds_toArray, List.set_cons_zero, List.set_cons_succ])
        refine wpAnyH_take (i := 30) (oi := { dst := some 96, op := Op.move (Operand.tmp 11), type := 25, pos := _, after := #[{ on := 29, ground := Ground.guard }], guard := some (29, false) }) (v := ?vr1x31) rfl (by kernel_rfl) (by kernel_rfl) (by kernel_rfl) (fun _ _ _ h => h) (Or.inl ⟨by rfl, ?yr1x31⟩) (by assumption) ?rr1x31
        case yr1x31 => (intro w' hSw; (try dsimp only at hSw); go_simp; (try with_reducible rfl))
        refine wpAnyH_take (i := 31) (oi := { dst := some 97, op := Op.move (Operand.tmp 12), type := 3, pos := _, after := #[{ on := 29, ground := Ground.guard }], guard := some (29, false) }) (v := ?vr1x32) rfl (by kernel_rfl) (by kernel_rfl) (by kernel_rfl) (fun _ _ _ h => h) (Or.inl ⟨by rfl, ?yr1x32⟩) (by assumption) ?rr1x32
        case yr1x32 => (intro w' hSw; (try dsimp only at hSw); go_simp; (try with_reducible rfl))
        refine wpAnyH_take (i := 32) (oi := { dst := some 98, op := Op.indexAddr 25 (Operand.tmp 96) (Operand.tmp 97), type := 0, pos := _, after := #[{ on := 30, ground := Ground.data }, { on := 31, ground := Ground.data }, { on := 29, ground := Ground.guard }], guard := some (29, false) }) (v := ?vr1x33) rfl (by kernel_rfl) (by kernel_rfl) (by kernel_rfl) (fun _ _ _ h => h) (Or.inl ⟨by rfl, ?yr1x33⟩) (by assumption) ?rr1x33
        case yr1x33 => (intro w' hSw; (try dsimp only at hSw); go_simp; (try with_reducible rfl))
        (try simp only [Act.put, List.setIfInBounds_toArray, List.set_cons_zero, List.set_cons_succ])
        refine wpAnyH_take (i := 33) (oi := { dst := some 99, op := Op.fieldAddr 37 (Operand.tmp 98) 5, type := 0, pos := _, after := #[{ on := 32, ground := Ground.data }, { on := 29, ground := Ground.guard }], guard := some (29, false) }) (v := ?vr1x34) rfl (by kernel_rfl) (by kernel_rfl) (by kernel_rfl) (fun _ _ _ h => h) (Or.inl ⟨by rfl, ?yr1x34⟩) (by assumption) ?rr1x34
        case yr1x34 => (intro w' hSw; (try dsimp only at hSw); go_simp; (try with_reducible rfl))
        refine wpAnyH_take (i := 34) (oi := { dst := some 100, op := Op.load 35 (Operand.tmp 99), type := 35, pos := _, after := #[{ on := 33, ground := Ground.data }, { on := 29, ground := Ground.guard }], guard := some (29, false) }) (v := ?vr1x35) rfl (by kernel_rfl) (by kernel_rfl) (by kernel_rfl) (fun _ _ _ h => h) (Or.inl ⟨by rfl, ?yr1x35⟩) (by assumption) ?rr1x35
        case yr1x35 => (intro w' hSw; (try dsimp only at hSw); go_simp; (try with_reducible rfl))
        refine wpAnyH_take (i := 35) (oi := { dst := some 101, op := Op.move (Operand.tmp 7), type := 26, pos := _, after := #[{ on := 29, ground := Ground.guard }], guard := some (29, false) }) (v := ?vr1x36) rfl (by kernel_rfl) (by kernel_rfl) (by kernel_rfl) (fun _ _ _ h => h) (Or.inl ⟨by rfl, ?yr1x36⟩) (by assumption) ?rr1x36
        case yr1x36 => (intro w' hSw; (try dsimp only at hSw); go_simp; (try with_reducible rfl))
        (try simp only [Act.put, List.setIfInBounds_toArray, List.set_cons_zero, List.set_cons_succ])
        refine wpAnyH_ready (rs := [36]) (by kernel_rfl) (by simp) ?_
        refine AllReadyH.cons (o := { dst := some 102, op := Op.call { callee := Callee.value (Operand.func 13), args := #[Operand.tmp 100, Operand.tmp 101], argTypes := #[35, 26] }, type := 4, pos := _, after := #[{ on := 34, ground := Ground.data }, { on := 35, ground := Ground.data }, { on := 29, ground := Ground.chain }, { on := 29, ground := Ground.guard }], guard := some (29, false) }) rfl (fun K hK => ?_) AllReadyH.nil
        go_simp
        refine (HHO.out _ (by first | exact (by assumption : Hid (Below wr.heap.size wr _) ∧ _).1.out | exact Below.refl _ _ | exact (Below.refl _ _).drew)).mono ?_; rintro e w' ⟨rfl, hb⟩; have hle := hold_le (by assumption) hb
        (try go_wp2_with fail)
        refine hK.out _ _ ?_ (fun hHeld => ?_)
        · (try dsimp only); first | assumption | exact hold5 e0 e3 e4 e5 hic (hold_call (by assumption) (by assumption))
        clear hK K
        (try simp only [Act.put, List.setIfInBounds_toArray, List.set_cons_zero, List.set_cons_succ])
        refine wpAnyH_take (i := 37) (oi := { dst := some 103, op := Op.unOp UnOp.not 4 (Operand.tmp 102), type := 4, pos := _, after := #[{ on := 36, ground := Ground.data }, { on := 29, ground := Ground.guard }], guard := some (29, false) }) (v := ?vr1x37) rfl (by kernel_rfl) (by kernel_rfl) (by kernel_rfl) (fun _ _ _ h => h) (Or.inl ⟨by rfl, ?yr1x37⟩) (by assumption) ?rr1x37
        case yr1x37 => (intro w' hSw; (try dsimp only at hSw); go_simp; (try with_reducible rfl))
        refine wpAnyH_take (i := 38) (oi := { dst := some 104, op := Op.pick (Operand.tmp 95) (Operand.const (Value.bool true)) (Operand.tmp 103), type := 4, pos := _, after := #[{ on := 29, ground := Ground.data }, { on := 37, ground := Ground.data }], guard := none }) (v := ?vr1x38) rfl (by kernel_rfl) (by kernel_rfl) (by kernel_rfl) (fun _ _ _ h => h) (Or.inl ⟨by rfl, ?yr1x38⟩) (by assumption) ?rr1x38
        case yr1x38 => (intro w' hSw; (try dsimp only at hSw); go_simp; (try with_reducible rfl))
        (try simp only [Act.put, List.setIfInBounds_toArray, List.set_cons_zero, List.set_cons_succ])
        refine wpAnyH_done (by kernel_rfl) ?_ _
        have hS := (by assumption : Hid (Below wr.heap.size wr _) ∧ _)
        have HB9 := Lib.hid (HBX.out.trans (hS.1.out.mono HBX.out.size))
        go_wp2_with fail
        go_roundw
        case rel => exact ⟨m + 1, true, by have := HLJ.out; omega, by go_num, rfl, HF2, HB9⟩
        case measure => have := HLJ.out; simp [intOf]; omega
      | false =>
        by_cases hp2 : x.prt = s
        · have HF2 : Hid (true = (ys.take (m + 1)).any (fun x => decide (x.prt = s))) := Lib.hid (by rw [HTJ.out, ← HF.out, decide_eq_true hp2]; rfl)
          have hq2 := str_eq hp2
          clear hp2
          go_upto_region 14 with fail
          clear e1
          refine wp_region_held_drew (S := (fun W' => Hid (Below wr.heap.size wr W') ∧ W'.cell? ⟨b2, o2 + m * 6, none⟩ = some (.string x.par) ∧ W'.cell? ⟨b2, o2 + m * 6 + 3, none⟩ = some (.int .i64 x.fr) ∧ W'.cell? ⟨b2, o2 + m * 6 + 4, none⟩ = some (.int .i64 x.un) ∧ W'.cell? ⟨b2, o2 + m * 6 + 5, none⟩ = some (.slice sa5 x.whn.length sc5) ∧ W'.cell? ⟨b3, o3 + k * 8, none⟩ = some (.string it.code))) (by kernel_rfl) (hold5 e0 e3 e4 e5 hic (Below.refl _ _).drew) (fun hHeld => ?_)
          refine wpAnyH_take (i := 0) (oi := { dst := some 66, op := Op.move (Operand.tmp 11), type := 25, pos := _, after := #[], guard := none }) (v := ?vr2x1) rfl (by kernel_rfl) (by kernel_rfl) (by kernel_rfl) (fun _ _ _ h => h) (Or.inl ⟨by rfl, ?yr2x1⟩) (by assumption) ?rr2x1
          case yr2x1 => (intro w' hSw; (try dsimp only at hSw); go_simp; (try with_reducible rfl))
          refine wpAnyH_take (i := 1) (oi := { dst := some 67, op := Op.move (Operand.tmp 12), type := 3, pos := _, after := #[], guard := none }) (v := ?vr2x2) rfl (by kernel_rfl) (by kernel_rfl) (by kernel_rfl) (fun _ _ _ h => h) (Or.inl ⟨by rfl, ?yr2x2⟩) (by assumption) ?rr2x2
          case yr2x2 => (intro w' hSw; (try dsimp only at hSw); go_simp; (try with_reducible rfl))
          refine wpAnyH_take (i := 2) (oi := { dst := some 68, op := Op.indexAddr 25 (Operand.tmp 66) (Operand.tmp 67), type := 0, pos := _, after := #[{ on := 0, ground := Ground.data }, { on := 1, ground := Ground.data }], guard := none }) (v := ?vr2x3) rfl (by kernel_rfl) (by kernel_rfl) (by kernel_rfl) (fun _ _ _ h => h) (Or.inl ⟨by rfl, ?yr2x3⟩) (by assumption) ?rr2x3
          case yr2x3 => (intro w' hSw; (try dsimp only at hSw); go_simp; (try with_reducible rfl))
          (try simp only [Act.put, List.setIfInBounds_toArray, List.set_cons_zero, List.set_cons_succ])
          refine wpAnyH_take (i := 3) (oi := { dst := some 69, op := Op.fieldAddr 37 (Operand.tmp 68) 0, type := 0, pos := _, after := #[{ on := 2, ground := Ground.data }], guard := none }) (v := ?vr2x4) rfl (by kernel_rfl) (by kernel_rfl) (by kernel_rfl) (fun _ _ _ h => h) (Or.inl ⟨by rfl, ?yr2x4⟩) (by assumption) ?rr2x4
          case yr2x4 => (intro w' hSw; (try dsimp only at hSw); go_simp; (try with_reducible rfl))
          refine wpAnyH_take (i := 4) (oi := { dst := some 70, op := Op.load 9 (Operand.tmp 69), type := 9, pos := _, after := #[{ on := 3, ground := Ground.data }], guard := none }) (v := ?vr2x5) rfl (by kernel_rfl) (by kernel_rfl) (by kernel_rfl) (fun _ _ _ h => h) (Or.inl ⟨by rfl, ?yr2x5⟩) (by assumption) ?rr2x5
          case yr2x5 => (intro w' hSw; (try dsimp only at hSw); go_simp; (try with_reducible rfl))
          refine wpAnyH_take (i := 5) (oi := { dst := some 71, op := Op.move (Operand.tmp 3), type := 24, pos := _, after := #[], guard := none }) (v := ?vr2x6) rfl (by kernel_rfl) (by kernel_rfl) (by kernel_rfl) (fun _ _ _ h => h) (Or.inl ⟨by rfl, ?yr2x6⟩) (by assumption) ?rr2x6
          case yr2x6 => (intro w' hSw; (try dsimp only at hSw); go_simp; (try with_reducible rfl))
          (try simp only [Act.put, List.setIfInBounds_toArray, List.set_cons_zero, List.set_cons_succ])
          refine wpAnyH_take (i := 6) (oi := { dst := some 72, op := Op.move (Operand.tmp 9), type := 3, pos := _, after := #[], guard := none }) (v := ?vr2x7) rfl (by kernel_rfl) (by kernel_rfl) (by kernel_rfl) (fun _ _ _ h => h) (Or.inl ⟨by rfl, ?yr2x7⟩) (by assumption) ?rr2x7
          case yr2x7 => (intro w' hSw; (try dsimp only at hSw); go_simp; (try with_reducible rfl))
          refine wpAnyH_take (i := 7) (oi := { dst := some 73, op := Op.indexAddr 24 (Operand.tmp 71) (Operand.tmp 72), type := 0, pos := _, after := #[{ on := 5, ground := Ground.data }, { on := 6, ground := Ground.data }], guard := none }) (v := ?vr2x8) rfl (by kernel_rfl) (by kernel_rfl) (by kernel_rfl) (fun _ _ _ h => h) (Or.inl ⟨by rfl, ?yr2x8⟩) (by assumption) ?rr2x8
          case yr2x8 => (intro w' hSw; (try dsimp only at hSw); go_simp; (try with_reducible rfl))
          refine wpAnyH_take (i := 8) (oi := { dst := some 74, op := Op.fieldAddr 34 (Operand.tmp 73) 0, type := 0, pos := _, after := #[{ on := 7, ground := Ground.data }], guard := none }) (v := ?vr2x9) rfl (by kernel_rfl) (by kernel_rfl) (by kernel_rfl) (fun _ _ _ h => h) (Or.inl ⟨by rfl, ?yr2x9⟩) (by assumption) ?rr2x9
          case yr2x9 => (intro w' hSw; (try dsimp only at hSw); go_simp; (try with_reducible rfl))
          (try simp only [Act.put, List.setIfInBounds_toArray, List.set_cons_zero, List.set_cons_succ])
          refine wpAnyH_take (i := 9) (oi := { dst := some 75, op := Op.load 9 (Operand.tmp 74), type := 9, pos := _, after := #[{ on := 8, ground := Ground.data }], guard := none }) (v := ?vr2x10) rfl (by kernel_rfl) (by kernel_rfl) (by kernel_rfl) (fun _ _ _ h => h) (Or.inl ⟨by rfl, ?yr2x10⟩) (by assumption) ?rr2x10
          case yr2x10 => (intro w' hSw; (try dsimp only at hSw); go_simp; (try with_reducible rfl))
          refine wpAnyH_take (i := 10) (oi := { dst := some 76, op := Op.binOp BinOp.neq 9 (Operand.tmp 70) (Operand.tmp 75) 9, type := 4, pos := _, after := #[{ on := 4, ground := Ground.data }, { on := 9, ground := Ground.data }], guard := none }) (v := ?vr2x11) rfl (by kernel_rfl) (by kernel_rfl) (by kernel_rfl) (fun _ _ _ h => h) (Or.inl ⟨by rfl, ?yr2x11⟩) (by assumption) ?rr2x11
          case yr2x11 => (intro w' hSw; (try dsimp only at hSw); go_simp; (try with_reducible rfl))
          refine wpAnyH_take (i := 11) (oi := { dst := some 77, op := Op.move (Operand.tmp 76), type := 4, pos := _, after := #[{ on := 10, ground := Ground.data }], guard := none }) (v := ?vr2x12) rfl (by kernel_rfl) (by kernel_rfl) (by kernel_rfl) (fun _ _ _ h => h) (Or.inl ⟨by rfl, ?yr2x12⟩) (by assumption) ?rr2x12
          case yr2x12 => (intro w' hSw; (try dsimp only at hSw); go_simp; (try with_reducible rfl))
          (try simp only [Act.put, List.setIfInBounds_toArray, List.set_cons_zero, List.set_cons_succ])
          refine wpAnyH_take (i := 12) (oi := { dst := some 78, op := Op.move (Operand.tmp 11), type := 25, pos := _, after := #[{ on := 11, ground := Ground.guard }], guard := some (11, false) }) (v := ?vr2x13) rfl (by kernel_rfl) (by kernel_rfl) (by kernel_rfl) (fun _ _ _ h => h) (Or.inl ⟨by rfl, ?yr2x13⟩) (by assumption) ?rr2x13
          case yr2x13 => (intro w' hSw; (try dsimp only at hSw); go_simp; (try with_reducible rfl))
          refine wpAnyH_take (i := 13) (oi := { dst := some 79, op := Op.move (Operand.tmp 12), type := 3, pos := _, after := #[{ on := 11, ground := Ground.guard }], guard := some (11, false) }) (v := ?vr2x14) rfl (by kernel_rfl) (by kernel_rfl) (by kernel_rfl) (fun _ _ _ h => h) (Or.inl ⟨by rfl, ?yr2x14⟩) (by assumption) ?rr2x14
          case yr2x14 => (intro w' hSw; (try dsimp only at hSw); go_simp; (try with_reducible rfl))
          refine wpAnyH_take (i := 14) (oi := { dst := some 80, op := Op.indexAddr 25 (Operand.tmp 78) (Operand.tmp 79), type := 0, pos := _, after := #[{ on := 12, ground := Ground.data }, { on := 13, ground := Ground.data }, { on := 11, ground := Ground.guard }], guard := some (11, false) }) (v := ?vr2x15) rfl (by kernel_rfl) (by kernel_rfl) (by kernel_rfl) (fun _ _ _ h => h) (Or.inl ⟨by rfl, ?yr2x15⟩) (by assumption) ?rr2x15
          case yr2x15 => (intro w' hSw; (try dsimp only at hSw); go_simp; (try with_reducible rfl))
          (try simp only [Act.put, List.setIfInBounds_toArray, List.set_cons_zero, List.set_cons_succ])
          refine wpAnyH_take (i := 15) (oi := { dst := some 81, op := Op.fieldAddr 37 (Operand.tmp 80) 3, type := 0, pos := _, after := #[{ on := 14, ground := Ground.data }, { on := 11, ground := Ground.guard }], guard := some (11, false) }) (v := ?vr2x16) rfl (by kernel_rfl) (by kernel_rfl) (by kernel_rfl) (fun _ _ _ h => h) (Or.inl ⟨by rfl, ?yr2x16⟩) (by assumption) ?rr2x16
          case yr2x16 => (intro w' hSw; (try dsimp only at hSw); go_simp; (try with_reducible rfl))
          refine wpAnyH_take (i := 16) (oi := { dst := some 82, op := Op.load 3 (Operand.tmp 81), type := 3, pos := _, after := #[{ on := 15, ground := Ground.data }, { on := 11, ground := Ground.guard }], guard := some (11, false) }) (v := ?vr2x17) rfl (by kernel_rfl) (by kernel_rfl) (by kernel_rfl) (fun _ _ _ h => h) (Or.inl ⟨by rfl, ?yr2x17⟩) (by assumption) ?rr2x17
          case yr2x17 => (intro w' hSw; (try dsimp only at hSw); go_simp; (try with_reducible rfl))
          refine wpAnyH_take (i := 17) (oi := { dst := some 83, op := Op.move (Operand.tmp 6), type := 3, pos := _, after := #[{ on := 11, ground := Ground.guard }], guard := some (11, false) }) (v := ?vr2x18) rfl (by kernel_rfl) (by kernel_rfl) (by kernel_rfl) (fun _ _ _ h => h) (Or.inl ⟨by rfl, ?yr2x18⟩) (by assumption) ?rr2x18
          case yr2x18 => (intro w' hSw; (try dsimp only at hSw); go_simp; (try with_reducible rfl))
          (try simp only [Act.put, List.setIfInBounds_toArray, List.set_cons_zero, List.set_cons_succ])
          refine wpAnyH_take (i := 18) (oi := { dst := some 84, op := Op.binOp BinOp.gtr 3 (Operand.tmp 82) (Operand.tmp 83) 3, type := 4, pos := _, after := #[{ on := 16, ground := Ground.data }, { on := 17, ground := Ground.data }, { on := 11, ground := Ground.guard }], guard := some (11, false) }) (v := ?vr2x19) rfl (by kernel_rfl) (by kernel_rfl) (by kernel_rfl) (fun _ _ _ h => h) (Or.inl ⟨by rfl, ?yr2x19⟩) (by assumption) ?rr2x19
          case yr2x19 => (intro w' hSw; (try dsimp only at hSw); go_simp; (try with_reducible rfl))
          refine wpAnyH_take (i := 19) (oi := { dst := some 85, op := Op.pick (Operand.tmp 77) (Operand.const (Value.bool true)) (Operand.tmp 84), type := 4, pos := _, after := #[{ on := 11, ground := Ground.data }, { on := 18, ground := Ground.data }], guard := none }) (v := ?vr2x20) rfl (by kernel_rfl) (by kernel_rfl) (by kernel_rfl) (fun _ _ _ h => h) (Or.inl ⟨by rfl, ?yr2x20⟩) (by assumption) ?rr2x20
          case yr2x20 => (intro w' hSw; (try dsimp only at hSw); go_simp; (try with_reducible rfl))
          refine wpAnyH_take (i := 20) (oi := { dst := some 86, op := Op.move (Operand.tmp 85), type := 4, pos := _, after := #[{ on := 19, ground := Ground.data }, { on := 11, ground := Ground.chain }], guard := none }) (v := ?vr2x21) rfl (by kernel_rfl) (by kernel_rfl) (by kernel_rfl) (fun _ _ _ h => h) (Or.inl ⟨by rfl, ?yr2x21⟩) (by assumption) ?rr2x21
          case yr2x21 => (intro w' hSw; (try dsimp only at hSw); go_simp; (try with_reducible rfl))
          (try simp only [Act.put, List.setIfInBounds_toArray, List.set_cons_zero, List.set_cons_succ])
          refine wpAnyH_take (i := 21) (oi := { dst := some 87, op := Op.move (Operand.tmp 11), type := 25, pos := _, after := #[{ on := 20, ground := Ground.guard }], guard := some (20, false) }) (v := ?vr2x22) rfl (by kernel_rfl) (by kernel_rfl) (by kernel_rfl) (fun _ _ _ h => h) (Or.inl ⟨by rfl, ?yr2x22⟩) (by assumption) ?rr2x22
          case yr2x22 => (intro w' hSw; (try dsimp only at hSw); go_simp; (try with_reducible rfl))
          refine wpAnyH_take (i := 22) (oi := { dst := some 88, op := Op.move (Operand.tmp 12), type := 3, pos := _, after := #[{ on := 20, ground := Ground.guard }], guard := some (20, false) }) (v := ?vr2x23) rfl (by kernel_rfl) (by kernel_rfl) (by kernel_rfl) (fun _ _ _ h => h) (Or.inl ⟨by rfl, ?yr2x23⟩) (by assumption) ?rr2x23
          case yr2x23 => (intro w' hSw; (try dsimp only at hSw); go_simp; (try with_reducible rfl))
          refine wpAnyH_take (i := 23) (oi := { dst := some 89, op := Op.indexAddr 25 (Operand.tmp 87) (Operand.tmp 88), type := 0, pos := _, after := #[{ on := 21, ground := Ground.data }, { on := 22, ground := Ground.data }, { on := 20, ground := Ground.guard }], guard := some (20, false) }) (v := ?vr2x24) rfl (by kernel_rfl) (by kernel_rfl) (by kernel_rfl) (fun _ _ _ h => h) (Or.inl ⟨by rfl, ?yr2x24⟩) (by assumption) ?rr2x24
          case yr2x24 => (intro w' hSw; (try dsimp only at hSw); go_simp; (try with_reducible rfl))
          (try simp only [Act.put, List.setIfInBounds_toArray, List.set_cons_zero, List.set_cons_succ])
          refine wpAnyH_take (i := 24) (oi := { dst := some 90, op := Op.fieldAddr 37 (Operand.tmp 89) 4, type := 0, pos := _, after := #[{ on := 23, ground := Ground.data }, { on := 20, ground := Ground.guard }], guard := some (20, false) }) (v := ?vr2x25) rfl (by kernel_rfl) (by kernel_rfl) (by kernel_rfl) (fun _ _ _ h => h) (Or.inl ⟨by rfl, ?yr2x25⟩) (by assumption) ?rr2x25
          case yr2x25 => (intro w' hSw; (try dsimp only at hSw); go_simp; (try with_reducible rfl))
          refine wpAnyH_take (i := 25) (oi := { dst := some 91, op := Op.load 3 (Operand.tmp 90), type := 3, pos := _, after := #[{ on := 24, ground := Ground.data }, { on := 20, ground := Ground.guard }], guard := some (20, false) }) (v := ?vr2x26) rfl (by kernel_rfl) (by kernel_rfl) (by kernel_rfl) (fun _ _ _ h => h) (Or.inl ⟨by rfl, ?yr2x26⟩) (by assumption) ?rr2x26
          case yr2x26 => (intro w' hSw; (try dsimp only at hSw); go_simp; (try with_reducible rfl))
          refine wpAnyH_take (i := 26) (oi := { dst := some 92, op := Op.move (Operand.tmp 6), type := 3, pos := _, after := #[{ on := 20, ground := Ground.guard }], guard := some (20, false) }) (v := ?vr2x27) rfl (by kernel_rfl) (by kernel_rfl) (by kernel_rfl) (fun _ _ _ h => h) (Or.inl ⟨by rfl, ?yr2x27⟩) (by assumption) ?rr2x27
          case yr2x27 => (intro w' hSw; (try dsimp only at hSw); go_simp; (try with_reducible rfl))
          (try simp only [Act.put, List.setIfInBounds_toArray, List.set_cons_zero, List.set_cons_succ])
          refine wpAnyH_take (i := 27) (oi := { dst := some 93, op := Op.binOp BinOp.lss 3 (Operand.tmp 91) (Operand.tmp 92) 3, type := 4, pos := _, after := #[{ on := 25, ground := Ground.data }, { on := 26, ground := Ground.data }, { on := 20, ground := Ground.guard }], guard := some (20, false) }) (v := ?vr2x28) rfl (by kernel_rfl) (by kernel_rfl) (by kernel_rfl) (fun _ _ _ h => h) (Or.inl ⟨by rfl, ?yr2x28⟩) (by assumption) ?rr2x28
          case yr2x28 => (intro w' hSw; (try dsimp only at hSw); go_simp; (try with_reducible rfl))
          refine wpAnyH_take (i := 28) (oi := { dst := some 94, op := Op.pick (Operand.tmp 86) (Operand.const (Value.bool true)) (Operand.tmp 93), type := 4, pos := _, after := #[{ on := 20, ground := Ground.data }, { on := 27, ground := Ground.data }], guard := none }) (v := ?vr2x29) rfl (by kernel_rfl) (by kernel_rfl) (by kernel_rfl) (fun _ _ _ h => h) (Or.inl ⟨by rfl, ?yr2x29⟩) (by assumption) ?rr2x29
          case yr2x29 => (intro w' hSw; (try dsimp only at hSw); go_simp; (try with_reducible rfl))
          refine wpAnyH_take (i := 29) (oi := { dst := some 95, op := Op.move (Operand.tmp 94), type := 4, pos := _, after := #[{ on := 28, ground := Ground.data }, { on := 20, ground := Ground.chain }], guard := none }) (v := ?vr2x30) rfl (by kernel_rfl) (by kernel_rfl) (by kernel_rfl) (fun _ _ _ h => h) (Or.inl ⟨by rfl, ?yr2x30⟩) (by assumption) ?rr2x30
          case yr2x30 => (intro w' hSw; (try dsimp only at hSw); go_simp; (try with_reducible rfl))
          (try simp only [Act.put, List.setIfInBounds_toArray, List.set_cons_zero, List.set_cons_succ])
          refine wpAnyH_take (i := 30) (oi := { dst := some 96, op := Op.move (Operand.tmp 11), type := 25, pos := _, after := #[{ on := 29, ground := Ground.guard }], guard := some (29, false) }) (v := ?vr2x31) rfl (by kernel_rfl) (by kernel_rfl) (by kernel_rfl) (fun _ _ _ h => h) (Or.inl ⟨by rfl, ?yr2x31⟩) (by assumption) ?rr2x31
          case yr2x31 => (intro w' hSw; (try dsimp only at hSw); go_simp; (try with_reducible rfl))
          refine wpAnyH_take (i := 31) (oi := { dst := some 97, op := Op.move (Operand.tmp 12), type := 3, pos := _, after := #[{ on := 29, ground := Ground.guard }], guard := some (29, false) }) (v := ?vr2x32) rfl (by kernel_rfl) (by kernel_rfl) (by kernel_rfl) (fun _ _ _ h => h) (Or.inl ⟨by rfl, ?yr2x32⟩) (by assumption) ?rr2x32
          case yr2x32 => (intro w' hSw; (try dsimp only at hSw); go_simp; (try with_reducible rfl))
          refine wpAnyH_take (i := 32) (oi := { dst := some 98, op := Op.indexAddr 25 (Operand.tmp 96) (Operand.tmp 97), type := 0, pos := _, after := #[{ on := 30, ground := Ground.data }, { on := 31, ground := Ground.data }, { on := 29, ground := Ground.guard }], guard := some (29, false) }) (v := ?vr2x33) rfl (by kernel_rfl) (by kernel_rfl) (by kernel_rfl) (fun _ _ _ h => h) (Or.inl ⟨by rfl, ?yr2x33⟩) (by assumption) ?rr2x33
          case yr2x33 => (intro w' hSw; (try dsimp only at hSw); go_simp; (try with_reducible rfl))
          (try simp only [Act.put, List.setIfInBounds_toArray, List.set_cons_zero, List.set_cons_succ])
          refine wpAnyH_take (i := 33) (oi := { dst := some 99, op := Op.fieldAddr 37 (Operand.tmp 98) 5, type := 0, pos := _, after := #[{ on := 32, ground := Ground.data }, { on := 29, ground := Ground.guard }], guard := some (29, false) }) (v := ?vr2x34) rfl (by kernel_rfl) (by kernel_rfl) (by kernel_rfl) (fun _ _ _ h => h) (Or.inl ⟨by rfl, ?yr2x34⟩) (by assumption) ?rr2x34
          case yr2x34 => (intro w' hSw; (try dsimp only at hSw); go_simp; (try with_reducible rfl))
          refine wpAnyH_take (i := 34) (oi := { dst := some 100, op := Op.load 35 (Operand.tmp 99), type := 35, pos := _, after := #[{ on := 33, ground := Ground.data }, { on := 29, ground := Ground.guard }], guard := some (29, false) }) (v := ?vr2x35) rfl (by kernel_rfl) (by kernel_rfl) (by kernel_rfl) (fun _ _ _ h => h) (Or.inl ⟨by rfl, ?yr2x35⟩) (by assumption) ?rr2x35
          case yr2x35 => (intro w' hSw; (try dsimp only at hSw); go_simp; (try with_reducible rfl))
          refine wpAnyH_take (i := 35) (oi := { dst := some 101, op := Op.move (Operand.tmp 7), type := 26, pos := _, after := #[{ on := 29, ground := Ground.guard }], guard := some (29, false) }) (v := ?vr2x36) rfl (by kernel_rfl) (by kernel_rfl) (by kernel_rfl) (fun _ _ _ h => h) (Or.inl ⟨by rfl, ?yr2x36⟩) (by assumption) ?rr2x36
          case yr2x36 => (intro w' hSw; (try dsimp only at hSw); go_simp; (try with_reducible rfl))
          (try simp only [Act.put, List.setIfInBounds_toArray, List.set_cons_zero, List.set_cons_succ])
          refine wpAnyH_ready (rs := [36]) (by kernel_rfl) (by simp) ?_
          refine AllReadyH.cons (o := { dst := some 102, op := Op.call { callee := Callee.value (Operand.func 13), args := #[Operand.tmp 100, Operand.tmp 101], argTypes := #[35, 26] }, type := 4, pos := _, after := #[{ on := 34, ground := Ground.data }, { on := 35, ground := Ground.data }, { on := 29, ground := Ground.chain }, { on := 29, ground := Ground.guard }], guard := some (29, false) }) rfl (fun K hK => ?_) AllReadyH.nil
          go_simp
          refine (HHO.out _ (by first | exact (by assumption : Hid (Below wr.heap.size wr _) ∧ _).1.out | exact Below.refl _ _ | exact (Below.refl _ _).drew)).mono ?_; rintro e w' ⟨rfl, hb⟩; have hle := hold_le (by assumption) hb
          (try go_wp2_with fail)
          refine hK.out _ _ ?_ (fun hHeld => ?_)
          · (try dsimp only); first | assumption | exact hold5 e0 e3 e4 e5 hic (hold_call (by assumption) (by assumption))
          clear hK K
          (try simp only [Act.put, List.setIfInBounds_toArray, List.set_cons_zero, List.set_cons_succ])
          refine wpAnyH_take (i := 37) (oi := { dst := some 103, op := Op.unOp UnOp.not 4 (Operand.tmp 102), type := 4, pos := _, after := #[{ on := 36, ground := Ground.data }, { on := 29, ground := Ground.guard }], guard := some (29, false) }) (v := ?vr2x37) rfl (by kernel_rfl) (by kernel_rfl) (by kernel_rfl) (fun _ _ _ h => h) (Or.inl ⟨by rfl, ?yr2x37⟩) (by assumption) ?rr2x37
          case yr2x37 => (intro w' hSw; (try dsimp only at hSw); go_simp; (try with_reducible rfl))
          refine wpAnyH_take (i := 38) (oi := { dst := some 104, op := Op.pick (Operand.tmp 95) (Operand.const (Value.bool true)) (Operand.tmp 103), type := 4, pos := _, after := #[{ on := 29, ground := Ground.data }, { on := 37, ground := Ground.data }], guard := none }) (v := ?vr2x38) rfl (by kernel_rfl) (by kernel_rfl) (by kernel_rfl) (fun _ _ _ h => h) (Or.inl ⟨by rfl, ?yr2x38⟩) (by assumption) ?rr2x38
          case yr2x38 => (intro w' hSw; (try dsimp only at hSw); go_simp; (try with_reducible rfl))
          (try simp only [Act.put, List.setIfInBounds_toArray, List.set_cons_zero, List.set_cons_succ])
          refine wpAnyH_done (by kernel_rfl) ?_ _
          have hS := (by assumption : Hid (Below wr.heap.size wr _) ∧ _)
          have HB9 := Lib.hid (HBX.out.trans (hS.1.out.mono HBX.out.size))
          go_wp2_with fail
          go_roundw
          case rel => exact ⟨m + 1, true, by have := HLJ.out; omega, by go_num, rfl, HF2, HB9⟩
          case measure => have := HLJ.out; simp [intOf]; omega
        · have HF2 : Hid (false = (ys.take (m + 1)).any (fun x => decide (x.prt = s))) := Lib.hid (by rw [HTJ.out, ← HF.out, decide_eq_false hp2]; rfl)
          have hq2 := str_ne hp2
          clear hp2
          go_upto_region 14 with fail
          clear e1
          refine wp_region_held_drew (S := (fun W' => Hid (Below wr.heap.size wr W') ∧ W'.cell? ⟨b2, o2 + m * 6, none⟩ = some (.string x.par) ∧ W'.cell? ⟨b2, o2 + m * 6 + 3, none⟩ = some (.int .i64 x.fr) ∧ W'.cell? ⟨b2, o2 + m * 6 + 4, none⟩ = some (.int .i64 x.un) ∧ W'.cell? ⟨b2, o2 + m * 6 + 5, none⟩ = some (.slice sa5 x.whn.length sc5) ∧ W'.cell? ⟨b3, o3 + k * 8, none⟩ = some (.string it.code))) (by kernel_rfl) (hold5 e0 e3 e4 e5 hic (Below.refl _ _).drew) (fun hHeld => ?_)
          refine wpAnyH_take (i := 0) (oi := { dst := some 66, op := Op.move (Operand.tmp 11), type := 25, pos := _, after := #[], guard := none }) (v := ?vr3x1) rfl (by kernel_rfl) (by kernel_rfl) (by kernel_rfl) (fun _ _ _ h => h) (Or.inl ⟨by rfl, ?yr3x1⟩) (by assumption) ?rr3x1
          case yr3x1 => (intro w' hSw; (try dsimp only at hSw); go_simp; (try with_reducible rfl))
          refine wpAnyH_take (i := 1) (oi := { dst := some 67, op := Op.move (Operand.tmp 12), type := 3, pos := _, after := #[], guard := none }) (v := ?vr3x2) rfl (by kernel_rfl) (by kernel_rfl) (by kernel_rfl) (fun _ _ _ h => h) (Or.inl ⟨by rfl, ?yr3x2⟩) (by assumption) ?rr3x2
          case yr3x2 => (intro w' hSw; (try dsimp only at hSw); go_simp; (try with_reducible rfl))
          refine wpAnyH_take (i := 2) (oi := { dst := some 68, op := Op.indexAddr 25 (Operand.tmp 66) (Operand.tmp 67), type := 0, pos := _, after := #[{ on := 0, ground := Ground.data }, { on := 1, ground := Ground.data }], guard := none }) (v := ?vr3x3) rfl (by kernel_rfl) (by kernel_rfl) (by kernel_rfl) (fun _ _ _ h => h) (Or.inl ⟨by rfl, ?yr3x3⟩) (by assumption) ?rr3x3
          case yr3x3 => (intro w' hSw; (try dsimp only at hSw); go_simp; (try with_reducible rfl))
          (try simp only [Act.put, List.setIfInBounds_toArray, List.set_cons_zero, List.set_cons_succ])
          refine wpAnyH_take (i := 3) (oi := { dst := some 69, op := Op.fieldAddr 37 (Operand.tmp 68) 0, type := 0, pos := _, after := #[{ on := 2, ground := Ground.data }], guard := none }) (v := ?vr3x4) rfl (by kernel_rfl) (by kernel_rfl) (by kernel_rfl) (fun _ _ _ h => h) (Or.inl ⟨by rfl, ?yr3x4⟩) (by assumption) ?rr3x4
          case yr3x4 => (intro w' hSw; (try dsimp only at hSw); go_simp; (try with_reducible rfl))
          refine wpAnyH_take (i := 4) (oi := { dst := some 70, op := Op.load 9 (Operand.tmp 69), type := 9, pos := _, after := #[{ on := 3, ground := Ground.data }], guard := none }) (v := ?vr3x5) rfl (by kernel_rfl) (by kernel_rfl) (by kernel_rfl) (fun _ _ _ h => h) (Or.inl ⟨by rfl, ?yr3x5⟩) (by assumption) ?rr3x5
          case yr3x5 => (intro w' hSw; (try dsimp only at hSw); go_simp; (try with_reducible rfl))
          refine wpAnyH_take (i := 5) (oi := { dst := some 71, op := Op.move (Operand.tmp 3), type := 24, pos := _, after := #[], guard := none }) (v := ?vr3x6) rfl (by kernel_rfl) (by kernel_rfl) (by kernel_rfl) (fun _ _ _ h => h) (Or.inl ⟨by rfl, ?yr3x6⟩) (by assumption) ?rr3x6
          case yr3x6 => (intro w' hSw; (try dsimp only at hSw); go_simp; (try with_reducible rfl))
          (try simp only [Act.put, List.setIfInBounds_toArray, List.set_cons_zero, List.set_cons_succ])
          refine wpAnyH_take (i := 6) (oi := { dst := some 72, op := Op.move (Operand.tmp 9), type := 3, pos := _, after := #[], guard := none }) (v := ?vr3x7) rfl (by kernel_rfl) (by kernel_rfl) (by kernel_rfl) (fun _ _ _ h => h) (Or.inl ⟨by rfl, ?yr3x7⟩) (by assumption) ?rr3x7
          case yr3x7 => (intro w' hSw; (try dsimp only at hSw); go_simp; (try with_reducible rfl))
          refine wpAnyH_take (i := 7) (oi := { dst := some 73, op := Op.indexAddr 24 (Operand.tmp 71) (Operand.tmp 72), type := 0, pos := _, after := #[{ on := 5, ground := Ground.data }, { on := 6, ground := Ground.data }], guard := none }) (v := ?vr3x8) rfl (by kernel_rfl) (by kernel_rfl) (by kernel_rfl) (fun _ _ _ h => h) (Or.inl ⟨by rfl, ?yr3x8⟩) (by assumption) ?rr3x8
          case yr3x8 => (intro w' hSw; (try dsimp only at hSw); go_simp; (try with_reducible rfl))
          refine wpAnyH_take (i := 8) (oi := { dst := some 74, op := Op.fieldAddr 34 (Operand.tmp 73) 0, type := 0, pos := _, after := #[{ on := 7, ground := Ground.data }], guard := none }) (v := ?vr3x9) rfl (by kernel_rfl) (by kernel_rfl) (by kernel_rfl) (fun _ _ _ h => h) (Or.inl ⟨by rfl, ?yr3x9⟩) (by assumption) ?rr3x9
          case yr3x9 => (intro w' hSw; (try dsimp only at hSw); go_simp; (try with_reducible rfl))
          (try simp only [Act.put, List.setIfInBounds_toArray, List.set_cons_zero, List.set_cons_succ])
          refine wpAnyH_take (i := 9) (oi := { dst := some 75, op := Op.load 9 (Operand.tmp 74), type := 9, pos := _, after := #[{ on := 8, ground := Ground.data }], guard := none }) (v := ?vr3x10) rfl (by kernel_rfl) (by kernel_rfl) (by kernel_rfl) (fun _ _ _ h => h) (Or.inl ⟨by rfl, ?yr3x10⟩) (by assumption) ?rr3x10
          case yr3x10 => (intro w' hSw; (try dsimp only at hSw); go_simp; (try with_reducible rfl))
          refine wpAnyH_take (i := 10) (oi := { dst := some 76, op := Op.binOp BinOp.neq 9 (Operand.tmp 70) (Operand.tmp 75) 9, type := 4, pos := _, after := #[{ on := 4, ground := Ground.data }, { on := 9, ground := Ground.data }], guard := none }) (v := ?vr3x11) rfl (by kernel_rfl) (by kernel_rfl) (by kernel_rfl) (fun _ _ _ h => h) (Or.inl ⟨by rfl, ?yr3x11⟩) (by assumption) ?rr3x11
          case yr3x11 => (intro w' hSw; (try dsimp only at hSw); go_simp; (try with_reducible rfl))
          refine wpAnyH_take (i := 11) (oi := { dst := some 77, op := Op.move (Operand.tmp 76), type := 4, pos := _, after := #[{ on := 10, ground := Ground.data }], guard := none }) (v := ?vr3x12) rfl (by kernel_rfl) (by kernel_rfl) (by kernel_rfl) (fun _ _ _ h => h) (Or.inl ⟨by rfl, ?yr3x12⟩) (by assumption) ?rr3x12
          case yr3x12 => (intro w' hSw; (try dsimp only at hSw); go_simp; (try with_reducible rfl))
          (try simp only [Act.put, List.setIfInBounds_toArray, List.set_cons_zero, List.set_cons_succ])
          refine wpAnyH_take (i := 12) (oi := { dst := some 78, op := Op.move (Operand.tmp 11), type := 25, pos := _, after := #[{ on := 11, ground := Ground.guard }], guard := some (11, false) }) (v := ?vr3x13) rfl (by kernel_rfl) (by kernel_rfl) (by kernel_rfl) (fun _ _ _ h => h) (Or.inl ⟨by rfl, ?yr3x13⟩) (by assumption) ?rr3x13
          case yr3x13 => (intro w' hSw; (try dsimp only at hSw); go_simp; (try with_reducible rfl))
          refine wpAnyH_take (i := 13) (oi := { dst := some 79, op := Op.move (Operand.tmp 12), type := 3, pos := _, after := #[{ on := 11, ground := Ground.guard }], guard := some (11, false) }) (v := ?vr3x14) rfl (by kernel_rfl) (by kernel_rfl) (by kernel_rfl) (fun _ _ _ h => h) (Or.inl ⟨by rfl, ?yr3x14⟩) (by assumption) ?rr3x14
          case yr3x14 => (intro w' hSw; (try dsimp only at hSw); go_simp; (try with_reducible rfl))
          refine wpAnyH_take (i := 14) (oi := { dst := some 80, op := Op.indexAddr 25 (Operand.tmp 78) (Operand.tmp 79), type := 0, pos := _, after := #[{ on := 12, ground := Ground.data }, { on := 13, ground := Ground.data }, { on := 11, ground := Ground.guard }], guard := some (11, false) }) (v := ?vr3x15) rfl (by kernel_rfl) (by kernel_rfl) (by kernel_rfl) (fun _ _ _ h => h) (Or.inl ⟨by rfl, ?yr3x15⟩) (by assumption) ?rr3x15
          case yr3x15 => (intro w' hSw; (try dsimp only at hSw); go_simp; (try with_reducible rfl))
          (try simp only [Act.put, List.setIfInBounds_toArray, List.set_cons_zero, List.set_cons_succ])
          refine wpAnyH_take (i := 15) (oi := { dst := some 81, op := Op.fieldAddr 37 (Operand.tmp 80) 3, type := 0, pos := _, after := #[{ on := 14, ground := Ground.data }, { on := 11, ground := Ground.guard }], guard := some (11, false) }) (v := ?vr3x16) rfl (by kernel_rfl) (by kernel_rfl) (by kernel_rfl) (fun _ _ _ h => h) (Or.inl ⟨by rfl, ?yr3x16⟩) (by assumption) ?rr3x16
          case yr3x16 => (intro w' hSw; (try dsimp only at hSw); go_simp; (try with_reducible rfl))
          refine wpAnyH_take (i := 16) (oi := { dst := some 82, op := Op.load 3 (Operand.tmp 81), type := 3, pos := _, after := #[{ on := 15, ground := Ground.data }, { on := 11, ground := Ground.guard }], guard := some (11, false) }) (v := ?vr3x17) rfl (by kernel_rfl) (by kernel_rfl) (by kernel_rfl) (fun _ _ _ h => h) (Or.inl ⟨by rfl, ?yr3x17⟩) (by assumption) ?rr3x17
          case yr3x17 => (intro w' hSw; (try dsimp only at hSw); go_simp; (try with_reducible rfl))
          refine wpAnyH_take (i := 17) (oi := { dst := some 83, op := Op.move (Operand.tmp 6), type := 3, pos := _, after := #[{ on := 11, ground := Ground.guard }], guard := some (11, false) }) (v := ?vr3x18) rfl (by kernel_rfl) (by kernel_rfl) (by kernel_rfl) (fun _ _ _ h => h) (Or.inl ⟨by rfl, ?yr3x18⟩) (by assumption) ?rr3x18
          case yr3x18 => (intro w' hSw; (try dsimp only at hSw); go_simp; (try with_reducible rfl))
          (try simp only [Act.put, List.setIfInBounds_toArray, List.set_cons_zero, List.set_cons_succ])
          refine wpAnyH_take (i := 18) (oi := { dst := some 84, op := Op.binOp BinOp.gtr 3 (Operand.tmp 82) (Operand.tmp 83) 3, type := 4, pos := _, after := #[{ on := 16, ground := Ground.data }, { on := 17, ground := Ground.data }, { on := 11, ground := Ground.guard }], guard := some (11, false) }) (v := ?vr3x19) rfl (by kernel_rfl) (by kernel_rfl) (by kernel_rfl) (fun _ _ _ h => h) (Or.inl ⟨by rfl, ?yr3x19⟩) (by assumption) ?rr3x19
          case yr3x19 => (intro w' hSw; (try dsimp only at hSw); go_simp; (try with_reducible rfl))
          refine wpAnyH_take (i := 19) (oi := { dst := some 85, op := Op.pick (Operand.tmp 77) (Operand.const (Value.bool true)) (Operand.tmp 84), type := 4, pos := _, after := #[{ on := 11, ground := Ground.data }, { on := 18, ground := Ground.data }], guard := none }) (v := ?vr3x20) rfl (by kernel_rfl) (by kernel_rfl) (by kernel_rfl) (fun _ _ _ h => h) (Or.inl ⟨by rfl, ?yr3x20⟩) (by assumption) ?rr3x20
          case yr3x20 => (intro w' hSw; (try dsimp only at hSw); go_simp; (try with_reducible rfl))
          refine wpAnyH_take (i := 20) (oi := { dst := some 86, op := Op.move (Operand.tmp 85), type := 4, pos := _, after := #[{ on := 19, ground := Ground.data }, { on := 11, ground := Ground.chain }], guard := none }) (v := ?vr3x21) rfl (by kernel_rfl) (by kernel_rfl) (by kernel_rfl) (fun _ _ _ h => h) (Or.inl ⟨by rfl, ?yr3x21⟩) (by assumption) ?rr3x21
          case yr3x21 => (intro w' hSw; (try dsimp only at hSw); go_simp; (try with_reducible rfl))
          (try simp only [Act.put, List.setIfInBounds_toArray, List.set_cons_zero, List.set_cons_succ])
          refine wpAnyH_take (i := 21) (oi := { dst := some 87, op := Op.move (Operand.tmp 11), type := 25, pos := _, after := #[{ on := 20, ground := Ground.guard }], guard := some (20, false) }) (v := ?vr3x22) rfl (by kernel_rfl) (by kernel_rfl) (by kernel_rfl) (fun _ _ _ h => h) (Or.inl ⟨by rfl, ?yr3x22⟩) (by assumption) ?rr3x22
          case yr3x22 => (intro w' hSw; (try dsimp only at hSw); go_simp; (try with_reducible rfl))
          refine wpAnyH_take (i := 22) (oi := { dst := some 88, op := Op.move (Operand.tmp 12), type := 3, pos := _, after := #[{ on := 20, ground := Ground.guard }], guard := some (20, false) }) (v := ?vr3x23) rfl (by kernel_rfl) (by kernel_rfl) (by kernel_rfl) (fun _ _ _ h => h) (Or.inl ⟨by rfl, ?yr3x23⟩) (by assumption) ?rr3x23
          case yr3x23 => (intro w' hSw; (try dsimp only at hSw); go_simp; (try with_reducible rfl))
          refine wpAnyH_take (i := 23) (oi := { dst := some 89, op := Op.indexAddr 25 (Operand.tmp 87) (Operand.tmp 88), type := 0, pos := _, after := #[{ on := 21, ground := Ground.data }, { on := 22, ground := Ground.data }, { on := 20, ground := Ground.guard }], guard := some (20, false) }) (v := ?vr3x24) rfl (by kernel_rfl) (by kernel_rfl) (by kernel_rfl) (fun _ _ _ h => h) (Or.inl ⟨by rfl, ?yr3x24⟩) (by assumption) ?rr3x24
          case yr3x24 => (intro w' hSw; (try dsimp only at hSw); go_simp; (try with_reducible rfl))
          (try simp only [Act.put, List.setIfInBounds_toArray, List.set_cons_zero, List.set_cons_succ])
          refine wpAnyH_take (i := 24) (oi := { dst := some 90, op := Op.fieldAddr 37 (Operand.tmp 89) 4, type := 0, pos := _, after := #[{ on := 23, ground := Ground.data }, { on := 20, ground := Ground.guard }], guard := some (20, false) }) (v := ?vr3x25) rfl (by kernel_rfl) (by kernel_rfl) (by kernel_rfl) (fun _ _ _ h => h) (Or.inl ⟨by rfl, ?yr3x25⟩) (by assumption) ?rr3x25
          case yr3x25 => (intro w' hSw; (try dsimp only at hSw); go_simp; (try with_reducible rfl))
          refine wpAnyH_take (i := 25) (oi := { dst := some 91, op := Op.load 3 (Operand.tmp 90), type := 3, pos := _, after := #[{ on := 24, ground := Ground.data }, { on := 20, ground := Ground.guard }], guard := some (20, false) }) (v := ?vr3x26) rfl (by kernel_rfl) (by kernel_rfl) (by kernel_rfl) (fun _ _ _ h => h) (Or.inl ⟨by rfl, ?yr3x26⟩) (by assumption) ?rr3x26
          case yr3x26 => (intro w' hSw; (try dsimp only at hSw); go_simp; (try with_reducible rfl))
          refine wpAnyH_take (i := 26) (oi := { dst := some 92, op := Op.move (Operand.tmp 6), type := 3, pos := _, after := #[{ on := 20, ground := Ground.guard }], guard := some (20, false) }) (v := ?vr3x27) rfl (by kernel_rfl) (by kernel_rfl) (by kernel_rfl) (fun _ _ _ h => h) (Or.inl ⟨by rfl, ?yr3x27⟩) (by assumption) ?rr3x27
          case yr3x27 => (intro w' hSw; (try dsimp only at hSw); go_simp; (try with_reducible rfl))
          (try simp only [Act.put, List.setIfInBounds_toArray, List.set_cons_zero, List.set_cons_succ])
          refine wpAnyH_take (i := 27) (oi := { dst := some 93, op := Op.binOp BinOp.lss 3 (Operand.tmp 91) (Operand.tmp 92) 3, type := 4, pos := _, after := #[{ on := 25, ground := Ground.data }, { on := 26, ground := Ground.data }, { on := 20, ground := Ground.guard }], guard := some (20, false) }) (v := ?vr3x28) rfl (by kernel_rfl) (by kernel_rfl) (by kernel_rfl) (fun _ _ _ h => h) (Or.inl ⟨by rfl, ?yr3x28⟩) (by assumption) ?rr3x28
          case yr3x28 => (intro w' hSw; (try dsimp only at hSw); go_simp; (try with_reducible rfl))
          refine wpAnyH_take (i := 28) (oi := { dst := some 94, op := Op.pick (Operand.tmp 86) (Operand.const (Value.bool true)) (Operand.tmp 93), type := 4, pos := _, after := #[{ on := 20, ground := Ground.data }, { on := 27, ground := Ground.data }], guard := none }) (v := ?vr3x29) rfl (by kernel_rfl) (by kernel_rfl) (by kernel_rfl) (fun _ _ _ h => h) (Or.inl ⟨by rfl, ?yr3x29⟩) (by assumption) ?rr3x29
          case yr3x29 => (intro w' hSw; (try dsimp only at hSw); go_simp; (try with_reducible rfl))
          refine wpAnyH_take (i := 29) (oi := { dst := some 95, op := Op.move (Operand.tmp 94), type := 4, pos := _, after := #[{ on := 28, ground := Ground.data }, { on := 20, ground := Ground.chain }], guard := none }) (v := ?vr3x30) rfl (by kernel_rfl) (by kernel_rfl) (by kernel_rfl) (fun _ _ _ h => h) (Or.inl ⟨by rfl, ?yr3x30⟩) (by assumption) ?rr3x30
          case yr3x30 => (intro w' hSw; (try dsimp only at hSw); go_simp; (try with_reducible rfl))
          (try simp only [Act.put, List.setIfInBounds_toArray, List.set_cons_zero, List.set_cons_succ])
          refine wpAnyH_take (i := 30) (oi := { dst := some 96, op := Op.move (Operand.tmp 11), type := 25, pos := _, after := #[{ on := 29, ground := Ground.guard }], guard := some (29, false) }) (v := ?vr3x31) rfl (by kernel_rfl) (by kernel_rfl) (by kernel_rfl) (fun _ _ _ h => h) (Or.inl ⟨by rfl, ?yr3x31⟩) (by assumption) ?rr3x31
          case yr3x31 => (intro w' hSw; (try dsimp only at hSw); go_simp; (try with_reducible rfl))
          refine wpAnyH_take (i := 31) (oi := { dst := some 97, op := Op.move (Operand.tmp 12), type := 3, pos := _, after := #[{ on := 29, ground := Ground.guard }], guard := some (29, false) }) (v := ?vr3x32) rfl (by kernel_rfl) (by kernel_rfl) (by kernel_rfl) (fun _ _ _ h => h) (Or.inl ⟨by rfl, ?yr3x32⟩) (by assumption) ?rr3x32
          case yr3x32 => (intro w' hSw; (try dsimp only at hSw); go_simp; (try with_reducible rfl))
          refine wpAnyH_take (i := 32) (oi := { dst := some 98, op := Op.indexAddr 25 (Operand.tmp 96) (Operand.tmp 97), type := 0, pos := _, after := #[{ on := 30, ground := Ground.data }, { on := 31, ground := Ground.data }, { on := 29, ground := Ground.guard }], guard := some (29, false) }) (v := ?vr3x33) rfl (by kernel_rfl) (by kernel_rfl) (by kernel_rfl) (fun _ _ _ h => h) (Or.inl ⟨by rfl, ?yr3x33⟩) (by assumption) ?rr3x33
          case yr3x33 => (intro w' hSw; (try dsimp only at hSw); go_simp; (try with_reducible rfl))
          (try simp only [Act.put, List.setIfInBounds_toArray, List.set_cons_zero, List.set_cons_succ])
          refine wpAnyH_take (i := 33) (oi := { dst := some 99, op := Op.fieldAddr 37 (Operand.tmp 98) 5, type := 0, pos := _, after := #[{ on := 32, ground := Ground.data }, { on := 29, ground := Ground.guard }], guard := some (29, false) }) (v := ?vr3x34) rfl (by kernel_rfl) (by kernel_rfl) (by kernel_rfl) (fun _ _ _ h => h) (Or.inl ⟨by rfl, ?yr3x34⟩) (by assumption) ?rr3x34
          case yr3x34 => (intro w' hSw; (try dsimp only at hSw); go_simp; (try with_reducible rfl))
          refine wpAnyH_take (i := 34) (oi := { dst := some 100, op := Op.load 35 (Operand.tmp 99), type := 35, pos := _, after := #[{ on := 33, ground := Ground.data }, { on := 29, ground := Ground.guard }], guard := some (29, false) }) (v := ?vr3x35) rfl (by kernel_rfl) (by kernel_rfl) (by kernel_rfl) (fun _ _ _ h => h) (Or.inl ⟨by rfl, ?yr3x35⟩) (by assumption) ?rr3x35
          case yr3x35 => (intro w' hSw; (try dsimp only at hSw); go_simp; (try with_reducible rfl))
          refine wpAnyH_take (i := 35) (oi := { dst := some 101, op := Op.move (Operand.tmp 7), type := 26, pos := _, after := #[{ on := 29, ground := Ground.guard }], guard := some (29, false) }) (v := ?vr3x36) rfl (by kernel_rfl) (by kernel_rfl) (by kernel_rfl) (fun _ _ _ h => h) (Or.inl ⟨by rfl, ?yr3x36⟩) (by assumption) ?rr3x36
          case yr3x36 => (intro w' hSw; (try dsimp only at hSw); go_simp; (try with_reducible rfl))
          (try simp only [Act.put, List.setIfInBounds_toArray, List.set_cons_zero, List.set_cons_succ])
          refine wpAnyH_ready (rs := [36]) (by kernel_rfl) (by simp) ?_
          refine AllReadyH.cons (o := { dst := some 102, op := Op.call { callee := Callee.value (Operand.func 13), args := #[Operand.tmp 100, Operand.tmp 101], argTypes := #[35, 26] }, type := 4, pos := _, after := #[{ on := 34, ground := Ground.data }, { on := 35, ground := Ground.data }, { on := 29, ground := Ground.chain }, { on := 29, ground := Ground.guard }], guard := some (29, false) }) rfl (fun K hK => ?_) AllReadyH.nil
          go_simp
          refine (HHO.out _ (by first | exact (by assumption : Hid (Below wr.heap.size wr _) ∧ _).1.out | exact Below.refl _ _ | exact (Below.refl _ _).drew)).mono ?_; rintro e w' ⟨rfl, hb⟩; have hle := hold_le (by assumption) hb
          (try go_wp2_with fail)
          refine hK.out _ _ ?_ (fun hHeld => ?_)
          · (try dsimp only); first | assumption | exact hold5 e0 e3 e4 e5 hic (hold_call (by assumption) (by assumption))
          clear hK K
          (try simp only [Act.put, List.setIfInBounds_toArray, List.set_cons_zero, List.set_cons_succ])
          refine wpAnyH_take (i := 37) (oi := { dst := some 103, op := Op.unOp UnOp.not 4 (Operand.tmp 102), type := 4, pos := _, after := #[{ on := 36, ground := Ground.data }, { on := 29, ground := Ground.guard }], guard := some (29, false) }) (v := ?vr3x37) rfl (by kernel_rfl) (by kernel_rfl) (by kernel_rfl) (fun _ _ _ h => h) (Or.inl ⟨by rfl, ?yr3x37⟩) (by assumption) ?rr3x37
          case yr3x37 => (intro w' hSw; (try dsimp only at hSw); go_simp; (try with_reducible rfl))
          refine wpAnyH_take (i := 38) (oi := { dst := some 104, op := Op.pick (Operand.tmp 95) (Operand.const (Value.bool true)) (Operand.tmp 103), type := 4, pos := _, after := #[{ on := 29, ground := Ground.data }, { on := 37, ground := Ground.data }], guard := none }) (v := ?vr3x38) rfl (by kernel_rfl) (by kernel_rfl) (by kernel_rfl) (fun _ _ _ h => h) (Or.inl ⟨by rfl, ?yr3x38⟩) (by assumption) ?rr3x38
          case yr3x38 => (intro w' hSw; (try dsimp only at hSw); go_simp; (try with_reducible rfl))
          (try simp only [Act.put, List.setIfInBounds_toArray, List.set_cons_zero, List.set_cons_succ])
          refine wpAnyH_done (by kernel_rfl) ?_ _
          have hS := (by assumption : Hid (Below wr.heap.size wr _) ∧ _)
          have HB9 := Lib.hid (HBX.out.trans (hS.1.out.mono HBX.out.size))
          go_wp2_with fail
          go_roundw
          case rel => exact ⟨m + 1, false, by have := HLJ.out; omega, by go_num, rfl, HF2, HB9⟩
          case measure => have := HLJ.out; simp [intOf]; omega
end Go.Proofs.Ytmnncinpepeocaa
