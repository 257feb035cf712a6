/-
  The walks of the laws on units, where the program's functions and the draws keep their contracts.
-/
import Derived.Test.YtaomjggamamckaaRows
import Derived.Test.YtaomjggamamckaaRules
import Derived.Test.YtaomjggamamckaaUnitLib
import Derived.Test.YtaomjggamamckaaUnitSpec
import Derived.Test.YtaomjggamamckaaConvSpec
import Derived.Test.YtaomjggamamckaaUnitFacts
import Derived.Test.YtaomjggamamckaaUnitEx
import Derived.Test.YtaomjggamamckaaTab
import Derived.Test.YtaomjggamamckaaDraw
import Derived.Test.YtaomjggamamckaaLawBig
import Derived.Test.YtaomjggamamckaaHold
import Derived.WalkKit
import Derived.WalkSpells
import Derived.WalkSmall
import Derived.BigQuiet
import Derived.Deep.DeepCutAuto
import Derived.Deep.QuietTactic
import Derived.Deep.RegionHeld3
import Derived.Lib.Hide
namespace Go.Proofs.Ytaomjggamamckaa
open Go.RowKit

/-- A table and two units, drawn. -/
def DrewU (w : World) (e : Ending) (w' : World) : Prop := ∃ (v : Value) (rs : List UR) (x y : ByteArray), e = .returned (.tuple #[v, .string x, .string y]) ∧ TabArg w' v rs ∧ x.size ≤ maxLen ∧ y.size ≤ maxLen ∧ Below w.heap.size w w'
/-- .. and a number. -/
def DrewQ (w : World) (e : Ending) (w' : World) : Prop := ∃ (v : Value) (rs : List UR) (x y : ByteArray) (q : Int), e = .returned (.tuple #[v, .string x, .string y, .int .i64 q]) ∧ TabArg w' v rs ∧ x.size ≤ maxLen ∧ y.size ≤ maxLen ∧ Below w.heap.size w w'
def DrawFac : Prop := ∀ (a : Option Addr) (n c : Nat) (w : World), n ≤ 1048576 → CodeAt w.heap.size w a n → Calls Try.prog 11 #[.slice a n c] w (DrewU w)
def DrawCup : Prop := ∀ (a : Option Addr) (n c : Nat) (w : World), n ≤ 1048576 → CodeAt w.heap.size w a n → Calls Try.prog 18 #[.slice a n c] w (DrewQ w)

theorem mkR_11 : rat.mkR 1 1 = (1, 1) := rat.mkR_eq (by decide) (by decide) (by decide) (by decide) (by decide)
set_option maxRecDepth 100000 in
set_option maxHeartbeats 400000 in
theorem laws_whole1 (w : World) : Calls Try.prog 15 #[.int .i64 1] w fun e w' => e = .returned (.agg #[.int .i64 1, .int .i64 1]) ∧ Below w.heap.size w w' := by
  have HB : Below w.heap.size w (w.alloc (.cells #[.int .i64 0, .int .i64 0] 28)) := (Below.refl _ _).alloc (Nat.le_refl _) _
  have HR := heap_alloc_new w (.cells #[.int .i64 0, .int .i64 0] 28)
  go_enter Try.func15, Try.ntmps15
  go_wp2_with fail
  generalize w.alloc (.cells #[.int .i64 0, .int .i64 0] 28) = wa at *
  refine (rat.spec_make 1 1 _).mono ?_
  rintro e w2 ⟨x, y, rfl, hp, hb⟩
  have e2 := hp.out
  rw [mkR_11] at e2
  obtain ⟨rfl, rfl⟩ := Prod.mk.inj e2
  have HR2 := blk_below HR hb
  have HB2 := Lib.hid (HB.trans (hb.mono HB.size))
  clear hb hp e2 HR HB
  have q0 := cell_of_row _ _ 0 _ _ _ HR2
  have q1 := cell_of_row _ _ 1 _ _ _ HR2
  have f0 := frozen_of_row _ _ 0 _ _ HR2
  have f1 := frozen_of_row _ _ 1 _ _ HR2
  go_wp2_with fail
  exact bodyPost_ret (v := .agg #[.int .i64 1, .int .i64 1]) (results_cell_row Try.results15 _ _ _ _ _ _ _ rfl (blk_set2 HR2) Try.underlying28 rfl (by kernel_rfl)) rfl ⟨rfl, (HB2.out.setCell (Nat.le_refl _) _).setCell (Nat.le_refl _) _⟩

set_option maxRecDepth 100000 in
set_option maxHeartbeats 400000 in
theorem laws_has (v : Value) (ns : List ByteArray) (s : ByteArray) (b : Bool) (w : World) (h : Strs w v ns) (hm : ns.length ≤ 1048577) (hb' : b = true ↔ s ∈ ns) :
    Calls Try.prog 17 #[v, .string s] w fun e w' => e = .returned (.bool b) ∧ Below w.heap.size w w' := by
  have HX := Lib.hid h
  obtain ⟨a, c, rfl⟩ := h.slice
  have HBB := Lib.hid hb'
  clear h hb'
  go_enter Try.func17, Try.ntmps17
  go_wp2
  go_loopw [5] (fun i wr => ∃ k : Nat, k ≤ ns.length ∧ i = .int .i64 k ∧ Hid (∀ j, (hj : j < ns.length) → j < k → (ns[j]'hj) ≠ s) ∧ Below w.heap.size w wr) (fun i _ => ns.length - (intOf i).toNat)
  case atStart => exact ⟨0, Nat.zero_le _, rfl, Lib.hid (fun j _ h => by omega), Below.refl _ _⟩
  case round =>
    obtain ⟨k, hk, rfl, HN, hb⟩ := hrel
    by_cases hlt : k < ns.length
    · obtain ⟨b2, o2, c2, hv2, hc2, hcell⟩ := HX.out.some (by omega)
      simp only [Value.slice.injEq] at hv2
      obtain ⟨rfl, hl2, rfl⟩ := hv2
      clear hl2
      have e1 := (hcell.below hb).at k hlt
      by_cases he : (ns[k]'hlt) = s
      · have HF : Hid (b = true) := Lib.hid (HBB.out.2 (he ▸ List.getElem_mem hlt))
        go_wp2
        go_ret
        exact ⟨by rw [HF.out]; rfl, hb⟩
      · have HN2 : Hid (∀ j, (hj : j < ns.length) → j < k + 1 → (ns[j]'hj) ≠ s) := Lib.hid (fun j hj h1 => by
          by_cases e : j = k
          · subst e; exact he
          · exact HN.out j hj (by omega))
        have hbq := str_ne he
        clear he
        generalize ns[k]'hlt = x at *
        go_wp2
        go_roundw
        case rel => exact ⟨k + 1, by omega, by go_num, HN2, hb⟩
        case measure => simp [intOf]; omega
    · have HF : Hid (b = false) := Lib.hid (by
        cases hbb : b with
        | false => rfl
        | true =>
          obtain ⟨j, hj, e⟩ := List.getElem_of_mem (HBB.out.1 hbb)
          exact absurd e (HN.out j hj (by omega)))
      go_wp2
      go_ret
      exact ⟨by rw [HF.out]; rfl, hb⟩

set_option maxRecDepth 100000 in
set_option maxHeartbeats 4000000 in
theorem walk_FnConverts (IUP : ImplConvertUp) (IDN : ImplConvertDown) (DQ : DrawCup) (a : Option Addr) (n c : Nat) (w : World) (hm : n ≤ maxLen) (hcode : CodeAt w.heap.size w a n) :
    Calls Try.prog 4 #[.slice a n c] w fun e w' => e = .returned (.bool true) ∧ Below w.heap.size w w' := by
  unfold maxLen at hm
  have HCO := Lib.hid hcode
  have HU := Lib.hid IUP
  have HD := Lib.hid IDN
  have HQ := Lib.hid DQ
  clear hcode IUP IDN DQ
  by_cases hbig : 1048576 < n
  · have e0 : decide ((1048576 : Int) < (n : Int)) = true := decide_eq_true (by omega)
    go_enter Try.func4, Try.ntmps4
    go_wp2_with fail
    refine (laws_big a n c _).mono ?_
    rintro e w1 ⟨rfl, rfl⟩
    go_wp2
    go_ret
    exact ⟨rfl, Below.refl _ _⟩
  have e0 : decide ((1048576 : Int) < (n : Int)) = false := decide_eq_false (by omega)
  go_enter Try.func4, Try.ntmps4
  go_wp2_with fail
  refine (laws_big a n c _).mono ?_
  rintro e w1 ⟨rfl, rfl⟩
  go_wp2_with fail
  refine (HQ.out a n c _ (by omega) HCO.out).mono ?_
  rintro e w1 ⟨v, rs, ta, tb, q, rfl, ht, ha, hb', hb⟩
  have ZA := Lib.hid ha
  have ZB := Lib.hid hb'
  obtain ⟨p, qq, rfl⟩ := ht.rules.slice
  have T1 := Lib.hid ht
  have B1 := Lib.hid hb
  clear ht ha hb' hb HQ HCO hbig hm e0
  go_wp2_with fail
  refine (HU.out _ rs ta tb q _ T1.out ZA.out ZB.out).mono ?_
  rintro e w2 ⟨u, yu, rfl, hp, hb⟩
  have HPU := Lib.hid hp.out
  have T2 := Lib.hid (T1.out.below hb)
  have B2 := Lib.hid (B1.out.trans (hb.mono B1.out.size))
  clear hp hb T1
  have hyy : (yu != yu) = false := by simp
  go_wp2_with fail
  refine (spec_up _ rs ta tb q _ T2.out ZA.out ZB.out).mono ?_
  rintro e w3 ⟨u', yu', rfl, hp, hb⟩
  obtain ⟨rfl, rfl⟩ := Prod.mk.inj (hp.out.symm.trans HPU.out)
  have T3 := Lib.hid (T2.out.below hb)
  have B3 := Lib.hid (B2.out.trans (hb.mono B2.out.size))
  clear hp hb T2
  go_wp2_with fail
  refine (HD.out _ rs ta tb q _ T3.out ZA.out ZB.out).mono ?_
  rintro e w4 ⟨v, yv, rfl, hp, hb⟩
  have HPD := Lib.hid hp.out
  have T4 := Lib.hid (T3.out.below hb)
  have B4 := Lib.hid (B3.out.trans (hb.mono B3.out.size))
  clear hp hb T3
  have hub : 0 ≤ u' ∧ u' ≤ 1000000000 := by
    rcases upR_cases rs ta tb q with e | ⟨z, e, h0, h1⟩
    · obtain ⟨rfl, _⟩ := Prod.mk.inj (HPU.out.symm.trans e); omega
    · obtain ⟨rfl, _⟩ := Prod.mk.inj (HPU.out.symm.trans e); omega
  have hvb : 0 ≤ v ∧ v ≤ 1000000000 := by
    rcases dnR_cases rs ta tb q with e | ⟨z, e, h0, h1⟩
    · obtain ⟨rfl, _⟩ := Prod.mk.inj (HPD.out.symm.trans e); omega
    · obtain ⟨rfl, _⟩ := Prod.mk.inj (HPD.out.symm.trans e); omega
  have HNEAR : Hid (yu' = true → yv = true ∧ (u' = v ∨ u' = v + 1)) := Lib.hid (fun e => by
    subst e
    obtain ⟨v2, h1, h2⟩ := conv_near HPU.out
    obtain ⟨rfl, rfl⟩ := Prod.mk.inj (HPD.out.symm.trans h1)
    exact ⟨rfl, h2⟩)
  have HLESS : Hid (yv = true → ∃ l, upR rs tb ta v = (l, true) ∧ l ≤ q) := Lib.hid (fun e => by
    subst e
    exact conv_less HPD.out)
  have HBACK : Hid (yu' = true → ∀ k, dnR rs tb ta u' = (k, true) → q ≤ k) := Lib.hid (fun e k hk => by
    subst e
    exact conv_back HPU.out hk)
  have HMID : Hid (∃ wx, wx = w4) := Lib.hid ⟨_, rfl⟩
  cases yu' with
  | false =>
    go_wp2_with fail
    refine (HD.out _ rs tb ta u' _ T4.out ZB.out ZA.out).mono ?_
    rintro e w5 ⟨k, yk, rfl, hp, hb⟩
    have T5 := Lib.hid (T4.out.below hb)
    have B5 := Lib.hid (B4.out.trans (hb.mono B4.out.size))
    clear hp hb T4
    go_wp2_with fail
    refine (HU.out _ rs tb ta v _ T5.out ZB.out ZA.out).mono ?_
    rintro e w6 ⟨l, yl, rfl, hp, hb⟩
    have HPL := Lib.hid hp.out
    have B6 := Lib.hid (B5.out.trans (hb.mono B5.out.size))
    clear hp hb T5
    cases yv with
    | false =>
      go_wp2_with fail
      go_ret
      exact ⟨rfl, B6.out⟩
    | true =>
      obtain ⟨l2, h1, h2⟩ := HLESS.out rfl
      obtain ⟨rfl, rfl⟩ := Prod.mk.inj (HPL.out.symm.trans h1)
      clear h1
      have bl := decide_eq_true h2
      clear h2
      go_wp2_with fail
      go_ret
      exact ⟨rfl, B6.out⟩
  | true =>
    obtain ⟨rfl, hne⟩ := HNEAR.out rfl
    obtain ⟨l2, hl1, hl2⟩ := HLESS.out rfl
    have HL1 := Lib.hid hl1
    have bl := decide_eq_true hl2
    clear hl1 hl2
    have HTAIL : Hid (∀ W : World, Below w4.heap.size w4 W → TabArg W (.slice p rs.length qq) rs) := Lib.hid (fun W k => T4.out.below k)
    rcases hne with rfl | rfl
    · have b1 : (u' != u') = false := by simp
      go_wp2_with fail
      refine (HD.out _ rs tb ta u' _ T4.out ZB.out ZA.out).mono ?_
      rintro e w5 ⟨k, yk, rfl, hp, hb⟩
      have HPK := Lib.hid hp.out
      have T5 := Lib.hid (T4.out.below hb)
      have B5 := Lib.hid (B4.out.trans (hb.mono B4.out.size))
      clear hp hb T4
      go_wp2_with fail
      refine (HU.out _ rs tb ta u' _ T5.out ZB.out ZA.out).mono ?_
      rintro e w6 ⟨l, yl, rfl, hp, hb⟩
      obtain ⟨rfl, rfl⟩ := Prod.mk.inj (hp.out.symm.trans HL1.out)
      have B6 := Lib.hid (B5.out.trans (hb.mono B5.out.size))
      clear hp hb T5
      cases yk with
      | false =>
        go_wp2_with fail
        go_ret
        exact ⟨rfl, B6.out⟩
      | true =>
        have bk := decide_eq_true (HBACK.out (by trivial) k HPK.out)
        go_wp2_with fail
        go_ret
        exact ⟨rfl, B6.out⟩
    · have b1 : (v + 1 != v) = true := bne_iff_ne.2 (by omega)
      have b2 : (v + 1 != v + 1) = false := by simp
      go_wp2_with fail
      refine (HD.out _ rs tb ta (v + 1) _ T4.out ZB.out ZA.out).mono ?_
      rintro e w5 ⟨k, yk, rfl, hp, hb⟩
      have HPK := Lib.hid hp.out
      have T5 := Lib.hid (T4.out.below hb)
      have B5 := Lib.hid (B4.out.trans (hb.mono B4.out.size))
      clear hp hb T4
      go_wp2_with fail
      refine (HU.out _ rs tb ta v _ T5.out ZB.out ZA.out).mono ?_
      rintro e w6 ⟨l, yl, rfl, hp, hb⟩
      obtain ⟨rfl, rfl⟩ := Prod.mk.inj (hp.out.symm.trans HL1.out)
      have B6 := Lib.hid (B5.out.trans (hb.mono B5.out.size))
      clear hp hb T5
      cases yk with
      | false =>
        go_wp2_with fail
        go_ret
        exact ⟨rfl, B6.out⟩
      | true =>
        have bk := decide_eq_true (HBACK.out (by trivial) k HPK.out)
        go_wp2_with fail
        go_ret
        exact ⟨rfl, B6.out⟩

theorem code_size {s : ByteArray} (h : isCode.codeB s = true) : s.size ≤ maxLen := by
  have h2 : s.size ≤ 8 := by
    by_cases h3 : 1 ≤ s.size ∧ s.size ≤ 8
    · exact h3.2
    · rw [isCode.codeB_len h3] at h; exact Bool.noConfusion h
  unfold maxLen
  omega

set_option maxRecDepth 100000 in
set_option maxHeartbeats 4000000 in
theorem walk_FnUnits (IF : ImplFactorOf) (IU : ImplUnitsFrom) (DF : DrawFac) (a : Option Addr) (n c : Nat) (w : World) (hm : n ≤ maxLen) (hcode : CodeAt w.heap.size w a n) :
    Calls Try.prog 3 #[.slice a n c] w fun e w' => e = .returned (.bool true) ∧ Below w.heap.size w w' := by
  unfold maxLen at hm
  have HCO := Lib.hid hcode
  have HF := Lib.hid IF
  have HU := Lib.hid IU
  have HQ := Lib.hid DF
  clear hcode IF IU DF
  by_cases hbig : 1048576 < n
  · have e0 : decide ((1048576 : Int) < (n : Int)) = true := decide_eq_true (by omega)
    go_enter Try.func3, Try.ntmps3
    go_wp2_with fail
    refine (laws_big a n c _).mono ?_
    rintro e w1 ⟨rfl, rfl⟩
    go_wp2
    go_ret
    exact ⟨rfl, Below.refl _ _⟩
  have e0 : decide ((1048576 : Int) < (n : Int)) = false := decide_eq_false (by omega)
  go_enter Try.func3, Try.ntmps3
  go_wp2_with fail
  refine (laws_big a n c _).mono ?_
  rintro e w1 ⟨rfl, rfl⟩
  go_wp2_with fail
  refine (HQ.out a n c _ (by omega) HCO.out).mono ?_
  rintro e w1 ⟨v, rs, ta, tb, rfl, ht, ha, hb', hb⟩
  have ZA := Lib.hid ha
  have ZB := Lib.hid hb'
  obtain ⟨p, qq, rfl⟩ := ht.rules.slice
  have T1 := Lib.hid ht
  have B1 := Lib.hid hb
  clear ht ha hb' hb HQ HCO hbig hm e0
  go_wp2_with fail
  refine (HF.out _ rs ta tb _ T1.out ZA.out ZB.out).mono ?_
  rintro e w2 ⟨fn, fd, y, rfl, hp, hb⟩
  have HP := Lib.hid hp.out
  have A2 : Below w2.heap.size w2 (w2.alloc (.cells #[.int .i64 fn, .int .i64 fd] 28)) := (Below.refl _ _).alloc (Nat.le_refl _) _
  have F2 := heap_alloc_new w2 (.cells #[.int .i64 fn, .int .i64 fd] 28)
  have T2 := Lib.hid ((T1.out.below hb).below A2)
  have B2 := Lib.hid ((B1.out.trans (hb.mono B1.out.size)).trans (A2.mono (B1.out.trans (hb.mono B1.out.size)).size))
  clear hp hb T1 A2
  have hyy : (y != y) = false := by simp
  go_wp2_with fail
  generalize w2.alloc (.cells #[.int .i64 fn, .int .i64 fd] 28) = w2a at *
  refine (spec_factor _ rs ta tb _ T2.out ZA.out ZB.out).mono ?_
  rintro e w3 ⟨fn', fd', y', rfl, hp, hb⟩
  obtain ⟨hnd, rfl⟩ := Prod.mk.inj (hp.out.symm.trans HP.out)
  obtain ⟨rfl, rfl⟩ := Prod.mk.inj hnd
  have A3 : Below w3.heap.size w3 (w3.alloc (.cells #[.int .i64 fn', .int .i64 fd'] 28)) := (Below.refl _ _).alloc (Nat.le_refl _) _
  have F3 := blk_alloc (blk_below F2 hb) (.cells #[.int .i64 fn', .int .i64 fd'] 28)
  have T3 := Lib.hid ((T2.out.below hb).below A3)
  have B3 := Lib.hid ((B2.out.trans (hb.mono B2.out.size)).trans (A3.mono (B2.out.trans (hb.mono B2.out.size)).size))
  clear hp hb T2 A3 F2 hnd
  go_wp2_with fail
  generalize w3.alloc (.cells #[.int .i64 fn', .int .i64 fd'] 28) = w3a at *
  refine (HF.out _ rs tb ta _ T3.out ZB.out ZA.out).mono ?_
  rintro e w4 ⟨gn, gd, y2, rfl, hp, hb⟩
  have HG := Lib.hid hp.out
  obtain rfl : y' = y2 := by
    have h9 := facR_sym rs ta tb
    rw [HP.out, HG.out] at h9
    exact h9
  have A4 : Below w4.heap.size w4 (w4.alloc (.cells #[.int .i64 gn, .int .i64 gd] 28)) := (Below.refl _ _).alloc (Nat.le_refl _) _
  have F4 := blk_alloc (blk_below F3 hb) (.cells #[.int .i64 gn, .int .i64 gd] 28)
  have G4 := heap_alloc_new w4 (.cells #[.int .i64 gn, .int .i64 gd] 28)
  have T4 := Lib.hid ((T3.out.below hb).below A4)
  have B4 := Lib.hid ((B3.out.trans (hb.mono B3.out.size)).trans (A4.mono (B3.out.trans (hb.mono B3.out.size)).size))
  clear hp hb T3 A4 F3
  have HHAS : Hid (y' = true ↔ tb ∈ unitsR rs ta) := Lib.hid (by rw [← facR_has, HP.out])
  have hnl := unitsR_len rs ta
  obtain ⟨ns, hns⟩ : ∃ ns, unitsR rs ta = ns := ⟨_, rfl⟩
  have HNS := Lib.hid hns
  rw [hns] at HHAS hnl
  clear hns
  cases y' with
  | false =>
    go_wp2_with fail
    generalize w4.alloc (.cells #[.int .i64 gn, .int .i64 gd] 28) = w4a at *
    refine (HU.out _ rs ta _ T4.out ZA.out).mono ?_
    rintro e w5 ⟨v5, rfl, ho, hb⟩
    rw [HNS.out] at ho
    have S5 := Lib.hid (strs_of_row rfl ho)
    have B5 := Lib.hid (B4.out.trans (hb.mono B4.out.size))
    clear ho hb T4 F4 G4
    obtain ⟨p5, q5, rfl⟩ := S5.out.slice
    go_wp2_with fail
    refine (laws_has _ ns tb false _ S5.out hnl HHAS.out).mono ?_
    rintro e w6 ⟨rfl, hb⟩
    have B6 := Lib.hid (B5.out.trans (hb.mono B5.out.size))
    clear hb S5
    go_wp2_with fail
    go_loop [13] (fun i => i = .int .i64 0) (fun _ => 0)
    case atStart => rfl
    case round =>
      obtain rfl := hrel
      go_wp2_with fail
      all_goals
        go_ret
        exact ⟨rfl, B6.out⟩
  | true =>
    have HBACK := Lib.hid (facR_back HP.out)
    have HONE : Hid (rat.mulR fn' fd' gn gd = (1, 1)) := Lib.hid (by
      obtain ⟨g, h1, h2⟩ := HBACK.out
      obtain ⟨rfl, _⟩ := Prod.mk.inj (HG.out.symm.trans h1)
      exact h2)
    have c0 := cell_of_row _ _ 0 _ _ _ F4
    have c1 := cell_of_row _ _ 1 _ _ _ F4
    have c2 := cell_of_row _ _ 0 _ _ _ G4
    have c3 := cell_of_row _ _ 1 _ _ _ G4
    go_upto_region 9 with fail
    generalize w4.alloc (.cells #[.int .i64 gn, .int .i64 gd] 28) = w4a at *
    go_wp2_with fail
    refine (spec_mul_at HONE.out _).mono ?_
    rintro e w4b ⟨rfl, hb⟩
    have F4b := blk_below F4 hb
    have T4b := Lib.hid (T4.out.below hb)
    have B4b := Lib.hid (B4.out.trans (hb.mono B4.out.size))
    clear hb T4 F4 G4 c0 c1 c2 c3
    go_wp2_with fail
    refine (laws_whole1 _).mono ?_
    rintro e w4c ⟨rfl, hb⟩
    have F4c := blk_below F4b hb
    have T4c := Lib.hid (T4b.out.below hb)
    have B4c := Lib.hid (B4b.out.trans (hb.mono B4b.out.size))
    clear hb T4b F4b
    go_wp2_with fail
    refine (HU.out _ rs ta _ T4c.out ZA.out).mono ?_
    rintro e w5 ⟨v5, rfl, ho, hb⟩
    rw [HNS.out] at ho
    have S5 := Lib.hid (strs_of_row rfl ho)
    have F5 := blk_below F4c hb
    have T5 := Lib.hid (T4c.out.below hb)
    have B5 := Lib.hid (B4c.out.trans (hb.mono B4c.out.size))
    clear ho hb T4c F4c
    obtain ⟨p5, q5, rfl⟩ := S5.out.slice
    go_wp2_with fail
    refine (laws_has _ ns tb true _ S5.out hnl (by have h9 := HHAS.out; simpa using h9)).mono ?_
    rintro e w6 ⟨rfl, hb⟩
    have F6 := blk_below F5 hb
    have S6 := Lib.hid (S5.out.below hb)
    have T6 := Lib.hid (T5.out.below hb)
    have B6 := Lib.hid (B5.out.trans (hb.mono B5.out.size))
    clear hb S5 T5 F5
    go_wp2_with fail
    go_loopw [13] (fun i wr => ∃ k : Nat, k ≤ ns.length ∧ i = .int .i64 k ∧ Hid (Below w6.heap.size w6 wr)) (fun i _ => ns.length - (intOf i).toNat)
    case atStart => exact ⟨0, Nat.zero_le _, rfl, Lib.hid (Below.refl _ _)⟩
    case round =>
      obtain ⟨k, hk, rfl, HB⟩ := hrel
      by_cases hlt : k < ns.length
      · obtain ⟨b2, o2, c2, hv2, hc2, hcell⟩ := S6.out.some (by omega)
        simp only [Value.slice.injEq] at hv2
        obtain ⟨rfl, hl2, rfl⟩ := hv2
        clear hl2
        have e1 := (hcell.below HB.out).at k hlt
        have HCL := Lib.hid hcell
        have H3 := Lib.hid (facR_third (u := ns[k]'hlt) HP.out (by rw [HNS.out]; exact List.getElem_mem hlt))
        generalize ns[k]'hlt = u at *
        obtain ⟨⟨xn, xd⟩, ⟨yn, yd⟩, h31, h32, h33⟩ := H3.out
        have HX1 := Lib.hid h31
        have HY1 := Lib.hid h32
        have HM1 : Hid (rat.mulR xn xd yn yd = (fn', fd')) := Lib.hid h33
        have ZU := Lib.hid (code_size (facR_true.1 h31).1.2.2)
        clear h31 h32 h33 H3 hcell hc2
        go_wp2_with fail
        refine (HF.out _ rs ta u _ (T6.out.below HB.out) ZA.out ZU.out).mono ?_
        rintro e w7 ⟨xn', xd', y7, rfl, hp, hb⟩
        obtain ⟨hnd, rfl⟩ := Prod.mk.inj (hp.out.symm.trans HX1.out)
        obtain ⟨rfl, rfl⟩ := Prod.mk.inj hnd
        have A7 : Below w7.heap.size w7 (w7.alloc (.cells #[.int .i64 xn', .int .i64 xd'] 28)) := (Below.refl _ _).alloc (Nat.le_refl _) _
        have X7 := heap_alloc_new w7 (.cells #[.int .i64 xn', .int .i64 xd'] 28)
        have HB7 := Lib.hid ((HB.out.trans (hb.mono HB.out.size)).trans (A7.mono (HB.out.trans (hb.mono HB.out.size)).size))
        have e2 := hold_c (hold_c e1 hb) A7
        clear hp hb hnd e1 A7
        go_upto_region 18 with fail
        generalize w7.alloc (.cells #[.int .i64 xn', .int .i64 xd'] 28) = w7a at *
        go_wp2_with fail
        refine (HF.out _ rs u tb _ (T6.out.below HB7.out) ZU.out ZB.out).mono ?_
        rintro e w8 ⟨yn', yd', y8, rfl, hp, hb⟩
        obtain ⟨hnd, rfl⟩ := Prod.mk.inj (hp.out.symm.trans HY1.out)
        obtain ⟨rfl, rfl⟩ := Prod.mk.inj hnd
        have A8 : Below w8.heap.size w8 (w8.alloc (.cells #[.int .i64 yn', .int .i64 yd'] 28)) := (Below.refl _ _).alloc (Nat.le_refl _) _
        have X8 := blk_alloc (blk_below X7 hb) (.cells #[.int .i64 yn', .int .i64 yd'] 28)
        have Y8 := heap_alloc_new w8 (.cells #[.int .i64 yn', .int .i64 yd'] 28)
        have HB8 := Lib.hid ((HB7.out.trans (hb.mono HB7.out.size)).trans (A8.mono (HB7.out.trans (hb.mono HB7.out.size)).size))
        have F8 := blk_below F6 HB8.out
        clear hp hb hnd e2 A8 X7
        go_upto_region 19 with fail
        generalize w8.alloc (.cells #[.int .i64 yn', .int .i64 yd'] 28) = w8a at *
        have d0 := cell_of_row _ _ 0 _ _ _ X8
        have d1 := cell_of_row _ _ 1 _ _ _ X8
        have d2 := cell_of_row _ _ 0 _ _ _ Y8
        have d3 := cell_of_row _ _ 1 _ _ _ Y8
        have d4 := cell_of_row _ _ 0 _ _ _ F8
        have d5 := cell_of_row _ _ 1 _ _ _ F8
        clear X8 Y8 F8
        go_region_held3 (fun W' => Hid (Below w8a.heap.size w8a W') ∧ W'.cell? ⟨w7.heap.size, 0, none⟩ = some (.int .i64 xn') ∧ W'.cell? ⟨w7.heap.size, 1, none⟩ = some (.int .i64 xd') ∧ W'.cell? ⟨w8.heap.size, 0, none⟩ = some (.int .i64 yn') ∧ W'.cell? ⟨w8.heap.size, 1, none⟩ = some (.int .i64 yd') ∧ W'.cell? ⟨w2.heap.size, 0, none⟩ = some (.int .i64 fn') ∧ W'.cell? ⟨w2.heap.size, 1, none⟩ = some (.int .i64 fd'))
          (first | assumption | exact hold6 d0 d1 d2 d3 d4 d5 (hold_call (by assumption) (by assumption)) | exact hold6 d0 d1 d2 d3 d4 d5 (Below.refl _ _).drew)
          (first | (go_at_call 14; refine (spec_mul_at HM1.out _).mono ?_; rintro e w' ⟨rfl, hb⟩; have hle := hold_le (by assumption) hb))
        all_goals
          go_wp2_with fail
          go_roundw
          case rel => exact ⟨k + 1, by omega, by go_num, Lib.hid (HB8.out.trans ((by assumption : Hid (Below w8a.heap.size w8a _) ∧ _).1.out.mono HB8.out.size))⟩
          case measure => simp [intOf]; omega
      · go_wp2_with fail
        go_ret
        exact ⟨rfl, B6.out.trans (HB.out.mono B6.out.size)⟩
end Go.Proofs.Ytaomjggamamckaa
