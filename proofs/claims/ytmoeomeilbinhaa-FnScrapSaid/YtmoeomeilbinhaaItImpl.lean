/-
  The program's IsItem.
-/
import Derived.Test.YtmoeomeilbinhaaRows
import Derived.Test.YtmoeomeilbinhaaItLib
import Derived.Test.YtmoeomeilbinhaaBoolRes
import Derived.Test.YtmoeomeilbinhaaCodeCalls
import Derived.Test.YtmoeomeilbinhaaSpecIn
import Derived.Test.YtmoeomeilbinhaaHold
import Derived.WalkKit
import Derived.WalkSpells
import Derived.WalkSmall
import Derived.Lib.Hide
namespace Go.Proofs.Ytmoeomeilbinhaa
open Go.RowKit

/-- The item has any number by which it is planned itself. -/
def planB (x : IT) : Bool := decide (x.lead ≠ 0 ∨ x.rule ≠ 0 ∨ x.safe ≠ 0 ∨ x.scr ≠ 0)
theorem planB_iff {x : IT} : planB x = true ↔ x.lead ≠ 0 ∨ x.rule ≠ 0 ∨ x.safe ≠ 0 ∨ x.scr ≠ 0 := by unfold planB; exact decide_eq_true_iff
theorem planB_no {x : IT} (h : ¬(x.lead ≠ 0 ∨ x.rule ≠ 0 ∨ x.safe ≠ 0 ∨ x.scr ≠ 0)) : planB x = false := decide_eq_false h
/-- There is such a rule, and the size fits it. -/
def lotB (rule size : Int) : Bool := decide ((rule = 0 ∧ size = 0) ∨ ((rule = 1 ∨ rule = 2) ∧ 1 ≤ size ∧ size ≤ 1000))
theorem lotB_iff {r s : Int} : lotB r s = true ↔ (r = 0 ∧ s = 0) ∨ ((r = 1 ∨ r = 2) ∧ 1 ≤ s ∧ s ≤ 1000) := by unfold lotB; exact decide_eq_true_iff
theorem lotB_no {r s : Int} (h : ¬((r = 0 ∧ s = 0) ∨ ((r = 1 ∨ r = 2) ∧ 1 ≤ s ∧ s ≤ 1000))) : lotB r s = false := decide_eq_false h
theorem lotB_yes {x : IT} (h : ItOk x) : lotB x.rule x.lsz = true := by
  obtain ⟨-, -, -, -, h1, -, -, -, h2⟩ := h
  exact lotB_iff.2 (by omega)
theorem lotB_rule {r s : Int} (h : lotB r s = true) : 0 ≤ r ∧ r ≤ 2 := by have := lotB_iff.1 h; omega
theorem lotB_is {r s : Int} (h : lotB r s = true) : (r = 0 ∧ s = 0) ∨ (r ≠ 0 ∧ 1 ≤ s ∧ s ≤ 1000) := by have := lotB_iff.1 h; omega

set_option maxRecDepth 100000 in
set_option maxHeartbeats 1000000 in
theorem im_upTo (n l : Int) (y : Bool) (w : World) (h : inB n 0 l = y) : Calls Try.prog 31 #[.int .i64 n, .int .i64 l] w fun e w' => e = .returned (.bool y) ∧ w' = w := by
  subst h
  by_cases h0 : 0 ≤ n
  · by_cases h1 : n ≤ l
    · have HY := Lib.hid (inB_yes h0 h1)
      go_enter Try.func31, Try.ntmps31
      go_wp2
      go_ret
      exact ⟨by rw [HY.out]; rfl, rfl⟩
    · have HY := Lib.hid (inB_no (x := n) (lo := 0) (hi := l) (Or.inr (by omega)))
      go_enter Try.func31, Try.ntmps31
      go_wp2
      go_ret
      exact ⟨by rw [HY.out]; rfl, rfl⟩
  · have HY := Lib.hid (inB_no (x := n) (lo := 0) (hi := l) (Or.inl (by omega)))
    go_enter Try.func31, Try.ntmps31
    go_wp2
    go_ret
    exact ⟨by rw [HY.out]; rfl, rfl⟩

set_option maxRecDepth 100000 in
set_option maxHeartbeats 1000000 in
theorem im_lotRule (r s : Int) (w : World) : Calls Try.prog 38 #[.int .i64 r, .int .i64 s] w fun e w' => e = .returned (.bool (lotB r s)) ∧ w' = w := by
  by_cases h0 : r = 0
  · have HY : Hid (lotB r s = (s == 0)) := Lib.hid (by
      by_cases hs : s = 0
      · rw [lotB_iff.2 (Or.inl ⟨h0, hs⟩)]; exact (beq_iff_eq.2 hs).symm
      · rw [lotB_no (by omega)]; exact (beq_eq_false_iff_ne.2 hs).symm)
    have b0 : (r == 0) = true := beq_iff_eq.2 h0
    clear h0
    go_enter Try.func38, Try.ntmps38
    go_wp2
    go_ret
    exact ⟨by rw [HY.out]; rfl, rfl⟩
  have b0 : (r == 0) = false := beq_eq_false_iff_ne.2 h0
  by_cases h1 : r = 1 ∨ r = 2
  · by_cases hs : 1 ≤ s
    · have HY : Hid (lotB r s = decide (s ≤ 1000)) := Lib.hid (by
        by_cases hs2 : s ≤ 1000
        · rw [lotB_iff.2 (Or.inr ⟨h1, hs, hs2⟩)]; exact (decide_eq_true hs2).symm
        · rw [lotB_no (by omega)]; exact (decide_eq_false hs2).symm)
      by_cases h2 : r = 1
      · have b1 : (r == 1) = true := beq_iff_eq.2 h2
        clear h0 h1 h2
        go_enter Try.func38, Try.ntmps38
        go_wp2
        go_ret
        exact ⟨by rw [HY.out]; rfl, rfl⟩
      · have b1 : (r == 1) = false := beq_eq_false_iff_ne.2 h2
        have b2 : (r == 2) = true := beq_iff_eq.2 (by omega)
        clear h0 h1 h2
        go_enter Try.func38, Try.ntmps38
        go_wp2
        go_ret
        exact ⟨by rw [HY.out]; rfl, rfl⟩
    · have HY : Hid (lotB r s = false) := Lib.hid (lotB_no (by omega))
      by_cases h2 : r = 1
      · have b1 : (r == 1) = true := beq_iff_eq.2 h2
        clear h0 h1 h2
        go_enter Try.func38, Try.ntmps38
        go_wp2
        go_ret
        exact ⟨by rw [HY.out]; rfl, rfl⟩
      · have b1 : (r == 1) = false := beq_eq_false_iff_ne.2 h2
        have b2 : (r == 2) = true := beq_iff_eq.2 (by omega)
        clear h0 h1 h2
        go_enter Try.func38, Try.ntmps38
        go_wp2
        go_ret
        exact ⟨by rw [HY.out]; rfl, rfl⟩
  · have HY : Hid (lotB r s = false) := Lib.hid (lotB_no (by omega))
    have b1 : (r == 1) = false := beq_eq_false_iff_ne.2 (by omega)
    have b2 : (r == 2) = false := beq_eq_false_iff_ne.2 (by omega)
    clear h0 h1
    go_enter Try.func38, Try.ntmps38
    go_wp2
    go_ret
    exact ⟨by rw [HY.out]; rfl, rfl⟩

set_option maxRecDepth 100000 in
set_option maxHeartbeats 1000000 in
theorem im_planned (x : IT) (w : World) : Calls Try.prog 37 #[.agg #[.string x.code, .string x.unt, .int .i64 x.kind, .int .i64 x.lead, .int .i64 x.rule, .int .i64 x.lsz, .int .i64 x.safe, .int .i64 x.scr]] w (BoolRes (planB x) w) := by
  obtain ⟨code, unt, kind, lead, rule, lsz, safe, scr⟩ := x
  have HB : Below w.heap.size w (w.alloc (.cells #[.string code, .string unt, .int .i64 kind, .int .i64 lead, .int .i64 rule, .int .i64 lsz, .int .i64 safe, .int .i64 scr] 25)) := (Below.refl _ _).alloc (Nat.le_refl _) _
  by_cases q0 : lead ≠ 0
  · have HY : Hid (planB ⟨code, unt, kind, lead, rule, lsz, safe, scr⟩ = true) := Lib.hid (planB_iff.2 (by simp only; omega))
    have b : (lead != 0) = true := bne_iff_ne.2 q0
    clear q0
    go_enter Try.func37, Try.ntmps37
    go_wp2_with fail
    go_ret
    exact ⟨by rw [HY.out]; rfl, HB⟩
  have e0 : (lead != 0) = false := by simpa using q0
  by_cases q1 : rule ≠ 0
  · have HY : Hid (planB ⟨code, unt, kind, lead, rule, lsz, safe, scr⟩ = true) := Lib.hid (planB_iff.2 (by simp only; omega))
    have b : (rule != 0) = true := bne_iff_ne.2 q1
    clear q1
    go_enter Try.func37, Try.ntmps37
    go_wp2_with fail
    go_ret
    exact ⟨by rw [HY.out]; rfl, HB⟩
  have e1 : (rule != 0) = false := by simpa using q1
  by_cases q2 : safe ≠ 0
  · have HY : Hid (planB ⟨code, unt, kind, lead, rule, lsz, safe, scr⟩ = true) := Lib.hid (planB_iff.2 (by simp only; omega))
    have b : (safe != 0) = true := bne_iff_ne.2 q2
    clear q2
    go_enter Try.func37, Try.ntmps37
    go_wp2_with fail
    go_ret
    exact ⟨by rw [HY.out]; rfl, HB⟩
  have e2 : (safe != 0) = false := by simpa using q2
  by_cases q3 : scr ≠ 0
  · have HY : Hid (planB ⟨code, unt, kind, lead, rule, lsz, safe, scr⟩ = true) := Lib.hid (planB_iff.2 (by simp only; omega))
    have b : (scr != 0) = true := bne_iff_ne.2 q3
    clear q3
    go_enter Try.func37, Try.ntmps37
    go_wp2_with fail
    go_ret
    exact ⟨by rw [HY.out]; rfl, HB⟩
  have e3 : (scr != 0) = false := by simpa using q3
  have HY : Hid (planB ⟨code, unt, kind, lead, rule, lsz, safe, scr⟩ = false) := Lib.hid (planB_no (by simp only; omega))
  clear q0 q1 q2 q3
  go_enter Try.func37, Try.ntmps37
  go_wp2_with fail
  go_ret
  exact ⟨by rw [HY.out]; rfl, HB⟩

set_option maxRecDepth 100000 in
set_option maxHeartbeats 1000000 in
theorem im_good (x : IT) (w : World) (h0 : 0 ≤ x.scr) (h1 : x.scr ≤ 50) : Calls Try.prog 32 #[.agg #[.string x.code, .string x.unt, .int .i64 x.kind, .int .i64 x.lead, .int .i64 x.rule, .int .i64 x.lsz, .int .i64 x.safe, .int .i64 x.scr]] w fun e w' => e = .returned (.int .i64 (100 - x.scr)) ∧ Below w.heap.size w w' := by
  obtain ⟨code, unt, kind, lead, rule, lsz, safe, scr⟩ := x
  simp only at h0 h1
  have HB : Below w.heap.size w (w.alloc (.cells #[.string code, .string unt, .int .i64 kind, .int .i64 lead, .int .i64 rule, .int .i64 lsz, .int .i64 safe, .int .i64 scr] 25)) := (Below.refl _ _).alloc (Nat.le_refl _) _
  go_enter Try.func32, Try.ntmps32
  go_wp2_with fail
  go_ret
  exact ⟨rfl, HB⟩

set_option maxRecDepth 100000 in
set_option maxHeartbeats 4000000 in
theorem im_item (x : IT) (w : World) (hs : IT.Sz x) : Calls Try.prog 17 #[IT.val x] w (BoolRes (itB x) w) := by
  obtain ⟨code, unt, kind, lead, rule, lsz, safe, scr⟩ := x
  have S0 : Hid (code.size ≤ maxLen) := Lib.hid hs.1
  have S1 : Hid (unt.size ≤ maxLen) := Lib.hid hs.2
  clear hs
  unfold IT.val
  have HR := heap_alloc_new w (.cells #[.string code, .string unt, .int .i64 kind, .int .i64 lead, .int .i64 rule, .int .i64 lsz, .int .i64 safe, .int .i64 scr] 25)
  have HB : Hid (Below w.heap.size w (w.alloc (.cells #[.string code, .string unt, .int .i64 kind, .int .i64 lead, .int .i64 rule, .int .i64 lsz, .int .i64 safe, .int .i64 scr] 25))) := Lib.hid ((Below.refl _ _).alloc (Nat.le_refl _) _)
  have c0 := cell_of_row _ _ 0 _ _ _ HR
  have c1 := cell_of_row _ _ 1 _ _ _ HR
  have c2 := cell_of_row _ _ 2 _ _ _ HR
  have c3 := cell_of_row _ _ 3 _ _ _ HR
  have c4 := cell_of_row _ _ 4 _ _ _ HR
  have c5 := cell_of_row _ _ 5 _ _ _ HR
  have c6 := cell_of_row _ _ 6 _ _ _ HR
  have c7 := cell_of_row _ _ 7 _ _ _ HR
  go_enter Try.func17, Try.ntmps17
  go_wp2_with fail
  refine (code_calls code _ S0.out).mono ?_
  rintro e w2 ⟨rfl, hb⟩
  have HR2 := blk_below HR hb
  have HB2 := Lib.hid (HB.out.trans (hb.mono HB.out.size))
  clear hb c0 c1 c2 c3 c4 c5 c6 c7 HR HB
  have c0 := cell_of_row _ _ 0 _ _ _ HR2
  have c1 := cell_of_row _ _ 1 _ _ _ HR2
  have c2 := cell_of_row _ _ 2 _ _ _ HR2
  have c3 := cell_of_row _ _ 3 _ _ _ HR2
  have c4 := cell_of_row _ _ 4 _ _ _ HR2
  have c5 := cell_of_row _ _ 5 _ _ _ HR2
  have c6 := cell_of_row _ _ 6 _ _ _ HR2
  have c7 := cell_of_row _ _ 7 _ _ _ HR2
  rcases Bool.eq_false_or_eq_true (isCode.codeB code) with hA | hA
  rotate_left
  · have HY : Hid (itB ⟨code, unt, kind, lead, rule, lsz, safe, scr⟩ = false) := Lib.hid (itB_no (fun h => by unfold ItOk at h; simp only at h; rw [hA] at h; simp at h))
    rw [hA]
    go_wp2_with fail
    go_ret
    exact ⟨by rw [HY.out]; rfl, HB2.out⟩
  rw [hA]
  have A0 := Lib.hid hA
  clear hA
  go_wp2_with fail
  refine (code_calls unt _ S1.out).mono ?_
  rintro e w3 ⟨rfl, hb⟩
  have HR3 := blk_below HR2 hb
  have HB3 := Lib.hid (HB2.out.trans (hb.mono HB2.out.size))
  clear hb c0 c1 c2 c3 c4 c5 c6 c7 HR2 HB2
  have c0 := cell_of_row _ _ 0 _ _ _ HR3
  have c1 := cell_of_row _ _ 1 _ _ _ HR3
  have c2 := cell_of_row _ _ 2 _ _ _ HR3
  have c3 := cell_of_row _ _ 3 _ _ _ HR3
  have c4 := cell_of_row _ _ 4 _ _ _ HR3
  have c5 := cell_of_row _ _ 5 _ _ _ HR3
  have c6 := cell_of_row _ _ 6 _ _ _ HR3
  have c7 := cell_of_row _ _ 7 _ _ _ HR3
  rcases Bool.eq_false_or_eq_true (isCode.codeB unt) with hA | hA
  rotate_left
  · have HY : Hid (itB ⟨code, unt, kind, lead, rule, lsz, safe, scr⟩ = false) := Lib.hid (itB_no (fun h => by unfold ItOk at h; simp only at h; rw [hA] at h; simp at h))
    rw [hA]
    go_wp2_with fail
    go_ret
    exact ⟨by rw [HY.out]; rfl, HB3.out⟩
  rw [hA]
  have A1 := Lib.hid hA
  clear hA
  skip
  by_cases hk0 : kind < 0
  · have HY : Hid (itB ⟨code, unt, kind, lead, rule, lsz, safe, scr⟩ = false) := Lib.hid (itB_no (fun h => by unfold ItOk at h; simp only at h; omega))
    go_wp2_with fail
    go_ret
    exact ⟨by rw [HY.out]; rfl, HB3.out⟩
  by_cases hk2 : 2 < kind
  · have HY : Hid (itB ⟨code, unt, kind, lead, rule, lsz, safe, scr⟩ = false) := Lib.hid (itB_no (fun h => by unfold ItOk at h; simp only at h; omega))
    go_wp2_with fail
    go_ret
    exact ⟨by rw [HY.out]; rfl, HB3.out⟩
  have Ikind : Hid (0 ≤ kind ∧ kind ≤ 2) := Lib.hid (by omega)
  by_cases hk : kind = 2
  · have b0 : (kind == 2) = true := beq_iff_eq.2 hk
    have HK := Lib.hid hk
    clear hk
    go_wp2_with fail
    refine (im_planned ⟨code, unt, kind, lead, rule, lsz, safe, scr⟩ w3).mono ?_
    rintro e w4 ⟨rfl, hb⟩
    have HB4 := Lib.hid (HB3.out.trans (hb.mono HB3.out.size))
    have HR4 := blk_below HR3 hb
    clear hb c0 c1 c2 c3 c4 c5 c6 c7 HR3
    have c0 := cell_of_row _ _ 0 _ _ _ HR4
    have c1 := cell_of_row _ _ 1 _ _ _ HR4
    have c2 := cell_of_row _ _ 2 _ _ _ HR4
    have c3 := cell_of_row _ _ 3 _ _ _ HR4
    have c4 := cell_of_row _ _ 4 _ _ _ HR4
    have c5 := cell_of_row _ _ 5 _ _ _ HR4
    have c6 := cell_of_row _ _ 6 _ _ _ HR4
    have c7 := cell_of_row _ _ 7 _ _ _ HR4
    rcases Bool.eq_false_or_eq_true (planB ⟨code, unt, kind, lead, rule, lsz, safe, scr⟩) with hP | hP
    · have HY : Hid (itB ⟨code, unt, kind, lead, rule, lsz, safe, scr⟩ = false) := Lib.hid (itB_no (fun h => by unfold ItOk at h; simp only at h; exact h.2.2.2.2.2.2.2.1 ⟨HK.out, planB_iff.1 hP⟩))
      rw [hP]
      go_wp2_with fail
      go_ret
      exact ⟨by rw [HY.out]; rfl, HB4.out⟩
    have HP : Hid (¬(lead ≠ 0 ∨ rule ≠ 0 ∨ safe ≠ 0 ∨ scr ≠ 0)) := Lib.hid (fun h => by rw [planB_iff.2 h] at hP; cases hP)
    rw [hP]
    clear hP
    go_wp2_with fail
    rcases Bool.eq_false_or_eq_true (lotB rule lsz) with hL | hL
    rotate_left
    · have HY : Hid (itB ⟨code, unt, kind, lead, rule, lsz, safe, scr⟩ = false) := Lib.hid (itB_no (fun h => by unfold ItOk at h; simp only at h; have h9 : lotB rule lsz = true := lotB_yes (x := ⟨code, unt, kind, lead, rule, lsz, safe, scr⟩) h; rw [hL] at h9; cases h9))
      refine (im_lotRule rule lsz _).mono ?_
      rintro e w5 ⟨rfl, rfl⟩
      rw [hL]
      go_wp2_with fail
      go_ret
      exact ⟨by rw [HY.out]; rfl, HB4.out⟩
    refine (im_lotRule rule lsz _).mono ?_
    rintro e w5 ⟨rfl, rfl⟩
    rw [hL]
    have HL := Lib.hid hL
    clear hL
    go_wp2_with fail
    by_cases hi : 0 ≤ lead ∧ lead ≤ 30
    rotate_left
    · have HY : Hid (itB ⟨code, unt, kind, lead, rule, lsz, safe, scr⟩ = false) := Lib.hid (itB_no (fun h => by unfold ItOk at h; simp only at h; omega))
      refine (im_upTo lead 30 false _ (inB_no (by omega))).mono ?_
      rintro e w6 ⟨rfl, rfl⟩
      go_wp2_with fail
      go_ret
      exact ⟨by rw [HY.out]; rfl, HB4.out⟩
    refine (im_upTo lead 30 true _ (inB_yes hi.1 hi.2)).mono ?_
    rintro e w6 ⟨rfl, rfl⟩
    have Ilead := Lib.hid hi
    clear hi
    go_wp2_with fail
    by_cases hi : 0 ≤ safe ∧ safe ≤ 100000
    rotate_left
    · have HY : Hid (itB ⟨code, unt, kind, lead, rule, lsz, safe, scr⟩ = false) := Lib.hid (itB_no (fun h => by unfold ItOk at h; simp only at h; omega))
      refine (im_upTo safe 100000 false _ (inB_no (by omega))).mono ?_
      rintro e w6 ⟨rfl, rfl⟩
      go_wp2_with fail
      go_ret
      exact ⟨by rw [HY.out]; rfl, HB4.out⟩
    refine (im_upTo safe 100000 true _ (inB_yes hi.1 hi.2)).mono ?_
    rintro e w6 ⟨rfl, rfl⟩
    have Isafe := Lib.hid hi
    clear hi
    go_wp2_with fail
    by_cases hi : 0 ≤ scr ∧ scr ≤ 50
    rotate_left
    · have HY : Hid (itB ⟨code, unt, kind, lead, rule, lsz, safe, scr⟩ = false) := Lib.hid (itB_no (fun h => by unfold ItOk at h; simp only at h; omega))
      refine (im_upTo scr 50 false _ (inB_no (by omega))).mono ?_
      rintro e w6 ⟨rfl, rfl⟩
      go_wp2_with fail
      go_ret
      exact ⟨by rw [HY.out]; rfl, HB4.out⟩
    refine (im_upTo scr 50 true _ (inB_yes hi.1 hi.2)).mono ?_
    rintro e w6 ⟨rfl, rfl⟩
    have Iscr := Lib.hid hi
    clear hi
    have HY : Hid (itB ⟨code, unt, kind, lead, rule, lsz, safe, scr⟩ = true) := Lib.hid (itB_yes ⟨A0.out, A1.out, Ikind.out, Ilead.out, lotB_rule HL.out, Isafe.out, Iscr.out, fun h => HP.out h.2, lotB_is HL.out⟩)
    go_wp2_with fail
    go_ret
    exact ⟨by rw [HY.out]; rfl, HB4.out⟩
  · have b0 : (kind == 2) = false := by simpa using hk
    have HK := Lib.hid hk
    clear hk
    go_wp2_with fail
    rcases Bool.eq_false_or_eq_true (lotB rule lsz) with hL | hL
    rotate_left
    · have HY : Hid (itB ⟨code, unt, kind, lead, rule, lsz, safe, scr⟩ = false) := Lib.hid (itB_no (fun h => by unfold ItOk at h; simp only at h; have h9 : lotB rule lsz = true := lotB_yes (x := ⟨code, unt, kind, lead, rule, lsz, safe, scr⟩) h; rw [hL] at h9; cases h9))
      refine (im_lotRule rule lsz _).mono ?_
      rintro e w5 ⟨rfl, rfl⟩
      rw [hL]
      go_wp2_with fail
      go_ret
      exact ⟨by rw [HY.out]; rfl, HB3.out⟩
    refine (im_lotRule rule lsz _).mono ?_
    rintro e w5 ⟨rfl, rfl⟩
    rw [hL]
    have HL := Lib.hid hL
    clear hL
    go_wp2_with fail
    by_cases hi : 0 ≤ lead ∧ lead ≤ 30
    rotate_left
    · have HY : Hid (itB ⟨code, unt, kind, lead, rule, lsz, safe, scr⟩ = false) := Lib.hid (itB_no (fun h => by unfold ItOk at h; simp only at h; omega))
      refine (im_upTo lead 30 false _ (inB_no (by omega))).mono ?_
      rintro e w6 ⟨rfl, rfl⟩
      go_wp2_with fail
      go_ret
      exact ⟨by rw [HY.out]; rfl, HB3.out⟩
    refine (im_upTo lead 30 true _ (inB_yes hi.1 hi.2)).mono ?_
    rintro e w6 ⟨rfl, rfl⟩
    have Ilead := Lib.hid hi
    clear hi
    go_wp2_with fail
    by_cases hi : 0 ≤ safe ∧ safe ≤ 100000
    rotate_left
    · have HY : Hid (itB ⟨code, unt, kind, lead, rule, lsz, safe, scr⟩ = false) := Lib.hid (itB_no (fun h => by unfold ItOk at h; simp only at h; omega))
      refine (im_upTo safe 100000 false _ (inB_no (by omega))).mono ?_
      rintro e w6 ⟨rfl, rfl⟩
      go_wp2_with fail
      go_ret
      exact ⟨by rw [HY.out]; rfl, HB3.out⟩
    refine (im_upTo safe 100000 true _ (inB_yes hi.1 hi.2)).mono ?_
    rintro e w6 ⟨rfl, rfl⟩
    have Isafe := Lib.hid hi
    clear hi
    go_wp2_with fail
    by_cases hi : 0 ≤ scr ∧ scr ≤ 50
    rotate_left
    · have HY : Hid (itB ⟨code, unt, kind, lead, rule, lsz, safe, scr⟩ = false) := Lib.hid (itB_no (fun h => by unfold ItOk at h; simp only at h; omega))
      refine (im_upTo scr 50 false _ (inB_no (by omega))).mono ?_
      rintro e w6 ⟨rfl, rfl⟩
      go_wp2_with fail
      go_ret
      exact ⟨by rw [HY.out]; rfl, HB3.out⟩
    refine (im_upTo scr 50 true _ (inB_yes hi.1 hi.2)).mono ?_
    rintro e w6 ⟨rfl, rfl⟩
    have Iscr := Lib.hid hi
    clear hi
    have HY : Hid (itB ⟨code, unt, kind, lead, rule, lsz, safe, scr⟩ = true) := Lib.hid (itB_yes ⟨A0.out, A1.out, Ikind.out, Ilead.out, lotB_rule HL.out, Isafe.out, Iscr.out, fun h => HK.out h.1, lotB_is HL.out⟩)
    go_wp2_with fail
    go_ret
    exact ⟨by rw [HY.out]; rfl, HB3.out⟩
end Go.Proofs.Ytmoeomeilbinhaa
