/-
  The model's IsItem.
-/
import Derived.Test.YtmoeomeilbinhaaRows
import Derived.Test.YtmoeomeilbinhaaItLib
import Derived.Test.YtmoeomeilbinhaaBoolRes
import Derived.Test.YtmoeomeilbinhaaIsCodeWalkA
import Derived.Test.YtmoeomeilbinhaaSpecIn
import Derived.Test.YtmoeomeilbinhaaHold
import Derived.WalkKit
import Derived.WalkSpells
import Derived.WalkSmall
import Derived.Lib.Hide
namespace Go.Proofs.Ytmoeomeilbinhaa
open Go.RowKit

set_option maxRecDepth 100000 in
set_option maxHeartbeats 4000000 in
theorem spec_item (x : IT) (w : World) (hs : IT.Sz x) : Calls Try.prog 15 #[IT.val x] w (BoolRes (itB x) w) := by
  obtain ⟨code, unt, kind, lead, rule, lsz, safe, scr⟩ := x
  have S0 : Hid (code.size ≤ maxLen) := Lib.hid hs.1
  have S1 : Hid (unt.size ≤ maxLen) := Lib.hid hs.2
  clear hs
  unfold IT.val
  have HR := heap_alloc_new w (.cells #[.string code, .string unt, .int .i64 kind, .int .i64 lead, .int .i64 rule, .int .i64 lsz, .int .i64 safe, .int .i64 scr] 25)
  have HB : Hid (Below w.heap.size w (w.alloc (.cells #[.string code, .string unt, .int .i64 kind, .int .i64 lead, .int .i64 rule, .int .i64 lsz, .int .i64 safe, .int .i64 scr] 25))) := Lib.hid ((Below.refl _ _).alloc (Nat.le_refl _) _)
  have c0 := cell_of_row _ _ 0 _ _ _ HR
  have c1 := cell_of_row _ _ 1 _ _ _ HR
  have c2 := cell_of_row _ _ 2 _ _ _ HR
  have c3 := cell_of_row _ _ 3 _ _ _ HR
  have c4 := cell_of_row _ _ 4 _ _ _ HR
  have c5 := cell_of_row _ _ 5 _ _ _ HR
  have c6 := cell_of_row _ _ 6 _ _ _ HR
  have c7 := cell_of_row _ _ 7 _ _ _ HR
  go_enter Try.func15, Try.ntmps15
  go_wp2_with fail
  refine (isCode.spec_walk code _ S0.out).mono ?_
  rintro e w2 ⟨rfl, rfl⟩
  rcases Bool.eq_false_or_eq_true (isCode.codeB code) with hA | hA
  rotate_left
  · have HY : Hid (itB ⟨code, unt, kind, lead, rule, lsz, safe, scr⟩ = false) := Lib.hid (itB_no (fun h => by unfold ItOk at h; simp only at h; rw [hA] at h; simp at h))
    rw [hA]
    go_wp2_with fail
    go_ret
    exact ⟨by rw [HY.out]; rfl, HB.out⟩
  rw [hA]
  have A0 := Lib.hid hA
  clear hA
  go_wp2_with fail
  refine (isCode.spec_walk unt _ S1.out).mono ?_
  rintro e w3 ⟨rfl, rfl⟩
  rcases Bool.eq_false_or_eq_true (isCode.codeB unt) with hA | hA
  rotate_left
  · have HY : Hid (itB ⟨code, unt, kind, lead, rule, lsz, safe, scr⟩ = false) := Lib.hid (itB_no (fun h => by unfold ItOk at h; simp only at h; rw [hA] at h; simp at h))
    rw [hA]
    go_wp2_with fail
    go_ret
    exact ⟨by rw [HY.out]; rfl, HB.out⟩
  rw [hA]
  have A1 := Lib.hid hA
  clear hA
  go_wp2_with fail
  by_cases hi : 0 ≤ kind ∧ kind ≤ 2
  rotate_left
  · have HY : Hid (itB ⟨code, unt, kind, lead, rule, lsz, safe, scr⟩ = false) := Lib.hid (itB_no (fun h => by unfold ItOk at h; simp only at h; omega))
    refine (spec_in_is kind 0 2 false _ (inB_no (by omega))).mono ?_
    rintro e w2 ⟨rfl, rfl⟩
    go_wp2_with fail
    go_ret
    exact ⟨by rw [HY.out]; rfl, HB.out⟩
  refine (spec_in_is kind 0 2 true _ (inB_yes hi.1 hi.2)).mono ?_
  rintro e w2 ⟨rfl, rfl⟩
  have Ikind := Lib.hid hi
  clear hi
  go_wp2_with fail
  by_cases hi : 0 ≤ lead ∧ lead ≤ 30
  rotate_left
  · have HY : Hid (itB ⟨code, unt, kind, lead, rule, lsz, safe, scr⟩ = false) := Lib.hid (itB_no (fun h => by unfold ItOk at h; simp only at h; omega))
    refine (spec_in_is lead 0 30 false _ (inB_no (by omega))).mono ?_
    rintro e w2 ⟨rfl, rfl⟩
    go_wp2_with fail
    go_ret
    exact ⟨by rw [HY.out]; rfl, HB.out⟩
  refine (spec_in_is lead 0 30 true _ (inB_yes hi.1 hi.2)).mono ?_
  rintro e w2 ⟨rfl, rfl⟩
  have Ilead := Lib.hid hi
  clear hi
  go_wp2_with fail
  by_cases hi : 0 ≤ rule ∧ rule ≤ 2
  rotate_left
  · have HY : Hid (itB ⟨code, unt, kind, lead, rule, lsz, safe, scr⟩ = false) := Lib.hid (itB_no (fun h => by unfold ItOk at h; simp only at h; omega))
    refine (spec_in_is rule 0 2 false _ (inB_no (by omega))).mono ?_
    rintro e w2 ⟨rfl, rfl⟩
    go_wp2_with fail
    go_ret
    exact ⟨by rw [HY.out]; rfl, HB.out⟩
  refine (spec_in_is rule 0 2 true _ (inB_yes hi.1 hi.2)).mono ?_
  rintro e w2 ⟨rfl, rfl⟩
  have Irule := Lib.hid hi
  clear hi
  go_wp2_with fail
  by_cases hi : 0 ≤ safe ∧ safe ≤ 100000
  rotate_left
  · have HY : Hid (itB ⟨code, unt, kind, lead, rule, lsz, safe, scr⟩ = false) := Lib.hid (itB_no (fun h => by unfold ItOk at h; simp only at h; omega))
    refine (spec_in_is safe 0 100000 false _ (inB_no (by omega))).mono ?_
    rintro e w2 ⟨rfl, rfl⟩
    go_wp2_with fail
    go_ret
    exact ⟨by rw [HY.out]; rfl, HB.out⟩
  refine (spec_in_is safe 0 100000 true _ (inB_yes hi.1 hi.2)).mono ?_
  rintro e w2 ⟨rfl, rfl⟩
  have Isafe := Lib.hid hi
  clear hi
  go_wp2_with fail
  by_cases hi : 0 ≤ scr ∧ scr ≤ 50
  rotate_left
  · have HY : Hid (itB ⟨code, unt, kind, lead, rule, lsz, safe, scr⟩ = false) := Lib.hid (itB_no (fun h => by unfold ItOk at h; simp only at h; omega))
    refine (spec_in_is scr 0 50 false _ (inB_no (by omega))).mono ?_
    rintro e w2 ⟨rfl, rfl⟩
    go_wp2_with fail
    go_ret
    exact ⟨by rw [HY.out]; rfl, HB.out⟩
  refine (spec_in_is scr 0 50 true _ (inB_yes hi.1 hi.2)).mono ?_
  rintro e w2 ⟨rfl, rfl⟩
  have Iscr := Lib.hid hi
  clear hi
  skip
  by_cases hp : kind = 2 ∧ (lead ≠ 0 ∨ rule ≠ 0 ∨ safe ≠ 0 ∨ scr ≠ 0)
  · have HY : Hid (itB ⟨code, unt, kind, lead, rule, lsz, safe, scr⟩ = false) := Lib.hid (itB_no (fun h => by unfold ItOk at h; simp only at h; exact h.2.2.2.2.2.2.2.1 hp))
    have b0 : (kind == 2) = true := beq_iff_eq.2 hp.1
    have hq := hp.2
    clear hp
    by_cases q0 : lead ≠ 0
    · have b1 : (lead != 0) = true := bne_iff_ne.2 q0
      clear q0 hq
      go_wp2_with fail
      go_ret
      exact ⟨by rw [HY.out]; rfl, HB.out⟩
    have e0 : (lead != 0) = false := by simpa using q0
    by_cases q1 : rule ≠ 0
    · have b1 : (rule != 0) = true := bne_iff_ne.2 q1
      clear q1 hq
      go_wp2_with fail
      go_ret
      exact ⟨by rw [HY.out]; rfl, HB.out⟩
    have e1 : (rule != 0) = false := by simpa using q1
    by_cases q2 : safe ≠ 0
    · have b1 : (safe != 0) = true := bne_iff_ne.2 q2
      clear q2 hq
      go_wp2_with fail
      go_ret
      exact ⟨by rw [HY.out]; rfl, HB.out⟩
    have e2 : (safe != 0) = false := by simpa using q2
    by_cases q3 : scr ≠ 0
    · have b1 : (scr != 0) = true := bne_iff_ne.2 q3
      clear q3 hq
      go_wp2_with fail
      go_ret
      exact ⟨by rw [HY.out]; rfl, HB.out⟩
    have e3 : (scr != 0) = false := by simpa using q3
    omega
  have HP := Lib.hid hp
  by_cases hk : kind = 2
  · have b0 : (kind == 2) = true := beq_iff_eq.2 hk
    have e0 : (lead != 0) = false := by by_cases h : lead = 0 <;> simp [h] <;> exact hp ⟨hk, by omega⟩
    have e1 : (rule != 0) = false := by by_cases h : rule = 0 <;> simp [h] <;> exact hp ⟨hk, by omega⟩
    have e2 : (safe != 0) = false := by by_cases h : safe = 0 <;> simp [h] <;> exact hp ⟨hk, by omega⟩
    have e3 : (scr != 0) = false := by by_cases h : scr = 0 <;> simp [h] <;> exact hp ⟨hk, by omega⟩
    clear hp hk
    by_cases hr : rule = 0
    rotate_left
    · exact absurd e1 (by simp [hr])
    · have r0 : (rule == 0) = true := beq_iff_eq.2 hr
      by_cases hl : lsz = 0
      · have HY : Hid (itB ⟨code, unt, kind, lead, rule, lsz, safe, scr⟩ = true) := Lib.hid (itB_yes ⟨A0.out, A1.out, Ikind.out, Ilead.out, Irule.out, Isafe.out, Iscr.out, HP.out, Or.inl ⟨hr, hl⟩⟩)
        have l0 : (lsz == 0) = true := beq_iff_eq.2 hl
        clear hr hl
        go_wp2_with fail
        go_ret
        exact ⟨by rw [HY.out]; rfl, HB.out⟩
      · have HY : Hid (itB ⟨code, unt, kind, lead, rule, lsz, safe, scr⟩ = false) := Lib.hid (itB_no (fun h => by unfold ItOk at h; simp only at h; rcases h.2.2.2.2.2.2.2.2 with h | h <;> omega))
        have l0 : (lsz == 0) = false := by simpa using hl
        clear hr hl
        go_wp2_with fail
        go_ret
        exact ⟨by rw [HY.out]; rfl, HB.out⟩
  · have b0 : (kind == 2) = false := by simpa using hk
    clear hp hk
    by_cases hr : rule = 0
    · have r0 : (rule == 0) = true := beq_iff_eq.2 hr
      have r1 : (rule != 0) = false := by simpa using hr
      by_cases hl : lsz = 0
      · have HY : Hid (itB ⟨code, unt, kind, lead, rule, lsz, safe, scr⟩ = true) := Lib.hid (itB_yes ⟨A0.out, A1.out, Ikind.out, Ilead.out, Irule.out, Isafe.out, Iscr.out, HP.out, Or.inl ⟨hr, hl⟩⟩)
        have l0 : (lsz == 0) = true := beq_iff_eq.2 hl
        clear hr hl
        go_wp2_with fail
        go_ret
        exact ⟨by rw [HY.out]; rfl, HB.out⟩
      · have HY : Hid (itB ⟨code, unt, kind, lead, rule, lsz, safe, scr⟩ = false) := Lib.hid (itB_no (fun h => by unfold ItOk at h; simp only at h; rcases h.2.2.2.2.2.2.2.2 with h | h <;> omega))
        have l0 : (lsz == 0) = false := by simpa using hl
        clear hr hl
        go_wp2_with fail
        go_ret
        exact ⟨by rw [HY.out]; rfl, HB.out⟩
    · have r0 : (rule == 0) = false := by simpa using hr
      have r1 : (rule != 0) = true := bne_iff_ne.2 hr
      by_cases hl : 1 ≤ lsz ∧ lsz ≤ 1000
      · have HY : Hid (itB ⟨code, unt, kind, lead, rule, lsz, safe, scr⟩ = true) := Lib.hid (itB_yes ⟨A0.out, A1.out, Ikind.out, Ilead.out, Irule.out, Isafe.out, Iscr.out, HP.out, Or.inr ⟨hr, hl.1, hl.2⟩⟩)
        have HI := Lib.hid (inB_yes hl.1 hl.2)
        clear hr hl
        go_wp2_with fail
        refine (spec_in_is lsz 1 1000 true _ HI.out).mono ?_
        rintro e w2 ⟨rfl, rfl⟩
        go_wp2_with fail
        go_ret
        exact ⟨by rw [HY.out]; rfl, HB.out⟩
      · have HY : Hid (itB ⟨code, unt, kind, lead, rule, lsz, safe, scr⟩ = false) := Lib.hid (itB_no (fun h => by unfold ItOk at h; simp only at h; rcases h.2.2.2.2.2.2.2.2 with h | h <;> omega))
        have HI : Hid (inB lsz 1 1000 = false) := Lib.hid (inB_no (by omega))
        clear hr hl
        go_wp2_with fail
        refine (spec_in_is lsz 1 1000 false _ HI.out).mono ?_
        rintro e w2 ⟨rfl, rfl⟩
        go_wp2_with fail
        go_ret
        exact ⟨by rw [HY.out]; rfl, HB.out⟩
end Go.Proofs.Ytmoeomeilbinhaa
