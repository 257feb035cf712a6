import Derived.Test.YtmnncinpepeocaaGreatBuRec
import Derived.Test.YtmnncinpepeocaaGreatBuCode
import Derived.Test.YtmnncinpepeocaaGreatRows
import Derived.Test.YtmnncinpepeocaaGreatBuA
import Derived.WalkKit
import Derived.WalkSpells
import Derived.WalkSmall
import Derived.Lib.Hide
import Derived.BigQuiet
import Derived.Deep.QuietTactic
import Derived.Deep.DeepCutAuto
import Derived.Deep.RegionHeld3
namespace Go.Proofs.YtmnncinpepeocaaGreat

/-- An item is one. -/
def ItOk (x : IT) : Prop := isCode.codeB x.code = true ∧ isCode.codeB x.unt = true ∧ (0 ≤ x.kind ∧ x.kind ≤ 2) ∧ (0 ≤ x.lead ∧ x.lead ≤ 30) ∧ (0 ≤ x.rule ∧ x.rule ≤ 2) ∧ (0 ≤ x.safe ∧ x.safe ≤ 100000) ∧ (0 ≤ x.scr ∧ x.scr ≤ 50) ∧
 ¬(x.kind = 2 ∧ (x.lead ≠ 0 ∨ x.rule ≠ 0 ∨ x.safe ≠ 0 ∨ x.scr ≠ 0)) ∧ ((x.rule = 0 ∧ x.lsz = 0) ∨ (x.rule ≠ 0 ∧ 1 ≤ x.lsz ∧ x.lsz ≤ 1000))
open Classical in
noncomputable def itB (x : IT) : Bool := decide (ItOk x)
open Classical in
theorem itB_yes {x : IT} (h : ItOk x) : itB x = true := decide_eq_true h
open Classical in
theorem itB_no {x : IT} (h : ¬ItOk x) : itB x = false := decide_eq_false h
open Classical in
theorem itB_iff {x : IT} : itB x = true ↔ ItOk x := by unfold itB; exact decide_eq_true_iff
end Go.Proofs.YtmnncinpepeocaaGreat

namespace Go.Proofs.YtmnncinpepeocaaGreat
open Go.RowKit

set_option maxRecDepth 100000 in
set_option maxHeartbeats 4000000 in
theorem spec_item (x : IT) (w : World) (hs : IT.Sz x) : Calls Tryz.prog 113 #[IT.val x] w (BoolRes (itB x) w) := by
 obtain ⟨code, unt, kind, lead, rule, lsz, safe, scr⟩ := x
 have S0 : Hid (code.size ≤ maxLen) := Lib.hid hs.1
 have S1 : Hid (unt.size ≤ maxLen) := Lib.hid hs.2
 clear hs
 unfold IT.val
 have HR := heap_alloc_new w (.cells #[.string code, .string unt, .int .i64 kind, .int .i64 lead, .int .i64 rule, .int .i64 lsz, .int .i64 safe, .int .i64 scr] 33)
 have HB : Hid (Below w.heap.size w (w.alloc (.cells #[.string code, .string unt, .int .i64 kind, .int .i64 lead, .int .i64 rule, .int .i64 lsz, .int .i64 safe, .int .i64 scr] 33))) := Lib.hid ((Below.refl _ _).alloc (Nat.le_refl _) _)
 have c0 := cell_of_row _ _ 0 _ _ _ HR
 have c1 := cell_of_row _ _ 1 _ _ _ HR
 have c2 := cell_of_row _ _ 2 _ _ _ HR
 have c3 := cell_of_row _ _ 3 _ _ _ HR
 have c4 := cell_of_row _ _ 4 _ _ _ HR
 have c5 := cell_of_row _ _ 5 _ _ _ HR
 have c6 := cell_of_row _ _ 6 _ _ _ HR
 have c7 := cell_of_row _ _ 7 _ _ _ HR
 go_enter Tryz.func113, Tryz.ntmps113
 go_wp2_with fail
 refine (isCode.spec_walk code _ S0.out).mono ?_
 rintro e w2 ⟨rfl, rfl⟩
 rcases Bool.eq_false_or_eq_true (isCode.codeB code) with hA | hA
 rotate_left
 · have HY : Hid (itB ⟨code, unt, kind, lead, rule, lsz, safe, scr⟩ = false) := Lib.hid (itB_no (fun h => by unfold ItOk at h; simp only at h; rw [hA] at h; simp at h))
   rw [hA]
   go_wp2_with fail
   go_ret
   exact ⟨by rw [HY.out]; rfl, HB.out⟩
 rw [hA]
 have A0 := Lib.hid hA
 clear hA
 go_wp2_with fail
 refine (isCode.spec_walk unt _ S1.out).mono ?_
 rintro e w3 ⟨rfl, rfl⟩
 rcases Bool.eq_false_or_eq_true (isCode.codeB unt) with hA | hA
 rotate_left
 · have HY : Hid (itB ⟨code, unt, kind, lead, rule, lsz, safe, scr⟩ = false) := Lib.hid (itB_no (fun h => by unfold ItOk at h; simp only at h; rw [hA] at h; simp at h))
   rw [hA]
   go_wp2_with fail
   go_ret
   exact ⟨by rw [HY.out]; rfl, HB.out⟩
 rw [hA]
 have A1 := Lib.hid hA
 clear hA
 go_wp2_with fail
 by_cases hi : 0 ≤ kind ∧ kind ≤ 2
 rotate_left
 · have HY : Hid (itB ⟨code, unt, kind, lead, rule, lsz, safe, scr⟩ = false) := Lib.hid (itB_no (fun h => by unfold ItOk at h; simp only at h; omega))
   refine (spec_in_is kind 0 2 false _ (inB_no (by omega))).mono ?_
   rintro e w2 ⟨rfl, rfl⟩
   go_wp2_with fail
   go_ret
   exact ⟨by rw [HY.out]; rfl, HB.out⟩
 refine (spec_in_is kind 0 2 true _ (inB_yes hi.1 hi.2)).mono ?_
 rintro e w2 ⟨rfl, rfl⟩
 have Ikind := Lib.hid hi
 clear hi
 go_wp2_with fail
 by_cases hi : 0 ≤ lead ∧ lead ≤ 30
 rotate_left
 · have HY : Hid (itB ⟨code, unt, kind, lead, rule, lsz, safe, scr⟩ = false) := Lib.hid (itB_no (fun h => by unfold ItOk at h; simp only at h; omega))
   refine (spec_in_is lead 0 30 false _ (inB_no (by omega))).mono ?_
   rintro e w2 ⟨rfl, rfl⟩
   go_wp2_with fail
   go_ret
   exact ⟨by rw [HY.out]; rfl, HB.out⟩
 refine (spec_in_is lead 0 30 true _ (inB_yes hi.1 hi.2)).mono ?_
 rintro e w2 ⟨rfl, rfl⟩
 have Ilead := Lib.hid hi
 clear hi
 go_wp2_with fail
 by_cases hi : 0 ≤ rule ∧ rule ≤ 2
 rotate_left
 · have HY : Hid (itB ⟨code, unt, kind, lead, rule, lsz, safe, scr⟩ = false) := Lib.hid (itB_no (fun h => by unfold ItOk at h; simp only at h; omega))
   refine (spec_in_is rule 0 2 false _ (inB_no (by omega))).mono ?_
   rintro e w2 ⟨rfl, rfl⟩
   go_wp2_with fail
   go_ret
   exact ⟨by rw [HY.out]; rfl, HB.out⟩
 refine (spec_in_is rule 0 2 true _ (inB_yes hi.1 hi.2)).mono ?_
 rintro e w2 ⟨rfl, rfl⟩
 have Irule := Lib.hid hi
 clear hi
 go_wp2_with fail
 by_cases hi : 0 ≤ safe ∧ safe ≤ 100000
 rotate_left
 · have HY : Hid (itB ⟨code, unt, kind, lead, rule, lsz, safe, scr⟩ = false) := Lib.hid (itB_no (fun h => by unfold ItOk at h; simp only at h; omega))
   refine (spec_in_is safe 0 100000 false _ (inB_no (by omega))).mono ?_
   rintro e w2 ⟨rfl, rfl⟩
   go_wp2_with fail
   go_ret
   exact ⟨by rw [HY.out]; rfl, HB.out⟩
 refine (spec_in_is safe 0 100000 true _ (inB_yes hi.1 hi.2)).mono ?_
 rintro e w2 ⟨rfl, rfl⟩
 have Isafe := Lib.hid hi
 clear hi
 go_wp2_with fail
 by_cases hi : 0 ≤ scr ∧ scr ≤ 50
 rotate_left
 · have HY : Hid (itB ⟨code, unt, kind, lead, rule, lsz, safe, scr⟩ = false) := Lib.hid (itB_no (fun h => by unfold ItOk at h; simp only at h; omega))
   refine (spec_in_is scr 0 50 false _ (inB_no (by omega))).mono ?_
   rintro e w2 ⟨rfl, rfl⟩
   go_wp2_with fail
   go_ret
   exact ⟨by rw [HY.out]; rfl, HB.out⟩
 refine (spec_in_is scr 0 50 true _ (inB_yes hi.1 hi.2)).mono ?_
 rintro e w2 ⟨rfl, rfl⟩
 have Iscr := Lib.hid hi
 clear hi
 skip
 by_cases hp : kind = 2 ∧ (lead ≠ 0 ∨ rule ≠ 0 ∨ safe ≠ 0 ∨ scr ≠ 0)
 · have HY : Hid (itB ⟨code, unt, kind, lead, rule, lsz, safe, scr⟩ = false) := Lib.hid (itB_no (fun h => by unfold ItOk at h; simp only at h; exact h.2.2.2.2.2.2.2.1 hp))
   have b0 : (kind == 2) = true := beq_iff_eq.2 hp.1
   have hq := hp.2
   clear hp
   by_cases q0 : lead ≠ 0
   · have b1 : (lead != 0) = true := bne_iff_ne.2 q0
     clear q0 hq
     go_wp2_with fail
     go_ret
     exact ⟨by rw [HY.out]; rfl, HB.out⟩
   have e0 : (lead != 0) = false := by simpa using q0
   by_cases q1 : rule ≠ 0
   · have b1 : (rule != 0) = true := bne_iff_ne.2 q1
     clear q1 hq
     go_wp2_with fail
     go_ret
     exact ⟨by rw [HY.out]; rfl, HB.out⟩
   have e1 : (rule != 0) = false := by simpa using q1
   by_cases q2 : safe ≠ 0
   · have b1 : (safe != 0) = true := bne_iff_ne.2 q2
     clear q2 hq
     go_wp2_with fail
     go_ret
     exact ⟨by rw [HY.out]; rfl, HB.out⟩
   have e2 : (safe != 0) = false := by simpa using q2
   by_cases q3 : scr ≠ 0
   · have b1 : (scr != 0) = true := bne_iff_ne.2 q3
     clear q3 hq
     go_wp2_with fail
     go_ret
     exact ⟨by rw [HY.out]; rfl, HB.out⟩
   have e3 : (scr != 0) = false := by simpa using q3
   omega
 have HP := Lib.hid hp
 by_cases hk : kind = 2
 · have b0 : (kind == 2) = true := beq_iff_eq.2 hk
   have e0 : (lead != 0) = false := by by_cases h : lead = 0 <;> simp [h] <;> exact hp ⟨hk, by omega⟩
   have e1 : (rule != 0) = false := by by_cases h : rule = 0 <;> simp [h] <;> exact hp ⟨hk, by omega⟩
   have e2 : (safe != 0) = false := by by_cases h : safe = 0 <;> simp [h] <;> exact hp ⟨hk, by omega⟩
   have e3 : (scr != 0) = false := by by_cases h : scr = 0 <;> simp [h] <;> exact hp ⟨hk, by omega⟩
   clear hp hk
   by_cases hr : rule = 0
   rotate_left
   · exact absurd e1 (by simp [hr])
   · have r0 : (rule == 0) = true := beq_iff_eq.2 hr
     by_cases hl : lsz = 0
     · have HY : Hid (itB ⟨code, unt, kind, lead, rule, lsz, safe, scr⟩ = true) := Lib.hid (itB_yes ⟨A0.out, A1.out, Ikind.out, Ilead.out, Irule.out, Isafe.out, Iscr.out, HP.out, Or.inl ⟨hr, hl⟩⟩)
       have l0 : (lsz == 0) = true := beq_iff_eq.2 hl
       clear hr hl
       go_wp2_with fail
       go_ret
       exact ⟨by rw [HY.out]; rfl, HB.out⟩
     · have HY : Hid (itB ⟨code, unt, kind, lead, rule, lsz, safe, scr⟩ = false) := Lib.hid (itB_no (fun h => by unfold ItOk at h; simp only at h; rcases h.2.2.2.2.2.2.2.2 with h | h <;> omega))
       have l0 : (lsz == 0) = false := by simpa using hl
       clear hr hl
       go_wp2_with fail
       go_ret
       exact ⟨by rw [HY.out]; rfl, HB.out⟩
 · have b0 : (kind == 2) = false := by simpa using hk
   clear hp hk
   by_cases hr : rule = 0
   · have r0 : (rule == 0) = true := beq_iff_eq.2 hr
     have r1 : (rule != 0) = false := by simpa using hr
     by_cases hl : lsz = 0
     · have HY : Hid (itB ⟨code, unt, kind, lead, rule, lsz, safe, scr⟩ = true) := Lib.hid (itB_yes ⟨A0.out, A1.out, Ikind.out, Ilead.out, Irule.out, Isafe.out, Iscr.out, HP.out, Or.inl ⟨hr, hl⟩⟩)
       have l0 : (lsz == 0) = true := beq_iff_eq.2 hl
       clear hr hl
       go_wp2_with fail
       go_ret
       exact ⟨by rw [HY.out]; rfl, HB.out⟩
     · have HY : Hid (itB ⟨code, unt, kind, lead, rule, lsz, safe, scr⟩ = false) := Lib.hid (itB_no (fun h => by unfold ItOk at h; simp only at h; rcases h.2.2.2.2.2.2.2.2 with h | h <;> omega))
       have l0 : (lsz == 0) = false := by simpa using hl
       clear hr hl
       go_wp2_with fail
       go_ret
       exact ⟨by rw [HY.out]; rfl, HB.out⟩
   · have r0 : (rule == 0) = false := by simpa using hr
     have r1 : (rule != 0) = true := bne_iff_ne.2 hr
     by_cases hl : 1 ≤ lsz ∧ lsz ≤ 1000
     · have HY : Hid (itB ⟨code, unt, kind, lead, rule, lsz, safe, scr⟩ = true) := Lib.hid (itB_yes ⟨A0.out, A1.out, Ikind.out, Ilead.out, Irule.out, Isafe.out, Iscr.out, HP.out, Or.inr ⟨hr, hl.1, hl.2⟩⟩)
       have HI := Lib.hid (inB_yes hl.1 hl.2)
       clear hr hl
       go_wp2_with fail
       refine (spec_in_is lsz 1 1000 true _ HI.out).mono ?_
       rintro e w2 ⟨rfl, rfl⟩
       go_wp2_with fail
       go_ret
       exact ⟨by rw [HY.out]; rfl, HB.out⟩
     · have HY : Hid (itB ⟨code, unt, kind, lead, rule, lsz, safe, scr⟩ = false) := Lib.hid (itB_no (fun h => by unfold ItOk at h; simp only at h; rcases h.2.2.2.2.2.2.2.2 with h | h <;> omega))
       have HI : Hid (inB lsz 1 1000 = false) := Lib.hid (inB_no (by omega))
       clear hr hl
       go_wp2_with fail
       refine (spec_in_is lsz 1 1000 false _ HI.out).mono ?_
       rintro e w2 ⟨rfl, rfl⟩
       go_wp2_with fail
       go_ret
       exact ⟨by rw [HY.out]; rfl, HB.out⟩
end Go.Proofs.YtmnncinpepeocaaGreat

namespace Go.Proofs.YtmnncinpepeocaaGreat
open Go.RowKit

/-- The item has any number by which it is planned itself. -/
def planB (x : IT) : Bool := decide (x.lead ≠ 0 ∨ x.rule ≠ 0 ∨ x.safe ≠ 0 ∨ x.scr ≠ 0)
theorem planB_iff {x : IT} : planB x = true ↔ x.lead ≠ 0 ∨ x.rule ≠ 0 ∨ x.safe ≠ 0 ∨ x.scr ≠ 0 := by unfold planB; exact decide_eq_true_iff
theorem planB_no {x : IT} (h : ¬(x.lead ≠ 0 ∨ x.rule ≠ 0 ∨ x.safe ≠ 0 ∨ x.scr ≠ 0)) : planB x = false := decide_eq_false h
/-- There is such a rule, and the size fits it. -/
def lotB (rule size : Int) : Bool := decide ((rule = 0 ∧ size = 0) ∨ ((rule = 1 ∨ rule = 2) ∧ 1 ≤ size ∧ size ≤ 1000))
theorem lotB_iff {r s : Int} : lotB r s = true ↔ (r = 0 ∧ s = 0) ∨ ((r = 1 ∨ r = 2) ∧ 1 ≤ s ∧ s ≤ 1000) := by unfold lotB; exact decide_eq_true_iff
theorem lotB_no {r s : Int} (h : ¬((r = 0 ∧ s = 0) ∨ ((r = 1 ∨ r = 2) ∧ 1 ≤ s ∧ s ≤ 1000))) : lotB r s = false := decide_eq_false h
theorem lotB_yes {x : IT} (h : ItOk x) : lotB x.rule x.lsz = true := by
 obtain ⟨-, -, -, -, h1, -, -, -, h2⟩ := h
 exact lotB_iff.2 (by omega)
theorem lotB_rule {r s : Int} (h : lotB r s = true) : 0 ≤ r ∧ r ≤ 2 := by have := lotB_iff.1 h; omega
theorem lotB_is {r s : Int} (h : lotB r s = true) : (r = 0 ∧ s = 0) ∨ (r ≠ 0 ∧ 1 ≤ s ∧ s ≤ 1000) := by have := lotB_iff.1 h; omega

set_option maxRecDepth 100000 in
set_option maxHeartbeats 1000000 in
theorem im_upTo (n l : Int) (y : Bool) (w : World) (h : inB n 0 l = y) : Calls Tryz.prog 45 #[.int .i64 n, .int .i64 l] w fun e w' => e = .returned (.bool y) ∧ w' = w := by
 subst h
 by_cases h0 : 0 ≤ n
 · by_cases h1 : n ≤ l
   · have HY := Lib.hid (inB_yes h0 h1)
     go_enter Tryz.func45, Tryz.ntmps45
     go_wp2
     go_ret
     exact ⟨by rw [HY.out]; rfl, rfl⟩
   · have HY := Lib.hid (inB_no (x := n) (lo := 0) (hi := l) (Or.inr (by omega)))
     go_enter Tryz.func45, Tryz.ntmps45
     go_wp2
     go_ret
     exact ⟨by rw [HY.out]; rfl, rfl⟩
 · have HY := Lib.hid (inB_no (x := n) (lo := 0) (hi := l) (Or.inl (by omega)))
   go_enter Tryz.func45, Tryz.ntmps45
   go_wp2
   go_ret
   exact ⟨by rw [HY.out]; rfl, rfl⟩

set_option maxRecDepth 100000 in
set_option maxHeartbeats 1000000 in
theorem im_lotRule (r s : Int) (w : World) : Calls Tryz.prog 137 #[.int .i64 r, .int .i64 s] w fun e w' => e = .returned (.bool (lotB r s)) ∧ w' = w := by
 by_cases h0 : r = 0
 · have HY : Hid (lotB r s = (s == 0)) := Lib.hid (by
    by_cases hs : s = 0
    · rw [lotB_iff.2 (Or.inl ⟨h0, hs⟩)]; exact (beq_iff_eq.2 hs).symm
    · rw [lotB_no (by omega)]; exact (beq_eq_false_iff_ne.2 hs).symm)
   have b0 : (r == 0) = true := beq_iff_eq.2 h0
   clear h0
   go_enter Tryz.func137, Tryz.ntmps137
   go_wp2
   go_ret
   exact ⟨by rw [HY.out]; rfl, rfl⟩
 have b0 : (r == 0) = false := beq_eq_false_iff_ne.2 h0
 by_cases h1 : r = 1 ∨ r = 2
 · by_cases hs : 1 ≤ s
   · have HY : Hid (lotB r s = decide (s ≤ 1000)) := Lib.hid (by
      by_cases hs2 : s ≤ 1000
      · rw [lotB_iff.2 (Or.inr ⟨h1, hs, hs2⟩)]; exact (decide_eq_true hs2).symm
      · rw [lotB_no (by omega)]; exact (decide_eq_false hs2).symm)
     by_cases h2 : r = 1
     · have b1 : (r == 1) = true := beq_iff_eq.2 h2
       clear h0 h1 h2
       go_enter Tryz.func137, Tryz.ntmps137
       go_wp2
       go_ret
       exact ⟨by rw [HY.out]; rfl, rfl⟩
     · have b1 : (r == 1) = false := beq_eq_false_iff_ne.2 h2
       have b2 : (r == 2) = true := beq_iff_eq.2 (by omega)
       clear h0 h1 h2
       go_enter Tryz.func137, Tryz.ntmps137
       go_wp2
       go_ret
       exact ⟨by rw [HY.out]; rfl, rfl⟩
   · have HY : Hid (lotB r s = false) := Lib.hid (lotB_no (by omega))
     by_cases h2 : r = 1
     · have b1 : (r == 1) = true := beq_iff_eq.2 h2
       clear h0 h1 h2
       go_enter Tryz.func137, Tryz.ntmps137
       go_wp2
       go_ret
       exact ⟨by rw [HY.out]; rfl, rfl⟩
     · have b1 : (r == 1) = false := beq_eq_false_iff_ne.2 h2
       have b2 : (r == 2) = true := beq_iff_eq.2 (by omega)
       clear h0 h1 h2
       go_enter Tryz.func137, Tryz.ntmps137
       go_wp2
       go_ret
       exact ⟨by rw [HY.out]; rfl, rfl⟩
 · have HY : Hid (lotB r s = false) := Lib.hid (lotB_no (by omega))
   have b1 : (r == 1) = false := beq_eq_false_iff_ne.2 (by omega)
   have b2 : (r == 2) = false := beq_eq_false_iff_ne.2 (by omega)
   clear h0 h1
   go_enter Tryz.func137, Tryz.ntmps137
   go_wp2
   go_ret
   exact ⟨by rw [HY.out]; rfl, rfl⟩

set_option maxRecDepth 100000 in
set_option maxHeartbeats 1000000 in
theorem im_planned (x : IT) (w : World) : Calls Tryz.prog 136 #[.agg #[.string x.code, .string x.unt, .int .i64 x.kind, .int .i64 x.lead, .int .i64 x.rule, .int .i64 x.lsz, .int .i64 x.safe, .int .i64 x.scr]] w (BoolRes (planB x) w) := by
 obtain ⟨code, unt, kind, lead, rule, lsz, safe, scr⟩ := x
 have HB : Below w.heap.size w (w.alloc (.cells #[.string code, .string unt, .int .i64 kind, .int .i64 lead, .int .i64 rule, .int .i64 lsz, .int .i64 safe, .int .i64 scr] 33)) := (Below.refl _ _).alloc (Nat.le_refl _) _
 by_cases q0 : lead ≠ 0
 · have HY : Hid (planB ⟨code, unt, kind, lead, rule, lsz, safe, scr⟩ = true) := Lib.hid (planB_iff.2 (by simp only; omega))
   have b : (lead != 0) = true := bne_iff_ne.2 q0
   clear q0
   go_enter Tryz.func136, Tryz.ntmps136
   go_wp2_with fail
   go_ret
   exact ⟨by rw [HY.out]; rfl, HB⟩
 have e0 : (lead != 0) = false := by simpa using q0
 by_cases q1 : rule ≠ 0
 · have HY : Hid (planB ⟨code, unt, kind, lead, rule, lsz, safe, scr⟩ = true) := Lib.hid (planB_iff.2 (by simp only; omega))
   have b : (rule != 0) = true := bne_iff_ne.2 q1
   clear q1
   go_enter Tryz.func136, Tryz.ntmps136
   go_wp2_with fail
   go_ret
   exact ⟨by rw [HY.out]; rfl, HB⟩
 have e1 : (rule != 0) = false := by simpa using q1
 by_cases q2 : safe ≠ 0
 · have HY : Hid (planB ⟨code, unt, kind, lead, rule, lsz, safe, scr⟩ = true) := Lib.hid (planB_iff.2 (by simp only; omega))
   have b : (safe != 0) = true := bne_iff_ne.2 q2
   clear q2
   go_enter Tryz.func136, Tryz.ntmps136
   go_wp2_with fail
   go_ret
   exact ⟨by rw [HY.out]; rfl, HB⟩
 have e2 : (safe != 0) = false := by simpa using q2
 by_cases q3 : scr ≠ 0
 · have HY : Hid (planB ⟨code, unt, kind, lead, rule, lsz, safe, scr⟩ = true) := Lib.hid (planB_iff.2 (by simp only; omega))
   have b : (scr != 0) = true := bne_iff_ne.2 q3
   clear q3
   go_enter Tryz.func136, Tryz.ntmps136
   go_wp2_with fail
   go_ret
   exact ⟨by rw [HY.out]; rfl, HB⟩
 have e3 : (scr != 0) = false := by simpa using q3
 have HY : Hid (planB ⟨code, unt, kind, lead, rule, lsz, safe, scr⟩ = false) := Lib.hid (planB_no (by simp only; omega))
 clear q0 q1 q2 q3
 go_enter Tryz.func136, Tryz.ntmps136
 go_wp2_with fail
 go_ret
 exact ⟨by rw [HY.out]; rfl, HB⟩

set_option maxRecDepth 100000 in
set_option maxHeartbeats 4000000 in
theorem im_item (x : IT) (w : World) (hs : IT.Sz x) : Calls Tryz.prog 133 #[IT.val x] w (BoolRes (itB x) w) := by
 obtain ⟨code, unt, kind, lead, rule, lsz, safe, scr⟩ := x
 have S0 : Hid (code.size ≤ maxLen) := Lib.hid hs.1
 have S1 : Hid (unt.size ≤ maxLen) := Lib.hid hs.2
 clear hs
 unfold IT.val
 have HR := heap_alloc_new w (.cells #[.string code, .string unt, .int .i64 kind, .int .i64 lead, .int .i64 rule, .int .i64 lsz, .int .i64 safe, .int .i64 scr] 33)
 have HB : Hid (Below w.heap.size w (w.alloc (.cells #[.string code, .string unt, .int .i64 kind, .int .i64 lead, .int .i64 rule, .int .i64 lsz, .int .i64 safe, .int .i64 scr] 33))) := Lib.hid ((Below.refl _ _).alloc (Nat.le_refl _) _)
 have c0 := cell_of_row _ _ 0 _ _ _ HR
 have c1 := cell_of_row _ _ 1 _ _ _ HR
 have c2 := cell_of_row _ _ 2 _ _ _ HR
 have c3 := cell_of_row _ _ 3 _ _ _ HR
 have c4 := cell_of_row _ _ 4 _ _ _ HR
 have c5 := cell_of_row _ _ 5 _ _ _ HR
 have c6 := cell_of_row _ _ 6 _ _ _ HR
 have c7 := cell_of_row _ _ 7 _ _ _ HR
 go_enter Tryz.func133, Tryz.ntmps133
 go_wp2_with fail
 refine (code_calls code _ S0.out).mono ?_
 rintro e w2 ⟨rfl, hb⟩
 have HR2 := blk_below HR hb
 have HB2 := Lib.hid (HB.out.trans (hb.mono HB.out.size))
 clear hb c0 c1 c2 c3 c4 c5 c6 c7 HR HB
 have c0 := cell_of_row _ _ 0 _ _ _ HR2
 have c1 := cell_of_row _ _ 1 _ _ _ HR2
 have c2 := cell_of_row _ _ 2 _ _ _ HR2
 have c3 := cell_of_row _ _ 3 _ _ _ HR2
 have c4 := cell_of_row _ _ 4 _ _ _ HR2
 have c5 := cell_of_row _ _ 5 _ _ _ HR2
 have c6 := cell_of_row _ _ 6 _ _ _ HR2
 have c7 := cell_of_row _ _ 7 _ _ _ HR2
 rcases Bool.eq_false_or_eq_true (isCode.codeB code) with hA | hA
 rotate_left
 · have HY : Hid (itB ⟨code, unt, kind, lead, rule, lsz, safe, scr⟩ = false) := Lib.hid (itB_no (fun h => by unfold ItOk at h; simp only at h; rw [hA] at h; simp at h))
   rw [hA]
   go_wp2_with fail
   go_ret
   exact ⟨by rw [HY.out]; rfl, HB2.out⟩
 rw [hA]
 have A0 := Lib.hid hA
 clear hA
 go_wp2_with fail
 refine (code_calls unt _ S1.out).mono ?_
 rintro e w3 ⟨rfl, hb⟩
 have HR3 := blk_below HR2 hb
 have HB3 := Lib.hid (HB2.out.trans (hb.mono HB2.out.size))
 clear hb c0 c1 c2 c3 c4 c5 c6 c7 HR2 HB2
 have c0 := cell_of_row _ _ 0 _ _ _ HR3
 have c1 := cell_of_row _ _ 1 _ _ _ HR3
 have c2 := cell_of_row _ _ 2 _ _ _ HR3
 have c3 := cell_of_row _ _ 3 _ _ _ HR3
 have c4 := cell_of_row _ _ 4 _ _ _ HR3
 have c5 := cell_of_row _ _ 5 _ _ _ HR3
 have c6 := cell_of_row _ _ 6 _ _ _ HR3
 have c7 := cell_of_row _ _ 7 _ _ _ HR3
 rcases Bool.eq_false_or_eq_true (isCode.codeB unt) with hA | hA
 rotate_left
 · have HY : Hid (itB ⟨code, unt, kind, lead, rule, lsz, safe, scr⟩ = false) := Lib.hid (itB_no (fun h => by unfold ItOk at h; simp only at h; rw [hA] at h; simp at h))
   rw [hA]
   go_wp2_with fail
   go_ret
   exact ⟨by rw [HY.out]; rfl, HB3.out⟩
 rw [hA]
 have A1 := Lib.hid hA
 clear hA
 skip
 by_cases hk0 : kind < 0
 · have HY : Hid (itB ⟨code, unt, kind, lead, rule, lsz, safe, scr⟩ = false) := Lib.hid (itB_no (fun h => by unfold ItOk at h; simp only at h; omega))
   go_wp2_with fail
   go_ret
   exact ⟨by rw [HY.out]; rfl, HB3.out⟩
 by_cases hk2 : 2 < kind
 · have HY : Hid (itB ⟨code, unt, kind, lead, rule, lsz, safe, scr⟩ = false) := Lib.hid (itB_no (fun h => by unfold ItOk at h; simp only at h; omega))
   go_wp2_with fail
   go_ret
   exact ⟨by rw [HY.out]; rfl, HB3.out⟩
 have Ikind : Hid (0 ≤ kind ∧ kind ≤ 2) := Lib.hid (by omega)
 by_cases hk : kind = 2
 · have b0 : (kind == 2) = true := beq_iff_eq.2 hk
   have HK := Lib.hid hk
   clear hk
   go_wp2_with fail
   refine (im_planned ⟨code, unt, kind, lead, rule, lsz, safe, scr⟩ w3).mono ?_
   rintro e w4 ⟨rfl, hb⟩
   have HB4 := Lib.hid (HB3.out.trans (hb.mono HB3.out.size))
   have HR4 := blk_below HR3 hb
   clear hb c0 c1 c2 c3 c4 c5 c6 c7 HR3
   have c0 := cell_of_row _ _ 0 _ _ _ HR4
   have c1 := cell_of_row _ _ 1 _ _ _ HR4
   have c2 := cell_of_row _ _ 2 _ _ _ HR4
   have c3 := cell_of_row _ _ 3 _ _ _ HR4
   have c4 := cell_of_row _ _ 4 _ _ _ HR4
   have c5 := cell_of_row _ _ 5 _ _ _ HR4
   have c6 := cell_of_row _ _ 6 _ _ _ HR4
   have c7 := cell_of_row _ _ 7 _ _ _ HR4
   rcases Bool.eq_false_or_eq_true (planB ⟨code, unt, kind, lead, rule, lsz, safe, scr⟩) with hP | hP
   · have HY : Hid (itB ⟨code, unt, kind, lead, rule, lsz, safe, scr⟩ = false) := Lib.hid (itB_no (fun h => by unfold ItOk at h; simp only at h; exact h.2.2.2.2.2.2.2.1 ⟨HK.out, planB_iff.1 hP⟩))
     rw [hP]
     go_wp2_with fail
     go_ret
     exact ⟨by rw [HY.out]; rfl, HB4.out⟩
   have HP : Hid (¬(lead ≠ 0 ∨ rule ≠ 0 ∨ safe ≠ 0 ∨ scr ≠ 0)) := Lib.hid (fun h => by rw [planB_iff.2 h] at hP; cases hP)
   rw [hP]
   clear hP
   go_wp2_with fail
   rcases Bool.eq_false_or_eq_true (lotB rule lsz) with hL | hL
   rotate_left
   · have HY : Hid (itB ⟨code, unt, kind, lead, rule, lsz, safe, scr⟩ = false) := Lib.hid (itB_no (fun h => by unfold ItOk at h; simp only at h; have h9 : lotB rule lsz = true := lotB_yes (x := ⟨code, unt, kind, lead, rule, lsz, safe, scr⟩) h; rw [hL] at h9; cases h9))
     refine (im_lotRule rule lsz _).mono ?_
     rintro e w5 ⟨rfl, rfl⟩
     rw [hL]
     go_wp2_with fail
     go_ret
     exact ⟨by rw [HY.out]; rfl, HB4.out⟩
   refine (im_lotRule rule lsz _).mono ?_
   rintro e w5 ⟨rfl, rfl⟩
   rw [hL]
   have HL := Lib.hid hL
   clear hL
   go_wp2_with fail
   by_cases hi : 0 ≤ lead ∧ lead ≤ 30
   rotate_left
   · have HY : Hid (itB ⟨code, unt, kind, lead, rule, lsz, safe, scr⟩ = false) := Lib.hid (itB_no (fun h => by unfold ItOk at h; simp only at h; omega))
     refine (im_upTo lead 30 false _ (inB_no (by omega))).mono ?_
     rintro e w6 ⟨rfl, rfl⟩
     go_wp2_with fail
     go_ret
     exact ⟨by rw [HY.out]; rfl, HB4.out⟩
   refine (im_upTo lead 30 true _ (inB_yes hi.1 hi.2)).mono ?_
   rintro e w6 ⟨rfl, rfl⟩
   have Ilead := Lib.hid hi
   clear hi
   go_wp2_with fail
   by_cases hi : 0 ≤ safe ∧ safe ≤ 100000
   rotate_left
   · have HY : Hid (itB ⟨code, unt, kind, lead, rule, lsz, safe, scr⟩ = false) := Lib.hid (itB_no (fun h => by unfold ItOk at h; simp only at h; omega))
     refine (im_upTo safe 100000 false _ (inB_no (by omega))).mono ?_
     rintro e w6 ⟨rfl, rfl⟩
     go_wp2_with fail
     go_ret
     exact ⟨by rw [HY.out]; rfl, HB4.out⟩
   refine (im_upTo safe 100000 true _ (inB_yes hi.1 hi.2)).mono ?_
   rintro e w6 ⟨rfl, rfl⟩
   have Isafe := Lib.hid hi
   clear hi
   go_wp2_with fail
   by_cases hi : 0 ≤ scr ∧ scr ≤ 50
   rotate_left
   · have HY : Hid (itB ⟨code, unt, kind, lead, rule, lsz, safe, scr⟩ = false) := Lib.hid (itB_no (fun h => by unfold ItOk at h; simp only at h; omega))
     refine (im_upTo scr 50 false _ (inB_no (by omega))).mono ?_
     rintro e w6 ⟨rfl, rfl⟩
     go_wp2_with fail
     go_ret
     exact ⟨by rw [HY.out]; rfl, HB4.out⟩
   refine (im_upTo scr 50 true _ (inB_yes hi.1 hi.2)).mono ?_
   rintro e w6 ⟨rfl, rfl⟩
   have Iscr := Lib.hid hi
   clear hi
   have HY : Hid (itB ⟨code, unt, kind, lead, rule, lsz, safe, scr⟩ = true) := Lib.hid (itB_yes ⟨A0.out, A1.out, Ikind.out, Ilead.out, lotB_rule HL.out, Isafe.out, Iscr.out, fun h => HP.out h.2, lotB_is HL.out⟩)
   go_wp2_with fail
   go_ret
   exact ⟨by rw [HY.out]; rfl, HB4.out⟩
 · have b0 : (kind == 2) = false := by simpa using hk
   have HK := Lib.hid hk
   clear hk
   go_wp2_with fail
   rcases Bool.eq_false_or_eq_true (lotB rule lsz) with hL | hL
   rotate_left
   · have HY : Hid (itB ⟨code, unt, kind, lead, rule, lsz, safe, scr⟩ = false) := Lib.hid (itB_no (fun h => by unfold ItOk at h; simp only at h; have h9 : lotB rule lsz = true := lotB_yes (x := ⟨code, unt, kind, lead, rule, lsz, safe, scr⟩) h; rw [hL] at h9; cases h9))
     refine (im_lotRule rule lsz _).mono ?_
     rintro e w5 ⟨rfl, rfl⟩
     rw [hL]
     go_wp2_with fail
     go_ret
     exact ⟨by rw [HY.out]; rfl, HB3.out⟩
   refine (im_lotRule rule lsz _).mono ?_
   rintro e w5 ⟨rfl, rfl⟩
   rw [hL]
   have HL := Lib.hid hL
   clear hL
   go_wp2_with fail
   by_cases hi : 0 ≤ lead ∧ lead ≤ 30
   rotate_left
   · have HY : Hid (itB ⟨code, unt, kind, lead, rule, lsz, safe, scr⟩ = false) := Lib.hid (itB_no (fun h => by unfold ItOk at h; simp only at h; omega))
     refine (im_upTo lead 30 false _ (inB_no (by omega))).mono ?_
     rintro e w6 ⟨rfl, rfl⟩
     go_wp2_with fail
     go_ret
     exact ⟨by rw [HY.out]; rfl, HB3.out⟩
   refine (im_upTo lead 30 true _ (inB_yes hi.1 hi.2)).mono ?_
   rintro e w6 ⟨rfl, rfl⟩
   have Ilead := Lib.hid hi
   clear hi
   go_wp2_with fail
   by_cases hi : 0 ≤ safe ∧ safe ≤ 100000
   rotate_left
   · have HY : Hid (itB ⟨code, unt, kind, lead, rule, lsz, safe, scr⟩ = false) := Lib.hid (itB_no (fun h => by unfold ItOk at h; simp only at h; omega))
     refine (im_upTo safe 100000 false _ (inB_no (by omega))).mono ?_
     rintro e w6 ⟨rfl, rfl⟩
     go_wp2_with fail
     go_ret
     exact ⟨by rw [HY.out]; rfl, HB3.out⟩
   refine (im_upTo safe 100000 true _ (inB_yes hi.1 hi.2)).mono ?_
   rintro e w6 ⟨rfl, rfl⟩
   have Isafe := Lib.hid hi
   clear hi
   go_wp2_with fail
   by_cases hi : 0 ≤ scr ∧ scr ≤ 50
   rotate_left
   · have HY : Hid (itB ⟨code, unt, kind, lead, rule, lsz, safe, scr⟩ = false) := Lib.hid (itB_no (fun h => by unfold ItOk at h; simp only at h; omega))
     refine (im_upTo scr 50 false _ (inB_no (by omega))).mono ?_
     rintro e w6 ⟨rfl, rfl⟩
     go_wp2_with fail
     go_ret
     exact ⟨by rw [HY.out]; rfl, HB3.out⟩
   refine (im_upTo scr 50 true _ (inB_yes hi.1 hi.2)).mono ?_
   rintro e w6 ⟨rfl, rfl⟩
   have Iscr := Lib.hid hi
   clear hi
   have HY : Hid (itB ⟨code, unt, kind, lead, rule, lsz, safe, scr⟩ = true) := Lib.hid (itB_yes ⟨A0.out, A1.out, Ikind.out, Ilead.out, lotB_rule HL.out, Isafe.out, Iscr.out, fun h => HK.out h.1, lotB_is HL.out⟩)
   go_wp2_with fail
   go_ret
   exact ⟨by rw [HY.out]; rfl, HB3.out⟩
end Go.Proofs.YtmnncinpepeocaaGreat

namespace Go.Proofs.YtmnncinpepeocaaGreat
open Go.RowKit

/-- The first k items are items with ascending codes. -/
def CatTo (l : List IT) (k : Nat) : Prop := ∀ i (hi : i < l.length), i < k → ItOk (l[i]'hi) ∧ ∀ (_ : 0 < i), strLt (l[i - 1]'(by omega)).code (l[i]'hi).code
def CatOk (l : List IT) : Prop := CatTo l l.length ∧ l.length ≤ 12
open Classical in
noncomputable def catB (l : List IT) : Bool := decide (CatOk l)
open Classical in
theorem catB_yes {l : List IT} (h : CatOk l) : catB l = true := decide_eq_true h
open Classical in
theorem catB_no {l : List IT} (h : ¬CatOk l) : catB l = false := decide_eq_false h
open Classical in
theorem catB_iff {l : List IT} : catB l = true ↔ CatOk l := by unfold catB; exact decide_eq_true_iff
theorem CatTo.zero (l : List IT) : CatTo l 0 := fun _ _ h => absurd h (Nat.not_lt_zero _)
theorem CatTo.succ {l : List IT} {k : Nat} (h : CatTo l k) (hk : k < l.length) (h1 : ItOk (l[k]'hk)) (h2 : ∀ (_ : 0 < k), strLt (l[k - 1]'(by omega)).code (l[k]'hk).code) : CatTo l (k + 1) := by
 intro i hi hlt
 by_cases e : i = k
 · subst e; exact ⟨h1, h2⟩
 · exact h i hi (by omega)
theorem CatTo.all {l : List IT} {k : Nat} (h : CatTo l k) (hk : l.length ≤ k) : CatTo l l.length := fun i hi _ => h i hi (by omega)
theorem CatTo.no1 {l : List IT} {k : Nat} (hk : k < l.length) (h : ¬ItOk (l[k]'hk)) : catB l = false := catB_no (fun h2 => h (h2.1 k hk hk).1)
theorem CatTo.no2 {l : List IT} {k : Nat} (hk : k < l.length) (h0 : 0 < k) (h : ¬strLt (l[k - 1]'(by omega)).code (l[k]'hk).code) : catB l = false := catB_no (fun h2 => h ((h2.1 k hk hk).2 h0))
/-- Where an item is first found, -1 for nowhere. -/
def fiI (l : List IT) (s : ByteArray) : Int := fndI (l.map IT.code) s
theorem fi_at {l : List IT} {s : ByteArray} {k : Nat} (hk : k < l.length) (h : (l[k]'hk).code = s) (hb : ∀ j (hj : j < l.length), j < k → (l[j]'hj).code ≠ s) : fiI l s = k :=
 fnd_at (ns := l.map IT.code) (by simpa using hk) (by simpa using h) (fun j hj => by simpa using hb j (by omega) hj)
theorem fi_no {l : List IT} {s : ByteArray} (hb : ∀ j (hj : j < l.length), (l[j]'hj).code ≠ s) : fiI l s = -1 :=
 fnd_no (ns := l.map IT.code) (fun j hj => by simpa using hb j (by simpa using hj))
/-- A number is returned. -/
def IntRes (z : Int) (w : World) (e : Ending) (w' : World) : Prop := e = .returned (.int .i64 z) ∧ Below w.heap.size w w'
end Go.Proofs.YtmnncinpepeocaaGreat

namespace Go.Proofs.YtmnncinpepeocaaGreat
open Go.RowKit

set_option maxRecDepth 100000 in
set_option maxHeartbeats 2000000 in
theorem spec_catalog (v : Value) (l : List IT) (w : World) (h : IT.Is w v l) (hm : l.length ≤ maxLen) (hs : ∀ r, r ∈ l → IT.Sz r) :
 Calls Tryz.prog 91 #[v] w (BoolRes (catB l) w) := by
 unfold maxLen at hm
 have HX := Lib.hid h
 have HS := Lib.hid hs
 obtain ⟨a, c, rfl⟩ := h.slice
 clear h hs
 go_enter Tryz.func91, Tryz.ntmps91
 go_wp2_with fail
 go_loopw [3] (fun i wr => ∃ k : Nat, k ≤ l.length ∧ i = .int .i64 k ∧ Hid (CatTo l k) ∧ Hid (Below w.heap.size w wr)) (fun i _ => l.length - (intOf i).toNat)
 case atStart => exact ⟨0, Nat.zero_le _, rfl, Lib.hid (CatTo.zero l), Lib.hid (Below.refl _ _)⟩
 case round =>
  obtain ⟨k, hk, rfl, HC, HB⟩ := hrel
  by_cases hlt : k < l.length
  rotate_left
  · by_cases h12 : l.length ≤ 12
    · have HY : Hid (catB l = true) := Lib.hid (catB_yes ⟨HC.out.all (by omega), h12⟩)
      have hd : decide ((l.length : Int) ≤ 12) = true := decide_eq_true (by omega)
      go_wp2_with fail
      go_ret
      exact ⟨by rw [HY.out]; rfl, HB.out⟩
    · have HY : Hid (catB l = false) := Lib.hid (catB_no (fun h => h12 h.2))
      have hd : decide ((l.length : Int) ≤ 12) = false := decide_eq_false (by omega)
      go_wp2_with fail
      go_ret
      exact ⟨by rw [HY.out]; rfl, HB.out⟩
  have HLT := Lib.hid hlt
  have hsz := HS.out _ (List.getElem_mem hlt)
  have HN1 : Hid (¬ItOk (l[k]'hlt) → catB l = false) := Lib.hid (CatTo.no1 hlt)
  have HN2 : Hid (∀ h0 : 0 < k, ¬strLt (l[k - 1]'(by omega)).code (l[k]'hlt).code → catB l = false) := Lib.hid (fun h0 => CatTo.no2 hlt h0)
  have HSU : Hid (ItOk (l[k]'hlt) → (∀ h0 : 0 < k, strLt (l[k - 1]'(by omega)).code (l[k]'hlt).code) → CatTo l (k + 1)) := Lib.hid (fun x1 x2 => HC.out.succ hlt x1 x2)
  obtain ⟨b2, o2, c2, hv2, hc2, hcell2⟩ := HX.out.some (by omega)
  simp only [Value.slice.injEq] at hv2
  obtain ⟨rfl, _, rfl⟩ := hv2
  have HAT := Lib.hid (hcell2.below HB.out)
  obtain ⟨e0, e1, e2, e3, e4, e5, e6, e7⟩ := HAT.out.at k hlt
  clear hcell2 hc2
  obtain ⟨x, hx⟩ : ∃ x, l[k]'hlt = x := ⟨_, rfl⟩
  rw [hx] at hsz HN1 e0 e1 e2 e3 e4 e5 e6 e7
  simp only [hx] at HN2 HSU
  have HIT := Lib.hid (fun W => spec_item x W hsz)
  unfold IT.val at HIT
  have HXX := Lib.hid hx
  clear hx hsz
  rcases Bool.eq_false_or_eq_true (itB x) with hi | hi
  rotate_left
  · have HY := Lib.hid (HN1.out (fun h => by rw [itB_yes h] at hi; cases hi))
    rw [hi] at HIT
    clear hi
    go_upto_region 4 with fail
    refine wp_region_held_drew (S := (fun W' => Hid (Below wr.heap.size wr W') ∧ W'.cell? ⟨b2, o2 + k * 8, none⟩ = some (.string x.code) ∧ W'.cell? ⟨b2, o2 + k * 8 + 1, none⟩ = some (.string x.unt) ∧ W'.cell? ⟨b2, o2 + k * 8 + 2, none⟩ = some (.int .i64 x.kind) ∧ W'.cell? ⟨b2, o2 + k * 8 + 3, none⟩ = some (.int .i64 x.lead) ∧ W'.cell? ⟨b2, o2 + k * 8 + 4, none⟩ = some (.int .i64 x.rule) ∧ W'.cell? ⟨b2, o2 + k * 8 + 5, none⟩ = some (.int .i64 x.lsz) ∧ W'.cell? ⟨b2, o2 + k * 8 + 6, none⟩ = some (.int .i64 x.safe) ∧ W'.cell? ⟨b2, o2 + k * 8 + 7, none⟩ = some (.int .i64 x.scr))) (by kernel_rfl) (hold8 e0 e1 e2 e3 e4 e5 e6 e7 (Below.refl _ _).drew) (fun hHeld => ?_)
    refine wpAnyH_take (i := 0) (oi := { dst := some 10, op := Op.move (Operand.tmp 0), type := 24, pos := _, after := #[], guard := none }) (v := ?vr1x1) rfl (by kernel_rfl) (by kernel_rfl) (by kernel_rfl) (fun _ _ _ h => h) (Or.inl ⟨by rfl, ?yr1x1⟩) (by assumption) ?rr1x1
    case yr1x1 => (intro w' hSw; (try dsimp only at hSw); go_simp; (try with_reducible rfl))
    refine wpAnyH_take (i := 1) (oi := { dst := some 11, op := Op.move (Operand.tmp 3), type := 3, pos := _, after := #[], guard := none }) (v := ?vr1x2) rfl (by kernel_rfl) (by kernel_rfl) (by kernel_rfl) (fun _ _ _ h => h) (Or.inl ⟨by rfl, ?yr1x2⟩) (by assumption) ?rr1x2
    case yr1x2 => (intro w' hSw; (try dsimp only at hSw); go_simp; (try with_reducible rfl))
    refine wpAnyH_take (i := 2) (oi := { dst := some 12, op := Op.indexAddr 24 (Operand.tmp 10) (Operand.tmp 11), type := 0, pos := _, after := #[{ on := 0, ground := Ground.data }, { on := 1, ground := Ground.data }], guard := none }) (v := ?vr1x3) rfl (by kernel_rfl) (by kernel_rfl) (by kernel_rfl) (fun _ _ _ h => h) (Or.inl ⟨by rfl, ?yr1x3⟩) (by assumption) ?rr1x3
    case yr1x3 => (intro w' hSw; (try dsimp only at hSw); go_simp; (try with_reducible rfl))
    (try simp only [Act.put, List.setIfInBounds_toArray, List.set_cons_zero, List.set_cons_succ])
    refine wpAnyH_take (i := 3) (oi := { dst := some 13, op := Op.load 33 (Operand.tmp 12), type := 33, pos := _, after := #[{ on := 2, ground := Ground.data }], guard := none }) (v := ?vr1x4) rfl (by kernel_rfl) (by kernel_rfl) (by kernel_rfl) (fun _ _ _ h => h) (Or.inl ⟨by rfl, ?yr1x4⟩) (by assumption) ?rr1x4
    case yr1x4 => (intro w' hSw; (try dsimp only at hSw); go_simp; (try with_reducible rfl))
    (try simp only [Act.put, List.setIfInBounds_toArray, List.set_cons_zero, List.set_cons_succ])
    refine wpAnyH_ready (rs := [4]) (by kernel_rfl) (by simp) ?_
    refine AllReadyH.cons (o := { dst := some 14, op := Op.call { callee := Callee.value (Operand.func 113), args := #[Operand.tmp 13], argTypes := #[33] }, type := 4, pos := _, after := #[{ on := 3, ground := Ground.data }], guard := none }) rfl (fun K hK => ?_) AllReadyH.nil
    go_simp
    refine (HIT.out _).mono ?_; rintro e w' ⟨rfl, hb⟩; have hle := hold_le (by assumption) hb
    (try go_wp2_with fail)
    refine hK.out _ _ ?_ (fun hHeld => ?_)
    · (try dsimp only); first | assumption | exact hold8 e0 e1 e2 e3 e4 e5 e6 e7 (hold_call (by assumption) (by assumption))
    clear hK K
    (try simp only [Act.put, List.setIfInBounds_toArray, List.set_cons_zero, List.set_cons_succ])
    refine wpAnyH_take (i := 5) (oi := { dst := some 15, op := Op.unOp UnOp.not 4 (Operand.tmp 14), type := 4, pos := _, after := #[{ on := 4, ground := Ground.data }], guard := none }) (v := ?vr1x5) rfl (by kernel_rfl) (by kernel_rfl) (by kernel_rfl) (fun _ _ _ h => h) (Or.inl ⟨by rfl, ?yr1x5⟩) (by assumption) ?rr1x5
    case yr1x5 => (intro w' hSw; (try dsimp only at hSw); go_simp; (try with_reducible rfl))
    refine wpAnyH_take (i := 6) (oi := { dst := some 16, op := Op.move (Operand.tmp 15), type := 4, pos := _, after := #[{ on := 5, ground := Ground.data }, { on := 4, ground := Ground.chain }], guard := none }) (v := ?vr1x6) rfl (by kernel_rfl) (by kernel_rfl) (by kernel_rfl) (fun _ _ _ h => h) (Or.inl ⟨by rfl, ?yr1x6⟩) (by assumption) ?rr1x6
    case yr1x6 => (intro w' hSw; (try dsimp only at hSw); go_simp; (try with_reducible rfl))
    refine wpAnyH_take (i := 7) (oi := { dst := some 17, op := Op.move (Operand.tmp 3), type := 3, pos := _, after := #[{ on := 6, ground := Ground.guard }], guard := some (6, false) }) (v := undef) rfl (by kernel_rfl) (by kernel_rfl) (by kernel_rfl) (fun _ _ _ h => h) (Or.inr ⟨by rfl, rfl⟩) (by assumption) ?_
    (try simp only [Act.put, List.setIfInBounds_toArray, List.set_cons_zero, List.set_cons_succ])
    refine wpAnyH_take (i := 8) (oi := { dst := some 18, op := Op.binOp BinOp.gtr 3 (Operand.tmp 17) (Operand.const (Value.int IntKind.i64 0)) 3, type := 4, pos := _, after := #[{ on := 7, ground := Ground.data }, { on := 6, ground := Ground.guard }], guard := some (6, false) }) (v := undef) rfl (by kernel_rfl) (by kernel_rfl) (by kernel_rfl) (fun _ _ _ h => h) (Or.inr ⟨by rfl, rfl⟩) (by assumption) ?_
    refine wpAnyH_take (i := 9) (oi := { dst := some 19, op := Op.move (Operand.tmp 18), type := 4, pos := _, after := #[{ on := 8, ground := Ground.data }, { on := 6, ground := Ground.chain }, { on := 6, ground := Ground.guard }], guard := some (6, false) }) (v := undef) rfl (by kernel_rfl) (by kernel_rfl) (by kernel_rfl) (fun _ _ _ h => h) (Or.inr ⟨by rfl, rfl⟩) (by assumption) ?_
    refine wpAnyH_take (i := 10) (oi := { dst := some 20, op := Op.move (Operand.tmp 0), type := 24, pos := _, after := #[{ on := 9, ground := Ground.guard }], guard := some (9, true) }) (v := undef) rfl (by kernel_rfl) (by kernel_rfl) (by kernel_rfl) (fun _ _ _ h => h) (Or.inr ⟨by rfl, rfl⟩) (by assumption) ?_
    (try simp only [Act.put, List.setIfInBounds_toArray, List.set_cons_zero, List.set_cons_succ])
    refine wpAnyH_take (i := 11) (oi := { dst := some 21, op := Op.move (Operand.tmp 3), type := 3, pos := _, after := #[{ on := 9, ground := Ground.guard }], guard := some (9, true) }) (v := undef) rfl (by kernel_rfl) (by kernel_rfl) (by kernel_rfl) (fun _ _ _ h => h) (Or.inr ⟨by rfl, rfl⟩) (by assumption) ?_
    refine wpAnyH_take (i := 12) (oi := { dst := some 22, op := Op.binOp BinOp.sub 3 (Operand.tmp 21) (Operand.const (Value.int IntKind.i64 1)) 3, type := 3, pos := _, after := #[{ on := 11, ground := Ground.data }, { on := 9, ground := Ground.guard }], guard := some (9, true) }) (v := undef) rfl (by kernel_rfl) (by kernel_rfl) (by kernel_rfl) (fun _ _ _ h => h) (Or.inr ⟨by rfl, rfl⟩) (by assumption) ?_
    refine wpAnyH_take (i := 13) (oi := { dst := some 23, op := Op.indexAddr 24 (Operand.tmp 20) (Operand.tmp 22), type := 0, pos := _, after := #[{ on := 10, ground := Ground.data }, { on := 12, ground := Ground.data }, { on := 9, ground := Ground.guard }], guard := some (9, true) }) (v := undef) rfl (by kernel_rfl) (by kernel_rfl) (by kernel_rfl) (fun _ _ _ h => h) (Or.inr ⟨by rfl, rfl⟩) (by assumption) ?_
    (try simp only [Act.put, List.setIfInBounds_toArray, List.set_cons_zero, List.set_cons_succ])
    refine wpAnyH_take (i := 14) (oi := { dst := some 24, op := Op.fieldAddr 33 (Operand.tmp 23) 0, type := 0, pos := _, after := #[{ on := 13, ground := Ground.data }, { on := 9, ground := Ground.guard }], guard := some (9, true) }) (v := undef) rfl (by kernel_rfl) (by kernel_rfl) (by kernel_rfl) (fun _ _ _ h => h) (Or.inr ⟨by rfl, rfl⟩) (by assumption) ?_
    refine wpAnyH_take (i := 15) (oi := { dst := some 25, op := Op.load 9 (Operand.tmp 24), type := 9, pos := _, after := #[{ on := 14, ground := Ground.data }, { on := 9, ground := Ground.guard }], guard := some (9, true) }) (v := undef) rfl (by kernel_rfl) (by kernel_rfl) (by kernel_rfl) (fun _ _ _ h => h) (Or.inr ⟨by rfl, rfl⟩) (by assumption) ?_
    refine wpAnyH_take (i := 16) (oi := { dst := some 26, op := Op.move (Operand.tmp 0), type := 24, pos := _, after := #[{ on := 9, ground := Ground.guard }], guard := some (9, true) }) (v := undef) rfl (by kernel_rfl) (by kernel_rfl) (by kernel_rfl) (fun _ _ _ h => h) (Or.inr ⟨by rfl, rfl⟩) (by assumption) ?_
    (try simp only [Act.put, List.setIfInBounds_toArray, List.set_cons_zero, List.set_cons_succ])
    refine wpAnyH_take (i := 17) (oi := { dst := some 27, op := Op.move (Operand.tmp 3), type := 3, pos := _, after := #[{ on := 9, ground := Ground.guard }], guard := some (9, true) }) (v := undef) rfl (by kernel_rfl) (by kernel_rfl) (by kernel_rfl) (fun _ _ _ h => h) (Or.inr ⟨by rfl, rfl⟩) (by assumption) ?_
    refine wpAnyH_take (i := 18) (oi := { dst := some 28, op := Op.indexAddr 24 (Operand.tmp 26) (Operand.tmp 27), type := 0, pos := _, after := #[{ on := 16, ground := Ground.data }, { on := 17, ground := Ground.data }, { on := 9, ground := Ground.guard }], guard := some (9, true) }) (v := undef) rfl (by kernel_rfl) (by kernel_rfl) (by kernel_rfl) (fun _ _ _ h => h) (Or.inr ⟨by rfl, rfl⟩) (by assumption) ?_
    refine wpAnyH_take (i := 19) (oi := { dst := some 29, op := Op.fieldAddr 33 (Operand.tmp 28) 0, type := 0, pos := _, after := #[{ on := 18, ground := Ground.data }, { on := 9, ground := Ground.guard }], guard := some (9, true) }) (v := undef) rfl (by kernel_rfl) (by kernel_rfl) (by kernel_rfl) (fun _ _ _ h => h) (Or.inr ⟨by rfl, rfl⟩) (by assumption) ?_
    (try simp only [Act.put, List.setIfInBounds_toArray, List.set_cons_zero, List.set_cons_succ])
    refine wpAnyH_take (i := 20) (oi := { dst := some 30, op := Op.load 9 (Operand.tmp 29), type := 9, pos := _, after := #[{ on := 19, ground := Ground.data }, { on := 9, ground := Ground.guard }], guard := some (9, true) }) (v := undef) rfl (by kernel_rfl) (by kernel_rfl) (by kernel_rfl) (fun _ _ _ h => h) (Or.inr ⟨by rfl, rfl⟩) (by assumption) ?_
    refine wpAnyH_take (i := 21) (oi := { dst := some 31, op := Op.binOp BinOp.geq 9 (Operand.tmp 25) (Operand.tmp 30) 9, type := 4, pos := _, after := #[{ on := 15, ground := Ground.data }, { on := 20, ground := Ground.data }, { on := 9, ground := Ground.guard }], guard := some (9, true) }) (v := undef) rfl (by kernel_rfl) (by kernel_rfl) (by kernel_rfl) (fun _ _ _ h => h) (Or.inr ⟨by rfl, rfl⟩) (by assumption) ?_
    refine wpAnyH_take (i := 22) (oi := { dst := some 32, op := Op.pick (Operand.tmp 19) (Operand.tmp 31) (Operand.const (Value.bool false)), type := 4, pos := _, after := #[{ on := 9, ground := Ground.data }, { on := 21, ground := Ground.data }, { on := 6, ground := Ground.guard }], guard := some (6, false) }) (v := undef) rfl (by kernel_rfl) (by kernel_rfl) (by kernel_rfl) (fun _ _ _ h => h) (Or.inr ⟨by rfl, rfl⟩) (by assumption) ?_
    (try simp only [Act.put, List.setIfInBounds_toArray, List.set_cons_zero, List.set_cons_succ])
    refine wpAnyH_take (i := 23) (oi := { dst := some 33, op := Op.pick (Operand.tmp 16) (Operand.const (Value.bool true)) (Operand.tmp 32), type := 4, pos := _, after := #[{ on := 6, ground := Ground.data }, { on := 22, ground := Ground.data }], guard := none }) (v := ?vr1x7) rfl (by kernel_rfl) (by kernel_rfl) (by kernel_rfl) (fun _ _ _ h => h) (Or.inl ⟨by rfl, ?yr1x7⟩) (by assumption) ?rr1x7
    case yr1x7 => (intro w' hSw; (try dsimp only at hSw); go_simp; (try with_reducible rfl))
    (try simp only [Act.put, List.setIfInBounds_toArray, List.set_cons_zero, List.set_cons_succ])
    refine wpAnyH_done (by kernel_rfl) ?_ _
    have hS := (by assumption : Hid (Below wr.heap.size wr _) ∧ _)
    have HBF := Lib.hid (HB.out.trans (hS.1.out.mono HB.out.size))
    go_wp2_with fail
    go_ret
    exact ⟨by rw [HY.out]; rfl, HBF.out⟩
  have HOK := Lib.hid (itB_iff.1 hi)
  rw [hi] at HIT
  clear hi
  by_cases hk0 : 0 < k
  rotate_left
  · have HS2 := Lib.hid (HSU.out HOK.out (fun h0 => absurd h0 hk0))
    have hd : decide ((0 : Int) < (k : Int)) = false := decide_eq_false (by omega)
    go_upto_region 4 with fail
    refine wp_region_held_drew (S := (fun W' => Hid (Below wr.heap.size wr W') ∧ W'.cell? ⟨b2, o2 + k * 8, none⟩ = some (.string x.code) ∧ W'.cell? ⟨b2, o2 + k * 8 + 1, none⟩ = some (.string x.unt) ∧ W'.cell? ⟨b2, o2 + k * 8 + 2, none⟩ = some (.int .i64 x.kind) ∧ W'.cell? ⟨b2, o2 + k * 8 + 3, none⟩ = some (.int .i64 x.lead) ∧ W'.cell? ⟨b2, o2 + k * 8 + 4, none⟩ = some (.int .i64 x.rule) ∧ W'.cell? ⟨b2, o2 + k * 8 + 5, none⟩ = some (.int .i64 x.lsz) ∧ W'.cell? ⟨b2, o2 + k * 8 + 6, none⟩ = some (.int .i64 x.safe) ∧ W'.cell? ⟨b2, o2 + k * 8 + 7, none⟩ = some (.int .i64 x.scr))) (by kernel_rfl) (hold8 e0 e1 e2 e3 e4 e5 e6 e7 (Below.refl _ _).drew) (fun hHeld => ?_)
    refine wpAnyH_take (i := 0) (oi := { dst := some 10, op := Op.move (Operand.tmp 0), type := 24, pos := _, after := #[], guard := none }) (v := ?vr2x1) rfl (by kernel_rfl) (by kernel_rfl) (by kernel_rfl) (fun _ _ _ h => h) (Or.inl ⟨by rfl, ?yr2x1⟩) (by assumption) ?rr2x1
    case yr2x1 => (intro w' hSw; (try dsimp only at hSw); go_simp; (try with_reducible rfl))
    refine wpAnyH_take (i := 1) (oi := { dst := some 11, op := Op.move (Operand.tmp 3), type := 3, pos := _, after := #[], guard := none }) (v := ?vr2x2) rfl (by kernel_rfl) (by kernel_rfl) (by kernel_rfl) (fun _ _ _ h => h) (Or.inl ⟨by rfl, ?yr2x2⟩) (by assumption) ?rr2x2
    case yr2x2 => (intro w' hSw; (try dsimp only at hSw); go_simp; (try with_reducible rfl))
    refine wpAnyH_take (i := 2) (oi := { dst := some 12, op := Op.indexAddr 24 (Operand.tmp 10) (Operand.tmp 11), type := 0, pos := _, after := #[{ on := 0, ground := Ground.data }, { on := 1, ground := Ground.data }], guard := none }) (v := ?vr2x3) rfl (by kernel_rfl) (by kernel_rfl) (by kernel_rfl) (fun _ _ _ h => h) (Or.inl ⟨by rfl, ?yr2x3⟩) (by assumption) ?rr2x3
    case yr2x3 => (intro w' hSw; (try dsimp only at hSw); go_simp; (try with_reducible rfl))
    (try simp only [Act.put, List.setIfInBounds_toArray, List.set_cons_zero, List.set_cons_succ])
    refine wpAnyH_take (i := 3) (oi := { dst := some 13, op := Op.load 33 (Operand.tmp 12), type := 33, pos := _, after := #[{ on := 2, ground := Ground.data }], guard := none }) (v := ?vr2x4) rfl (by kernel_rfl) (by kernel_rfl) (by kernel_rfl) (fun _ _ _ h => h) (Or.inl ⟨by rfl, ?yr2x4⟩) (by assumption) ?rr2x4
    case yr2x4 => (intro w' hSw; (try dsimp only at hSw); go_simp; (try with_reducible rfl))
    (try simp only [Act.put, List.setIfInBounds_toArray, List.set_cons_zero, List.set_cons_succ])
    refine wpAnyH_ready (rs := [4]) (by kernel_rfl) (by simp) ?_
    refine AllReadyH.cons (o := { dst := some 14, op := Op.call { callee := Callee.value (Operand.func 113), args := #[Operand.tmp 13], argTypes := #[33] }, type := 4, pos := _, after := #[{ on := 3, ground := Ground.data }], guard := none }) rfl (fun K hK => ?_) AllReadyH.nil
    go_simp
    refine (HIT.out _).mono ?_; rintro e w' ⟨rfl, hb⟩; have hle := hold_le (by assumption) hb
    (try go_wp2_with fail)
    refine hK.out _ _ ?_ (fun hHeld => ?_)
    · (try dsimp only); first | assumption | exact hold8 e0 e1 e2 e3 e4 e5 e6 e7 (hold_call (by assumption) (by assumption))
    clear hK K
    (try simp only [Act.put, List.setIfInBounds_toArray, List.set_cons_zero, List.set_cons_succ])
    refine wpAnyH_take (i := 5) (oi := { dst := some 15, op := Op.unOp UnOp.not 4 (Operand.tmp 14), type := 4, pos := _, after := #[{ on := 4, ground := Ground.data }], guard := none }) (v := ?vr2x5) rfl (by kernel_rfl) (by kernel_rfl) (by kernel_rfl) (fun _ _ _ h => h) (Or.inl ⟨by rfl, ?yr2x5⟩) (by assumption) ?rr2x5
    case yr2x5 => (intro w' hSw; (try dsimp only at hSw); go_simp; (try with_reducible rfl))
    refine wpAnyH_take (i := 6) (oi := { dst := some 16, op := Op.move (Operand.tmp 15), type := 4, pos := _, after := #[{ on := 5, ground := Ground.data }, { on := 4, ground := Ground.chain }], guard := none }) (v := ?vr2x6) rfl (by kernel_rfl) (by kernel_rfl) (by kernel_rfl) (fun _ _ _ h => h) (Or.inl ⟨by rfl, ?yr2x6⟩) (by assumption) ?rr2x6
    case yr2x6 => (intro w' hSw; (try dsimp only at hSw); go_simp; (try with_reducible rfl))
    refine wpAnyH_take (i := 7) (oi := { dst := some 17, op := Op.move (Operand.tmp 3), type := 3, pos := _, after := #[{ on := 6, ground := Ground.guard }], guard := some (6, false) }) (v := ?vr2x7) rfl (by kernel_rfl) (by kernel_rfl) (by kernel_rfl) (fun _ _ _ h => h) (Or.inl ⟨by rfl, ?yr2x7⟩) (by assumption) ?rr2x7
    case yr2x7 => (intro w' hSw; (try dsimp only at hSw); go_simp; (try with_reducible rfl))
    (try simp only [Act.put, List.setIfInBounds_toArray, List.set_cons_zero, List.set_cons_succ])
    refine wpAnyH_take (i := 8) (oi := { dst := some 18, op := Op.binOp BinOp.gtr 3 (Operand.tmp 17) (Operand.const (Value.int IntKind.i64 0)) 3, type := 4, pos := _, after := #[{ on := 7, ground := Ground.data }, { on := 6, ground := Ground.guard }], guard := some (6, false) }) (v := ?vr2x8) rfl (by kernel_rfl) (by kernel_rfl) (by kernel_rfl) (fun _ _ _ h => h) (Or.inl ⟨by rfl, ?yr2x8⟩) (by assumption) ?rr2x8
    case yr2x8 => (intro w' hSw; (try dsimp only at hSw); go_simp; (try with_reducible rfl))
    refine wpAnyH_take (i := 9) (oi := { dst := some 19, op := Op.move (Operand.tmp 18), type := 4, pos := _, after := #[{ on := 8, ground := Ground.data }, { on := 6, ground := Ground.chain }, { on := 6, ground := Ground.guard }], guard := some (6, false) }) (v := ?vr2x9) rfl (by kernel_rfl) (by kernel_rfl) (by kernel_rfl) (fun _ _ _ h => h) (Or.inl ⟨by rfl, ?yr2x9⟩) (by assumption) ?rr2x9
    case yr2x9 => (intro w' hSw; (try dsimp only at hSw); go_simp; (try with_reducible rfl))
    refine wpAnyH_take (i := 10) (oi := { dst := some 20, op := Op.move (Operand.tmp 0), type := 24, pos := _, after := #[{ on := 9, ground := Ground.guard }], guard := some (9, true) }) (v := undef) rfl (by kernel_rfl) (by kernel_rfl) (by kernel_rfl) (fun _ _ _ h => h) (Or.inr ⟨by rfl, rfl⟩) (by assumption) ?_
    (try simp only [Act.put, List.setIfInBounds_toArray, List.set_cons_zero, List.set_cons_succ])
    refine wpAnyH_take (i := 11) (oi := { dst := some 21, op := Op.move (Operand.tmp 3), type := 3, pos := _, after := #[{ on := 9, ground := Ground.guard }], guard := some (9, true) }) (v := undef) rfl (by kernel_rfl) (by kernel_rfl) (by kernel_rfl) (fun _ _ _ h => h) (Or.inr ⟨by rfl, rfl⟩) (by assumption) ?_
    refine wpAnyH_take (i := 12) (oi := { dst := some 22, op := Op.binOp BinOp.sub 3 (Operand.tmp 21) (Operand.const (Value.int IntKind.i64 1)) 3, type := 3, pos := _, after := #[{ on := 11, ground := Ground.data }, { on := 9, ground := Ground.guard }], guard := some (9, true) }) (v := undef) rfl (by kernel_rfl) (by kernel_rfl) (by kernel_rfl) (fun _ _ _ h => h) (Or.inr ⟨by rfl, rfl⟩) (by assumption) ?_
    refine wpAnyH_take (i := 13) (oi := { dst := some 23, op := Op.indexAddr 24 (Operand.tmp 20) (Operand.tmp 22), type := 0, pos := _, after := #[{ on := 10, ground := Ground.data }, { on := 12, ground := Ground.data }, { on := 9, ground := Ground.guard }], guard := some (9, true) }) (v := undef) rfl (by kernel_rfl) (by kernel_rfl) (by kernel_rfl) (fun _ _ _ h => h) (Or.inr ⟨by rfl, rfl⟩) (by assumption) ?_
    (try simp only [Act.put, List.setIfInBounds_toArray, List.set_cons_zero, List.set_cons_succ])
    refine wpAnyH_take (i := 14) (oi := { dst := some 24, op := Op.fieldAddr 33 (Operand.tmp 23) 0, type := 0, pos := _, after := #[{ on := 13, ground := Ground.data }, { on := 9, ground := Ground.guard }], guard := some (9, true) }) (v := undef) rfl (by kernel_rfl) (by kernel_rfl) (by kernel_rfl) (fun _ _ _ h => h) (Or.inr ⟨by rfl, rfl⟩) (by assumption) ?_
    refine wpAnyH_take (i := 15) (oi := { dst := some 25, op := Op.load 9 (Operand.tmp 24), type := 9, pos := _, after := #[{ on := 14, ground := Ground.data }, { on := 9, ground := Ground.guard }], guard := some (9, true) }) (v := undef) rfl (by kernel_rfl) (by kernel_rfl) (by kernel_rfl) (fun _ _ _ h => h) (Or.inr ⟨by rfl, rfl⟩) (by assumption) ?_
    refine wpAnyH_take (i := 16) (oi := { dst := some 26, op := Op.move (Operand.tmp 0), type := 24, pos := _, after := #[{ on := 9, ground := Ground.guard }], guard := some (9, true) }) (v := undef) rfl (by kernel_rfl) (by kernel_rfl) (by kernel_rfl) (fun _ _ _ h => h) (Or.inr ⟨by rfl, rfl⟩) (by assumption) ?_
    (try simp only [Act.put, List.setIfInBounds_toArray, List.set_cons_zero, List.set_cons_succ])
    refine wpAnyH_take (i := 17) (oi := { dst := some 27, op := Op.move (Operand.tmp 3), type := 3, pos := _, after := #[{ on := 9, ground := Ground.guard }], guard := some (9, true) }) (v := undef) rfl (by kernel_rfl) (by kernel_rfl) (by kernel_rfl) (fun _ _ _ h => h) (Or.inr ⟨by rfl, rfl⟩) (by assumption) ?_
    refine wpAnyH_take (i := 18) (oi := { dst := some 28, op := Op.indexAddr 24 (Operand.tmp 26) (Operand.tmp 27), type := 0, pos := _, after := #[{ on := 16, ground := Ground.data }, { on := 17, ground := Ground.data }, { on := 9, ground := Ground.guard }], guard := some (9, true) }) (v := undef) rfl (by kernel_rfl) (by kernel_rfl) (by kernel_rfl) (fun _ _ _ h => h) (Or.inr ⟨by rfl, rfl⟩) (by assumption) ?_
    refine wpAnyH_take (i := 19) (oi := { dst := some 29, op := Op.fieldAddr 33 (Operand.tmp 28) 0, type := 0, pos := _, after := #[{ on := 18, ground := Ground.data }, { on := 9, ground := Ground.guard }], guard := some (9, true) }) (v := undef) rfl (by kernel_rfl) (by kernel_rfl) (by kernel_rfl) (fun _ _ _ h => h) (Or.inr ⟨by rfl, rfl⟩) (by assumption) ?_
    (try simp only [Act.put, List.setIfInBounds_toArray, List.set_cons_zero, List.set_cons_succ])
    refine wpAnyH_take (i := 20) (oi := { dst := some 30, op := Op.load 9 (Operand.tmp 29), type := 9, pos := _, after := #[{ on := 19, ground := Ground.data }, { on := 9, ground := Ground.guard }], guard := some (9, true) }) (v := undef) rfl (by kernel_rfl) (by kernel_rfl) (by kernel_rfl) (fun _ _ _ h => h) (Or.inr ⟨by rfl, rfl⟩) (by assumption) ?_
    refine wpAnyH_take (i := 21) (oi := { dst := some 31, op := Op.binOp BinOp.geq 9 (Operand.tmp 25) (Operand.tmp 30) 9, type := 4, pos := _, after := #[{ on := 15, ground := Ground.data }, { on := 20, ground := Ground.data }, { on := 9, ground := Ground.guard }], guard := some (9, true) }) (v := undef) rfl (by kernel_rfl) (by kernel_rfl) (by kernel_rfl) (fun _ _ _ h => h) (Or.inr ⟨by rfl, rfl⟩) (by assumption) ?_
    refine wpAnyH_take (i := 22) (oi := { dst := some 32, op := Op.pick (Operand.tmp 19) (Operand.tmp 31) (Operand.const (Value.bool false)), type := 4, pos := _, after := #[{ on := 9, ground := Ground.data }, { on := 21, ground := Ground.data }, { on := 6, ground := Ground.guard }], guard := some (6, false) }) (v := ?vr2x10) rfl (by kernel_rfl) (by kernel_rfl) (by kernel_rfl) (fun _ _ _ h => h) (Or.inl ⟨by rfl, ?yr2x10⟩) (by assumption) ?rr2x10
    case yr2x10 => (intro w' hSw; (try dsimp only at hSw); go_simp; (try with_reducible rfl))
    (try simp only [Act.put, List.setIfInBounds_toArray, List.set_cons_zero, List.set_cons_succ])
    refine wpAnyH_take (i := 23) (oi := { dst := some 33, op := Op.pick (Operand.tmp 16) (Operand.const (Value.bool true)) (Operand.tmp 32), type := 4, pos := _, after := #[{ on := 6, ground := Ground.data }, { on := 22, ground := Ground.data }], guard := none }) (v := ?vr2x11) rfl (by kernel_rfl) (by kernel_rfl) (by kernel_rfl) (fun _ _ _ h => h) (Or.inl ⟨by rfl, ?yr2x11⟩) (by assumption) ?rr2x11
    case yr2x11 => (intro w' hSw; (try dsimp only at hSw); go_simp; (try with_reducible rfl))
    (try simp only [Act.put, List.setIfInBounds_toArray, List.set_cons_zero, List.set_cons_succ])
    refine wpAnyH_done (by kernel_rfl) ?_ _
    have hS := (by assumption : Hid (Below wr.heap.size wr _) ∧ _)
    have HBF := Lib.hid (HB.out.trans (hS.1.out.mono HB.out.size))
    go_wp2_with fail
    go_roundw
    case rel => exact ⟨k + 1, by have := HLT.out; omega, by go_num, HS2, HBF⟩
    case measure => have := HLT.out; simp [intOf]; omega
  have hd : decide ((0 : Int) < (k : Int)) = true := decide_eq_true (by omega)
  have hm1 : k - 1 < l.length := by have := HLT.out; omega
  have hix : ((k : Int) - 1) = ((k - 1 : Nat) : Int) := by omega
  obtain ⟨p0, p1, p2, p3, p4, p5, p6, p7⟩ := HAT.out.at (k - 1) hm1
  have HN3 : Hid (¬strLt (l[k - 1]'hm1).code x.code → catB l = false) := Lib.hid (fun h => HN2.out hk0 h)
  have HSU3 : Hid (strLt (l[k - 1]'hm1).code x.code → CatTo l (k + 1)) := Lib.hid (fun h => HSU.out HOK.out (fun _ => h))
  generalize (l[k - 1]'hm1) = p at *
  clear HN2 HSU HN1 p1 p2 p3 p4 p5 p6 p7
  obtain ⟨m, hm⟩ : ∃ m, k - 1 = m := ⟨_, rfl⟩
  rw [hm] at hix p0 hm1
  have HKM := Lib.hid (show k = m + 1 by have := HLT.out; omega)
  clear hm
  have hwm : IntKind.i64.wrap (m : Int) = (m : Int) := (IntKind.wrap_i64 _).trans (by omega)
  have hmi : (m : Int) < (l.length : Int) := by omega
  have hm0 : (0 : Int) ≤ (m : Int) := by omega
  by_cases ho : strLt p.code x.code
  · have HS2 := Lib.hid (HSU3.out ho)
    have l1 : Op.bytesLess p.code.toList x.code.toList = true := ho
    clear ho
    go_upto_region 4 with fail
    refine wp_region_held_drew (S := (fun W' => Hid (Below wr.heap.size wr W') ∧ W'.cell? ⟨b2, o2 + k * 8, none⟩ = some (.string x.code) ∧ W'.cell? ⟨b2, o2 + k * 8 + 1, none⟩ = some (.string x.unt) ∧ W'.cell? ⟨b2, o2 + k * 8 + 2, none⟩ = some (.int .i64 x.kind) ∧ W'.cell? ⟨b2, o2 + k * 8 + 3, none⟩ = some (.int .i64 x.lead) ∧ W'.cell? ⟨b2, o2 + k * 8 + 4, none⟩ = some (.int .i64 x.rule) ∧ W'.cell? ⟨b2, o2 + k * 8 + 5, none⟩ = some (.int .i64 x.lsz) ∧ W'.cell? ⟨b2, o2 + k * 8 + 6, none⟩ = some (.int .i64 x.safe) ∧ W'.cell? ⟨b2, o2 + k * 8 + 7, none⟩ = some (.int .i64 x.scr) ∧ W'.cell? ⟨b2, o2 + m * 8, none⟩ = some (.string p.code))) (by kernel_rfl) (hold9 e0 e1 e2 e3 e4 e5 e6 e7 p0 (Below.refl _ _).drew) (fun hHeld => ?_)
    refine wpAnyH_take (i := 0) (oi := { dst := some 10, op := Op.move (Operand.tmp 0), type := 24, pos := _, after := #[], guard := none }) (v := ?vr3x1) rfl (by kernel_rfl) (by kernel_rfl) (by kernel_rfl) (fun _ _ _ h => h) (Or.inl ⟨by rfl, ?yr3x1⟩) (by assumption) ?rr3x1
    case yr3x1 => (intro w' hSw; (try dsimp only at hSw); go_simp; (try with_reducible rfl))
    refine wpAnyH_take (i := 1) (oi := { dst := some 11, op := Op.move (Operand.tmp 3), type := 3, pos := _, after := #[], guard := none }) (v := ?vr3x2) rfl (by kernel_rfl) (by kernel_rfl) (by kernel_rfl) (fun _ _ _ h => h) (Or.inl ⟨by rfl, ?yr3x2⟩) (by assumption) ?rr3x2
    case yr3x2 => (intro w' hSw; (try dsimp only at hSw); go_simp; (try with_reducible rfl))
    refine wpAnyH_take (i := 2) (oi := { dst := some 12, op := Op.indexAddr 24 (Operand.tmp 10) (Operand.tmp 11), type := 0, pos := _, after := #[{ on := 0, ground := Ground.data }, { on := 1, ground := Ground.data }], guard := none }) (v := ?vr3x3) rfl (by kernel_rfl) (by kernel_rfl) (by kernel_rfl) (fun _ _ _ h => h) (Or.inl ⟨by rfl, ?yr3x3⟩) (by assumption) ?rr3x3
    case yr3x3 => (intro w' hSw; (try dsimp only at hSw); go_simp; (try with_reducible rfl))
    (try simp only [Act.put, List.setIfInBounds_toArray, List.set_cons_zero, List.set_cons_succ])
    refine wpAnyH_take (i := 3) (oi := { dst := some 13, op := Op.load 33 (Operand.tmp 12), type := 33, pos := _, after := #[{ on := 2, ground := Ground.data }], guard := none }) (v := ?vr3x4) rfl (by kernel_rfl) (by kernel_rfl) (by kernel_rfl) (fun _ _ _ h => h) (Or.inl ⟨by rfl, ?yr3x4⟩) (by assumption) ?rr3x4
    case yr3x4 => (intro w' hSw; (try dsimp only at hSw); go_simp; (try with_reducible rfl))
    (try simp only [Act.put, List.setIfInBounds_toArray, List.set_cons_zero, List.set_cons_succ])
    refine wpAnyH_ready (rs := [4]) (by kernel_rfl) (by simp) ?_
    refine AllReadyH.cons (o := { dst := some 14, op := Op.call { callee := Callee.value (Operand.func 113), args := #[Operand.tmp 13], argTypes := #[33] }, type := 4, pos := _, after := #[{ on := 3, ground := Ground.data }], guard := none }) rfl (fun K hK => ?_) AllReadyH.nil
    go_simp
    refine (HIT.out _).mono ?_; rintro e w' ⟨rfl, hb⟩; have hle := hold_le (by assumption) hb
    (try go_wp2_with fail)
    refine hK.out _ _ ?_ (fun hHeld => ?_)
    · (try dsimp only); first | assumption | exact hold9 e0 e1 e2 e3 e4 e5 e6 e7 p0 (hold_call (by assumption) (by assumption))
    clear hK K
    (try simp only [Act.put, List.setIfInBounds_toArray, List.set_cons_zero, List.set_cons_succ])
    refine wpAnyH_take (i := 5) (oi := { dst := some 15, op := Op.unOp UnOp.not 4 (Operand.tmp 14), type := 4, pos := _, after := #[{ on := 4, ground := Ground.data }], guard := none }) (v := ?vr3x5) rfl (by kernel_rfl) (by kernel_rfl) (by kernel_rfl) (fun _ _ _ h => h) (Or.inl ⟨by rfl, ?yr3x5⟩) (by assumption) ?rr3x5
    case yr3x5 => (intro w' hSw; (try dsimp only at hSw); go_simp; (try with_reducible rfl))
    refine wpAnyH_take (i := 6) (oi := { dst := some 16, op := Op.move (Operand.tmp 15), type := 4, pos := _, after := #[{ on := 5, ground := Ground.data }, { on := 4, ground := Ground.chain }], guard := none }) (v := ?vr3x6) rfl (by kernel_rfl) (by kernel_rfl) (by kernel_rfl) (fun _ _ _ h => h) (Or.inl ⟨by rfl, ?yr3x6⟩) (by assumption) ?rr3x6
    case yr3x6 => (intro w' hSw; (try dsimp only at hSw); go_simp; (try with_reducible rfl))
    refine wpAnyH_take (i := 7) (oi := { dst := some 17, op := Op.move (Operand.tmp 3), type := 3, pos := _, after := #[{ on := 6, ground := Ground.guard }], guard := some (6, false) }) (v := ?vr3x7) rfl (by kernel_rfl) (by kernel_rfl) (by kernel_rfl) (fun _ _ _ h => h) (Or.inl ⟨by rfl, ?yr3x7⟩) (by assumption) ?rr3x7
    case yr3x7 => (intro w' hSw; (try dsimp only at hSw); go_simp; (try with_reducible rfl))
    (try simp only [Act.put, List.setIfInBounds_toArray, List.set_cons_zero, List.set_cons_succ])
    refine wpAnyH_take (i := 8) (oi := { dst := some 18, op := Op.binOp BinOp.gtr 3 (Operand.tmp 17) (Operand.const (Value.int IntKind.i64 0)) 3, type := 4, pos := _, after := #[{ on := 7, ground := Ground.data }, { on := 6, ground := Ground.guard }], guard := some (6, false) }) (v := ?vr3x8) rfl (by kernel_rfl) (by kernel_rfl) (by kernel_rfl) (fun _ _ _ h => h) (Or.inl ⟨by rfl, ?yr3x8⟩) (by assumption) ?rr3x8
    case yr3x8 => (intro w' hSw; (try dsimp only at hSw); go_simp; (try with_reducible rfl))
    refine wpAnyH_take (i := 9) (oi := { dst := some 19, op := Op.move (Operand.tmp 18), type := 4, pos := _, after := #[{ on := 8, ground := Ground.data }, { on := 6, ground := Ground.chain }, { on := 6, ground := Ground.guard }], guard := some (6, false) }) (v := ?vr3x9) rfl (by kernel_rfl) (by kernel_rfl) (by kernel_rfl) (fun _ _ _ h => h) (Or.inl ⟨by rfl, ?yr3x9⟩) (by assumption) ?rr3x9
    case yr3x9 => (intro w' hSw; (try dsimp only at hSw); go_simp; (try with_reducible rfl))
    refine wpAnyH_take (i := 10) (oi := { dst := some 20, op := Op.move (Operand.tmp 0), type := 24, pos := _, after := #[{ on := 9, ground := Ground.guard }], guard := some (9, true) }) (v := ?vr3x10) rfl (by kernel_rfl) (by kernel_rfl) (by kernel_rfl) (fun _ _ _ h => h) (Or.inl ⟨by rfl, ?yr3x10⟩) (by assumption) ?rr3x10
    case yr3x10 => (intro w' hSw; (try dsimp only at hSw); go_simp; (try with_reducible rfl))
    (try simp only [Act.put, List.setIfInBounds_toArray, List.set_cons_zero, List.set_cons_succ])
    refine wpAnyH_take (i := 11) (oi := { dst := some 21, op := Op.move (Operand.tmp 3), type := 3, pos := _, after := #[{ on := 9, ground := Ground.guard }], guard := some (9, true) }) (v := ?vr3x11) rfl (by kernel_rfl) (by kernel_rfl) (by kernel_rfl) (fun _ _ _ h => h) (Or.inl ⟨by rfl, ?yr3x11⟩) (by assumption) ?rr3x11
    case yr3x11 => (intro w' hSw; (try dsimp only at hSw); go_simp; (try with_reducible rfl))
    refine wpAnyH_take (i := 12) (oi := { dst := some 22, op := Op.binOp BinOp.sub 3 (Operand.tmp 21) (Operand.const (Value.int IntKind.i64 1)) 3, type := 3, pos := _, after := #[{ on := 11, ground := Ground.data }, { on := 9, ground := Ground.guard }], guard := some (9, true) }) (v := ?vr3x12) rfl (by kernel_rfl) (by kernel_rfl) (by kernel_rfl) (fun _ _ _ h => h) (Or.inl ⟨by rfl, ?yr3x12⟩) (by assumption) ?rr3x12
    case yr3x12 => (intro w' hSw; (try dsimp only at hSw); go_simp; (try with_reducible rfl))
    refine wpAnyH_take (i := 13) (oi := { dst := some 23, op := Op.indexAddr 24 (Operand.tmp 20) (Operand.tmp 22), type := 0, pos := _, after := #[{ on := 10, ground := Ground.data }, { on := 12, ground := Ground.data }, { on := 9, ground := Ground.guard }], guard := some (9, true) }) (v := ?vr3x13) rfl (by kernel_rfl) (by kernel_rfl) (by kernel_rfl) (fun _ _ _ h => h) (Or.inl ⟨by rfl, ?yr3x13⟩) (by assumption) ?rr3x13
    case yr3x13 => (intro w' hSw; (try dsimp only at hSw); go_simp; (try with_reducible rfl))
    (try simp only [Act.put, List.setIfInBounds_toArray, List.set_cons_zero, List.set_cons_succ])
    refine wpAnyH_take (i := 14) (oi := { dst := some 24, op := Op.fieldAddr 33 (Operand.tmp 23) 0, type := 0, pos := _, after := #[{ on := 13, ground := Ground.data }, { on := 9, ground := Ground.guard }], guard := some (9, true) }) (v := ?vr3x14) rfl (by kernel_rfl) (by kernel_rfl) (by kernel_rfl) (fun _ _ _ h => h) (Or.inl ⟨by rfl, ?yr3x14⟩) (by assumption) ?rr3x14
    case yr3x14 => (intro w' hSw; (try dsimp only at hSw); go_simp; (try with_reducible rfl))
    refine wpAnyH_take (i := 15) (oi := { dst := some 25, op := Op.load 9 (Operand.tmp 24), type := 9, pos := _, after := #[{ on := 14, ground := Ground.data }, { on := 9, ground := Ground.guard }], guard := some (9, true) }) (v := ?vr3x15) rfl (by kernel_rfl) (by kernel_rfl) (by kernel_rfl) (fun _ _ _ h => h) (Or.inl ⟨by rfl, ?yr3x15⟩) (by assumption) ?rr3x15
    case yr3x15 => (intro w' hSw; (try dsimp only at hSw); go_simp; (try with_reducible rfl))
    refine wpAnyH_take (i := 16) (oi := { dst := some 26, op := Op.move (Operand.tmp 0), type := 24, pos := _, after := #[{ on := 9, ground := Ground.guard }], guard := some (9, true) }) (v := ?vr3x16) rfl (by kernel_rfl) (by kernel_rfl) (by kernel_rfl) (fun _ _ _ h => h) (Or.inl ⟨by rfl, ?yr3x16⟩) (by assumption) ?rr3x16
    case yr3x16 => (intro w' hSw; (try dsimp only at hSw); go_simp; (try with_reducible rfl))
    (try simp only [Act.put, List.setIfInBounds_toArray, List.set_cons_zero, List.set_cons_succ])
    refine wpAnyH_take (i := 17) (oi := { dst := some 27, op := Op.move (Operand.tmp 3), type := 3, pos := _, after := #[{ on := 9, ground := Ground.guard }], guard := some (9, true) }) (v := ?vr3x17) rfl (by kernel_rfl) (by kernel_rfl) (by kernel_rfl) (fun _ _ _ h => h) (Or.inl ⟨by rfl, ?yr3x17⟩) (by assumption) ?rr3x17
    case yr3x17 => (intro w' hSw; (try dsimp only at hSw); go_simp; (try with_reducible rfl))
    refine wpAnyH_take (i := 18) (oi := { dst := some 28, op := Op.indexAddr 24 (Operand.tmp 26) (Operand.tmp 27), type := 0, pos := _, after := #[{ on := 16, ground := Ground.data }, { on := 17, ground := Ground.data }, { on := 9, ground := Ground.guard }], guard := some (9, true) }) (v := ?vr3x18) rfl (by kernel_rfl) (by kernel_rfl) (by kernel_rfl) (fun _ _ _ h => h) (Or.inl ⟨by rfl, ?yr3x18⟩) (by assumption) ?rr3x18
    case yr3x18 => (intro w' hSw; (try dsimp only at hSw); go_simp; (try with_reducible rfl))
    refine wpAnyH_take (i := 19) (oi := { dst := some 29, op := Op.fieldAddr 33 (Operand.tmp 28) 0, type := 0, pos := _, after := #[{ on := 18, ground := Ground.data }, { on := 9, ground := Ground.guard }], guard := some (9, true) }) (v := ?vr3x19) rfl (by kernel_rfl) (by kernel_rfl) (by kernel_rfl) (fun _ _ _ h => h) (Or.inl ⟨by rfl, ?yr3x19⟩) (by assumption) ?rr3x19
    case yr3x19 => (intro w' hSw; (try dsimp only at hSw); go_simp; (try with_reducible rfl))
    (try simp only [Act.put, List.setIfInBounds_toArray, List.set_cons_zero, List.set_cons_succ])
    refine wpAnyH_take (i := 20) (oi := { dst := some 30, op := Op.load 9 (Operand.tmp 29), type := 9, pos := _, after := #[{ on := 19, ground := Ground.data }, { on := 9, ground := Ground.guard }], guard := some (9, true) }) (v := ?vr3x20) rfl (by kernel_rfl) (by kernel_rfl) (by kernel_rfl) (fun _ _ _ h => h) (Or.inl ⟨by rfl, ?yr3x20⟩) (by assumption) ?rr3x20
    case yr3x20 => (intro w' hSw; (try dsimp only at hSw); go_simp; (try with_reducible rfl))
    refine wpAnyH_take (i := 21) (oi := { dst := some 31, op := Op.binOp BinOp.geq 9 (Operand.tmp 25) (Operand.tmp 30) 9, type := 4, pos := _, after := #[{ on := 15, ground := Ground.data }, { on := 20, ground := Ground.data }, { on := 9, ground := Ground.guard }], guard := some (9, true) }) (v := ?vr3x21) rfl (by kernel_rfl) (by kernel_rfl) (by kernel_rfl) (fun _ _ _ h => h) (Or.inl ⟨by rfl, ?yr3x21⟩) (by assumption) ?rr3x21
    case yr3x21 => (intro w' hSw; (try dsimp only at hSw); go_simp; (try with_reducible rfl))
    refine wpAnyH_take (i := 22) (oi := { dst := some 32, op := Op.pick (Operand.tmp 19) (Operand.tmp 31) (Operand.const (Value.bool false)), type := 4, pos := _, after := #[{ on := 9, ground := Ground.data }, { on := 21, ground := Ground.data }, { on := 6, ground := Ground.guard }], guard := some (6, false) }) (v := ?vr3x22) rfl (by kernel_rfl) (by kernel_rfl) (by kernel_rfl) (fun _ _ _ h => h) (Or.inl ⟨by rfl, ?yr3x22⟩) (by assumption) ?rr3x22
    case yr3x22 => (intro w' hSw; (try dsimp only at hSw); go_simp; (try with_reducible rfl))
    (try simp only [Act.put, List.setIfInBounds_toArray, List.set_cons_zero, List.set_cons_succ])
    refine wpAnyH_take (i := 23) (oi := { dst := some 33, op := Op.pick (Operand.tmp 16) (Operand.const (Value.bool true)) (Operand.tmp 32), type := 4, pos := _, after := #[{ on := 6, ground := Ground.data }, { on := 22, ground := Ground.data }], guard := none }) (v := ?vr3x23) rfl (by kernel_rfl) (by kernel_rfl) (by kernel_rfl) (fun _ _ _ h => h) (Or.inl ⟨by rfl, ?yr3x23⟩) (by assumption) ?rr3x23
    case yr3x23 => (intro w' hSw; (try dsimp only at hSw); go_simp; (try with_reducible rfl))
    (try simp only [Act.put, List.setIfInBounds_toArray, List.set_cons_zero, List.set_cons_succ])
    refine wpAnyH_done (by kernel_rfl) ?_ _
    have hS := (by assumption : Hid (Below wr.heap.size wr _) ∧ _)
    have HBF := Lib.hid (HB.out.trans (hS.1.out.mono HB.out.size))
    go_wp2_with fail
    go_roundw
    case rel => exact ⟨k + 1, by have := HLT.out; omega, by go_num, HS2, HBF⟩
    case measure => have := HLT.out; simp [intOf]; omega
  · have HY := Lib.hid (HN3.out ho)
    have l1 : Op.bytesLess p.code.toList x.code.toList = false := less_no ho
    clear ho
    go_upto_region 4 with fail
    refine wp_region_held_drew (S := (fun W' => Hid (Below wr.heap.size wr W') ∧ W'.cell? ⟨b2, o2 + k * 8, none⟩ = some (.string x.code) ∧ W'.cell? ⟨b2, o2 + k * 8 + 1, none⟩ = some (.string x.unt) ∧ W'.cell? ⟨b2, o2 + k * 8 + 2, none⟩ = some (.int .i64 x.kind) ∧ W'.cell? ⟨b2, o2 + k * 8 + 3, none⟩ = some (.int .i64 x.lead) ∧ W'.cell? ⟨b2, o2 + k * 8 + 4, none⟩ = some (.int .i64 x.rule) ∧ W'.cell? ⟨b2, o2 + k * 8 + 5, none⟩ = some (.int .i64 x.lsz) ∧ W'.cell? ⟨b2, o2 + k * 8 + 6, none⟩ = some (.int .i64 x.safe) ∧ W'.cell? ⟨b2, o2 + k * 8 + 7, none⟩ = some (.int .i64 x.scr) ∧ W'.cell? ⟨b2, o2 + m * 8, none⟩ = some (.string p.code))) (by kernel_rfl) (hold9 e0 e1 e2 e3 e4 e5 e6 e7 p0 (Below.refl _ _).drew) (fun hHeld => ?_)
    refine wpAnyH_take (i := 0) (oi := { dst := some 10, op := Op.move (Operand.tmp 0), type := 24, pos := _, after := #[], guard := none }) (v := ?vr4x1) rfl (by kernel_rfl) (by kernel_rfl) (by kernel_rfl) (fun _ _ _ h => h) (Or.inl ⟨by rfl, ?yr4x1⟩) (by assumption) ?rr4x1
    case yr4x1 => (intro w' hSw; (try dsimp only at hSw); go_simp; (try with_reducible rfl))
    refine wpAnyH_take (i := 1) (oi := { dst := some 11, op := Op.move (Operand.tmp 3), type := 3, pos := _, after := #[], guard := none }) (v := ?vr4x2) rfl (by kernel_rfl) (by kernel_rfl) (by kernel_rfl) (fun _ _ _ h => h) (Or.inl ⟨by rfl, ?yr4x2⟩) (by assumption) ?rr4x2
    case yr4x2 => (intro w' hSw; (try dsimp only at hSw); go_simp; (try with_reducible rfl))
    refine wpAnyH_take (i := 2) (oi := { dst := some 12, op := Op.indexAddr 24 (Operand.tmp 10) (Operand.tmp 11), type := 0, pos := _, after := #[{ on := 0, ground := Ground.data }, { on := 1, ground := Ground.data }], guard := none }) (v := ?vr4x3) rfl (by kernel_rfl) (by kernel_rfl) (by kernel_rfl) (fun _ _ _ h => h) (Or.inl ⟨by rfl, ?yr4x3⟩) (by assumption) ?rr4x3
    case yr4x3 => (intro w' hSw; (try dsimp only at hSw); go_simp; (try with_reducible rfl))
    (try simp only [Act.put, List.setIfInBounds_toArray, List.set_cons_zero, List.set_cons_succ])
    refine wpAnyH_take (i := 3) (oi := { dst := some 13, op := Op.load 33 (Operand.tmp 12), type := 33, pos := _, after := #[{ on := 2, ground := Ground.data }], guard := none }) (v := ?vr4x4) rfl (by kernel_rfl) (by kernel_rfl) (by kernel_rfl) (fun _ _ _ h => h) (Or.inl ⟨by rfl, ?yr4x4⟩) (by assumption) ?rr4x4
    case yr4x4 => (intro w' hSw; (try dsimp only at hSw); go_simp; (try with_reducible rfl))
    (try simp only [Act.put, List.setIfInBounds_toArray, List.set_cons_zero, List.set_cons_succ])
    refine wpAnyH_ready (rs := [4]) (by kernel_rfl) (by simp) ?_
    refine AllReadyH.cons (o := { dst := some 14, op := Op.call { callee := Callee.value (Operand.func 113), args := #[Operand.tmp 13], argTypes := #[33] }, type := 4, pos := _, after := #[{ on := 3, ground := Ground.data }], guard := none }) rfl (fun K hK => ?_) AllReadyH.nil
    go_simp
    refine (HIT.out _).mono ?_; rintro e w' ⟨rfl, hb⟩; have hle := hold_le (by assumption) hb
    (try go_wp2_with fail)
    refine hK.out _ _ ?_ (fun hHeld => ?_)
    · (try dsimp only); first | assumption | exact hold9 e0 e1 e2 e3 e4 e5 e6 e7 p0 (hold_call (by assumption) (by assumption))
    clear hK K
    (try simp only [Act.put, List.setIfInBounds_toArray, List.set_cons_zero, List.set_cons_succ])
    refine wpAnyH_take (i := 5) (oi := { dst := some 15, op := Op.unOp UnOp.not 4 (Operand.tmp 14), type := 4, pos := _, after := #[{ on := 4, ground := Ground.data }], guard := none }) (v := ?vr4x5) rfl (by kernel_rfl) (by kernel_rfl) (by kernel_rfl) (fun _ _ _ h => h) (Or.inl ⟨by rfl, ?yr4x5⟩) (by assumption) ?rr4x5
    case yr4x5 => (intro w' hSw; (try dsimp only at hSw); go_simp; (try with_reducible rfl))
    refine wpAnyH_take (i := 6) (oi := { dst := some 16, op := Op.move (Operand.tmp 15), type := 4, pos := _, after := #[{ on := 5, ground := Ground.data }, { on := 4, ground := Ground.chain }], guard := none }) (v := ?vr4x6) rfl (by kernel_rfl) (by kernel_rfl) (by kernel_rfl) (fun _ _ _ h => h) (Or.inl ⟨by rfl, ?yr4x6⟩) (by assumption) ?rr4x6
    case yr4x6 => (intro w' hSw; (try dsimp only at hSw); go_simp; (try with_reducible rfl))
    refine wpAnyH_take (i := 7) (oi := { dst := some 17, op := Op.move (Operand.tmp 3), type := 3, pos := _, after := #[{ on := 6, ground := Ground.guard }], guard := some (6, false) }) (v := ?vr4x7) rfl (by kernel_rfl) (by kernel_rfl) (by kernel_rfl) (fun _ _ _ h => h) (Or.inl ⟨by rfl, ?yr4x7⟩) (by assumption) ?rr4x7
    case yr4x7 => (intro w' hSw; (try dsimp only at hSw); go_simp; (try with_reducible rfl))
    (try simp only [Act.put, List.setIfInBounds_toArray, List.set_cons_zero, List.set_cons_succ])
    refine wpAnyH_take (i := 8) (oi := { dst := some 18, op := Op.binOp BinOp.gtr 3 (Operand.tmp 17) (Operand.const (Value.int IntKind.i64 0)) 3, type := 4, pos := _, after := #[{ on := 7, ground := Ground.data }, { on := 6, ground := Ground.guard }], guard := some (6, false) }) (v := ?vr4x8) rfl (by kernel_rfl) (by kernel_rfl) (by kernel_rfl) (fun _ _ _ h => h) (Or.inl ⟨by rfl, ?yr4x8⟩) (by assumption) ?rr4x8
    case yr4x8 => (intro w' hSw; (try dsimp only at hSw); go_simp; (try with_reducible rfl))
    refine wpAnyH_take (i := 9) (oi := { dst := some 19, op := Op.move (Operand.tmp 18), type := 4, pos := _, after := #[{ on := 8, ground := Ground.data }, { on := 6, ground := Ground.chain }, { on := 6, ground := Ground.guard }], guard := some (6, false) }) (v := ?vr4x9) rfl (by kernel_rfl) (by kernel_rfl) (by kernel_rfl) (fun _ _ _ h => h) (Or.inl ⟨by rfl, ?yr4x9⟩) (by assumption) ?rr4x9
    case yr4x9 => (intro w' hSw; (try dsimp only at hSw); go_simp; (try with_reducible rfl))
    refine wpAnyH_take (i := 10) (oi := { dst := some 20, op := Op.move (Operand.tmp 0), type := 24, pos := _, after := #[{ on := 9, ground := Ground.guard }], guard := some (9, true) }) (v := ?vr4x10) rfl (by kernel_rfl) (by kernel_rfl) (by kernel_rfl) (fun _ _ _ h => h) (Or.inl ⟨by rfl, ?yr4x10⟩) (by assumption) ?rr4x10
    case yr4x10 => (intro w' hSw; (try dsimp only at hSw); go_simp; (try with_reducible rfl))
    (try simp only [Act.put, List.setIfInBounds_toArray, List.set_cons_zero, List.set_cons_succ])
    refine wpAnyH_take (i := 11) (oi := { dst := some 21, op := Op.move (Operand.tmp 3), type := 3, pos := _, after := #[{ on := 9, ground := Ground.guard }], guard := some (9, true) }) (v := ?vr4x11) rfl (by kernel_rfl) (by kernel_rfl) (by kernel_rfl) (fun _ _ _ h => h) (Or.inl ⟨by rfl, ?yr4x11⟩) (by assumption) ?rr4x11
    case yr4x11 => (intro w' hSw; (try dsimp only at hSw); go_simp; (try with_reducible rfl))
    refine wpAnyH_take (i := 12) (oi := { dst := some 22, op := Op.binOp BinOp.sub 3 (Operand.tmp 21) (Operand.const (Value.int IntKind.i64 1)) 3, type := 3, pos := _, after := #[{ on := 11, ground := Ground.data }, { on := 9, ground := Ground.guard }], guard := some (9, true) }) (v := ?vr4x12) rfl (by kernel_rfl) (by kernel_rfl) (by kernel_rfl) (fun _ _ _ h => h) (Or.inl ⟨by rfl, ?yr4x12⟩) (by assumption) ?rr4x12
    case yr4x12 => (intro w' hSw; (try dsimp only at hSw); go_simp; (try with_reducible rfl))
    refine wpAnyH_take (i := 13) (oi := { dst := some 23, op := Op.indexAddr 24 (Operand.tmp 20) (Operand.tmp 22), type := 0, pos := _, after := #[{ on := 10, ground := Ground.data }, { on := 12, ground := Ground.data }, { on := 9, ground := Ground.guard }], guard := some (9, true) }) (v := ?vr4x13) rfl (by kernel_rfl) (by kernel_rfl) (by kernel_rfl) (fun _ _ _ h => h) (Or.inl ⟨by rfl, ?yr4x13⟩) (by assumption) ?rr4x13
    case yr4x13 => (intro w' hSw; (try dsimp only at hSw); go_simp; (try with_reducible rfl))
    (try simp only [Act.put, List.setIfInBounds_toArray, List.set_cons_zero, List.set_cons_succ])
    refine wpAnyH_take (i := 14) (oi := { dst := some 24, op := Op.fieldAddr 33 (Operand.tmp 23) 0, type := 0, pos := _, after := #[{ on := 13, ground := Ground.data }, { on := 9, ground := Ground.guard }], guard := some (9, true) }) (v := ?vr4x14) rfl (by kernel_rfl) (by kernel_rfl) (by kernel_rfl) (fun _ _ _ h => h) (Or.inl ⟨by rfl, ?yr4x14⟩) (by assumption) ?rr4x14
    case yr4x14 => (intro w' hSw; (try dsimp only at hSw); go_simp; (try with_reducible rfl))
    refine wpAnyH_take (i := 15) (oi := { dst := some 25, op := Op.load 9 (Operand.tmp 24), type := 9, pos := _, after := #[{ on := 14, ground := Ground.data }, { on := 9, ground := Ground.guard }], guard := some (9, true) }) (v := ?vr4x15) rfl (by kernel_rfl) (by kernel_rfl) (by kernel_rfl) (fun _ _ _ h => h) (Or.inl ⟨by rfl, ?yr4x15⟩) (by assumption) ?rr4x15
    case yr4x15 => (intro w' hSw; (try dsimp only at hSw); go_simp; (try with_reducible rfl))
    refine wpAnyH_take (i := 16) (oi := { dst := some 26, op := Op.move (Operand.tmp 0), type := 24, pos := _, after := #[{ on := 9, ground := Ground.guard }], guard := some (9, true) }) (v := ?vr4x16) rfl (by kernel_rfl) (by kernel_rfl) (by kernel_rfl) (fun _ _ _ h => h) (Or.inl ⟨by rfl, ?yr4x16⟩) (by assumption) ?rr4x16
    case yr4x16 => (intro w' hSw; (try dsimp only at hSw); go_simp; (try with_reducible rfl))
    (try simp only [Act.put, List.setIfInBounds_toArray, List.set_cons_zero, List.set_cons_succ])
    refine wpAnyH_take (i := 17) (oi := { dst := some 27, op := Op.move (Operand.tmp 3), type := 3, pos := _, after := #[{ on := 9, ground := Ground.guard }], guard := some (9, true) }) (v := ?vr4x17) rfl (by kernel_rfl) (by kernel_rfl) (by kernel_rfl) (fun _ _ _ h => h) (Or.inl ⟨by rfl, ?yr4x17⟩) (by assumption) ?rr4x17
    case yr4x17 => (intro w' hSw; (try dsimp only at hSw); go_simp; (try with_reducible rfl))
    refine wpAnyH_take (i := 18) (oi := { dst := some 28, op := Op.indexAddr 24 (Operand.tmp 26) (Operand.tmp 27), type := 0, pos := _, after := #[{ on := 16, ground := Ground.data }, { on := 17, ground := Ground.data }, { on := 9, ground := Ground.guard }], guard := some (9, true) }) (v := ?vr4x18) rfl (by kernel_rfl) (by kernel_rfl) (by kernel_rfl) (fun _ _ _ h => h) (Or.inl ⟨by rfl, ?yr4x18⟩) (by assumption) ?rr4x18
    case yr4x18 => (intro w' hSw; (try dsimp only at hSw); go_simp; (try with_reducible rfl))
    refine wpAnyH_take (i := 19) (oi := { dst := some 29, op := Op.fieldAddr 33 (Operand.tmp 28) 0, type := 0, pos := _, after := #[{ on := 18, ground := Ground.data }, { on := 9, ground := Ground.guard }], guard := some (9, true) }) (v := ?vr4x19) rfl (by kernel_rfl) (by kernel_rfl) (by kernel_rfl) (fun _ _ _ h => h) (Or.inl ⟨by rfl, ?yr4x19⟩) (by assumption) ?rr4x19
    case yr4x19 => (intro w' hSw; (try dsimp only at hSw); go_simp; (try with_reducible rfl))
    (try simp only [Act.put, List.setIfInBounds_toArray, List.set_cons_zero, List.set_cons_succ])
    refine wpAnyH_take (i := 20) (oi := { dst := some 30, op := Op.load 9 (Operand.tmp 29), type := 9, pos := _, after := #[{ on := 19, ground := Ground.data }, { on := 9, ground := Ground.guard }], guard := some (9, true) }) (v := ?vr4x20) rfl (by kernel_rfl) (by kernel_rfl) (by kernel_rfl) (fun _ _ _ h => h) (Or.inl ⟨by rfl, ?yr4x20⟩) (by assumption) ?rr4x20
    case yr4x20 => (intro w' hSw; (try dsimp only at hSw); go_simp; (try with_reducible rfl))
    refine wpAnyH_take (i := 21) (oi := { dst := some 31, op := Op.binOp BinOp.geq 9 (Operand.tmp 25) (Operand.tmp 30) 9, type := 4, pos := _, after := #[{ on := 15, ground := Ground.data }, { on := 20, ground := Ground.data }, { on := 9, ground := Ground.guard }], guard := some (9, true) }) (v := ?vr4x21) rfl (by kernel_rfl) (by kernel_rfl) (by kernel_rfl) (fun _ _ _ h => h) (Or.inl ⟨by rfl, ?yr4x21⟩) (by assumption) ?rr4x21
    case yr4x21 => (intro w' hSw; (try dsimp only at hSw); go_simp; (try with_reducible rfl))
    refine wpAnyH_take (i := 22) (oi := { dst := some 32, op := Op.pick (Operand.tmp 19) (Operand.tmp 31) (Operand.const (Value.bool false)), type := 4, pos := _, after := #[{ on := 9, ground := Ground.data }, { on := 21, ground := Ground.data }, { on := 6, ground := Ground.guard }], guard := some (6, false) }) (v := ?vr4x22) rfl (by kernel_rfl) (by kernel_rfl) (by kernel_rfl) (fun _ _ _ h => h) (Or.inl ⟨by rfl, ?yr4x22⟩) (by assumption) ?rr4x22
    case yr4x22 => (intro w' hSw; (try dsimp only at hSw); go_simp; (try with_reducible rfl))
    (try simp only [Act.put, List.setIfInBounds_toArray, List.set_cons_zero, List.set_cons_succ])
    refine wpAnyH_take (i := 23) (oi := { dst := some 33, op := Op.pick (Operand.tmp 16) (Operand.const (Value.bool true)) (Operand.tmp 32), type := 4, pos := _, after := #[{ on := 6, ground := Ground.data }, { on := 22, ground := Ground.data }], guard := none }) (v := ?vr4x23) rfl (by kernel_rfl) (by kernel_rfl) (by kernel_rfl) (fun _ _ _ h => h) (Or.inl ⟨by rfl, ?yr4x23⟩) (by assumption) ?rr4x23
    case yr4x23 => (intro w' hSw; (try dsimp only at hSw); go_simp; (try with_reducible rfl))
    (try simp only [Act.put, List.setIfInBounds_toArray, List.set_cons_zero, List.set_cons_succ])
    refine wpAnyH_done (by kernel_rfl) ?_ _
    have hS := (by assumption : Hid (Below wr.heap.size wr _) ∧ _)
    have HBF := Lib.hid (HB.out.trans (hS.1.out.mono HB.out.size))
    go_wp2_with fail
    go_ret
    exact ⟨by rw [HY.out]; rfl, HBF.out⟩

set_option maxRecDepth 100000 in
set_option maxHeartbeats 1000000 in
theorem spec_findItem (v : Value) (l : List IT) (s : ByteArray) (w : World) (h : IT.Is w v l) (hm : l.length ≤ maxLen) :
 Calls Tryz.prog 48 #[v, .string s] w fun e w' => e = .returned (.int .i64 (fiI l s)) ∧ w = w' := by
 unfold maxLen at hm
 have HX := Lib.hid h
 obtain ⟨a, c, rfl⟩ := h.slice
 clear h
 go_enter Tryz.func48, Tryz.ntmps48
 go_wp2_with fail
 go_loop [5] (fun i => ∃ k : Nat, k ≤ l.length ∧ i = .int .i64 k ∧ Hid (∀ j (hj : j < l.length), j < k → (l[j]'hj).code ≠ s)) (fun i => l.length - (intOf i).toNat)
 case atStart => exact ⟨0, Nat.zero_le _, rfl, Lib.hid (fun j _ h => by omega)⟩
 case round =>
  obtain ⟨k, hk, rfl, HN⟩ := hrel
  by_cases hlt : k < l.length
  rotate_left
  · have HY := Lib.hid (fi_no (l := l) (s := s) (fun j hj => HN.out j hj (by omega)))
    go_wp2_with fail
    go_ret
    exact ⟨by rw [HY.out]; rfl, rfl⟩
  have HLT := Lib.hid hlt
  obtain ⟨b2, o2, c2, hv2, hc2, hcell2⟩ := HX.out.some (by omega)
  simp only [Value.slice.injEq] at hv2
  obtain ⟨rfl, _, rfl⟩ := hv2
  obtain ⟨e0, e1, e2, e3, e4, e5, e6, e7⟩ := hcell2.at k hlt
  have HY : Hid ((l[k]'hlt).code = s → fiI l s = k) := Lib.hid (fun h => fi_at hlt h (fun j hj hjk => HN.out j hj hjk))
  have HS : Hid ((l[k]'hlt).code ≠ s → ∀ j (hj : j < l.length), j < k + 1 → (l[j]'hj).code ≠ s) := Lib.hid (fun h j hj hjk => by
   by_cases e : j = k
   · subst e; exact h
   · exact HN.out j hj (by omega))
  generalize l[k]'hlt = x at *
  clear hcell2 hc2
  by_cases he : x.code = s
  · have HR := Lib.hid (HY.out he)
    have hbq := str_eq he
    clear he
    go_wp2_with fail
    go_ret
    exact ⟨by rw [HR.out]; rfl, rfl⟩
  · have HS2 := Lib.hid (HS.out he)
    have hbq := str_ne he
    clear he
    go_wp2_with fail
    go_round
    case rel => exact ⟨k + 1, by have := HLT.out; omega, by go_num, HS2⟩
    case measure => have := HLT.out; simp [intOf]; omega
end Go.Proofs.YtmnncinpepeocaaGreat

namespace Go.Proofs.YtmnncinpepeocaaGreat
open Go.RowKit

set_option maxRecDepth 100000 in
set_option maxHeartbeats 2000000 in
theorem im_catalog (v : Value) (l : List IT) (w : World) (h : IT.Is w v l) (hm : l.length ≤ maxLen) (hs : ∀ r, r ∈ l → IT.Sz r) :
 Calls Tryz.prog 128 #[v] w (BoolRes (catB l) w) := by
 unfold maxLen at hm
 have HX := Lib.hid h
 have HS := Lib.hid hs
 obtain ⟨a, c, rfl⟩ := h.slice
 clear h hs
 by_cases h12 : l.length ≤ 12
 rotate_left
 · have HY : Hid (catB l = false) := Lib.hid (catB_no (fun h => h12 h.2))
   go_enter Tryz.func128, Tryz.ntmps128
   go_wp2_with fail
   go_ret
   exact ⟨by rw [HY.out]; rfl, Below.refl _ _⟩
 go_enter Tryz.func128, Tryz.ntmps128
 go_wp2_with fail
 go_loopw [10] (fun i wr => ∃ k : Nat, k ≤ l.length ∧ i = .int .i64 k ∧ Hid (CatTo l k) ∧ Hid (Below w.heap.size w wr)) (fun i _ => l.length - (intOf i).toNat)
 case atStart => exact ⟨0, Nat.zero_le _, rfl, Lib.hid (CatTo.zero l), Lib.hid (Below.refl _ _)⟩
 case round =>
  obtain ⟨k, hk, rfl, HC, HB⟩ := hrel
  by_cases hlt : k < l.length
  rotate_left
  · have HY : Hid (catB l = true) := Lib.hid (catB_yes ⟨HC.out.all (by omega), h12⟩)
    go_wp2_with fail
    go_ret
    exact ⟨by rw [HY.out]; rfl, HB.out⟩
  have HLT := Lib.hid hlt
  have hsz := HS.out _ (List.getElem_mem hlt)
  have HN1 : Hid (¬ItOk (l[k]'hlt) → catB l = false) := Lib.hid (CatTo.no1 hlt)
  have HN2 : Hid (∀ h0 : 0 < k, ¬strLt (l[k - 1]'(by omega)).code (l[k]'hlt).code → catB l = false) := Lib.hid (fun h0 => CatTo.no2 hlt h0)
  have HSU : Hid (ItOk (l[k]'hlt) → (∀ h0 : 0 < k, strLt (l[k - 1]'(by omega)).code (l[k]'hlt).code) → CatTo l (k + 1)) := Lib.hid (fun x1 x2 => HC.out.succ hlt x1 x2)
  obtain ⟨b2, o2, c2, hv2, hc2, hcell2⟩ := HX.out.some (by omega)
  simp only [Value.slice.injEq] at hv2
  obtain ⟨rfl, _, rfl⟩ := hv2
  have HAT := Lib.hid (hcell2.below HB.out)
  obtain ⟨e0, e1, e2, e3, e4, e5, e6, e7⟩ := HAT.out.at k hlt
  clear hcell2 hc2
  obtain ⟨x, hx⟩ : ∃ x, l[k]'hlt = x := ⟨_, rfl⟩
  rw [hx] at hsz HN1 e0 e1 e2 e3 e4 e5 e6 e7
  simp only [hx] at HN2 HSU
  obtain ⟨W1, hW1⟩ : ∃ W, wr.alloc (.cells #[.string x.code, .string x.unt, .int .i64 x.kind, .int .i64 x.lead, .int .i64 x.rule, .int .i64 x.lsz, .int .i64 x.safe, .int .i64 x.scr] 33) = W := ⟨_, rfl⟩
  have HW1 := Lib.hid hW1
  have HA : W1.heap[wr.heap.size]? = some (.cells #[.string x.code, .string x.unt, .int .i64 x.kind, .int .i64 x.lead, .int .i64 x.rule, .int .i64 x.lsz, .int .i64 x.safe, .int .i64 x.scr] 33) := by rw [← hW1]; exact heap_alloc_new _ _
  have HBA : Below wr.heap.size wr W1 := by rw [← hW1]; exact (Below.refl _ _).alloc (Nat.le_refl _) _
  have HBW := Lib.hid (HB.out.trans (HBA.mono HB.out.size))
  have HAT1 := Lib.hid (HAT.out.below HBA)
  clear hW1 HBA
  have HIT := Lib.hid (fun W => im_item x W hsz)
  have q0 := cell_of_row _ _ 0 _ _ _ HA
  have q1 := cell_of_row _ _ 1 _ _ _ HA
  have q2 := cell_of_row _ _ 2 _ _ _ HA
  have q3 := cell_of_row _ _ 3 _ _ _ HA
  have q4 := cell_of_row _ _ 4 _ _ _ HA
  have q5 := cell_of_row _ _ 5 _ _ _ HA
  have q6 := cell_of_row _ _ 6 _ _ _ HA
  have q7 := cell_of_row _ _ 7 _ _ _ HA
  clear HA
  unfold IT.val at HIT
  have HXX := Lib.hid hx
  clear hx hsz
  rcases Bool.eq_false_or_eq_true (itB x) with hi | hi
  rotate_left
  · have HY := Lib.hid (HN1.out (fun h => by rw [itB_yes h] at hi; cases hi))
    rw [hi] at HIT
    clear hi
    go_upto_region 6 with fail
    rw [HW1.out]
    refine wp_region_held_drew (S := (fun W' => Hid (Below W1.heap.size W1 W') ∧ W'.cell? ⟨wr.heap.size, 0, none⟩ = some (.string x.code) ∧ W'.cell? ⟨wr.heap.size, 1, none⟩ = some (.string x.unt) ∧ W'.cell? ⟨wr.heap.size, 2, none⟩ = some (.int .i64 x.kind) ∧ W'.cell? ⟨wr.heap.size, 3, none⟩ = some (.int .i64 x.lead) ∧ W'.cell? ⟨wr.heap.size, 4, none⟩ = some (.int .i64 x.rule) ∧ W'.cell? ⟨wr.heap.size, 5, none⟩ = some (.int .i64 x.lsz) ∧ W'.cell? ⟨wr.heap.size, 6, none⟩ = some (.int .i64 x.safe) ∧ W'.cell? ⟨wr.heap.size, 7, none⟩ = some (.int .i64 x.scr))) (by kernel_rfl) (hold8 q0 q1 q2 q3 q4 q5 q6 q7 (Below.refl _ _).drew) (fun hHeld => ?_)
    refine wpAnyH_take (i := 0) (oi := { dst := some 15, op := Op.load 33 (Operand.tmp 4), type := 33, pos := _, after := #[], guard := none }) (v := ?vr1x1) rfl (by kernel_rfl) (by kernel_rfl) (by kernel_rfl) (fun _ _ _ h => h) (Or.inl ⟨by rfl, ?yr1x1⟩) (by assumption) ?rr1x1
    case yr1x1 => (intro w' hSw; (try dsimp only at hSw); go_simp; (try with_reducible rfl))
    (try simp only [Act.put, List.setIfInBounds_toArray, List.set_cons_zero, List.set_cons_succ])
    refine wpAnyH_ready (rs := [1]) (by kernel_rfl) (by simp) ?_
    refine AllReadyH.cons (o := { dst := some 16, op := Op.call { callee := Callee.value (Operand.func 133), args := #[Operand.tmp 15], argTypes := #[33] }, type := 4, pos := _, after := #[{ on := 0, ground := Ground.data }], guard := none }) rfl (fun K hK => ?_) AllReadyH.nil
    go_simp
    refine (HIT.out _).mono ?_; rintro e w' ⟨rfl, hb⟩; have hle := hold_le (by assumption) hb
    (try go_wp2_with fail)
    refine hK.out _ _ ?_ (fun hHeld => ?_)
    · (try dsimp only); first | assumption | exact hold8 q0 q1 q2 q3 q4 q5 q6 q7 (hold_call (by assumption) (by assumption))
    clear hK K
    (try simp only [Act.put, List.setIfInBounds_toArray, List.set_cons_zero, List.set_cons_succ])
    refine wpAnyH_take (i := 2) (oi := { dst := some 17, op := Op.unOp UnOp.not 4 (Operand.tmp 16), type := 4, pos := _, after := #[{ on := 1, ground := Ground.data }], guard := none }) (v := ?vr1x2) rfl (by kernel_rfl) (by kernel_rfl) (by kernel_rfl) (fun _ _ _ h => h) (Or.inl ⟨by rfl, ?yr1x2⟩) (by assumption) ?rr1x2
    case yr1x2 => (intro w' hSw; (try dsimp only at hSw); go_simp; (try with_reducible rfl))
    refine wpAnyH_take (i := 3) (oi := { dst := some 18, op := Op.move (Operand.tmp 17), type := 4, pos := _, after := #[{ on := 2, ground := Ground.data }, { on := 1, ground := Ground.chain }], guard := none }) (v := ?vr1x3) rfl (by kernel_rfl) (by kernel_rfl) (by kernel_rfl) (fun _ _ _ h => h) (Or.inl ⟨by rfl, ?yr1x3⟩) (by assumption) ?rr1x3
    case yr1x3 => (intro w' hSw; (try dsimp only at hSw); go_simp; (try with_reducible rfl))
    refine wpAnyH_take (i := 4) (oi := { dst := some 19, op := Op.move (Operand.tmp 3), type := 3, pos := _, after := #[{ on := 3, ground := Ground.guard }], guard := some (3, false) }) (v := undef) rfl (by kernel_rfl) (by kernel_rfl) (by kernel_rfl) (fun _ _ _ h => h) (Or.inr ⟨by rfl, rfl⟩) (by assumption) ?_
    (try simp only [Act.put, List.setIfInBounds_toArray, List.set_cons_zero, List.set_cons_succ])
    refine wpAnyH_take (i := 5) (oi := { dst := some 20, op := Op.binOp BinOp.gtr 3 (Operand.tmp 19) (Operand.const (Value.int IntKind.i64 0)) 3, type := 4, pos := _, after := #[{ on := 4, ground := Ground.data }, { on := 3, ground := Ground.guard }], guard := some (3, false) }) (v := undef) rfl (by kernel_rfl) (by kernel_rfl) (by kernel_rfl) (fun _ _ _ h => h) (Or.inr ⟨by rfl, rfl⟩) (by assumption) ?_
    refine wpAnyH_take (i := 6) (oi := { dst := some 21, op := Op.move (Operand.tmp 20), type := 4, pos := _, after := #[{ on := 5, ground := Ground.data }, { on := 3, ground := Ground.chain }, { on := 3, ground := Ground.guard }], guard := some (3, false) }) (v := undef) rfl (by kernel_rfl) (by kernel_rfl) (by kernel_rfl) (fun _ _ _ h => h) (Or.inr ⟨by rfl, rfl⟩) (by assumption) ?_
    refine wpAnyH_take (i := 7) (oi := { dst := some 22, op := Op.fieldAddr 33 (Operand.tmp 4) 0, type := 0, pos := _, after := #[{ on := 6, ground := Ground.guard }], guard := some (6, true) }) (v := undef) rfl (by kernel_rfl) (by kernel_rfl) (by kernel_rfl) (fun _ _ _ h => h) (Or.inr ⟨by rfl, rfl⟩) (by assumption) ?_
    (try simp only [Act.put, List.setIfInBounds_toArray, List.set_cons_zero, List.set_cons_succ])
    refine wpAnyH_take (i := 8) (oi := { dst := some 23, op := Op.load 9 (Operand.tmp 22), type := 9, pos := _, after := #[{ on := 7, ground := Ground.data }, { on := 6, ground := Ground.guard }], guard := some (6, true) }) (v := undef) rfl (by kernel_rfl) (by kernel_rfl) (by kernel_rfl) (fun _ _ _ h => h) (Or.inr ⟨by rfl, rfl⟩) (by assumption) ?_
    refine wpAnyH_take (i := 9) (oi := { dst := some 24, op := Op.move (Operand.tmp 0), type := 24, pos := _, after := #[{ on := 6, ground := Ground.guard }], guard := some (6, true) }) (v := undef) rfl (by kernel_rfl) (by kernel_rfl) (by kernel_rfl) (fun _ _ _ h => h) (Or.inr ⟨by rfl, rfl⟩) (by assumption) ?_
    refine wpAnyH_take (i := 10) (oi := { dst := some 25, op := Op.move (Operand.tmp 3), type := 3, pos := _, after := #[{ on := 6, ground := Ground.guard }], guard := some (6, true) }) (v := undef) rfl (by kernel_rfl) (by kernel_rfl) (by kernel_rfl) (fun _ _ _ h => h) (Or.inr ⟨by rfl, rfl⟩) (by assumption) ?_
    (try simp only [Act.put, List.setIfInBounds_toArray, List.set_cons_zero, List.set_cons_succ])
    refine wpAnyH_take (i := 11) (oi := { dst := some 26, op := Op.binOp BinOp.sub 3 (Operand.tmp 25) (Operand.const (Value.int IntKind.i64 1)) 3, type := 3, pos := _, after := #[{ on := 10, ground := Ground.data }, { on := 6, ground := Ground.guard }], guard := some (6, true) }) (v := undef) rfl (by kernel_rfl) (by kernel_rfl) (by kernel_rfl) (fun _ _ _ h => h) (Or.inr ⟨by rfl, rfl⟩) (by assumption) ?_
    refine wpAnyH_take (i := 12) (oi := { dst := some 27, op := Op.indexAddr 24 (Operand.tmp 24) (Operand.tmp 26), type := 0, pos := _, after := #[{ on := 9, ground := Ground.data }, { on := 11, ground := Ground.data }, { on := 6, ground := Ground.guard }], guard := some (6, true) }) (v := undef) rfl (by kernel_rfl) (by kernel_rfl) (by kernel_rfl) (fun _ _ _ h => h) (Or.inr ⟨by rfl, rfl⟩) (by assumption) ?_
    refine wpAnyH_take (i := 13) (oi := { dst := some 28, op := Op.fieldAddr 33 (Operand.tmp 27) 0, type := 0, pos := _, after := #[{ on := 12, ground := Ground.data }, { on := 6, ground := Ground.guard }], guard := some (6, true) }) (v := undef) rfl (by kernel_rfl) (by kernel_rfl) (by kernel_rfl) (fun _ _ _ h => h) (Or.inr ⟨by rfl, rfl⟩) (by assumption) ?_
    (try simp only [Act.put, List.setIfInBounds_toArray, List.set_cons_zero, List.set_cons_succ])
    refine wpAnyH_take (i := 14) (oi := { dst := some 29, op := Op.load 9 (Operand.tmp 28), type := 9, pos := _, after := #[{ on := 13, ground := Ground.data }, { on := 6, ground := Ground.guard }], guard := some (6, true) }) (v := undef) rfl (by kernel_rfl) (by kernel_rfl) (by kernel_rfl) (fun _ _ _ h => h) (Or.inr ⟨by rfl, rfl⟩) (by assumption) ?_
    refine wpAnyH_take (i := 15) (oi := { dst := some 30, op := Op.binOp BinOp.leq 9 (Operand.tmp 23) (Operand.tmp 29) 9, type := 4, pos := _, after := #[{ on := 8, ground := Ground.data }, { on := 14, ground := Ground.data }, { on := 6, ground := Ground.guard }], guard := some (6, true) }) (v := undef) rfl (by kernel_rfl) (by kernel_rfl) (by kernel_rfl) (fun _ _ _ h => h) (Or.inr ⟨by rfl, rfl⟩) (by assumption) ?_
    refine wpAnyH_take (i := 16) (oi := { dst := some 31, op := Op.pick (Operand.tmp 21) (Operand.tmp 30) (Operand.const (Value.bool false)), type := 4, pos := _, after := #[{ on := 6, ground := Ground.data }, { on := 15, ground := Ground.data }, { on := 3, ground := Ground.guard }], guard := some (3, false) }) (v := undef) rfl (by kernel_rfl) (by kernel_rfl) (by kernel_rfl) (fun _ _ _ h => h) (Or.inr ⟨by rfl, rfl⟩) (by assumption) ?_
    (try simp only [Act.put, List.setIfInBounds_toArray, List.set_cons_zero, List.set_cons_succ])
    refine wpAnyH_take (i := 17) (oi := { dst := some 32, op := Op.pick (Operand.tmp 18) (Operand.const (Value.bool true)) (Operand.tmp 31), type := 4, pos := _, after := #[{ on := 3, ground := Ground.data }, { on := 16, ground := Ground.data }], guard := none }) (v := ?vr1x4) rfl (by kernel_rfl) (by kernel_rfl) (by kernel_rfl) (fun _ _ _ h => h) (Or.inl ⟨by rfl, ?yr1x4⟩) (by assumption) ?rr1x4
    case yr1x4 => (intro w' hSw; (try dsimp only at hSw); go_simp; (try with_reducible rfl))
    (try simp only [Act.put, List.setIfInBounds_toArray, List.set_cons_zero, List.set_cons_succ])
    refine wpAnyH_done (by kernel_rfl) ?_ _
    have hS := (by assumption : Hid (Below W1.heap.size W1 _) ∧ _)
    have HBF := Lib.hid (HBW.out.trans (hS.1.out.mono HBW.out.size))
    go_wp2_with fail
    go_ret
    exact ⟨by rw [HY.out]; rfl, HBF.out⟩
  have HOK := Lib.hid (itB_iff.1 hi)
  rw [hi] at HIT
  clear hi
  by_cases hk0 : 0 < k
  rotate_left
  · have HS2 := Lib.hid (HSU.out HOK.out (fun h0 => absurd h0 hk0))
    have hd : decide ((0 : Int) < (k : Int)) = false := decide_eq_false (by omega)
    go_upto_region 6 with fail
    rw [HW1.out]
    refine wp_region_held_drew (S := (fun W' => Hid (Below W1.heap.size W1 W') ∧ W'.cell? ⟨wr.heap.size, 0, none⟩ = some (.string x.code) ∧ W'.cell? ⟨wr.heap.size, 1, none⟩ = some (.string x.unt) ∧ W'.cell? ⟨wr.heap.size, 2, none⟩ = some (.int .i64 x.kind) ∧ W'.cell? ⟨wr.heap.size, 3, none⟩ = some (.int .i64 x.lead) ∧ W'.cell? ⟨wr.heap.size, 4, none⟩ = some (.int .i64 x.rule) ∧ W'.cell? ⟨wr.heap.size, 5, none⟩ = some (.int .i64 x.lsz) ∧ W'.cell? ⟨wr.heap.size, 6, none⟩ = some (.int .i64 x.safe) ∧ W'.cell? ⟨wr.heap.size, 7, none⟩ = some (.int .i64 x.scr))) (by kernel_rfl) (hold8 q0 q1 q2 q3 q4 q5 q6 q7 (Below.refl _ _).drew) (fun hHeld => ?_)
    refine wpAnyH_take (i := 0) (oi := { dst := some 15, op := Op.load 33 (Operand.tmp 4), type := 33, pos := _, after := #[], guard := none }) (v := ?vr2x1) rfl (by kernel_rfl) (by kernel_rfl) (by kernel_rfl) (fun _ _ _ h => h) (Or.inl ⟨by rfl, ?yr2x1⟩) (by assumption) ?rr2x1
    case yr2x1 => (intro w' hSw; (try dsimp only at hSw); go_simp; (try with_reducible rfl))
    (try simp only [Act.put, List.setIfInBounds_toArray, List.set_cons_zero, List.set_cons_succ])
    refine wpAnyH_ready (rs := [1]) (by kernel_rfl) (by simp) ?_
    refine AllReadyH.cons (o := { dst := some 16, op := Op.call { callee := Callee.value (Operand.func 133), args := #[Operand.tmp 15], argTypes := #[33] }, type := 4, pos := _, after := #[{ on := 0, ground := Ground.data }], guard := none }) rfl (fun K hK => ?_) AllReadyH.nil
    go_simp
    refine (HIT.out _).mono ?_; rintro e w' ⟨rfl, hb⟩; have hle := hold_le (by assumption) hb
    (try go_wp2_with fail)
    refine hK.out _ _ ?_ (fun hHeld => ?_)
    · (try dsimp only); first | assumption | exact hold8 q0 q1 q2 q3 q4 q5 q6 q7 (hold_call (by assumption) (by assumption))
    clear hK K
    (try simp only [Act.put, List.setIfInBounds_toArray, List.set_cons_zero, List.set_cons_succ])
    refine wpAnyH_take (i := 2) (oi := { dst := some 17, op := Op.unOp UnOp.not 4 (Operand.tmp 16), type := 4, pos := _, after := #[{ on := 1, ground := Ground.data }], guard := none }) (v := ?vr2x2) rfl (by kernel_rfl) (by kernel_rfl) (by kernel_rfl) (fun _ _ _ h => h) (Or.inl ⟨by rfl, ?yr2x2⟩) (by assumption) ?rr2x2
    case yr2x2 => (intro w' hSw; (try dsimp only at hSw); go_simp; (try with_reducible rfl))
    refine wpAnyH_take (i := 3) (oi := { dst := some 18, op := Op.move (Operand.tmp 17), type := 4, pos := _, after := #[{ on := 2, ground := Ground.data }, { on := 1, ground := Ground.chain }], guard := none }) (v := ?vr2x3) rfl (by kernel_rfl) (by kernel_rfl) (by kernel_rfl) (fun _ _ _ h => h) (Or.inl ⟨by rfl, ?yr2x3⟩) (by assumption) ?rr2x3
    case yr2x3 => (intro w' hSw; (try dsimp only at hSw); go_simp; (try with_reducible rfl))
    refine wpAnyH_take (i := 4) (oi := { dst := some 19, op := Op.move (Operand.tmp 3), type := 3, pos := _, after := #[{ on := 3, ground := Ground.guard }], guard := some (3, false) }) (v := ?vr2x4) rfl (by kernel_rfl) (by kernel_rfl) (by kernel_rfl) (fun _ _ _ h => h) (Or.inl ⟨by rfl, ?yr2x4⟩) (by assumption) ?rr2x4
    case yr2x4 => (intro w' hSw; (try dsimp only at hSw); go_simp; (try with_reducible rfl))
    (try simp only [Act.put, List.setIfInBounds_toArray, List.set_cons_zero, List.set_cons_succ])
    refine wpAnyH_take (i := 5) (oi := { dst := some 20, op := Op.binOp BinOp.gtr 3 (Operand.tmp 19) (Operand.const (Value.int IntKind.i64 0)) 3, type := 4, pos := _, after := #[{ on := 4, ground := Ground.data }, { on := 3, ground := Ground.guard }], guard := some (3, false) }) (v := ?vr2x5) rfl (by kernel_rfl) (by kernel_rfl) (by kernel_rfl) (fun _ _ _ h => h) (Or.inl ⟨by rfl, ?yr2x5⟩) (by assumption) ?rr2x5
    case yr2x5 => (intro w' hSw; (try dsimp only at hSw); go_simp; (try with_reducible rfl))
    refine wpAnyH_take (i := 6) (oi := { dst := some 21, op := Op.move (Operand.tmp 20), type := 4, pos := _, after := #[{ on := 5, ground := Ground.data }, { on := 3, ground := Ground.chain }, { on := 3, ground := Ground.guard }], guard := some (3, false) }) (v := ?vr2x6) rfl (by kernel_rfl) (by kernel_rfl) (by kernel_rfl) (fun _ _ _ h => h) (Or.inl ⟨by rfl, ?yr2x6⟩) (by assumption) ?rr2x6
    case yr2x6 => (intro w' hSw; (try dsimp only at hSw); go_simp; (try with_reducible rfl))
    refine wpAnyH_take (i := 7) (oi := { dst := some 22, op := Op.fieldAddr 33 (Operand.tmp 4) 0, type := 0, pos := _, after := #[{ on := 6, ground := Ground.guard }], guard := some (6, true) }) (v := undef) rfl (by kernel_rfl) (by kernel_rfl) (by kernel_rfl) (fun _ _ _ h => h) (Or.inr ⟨by rfl, rfl⟩) (by assumption) ?_
    (try simp only [Act.put, List.setIfInBounds_toArray, List.set_cons_zero, List.set_cons_succ])
    refine wpAnyH_take (i := 8) (oi := { dst := some 23, op := Op.load 9 (Operand.tmp 22), type := 9, pos := _, after := #[{ on := 7, ground := Ground.data }, { on := 6, ground := Ground.guard }], guard := some (6, true) }) (v := undef) rfl (by kernel_rfl) (by kernel_rfl) (by kernel_rfl) (fun _ _ _ h => h) (Or.inr ⟨by rfl, rfl⟩) (by assumption) ?_
    refine wpAnyH_take (i := 9) (oi := { dst := some 24, op := Op.move (Operand.tmp 0), type := 24, pos := _, after := #[{ on := 6, ground := Ground.guard }], guard := some (6, true) }) (v := undef) rfl (by kernel_rfl) (by kernel_rfl) (by kernel_rfl) (fun _ _ _ h => h) (Or.inr ⟨by rfl, rfl⟩) (by assumption) ?_
    refine wpAnyH_take (i := 10) (oi := { dst := some 25, op := Op.move (Operand.tmp 3), type := 3, pos := _, after := #[{ on := 6, ground := Ground.guard }], guard := some (6, true) }) (v := undef) rfl (by kernel_rfl) (by kernel_rfl) (by kernel_rfl) (fun _ _ _ h => h) (Or.inr ⟨by rfl, rfl⟩) (by assumption) ?_
    (try simp only [Act.put, List.setIfInBounds_toArray, List.set_cons_zero, List.set_cons_succ])
    refine wpAnyH_take (i := 11) (oi := { dst := some 26, op := Op.binOp BinOp.sub 3 (Operand.tmp 25) (Operand.const (Value.int IntKind.i64 1)) 3, type := 3, pos := _, after := #[{ on := 10, ground := Ground.data }, { on := 6, ground := Ground.guard }], guard := some (6, true) }) (v := undef) rfl (by kernel_rfl) (by kernel_rfl) (by kernel_rfl) (fun _ _ _ h => h) (Or.inr ⟨by rfl, rfl⟩) (by assumption) ?_
    refine wpAnyH_take (i := 12) (oi := { dst := some 27, op := Op.indexAddr 24 (Operand.tmp 24) (Operand.tmp 26), type := 0, pos := _, after := #[{ on := 9, ground := Ground.data }, { on := 11, ground := Ground.data }, { on := 6, ground := Ground.guard }], guard := some (6, true) }) (v := undef) rfl (by kernel_rfl) (by kernel_rfl) (by kernel_rfl) (fun _ _ _ h => h) (Or.inr ⟨by rfl, rfl⟩) (by assumption) ?_
    refine wpAnyH_take (i := 13) (oi := { dst := some 28, op := Op.fieldAddr 33 (Operand.tmp 27) 0, type := 0, pos := _, after := #[{ on := 12, ground := Ground.data }, { on := 6, ground := Ground.guard }], guard := some (6, true) }) (v := undef) rfl (by kernel_rfl) (by kernel_rfl) (by kernel_rfl) (fun _ _ _ h => h) (Or.inr ⟨by rfl, rfl⟩) (by assumption) ?_
    (try simp only [Act.put, List.setIfInBounds_toArray, List.set_cons_zero, List.set_cons_succ])
    refine wpAnyH_take (i := 14) (oi := { dst := some 29, op := Op.load 9 (Operand.tmp 28), type := 9, pos := _, after := #[{ on := 13, ground := Ground.data }, { on := 6, ground := Ground.guard }], guard := some (6, true) }) (v := undef) rfl (by kernel_rfl) (by kernel_rfl) (by kernel_rfl) (fun _ _ _ h => h) (Or.inr ⟨by rfl, rfl⟩) (by assumption) ?_
    refine wpAnyH_take (i := 15) (oi := { dst := some 30, op := Op.binOp BinOp.leq 9 (Operand.tmp 23) (Operand.tmp 29) 9, type := 4, pos := _, after := #[{ on := 8, ground := Ground.data }, { on := 14, ground := Ground.data }, { on := 6, ground := Ground.guard }], guard := some (6, true) }) (v := undef) rfl (by kernel_rfl) (by kernel_rfl) (by kernel_rfl) (fun _ _ _ h => h) (Or.inr ⟨by rfl, rfl⟩) (by assumption) ?_
    refine wpAnyH_take (i := 16) (oi := { dst := some 31, op := Op.pick (Operand.tmp 21) (Operand.tmp 30) (Operand.const (Value.bool false)), type := 4, pos := _, after := #[{ on := 6, ground := Ground.data }, { on := 15, ground := Ground.data }, { on := 3, ground := Ground.guard }], guard := some (3, false) }) (v := ?vr2x7) rfl (by kernel_rfl) (by kernel_rfl) (by kernel_rfl) (fun _ _ _ h => h) (Or.inl ⟨by rfl, ?yr2x7⟩) (by assumption) ?rr2x7
    case yr2x7 => (intro w' hSw; (try dsimp only at hSw); go_simp; (try with_reducible rfl))
    (try simp only [Act.put, List.setIfInBounds_toArray, List.set_cons_zero, List.set_cons_succ])
    refine wpAnyH_take (i := 17) (oi := { dst := some 32, op := Op.pick (Operand.tmp 18) (Operand.const (Value.bool true)) (Operand.tmp 31), type := 4, pos := _, after := #[{ on := 3, ground := Ground.data }, { on := 16, ground := Ground.data }], guard := none }) (v := ?vr2x8) rfl (by kernel_rfl) (by kernel_rfl) (by kernel_rfl) (fun _ _ _ h => h) (Or.inl ⟨by rfl, ?yr2x8⟩) (by assumption) ?rr2x8
    case yr2x8 => (intro w' hSw; (try dsimp only at hSw); go_simp; (try with_reducible rfl))
    (try simp only [Act.put, List.setIfInBounds_toArray, List.set_cons_zero, List.set_cons_succ])
    refine wpAnyH_done (by kernel_rfl) ?_ _
    have hS := (by assumption : Hid (Below W1.heap.size W1 _) ∧ _)
    have HBF := Lib.hid (HBW.out.trans (hS.1.out.mono HBW.out.size))
    go_wp2_with fail
    go_roundw
    case rel => exact ⟨k + 1, by have := HLT.out; omega, by go_num, HS2, HBF⟩
    case measure => have := HLT.out; simp [intOf]; omega
  have hd : decide ((0 : Int) < (k : Int)) = true := decide_eq_true (by omega)
  have hm1 : k - 1 < l.length := by have := HLT.out; omega
  have hix : ((k : Int) - 1) = ((k - 1 : Nat) : Int) := by omega
  obtain ⟨p0, p1, p2, p3, p4, p5, p6, p7⟩ := HAT1.out.at (k - 1) hm1
  have HN3 : Hid (¬strLt (l[k - 1]'hm1).code x.code → catB l = false) := Lib.hid (fun h => HN2.out hk0 h)
  have HSU3 : Hid (strLt (l[k - 1]'hm1).code x.code → CatTo l (k + 1)) := Lib.hid (fun h => HSU.out HOK.out (fun _ => h))
  generalize (l[k - 1]'hm1) = p at *
  clear HN2 HSU HN1 p1 p2 p3 p4 p5 p6 p7
  obtain ⟨m, hm⟩ : ∃ m, k - 1 = m := ⟨_, rfl⟩
  rw [hm] at hix p0 hm1
  have HKM := Lib.hid (show k = m + 1 by have := HLT.out; omega)
  clear hm
  have hwm : IntKind.i64.wrap (m : Int) = (m : Int) := (IntKind.wrap_i64 _).trans (by omega)
  have hmi : (m : Int) < (l.length : Int) := by omega
  have hm0 : (0 : Int) ≤ (m : Int) := by omega
  by_cases ho : strLt p.code x.code
  · have HS2 := Lib.hid (HSU3.out ho)
    have l1 := less_no (strLt_asymm ho)
    have l2 := str_ne (strLt_ne ho).symm
    clear ho
    go_upto_region 6 with fail
    rw [HW1.out]
    refine wp_region_held_drew (S := (fun W' => Hid (Below W1.heap.size W1 W') ∧ W'.cell? ⟨wr.heap.size, 0, none⟩ = some (.string x.code) ∧ W'.cell? ⟨wr.heap.size, 1, none⟩ = some (.string x.unt) ∧ W'.cell? ⟨wr.heap.size, 2, none⟩ = some (.int .i64 x.kind) ∧ W'.cell? ⟨wr.heap.size, 3, none⟩ = some (.int .i64 x.lead) ∧ W'.cell? ⟨wr.heap.size, 4, none⟩ = some (.int .i64 x.rule) ∧ W'.cell? ⟨wr.heap.size, 5, none⟩ = some (.int .i64 x.lsz) ∧ W'.cell? ⟨wr.heap.size, 6, none⟩ = some (.int .i64 x.safe) ∧ W'.cell? ⟨wr.heap.size, 7, none⟩ = some (.int .i64 x.scr) ∧ W'.cell? ⟨b2, o2 + m * 8, none⟩ = some (.string p.code))) (by kernel_rfl) (hold9 q0 q1 q2 q3 q4 q5 q6 q7 p0 (Below.refl _ _).drew) (fun hHeld => ?_)
    refine wpAnyH_take (i := 0) (oi := { dst := some 15, op := Op.load 33 (Operand.tmp 4), type := 33, pos := _, after := #[], guard := none }) (v := ?vr3x1) rfl (by kernel_rfl) (by kernel_rfl) (by kernel_rfl) (fun _ _ _ h => h) (Or.inl ⟨by rfl, ?yr3x1⟩) (by assumption) ?rr3x1
    case yr3x1 => (intro w' hSw; (try dsimp only at hSw); go_simp; (try with_reducible rfl))
    (try simp only [Act.put, List.setIfInBounds_toArray, List.set_cons_zero, List.set_cons_succ])
    refine wpAnyH_ready (rs := [1]) (by kernel_rfl) (by simp) ?_
    refine AllReadyH.cons (o := { dst := some 16, op := Op.call { callee := Callee.value (Operand.func 133), args := #[Operand.tmp 15], argTypes := #[33] }, type := 4, pos := _, after := #[{ on := 0, ground := Ground.data }], guard := none }) rfl (fun K hK => ?_) AllReadyH.nil
    go_simp
    refine (HIT.out _).mono ?_; rintro e w' ⟨rfl, hb⟩; have hle := hold_le (by assumption) hb
    (try go_wp2_with fail)
    refine hK.out _ _ ?_ (fun hHeld => ?_)
    · (try dsimp only); first | assumption | exact hold9 q0 q1 q2 q3 q4 q5 q6 q7 p0 (hold_call (by assumption) (by assumption))
    clear hK K
    (try simp only [Act.put, List.setIfInBounds_toArray, List.set_cons_zero, List.set_cons_succ])
    refine wpAnyH_take (i := 2) (oi := { dst := some 17, op := Op.unOp UnOp.not 4 (Operand.tmp 16), type := 4, pos := _, after := #[{ on := 1, ground := Ground.data }], guard := none }) (v := ?vr3x2) rfl (by kernel_rfl) (by kernel_rfl) (by kernel_rfl) (fun _ _ _ h => h) (Or.inl ⟨by rfl, ?yr3x2⟩) (by assumption) ?rr3x2
    case yr3x2 => (intro w' hSw; (try dsimp only at hSw); go_simp; (try with_reducible rfl))
    refine wpAnyH_take (i := 3) (oi := { dst := some 18, op := Op.move (Operand.tmp 17), type := 4, pos := _, after := #[{ on := 2, ground := Ground.data }, { on := 1, ground := Ground.chain }], guard := none }) (v := ?vr3x3) rfl (by kernel_rfl) (by kernel_rfl) (by kernel_rfl) (fun _ _ _ h => h) (Or.inl ⟨by rfl, ?yr3x3⟩) (by assumption) ?rr3x3
    case yr3x3 => (intro w' hSw; (try dsimp only at hSw); go_simp; (try with_reducible rfl))
    refine wpAnyH_take (i := 4) (oi := { dst := some 19, op := Op.move (Operand.tmp 3), type := 3, pos := _, after := #[{ on := 3, ground := Ground.guard }], guard := some (3, false) }) (v := ?vr3x4) rfl (by kernel_rfl) (by kernel_rfl) (by kernel_rfl) (fun _ _ _ h => h) (Or.inl ⟨by rfl, ?yr3x4⟩) (by assumption) ?rr3x4
    case yr3x4 => (intro w' hSw; (try dsimp only at hSw); go_simp; (try with_reducible rfl))
    (try simp only [Act.put, List.setIfInBounds_toArray, List.set_cons_zero, List.set_cons_succ])
    refine wpAnyH_take (i := 5) (oi := { dst := some 20, op := Op.binOp BinOp.gtr 3 (Operand.tmp 19) (Operand.const (Value.int IntKind.i64 0)) 3, type := 4, pos := _, after := #[{ on := 4, ground := Ground.data }, { on := 3, ground := Ground.guard }], guard := some (3, false) }) (v := ?vr3x5) rfl (by kernel_rfl) (by kernel_rfl) (by kernel_rfl) (fun _ _ _ h => h) (Or.inl ⟨by rfl, ?yr3x5⟩) (by assumption) ?rr3x5
    case yr3x5 => (intro w' hSw; (try dsimp only at hSw); go_simp; (try with_reducible rfl))
    refine wpAnyH_take (i := 6) (oi := { dst := some 21, op := Op.move (Operand.tmp 20), type := 4, pos := _, after := #[{ on := 5, ground := Ground.data }, { on := 3, ground := Ground.chain }, { on := 3, ground := Ground.guard }], guard := some (3, false) }) (v := ?vr3x6) rfl (by kernel_rfl) (by kernel_rfl) (by kernel_rfl) (fun _ _ _ h => h) (Or.inl ⟨by rfl, ?yr3x6⟩) (by assumption) ?rr3x6
    case yr3x6 => (intro w' hSw; (try dsimp only at hSw); go_simp; (try with_reducible rfl))
    refine wpAnyH_take (i := 7) (oi := { dst := some 22, op := Op.fieldAddr 33 (Operand.tmp 4) 0, type := 0, pos := _, after := #[{ on := 6, ground := Ground.guard }], guard := some (6, true) }) (v := ?vr3x7) rfl (by kernel_rfl) (by kernel_rfl) (by kernel_rfl) (fun _ _ _ h => h) (Or.inl ⟨by rfl, ?yr3x7⟩) (by assumption) ?rr3x7
    case yr3x7 => (intro w' hSw; (try dsimp only at hSw); go_simp; (try with_reducible rfl))
    (try simp only [Act.put, List.setIfInBounds_toArray, List.set_cons_zero, List.set_cons_succ])
    refine wpAnyH_take (i := 8) (oi := { dst := some 23, op := Op.load 9 (Operand.tmp 22), type := 9, pos := _, after := #[{ on := 7, ground := Ground.data }, { on := 6, ground := Ground.guard }], guard := some (6, true) }) (v := ?vr3x8) rfl (by kernel_rfl) (by kernel_rfl) (by kernel_rfl) (fun _ _ _ h => h) (Or.inl ⟨by rfl, ?yr3x8⟩) (by assumption) ?rr3x8
    case yr3x8 => (intro w' hSw; (try dsimp only at hSw); go_simp; (try with_reducible rfl))
    refine wpAnyH_take (i := 9) (oi := { dst := some 24, op := Op.move (Operand.tmp 0), type := 24, pos := _, after := #[{ on := 6, ground := Ground.guard }], guard := some (6, true) }) (v := ?vr3x9) rfl (by kernel_rfl) (by kernel_rfl) (by kernel_rfl) (fun _ _ _ h => h) (Or.inl ⟨by rfl, ?yr3x9⟩) (by assumption) ?rr3x9
    case yr3x9 => (intro w' hSw; (try dsimp only at hSw); go_simp; (try with_reducible rfl))
    refine wpAnyH_take (i := 10) (oi := { dst := some 25, op := Op.move (Operand.tmp 3), type := 3, pos := _, after := #[{ on := 6, ground := Ground.guard }], guard := some (6, true) }) (v := ?vr3x10) rfl (by kernel_rfl) (by kernel_rfl) (by kernel_rfl) (fun _ _ _ h => h) (Or.inl ⟨by rfl, ?yr3x10⟩) (by assumption) ?rr3x10
    case yr3x10 => (intro w' hSw; (try dsimp only at hSw); go_simp; (try with_reducible rfl))
    (try simp only [Act.put, List.setIfInBounds_toArray, List.set_cons_zero, List.set_cons_succ])
    refine wpAnyH_take (i := 11) (oi := { dst := some 26, op := Op.binOp BinOp.sub 3 (Operand.tmp 25) (Operand.const (Value.int IntKind.i64 1)) 3, type := 3, pos := _, after := #[{ on := 10, ground := Ground.data }, { on := 6, ground := Ground.guard }], guard := some (6, true) }) (v := ?vr3x11) rfl (by kernel_rfl) (by kernel_rfl) (by kernel_rfl) (fun _ _ _ h => h) (Or.inl ⟨by rfl, ?yr3x11⟩) (by assumption) ?rr3x11
    case yr3x11 => (intro w' hSw; (try dsimp only at hSw); go_simp; (try with_reducible rfl))
    refine wpAnyH_take (i := 12) (oi := { dst := some 27, op := Op.indexAddr 24 (Operand.tmp 24) (Operand.tmp 26), type := 0, pos := _, after := #[{ on := 9, ground := Ground.data }, { on := 11, ground := Ground.data }, { on := 6, ground := Ground.guard }], guard := some (6, true) }) (v := ?vr3x12) rfl (by kernel_rfl) (by kernel_rfl) (by kernel_rfl) (fun _ _ _ h => h) (Or.inl ⟨by rfl, ?yr3x12⟩) (by assumption) ?rr3x12
    case yr3x12 => (intro w' hSw; (try dsimp only at hSw); go_simp; (try with_reducible rfl))
    refine wpAnyH_take (i := 13) (oi := { dst := some 28, op := Op.fieldAddr 33 (Operand.tmp 27) 0, type := 0, pos := _, after := #[{ on := 12, ground := Ground.data }, { on := 6, ground := Ground.guard }], guard := some (6, true) }) (v := ?vr3x13) rfl (by kernel_rfl) (by kernel_rfl) (by kernel_rfl) (fun _ _ _ h => h) (Or.inl ⟨by rfl, ?yr3x13⟩) (by assumption) ?rr3x13
    case yr3x13 => (intro w' hSw; (try dsimp only at hSw); go_simp; (try with_reducible rfl))
    (try simp only [Act.put, List.setIfInBounds_toArray, List.set_cons_zero, List.set_cons_succ])
    refine wpAnyH_take (i := 14) (oi := { dst := some 29, op := Op.load 9 (Operand.tmp 28), type := 9, pos := _, after := #[{ on := 13, ground := Ground.data }, { on := 6, ground := Ground.guard }], guard := some (6, true) }) (v := ?vr3x14) rfl (by kernel_rfl) (by kernel_rfl) (by kernel_rfl) (fun _ _ _ h => h) (Or.inl ⟨by rfl, ?yr3x14⟩) (by assumption) ?rr3x14
    case yr3x14 => (intro w' hSw; (try dsimp only at hSw); go_simp; (try with_reducible rfl))
    refine wpAnyH_take (i := 15) (oi := { dst := some 30, op := Op.binOp BinOp.leq 9 (Operand.tmp 23) (Operand.tmp 29) 9, type := 4, pos := _, after := #[{ on := 8, ground := Ground.data }, { on := 14, ground := Ground.data }, { on := 6, ground := Ground.guard }], guard := some (6, true) }) (v := ?vr3x15) rfl (by kernel_rfl) (by kernel_rfl) (by kernel_rfl) (fun _ _ _ h => h) (Or.inl ⟨by rfl, ?yr3x15⟩) (by assumption) ?rr3x15
    case yr3x15 => (intro w' hSw; (try dsimp only at hSw); go_simp; (try with_reducible rfl))
    refine wpAnyH_take (i := 16) (oi := { dst := some 31, op := Op.pick (Operand.tmp 21) (Operand.tmp 30) (Operand.const (Value.bool false)), type := 4, pos := _, after := #[{ on := 6, ground := Ground.data }, { on := 15, ground := Ground.data }, { on := 3, ground := Ground.guard }], guard := some (3, false) }) (v := ?vr3x16) rfl (by kernel_rfl) (by kernel_rfl) (by kernel_rfl) (fun _ _ _ h => h) (Or.inl ⟨by rfl, ?yr3x16⟩) (by assumption) ?rr3x16
    case yr3x16 => (intro w' hSw; (try dsimp only at hSw); go_simp; (try with_reducible rfl))
    (try simp only [Act.put, List.setIfInBounds_toArray, List.set_cons_zero, List.set_cons_succ])
    refine wpAnyH_take (i := 17) (oi := { dst := some 32, op := Op.pick (Operand.tmp 18) (Operand.const (Value.bool true)) (Operand.tmp 31), type := 4, pos := _, after := #[{ on := 3, ground := Ground.data }, { on := 16, ground := Ground.data }], guard := none }) (v := ?vr3x17) rfl (by kernel_rfl) (by kernel_rfl) (by kernel_rfl) (fun _ _ _ h => h) (Or.inl ⟨by rfl, ?yr3x17⟩) (by assumption) ?rr3x17
    case yr3x17 => (intro w' hSw; (try dsimp only at hSw); go_simp; (try with_reducible rfl))
    (try simp only [Act.put, List.setIfInBounds_toArray, List.set_cons_zero, List.set_cons_succ])
    refine wpAnyH_done (by kernel_rfl) ?_ _
    have hS := (by assumption : Hid (Below W1.heap.size W1 _) ∧ _)
    have HBF := Lib.hid (HBW.out.trans (hS.1.out.mono HBW.out.size))
    go_wp2_with fail
    go_roundw
    case rel => exact ⟨k + 1, by have := HLT.out; omega, by go_num, HS2, HBF⟩
    case measure => have := HLT.out; simp [intOf]; omega
  · have HY := Lib.hid (HN3.out ho)
    by_cases he : x.code = p.code
    · have l2 := str_eq he
      have l1 : Op.bytesLess x.code.toList p.code.toList = false := by rw [he]; exact less_no (strLt_irrefl _)
      clear ho he
      go_upto_region 6 with fail
      rw [HW1.out]
      refine wp_region_held_drew (S := (fun W' => Hid (Below W1.heap.size W1 W') ∧ W'.cell? ⟨wr.heap.size, 0, none⟩ = some (.string x.code) ∧ W'.cell? ⟨wr.heap.size, 1, none⟩ = some (.string x.unt) ∧ W'.cell? ⟨wr.heap.size, 2, none⟩ = some (.int .i64 x.kind) ∧ W'.cell? ⟨wr.heap.size, 3, none⟩ = some (.int .i64 x.lead) ∧ W'.cell? ⟨wr.heap.size, 4, none⟩ = some (.int .i64 x.rule) ∧ W'.cell? ⟨wr.heap.size, 5, none⟩ = some (.int .i64 x.lsz) ∧ W'.cell? ⟨wr.heap.size, 6, none⟩ = some (.int .i64 x.safe) ∧ W'.cell? ⟨wr.heap.size, 7, none⟩ = some (.int .i64 x.scr) ∧ W'.cell? ⟨b2, o2 + m * 8, none⟩ = some (.string p.code))) (by kernel_rfl) (hold9 q0 q1 q2 q3 q4 q5 q6 q7 p0 (Below.refl _ _).drew) (fun hHeld => ?_)
      refine wpAnyH_take (i := 0) (oi := { dst := some 15, op := Op.load 33 (Operand.tmp 4), type := 33, pos := _, after := #[], guard := none }) (v := ?vr4x1) rfl (by kernel_rfl) (by kernel_rfl) (by kernel_rfl) (fun _ _ _ h => h) (Or.inl ⟨by rfl, ?yr4x1⟩) (by assumption) ?rr4x1
      case yr4x1 => (intro w' hSw; (try dsimp only at hSw); go_simp; (try with_reducible rfl))
      (try simp only [Act.put, List.setIfInBounds_toArray, List.set_cons_zero, List.set_cons_succ])
      refine wpAnyH_ready (rs := [1]) (by kernel_rfl) (by simp) ?_
      refine AllReadyH.cons (o := { dst := some 16, op := Op.call { callee := Callee.value (Operand.func 133), args := #[Operand.tmp 15], argTypes := #[33] }, type := 4, pos := _, after := #[{ on := 0, ground := Ground.data }], guard := none }) rfl (fun K hK => ?_) AllReadyH.nil
      go_simp
      refine (HIT.out _).mono ?_; rintro e w' ⟨rfl, hb⟩; have hle := hold_le (by assumption) hb
      (try go_wp2_with fail)
      refine hK.out _ _ ?_ (fun hHeld => ?_)
      · (try dsimp only); first | assumption | exact hold9 q0 q1 q2 q3 q4 q5 q6 q7 p0 (hold_call (by assumption) (by assumption))
      clear hK K
      (try simp only [Act.put, List.setIfInBounds_toArray, List.set_cons_zero, List.set_cons_succ])
      refine wpAnyH_take (i := 2) (oi := { dst := some 17, op := Op.unOp UnOp.not 4 (Operand.tmp 16), type := 4, pos := _, after := #[{ on := 1, ground := Ground.data }], guard := none }) (v := ?vr4x2) rfl (by kernel_rfl) (by kernel_rfl) (by kernel_rfl) (fun _ _ _ h => h) (Or.inl ⟨by rfl, ?yr4x2⟩) (by assumption) ?rr4x2
      case yr4x2 => (intro w' hSw; (try dsimp only at hSw); go_simp; (try with_reducible rfl))
      refine wpAnyH_take (i := 3) (oi := { dst := some 18, op := Op.move (Operand.tmp 17), type := 4, pos := _, after := #[{ on := 2, ground := Ground.data }, { on := 1, ground := Ground.chain }], guard := none }) (v := ?vr4x3) rfl (by kernel_rfl) (by kernel_rfl) (by kernel_rfl) (fun _ _ _ h => h) (Or.inl ⟨by rfl, ?yr4x3⟩) (by assumption) ?rr4x3
      case yr4x3 => (intro w' hSw; (try dsimp only at hSw); go_simp; (try with_reducible rfl))
      refine wpAnyH_take (i := 4) (oi := { dst := some 19, op := Op.move (Operand.tmp 3), type := 3, pos := _, after := #[{ on := 3, ground := Ground.guard }], guard := some (3, false) }) (v := ?vr4x4) rfl (by kernel_rfl) (by kernel_rfl) (by kernel_rfl) (fun _ _ _ h => h) (Or.inl ⟨by rfl, ?yr4x4⟩) (by assumption) ?rr4x4
      case yr4x4 => (intro w' hSw; (try dsimp only at hSw); go_simp; (try with_reducible rfl))
      (try simp only [Act.put, List.setIfInBounds_toArray, List.set_cons_zero, List.set_cons_succ])
      refine wpAnyH_take (i := 5) (oi := { dst := some 20, op := Op.binOp BinOp.gtr 3 (Operand.tmp 19) (Operand.const (Value.int IntKind.i64 0)) 3, type := 4, pos := _, after := #[{ on := 4, ground := Ground.data }, { on := 3, ground := Ground.guard }], guard := some (3, false) }) (v := ?vr4x5) rfl (by kernel_rfl) (by kernel_rfl) (by kernel_rfl) (fun _ _ _ h => h) (Or.inl ⟨by rfl, ?yr4x5⟩) (by assumption) ?rr4x5
      case yr4x5 => (intro w' hSw; (try dsimp only at hSw); go_simp; (try with_reducible rfl))
      refine wpAnyH_take (i := 6) (oi := { dst := some 21, op := Op.move (Operand.tmp 20), type := 4, pos := _, after := #[{ on := 5, ground := Ground.data }, { on := 3, ground := Ground.chain }, { on := 3, ground := Ground.guard }], guard := some (3, false) }) (v := ?vr4x6) rfl (by kernel_rfl) (by kernel_rfl) (by kernel_rfl) (fun _ _ _ h => h) (Or.inl ⟨by rfl, ?yr4x6⟩) (by assumption) ?rr4x6
      case yr4x6 => (intro w' hSw; (try dsimp only at hSw); go_simp; (try with_reducible rfl))
      refine wpAnyH_take (i := 7) (oi := { dst := some 22, op := Op.fieldAddr 33 (Operand.tmp 4) 0, type := 0, pos := _, after := #[{ on := 6, ground := Ground.guard }], guard := some (6, true) }) (v := ?vr4x7) rfl (by kernel_rfl) (by kernel_rfl) (by kernel_rfl) (fun _ _ _ h => h) (Or.inl ⟨by rfl, ?yr4x7⟩) (by assumption) ?rr4x7
      case yr4x7 => (intro w' hSw; (try dsimp only at hSw); go_simp; (try with_reducible rfl))
      (try simp only [Act.put, List.setIfInBounds_toArray, List.set_cons_zero, List.set_cons_succ])
      refine wpAnyH_take (i := 8) (oi := { dst := some 23, op := Op.load 9 (Operand.tmp 22), type := 9, pos := _, after := #[{ on := 7, ground := Ground.data }, { on := 6, ground := Ground.guard }], guard := some (6, true) }) (v := ?vr4x8) rfl (by kernel_rfl) (by kernel_rfl) (by kernel_rfl) (fun _ _ _ h => h) (Or.inl ⟨by rfl, ?yr4x8⟩) (by assumption) ?rr4x8
      case yr4x8 => (intro w' hSw; (try dsimp only at hSw); go_simp; (try with_reducible rfl))
      refine wpAnyH_take (i := 9) (oi := { dst := some 24, op := Op.move (Operand.tmp 0), type := 24, pos := _, after := #[{ on := 6, ground := Ground.guard }], guard := some (6, true) }) (v := ?vr4x9) rfl (by kernel_rfl) (by kernel_rfl) (by kernel_rfl) (fun _ _ _ h => h) (Or.inl ⟨by rfl, ?yr4x9⟩) (by assumption) ?rr4x9
      case yr4x9 => (intro w' hSw; (try dsimp only at hSw); go_simp; (try with_reducible rfl))
      refine wpAnyH_take (i := 10) (oi := { dst := some 25, op := Op.move (Operand.tmp 3), type := 3, pos := _, after := #[{ on := 6, ground := Ground.guard }], guard := some (6, true) }) (v := ?vr4x10) rfl (by kernel_rfl) (by kernel_rfl) (by kernel_rfl) (fun _ _ _ h => h) (Or.inl ⟨by rfl, ?yr4x10⟩) (by assumption) ?rr4x10
      case yr4x10 => (intro w' hSw; (try dsimp only at hSw); go_simp; (try with_reducible rfl))
      (try simp only [Act.put, List.setIfInBounds_toArray, List.set_cons_zero, List.set_cons_succ])
      refine wpAnyH_take (i := 11) (oi := { dst := some 26, op := Op.binOp BinOp.sub 3 (Operand.tmp 25) (Operand.const (Value.int IntKind.i64 1)) 3, type := 3, pos := _, after := #[{ on := 10, ground := Ground.data }, { on := 6, ground := Ground.guard }], guard := some (6, true) }) (v := ?vr4x11) rfl (by kernel_rfl) (by kernel_rfl) (by kernel_rfl) (fun _ _ _ h => h) (Or.inl ⟨by rfl, ?yr4x11⟩) (by assumption) ?rr4x11
      case yr4x11 => (intro w' hSw; (try dsimp only at hSw); go_simp; (try with_reducible rfl))
      refine wpAnyH_take (i := 12) (oi := { dst := some 27, op := Op.indexAddr 24 (Operand.tmp 24) (Operand.tmp 26), type := 0, pos := _, after := #[{ on := 9, ground := Ground.data }, { on := 11, ground := Ground.data }, { on := 6, ground := Ground.guard }], guard := some (6, true) }) (v := ?vr4x12) rfl (by kernel_rfl) (by kernel_rfl) (by kernel_rfl) (fun _ _ _ h => h) (Or.inl ⟨by rfl, ?yr4x12⟩) (by assumption) ?rr4x12
      case yr4x12 => (intro w' hSw; (try dsimp only at hSw); go_simp; (try with_reducible rfl))
      refine wpAnyH_take (i := 13) (oi := { dst := some 28, op := Op.fieldAddr 33 (Operand.tmp 27) 0, type := 0, pos := _, after := #[{ on := 12, ground := Ground.data }, { on := 6, ground := Ground.guard }], guard := some (6, true) }) (v := ?vr4x13) rfl (by kernel_rfl) (by kernel_rfl) (by kernel_rfl) (fun _ _ _ h => h) (Or.inl ⟨by rfl, ?yr4x13⟩) (by assumption) ?rr4x13
      case yr4x13 => (intro w' hSw; (try dsimp only at hSw); go_simp; (try with_reducible rfl))
      (try simp only [Act.put, List.setIfInBounds_toArray, List.set_cons_zero, List.set_cons_succ])
      refine wpAnyH_take (i := 14) (oi := { dst := some 29, op := Op.load 9 (Operand.tmp 28), type := 9, pos := _, after := #[{ on := 13, ground := Ground.data }, { on := 6, ground := Ground.guard }], guard := some (6, true) }) (v := ?vr4x14) rfl (by kernel_rfl) (by kernel_rfl) (by kernel_rfl) (fun _ _ _ h => h) (Or.inl ⟨by rfl, ?yr4x14⟩) (by assumption) ?rr4x14
      case yr4x14 => (intro w' hSw; (try dsimp only at hSw); go_simp; (try with_reducible rfl))
      refine wpAnyH_take (i := 15) (oi := { dst := some 30, op := Op.binOp BinOp.leq 9 (Operand.tmp 23) (Operand.tmp 29) 9, type := 4, pos := _, after := #[{ on := 8, ground := Ground.data }, { on := 14, ground := Ground.data }, { on := 6, ground := Ground.guard }], guard := some (6, true) }) (v := ?vr4x15) rfl (by kernel_rfl) (by kernel_rfl) (by kernel_rfl) (fun _ _ _ h => h) (Or.inl ⟨by rfl, ?yr4x15⟩) (by assumption) ?rr4x15
      case yr4x15 => (intro w' hSw; (try dsimp only at hSw); go_simp; (try with_reducible rfl))
      refine wpAnyH_take (i := 16) (oi := { dst := some 31, op := Op.pick (Operand.tmp 21) (Operand.tmp 30) (Operand.const (Value.bool false)), type := 4, pos := _, after := #[{ on := 6, ground := Ground.data }, { on := 15, ground := Ground.data }, { on := 3, ground := Ground.guard }], guard := some (3, false) }) (v := ?vr4x16) rfl (by kernel_rfl) (by kernel_rfl) (by kernel_rfl) (fun _ _ _ h => h) (Or.inl ⟨by rfl, ?yr4x16⟩) (by assumption) ?rr4x16
      case yr4x16 => (intro w' hSw; (try dsimp only at hSw); go_simp; (try with_reducible rfl))
      (try simp only [Act.put, List.setIfInBounds_toArray, List.set_cons_zero, List.set_cons_succ])
      refine wpAnyH_take (i := 17) (oi := { dst := some 32, op := Op.pick (Operand.tmp 18) (Operand.const (Value.bool true)) (Operand.tmp 31), type := 4, pos := _, after := #[{ on := 3, ground := Ground.data }, { on := 16, ground := Ground.data }], guard := none }) (v := ?vr4x17) rfl (by kernel_rfl) (by kernel_rfl) (by kernel_rfl) (fun _ _ _ h => h) (Or.inl ⟨by rfl, ?yr4x17⟩) (by assumption) ?rr4x17
      case yr4x17 => (intro w' hSw; (try dsimp only at hSw); go_simp; (try with_reducible rfl))
      (try simp only [Act.put, List.setIfInBounds_toArray, List.set_cons_zero, List.set_cons_succ])
      refine wpAnyH_done (by kernel_rfl) ?_ _
      have hS := (by assumption : Hid (Below W1.heap.size W1 _) ∧ _)
      have HBF := Lib.hid (HBW.out.trans (hS.1.out.mono HBW.out.size))
      go_wp2_with fail
      go_ret
      exact ⟨by rw [HY.out]; rfl, HBF.out⟩
    · have l1 : Op.bytesLess x.code.toList p.code.toList = true := strLt_total (fun e => he e.symm) ho
      have l2 := str_ne he
      clear ho he
      go_upto_region 6 with fail
      rw [HW1.out]
      refine wp_region_held_drew (S := (fun W' => Hid (Below W1.heap.size W1 W') ∧ W'.cell? ⟨wr.heap.size, 0, none⟩ = some (.string x.code) ∧ W'.cell? ⟨wr.heap.size, 1, none⟩ = some (.string x.unt) ∧ W'.cell? ⟨wr.heap.size, 2, none⟩ = some (.int .i64 x.kind) ∧ W'.cell? ⟨wr.heap.size, 3, none⟩ = some (.int .i64 x.lead) ∧ W'.cell? ⟨wr.heap.size, 4, none⟩ = some (.int .i64 x.rule) ∧ W'.cell? ⟨wr.heap.size, 5, none⟩ = some (.int .i64 x.lsz) ∧ W'.cell? ⟨wr.heap.size, 6, none⟩ = some (.int .i64 x.safe) ∧ W'.cell? ⟨wr.heap.size, 7, none⟩ = some (.int .i64 x.scr) ∧ W'.cell? ⟨b2, o2 + m * 8, none⟩ = some (.string p.code))) (by kernel_rfl) (hold9 q0 q1 q2 q3 q4 q5 q6 q7 p0 (Below.refl _ _).drew) (fun hHeld => ?_)
      refine wpAnyH_take (i := 0) (oi := { dst := some 15, op := Op.load 33 (Operand.tmp 4), type := 33, pos := _, after := #[], guard := none }) (v := ?vr5x1) rfl (by kernel_rfl) (by kernel_rfl) (by kernel_rfl) (fun _ _ _ h => h) (Or.inl ⟨by rfl, ?yr5x1⟩) (by assumption) ?rr5x1
      case yr5x1 => (intro w' hSw; (try dsimp only at hSw); go_simp; (try with_reducible rfl))
      (try simp only [Act.put, List.setIfInBounds_toArray, List.set_cons_zero, List.set_cons_succ])
      refine wpAnyH_ready (rs := [1]) (by kernel_rfl) (by simp) ?_
      refine AllReadyH.cons (o := { dst := some 16, op := Op.call { callee := Callee.value (Operand.func 133), args := #[Operand.tmp 15], argTypes := #[33] }, type := 4, pos := _, after := #[{ on := 0, ground := Ground.data }], guard := none }) rfl (fun K hK => ?_) AllReadyH.nil
      go_simp
      refine (HIT.out _).mono ?_; rintro e w' ⟨rfl, hb⟩; have hle := hold_le (by assumption) hb
      (try go_wp2_with fail)
      refine hK.out _ _ ?_ (fun hHeld => ?_)
      · (try dsimp only); first | assumption | exact hold9 q0 q1 q2 q3 q4 q5 q6 q7 p0 (hold_call (by assumption) (by assumption))
      clear hK K
      (try simp only [Act.put, List.setIfInBounds_toArray, List.set_cons_zero, List.set_cons_succ])
      refine wpAnyH_take (i := 2) (oi := { dst := some 17, op := Op.unOp UnOp.not 4 (Operand.tmp 16), type := 4, pos := _, after := #[{ on := 1, ground := Ground.data }], guard := none }) (v := ?vr5x2) rfl (by kernel_rfl) (by kernel_rfl) (by kernel_rfl) (fun _ _ _ h => h) (Or.inl ⟨by rfl, ?yr5x2⟩) (by assumption) ?rr5x2
      case yr5x2 => (intro w' hSw; (try dsimp only at hSw); go_simp; (try with_reducible rfl))
      refine wpAnyH_take (i := 3) (oi := { dst := some 18, op := Op.move (Operand.tmp 17), type := 4, pos := _, after := #[{ on := 2, ground := Ground.data }, { on := 1, ground := Ground.chain }], guard := none }) (v := ?vr5x3) rfl (by kernel_rfl) (by kernel_rfl) (by kernel_rfl) (fun _ _ _ h => h) (Or.inl ⟨by rfl, ?yr5x3⟩) (by assumption) ?rr5x3
      case yr5x3 => (intro w' hSw; (try dsimp only at hSw); go_simp; (try with_reducible rfl))
      refine wpAnyH_take (i := 4) (oi := { dst := some 19, op := Op.move (Operand.tmp 3), type := 3, pos := _, after := #[{ on := 3, ground := Ground.guard }], guard := some (3, false) }) (v := ?vr5x4) rfl (by kernel_rfl) (by kernel_rfl) (by kernel_rfl) (fun _ _ _ h => h) (Or.inl ⟨by rfl, ?yr5x4⟩) (by assumption) ?rr5x4
      case yr5x4 => (intro w' hSw; (try dsimp only at hSw); go_simp; (try with_reducible rfl))
      (try simp only [Act.put, List.setIfInBounds_toArray, List.set_cons_zero, List.set_cons_succ])
      refine wpAnyH_take (i := 5) (oi := { dst := some 20, op := Op.binOp BinOp.gtr 3 (Operand.tmp 19) (Operand.const (Value.int IntKind.i64 0)) 3, type := 4, pos := _, after := #[{ on := 4, ground := Ground.data }, { on := 3, ground := Ground.guard }], guard := some (3, false) }) (v := ?vr5x5) rfl (by kernel_rfl) (by kernel_rfl) (by kernel_rfl) (fun _ _ _ h => h) (Or.inl ⟨by rfl, ?yr5x5⟩) (by assumption) ?rr5x5
      case yr5x5 => (intro w' hSw; (try dsimp only at hSw); go_simp; (try with_reducible rfl))
      refine wpAnyH_take (i := 6) (oi := { dst := some 21, op := Op.move (Operand.tmp 20), type := 4, pos := _, after := #[{ on := 5, ground := Ground.data }, { on := 3, ground := Ground.chain }, { on := 3, ground := Ground.guard }], guard := some (3, false) }) (v := ?vr5x6) rfl (by kernel_rfl) (by kernel_rfl) (by kernel_rfl) (fun _ _ _ h => h) (Or.inl ⟨by rfl, ?yr5x6⟩) (by assumption) ?rr5x6
      case yr5x6 => (intro w' hSw; (try dsimp only at hSw); go_simp; (try with_reducible rfl))
      refine wpAnyH_take (i := 7) (oi := { dst := some 22, op := Op.fieldAddr 33 (Operand.tmp 4) 0, type := 0, pos := _, after := #[{ on := 6, ground := Ground.guard }], guard := some (6, true) }) (v := ?vr5x7) rfl (by kernel_rfl) (by kernel_rfl) (by kernel_rfl) (fun _ _ _ h => h) (Or.inl ⟨by rfl, ?yr5x7⟩) (by assumption) ?rr5x7
      case yr5x7 => (intro w' hSw; (try dsimp only at hSw); go_simp; (try with_reducible rfl))
      (try simp only [Act.put, List.setIfInBounds_toArray, List.set_cons_zero, List.set_cons_succ])
      refine wpAnyH_take (i := 8) (oi := { dst := some 23, op := Op.load 9 (Operand.tmp 22), type := 9, pos := _, after := #[{ on := 7, ground := Ground.data }, { on := 6, ground := Ground.guard }], guard := some (6, true) }) (v := ?vr5x8) rfl (by kernel_rfl) (by kernel_rfl) (by kernel_rfl) (fun _ _ _ h => h) (Or.inl ⟨by rfl, ?yr5x8⟩) (by assumption) ?rr5x8
      case yr5x8 => (intro w' hSw; (try dsimp only at hSw); go_simp; (try with_reducible rfl))
      refine wpAnyH_take (i := 9) (oi := { dst := some 24, op := Op.move (Operand.tmp 0), type := 24, pos := _, after := #[{ on := 6, ground := Ground.guard }], guard := some (6, true) }) (v := ?vr5x9) rfl (by kernel_rfl) (by kernel_rfl) (by kernel_rfl) (fun _ _ _ h => h) (Or.inl ⟨by rfl, ?yr5x9⟩) (by assumption) ?rr5x9
      case yr5x9 => (intro w' hSw; (try dsimp only at hSw); go_simp; (try with_reducible rfl))
      refine wpAnyH_take (i := 10) (oi := { dst := some 25, op := Op.move (Operand.tmp 3), type := 3, pos := _, after := #[{ on := 6, ground := Ground.guard }], guard := some (6, true) }) (v := ?vr5x10) rfl (by kernel_rfl) (by kernel_rfl) (by kernel_rfl) (fun _ _ _ h => h) (Or.inl ⟨by rfl, ?yr5x10⟩) (by assumption) ?rr5x10
      case yr5x10 => (intro w' hSw; (try dsimp only at hSw); go_simp; (try with_reducible rfl))
      (try simp only [Act.put, List.setIfInBounds_toArray, List.set_cons_zero, List.set_cons_succ])
      refine wpAnyH_take (i := 11) (oi := { dst := some 26, op := Op.binOp BinOp.sub 3 (Operand.tmp 25) (Operand.const (Value.int IntKind.i64 1)) 3, type := 3, pos := _, after := #[{ on := 10, ground := Ground.data }, { on := 6, ground := Ground.guard }], guard := some (6, true) }) (v := ?vr5x11) rfl (by kernel_rfl) (by kernel_rfl) (by kernel_rfl) (fun _ _ _ h => h) (Or.inl ⟨by rfl, ?yr5x11⟩) (by assumption) ?rr5x11
      case yr5x11 => (intro w' hSw; (try dsimp only at hSw); go_simp; (try with_reducible rfl))
      refine wpAnyH_take (i := 12) (oi := { dst := some 27, op := Op.indexAddr 24 (Operand.tmp 24) (Operand.tmp 26), type := 0, pos := _, after := #[{ on := 9, ground := Ground.data }, { on := 11, ground := Ground.data }, { on := 6, ground := Ground.guard }], guard := some (6, true) }) (v := ?vr5x12) rfl (by kernel_rfl) (by kernel_rfl) (by kernel_rfl) (fun _ _ _ h => h) (Or.inl ⟨by rfl, ?yr5x12⟩) (by assumption) ?rr5x12
      case yr5x12 => (intro w' hSw; (try dsimp only at hSw); go_simp; (try with_reducible rfl))
      refine wpAnyH_take (i := 13) (oi := { dst := some 28, op := Op.fieldAddr 33 (Operand.tmp 27) 0, type := 0, pos := _, after := #[{ on := 12, ground := Ground.data }, { on := 6, ground := Ground.guard }], guard := some (6, true) }) (v := ?vr5x13) rfl (by kernel_rfl) (by kernel_rfl) (by kernel_rfl) (fun _ _ _ h => h) (Or.inl ⟨by rfl, ?yr5x13⟩) (by assumption) ?rr5x13
      case yr5x13 => (intro w' hSw; (try dsimp only at hSw); go_simp; (try with_reducible rfl))
      (try simp only [Act.put, List.setIfInBounds_toArray, List.set_cons_zero, List.set_cons_succ])
      refine wpAnyH_take (i := 14) (oi := { dst := some 29, op := Op.load 9 (Operand.tmp 28), type := 9, pos := _, after := #[{ on := 13, ground := Ground.data }, { on := 6, ground := Ground.guard }], guard := some (6, true) }) (v := ?vr5x14) rfl (by kernel_rfl) (by kernel_rfl) (by kernel_rfl) (fun _ _ _ h => h) (Or.inl ⟨by rfl, ?yr5x14⟩) (by assumption) ?rr5x14
      case yr5x14 => (intro w' hSw; (try dsimp only at hSw); go_simp; (try with_reducible rfl))
      refine wpAnyH_take (i := 15) (oi := { dst := some 30, op := Op.binOp BinOp.leq 9 (Operand.tmp 23) (Operand.tmp 29) 9, type := 4, pos := _, after := #[{ on := 8, ground := Ground.data }, { on := 14, ground := Ground.data }, { on := 6, ground := Ground.guard }], guard := some (6, true) }) (v := ?vr5x15) rfl (by kernel_rfl) (by kernel_rfl) (by kernel_rfl) (fun _ _ _ h => h) (Or.inl ⟨by rfl, ?yr5x15⟩) (by assumption) ?rr5x15
      case yr5x15 => (intro w' hSw; (try dsimp only at hSw); go_simp; (try with_reducible rfl))
      refine wpAnyH_take (i := 16) (oi := { dst := some 31, op := Op.pick (Operand.tmp 21) (Operand.tmp 30) (Operand.const (Value.bool false)), type := 4, pos := _, after := #[{ on := 6, ground := Ground.data }, { on := 15, ground := Ground.data }, { on := 3, ground := Ground.guard }], guard := some (3, false) }) (v := ?vr5x16) rfl (by kernel_rfl) (by kernel_rfl) (by kernel_rfl) (fun _ _ _ h => h) (Or.inl ⟨by rfl, ?yr5x16⟩) (by assumption) ?rr5x16
      case yr5x16 => (intro w' hSw; (try dsimp only at hSw); go_simp; (try with_reducible rfl))
      (try simp only [Act.put, List.setIfInBounds_toArray, List.set_cons_zero, List.set_cons_succ])
      refine wpAnyH_take (i := 17) (oi := { dst := some 32, op := Op.pick (Operand.tmp 18) (Operand.const (Value.bool true)) (Operand.tmp 31), type := 4, pos := _, after := #[{ on := 3, ground := Ground.data }, { on := 16, ground := Ground.data }], guard := none }) (v := ?vr5x17) rfl (by kernel_rfl) (by kernel_rfl) (by kernel_rfl) (fun _ _ _ h => h) (Or.inl ⟨by rfl, ?yr5x17⟩) (by assumption) ?rr5x17
      case yr5x17 => (intro w' hSw; (try dsimp only at hSw); go_simp; (try with_reducible rfl))
      (try simp only [Act.put, List.setIfInBounds_toArray, List.set_cons_zero, List.set_cons_succ])
      refine wpAnyH_done (by kernel_rfl) ?_ _
      have hS := (by assumption : Hid (Below W1.heap.size W1 _) ∧ _)
      have HBF := Lib.hid (HBW.out.trans (hS.1.out.mono HBW.out.size))
      go_wp2_with fail
      go_ret
      exact ⟨by rw [HY.out]; rfl, HBF.out⟩

/-- The function literal of FindItem over the text in block g. -/
def codeV (g : Nat) : Value := .func (.func 109) #[] #[.pointer (some ⟨g, 0, none⟩)]

set_option maxRecDepth 100000 in
set_option maxHeartbeats 1000000 in
theorem im_codeIs (x : IT) (s : ByteArray) (g : Nat) (w : World) (h : w.heap[g]? = some (.cells #[.string s] 9)) :
 Calls Tryz.prog 109 #[.agg #[.string x.code, .string x.unt, .int .i64 x.kind, .int .i64 x.lead, .int .i64 x.rule, .int .i64 x.lsz, .int .i64 x.safe, .int .i64 x.scr], .pointer (some ⟨g, 0, none⟩)] w (BoolRes (x.code.toList == s.toList) w) := by
 have HB : Below w.heap.size w (w.alloc (.cells #[.string x.code, .string x.unt, .int .i64 x.kind, .int .i64 x.lead, .int .i64 x.rule, .int .i64 x.lsz, .int .i64 x.safe, .int .i64 x.scr] 33)) := (Below.refl _ _).alloc (Nat.le_refl _) _
 have HG := blk_alloc h (.cells #[.string x.code, .string x.unt, .int .i64 x.kind, .int .i64 x.lead, .int .i64 x.rule, .int .i64 x.lsz, .int .i64 x.safe, .int .i64 x.scr] 33)
 have g0 := cell_of_row _ _ 0 _ _ _ HG
 obtain ⟨y, hy⟩ : ∃ y, (x.code.toList == s.toList) = y := ⟨_, rfl⟩
 rw [hy]
 clear h
 go_enter Tryz.func109, Tryz.ntmps109
 go_wp2_with fail
 go_ret
 exact ⟨rfl, HB⟩

set_option maxRecDepth 100000 in
set_option maxHeartbeats 1000000 in
theorem im_indexItem (v : Value) (l : List IT) (s : ByteArray) (g : Nat) (w : World) (h : IT.Is w v l) (hm : l.length ≤ maxLen) (hg : w.heap[g]? = some (.cells #[.string s] 9)) :
 Calls Tryz.prog 108 #[v, .func (.func 109) #[] #[.pointer (some ⟨g, 0, none⟩)]] w (IntRes (fiI l s) w) := by
 unfold maxLen at hm
 have HX := Lib.hid h
 have HG := Lib.hid hg
 obtain ⟨a, c, rfl⟩ := h.slice
 clear h hg
 go_enter Tryz.func108, Tryz.ntmps108
 go_wp2_with fail
 go_loopw [8] (fun i wr => ∃ k : Nat, k ≤ l.length ∧ i = .int .i64 k ∧ Hid (∀ j (hj : j < l.length), j < k → (l[j]'hj).code ≠ s) ∧ Hid (Below w.heap.size w wr)) (fun i _ => l.length - (intOf i).toNat)
 case atStart => exact ⟨0, Nat.zero_le _, rfl, Lib.hid (fun j _ h => by omega), Lib.hid (Below.refl _ _)⟩
 case round =>
  obtain ⟨k, hk, rfl, HN, HB⟩ := hrel
  by_cases hlt : k < l.length
  rotate_left
  · have HY := Lib.hid (fi_no (l := l) (s := s) (fun j hj => HN.out j hj (by omega)))
    go_wp2_with fail
    go_ret
    exact ⟨by rw [HY.out]; rfl, HB.out⟩
  have HLT := Lib.hid hlt
  obtain ⟨b2, o2, c2, hv2, hc2, hcell2⟩ := HX.out.some (by omega)
  simp only [Value.slice.injEq] at hv2
  obtain ⟨rfl, _, rfl⟩ := hv2
  obtain ⟨e0, e1, e2, e3, e4, e5, e6, e7⟩ := (hcell2.below HB.out).at k hlt
  have HY : Hid ((l[k]'hlt).code = s → fiI l s = k) := Lib.hid (fun h => fi_at hlt h (fun j hj hjk => HN.out j hj hjk))
  have HS : Hid ((l[k]'hlt).code ≠ s → ∀ j (hj : j < l.length), j < k + 1 → (l[j]'hj).code ≠ s) := Lib.hid (fun h j hj hjk => by
   by_cases e : j = k
   · subst e; exact h
   · exact HN.out j hj (by omega))
  generalize l[k]'hlt = x at *
  have HC := Lib.hid (im_codeIs x s g wr (blk_below HG.out HB.out))
  clear hcell2 hc2
  go_wp2_with fail
  refine HC.out.mono ?_
  rintro e w2 ⟨rfl, hb⟩
  have HB2 := Lib.hid (HB.out.trans (hb.mono HB.out.size))
  clear hb HC
  by_cases he : x.code = s
  · have HR := Lib.hid (HY.out he)
    rw [str_eq he]
    clear he
    go_wp2_with fail
    go_ret
    exact ⟨by rw [HR.out]; rfl, HB2.out⟩
  · have HS2 := Lib.hid (HS.out he)
    rw [str_ne he]
    clear he
    go_wp2_with fail
    go_roundw
    case rel => exact ⟨k + 1, by have := HLT.out; omega, by go_num, HS2, HB2⟩
    case measure => have := HLT.out; simp [intOf]; omega

set_option maxRecDepth 100000 in
set_option maxHeartbeats 1000000 in
theorem im_findItem (v : Value) (l : List IT) (s : ByteArray) (w : World) (h : IT.Is w v l) (hm : l.length ≤ maxLen) :
 Calls Tryz.prog 86 #[v, .string s] w (IntRes (fiI l s) w) := by
 have HB : Hid (Below w.heap.size w (w.alloc (.cells #[.string s] 9))) := Lib.hid ((Below.refl _ _).alloc (Nat.le_refl _) _)
 have HI := Lib.hid (im_indexItem v l s w.heap.size (w.alloc (.cells #[.string s] 9)) (h.below HB.out) hm (heap_alloc_new _ _))
 clear h
 go_enter Tryz.func86, Tryz.ntmps86
 go_wp2_with fail
 refine HI.out.mono ?_
 rintro e w1 ⟨rfl, hb⟩
 have HB1 := Lib.hid (HB.out.trans (hb.mono HB.out.size))
 clear hb HI
 go_wp2_with fail
 go_ret
 exact ⟨rfl, HB1.out⟩
end Go.Proofs.YtmnncinpepeocaaGreat
