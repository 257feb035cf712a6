/-
 The model's IsCond.
-/
import Derived.Test.YtmnncinpepeocaaGreatRows
import Derived.Test.YtmnncinpepeocaaGreatBuA
import Derived.Test.YtmnncinpepeocaaGreatBuCond
import Derived.Test.YtmnncinpepeocaaGreatBuCode
import Derived.WalkKit
import Derived.WalkSpells
import Derived.WalkSmall
import Derived.BigQuiet
import Derived.Deep.QuietTactic
import Derived.Deep.DeepCutAuto
import Derived.Lib.Hide
namespace Go.Proofs.YtmnncinpepeocaaGreat
open Go.RowKit

theorem txt_ne {x : ByteArray} (h : ¬x = eB) : x.toList.isEmpty = false := by
 cases e : x.toList with
 | nil =>
  rw [ByteArray.toList_eq] at e
  exact absurd (by cases x with | mk a => have : a = #[] := by simpa using e
                                          rw [this]; rfl) h
 | cons y r => rfl


set_option maxRecDepth 100000 in
set_option maxHeartbeats 2000000 in
theorem spec_isCond (v : Value) (l : List CN) (w : World) (h : CN.Is w v l) (hs : ∀ r, r ∈ l → CN.Sz r) (hm : l.length ≤ maxLen) :
 Calls Tryz.prog 92 #[v] w (BoolRes (condB l) w) := by
 unfold maxLen at hm
 have HX := Lib.hid h
 have HZ := Lib.hid hs
 obtain ⟨a', c', rfl⟩ := h.slice
 clear h hs
 by_cases hl : l.length ≤ 30
 rotate_left
 · have HY : Hid (condB l = false) := Lib.hid (condB_no (fun h => hl h.1))
   go_enter Tryz.func92, Tryz.ntmps92
   go_wp2_with fail
   go_loop [3, 4] (fun n i => n = .int .i64 0 ∧ i = .int .i64 0) (fun _ _ => 0)
   case atStart => exact ⟨rfl, rfl⟩
   case round =>
    obtain ⟨rfl, rfl⟩ := hrel
    go_wp2_with fail
    go_ret
    exact ⟨by rw [HY.out]; rfl, Below.refl _ _⟩
 go_enter Tryz.func92, Tryz.ntmps92
 go_wp2_with fail
 go_loopw [3, 4] (fun n i wr => ∃ (k : Nat) (s : List CT), i = .int .i64 k ∧ n = .int .i64 (s.length : Int) ∧ k ≤ l.length ∧ s.length ≤ k ∧ Hid (CT.runs [] (l.take k) = some s) ∧ Hid (Below w.heap.size w wr)) (fun _ i _ => (l.length - (intOf i).toNat))
 case atStart => exact ⟨0, [], rfl, rfl, Nat.zero_le _, Nat.zero_le _, Lib.hid rfl, Lib.hid (Below.refl _ _)⟩
 case round =>
  obtain ⟨k, s, rfl, rfl, hk, hsk, HS, HB⟩ := hrel
  by_cases hlt : k < l.length
  rotate_left
  · have hke : k = l.length := by omega
    have HE : Hid (CT.runs [] l = some s) := Lib.hid (by have := HS.out; rwa [List.take_of_length_le (by omega)] at this)
    by_cases h1 : s.length = 1
    · have HN : Hid (condB l = true) := Lib.hid (condB_yes ⟨hl, by
       match s, h1, HE with
       | [t], _, HE => exact ⟨t, HE.out⟩⟩)
      have hdl : decide ((l.length : Int) ≤ 30) = true := decide_eq_true (by omega)
      have HDL := Lib.hid hdl
      clear hdl
      go_wp2_with fail
      go_ret
      exact ⟨by rw [HN.out, ← HDL.out]; rfl, HB.out⟩
    · have HN : Hid (condB l = false) := Lib.hid (condB_no (fun h => by
       obtain ⟨_, t, ht⟩ := h
       rw [HE.out] at ht
       obtain rfl := Option.some.inj ht
       exact h1 rfl))
      have hb1 : ((s.length : Int) == 1) = false := beq_eq_false_iff_ne.2 (by omega)
      go_wp2_with fail
      go_ret
      exact ⟨by rw [HN.out]; rfl, HB.out⟩
  have HT : Hid (CT.runs [] (l.take (k + 1)) = CT.step (l[k]'hlt) s) := Lib.hid (by rw [CT.runs_take hlt, HS.out]; rfl)
  have HSZ := Lib.hid (HZ.out _ (List.getElem_mem hlt))
  obtain ⟨b2, o2, c2, hv2, hc2, hcell2⟩ := HX.out.some (by omega)
  simp only [Value.slice.injEq] at hv2
  obtain ⟨rfl, _, rfl⟩ := hv2
  obtain ⟨r0, r1, r2⟩ := (hcell2.below HB.out).at k hlt
  generalize l[k]'hlt = x at *
  obtain ⟨kind, opt, vl⟩ := x
  clear hcell2 hc2
  have HBAD : Hid (CT.step ⟨kind, opt, vl⟩ s = none → condB l = false) := Lib.hid (fun h => condB_no (fun hc => by
   obtain ⟨_, t, ht⟩ := hc
   rw [CT.runs_bad (k := k + 1) (by rw [HT.out]; exact h)] at ht
   cases ht))
  simp only at r0 r1 r2
  go_upto_region 6 with fail
  have HG := heap_alloc_new wr (.cells #[.int .i64 kind, .string opt, .string vl] 145)
  have HB2 := HB.out.alloc HB.out.size (.cells #[.int .i64 kind, .string opt, .string vl] 145)
  generalize wr.alloc (.cells #[.int .i64 kind, .string opt, .string vl] 145) = w2 at *
  have g0 := cell_of_row _ _ 0 _ _ _ HG
  have g1 := cell_of_row _ _ 1 _ _ _ HG
  have g2 := cell_of_row _ _ 2 _ _ _ HG
  clear r0 r1 r2
  by_cases k0 : kind = 0
  · subst k0
    by_cases he : opt = eB ∧ vl = eB
    · obtain ⟨rfl, rfl⟩ := he
      have HS2 : Hid (CT.runs [] (l.take (k + 1)) = some (.tt :: s)) := Lib.hid (by rw [HT.out]; exact (if_pos rfl).trans (if_pos ⟨rfl, rfl⟩))
      go_wp2_with fail
      go_roundw
      case rel => exact ⟨k + 1, .tt :: s, by go_num, by simp, by omega, by simp; omega, HS2, Lib.hid HB2⟩
      case measure => simp [intOf]; omega
    · have HN := Lib.hid (HBAD.out ((if_pos rfl).trans (if_neg he)))
      by_cases ho : opt = eB
      · subst ho
        have bv := txt_ne (fun e => he ⟨rfl, e⟩)
        go_wp2_with fail
        go_ret
        exact ⟨by rw [HN.out]; rfl, HB2⟩
      · have bv := txt_ne ho
        go_wp2_with fail
        go_ret
        exact ⟨by rw [HN.out]; rfl, HB2⟩
  by_cases k1 : kind = 1
  · subst k1
    go_wp2_with fail
    refine (isCode.spec_walk opt _ HSZ.out.1).mono ?_
    rintro e w3 ⟨rfl, rfl⟩
    rcases Bool.eq_false_or_eq_true (isCode.codeB opt) with ho | ho
    rotate_left
    · have HN := Lib.hid (HBAD.out ((if_neg (show ¬(1 : Int) = 0 by decide)).trans ((if_pos rfl).trans (if_neg (fun h => by have := h.1; simp only at this; rw [ho] at this; cases this)))))
      rw [ho]
      clear ho
      go_wp2_with fail
      go_ret
      exact ⟨by rw [HN.out]; rfl, HB2⟩
    have HO := Lib.hid ho
    rw [ho]
    clear ho
    go_wp2_with fail
    refine (isCode.spec_walk vl _ HSZ.out.2).mono ?_
    rintro e w3 ⟨rfl, rfl⟩
    rcases Bool.eq_false_or_eq_true (isCode.codeB vl) with hv | hv
    rotate_left
    · have HN := Lib.hid (HBAD.out ((if_neg (show ¬(1 : Int) = 0 by decide)).trans ((if_pos rfl).trans (if_neg (fun h => by have := h.2; simp only at this; rw [hv] at this; cases this)))))
      rw [hv]
      clear hv
      go_wp2_with fail
      go_ret
      exact ⟨by rw [HN.out]; rfl, HB2⟩
    · have HS2 : Hid (CT.runs [] (l.take (k + 1)) = some (.is opt vl :: s)) := Lib.hid (by rw [HT.out]; exact (if_neg (show ¬(1 : Int) = 0 by decide)).trans ((if_pos rfl).trans (if_pos ⟨HO.out, hv⟩)))
      rw [hv]
      clear hv
      go_wp2_with fail
      go_roundw
      case rel => exact ⟨k + 1, .is opt vl :: s, by go_num, by simp, by omega, by simp; omega, HS2, Lib.hid HB2⟩
      case measure => simp [intOf]; omega
  by_cases k2 : kind = 2
  · subst k2
    match s, hsk, HS, HT, HBAD with
    | [], hsk, HS, HT, HBAD =>
     have HN := Lib.hid (HBAD.out ((if_neg (show ¬(2 : Int) = 0 by decide)).trans ((if_neg (show ¬(2 : Int) = 1 by decide)).trans ((if_pos rfl).trans (by split <;> rfl)))))
     go_wp2_with fail
     go_ret
     exact ⟨by rw [HN.out]; rfl, HB2⟩
    | a :: q, hsk, HS, HT, HBAD =>
     simp only [List.length_cons] at hsk
     by_cases he : opt = eB ∧ vl = eB
     · obtain ⟨rfl, rfl⟩ := he
       have HS2 : Hid (CT.runs [] (l.take (k + 1)) = some (.no a :: q)) := Lib.hid (by rw [HT.out]; exact (if_neg (show ¬(2 : Int) = 0 by decide)).trans ((if_neg (show ¬(2 : Int) = 1 by decide)).trans ((if_pos rfl).trans (if_pos ⟨rfl, rfl⟩))))
       go_wp2_with fail
       go_roundw
       case rel => exact ⟨k + 1, .no a :: q, by go_num, by simp, by omega, by simp; omega, HS2, Lib.hid HB2⟩
       case measure => simp [intOf]; omega
     · have HN := Lib.hid (HBAD.out ((if_neg (show ¬(2 : Int) = 0 by decide)).trans ((if_neg (show ¬(2 : Int) = 1 by decide)).trans ((if_pos rfl).trans (if_neg he)))))
       by_cases ho : opt = eB
       · subst ho
         have bv := txt_ne (fun e => he ⟨rfl, e⟩)
         go_wp2_with fail
         go_ret
         exact ⟨by rw [HN.out]; rfl, HB2⟩
       · have bv := txt_ne ho
         go_wp2_with fail
         go_ret
         exact ⟨by rw [HN.out]; rfl, HB2⟩
  by_cases k3 : kind = 3
  · subst k3
    match s, hsk, HS, HT, HBAD with
    | [], hsk, HS, HT, HBAD =>
     have HN := Lib.hid (HBAD.out ((if_neg (show ¬(3 : Int) = 0 by decide)).trans ((if_neg (show ¬(3 : Int) = 1 by decide)).trans ((if_neg (show ¬(3 : Int) = 2 by decide)).trans ((if_pos rfl).trans (by split <;> rfl))))))
     go_wp2_with fail
     go_ret
     exact ⟨by rw [HN.out]; rfl, HB2⟩
    | [b], hsk, HS, HT, HBAD =>
     have HN := Lib.hid (HBAD.out ((if_neg (show ¬(3 : Int) = 0 by decide)).trans ((if_neg (show ¬(3 : Int) = 1 by decide)).trans ((if_neg (show ¬(3 : Int) = 2 by decide)).trans ((if_pos rfl).trans (by split <;> rfl))))))
     go_wp2_with fail
     go_ret
     exact ⟨by rw [HN.out]; rfl, HB2⟩
    | b :: a :: q, hsk, HS, HT, HBAD =>
     simp only [List.length_cons] at hsk
     by_cases he : opt = eB ∧ vl = eB
     · obtain ⟨rfl, rfl⟩ := he
       have HS2 : Hid (CT.runs [] (l.take (k + 1)) = some (.and a b :: q)) := Lib.hid (by rw [HT.out]; exact (if_neg (show ¬(3 : Int) = 0 by decide)).trans ((if_neg (show ¬(3 : Int) = 1 by decide)).trans ((if_neg (show ¬(3 : Int) = 2 by decide)).trans ((if_pos rfl).trans (if_pos ⟨rfl, rfl⟩)))))
       go_wp2_with fail
       go_roundw
       case rel => exact ⟨k + 1, .and a b :: q, by go_num, by simp, by omega, by simp; omega, HS2, Lib.hid HB2⟩
       case measure => simp [intOf]; omega
     · have HN := Lib.hid (HBAD.out ((if_neg (show ¬(3 : Int) = 0 by decide)).trans ((if_neg (show ¬(3 : Int) = 1 by decide)).trans ((if_neg (show ¬(3 : Int) = 2 by decide)).trans ((if_pos rfl).trans (if_neg he))))))
       by_cases ho : opt = eB
       · subst ho
         have bv := txt_ne (fun e => he ⟨rfl, e⟩)
         go_wp2_with fail
         go_ret
         exact ⟨by rw [HN.out]; rfl, HB2⟩
       · have bv := txt_ne ho
         go_wp2_with fail
         go_ret
         exact ⟨by rw [HN.out]; rfl, HB2⟩
  by_cases k4 : kind = 4
  · subst k4
    match s, hsk, HS, HT, HBAD with
    | [], hsk, HS, HT, HBAD =>
     have HN := Lib.hid (HBAD.out ((if_neg (show ¬(4 : Int) = 0 by decide)).trans ((if_neg (show ¬(4 : Int) = 1 by decide)).trans ((if_neg (show ¬(4 : Int) = 2 by decide)).trans ((if_neg (show ¬(4 : Int) = 3 by decide)).trans ((if_pos rfl).trans (by split <;> rfl)))))))
     go_wp2_with fail
     go_ret
     exact ⟨by rw [HN.out]; rfl, HB2⟩
    | [b], hsk, HS, HT, HBAD =>
     have HN := Lib.hid (HBAD.out ((if_neg (show ¬(4 : Int) = 0 by decide)).trans ((if_neg (show ¬(4 : Int) = 1 by decide)).trans ((if_neg (show ¬(4 : Int) = 2 by decide)).trans ((if_neg (show ¬(4 : Int) = 3 by decide)).trans ((if_pos rfl).trans (by split <;> rfl)))))))
     go_wp2_with fail
     go_ret
     exact ⟨by rw [HN.out]; rfl, HB2⟩
    | b :: a :: q, hsk, HS, HT, HBAD =>
     simp only [List.length_cons] at hsk
     by_cases he : opt = eB ∧ vl = eB
     · obtain ⟨rfl, rfl⟩ := he
       have HS2 : Hid (CT.runs [] (l.take (k + 1)) = some (.or a b :: q)) := Lib.hid (by rw [HT.out]; exact (if_neg (show ¬(4 : Int) = 0 by decide)).trans ((if_neg (show ¬(4 : Int) = 1 by decide)).trans ((if_neg (show ¬(4 : Int) = 2 by decide)).trans ((if_neg (show ¬(4 : Int) = 3 by decide)).trans ((if_pos rfl).trans (if_pos ⟨rfl, rfl⟩))))))
       go_wp2_with fail
       go_roundw
       case rel => exact ⟨k + 1, .or a b :: q, by go_num, by simp, by omega, by simp; omega, HS2, Lib.hid HB2⟩
       case measure => simp [intOf]; omega
     · have HN := Lib.hid (HBAD.out ((if_neg (show ¬(4 : Int) = 0 by decide)).trans ((if_neg (show ¬(4 : Int) = 1 by decide)).trans ((if_neg (show ¬(4 : Int) = 2 by decide)).trans ((if_neg (show ¬(4 : Int) = 3 by decide)).trans ((if_pos rfl).trans (if_neg he)))))))
       by_cases ho : opt = eB
       · subst ho
         have bv := txt_ne (fun e => he ⟨rfl, e⟩)
         go_wp2_with fail
         go_ret
         exact ⟨by rw [HN.out]; rfl, HB2⟩
       · have bv := txt_ne ho
         go_wp2_with fail
         go_ret
         exact ⟨by rw [HN.out]; rfl, HB2⟩
  have b0 : (kind == 0) = false := beq_eq_false_iff_ne.2 k0
  have b1 : (kind == 1) = false := beq_eq_false_iff_ne.2 k1
  have b2' : (kind == 2) = false := beq_eq_false_iff_ne.2 k2
  have b3 : (kind == 3) = false := beq_eq_false_iff_ne.2 k3
  have b4 : (kind == 4) = false := beq_eq_false_iff_ne.2 k4
  have HN := Lib.hid (HBAD.out ((if_neg k0).trans ((if_neg k1).trans ((if_neg k2).trans ((if_neg k3).trans (if_neg k4))))))
  go_wp2_with fail
  go_ret
  exact ⟨by rw [HN.out]; rfl, HB2⟩
end Go.Proofs.YtmnncinpepeocaaGreat
