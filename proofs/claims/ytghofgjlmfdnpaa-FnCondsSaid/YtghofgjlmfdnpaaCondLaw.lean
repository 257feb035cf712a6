/-
  The walk of the law FnConds.
-/
import Derived.Test.YtghofgjlmfdnpaaCondConds
import Derived.WalkKit
import Derived.WalkSpells
import Derived.WalkSmall
import Derived.BigQuiet
import Derived.Deep.QuietTactic
import Derived.Deep.DeepCutAuto
import Derived.Lib.Hide
namespace Go.Proofs.Ytghofgjlmfdnpaa
open Go.RowKit

theorem szp : ∀ t : CT, t.ok → ∀ r, r ∈ t.post → CN.Sz r
  | .tt, _, r, hr => by
    obtain rfl := List.mem_singleton.1 hr
    exact ⟨Nat.zero_le _, Nat.zero_le _⟩
  | .is o v, h, r, hr => by
    obtain rfl := List.mem_singleton.1 hr
    have h1 := code_size h.1
    have h2 := code_size h.2
    unfold CN.Sz maxLen
    exact ⟨by show o.size ≤ _; omega, by show v.size ≤ _; omega⟩
  | .no t, h, r, hr => by
    rcases List.mem_append.1 hr with hr | hr
    · exact szp t h r hr
    · obtain rfl := List.mem_singleton.1 hr
      exact ⟨Nat.zero_le _, Nat.zero_le _⟩
  | .and a b, h, r, hr => by
    rcases List.mem_append.1 hr with hr | hr
    · rcases List.mem_append.1 hr with hr | hr
      · exact szp a h.1 r hr
      · exact szp b h.2 r hr
    · obtain rfl := List.mem_singleton.1 hr
      exact ⟨Nat.zero_le _, Nat.zero_le _⟩
  | .or a b, h, r, hr => by
    rcases List.mem_append.1 hr with hr | hr
    · rcases List.mem_append.1 hr with hr | hr
      · exact szp a h.1 r hr
      · exact szp b h.2 r hr
    · obtain rfl := List.mem_singleton.1 hr
      exact ⟨Nat.zero_le _, Nat.zero_le _⟩
theorem code_sz {n : List CN} (h : condB n = true) : ∀ r, r ∈ n → CN.Sz r := by
  obtain ⟨t, h1, rfl, _⟩ := cond_tree (condB_iff.1 h)
  exact szp t h1
theorem codeAt_higher {B B' : Nat} {w : World} {a : Option Addr} {n : Nat} (h : CodeAt B w a n) (hle : B ≤ B') : CodeAt B' w a n := by
  rcases h with h | ⟨b, o, ha, hlt, hc⟩
  · exact Or.inl h
  · exact Or.inr ⟨b, o, ha, by omega, hc⟩

set_option maxRecDepth 100000 in
set_option maxHeartbeats 4000000 in
theorem walk_FnConds (a : Option Addr) (n c : Nat) (w : World) (hm : n ≤ maxLen) (hcode : CodeAt w.heap.size w a n) :
    Calls Try.prog 3 #[.slice a n c] w fun e w' => e = .returned (.bool true) ∧ Below w.heap.size w w' := by
  unfold maxLen at hm
  have HCO := Lib.hid hcode
  clear hcode
  by_cases hbig : 1048576 < n
  · have e0 : decide ((1048576 : Int) < (n : Int)) = true := decide_eq_true (by omega)
    go_enter Try.func3, Try.ntmps3
    go_wp2_with fail
    refine (laws_big a n c _).mono ?_
    rintro e w1 ⟨rfl, rfl⟩
    go_wp2
    go_ret
    exact ⟨rfl, Below.refl _ _⟩
  have e0 : decide ((1048576 : Int) < (n : Int)) = false := decide_eq_false (by omega)
  go_enter Try.func3, Try.ntmps3
  go_wp2_with fail
  refine (laws_big a n c _).mono ?_
  rintro e w0 ⟨rfl, rfl⟩
  go_wp2_with fail
  refine (draw_format a n c _ (by omega) HCO.out).mono ?_
  rintro e w1 ⟨v1, l, rfl, hl, hl15, hlz, hb⟩
  obtain ⟨a1, c1, rfl⟩ := hl.slice
  have HLZ := Lib.hid hlz
  have HL1 := Lib.hid hl
  have B1 := Lib.hid hb
  clear hl hlz hb e0
  go_wp2_with fail
  refine (im_FormatCond _ l _ HL1.out HLZ.out (by unfold maxLen; omega)).mono ?_
  rintro e w2 ⟨rfl, hb⟩
  have B2 := Lib.hid (B1.out.trans (hb.mono B1.out.size))
  have HL2 := Lib.hid (HL1.out.below hb)
  have hsz := @fmtB_size l
  clear hb B1 HL1
  rcases Bool.eq_false_or_eq_true (condB l) with hc | hc
  rotate_left
  · have HC := Lib.hid hc
    have hf := fmtB_no hc
    rw [hf]
    clear hf hc
    go_wp2_with fail
    refine (im_ParseCond eB _ (by decide)).mono ?_
    rintro e w3 ⟨vN, rfl, hown, hb⟩
    have B3 := Lib.hid (B2.out.trans (hb.mono B2.out.size))
    have HL3 := Lib.hid (HL2.out.below hb)
    clear hown hb B2 HL2
    generalize (parR eB).2 = y0 at *
    go_wp2_with fail
    refine (spec_isCond _ l _ HL3.out HLZ.out (by unfold maxLen; omega)).mono ?_
    rintro e w4 ⟨rfl, hb⟩
    rw [HC.out]
    have B4 := Lib.hid (B3.out.trans (hb.mono B3.out.size))
    clear hb B3 HL3
    go_wp2_with fail
    go_ret
    exact ⟨rfl, B4.out⟩
  have HC := Lib.hid hc
  obtain ⟨t, g1, g2, g3⟩ := cond_tree (condB_iff.1 hc)
  have HPF : Hid (parR (fmtB l) = (l, true)) := Lib.hid (by rw [g2, fmtB_yes g1 g3]; exact par_fmt g1 g3)
  clear hc g1 g2 g3 t
  obtain ⟨s, hs⟩ : ∃ s, fmtB l = s := ⟨_, rfl⟩
  rw [hs] at hsz HPF ⊢
  clear hs
  go_wp2_with fail
  refine (im_ParseCond s _ (by omega)).mono ?_
  rintro e w3 ⟨vM, rfl, hown, hb⟩
  rw [HPF.out] at hown ⊢
  simp only at hown ⊢
  have HM3 := Lib.hid (CN.is_of_row hown)
  have B3 := Lib.hid (B2.out.trans (hb.mono B2.out.size))
  have HL3 := Lib.hid (HL2.out.below hb)
  obtain ⟨a3, c3, rfl⟩ := HM3.out.slice
  clear hown hb B2 HL2 HPF
  go_wp2_with fail
  refine (spec_isCond _ l _ HL3.out HLZ.out (by unfold maxLen; omega)).mono ?_
  rintro e w4 ⟨rfl, hb⟩
  rw [HC.out]
  have B4 := Lib.hid (B3.out.trans (hb.mono B3.out.size))
  have HL4 := Lib.hid (HL3.out.below hb)
  have HM4 := Lib.hid (HM3.out.below hb)
  have HC4 := Lib.hid (codeAt_higher (HCO.out.below B4.out) B4.out.size)
  clear hb B3 HL3 HM3
  go_wp2_with fail
  refine (draw_parse a n c _ (by omega) HC4.out).mono ?_
  rintro e w5 ⟨x, rfl, hxz, hb⟩
  have B5 := Lib.hid (B4.out.trans (hb.mono B4.out.size))
  have HL5 := Lib.hid (HL4.out.below hb)
  have HM5 := Lib.hid (HM4.out.below hb)
  clear hb B4 HL4 HM4 HC4
  obtain ⟨m, y, hr⟩ : ∃ m y, parR x = (m, y) := ⟨_, _, rfl⟩
  have HR := Lib.hid hr
  have hm30 : m.length ≤ 30 := by have := parR_len x; rw [hr] at this; exact this
  clear hr
  go_wp2_with fail
  refine (im_ParseCond x _ hxz).mono ?_
  rintro e w6 ⟨vK, rfl, hown, hb⟩
  rw [HR.out] at hown ⊢
  simp only at hown ⊢
  have HK6 := Lib.hid (CN.is_of_row hown)
  have B6 := Lib.hid (B5.out.trans (hb.mono B5.out.size))
  have HL6 := Lib.hid (HL5.out.below hb)
  have HM6 := Lib.hid (HM5.out.below hb)
  obtain ⟨a6, c6, rfl⟩ := HK6.out.slice
  clear hown hb B5 HL5 HM5
  go_wp2_with fail
  refine (laws_sameConds _ _ l _ HM6.out HL6.out (by omega)).mono ?_
  rintro e w7 ⟨rfl, hb⟩
  have B7 := Lib.hid (B6.out.trans (hb.mono B6.out.size))
  have HK7 := Lib.hid (HK6.out.below hb)
  clear hb B6 HK6 HL6 HM6
  cases y with
  | false =>
    go_wp2_with fail
    go_ret
    exact ⟨rfl, B7.out⟩
  | true =>
    obtain ⟨hck, hsh⟩ := par_short HR.out
    have HCK := Lib.hid hck
    have HKZ := Lib.hid (code_sz hck)
    clear hck
    go_wp2_with fail
    refine (spec_isCond _ m _ HK7.out HKZ.out (by unfold maxLen; omega)).mono ?_
    rintro e w8 ⟨rfl, hb⟩
    rw [HCK.out]
    have B8 := Lib.hid (B7.out.trans (hb.mono B7.out.size))
    have HK8 := Lib.hid (HK7.out.below hb)
    clear hb B7 HK7
    go_wp2_with fail
    refine (im_FormatCond _ m _ HK8.out HKZ.out (by unfold maxLen; omega)).mono ?_
    rintro e w9 ⟨rfl, hb⟩
    have B9 := Lib.hid (B8.out.trans (hb.mono B8.out.size))
    have hmz := @fmtB_size m
    have hle : decide (((fmtB m).size : Int) ≤ (x.size : Int)) = true := decide_eq_true (by omega)
    generalize fmtB m = sm at *
    clear hb B8 HK8
    go_wp2_with fail
    go_ret
    exact ⟨rfl, B9.out⟩
end Go.Proofs.Ytghofgjlmfdnpaa
