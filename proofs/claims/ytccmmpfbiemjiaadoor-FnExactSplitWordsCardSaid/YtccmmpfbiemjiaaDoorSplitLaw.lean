/-
  The walk of the law FnExactSplitWords.
-/
import Derived.Test.YtccmmpfbiemjiaaDoorRows
import Derived.Test.YtccmmpfbiemjiaaDoorStrs
import Derived.Test.YtccmmpfbiemjiaaDoorStrsEq
import Derived.Test.YtccmmpfbiemjiaaDoorSplitSpec
import Derived.Test.YtccmmpfbiemjiaaDoorSplitImpl
import Derived.Test.YtccmmpfbiemjiaaDoorMarks
import Derived.WalkKit
import Derived.WalkSpells
import Derived.Lib.Hide
namespace Go.Proofs.YtccmmpfbiemjiaaDoor.splitWords
open Go.RowKit

theorem mark_one (base : Nat) (v : Value) (x : Int) (n : Nat) (xs : List Value) (w : World) (hx : x = 1) (hown : w.ownsRow base 9 1 v n xs) (hn : n ≤ 1048577) :
    Calls Tryd.prog 22 #[v, .int .i64 x] w (Marked base v 1 n w) := by
  subst hx
  exact mark_strs base v 1 n xs w hown hn (by decide) (by decide)
theorem held_one (base : Nat) (v : Value) (x : Int) (n : Nat) (w : World) (hx : x = 1) (hown : w.ownsRow base 9 1 v n (marksFrom 1 n)) (hn : n ≤ 1048577) :
    Calls Tryd.prog 23 #[v, .int .i64 x] w fun e w' => e = .returned (.int .i64 ((1 + n : Nat) : Int)) ∧ Below w.heap.size w w' := by
  subst hx
  exact held_strs base v 1 n w hown hn (by decide) (by decide)

theorem kept_below {w w' : World} {base : Nat} {v : Value} {n : Nat} {xs : List Value} (h : w.ownsRow base 9 1 v n xs) (hb : Below w.heap.size w w') : w'.ownsRow base 9 1 v n xs :=
  h.kept (grown_of_below hb none) (by
    cases hv : v.ownBlock
    · exact Or.inl rfl
    · exact Or.inr (by simp))

theorem splitR_length {l : List UInt8} (h : l.length ≤ 1048576) : (splitR l).1.length ≤ 1048577 := by
  have h1 := wordsL_length l
  unfold splitR
  split
  · simp
  · split
    · simp
    · simp; omega

set_option maxRecDepth 100000 in
set_option maxHeartbeats 1000000 in
theorem law_walk (s : ByteArray) (w : World) (hm : s.size ≤ maxLen) (hml : MaxLenAt w) :
    Calls Tryd.prog 7 #[.string s] w fun e w' => e = .returned (.bool true) ∧ Below w.heap.size w w' := by
  have hm2 := hm
  unfold maxLen at hm2
  have HML := Lib.hid hml
  clear hml
  by_cases hbig : 1048576 < s.size
  · go_enter Tryd.func7, Tryd.ntmps7
    go_wp2_with fail
    go_ret
    exact ⟨rfl, Below.refl _ _⟩
  · have hn : s.size ≤ 1048576 := by omega
    have hlen := splitR_length (l := s.data.toList) (by rw [Array.length_toList]; exact hn)
    go_enter Tryd.func7, Tryd.ntmps7
    go_wp2_with fail
    refine (spec_split s _ hn).mono ?_
    rintro e w1 ⟨v, rfl, hs1, hb1⟩
    obtain ⟨ss, hss⟩ : ∃ ss, (splitR s.data.toList).1 = ss := ⟨_, rfl⟩
    obtain ⟨b, hbb⟩ : ∃ b, (splitR s.data.toList).2 = b := ⟨_, rfl⟩
    rw [hss] at hs1 hlen
    rw [hbb]
    have HS1 := Lib.hid hs1
    have B1 := Lib.hid hb1
    clear hs1 hb1
    go_wp2_with fail
    refine (impl_split s _ hn (HML.out.below B1.out)).mono ?_
    rintro e w2 ⟨v2, rfl, ho2, hb2⟩
    rw [hss] at ho2
    rw [hbb]
    have HO2 := Lib.hid ho2
    have C2 := Lib.hid hb2
    have B2 := Lib.hid (B1.out.trans (hb2.mono B1.out.size))
    clear ho2 hb2
    have hbn : (b != b) = false := by simp
    have HSS := Lib.hid hss
    have HBB := Lib.hid hbb
    clear hss hbb
    go_wp2_with fail
    refine (eq_strs v2 v ss _ (strs_of_row rfl HO2.out) (HS1.out.below C2.out) hlen).mono ?_
    rintro e w3 ⟨rfl, hb3⟩
    have HO3 := Lib.hid (kept_below HO2.out hb3)
    have C3 := Lib.hid (C2.out.trans (hb3.mono C2.out.size))
    have B3 := Lib.hid (B2.out.trans (hb3.mono B2.out.size))
    clear hb3
    go_wp2_with fail
    refine (mark_one w1.heap.size v2 _ ss.length _ _ rfl HO3.out hlen).mono ?_
    rintro e w4 ⟨rfl, ho4, hg4⟩
    have HO4 := Lib.hid ho4
    have hr : ∀ k, v2.ownBlock = some k → w1.heap.size ≤ k := fun k hk => (HO3.out.lt k hk).1
    have C4 := Lib.hid (C3.out.grown hg4 C3.out.size hr)
    have B4 := Lib.hid (B3.out.grown hg4 B3.out.size (fun k hk => Nat.le_trans B1.out.size (hr k hk)))
    clear ho4 hg4 hr
    go_wp2_with fail
    refine (held_one w1.heap.size v2 _ ss.length _ rfl HO4.out hlen).mono ?_
    rintro e w5 ⟨rfl, hb5⟩
    have HO5 := Lib.hid (kept_below HO4.out hb5)
    have C5 := Lib.hid (C4.out.trans (hb5.mono C4.out.size))
    have B5 := Lib.hid (B4.out.trans (hb5.mono B4.out.size))
    clear hb5
    have hqq : ((1 + (ss.length : Int)) != 1 + (ss.length : Int)) = false := by simp
    go_wp2_with fail
    refine (impl_split s _ hn (HML.out.below B5.out)).mono ?_
    rintro e w6 ⟨v6, rfl, ho6, hb6⟩
    rw [HSS.out] at ho6
    rw [HBB.out]
    have HO6 := Lib.hid ho6
    have HP6 := Lib.hid (kept_below HO5.out hb6)
    have C6 := Lib.hid (C5.out.trans (hb6.mono C5.out.size))
    have B6 := Lib.hid (B5.out.trans (hb6.mono B5.out.size))
    clear ho6 hb6
    go_wp2_with fail
    refine (eq_strs v6 v ss _ (strs_of_row rfl HO6.out) (HS1.out.below C6.out) hlen).mono ?_
    rintro e w7 ⟨rfl, hb7⟩
    have HP7 := Lib.hid (kept_below HP6.out hb7)
    have B7 := Lib.hid (B6.out.trans (hb7.mono B6.out.size))
    clear hb7
    go_wp2_with fail
    refine (held_one w1.heap.size v2 _ ss.length _ rfl HP7.out hlen).mono ?_
    rintro e w8 ⟨rfl, hb8⟩
    have B8 := Lib.hid (B7.out.trans (hb8.mono B7.out.size))
    clear hb8
    go_wp2_with fail
    go_ret
    exact ⟨rfl, B8.out⟩
end Go.Proofs.YtccmmpfbiemjiaaDoor.splitWords
