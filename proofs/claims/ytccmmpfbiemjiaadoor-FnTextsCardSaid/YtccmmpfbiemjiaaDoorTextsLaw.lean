/-
  The walk of the law FnTexts.
-/
import Derived.Test.YtccmmpfbiemjiaaDoorRows
import Derived.Test.YtccmmpfbiemjiaaDoorParseWalk
import Derived.Test.YtccmmpfbiemjiaaDoorTextsWalk
import Derived.Test.YtccmmpfbiemjiaaDoorCodeKit
import Derived.WalkKit
import Derived.WalkSpells
import Derived.Lib.Hide
namespace Go.Proofs.YtccmmpfbiemjiaaDoor.texts
open Go.RowKit

theorem parseR_itoa (n : Int) : parseR ⟨(Lib.itoa n).toArray⟩ = .tuple #[.int .i64 (parseV (Lib.itoa n)).1, .bool (parseV (Lib.itoa n)).2] := rfl

set_option maxRecDepth 100000 in
set_option maxHeartbeats 1000000 in
/-- The second half: what is read is written so. -/
theorem law_walk (a : Option Addr) (n c : Nat) (w : World) (hm : n ≤ maxLen) (hcode : CodeAt w.heap.size w a n) (htab : Lib.TabIs Tryd.prog w "internal/strconv.uint64pow10" .u64 Lib.pow10Tab)
    (herr : Errs w) :
    Calls Tryd.prog 3 #[.slice a n c] w fun e w' => e = .returned (.bool true) ∧ Below w.heap.size w w' := by
  have hm2 := hm
  unfold maxLen at hm2
  have HC := Lib.hid hcode
  have H := Lib.hid htab
  have HE := Lib.hid herr
  have HG := Lib.hid (block_of_var gPow htab)
  clear hcode htab herr
  by_cases hbig : 1048576 < n
  · go_enter Tryd.func3, Tryd.ntmps3
    go_wp2
    go_ret
    exact ⟨rfl, Below.refl _ _⟩
  · have hn : n ≤ 1048576 := by omega
    go_enter Tryd.func3, Tryd.ntmps3
    go_wp2_with (first | (go_at_call 8; go_in) | fail)
    refine (draw_formatInt a n c _ hn HC.out).mono ?_
    rintro e w1 ⟨x, rfl, hx0, hx1, hb⟩
    have B1 := Lib.hid hb
    clear hb
    go_wp2_with fail
    refine (impl_format x hx0 hx1 _ (pow_below H.out B1.out HG.out)).mono ?_
    rintro e w2 ⟨rfl, hb⟩
    have B2 := Lib.hid (B1.out.trans (hb.mono B1.out.size))
    clear hb
    go_wp2_with fail
    have hl := Lib.itoa_length_le x hx0 hx1
    refine (impl_parse ⟨(Lib.itoa x).toArray⟩ _ (by simp [ByteArray.size]; omega) (pow_below H.out B2.out HG.out) (Nat.lt_of_lt_of_le HG.out B2.out.size) (HE.out.below B2.out)).mono ?_
    rintro e w3 ⟨rfl, hb⟩
    have B3 := Lib.hid (B2.out.trans (hb.mono B2.out.size))
    clear hb hl
    rw [parseR_itoa]
    have hxx : (x != x) = false := by simp
    have hcase : (-1000000000000 < x ∧ x < 1000000000000) ∨ x ≤ -1000000000000 ∨ 1000000000000 ≤ x := by omega
    rcases hcase with ⟨hi0, hi1⟩ | ho | ho
    · rw [parseV_itoa ⟨hi0, hi1⟩]
      go_wp2_with fail
      refine (draw_parseInt a n c _ hn ((HC.out.below B3.out).mono B3.out.size)).mono ?_
      rintro e w4 ⟨s, rfl, hs, hb⟩
      have B4 := Lib.hid (B3.out.trans (hb.mono B3.out.size))
      clear hb
      go_wp2_with fail
      refine (impl_parse s _ (by omega) (pow_below H.out B4.out HG.out) (Nat.lt_of_lt_of_le HG.out B4.out.size) (HE.out.below B4.out)).mono ?_
      rintro e w5 ⟨rfl, hb⟩
      have B5 := Lib.hid (B4.out.trans (hb.mono B4.out.size))
      clear hb
      unfold parseR
      rcases parseV_cases s.data.toList with ⟨y, ⟨hy0, hy1, hy2⟩, hp⟩ | ⟨_, hp⟩
      · rw [hp]
        have HY := Lib.hid hy2
        clear hp hy2
        go_wp2_with fail
        refine (impl_format y (by omega) (by omega) _ (pow_below H.out B5.out HG.out)).mono ?_
        rintro e w6 ⟨rfl, hb⟩
        have B6 := Lib.hid (B5.out.trans (hb.mono B5.out.size))
        clear hb
        rw [show (⟨(Lib.itoa y).toArray⟩ : ByteArray) = s from ba_ext HY.out]
        go_wp2_with fail
        go_ret
        exact ⟨rfl, B6.out⟩
      · rw [hp]
        clear hp
        go_wp2_with fail
        go_ret
        exact ⟨rfl, B5.out⟩
    · rw [parseV_itoa_no (by omega)]
      go_wp2_with fail
      refine (draw_parseInt a n c _ hn ((HC.out.below B3.out).mono B3.out.size)).mono ?_
      rintro e w4 ⟨s, rfl, hs, hb⟩
      have B4 := Lib.hid (B3.out.trans (hb.mono B3.out.size))
      clear hb
      go_wp2_with fail
      refine (impl_parse s _ (by omega) (pow_below H.out B4.out HG.out) (Nat.lt_of_lt_of_le HG.out B4.out.size) (HE.out.below B4.out)).mono ?_
      rintro e w5 ⟨rfl, hb⟩
      have B5 := Lib.hid (B4.out.trans (hb.mono B4.out.size))
      clear hb
      unfold parseR
      rcases parseV_cases s.data.toList with ⟨y, ⟨hy0, hy1, hy2⟩, hp⟩ | ⟨_, hp⟩
      · rw [hp]
        have HY := Lib.hid hy2
        clear hp hy2
        go_wp2_with fail
        refine (impl_format y (by omega) (by omega) _ (pow_below H.out B5.out HG.out)).mono ?_
        rintro e w6 ⟨rfl, hb⟩
        have B6 := Lib.hid (B5.out.trans (hb.mono B5.out.size))
        clear hb
        rw [show (⟨(Lib.itoa y).toArray⟩ : ByteArray) = s from ba_ext HY.out]
        go_wp2_with fail
        go_ret
        exact ⟨rfl, B6.out⟩
      · rw [hp]
        clear hp
        go_wp2_with fail
        go_ret
        exact ⟨rfl, B5.out⟩
    · rw [parseV_itoa_no (by omega)]
      go_wp2_with fail
      refine (draw_parseInt a n c _ hn ((HC.out.below B3.out).mono B3.out.size)).mono ?_
      rintro e w4 ⟨s, rfl, hs, hb⟩
      have B4 := Lib.hid (B3.out.trans (hb.mono B3.out.size))
      clear hb
      go_wp2_with fail
      refine (impl_parse s _ (by omega) (pow_below H.out B4.out HG.out) (Nat.lt_of_lt_of_le HG.out B4.out.size) (HE.out.below B4.out)).mono ?_
      rintro e w5 ⟨rfl, hb⟩
      have B5 := Lib.hid (B4.out.trans (hb.mono B4.out.size))
      clear hb
      unfold parseR
      rcases parseV_cases s.data.toList with ⟨y, ⟨hy0, hy1, hy2⟩, hp⟩ | ⟨_, hp⟩
      · rw [hp]
        have HY := Lib.hid hy2
        clear hp hy2
        go_wp2_with fail
        refine (impl_format y (by omega) (by omega) _ (pow_below H.out B5.out HG.out)).mono ?_
        rintro e w6 ⟨rfl, hb⟩
        have B6 := Lib.hid (B5.out.trans (hb.mono B5.out.size))
        clear hb
        rw [show (⟨(Lib.itoa y).toArray⟩ : ByteArray) = s from ba_ext HY.out]
        go_wp2_with fail
        go_ret
        exact ⟨rfl, B6.out⟩
      · rw [hp]
        clear hp
        go_wp2_with fail
        go_ret
        exact ⟨rfl, B5.out⟩
end Go.Proofs.YtccmmpfbiemjiaaDoor.texts
