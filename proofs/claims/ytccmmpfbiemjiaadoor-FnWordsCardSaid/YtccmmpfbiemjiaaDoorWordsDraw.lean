/-
  The draws of the law FnWords.
-/
import Derived.Test.YtccmmpfbiemjiaaDoorRows
import Derived.Test.YtccmmpfbiemjiaaDoorStrs
import Derived.Test.YtccmmpfbiemjiaaDoorDraw
import Derived.Test.YtccmmpfbiemjiaaDoorCodeKit
import Derived.Test.YtccmmpfbiemjiaaDoorTextsWalk
import Derived.Test.YtccmmpfbiemjiaaDoorSplitSpec
import Derived.WalkKit
import Derived.WalkSpells
import Derived.WalkSmall
import Derived.Lib.Hide
namespace Go.Proofs.YtccmmpfbiemjiaaDoor
open Go.RowKit

theorem CurAt.grown {B b : Nat} {w w' : World} {a : Option Addr} {n c : Nat} {row : Option Nat} (h : CurAt B w b a n c) (hg : w.grownBy w' row) (hne : some b ≠ row) : CurAt B w' b a n c := by
  have hlt := h.lt
  obtain ⟨hB, i, x, h1, h2, h3, hb⟩ := h
  exact ⟨hB, i, x, h1, h2, h3, (hg.block b hlt hne).trans hb⟩

/-- What a draw of some strings leaves. -/
def DrewStrs (w : World) (e : Ending) (w' : World) : Prop := ∃ v ss, e = .returned v ∧ Strs w' v ss ∧ ss.length ≤ 4 ∧ (∀ s ∈ ss, s.size ≤ 1000) ∧ Below w.heap.size w w'

set_option maxRecDepth 100000 in
set_option maxHeartbeats 1000000 in
theorem draw_joinWords (a : Option Addr) (n c : Nat) (w : World) (hn : n ≤ 1048576) (hcode : CodeAt w.heap.size w a n) :
    Calls Tryd.prog 13 #[.slice a n c] w (DrewStrs w) := by
  obtain ⟨i0, hi, hz0, hz1, hz2⟩ := info_parts infoStr
  have HC := Lib.hid hcode
  clear hcode
  go_enter Tryd.func13, Tryd.ntmps13
  go_wp2_with fail
  refine (l1_new a n c _ hn HC.out).mono ?_
  rintro e w1 ⟨b, rfl, hcur, hb1⟩
  have hlt1 := hcur.lt
  have HU := Lib.hid (hcur.alloc (.cells #[] 9))
  have hown0 : (w1.alloc (.cells #[] 9)).ownsRow (b + 1) 9 1 (.slice (some ⟨w1.heap.size, 0, none⟩) 0 0) 0 (([] : List ByteArray).map Value.string) := World.ownsRow_lit w1 #[] 0 (by omega) (Nat.zero_le _) rfl
  have HO := Lib.hid hown0
  have hsz := hb1.size
  have hgb : w1.heap.size ≠ b := by omega
  have B1 := Lib.hid (hb1.alloc hb1.size (.cells #[] 9))
  clear hcur hb1 hown0
  go_wp2_with fail
  refine (l1_below w.heap.size b a n c 5 _ hn (HC.out.below B1.out) HU.out (by omega) (by omega) B1.out.size).mono ?_
  rintro e w2 ⟨x, rfl, hx0, hx1, hd⟩
  have HU2 := Lib.hid hd.cur
  have B2 := Lib.hid (B1.out.trans (hd.below B1.out.size))
  have HO2 := Lib.hid (HO.out.kept hd.grown (Or.inr (fun e => hgb (Option.some.inj e))))
  clear hd
  obtain ⟨m, rfl⟩ := Int.eq_ofNat_of_zero_le hx0
  go_wp2_with fail
  go_loopw [4, 5] (fun l q wr => ∃ (k : Nat) (ss : List ByteArray), k ≤ 4 ∧ ss.length + k ≤ 4 ∧ q = .int .i64 k ∧ Hid (∀ s ∈ ss, s.size ≤ 1000) ∧ Hid (wr.ownsRow (b + 1) 9 1 l ss.length (ss.map Value.string)) ∧ Hid (CurAt w.heap.size wr b a n c) ∧ Below w.heap.size w wr)
    (fun _ q _ => (intOf q).toNat)
  case atStart => exact ⟨m, [], by omega, by simp; omega, rfl, Lib.hid (by simp), HO2, HU2, B2.out⟩
  case round =>
    obtain ⟨k, ss, hk, hsk, rfl, hss, hown, hcu, hb⟩ := hrel
    by_cases hk0 : 0 < k
    · have hltb := hcu.out.lt
      have hi5 := texts_new wr 9 [⟨#[65]⟩, ⟨#[49, 50]⟩, ⟨#[112, 108, 97, 110]⟩, ⟨#[97, 32, 98]⟩, ⟨#[]⟩] (by
        intro z hz; simp only [List.mem_cons, List.mem_nil_iff, or_false] at hz; rcases hz with rfl | rfl | rfl | rfl | rfl <;> decide)
      have HI := Lib.hid hi5
      clear hi5
      go_wp2_with fail
      refine (l1_pick w.heap.size b wr.heap.size 5 a n c _ hn ((HC.out.below hb).alloc hb.size _) (hcu.out.alloc _) (by omega) (by omega) (by have := hb.size; simp; omega) (by omega) HI.out).mono ?_
      rintro e w3 ⟨z, rfl, hz, hd⟩
      have hd2 := hd.ofAlloc
      have HO3 := Lib.hid (hown.out.kept hd2.grown (by
        rcases hown.out.2 with ⟨h1, _⟩ | ⟨g, cap, cur, h1, hbg, _⟩
        · exact Or.inl (by rw [h1]; rfl)
        · exact Or.inr (by rw [h1]; intro e; have := Option.some.inj e; simp at this; omega)))
      have HU3 := Lib.hid (hd2.cur.alloc (.cells #[.string z] 9))
      have hb3 := hd2.below hb.size
      have B3 := Lib.hid (hb.trans hb3)
      have hlt3 := hd2.cur.lt
      clear hd hd2 hb3
      go_wp2_with (at_builtin; refine wpList_append_own _ rfl _ _ 29 rfl (b + 1) 9 i0 (.string ⟨#[]⟩) 1 16 Tryd.underlying29 hi hz0 hz1 hz2 rfl (by decide) _ ss.length (ss.map Value.string) rfl (HO3.out.alloc _) ⟨w3.heap.size, 0, none⟩ 1 1 [.string z] rfl rfl ?c1 ?c2 ?c3 ?c4 ?c5 ?_)
      case c1 => intro j u hu; match j, hu with | 0, hu => simp at hu; subst hu; simp [Addr.add]
      case c2 => intro u hu; simp at hu; subst hu; rfl
      case c3 => unfold maxLen; omega
      case c4 => omega
      case c5 => simp; omega
      intro v4 w4 hown4 hgrow4 _
      have HO4 := Lib.hid hown4
      have hr4 : ∀ q, Value.ownBlock _ = some q → b + 1 ≤ q := fun q hq => (HO3.out.lt q hq).1
      have HU4 := Lib.hid (HU3.out.grown hgrow4 (by intro e; have := hr4 b e.symm; omega))
      have B4 := Lib.hid ((B3.out.alloc B3.out.size _).grown hgrow4 (by have := B3.out.size; simp; omega) (fun q hq => by have := hr4 q hq; have := HU3.out.1; omega))
      clear hown4 hgrow4 hr4
      go_wp2
      go_roundw
      case rel => exact ⟨k - 1, ss ++ [z], by omega, by simp; omega, by rw [show ((k : Int) - 1) = ((k - 1 : Nat) : Int) from by omega], Lib.hid (by
        intro s hs
        rcases List.mem_append.1 hs with h | h
        · exact hss.out s h
        · rw [List.mem_singleton.1 h]; exact hz), Lib.hid (by rw [List.length_append, List.map_append]; exact HO4.out), HU4, B4.out⟩
      case measure => simp [intOf]; omega
    · go_wp2_with fail
      go_ret
      exact ⟨_, ss, rfl, strs_of_row rfl hown.out, by omega, hss.out, hb⟩

/-- What a draw of a long text leaves. -/
def DrewText (w : World) (e : Ending) (w' : World) : Prop := ∃ x : ByteArray, e = .returned (.string x) ∧ x.size ≤ 6000 ∧ Below w.heap.size w w'

theorem ba_size (x y : ByteArray) : (x ++ y).size = x.size + y.size := by
  have h := congrArg List.length (ba_append x y)
  rw [List.length_append, Array.length_toList, Array.length_toList, Array.length_toList] at h
  exact h

set_option maxRecDepth 100000 in
set_option maxHeartbeats 1000000 in
theorem draw_splitWords (a : Option Addr) (n c : Nat) (w : World) (hn : n ≤ 1048576) (hcode : CodeAt w.heap.size w a n) :
    Calls Tryd.prog 17 #[.slice a n c] w (DrewText w) := by
  have HC := Lib.hid hcode
  clear hcode
  go_enter Tryd.func17, Tryd.ntmps17
  go_wp2_with fail
  refine (l1_new a n c _ hn HC.out).mono ?_
  rintro e w1 ⟨b, rfl, hcur, hb1⟩
  have HU := Lib.hid hcur
  have B1 := Lib.hid hb1
  clear hcur hb1
  go_wp2_with fail
  refine (l1_below w.heap.size b a n c 6 _ hn (HC.out.below B1.out) HU.out (by omega) (by omega) B1.out.size).mono ?_
  rintro e w2 ⟨x, rfl, hx0, hx1, hd⟩
  have HU2 := Lib.hid hd.cur
  have B2 := Lib.hid (B1.out.trans (hd.below B1.out.size))
  clear hd
  obtain ⟨m, rfl⟩ := Int.eq_ofNat_of_zero_le hx0
  go_wp2_with fail
  go_loopw [4, 5] (fun l q wr => ∃ (k : Nat) (z : ByteArray), k ≤ 5 ∧ z.size + 1000 * k ≤ 6000 ∧ q = .int .i64 k ∧ l = .string z ∧ Hid (CurAt w.heap.size wr b a n c) ∧ Below w.heap.size w wr)
    (fun _ q _ => (intOf q).toNat)
  case atStart => exact ⟨m, ⟨#[]⟩, by omega, by simp [ByteArray.size]; omega, rfl, rfl, HU2, B2.out⟩
  case round =>
    obtain ⟨k, y, hk, hsk, rfl, rfl, hcu, hb⟩ := hrel
    by_cases hk0 : 0 < k
    · have hltb := hcu.out.lt
      have hi6 := texts_new wr 9 [⟨#[65]⟩, ⟨#[49, 50]⟩, ⟨#[32]⟩, ⟨#[120, 32]⟩, ⟨#[112, 108, 97, 110, 32]⟩, ⟨#[32, 32]⟩] (by
        intro z hz; simp only [List.mem_cons, List.mem_nil_iff, or_false] at hz; rcases hz with rfl | rfl | rfl | rfl | rfl | rfl <;> decide)
      have HI := Lib.hid hi6
      clear hi6
      go_wp2_with fail
      refine (l1_pick w.heap.size b wr.heap.size 6 a n c _ hn ((HC.out.below hb).alloc hb.size _) (hcu.out.alloc _) (by omega) (by omega) (by have := hb.size; simp; omega) (by omega) HI.out).mono ?_
      rintro e w3 ⟨z, rfl, hz, hd⟩
      have hd2 := hd.ofAlloc
      have HU3 := Lib.hid hd2.cur
      have hb3 := hd2.below hb.size
      have B3 := Lib.hid (hb.trans hb3)
      clear hd hd2 hb3
      go_wp2
      go_roundw
      case rel => exact ⟨k - 1, y ++ z, by omega, by rw [ba_size]; omega, by rw [show ((k : Int) - 1) = ((k - 1 : Nat) : Int) from by omega], rfl, HU3, B3.out⟩
      case measure => simp [intOf]; omega
    · go_wp2_with fail
      go_ret
      exact ⟨_, rfl, by omega, hb⟩
end Go.Proofs.YtccmmpfbiemjiaaDoor
