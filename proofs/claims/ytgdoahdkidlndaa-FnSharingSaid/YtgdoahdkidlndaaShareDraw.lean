/-
  The draws of the laws on sharing: a total, and weights.
-/
import Derived.Test.YtgdoahdkidlndaaRows
import Derived.Test.YtgdoahdkidlndaaDraw
import Derived.Test.YtgdoahdkidlndaaDrawOnce
import Derived.Test.YtgdoahdkidlndaaDrawInt
import Derived.Test.YtgdoahdkidlndaaDrawMore
import Derived.Test.YtgdoahdkidlndaaInts
import Derived.Test.YtgdoahdkidlndaaIntsTo
import Derived.Test.YtgdoahdkidlndaaAppSpec
import Derived.Test.YtgdoahdkidlndaaAppImpl
import Derived.Test.YtgdoahdkidlndaaAppendSep
import Derived.Test.YtgdoahdkidlndaaHold
import Derived.WalkKit
import Derived.WalkSpells
import Derived.WalkSmall
import Derived.Lib.Hide
namespace Go.Proofs.Ytgdoahdkidlndaa
open Go.RowKit

/-- What is made anew hides behind the cursor. -/
theorem grown_new {w w1 w2 : World} {b : Nat} {r : Option Nat} (h1 : w.grownBy w1 (some b)) (h2 : w1.grownBy w2 r) (hr : ∀ k, r = some k → w.heap.size ≤ k) : w.grownBy w2 (some b) :=
  ⟨h2.os.trans h1.os, h2.tape.trans h1.tape, h2.output.trans h1.output, Nat.le_trans h1.size h2.size, fun k hk hne => (h2.block k (Nat.lt_of_lt_of_le hk h1.size) (fun e => by have := hr k e.symm; omega)).trans (h1.block k hk hne)⟩
theorem CurAt.grow {B b : Nat} {w w' : World} {a : Option Addr} {n c : Nat} {r : Option Nat} (h : CurAt B w b a n c) (hg : w.grownBy w' r) (hr : some b ≠ r) : CurAt B w' b a n c := by
  obtain ⟨hB, i, x, h1, h2, h3, hk⟩ := h
  exact ⟨hB, i, x, h1, h2, h3, (hg.block b (lt_of_heap hk) hr).trans hk⟩
theorem CodeAt.grow {B b : Nat} {w w' : World} {a : Option Addr} {n : Nat} (h : CodeAt B w a n) (hB : B ≤ w.heap.size) (hb : B ≤ b) (hg : w.grownBy w' (some b)) : CodeAt B w' a n :=
  h.below ((Below.refl B w).grown hg hB (fun k hk => by cases hk; exact hb))

set_option maxRecDepth 100000 in
set_option maxHeartbeats 400000 in
theorem l3_total (B b : Nat) (a : Option Addr) (n c : Nat) (w : World) (hn : n ≤ 1048576) (hcode : CodeAt B w a n) (hcur : CurAt B w b a n c) (hBw : B ≤ w.heap.size) :
    Calls Try.prog 29 #[.pointer (some ⟨b, 0, none⟩)] w (Draws B b a n c (-9223372036854775808) 9223372036854775807 w) := by
  have HC := Lib.hid hcode
  have HU := Lib.hid hcur
  clear hcode hcur
  go_enter Try.func29, Try.ntmps29
  go_wp2_with fail
  refine (l1_once B b a n c 8 _ hn HC.out HU.out (by omega) (by omega) hBw).mono ?_
  rintro e w1 ⟨x, rfl, hd⟩
  have HD := Lib.hid hd
  have hB1 : B ≤ w1.heap.size := Nat.le_trans hBw hd.grown.size
  have HC1 := Lib.hid (HC.out.below (hd.below hBw))
  clear hd
  cases x
  · go_wp2_with fail
    refine (l1_below B b a n c 2001 _ hn HC1.out HD.out.cur (by omega) (by omega) hB1).mono ?_
    rintro e w2 ⟨y, rfl, hy0, hy1, hd⟩
    have HD2 := Lib.hid (HD.out.trans hd)
    clear hd
    go_wp2
    go_ret
    exact ⟨_, rfl, by omega, by omega, HD2.out⟩
  · go_wp2_with fail
    refine (l1_odd B b a n c _ hn HC1.out HD.out.cur hB1).mono ?_
    rintro e w2 ⟨y, rfl, hy0, hy1, hd⟩
    have HD2 := Lib.hid (HD.out.trans hd)
    clear hd
    go_wp2
    go_ret
    exact ⟨_, rfl, hy0, hy1, HD2.out⟩

/-- What a draw of weights leaves. -/
def DrewW (B b : Nat) (a : Option Addr) (n c : Nat) (w : World) (e : Ending) (w' : World) : Prop := ∃ (v : Value) (xs : List Int), e = .returned v ∧ xs.length ≤ 8 ∧ w'.ownsRow w.heap.size 3 1 v xs.length (xs.map (Value.int .i64)) ∧ Drawn B b a n c w w'

set_option maxRecDepth 100000 in
set_option maxHeartbeats 2000000 in
theorem l3_weights (B b : Nat) (a : Option Addr) (n c : Nat) (w : World) (hn : n ≤ 1048576) (hcode : CodeAt B w a n) (hcur : CurAt B w b a n c) (hBw : B ≤ w.heap.size) :
    Calls Try.prog 30 #[.pointer (some ⟨b, 0, none⟩)] w (DrewW B b a n c w) := by
  obtain ⟨i0, hi, hz0, hz1, hz2⟩ := info_parts infoInt
  have HC := Lib.hid hcode
  have HU := Lib.hid hcur
  have hlt := hcur.lt
  have hBb := hcur.1
  clear hcode hcur
  go_enter Try.func30, Try.ntmps30
  go_wp2_with fail
  refine (l1_below B b a n c 7 _ hn (HC.out.alloc hBw _) (HU.out.alloc _) (by omega) (by omega) (by simp; omega)).mono ?_
  rintro e w1 ⟨x, rfl, hx0, hx1, hd⟩
  obtain ⟨m0, rfl⟩ : ∃ m0 : Nat, x = (m0 : Int) := ⟨x.toNat, by omega⟩
  have HO0 : Hid (w1.ownsRow w.heap.size 3 1 (.slice (some ⟨w.heap.size, 0, none⟩) 0 0) 0 (([] : List Int).map (Value.int .i64))) := Lib.hid (World.ownsRow.kept (World.ownsRow_lit w #[] 0 (Nat.le_refl _) (Nat.zero_le _) rfl) hd.grown (Or.inr (by simp [Value.ownBlock]; omega)))
  have HG0 : Hid (w.grownBy w1 (some b)) := Lib.hid ((World.grownBy_alloc w _ _).trans hd.grown)
  have HU0 := Lib.hid hd.cur
  clear hd
  go_wp2_with fail
  go_loopw [3, 4] (fun l y wr => ∃ (g cap m : Nat) (xs : List Int), l = .slice (some ⟨g, 0, none⟩) xs.length cap ∧ y = .int .i64 (m : Nat) ∧ xs.length + m ≤ 7 ∧ Hid (wr.ownsRow w.heap.size 3 1 (.slice (some ⟨g, 0, none⟩) xs.length cap) xs.length (xs.map (Value.int .i64))) ∧ Hid (w.grownBy wr (some b)) ∧ Hid (CurAt B wr b a n c)) (fun _ y _ => (intOf y).toNat)
  case atStart => exact ⟨w.heap.size, 0, m0, [], rfl, rfl, by simp; omega, HO0, HG0, HU0⟩
  case round =>
    obtain ⟨g, cap, m, xs, rfl, rfl, hm, HO, HG, HU1⟩ := hrel
    have hwr := HG.out.size
    have hBr : B ≤ wr.heap.size := by omega
    have HC1 := Lib.hid (HC.out.grow hBw hBb HG.out)
    have hblt := HU1.out.lt
    have hgw := HO.out.lt g rfl
    by_cases hm0 : 0 < m
    · go_wp2_with fail
      have hints := ints_new wr 3 [0, 1, 2, 3, 5, 7, 10, 100, 999999, 1000000] (by intro z hz; simp only [List.mem_cons, List.mem_nil_iff, or_false] at hz; omega)
      refine (l1_pickInt B b wr.heap.size 10 a n c _ hn (HC1.out.alloc hBr _) (HU1.out.alloc _) (by omega) (by omega) (by simp; omega) (by omega) hints).mono ?_
      rintro e w2 ⟨z, rfl, hzl, hzu, hd⟩
      have HO2 := Lib.hid ((HO.out.alloc (.cells #[.int .i64 0, .int .i64 1, .int .i64 2, .int .i64 3, .int .i64 5, .int .i64 7, .int .i64 10, .int .i64 100, .int .i64 999999, .int .i64 1000000] 3)).kept hd.grown (Or.inr (by simp [Value.ownBlock]; omega)))
      have HG2 : Hid (w.grownBy w2 (some b)) := Lib.hid (HG.out.trans ((World.grownBy_alloc wr _ _).trans hd.grown))
      have HU2 := Lib.hid hd.cur
      have hs2 := HG2.out.size
      clear hd hints
      go_wp2_with (at_builtin; refine wpList_append_sep rfl _ _ 24 rfl w.heap.size 3 i0 (.int .i64 0) Try.underlying24 hi hz0 hz1 hz2 rfl g xs.length cap (xs.map (Value.int .i64)) rfl (HO2.out.alloc _) ⟨w2.heap.size, 0, none⟩ 1 (.int .i64 z) rfl ?c1 rfl (by omega) ?c5 ?_)
      case c1 => simp [Addr.add]
      case c5 => simp; omega
      intro g3 c3 w3 hown hgrow hsep
      have HO3 : Hid (w3.ownsRow w.heap.size 3 1 (.slice (some ⟨g3, 0, none⟩) (xs ++ [z]).length c3) (xs ++ [z]).length ((xs ++ [z]).map (Value.int .i64))) := Lib.hid (by
        rw [List.length_append, List.map_append]; exact hown)
      have HG3 : Hid (w.grownBy w3 (some b)) := Lib.hid (grown_new (HG2.out.trans (World.grownBy_alloc w2 _ _)) hgrow (fun k hk => by cases hk; exact hgw.1))
      have HU3 : Hid (CurAt B w3 b a n c) := Lib.hid ((HU2.out.alloc _).grow hgrow (by simp; omega))
      have hlen : (xs ++ [z]).length = xs.length + 1 := by simp
      clear hown hgrow hsep
      go_wp2
      go_roundw
      case rel => exact ⟨g3, c3, m - 1, xs ++ [z], by rw [hlen], congrArg (Value.int .i64) (by omega), by omega, HO3, HG3, HU3⟩
      case measure => simp [intOf]; omega
    · obtain rfl : m = 0 := by omega
      go_wp2_with fail
      refine (l1_once B b a n c 15 _ hn HC1.out HU1.out (by omega) (by omega) hBr).mono ?_
      rintro e w2 ⟨x, rfl, hd⟩
      have HO2 := Lib.hid (HO.out.kept hd.grown (Or.inr (by simp [Value.ownBlock]; omega)))
      have HG2 := Lib.hid (HG.out.trans hd.grown)
      have HU2 := Lib.hid hd.cur
      have hs2 := HG2.out.size
      have HC2 := Lib.hid (HC.out.grow hBw hBb HG2.out)
      have hblt2 := HU2.out.lt
      clear hd
      cases x
      · go_wp2
        go_ret
        exact ⟨_, xs, rfl, by omega, HO2.out, ⟨HU2.out, HG2.out⟩⟩
      · go_wp2_with fail
        have hints := ints_new w2 3 [-1, 1000001] (by intro z hz; simp only [List.mem_cons, List.mem_nil_iff, or_false] at hz; omega)
        refine (l1_pickInt B b w2.heap.size 2 a n c _ hn (HC2.out.alloc (by omega) _) (HU2.out.alloc _) (by omega) (by omega) (by simp; omega) (by omega) hints).mono ?_
        rintro e w3 ⟨z, rfl, hzl, hzu, hd⟩
        have HO3 := Lib.hid ((HO2.out.alloc (.cells #[.int .i64 (-1), .int .i64 1000001] 3)).kept hd.grown (Or.inr (by simp [Value.ownBlock]; omega)))
        have HG3 : Hid (w.grownBy w3 (some b)) := Lib.hid (HG2.out.trans ((World.grownBy_alloc w2 _ _).trans hd.grown))
        have HU3 := Lib.hid hd.cur
        have hs3 := HG3.out.size
        clear hd hints
        go_wp2_with (at_builtin; refine wpList_append_sep rfl _ _ 24 rfl w.heap.size 3 i0 (.int .i64 0) Try.underlying24 hi hz0 hz1 hz2 rfl g xs.length cap (xs.map (Value.int .i64)) rfl (HO3.out.alloc _) ⟨w3.heap.size, 0, none⟩ 1 (.int .i64 z) rfl ?c1 rfl (by omega) ?c5 ?_)
        case c1 => simp [Addr.add]
        case c5 => simp; omega
        intro g4 c4 w4 hown hgrow hsep
        have HO4 : Hid (w4.ownsRow w.heap.size 3 1 (.slice (some ⟨g4, 0, none⟩) (xs ++ [z]).length c4) (xs ++ [z]).length ((xs ++ [z]).map (Value.int .i64))) := Lib.hid (by
          rw [List.length_append, List.map_append]; exact hown)
        have HG4 : Hid (w.grownBy w4 (some b)) := Lib.hid (grown_new (HG3.out.trans (World.grownBy_alloc w3 _ _)) hgrow (fun k hk => by cases hk; exact hgw.1))
        have HU4 : Hid (CurAt B w4 b a n c) := Lib.hid ((HU3.out.alloc _).grow hgrow (by simp; omega))
        clear hown hgrow hsep
        go_wp2
        go_ret
        exact ⟨.slice (some ⟨g4, 0, none⟩) (xs ++ [z]).length c4, xs ++ [z], by simp, by simp; omega, HO4.out, ⟨HU4.out, HG4.out⟩⟩
end Go.Proofs.Ytgdoahdkidlndaa
