/-
  The draws of the laws on units.
-/
import Derived.Test.YtaomjggamamckaaUnitCur
import Derived.Test.YtaomjggamamckaaUnitDrawn
import Derived.Test.YtaomjggamamckaaUnitLaw
import Derived.Test.YtaomjggamamckaaDrawOnce
import Derived.Test.YtaomjggamamckaaDrawInt
import Derived.Test.YtaomjggamamckaaDrawText
import Derived.WalkKit
import Derived.WalkSpells
import Derived.WalkSmall
import Derived.BigQuiet
import Derived.Deep.QuietTactic
import Derived.Lib.Hide
namespace Go.Proofs.Ytaomjggamamckaa
open Go.RowKit

set_option maxRecDepth 100000 in
set_option maxHeartbeats 1000000 in
theorem l5_unit (B b : Nat) (a : Option Addr) (n c : Nat) (w : World) (hn : n ≤ 1048576) (hcode : CodeAt B w a n) (hcur : CurAt B w b a n c) (hBw : B ≤ w.heap.size) :
    Calls Try.prog 36 #[.pointer (some ⟨b, 0, none⟩)] w (DrawsS B b a n c w) := by
  have hlt := hcur.lt
  have hT := Lib.hid (texts_new w 9 [{ data := #[80, 67] }, { data := #[68, 79, 90] }, { data := #[71, 82, 79, 83] }, { data := #[66, 79, 88] }, { data := #[80, 65, 76] }, { data := #[75, 71] }, { data := #[88] }, { data := #[] }] (by intro z hz; simp only [List.mem_cons, List.mem_nil_iff, or_false] at hz; rcases hz with rfl | rfl | rfl | rfl | rfl | rfl | rfl | rfl <;> decide))
  have HC := Lib.hid (hcode.alloc hBw (.cells #[.string { data := #[80, 67] }, .string { data := #[68, 79, 90] }, .string { data := #[71, 82, 79, 83] }, .string { data := #[66, 79, 88] }, .string { data := #[80, 65, 76] }, .string { data := #[75, 71] }, .string { data := #[88] }, .string { data := #[] }] 9))
  have HU := Lib.hid (hcur.alloc (.cells #[.string { data := #[80, 67] }, .string { data := #[68, 79, 90] }, .string { data := #[71, 82, 79, 83] }, .string { data := #[66, 79, 88] }, .string { data := #[80, 65, 76] }, .string { data := #[75, 71] }, .string { data := #[88] }, .string { data := #[] }] 9))
  clear hcode hcur
  go_enter Try.func36, Try.ntmps36
  go_wp2_with fail
  refine (l1_pick B b w.heap.size 8 a n c _ hn HC.out HU.out (by omega) (by omega) (by simp; omega) (by omega) hT.out).mono ?_
  rintro e w1 ⟨x, rfl, hx, hd⟩
  have HD := Lib.hid hd.ofAlloc
  clear hd
  go_wp2_with fail
  go_ret
  exact ⟨x, rfl, hx, HD.out⟩

set_option maxRecDepth 100000 in
set_option maxHeartbeats 1000000 in
theorem l5_quantity (B b : Nat) (a : Option Addr) (n c : Nat) (w : World) (hn : n ≤ 1048576) (hcode : CodeAt B w a n) (hcur : CurAt B w b a n c) (hBw : B ≤ w.heap.size) :
    Calls Try.prog 44 #[.pointer (some ⟨b, 0, none⟩)] w (Draws B b a n c (-9223372036854775808) 9223372036854775807 w) := by
  have HC := Lib.hid hcode
  have HU := Lib.hid hcur
  have hBb := hcur.1
  clear hcode hcur
  go_enter Try.func44, Try.ntmps44
  go_wp2_with fail
  refine (l1_once B b a n c 12 _ hn HC.out HU.out (by omega) (by omega) hBw).mono ?_
  rintro e w1 ⟨x, rfl, hd⟩
  have HD := Lib.hid hd
  have hs := hd.grown.size
  have HC1 := Lib.hid (HC.out.below (hd.below hBw))
  clear hd
  cases x with
  | true =>
    go_wp2_with fail
    refine (l1_odd B b a n c _ hn HC1.out HD.out.cur (by omega)).mono ?_
    rintro e w2 ⟨y, rfl, hy0, hy1, hd⟩
    have HD2 := Lib.hid (HD.out.trans hd)
    clear hd
    go_wp2_with fail
    go_ret
    exact ⟨y, rfl, hy0, hy1, HD2.out⟩
  | false =>
    go_wp2_with fail
    refine (l1_below B b a n c 500 _ hn HC1.out HD.out.cur (by omega) (by omega) (by omega)).mono ?_
    rintro e w2 ⟨y, rfl, hy0, hy1, hd⟩
    have HD2 := Lib.hid (HD.out.trans hd)
    clear hd
    go_wp2_with fail
    go_ret
    exact ⟨y, rfl, by omega, by omega, HD2.out⟩

theorem results_four {fn : Func} {t u v x : Tmp} (h : fn.results = #[.tmp t, .tmp u, .tmp v, .tmp x]) (tmps : Array Value) (P : Program) (w : World) :
    (results fn tmps).run P w = .ok (.tuple #[tmps.getD t undef, tmps.getD u undef, tmps.getD v undef, tmps.getD x undef]) w := by
  simp [results, h]

theorem tabArg_of {w : World} {base : Nat} {p : Option Addr} {q : Nat} {rs : List UR} (h : w.ownsRow base 79 4 (.slice p rs.length q) rs.length (cellsU rs)) (hl : rs.length ≤ 8) (hz : ∀ r, r ∈ rs → r.src.size ≤ 1000 ∧ r.dst.size ≤ 1000) : TabArg w (.slice p rs.length q) rs :=
  ⟨rules_of_cells h, by omega, fun r hr => by have := hz r hr; unfold maxLen; omega⟩

set_option maxRecDepth 100000 in
set_option maxHeartbeats 1000000 in
theorem draw_fac : DrawFac := by
  intro a n c w hn hcode
  have HC0 := Lib.hid hcode
  clear hcode
  go_enter Try.func11, Try.ntmps11
  go_wp2_with fail
  refine (l1_new a n c _ hn HC0.out).mono ?_
  rintro e w1 ⟨b, rfl, hcur, hb1⟩
  have HC1 := Lib.hid (HC0.out.below hb1)
  have HU1 := Lib.hid hcur
  have HB1 := Lib.hid hb1
  have hbb := hcur.1
  have hblt := hcur.lt
  have hs1 := hb1.size
  clear hcur hb1 HC0
  go_wp2_with fail
  refine (draw_tab w.heap.size b a n c _ hn HC1.out HU1.out hs1).mono ?_
  rintro e w2 ⟨p, q, rs, rfl, hl, hz, hown, hd⟩
  have HZ := Lib.hid hz
  have HO2 := Lib.hid hown
  have HD2 := Lib.hid hd
  have hs2 := hd.grown.size
  have HC2 := Lib.hid (HC1.out.below (hd.below hs1))
  clear hown hd hz HU1
  go_wp2_with fail
  refine (l5_unit w.heap.size b a n c _ hn HC2.out HD2.out.cur (by omega)).mono ?_
  rintro e w3 ⟨x, rfl, hx, hd⟩
  have HO3 := Lib.hid (ownU_hd HO2.out hd.grown (by omega))
  have HD3 := Lib.hid (HD2.out.trans hd)
  have hs3 := hd.grown.size
  have HC3 := Lib.hid (HC2.out.below (hd.below (by omega)))
  clear hd HO2 HD2 HC2
  go_wp2_with fail
  refine (l5_unit w.heap.size b a n c _ hn HC3.out HD3.out.cur (by omega)).mono ?_
  rintro e w4 ⟨y, rfl, hy, hd⟩
  have HO4 := Lib.hid (ownU_hd HO3.out hd.grown (by omega))
  have HD4 := Lib.hid (HD3.out.trans hd)
  clear hd HO3 HD3 HC3
  go_wp2_with fail
  go_ret3
  exact ⟨_, rs, x, y, rfl, tabArg_of HO4.out hl HZ.out, by unfold maxLen; omega, by unfold maxLen; omega, HB1.out.trans (HD4.out.below hs1)⟩

set_option maxRecDepth 100000 in
set_option maxHeartbeats 1000000 in
theorem draw_cup : DrawCup := by
  intro a n c w hn hcode
  have HC0 := Lib.hid hcode
  clear hcode
  go_enter Try.func18, Try.ntmps18
  go_wp2_with fail
  refine (l1_new a n c _ hn HC0.out).mono ?_
  rintro e w1 ⟨b, rfl, hcur, hb1⟩
  have HC1 := Lib.hid (HC0.out.below hb1)
  have HU1 := Lib.hid hcur
  have HB1 := Lib.hid hb1
  have hbb := hcur.1
  have hblt := hcur.lt
  have hs1 := hb1.size
  clear hcur hb1 HC0
  go_wp2_with fail
  refine (draw_tab w.heap.size b a n c _ hn HC1.out HU1.out hs1).mono ?_
  rintro e w2 ⟨p, q, rs, rfl, hl, hz, hown, hd⟩
  have HZ := Lib.hid hz
  have HO2 := Lib.hid hown
  have HD2 := Lib.hid hd
  have hs2 := hd.grown.size
  have HC2 := Lib.hid (HC1.out.below (hd.below hs1))
  clear hown hd hz HU1
  go_wp2_with fail
  refine (l5_unit w.heap.size b a n c _ hn HC2.out HD2.out.cur (by omega)).mono ?_
  rintro e w3 ⟨x, rfl, hx, hd⟩
  have HO3 := Lib.hid (ownU_hd HO2.out hd.grown (by omega))
  have HD3 := Lib.hid (HD2.out.trans hd)
  have hs3 := hd.grown.size
  have HC3 := Lib.hid (HC2.out.below (hd.below (by omega)))
  clear hd HO2 HD2 HC2
  go_wp2_with fail
  refine (l5_unit w.heap.size b a n c _ hn HC3.out HD3.out.cur (by omega)).mono ?_
  rintro e w4 ⟨y, rfl, hy, hd⟩
  have HO4 := Lib.hid (ownU_hd HO3.out hd.grown (by omega))
  have HD4 := Lib.hid (HD3.out.trans hd)
  have hs4 := hd.grown.size
  have HC4 := Lib.hid (HC3.out.below (hd.below (by omega)))
  clear hd HO3 HD3 HC3
  go_wp2_with fail
  refine (l5_quantity w.heap.size b a n c _ hn HC4.out HD4.out.cur (by omega)).mono ?_
  rintro e w5 ⟨z, rfl, hz0, hz1, hd⟩
  have HO5 := Lib.hid (ownU_hd HO4.out hd.grown (by omega))
  have HD5 := Lib.hid (HD4.out.trans hd)
  clear hd HO4 HD4 HC4
  go_wp2_with fail
  refine bodyPost_ret (results_four rfl _ _ _) rfl ?_
  exact ⟨_, rs, x, y, z, rfl, tabArg_of HO5.out hl HZ.out, by unfold maxLen; omega, by unfold maxLen; omega, HB1.out.trans (HD5.out.below hs1)⟩
end Go.Proofs.Ytaomjggamamckaa
