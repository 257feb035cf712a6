import Derived.Test.YtmnncinpepeocaaGreatSzDraw
import Derived.Test.YtmnncinpepeocaaGreatCatDraw
import Derived.Test.YtmnncinpepeocaaGreatOwnTop
import Derived.Test.YtmnncinpepeocaaGreatBillDraw
import Derived.Test.YtmnncinpepeocaaGreatDayDraw
import Derived.Test.YtmnncinpepeocaaGreatCondChoice
import Derived.Test.YtmnncinpepeocaaGreatBuDr
import Derived.Test.YtmnncinpepeocaaGreatBuRec
import Derived.Test.YtmnncinpepeocaaGreatBuA
import Derived.WalkKit
import Derived.WalkSpells
import Derived.WalkSmall
import Derived.BigQuiet
import Derived.Deep.QuietTactic
import Derived.Lib.Hide
namespace Go.Proofs.YtmnncinpepeocaaGreat
open Go.RowKit

set_option maxRecDepth 100000 in
set_option maxHeartbeats 1000000 in
theorem l10_quantity (B b : Nat) (a : Option Addr) (n c : Nat) (w : World) (hn : n ≤ 1048576) (hcode : CodeAt B w a n) (hcur : CurAt B w b a n c) (hBw : B ≤ w.heap.size) :
 Calls Tryz.prog 41 #[.pointer (some ⟨b, 0, none⟩)] w (Draws B b a n c (-9223372036854775808) 9223372036854775807 w) := by
 have HC := Lib.hid hcode
 have HU := Lib.hid hcur
 have hBb := hcur.1
 have hlt := hcur.lt
 clear hcode hcur
 go_enter Tryz.func41, Tryz.ntmps41
 go_wp2_with fail
 refine (l1_once B b a n c 12 _ hn HC.out HU.out (by omega) (by omega) hBw).mono ?_
 rintro e w1 ⟨x, rfl, hd⟩
 have HD := Lib.hid hd
 have hs := hd.grown.size
 have HC1 := Lib.hid (HC.out.below (hd.below hBw))
 clear hd
 cases x with
 | true =>
  have HX : Hid (w1.heap.size ≠ b) := Lib.hid (by omega)
  have HDA := Lib.hid (HD.out.al hlt (.cells #[.int .i64 (-1), .int .i64 0, .int .i64 100000, .int .i64 100001] 3))
  have HCA := Lib.hid (HC.out.below (HDA.out.below hBw))
  have HIA : Hid (IntsAt (w1.alloc (.cells #[.int .i64 (-1), .int .i64 0, .int .i64 100000, .int .i64 100001] 3)) w1.heap.size 4) := Lib.hid (fun j hj => by
   match j, hj with
   | 0, _ => exact ⟨-1, by omega, by omega, cell_of_row _ _ 0 _ _ _ (heap_alloc_new _ _)⟩
   | 1, _ => exact ⟨0, by omega, by omega, cell_of_row _ _ 1 _ _ _ (heap_alloc_new _ _)⟩
   | 2, _ => exact ⟨100000, by omega, by omega, cell_of_row _ _ 2 _ _ _ (heap_alloc_new _ _)⟩
   | 3, _ => exact ⟨100001, by omega, by omega, cell_of_row _ _ 3 _ _ _ (heap_alloc_new _ _)⟩)
  go_wp2_with fail
  refine (l1_pickInt B b w1.heap.size 4 a n c _ hn HCA.out HDA.out.cur (by omega) (by omega) (by simp; omega) HX.out HIA.out).mono ?_
  rintro e w2 ⟨y, rfl, hy0, hy1, hd⟩
  have HD2 := Lib.hid (HDA.out.trans hd)
  clear hd
  go_wp2_with fail
  go_ret
  exact ⟨y, rfl, hy0, hy1, HD2.out⟩
 | false =>
  go_wp2_with fail
  refine (l1_below B b a n c 20 _ hn HC1.out HD.out.cur (by omega) (by omega) (by omega)).mono ?_
  rintro e w2 ⟨y, rfl, hy0, hy1, hd⟩
  have HD2 := Lib.hid (HD.out.trans hd)
  clear hd
  go_wp2_with fail
  go_ret
  exact ⟨1 + y, by go_num, by omega, by omega, HD2.out⟩

/-- A catalog, lines and a code, drawn. -/
def DrewCase (B b : Nat) (a : Option Addr) (n c : Nat) (w : World) (e : Ending) (w' : World) : Prop := ∃ (p : Option Addr) (q : Nat) (l : List IT) (p2 : Option Addr) (q2 : Nat) (ls : List BL) (s : ByteArray) (w2 : World), e = .returned (.tuple #[.slice p l.length q, .slice p2 ls.length q2, .string s]) ∧ Hid (l.length ≤ 6) ∧ Hid (ls.length ≤ 9) ∧ Hid (∀ r, r ∈ l → IT.Sz r) ∧ Hid (BX.Sz ls) ∧ Hid (w'.ownsRow w.heap.size 33 8 (.slice p l.length q) l.length (IT.cells l)) ∧ Hid (BX.Own w2.heap.size w'.heap.size w' (.slice p2 ls.length q2) ls) ∧ Hid (w.heap.size ≤ w2.heap.size) ∧ Hid (Drawn B b a n c w w')

set_option maxRecDepth 100000 in
set_option maxHeartbeats 2000000 in
theorem l10_case (b : Nat) (a : Option Addr) (n c B : Nat) (w : World) (hn : n ≤ 1048576) (hcode : CodeAt B w a n) (hcur : CurAt B w b a n c) (hBw : B ≤ w.heap.size) :
 Calls Tryz.prog 40 #[.pointer (some ⟨b, 0, none⟩)] w (DrewCase B b a n c w) := by
 have HC1 := Lib.hid hcode
 have HU := Lib.hid hcur
 have hlt := hcur.lt
 clear hcode hcur
 go_enter Tryz.func40, Tryz.ntmps40
 go_wp2_with fail
 refine (l8_catalog B b a n c w hn HC1.out HU.out hBw).mono ?_
 rintro e w2 ⟨p, q, l, rfl, ⟨hl6, hl0⟩, HZ, HO, HD⟩
 have HC2 := Lib.hid (HC1.out.below (HD.out.below hBw))
 have hs2 := HD.out.grown.size
 go_wp2_with fail
 refine (l9_bills B b a n c w2 (.slice p l.length q) l w.heap.size hn HC2.out HD.out.cur (by omega) HO.out hlt hl6 HZ.out).mono ?_
 rintro e w3 ⟨p2, q2, ls, rfl, hl9, HZ2, HO2, HD2⟩
 have HO3 := Lib.hid (own_hdC HO.out HD2.out.grown hlt)
 have HD3 := Lib.hid (HD.out.trans HD2.out)
 have HC3 := Lib.hid (HC1.out.below (HD3.out.below hBw))
 have hs3 := HD3.out.grown.size
 have hb2 : b < w2.heap.size := by omega
 clear HO HD HD2 HC2
 go_wp2_with fail
 refine (l1_once B b a n c 3 w3 hn HC3.out HD3.out.cur (by omega) (by omega) (by omega)).mono ?_
 rintro e w4 ⟨y, rfl, hd⟩
 have HO4 := Lib.hid (own_hdC HO3.out hd.grown hlt)
 have HL4 := Lib.hid (HO2.out.drawn hd.grown hb2)
 have HD4 := Lib.hid (HD3.out.trans hd)
 have HC4 := Lib.hid (HC1.out.below (HD4.out.below hBw))
 have hs4 := HD4.out.grown.size
 have hs34 := hd.grown.size
 clear hd HO3 HO2 HD3 HC3
 cases y with
 | true =>
  go_wp2_with fail
  refine (l1_code B b a n c w4 hn HC4.out HD4.out.cur (by omega)).mono ?_
  rintro e w5 ⟨s, rfl, hs, hd⟩
  have HO5 := Lib.hid (own_hdC HO4.out hd.grown hlt)
  have HL5 := Lib.hid (HL4.out.drawn hd.grown hb2)
  have HD5 := Lib.hid (HD4.out.trans hd)
  have hs5 := hd.grown.size
  clear hd HO4 HL4 HD4 HC4
  go_wp2_with fail
  go_ret3
  exact ⟨p, q, l, p2, q2, ls, s, w2, rfl, Lib.hid hl6, Lib.hid hl9, Lib.hid (sz_items HZ.out), Lib.hid (sz_lines HZ2.out hl9), HO5, Lib.hid (HL5.out.topw (by omega)), Lib.hid hs2, HD5⟩
 | false =>
  obtain ⟨bI, oI, cI, hvI, hcI, hatI⟩ := (IT.is_of_row HO4.out).some hl0
  simp only [Value.slice.injEq] at hvI
  obtain ⟨rfl, _, rfl⟩ := hvI
  have e0 : w4.cell? ⟨bI, oI, none⟩ = some (.string (l[0]'hl0).code) := by have := (hatI.at 0 hl0).1; simpa using this
  have hi0 : (0 : Int) < (l.length : Int) := by omega
  clear hatI hcI HC4
  go_upto_region 5 with fail
  go_quiet (fail)
  all_goals
   go_wp2_with fail
   go_ret3
   exact ⟨some ⟨bI, oI, none⟩, q, l, p2, q2, ls, _, w2, rfl, Lib.hid hl6, Lib.hid hl9, Lib.hid (sz_items HZ.out), Lib.hid (sz_lines HZ2.out hl9), HO4, Lib.hid ((HL4.out.drawn (w' := w4.drewN _) ⟨rfl, rfl, rfl, Nat.le_refl _, fun _ _ _ => rfl⟩ hb2).topw hs34), Lib.hid hs2, Lib.hid ⟨HD4.out.cur, ⟨HD4.out.grown.os, HD4.out.grown.tape, HD4.out.grown.output, HD4.out.grown.size, HD4.out.grown.block⟩⟩⟩
end Go.Proofs.YtmnncinpepeocaaGreat

namespace Go.Proofs.YtmnncinpepeocaaGreat
open Go.RowKit

theorem results_six {fn : Func} {t u v x y z : Tmp} (h : fn.results = #[.tmp t, .tmp u, .tmp v, .tmp x, .tmp y, .tmp z]) (tmps : Array Value) (P : Program) (w : World) :
 (results fn tmps).run P w = .ok (.tuple #[tmps.getD t undef, tmps.getD u undef, tmps.getD v undef, tmps.getD x undef, tmps.getD y undef, tmps.getD z undef]) w := by
 simp [results, h]
/-- What is drawn. -/
def DrewEX (w : World) (e : Ending) (w' : World) : Prop := ∃ (p : Option Addr) (q : Nat) (l : List IT) (p2 : Option Addr) (q2 : Nat) (ls : List BL) (s : ByteArray) (z d : Int) (g3 q3 : Nat) (ps : List PK), e = .returned (.tuple #[.slice p l.length q, .slice p2 ls.length q2, .string s, .int .i64 z, .int .i64 d, .slice (some ⟨g3, 0, none⟩) ps.length q3]) ∧ Hid (l.length ≤ 6) ∧ Hid (ls.length ≤ 9) ∧ Hid (ps.length ≤ 3) ∧ Hid (∀ r, r ∈ l → IT.Sz r) ∧ Hid (BX.Sz ls) ∧ Hid (-9223372036854775808 ≤ z ∧ z ≤ 9223372036854775807) ∧ Hid (IT.Is w' (.slice p l.length q) l) ∧ Hid (∃ lo hi, BX lo hi w' (.slice p2 ls.length q2) ls) ∧ Hid (PK.Is w' (.slice (some ⟨g3, 0, none⟩) ps.length q3) ps) ∧ Hid (Below w.heap.size w w')

set_option maxRecDepth 100000 in
set_option maxHeartbeats 2000000 in
theorem draw_explosion (a : Option Addr) (n c : Nat) (w : World) (hn : n ≤ 1048576) (hcode : CodeAt w.heap.size w a n) :
 Calls Tryz.prog 9 #[.slice a n c] w (DrewEX w) := by
 have HC := Lib.hid hcode
 clear hcode
 go_enter Tryz.func9, Tryz.ntmps9
 go_wp2_with fail
 refine (l1_new a n c _ hn HC.out).mono ?_
 rintro e w1 ⟨b, rfl, hcur, hb⟩
 have HC1 := Lib.hid (HC.out.below hb)
 have HB1 := Lib.hid hb
 have HU := Lib.hid hcur
 have hs1 := hb.size
 have hlt := hcur.lt
 clear hb hcur
 go_wp2_with fail
 refine (l10_case b a n c w.heap.size w1 hn HC1.out HU.out hs1).mono ?_
 rintro e w2 ⟨p, q, l, p2, q2, ls, s, wm, rfl, HL6, HL9, HZ, HZ2, HO2, HL2, HM, HD2⟩
 have HC2 := Lib.hid (HC1.out.below (HD2.out.below hs1))
 have hs2 := HD2.out.grown.size
 have hb2 : b < wm.heap.size := by have := HM.out; omega
 go_wp2_with fail
 refine (l10_quantity w.heap.size b a n c w2 hn HC2.out HD2.out.cur (by omega)).mono ?_
 rintro e w4 ⟨z, rfl, hz0, hz1, hd⟩
 have HO4 := Lib.hid (own_hdC HO2.out hd.grown hlt)
 have HL4 := Lib.hid (HL2.out.drawn hd.grown hb2)
 have HD4 := Lib.hid (HD2.out.trans hd)
 have HC4 := Lib.hid (HC1.out.below (HD4.out.below hs1))
 have hs4 := HD4.out.grown.size
 clear hd HO2 HL2 HD2 HC2
 go_wp2_with fail
 refine (l4_day w.heap.size b a n c w4 hn HC4.out HD4.out.cur (by omega)).mono ?_
 rintro e w5 ⟨d, rfl, hd0, hd1, hd⟩
 have HO5 := Lib.hid (own_hdC HO4.out hd.grown hlt)
 have HL5 := Lib.hid (HL4.out.drawn hd.grown hb2)
 have HD5 := Lib.hid (HD4.out.trans hd)
 have HC5 := Lib.hid (HC1.out.below (HD5.out.below hs1))
 have hs5 := HD5.out.grown.size
 clear hd HO4 HL4 HD4 HC4 hd0 hd1
 go_wp2_with fail
 refine (l6_choice w.heap.size b a n c w5 hn HC5.out HD5.out.cur (by omega)).mono ?_
 rintro e w6 ⟨g3, q3, ps, rfl, hp3, hpz, hpo, hd⟩
 have HO6 := Lib.hid (IT.is_of_row (own_hdC HO5.out hd.grown hlt))
 have HL6b := Lib.hid (HL5.out.drawn hd.grown hb2)
 have HP6 := Lib.hid (PK.is_of_row hpo)
 have HDF := Lib.hid (HB1.out.trans ((HD5.out.trans hd).below hs1))
 clear hd HO5 HL5 HD5 HC5 hpo hpz HC1 HB1 HU
 go_wp2_with fail
 ((try simp only [Exit.inBlock, Exit.then]); refine bodyPost_ret (results_six rfl _ _ _) rfl ?_)
 exact ⟨p, q, l, p2, q2, ls, s, z, d, g3, q3, ps, rfl, HL6, HL9, Lib.hid hp3, HZ, HZ2, Lib.hid ⟨hz0, hz1⟩, HO6, Lib.hid ⟨_, _, HL6b.out.sl⟩, HP6, HDF⟩
end Go.Proofs.YtmnncinpepeocaaGreat

namespace Go.Proofs.YtmnncinpepeocaaGreat
open Go.RowKit


set_option maxRecDepth 100000 in
set_option maxHeartbeats 2000000 in
theorem draw_partsOf (a : Option Addr) (n c : Nat) (w : World) (hn : n ≤ 1048576) (hcode : CodeAt w.heap.size w a n) :
 Calls Tryz.prog 16 #[.slice a n c] w (DrewEX w) := by
 have HC := Lib.hid hcode
 clear hcode
 go_enter Tryz.func16, Tryz.ntmps16
 go_wp2_with fail
 refine (l1_new a n c _ hn HC.out).mono ?_
 rintro e w1 ⟨b, rfl, hcur, hb⟩
 have HC1 := Lib.hid (HC.out.below hb)
 have HB1 := Lib.hid hb
 have HU := Lib.hid hcur
 have hs1 := hb.size
 have hlt := hcur.lt
 clear hb hcur
 go_wp2_with fail
 refine (l10_case b a n c w.heap.size w1 hn HC1.out HU.out hs1).mono ?_
 rintro e w2 ⟨p, q, l, p2, q2, ls, s, wm, rfl, HL6, HL9, HZ, HZ2, HO2, HL2, HM, HD2⟩
 have HC2 := Lib.hid (HC1.out.below (HD2.out.below hs1))
 have hs2 := HD2.out.grown.size
 have hb2 : b < wm.heap.size := by have := HM.out; omega
 go_wp2_with fail
 refine (l10_quantity w.heap.size b a n c w2 hn HC2.out HD2.out.cur (by omega)).mono ?_
 rintro e w4 ⟨z, rfl, hz0, hz1, hd⟩
 have HO4 := Lib.hid (own_hdC HO2.out hd.grown hlt)
 have HL4 := Lib.hid (HL2.out.drawn hd.grown hb2)
 have HD4 := Lib.hid (HD2.out.trans hd)
 have HC4 := Lib.hid (HC1.out.below (HD4.out.below hs1))
 have hs4 := HD4.out.grown.size
 clear hd HO2 HL2 HD2 HC2
 go_wp2_with fail
 refine (l4_day w.heap.size b a n c w4 hn HC4.out HD4.out.cur (by omega)).mono ?_
 rintro e w5 ⟨d, rfl, hd0, hd1, hd⟩
 have HO5 := Lib.hid (own_hdC HO4.out hd.grown hlt)
 have HL5 := Lib.hid (HL4.out.drawn hd.grown hb2)
 have HD5 := Lib.hid (HD4.out.trans hd)
 have HC5 := Lib.hid (HC1.out.below (HD5.out.below hs1))
 have hs5 := HD5.out.grown.size
 clear hd HO4 HL4 HD4 HC4 hd0 hd1
 go_wp2_with fail
 refine (l6_choice w.heap.size b a n c w5 hn HC5.out HD5.out.cur (by omega)).mono ?_
 rintro e w6 ⟨g3, q3, ps, rfl, hp3, hpz, hpo, hd⟩
 have HO6 := Lib.hid (IT.is_of_row (own_hdC HO5.out hd.grown hlt))
 have HL6b := Lib.hid (HL5.out.drawn hd.grown hb2)
 have HP6 := Lib.hid (PK.is_of_row hpo)
 have HDF := Lib.hid (HB1.out.trans ((HD5.out.trans hd).below hs1))
 clear hd HO5 HL5 HD5 HC5 hpo hpz HC1 HB1 HU
 go_wp2_with fail
 ((try simp only [Exit.inBlock, Exit.then]); refine bodyPost_ret (results_six rfl _ _ _) rfl ?_)
 exact ⟨p, q, l, p2, q2, ls, s, z, d, g3, q3, ps, rfl, HL6, HL9, Lib.hid hp3, HZ, HZ2, Lib.hid ⟨hz0, hz1⟩, HO6, Lib.hid ⟨_, _, HL6b.out.sl⟩, HP6, HDF⟩
end Go.Proofs.YtmnncinpepeocaaGreat
