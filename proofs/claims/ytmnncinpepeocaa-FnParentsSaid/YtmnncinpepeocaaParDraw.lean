/-
  What DrawParentsOf draws: a catalog, lines, a part, a day, a choice.
-/
import Derived.Test.YtmnncinpepeocaaSzDraw
import Derived.Test.YtmnncinpepeocaaDayDraw
import Derived.Test.YtmnncinpepeocaaCondChoice
import Derived.Test.YtmnncinpepeocaaBuRec
import Derived.Test.YtmnncinpepeocaaBuA
import Derived.WalkKit
import Derived.WalkSpells
import Derived.WalkSmall
import Derived.Lib.Hide
namespace Go.Proofs.Ytmnncinpepeocaa
open Go.RowKit

theorem results_five {fn : Func} {t u v x y : Tmp} (h : fn.results = #[.tmp t, .tmp u, .tmp v, .tmp x, .tmp y]) (tmps : Array Value) (P : Program) (w : World) :
    (results fn tmps).run P w = .ok (.tuple #[tmps.getD t undef, tmps.getD u undef, tmps.getD v undef, tmps.getD x undef, tmps.getD y undef]) w := by
  simp [results, h]
/-- What is drawn. -/
def DrewPA (w : World) (e : Ending) (w' : World) : Prop := ∃ (p : Option Addr) (q : Nat) (l : List IT) (p2 : Option Addr) (q2 : Nat) (ls : List BL) (s : ByteArray) (d : Int) (g3 q3 : Nat) (ps : List PK), e = .returned (.tuple #[.slice p l.length q, .slice p2 ls.length q2, .string s, .int .i64 d, .slice (some ⟨g3, 0, none⟩) ps.length q3]) ∧ Hid (l.length ≤ 6) ∧ Hid (ls.length ≤ 9) ∧ Hid (ps.length ≤ 3) ∧ Hid (∀ r, r ∈ l → IT.Sz r) ∧ Hid (BX.Sz ls) ∧ Hid (IT.Is w' (.slice p l.length q) l) ∧ Hid (∃ lo hi, BX lo hi w' (.slice p2 ls.length q2) ls) ∧ Hid (PK.Is w' (.slice (some ⟨g3, 0, none⟩) ps.length q3) ps) ∧ Hid (Below w.heap.size w w')

set_option maxRecDepth 100000 in
set_option maxHeartbeats 2000000 in
theorem draw_parents (a : Option Addr) (n c : Nat) (w : World) (hn : n ≤ 1048576) (hcode : CodeAt w.heap.size w a n) :
    Calls Try.prog 9 #[.slice a n c] w (DrewPA w) := by
  have HC := Lib.hid hcode
  clear hcode
  go_enter Try.func9, Try.ntmps9
  go_wp2_with fail
  refine (l1_new a n c _ hn HC.out).mono ?_
  rintro e w1 ⟨b, rfl, hcur, hb⟩
  have HC1 := Lib.hid (HC.out.below hb)
  have HB1 := Lib.hid hb
  have HU := Lib.hid hcur
  have hs1 := hb.size
  have hlt := hcur.lt
  clear hb hcur
  go_wp2_with fail
  refine (l8_catalog w.heap.size b a n c w1 hn HC1.out HU.out hs1).mono ?_
  rintro e w2 ⟨p, q, l, rfl, ⟨hl6, -⟩, HZ, HO, HD⟩
  have HC2 := Lib.hid (HC1.out.below (HD.out.below hs1))
  have hs2 := HD.out.grown.size
  go_wp2_with fail
  refine (l9_bills w.heap.size b a n c w2 (.slice p l.length q) l w1.heap.size hn HC2.out HD.out.cur (by omega) HO.out hlt hl6 HZ.out).mono ?_
  rintro e w3 ⟨p2, q2, ls, rfl, hl9, HZ2, HO2, HD2⟩
  have HO3 := Lib.hid (own_hdC HO.out HD2.out.grown hlt)
  have HD3 := Lib.hid (HD.out.trans HD2.out)
  have HC3 := Lib.hid (HC1.out.below (HD3.out.below hs1))
  have hs3 := HD3.out.grown.size
  have hb2 : b < w2.heap.size := by omega
  clear HO HD HD2 HC2
  go_wp2_with fail
  refine (l1_code w.heap.size b a n c w3 hn HC3.out HD3.out.cur (by omega)).mono ?_
  rintro e w4 ⟨s, rfl, hs, hd⟩
  have HO4 := Lib.hid (own_hdC HO3.out hd.grown hlt)
  have HL4 := Lib.hid (HO2.out.drawn hd.grown hb2)
  have HD4 := Lib.hid (HD3.out.trans hd)
  have HC4 := Lib.hid (HC1.out.below (HD4.out.below hs1))
  have hs4 := HD4.out.grown.size
  clear hd HO3 HO2 HD3 HC3
  go_wp2_with fail
  refine (l4_day w.heap.size b a n c w4 hn HC4.out HD4.out.cur (by omega)).mono ?_
  rintro e w5 ⟨d, rfl, hd0, hd1, hd⟩
  have HO5 := Lib.hid (own_hdC HO4.out hd.grown hlt)
  have HL5 := Lib.hid (HL4.out.drawn hd.grown hb2)
  have HD5 := Lib.hid (HD4.out.trans hd)
  have HC5 := Lib.hid (HC1.out.below (HD5.out.below hs1))
  have hs5 := HD5.out.grown.size
  clear hd HO4 HL4 HD4 HC4 hd0 hd1
  go_wp2_with fail
  refine (l6_choice w.heap.size b a n c w5 hn HC5.out HD5.out.cur (by omega)).mono ?_
  rintro e w6 ⟨g3, q3, ps, rfl, hp3, hpz, hpo, hd⟩
  have HO6 := Lib.hid (IT.is_of_row (own_hdC HO5.out hd.grown hlt))
  have HL6 := Lib.hid (HL5.out.drawn hd.grown hb2)
  have HP6 := Lib.hid (PK.is_of_row hpo)
  have HDF := Lib.hid (HB1.out.trans ((HD5.out.trans hd).below hs1))
  clear hd HO5 HL5 HD5 HC5 hpo hpz HC1 HB1 HU
  go_wp2_with fail
  ((try simp only [Exit.inBlock, Exit.then]); refine bodyPost_ret (results_five rfl _ _ _) rfl ?_)
  exact ⟨p, q, l, p2, q2, ls, s, d, g3, q3, ps, rfl, Lib.hid hl6, Lib.hid hl9, Lib.hid hp3, Lib.hid (sz_items HZ.out), Lib.hid (sz_lines HZ2.out hl9), HO6, Lib.hid ⟨_, _, HL6.out.sl⟩, HP6, HDF⟩
end Go.Proofs.Ytmnncinpepeocaa
