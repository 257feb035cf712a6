/-
  What DrawExplosion and DrawPartsOf draw.
-/
import Derived.Test.YteadmanmhgdhoaaQty10
import Derived.Test.YteadmanmhgdhoaaBuRec
import Derived.Test.YteadmanmhgdhoaaBuDr
import Derived.Test.YteadmanmhgdhoaaBuA
import Derived.WalkKit
import Derived.WalkSpells
import Derived.WalkSmall
import Derived.Lib.Hide
namespace Go.Proofs.Yteadmanmhgdhoaa
open Go.RowKit

theorem results_six {fn : Func} {t u v x y z : Tmp} (h : fn.results = #[.tmp t, .tmp u, .tmp v, .tmp x, .tmp y, .tmp z]) (tmps : Array Value) (P : Program) (w : World) :
    (results fn tmps).run P w = .ok (.tuple #[tmps.getD t undef, tmps.getD u undef, tmps.getD v undef, tmps.getD x undef, tmps.getD y undef, tmps.getD z undef]) w := by
  simp [results, h]
/-- What is drawn. -/
def DrewEX (w : World) (e : Ending) (w' : World) : Prop := ∃ (p : Option Addr) (q : Nat) (l : List IT) (p2 : Option Addr) (q2 : Nat) (ls : List BL) (s : ByteArray) (z d : Int) (g3 q3 : Nat) (ps : List PK), e = .returned (.tuple #[.slice p l.length q, .slice p2 ls.length q2, .string s, .int .i64 z, .int .i64 d, .slice (some ⟨g3, 0, none⟩) ps.length q3]) ∧ Hid (l.length ≤ 6) ∧ Hid (ls.length ≤ 9) ∧ Hid (ps.length ≤ 3) ∧ Hid (∀ r, r ∈ l → IT.Sz r) ∧ Hid (BX.Sz ls) ∧ Hid (-9223372036854775808 ≤ z ∧ z ≤ 9223372036854775807) ∧ Hid (IT.Is w' (.slice p l.length q) l) ∧ Hid (∃ lo hi, BX lo hi w' (.slice p2 ls.length q2) ls) ∧ Hid (PK.Is w' (.slice (some ⟨g3, 0, none⟩) ps.length q3) ps) ∧ Hid (Below w.heap.size w w')

set_option maxRecDepth 100000 in
set_option maxHeartbeats 2000000 in
theorem draw_explosion (a : Option Addr) (n c : Nat) (w : World) (hn : n ≤ 1048576) (hcode : CodeAt w.heap.size w a n) :
    Calls Try.prog 6 #[.slice a n c] w (DrewEX w) := by
  have HC := Lib.hid hcode
  clear hcode
  go_enter Try.func6, Try.ntmps6
  go_wp2_with fail
  refine (l1_new a n c _ hn HC.out).mono ?_
  rintro e w1 ⟨b, rfl, hcur, hb⟩
  have HC1 := Lib.hid (HC.out.below hb)
  have HB1 := Lib.hid hb
  have HU := Lib.hid hcur
  have hs1 := hb.size
  have hlt := hcur.lt
  clear hb hcur
  go_wp2_with fail
  refine (l10_case b a n c w.heap.size w1 hn HC1.out HU.out hs1).mono ?_
  rintro e w2 ⟨p, q, l, p2, q2, ls, s, wm, rfl, HL6, HL9, HZ, HZ2, HO2, HL2, HM, HD2⟩
  have HC2 := Lib.hid (HC1.out.below (HD2.out.below hs1))
  have hs2 := HD2.out.grown.size
  have hb2 : b < wm.heap.size := by have := HM.out; omega
  go_wp2_with fail
  refine (l10_quantity w.heap.size b a n c w2 hn HC2.out HD2.out.cur (by omega)).mono ?_
  rintro e w4 ⟨z, rfl, hz0, hz1, hd⟩
  have HO4 := Lib.hid (own_hdC HO2.out hd.grown hlt)
  have HL4 := Lib.hid (HL2.out.drawn hd.grown hb2)
  have HD4 := Lib.hid (HD2.out.trans hd)
  have HC4 := Lib.hid (HC1.out.below (HD4.out.below hs1))
  have hs4 := HD4.out.grown.size
  clear hd HO2 HL2 HD2 HC2
  go_wp2_with fail
  refine (l4_day w.heap.size b a n c w4 hn HC4.out HD4.out.cur (by omega)).mono ?_
  rintro e w5 ⟨d, rfl, hd0, hd1, hd⟩
  have HO5 := Lib.hid (own_hdC HO4.out hd.grown hlt)
  have HL5 := Lib.hid (HL4.out.drawn hd.grown hb2)
  have HD5 := Lib.hid (HD4.out.trans hd)
  have HC5 := Lib.hid (HC1.out.below (HD5.out.below hs1))
  have hs5 := HD5.out.grown.size
  clear hd HO4 HL4 HD4 HC4 hd0 hd1
  go_wp2_with fail
  refine (l6_choice w.heap.size b a n c w5 hn HC5.out HD5.out.cur (by omega)).mono ?_
  rintro e w6 ⟨g3, q3, ps, rfl, hp3, hpz, hpo, hd⟩
  have HO6 := Lib.hid (IT.is_of_row (own_hdC HO5.out hd.grown hlt))
  have HL6b := Lib.hid (HL5.out.drawn hd.grown hb2)
  have HP6 := Lib.hid (PK.is_of_row hpo)
  have HDF := Lib.hid (HB1.out.trans ((HD5.out.trans hd).below hs1))
  clear hd HO5 HL5 HD5 HC5 hpo hpz HC1 HB1 HU
  go_wp2_with fail
  ((try simp only [Exit.inBlock, Exit.then]); refine bodyPost_ret (results_six rfl _ _ _) rfl ?_)
  exact ⟨p, q, l, p2, q2, ls, s, z, d, g3, q3, ps, rfl, HL6, HL9, Lib.hid hp3, HZ, HZ2, Lib.hid ⟨hz0, hz1⟩, HO6, Lib.hid ⟨_, _, HL6b.out.sl⟩, HP6, HDF⟩
end Go.Proofs.Yteadmanmhgdhoaa
