/-
  What DrawLevelsOf draws: a catalog and lines.
-/
import Derived.Test.YtkjnmldjgckbcaaBillDraw
import Derived.Test.YtkjnmldjgckbcaaCatDraw
import Derived.Test.YtkjnmldjgckbcaaBLOwn
import Derived.Test.YtkjnmldjgckbcaaBuRec
import Derived.Test.YtkjnmldjgckbcaaBuA
import Derived.WalkKit
import Derived.WalkSpells
import Derived.WalkSmall
import Derived.Lib.Hide
namespace Go.Proofs.Ytkjnmldjgckbcaa
open Go.RowKit

theorem sz_items {l : List IT} (h : ∀ r, r ∈ l → r.code.size ≤ 1000 ∧ r.unt.size ≤ 1000) : ∀ r, r ∈ l → IT.Sz r := fun r hr => by
  have := h r hr
  unfold IT.Sz maxLen
  omega
theorem sz_lines {ls : List BL} (h : ∀ x, x ∈ ls → BLS x) (hl : ls.length ≤ 9) : BX.Sz ls := by
  refine ⟨by unfold maxLen; omega, fun x hx => ?_⟩
  obtain ⟨h1, h2, h3, h4⟩ := h x hx
  refine ⟨by unfold maxLen; omega, by unfold maxLen; omega, by unfold maxLen; omega, fun r hr => ?_⟩
  have := h4 r hr
  unfold CN.Sz maxLen
  omega
/-- A catalog and lines, drawn. -/
def DrewCB (w : World) (e : Ending) (w' : World) : Prop := ∃ (p : Option Addr) (q : Nat) (l : List IT) (p2 : Option Addr) (q2 : Nat) (ls : List BL), e = .returned (.tuple #[.slice p l.length q, .slice p2 ls.length q2]) ∧ Hid (l.length ≤ 6) ∧ Hid (ls.length ≤ 9) ∧ Hid (∀ r, r ∈ l → IT.Sz r) ∧ Hid (BX.Sz ls) ∧ Hid (IT.Is w' (.slice p l.length q) l) ∧ Hid (∃ lo hi, BX lo hi w' (.slice p2 ls.length q2) ls) ∧ Hid (Below w.heap.size w w')

set_option maxRecDepth 100000 in
set_option maxHeartbeats 2000000 in
theorem draw_levels (a : Option Addr) (n c : Nat) (w : World) (hn : n ≤ 1048576) (hcode : CodeAt w.heap.size w a n) :
    Calls Try.prog 10 #[.slice a n c] w (DrewCB w) := by
  have HC := Lib.hid hcode
  clear hcode
  go_enter Try.func10, Try.ntmps10
  go_wp2_with fail
  refine (l1_new a n c _ hn HC.out).mono ?_
  rintro e w1 ⟨b, rfl, hcur, hb⟩
  have HC1 := Lib.hid (HC.out.below hb)
  have HB1 := Lib.hid hb
  have HU := Lib.hid hcur
  have hs1 := hb.size
  have hlt := hcur.lt
  clear hb hcur
  go_wp2_with fail
  refine (l8_catalog w.heap.size b a n c w1 hn HC1.out HU.out hs1).mono ?_
  rintro e w2 ⟨p, q, l, rfl, hl6, HZ, HO, HD⟩
  have HC2 := Lib.hid (HC1.out.below (HD.out.below hs1))
  have hs2 := HD.out.grown.size
  go_wp2_with fail
  refine (l9_bills w.heap.size b a n c w2 (.slice p l.length q) l w1.heap.size hn HC2.out HD.out.cur (by omega) HO.out hlt hl6 HZ.out).mono ?_
  rintro e w3 ⟨p2, q2, ls, rfl, hl9, HZ2, HO2, HD2⟩
  have HOF := Lib.hid (IT.is_of_row (own_hdC HO.out HD2.out.grown hlt))
  have HDF := Lib.hid (HB1.out.trans ((HD.out.trans HD2.out).below hs1))
  clear HO HD HD2 HC2 HC1 HB1 HU
  go_wp2_with fail
  go_ret2
  exact ⟨p, q, l, p2, q2, ls, rfl, Lib.hid hl6, Lib.hid hl9, Lib.hid (sz_items HZ.out), Lib.hid (sz_lines HZ2.out hl9), HOF, Lib.hid ⟨_, _, HO2.out.sl⟩, HDF⟩
end Go.Proofs.Ytkjnmldjgckbcaa
