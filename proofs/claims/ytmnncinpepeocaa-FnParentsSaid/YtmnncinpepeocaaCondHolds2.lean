/-
  The model's Holds.
-/
import Derived.Test.YtmnncinpepeocaaCondHolds
import Derived.Test.YtmnncinpepeocaaRows
import Derived.Test.YtmnncinpepeocaaBuCond
import Derived.Test.YtmnncinpepeocaaCondSpec
import Derived.Test.YtmnncinpepeocaaBuA
import Derived.WalkKit
import Derived.WalkSpells
import Derived.WalkSmall
import Derived.Laws.AppendOwn
import Derived.BigQuiet
import Derived.Deep.QuietTactic
import Derived.Deep.DeepCutAuto
import Derived.Deep.RegionHeld3
import Derived.Lib.Hide
namespace Go.Proofs.Ytmnncinpepeocaa
open Go.RowKit


set_option maxRecDepth 100000 in
set_option maxHeartbeats 1000000 in
theorem spec_holds (v v2 : Value) (l : List CN) (ps : List PK) (w : World) (h : CN.Is w v l) (hs : ∀ r, r ∈ l → CN.Sz r) (hl : l.length ≤ maxLen) (h2 : PK.Is w v2 ps) (hm : ps.length ≤ maxLen) :
    Calls Try.prog 13 #[v, v2] w (BoolRes (holdsB l ps) w) := by
  have HC := Lib.hid (spec_isCond v l w h hs hl)
  have HX := Lib.hid h
  have HP := Lib.hid h2
  have HM := Lib.hid hm
  obtain ⟨a', c', rfl⟩ := h.slice
  obtain ⟨a2, c2', rfl⟩ := h2.slice
  clear h h2 hs hl hm
  rcases Bool.eq_false_or_eq_true (condB l) with hc | hc
  · obtain ⟨t, hok, rfl, hln⟩ := cond_tree (condB_iff.1 hc)
    have HT := Lib.hid (holdsB_yes ps hok hln)
    have HOK := Lib.hid hok
    have HLN := Lib.hid hln
    rw [hc] at HC
    clear hc hok hln
    go_enter Try.func13, Try.ntmps13
    go_wp2_with fail
    refine HC.out.mono ?_
    rintro e w1 ⟨rfl, hb⟩
    have HB1 := Lib.hid hb
    clear hb
    go_wp2_with fail
    refine (spec_eval _ _ t ps _ HOK.out HLN.out (HX.out.below HB1.out) (HP.out.below HB1.out) HM.out).mono ?_
    rintro e w2 ⟨rfl, hb⟩
    have HB2 := HB1.out.trans (hb.mono HB1.out.size)
    clear hb
    go_wp2_with fail
    go_ret
    exact ⟨by rw [HT.out]; rfl, HB2⟩
  · have HT := Lib.hid (holdsB_no (ps := ps) hc)
    rw [hc] at HC
    clear hc
    go_enter Try.func13, Try.ntmps13
    go_wp2_with fail
    refine HC.out.mono ?_
    rintro e w1 ⟨rfl, hb⟩
    go_wp2_with fail
    go_ret
    exact ⟨by rw [HT.out]; rfl, hb⟩
end Go.Proofs.Ytmnncinpepeocaa
