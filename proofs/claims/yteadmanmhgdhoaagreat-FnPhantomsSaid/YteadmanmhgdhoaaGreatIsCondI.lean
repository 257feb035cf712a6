/-
  The program's IsCond.
-/
import Derived.Test.YteadmanmhgdhoaaGreatCondImB
import Derived.WalkKit
import Derived.WalkSpells
import Derived.WalkSmall
import Derived.BigQuiet
import Derived.Deep.QuietTactic
import Derived.Deep.DeepCutAuto
import Derived.Lib.Hide
namespace Go.Proofs.YteadmanmhgdhoaaGreat
open Go.RowKit

set_option maxRecDepth 100000 in
set_option maxHeartbeats 1000000 in
theorem im_isCondC (v : Value) (l : List CN) (w : World) (h : CN.Is w v l) (hs : ∀ r, r ∈ l → CN.Sz r) (hm : l.length ≤ maxLen) :
    Calls Tryz.prog 133 #[v] w (BoolRes (condB l) w) := by
  have HT := Lib.hid (im_tree v l w h hs hm)
  obtain ⟨a, c, rfl⟩ := h.slice
  clear h hs
  go_enter Tryz.func133, Tryz.ntmps133
  go_wp2_with fail
  refine HT.out.mono ?_
  rintro e w1 ⟨h | h, hb⟩
  · obtain ⟨t, ht, hl, h30, rfl⟩ := h
    have HY : Hid (condB l = true) := Lib.hid (by rw [hl]; exact condB_yes (cond_post ht h30))
    have HB := Lib.hid hb
    clear hb hl h30 ht HT
    go_wp2_with fail
    go_ret
    exact ⟨by rw [HY.out]; rfl, HB.out⟩
  · obtain ⟨hl, rfl⟩ := h
    have HY := Lib.hid hl
    have HB := Lib.hid hb
    clear hb hl HT
    go_wp2_with fail
    go_ret
    exact ⟨by rw [HY.out]; rfl, HB.out⟩

end Go.Proofs.YteadmanmhgdhoaaGreat
