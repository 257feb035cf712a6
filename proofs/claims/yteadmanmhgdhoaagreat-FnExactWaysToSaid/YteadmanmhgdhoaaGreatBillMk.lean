/-
 The marks in bills of material, from any number on.
-/
import Derived.Test.YteadmanmhgdhoaaGreatBLMk
import Derived.Test.YteadmanmhgdhoaaGreatBuA2
import Derived.WalkKit
import Derived.WalkSpells
import Derived.WalkSmall
import Derived.Deep.DeepCutAuto
import Derived.Lib.Hide
namespace Go.Proofs.YteadmanmhgdhoaaGreat
open Go.RowKit

theorem BX.markI (base top : Nat) (v : Value) (x : Int) (k : Nat) (rs : List NR) (w : World) (hx : x = (k : Int)) (h : OwnN 6 5 3 94 145 (base) (top) w v rs) (hsm : ∀ j (hj : j < rs.length), (rs[j]'hj).n ≤ 1048577) (hn : rs.length ≤ 1048577) (hk0 : 0 < k) (hk1 : BX.pos k rs rs.length ≤ 1000000000) :
 Calls Tryz.prog 31 #[v, .int .i64 x] w fun e w' => ∃ rs', e = .returned (.int .i64 ((BX.pos k rs rs.length : Nat) : Int)) ∧ Hid (BX.IsMk k rs rs') ∧ Hid (OwnN 6 5 3 94 145 (base) (top) w' v rs') ∧ Hid (ChgIn base top w w') := by
 subst hx
 exact BX.markO base top v k rs w h hsm hn hk0 hk1
theorem BX.RecN.sm {xs : List BL} {rs : List NR} (h : BX.RecN xs rs) (hm : BX.Sm xs) : rs.length ≤ 1048577 ∧ ∀ j (hj : j < rs.length), (rs[j]'hj).n ≤ 1048577 := by
 refine ⟨by have := hm.1; rw [h.1]; omega, fun j hj => ?_⟩
 have hx : j < xs.length := by rw [← h.1]; exact hj
 obtain ⟨u, hu⟩ := h.2 j hx hj
 rw [hu]
 have h1 : (xs[j]'hx).whn.length ≤ 1048576 := hm.2 _ (List.getElem_mem hx)
 show (xs[j]'hx).whn.length ≤ 1048577
 omega
end Go.Proofs.YteadmanmhgdhoaaGreat
