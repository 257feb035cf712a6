/-
  The program's Holds: the methods of conditions.
-/
import Derived.Test.YteadmanmhgdhoaaGreatCondImB
import Derived.Test.YteadmanmhgdhoaaGreatHasP
import Derived.WalkKit
import Derived.WalkSpells
import Derived.WalkSmall
import Derived.BigQuiet
import Derived.Deep.QuietTactic
import Derived.Deep.DeepCutAuto
import Derived.Deep.RegionHeld3
import Derived.Lib.Hide
namespace Go.Proofs.YteadmanmhgdhoaaGreat
open Go.RowKit

/-- The methods of a condition. -/
def CT.fH : CT → FuncId
  | .tt => 174
  | .is _ _ => 156
  | .no _ => 162
  | .and _ _ => 166
  | .or _ _ => 170
theorem meth_holds (t : CT) (w : World) : (method 307 t.ty t.pay "loop.example/g03407/impl.holds").run Tryz.prog w = .ok (t.fH, t.pay) w := by
  cases t <;> kernel_rfl
theorem call_holds (t : CT) (args : Array Value) (w : World) : (callFunc t.fH args).run Tryz.prog w = .ok (.enter t.fH args) w := by
  cases t <;> kernel_rfl
/-- A condition's holds. -/
def HoldsC (t : CT) : Prop := ∀ (v : Value) (ps : List PK) (w : World), PK.Is w v ps → ps.length ≤ maxLen → Calls Tryz.prog t.fH #[t.pay, v] w (BoolRes (t.ev ps) w)

set_option maxRecDepth 100000 in
set_option maxHeartbeats 1000000 in
theorem holds_tt : HoldsC .tt := by
  intro v ps w h hm
  clear h
  unfold CT.fH CT.pay
  go_enter Tryz.func174, Tryz.ntmps174
  go_wp2_with fail
  go_ret
  exact ⟨rfl, (Below.refl _ _).alloc (Nat.le_refl _) _⟩

set_option maxRecDepth 100000 in
set_option maxHeartbeats 1000000 in
theorem holds_is (o u : ByteArray) : HoldsC (.is o u) := by
  intro v ps w h hm
  have HB0 : Below w.heap.size w (w.alloc (.cells #[.string o, .string u] 178)) := (Below.refl _ _).alloc (Nat.le_refl _) _
  have HI := Lib.hid (im_hasP v ps o u (w.alloc (.cells #[.string o, .string u] 178)) (h.below HB0) hm)
  have HE : Hid ((CT.is o u).ev ps = hasP ps o u) := Lib.hid rfl
  clear h
  rw [HE.out]
  unfold CT.fH CT.pay
  go_enter Tryz.func156, Tryz.ntmps156
  go_wp2_with fail
  refine HI.out.mono ?_
  rintro e w1 ⟨rfl, hb⟩
  have HB := Lib.hid (HB0.trans (hb.mono HB0.size))
  clear hb HB0
  go_wp2_with fail
  go_ret
  exact ⟨rfl, HB.out⟩

set_option maxRecDepth 100000 in
set_option maxHeartbeats 1000000 in
theorem holds_no (t : CT) (ih : HoldsC t) : HoldsC (.no t) := by
  intro v ps w h hm
  have HB0 : Below w.heap.size w (w.alloc (.cells #[.iface t.ty t.pay] 180)) := (Below.refl _ _).alloc (Nat.le_refl _) _
  have HI := Lib.hid (ih v ps (w.alloc (.cells #[.iface t.ty t.pay] 180)) (h.below HB0) hm)
  have HE : Hid ((CT.no t).ev ps = !t.ev ps) := Lib.hid rfl
  clear h
  have hme := meth_holds t
  have hca := call_holds t
  unfold CT.fH CT.pay
  go_enter Tryz.func162, Tryz.ntmps162
  go_wp2_with fail
  refine HI.out.mono ?_
  rintro e w1 ⟨rfl, hb⟩
  have HB := Lib.hid (HB0.trans (hb.mono HB0.size))
  clear hb HB0 hme hca
  obtain ⟨y, hy⟩ : ∃ y, t.ev ps = y := ⟨_, rfl⟩
  rw [hy]
  have HY := Lib.hid hy
  clear hy
  cases y
  all_goals
    go_wp2_with fail
    go_ret
    exact ⟨by rw [HE.out, HY.out]; rfl, HB.out⟩

set_option maxRecDepth 100000 in
set_option maxHeartbeats 1000000 in
theorem holds_and (a b : CT) (iha : HoldsC a) (ihb : HoldsC b) : HoldsC (.and a b) := by
  intro v ps w h hm
  have HG := heap_alloc_new w (.cells #[.iface a.ty a.pay, .iface b.ty b.pay] 182)
  have HB0 : Below w.heap.size w (w.alloc (.cells #[.iface a.ty a.pay, .iface b.ty b.pay] 182)) := (Below.refl _ _).alloc (Nat.le_refl _) _
  have HIA := Lib.hid (iha v ps (w.alloc (.cells #[.iface a.ty a.pay, .iface b.ty b.pay] 182)) (h.below HB0) hm)
  have HIB : Hid (∀ W, Below w.heap.size w W → Calls Tryz.prog b.fH #[b.pay, v] W (BoolRes (b.ev ps) W)) := Lib.hid (fun W hW => ihb v ps W (h.below hW) hm)
  have HE : Hid ((CT.and a b).ev ps = (a.ev ps && b.ev ps)) := Lib.hid rfl
  clear h
  have hme := meth_holds a
  have hca := call_holds a
  have hme2 := meth_holds b
  have hca2 := call_holds b
  unfold CT.fH CT.pay
  go_enter Tryz.func166, Tryz.ntmps166
  go_wp2_with fail
  refine HIA.out.mono ?_
  rintro e w1 ⟨rfl, hb⟩
  have HG := blk_below HG hb
  have HB := Lib.hid (HB0.trans (hb.mono HB0.size))
  clear hb HB0
  obtain ⟨y, hy⟩ : ∃ y, a.ev ps = y := ⟨_, rfl⟩
  obtain ⟨z, hz⟩ : ∃ z, b.ev ps = z := ⟨_, rfl⟩
  rw [hz] at HIB
  rw [hy]
  have HYA := Lib.hid hy
  have HZB := Lib.hid hz
  clear hy hz
  cases y with
  | false =>
    go_wp2_with fail
    go_ret
    exact ⟨by rw [HE.out, HYA.out]; rfl, HB.out⟩
  | true =>
    have g1 := cell_of_row _ _ 1 _ _ _ HG
    go_wp2_with fail
    refine (HIB.out _ HB.out).mono ?_
    rintro e w2 ⟨rfl, hb⟩
    have HB2 := Lib.hid (HB.out.trans (hb.mono HB.out.size))
    clear hb g1 hme hca hme2 hca2
    go_wp2_with fail
    go_ret
    exact ⟨by rw [HE.out, HYA.out, HZB.out]; cases z <;> rfl, HB2.out⟩

set_option maxRecDepth 100000 in
set_option maxHeartbeats 1000000 in
theorem holds_or (a b : CT) (iha : HoldsC a) (ihb : HoldsC b) : HoldsC (.or a b) := by
  intro v ps w h hm
  have HG := heap_alloc_new w (.cells #[.iface a.ty a.pay, .iface b.ty b.pay] 183)
  have HB0 : Below w.heap.size w (w.alloc (.cells #[.iface a.ty a.pay, .iface b.ty b.pay] 183)) := (Below.refl _ _).alloc (Nat.le_refl _) _
  have HIA := Lib.hid (iha v ps (w.alloc (.cells #[.iface a.ty a.pay, .iface b.ty b.pay] 183)) (h.below HB0) hm)
  have HIB : Hid (∀ W, Below w.heap.size w W → Calls Tryz.prog b.fH #[b.pay, v] W (BoolRes (b.ev ps) W)) := Lib.hid (fun W hW => ihb v ps W (h.below hW) hm)
  have HE : Hid ((CT.or a b).ev ps = (a.ev ps || b.ev ps)) := Lib.hid rfl
  clear h
  have hme := meth_holds a
  have hca := call_holds a
  have hme2 := meth_holds b
  have hca2 := call_holds b
  unfold CT.fH CT.pay
  go_enter Tryz.func170, Tryz.ntmps170
  go_wp2_with fail
  refine HIA.out.mono ?_
  rintro e w1 ⟨rfl, hb⟩
  have HG := blk_below HG hb
  have HB := Lib.hid (HB0.trans (hb.mono HB0.size))
  clear hb HB0
  obtain ⟨y, hy⟩ : ∃ y, a.ev ps = y := ⟨_, rfl⟩
  obtain ⟨z, hz⟩ : ∃ z, b.ev ps = z := ⟨_, rfl⟩
  rw [hz] at HIB
  rw [hy]
  have HYA := Lib.hid hy
  have HZB := Lib.hid hz
  clear hy hz
  cases y with
  | true =>
    go_wp2_with fail
    go_ret
    exact ⟨by rw [HE.out, HYA.out]; rfl, HB.out⟩
  | false =>
    have g1 := cell_of_row _ _ 1 _ _ _ HG
    go_wp2_with fail
    refine (HIB.out _ HB.out).mono ?_
    rintro e w2 ⟨rfl, hb⟩
    have HB2 := Lib.hid (HB.out.trans (hb.mono HB.out.size))
    clear hb g1 hme hca hme2 hca2
    go_wp2_with fail
    go_ret
    exact ⟨by rw [HE.out, HYA.out, HZB.out]; cases z <;> rfl, HB2.out⟩

theorem im_holds : ∀ t : CT, HoldsC t
  | .tt => holds_tt
  | .is o u => holds_is o u
  | .no t => holds_no t (im_holds t)
  | .and a b => holds_and a b (im_holds a) (im_holds b)
  | .or a b => holds_or a b (im_holds a) (im_holds b)

set_option maxRecDepth 100000 in
set_option maxHeartbeats 1000000 in
theorem im_HoldsC (v v2 : Value) (l : List CN) (ps : List PK) (w : World) (h : CN.Is w v l) (hs : ∀ r, r ∈ l → CN.Sz r) (hm : l.length ≤ maxLen) (h2 : PK.Is w v2 ps) (hm2 : ps.length ≤ maxLen) :
    Calls Tryz.prog 110 #[v, v2] w (BoolRes (holdsB l ps) w) := by
  have HT := Lib.hid (im_tree v l w h hs hm)
  have HP := Lib.hid h2
  clear h h2 hs
  go_enter Tryz.func110, Tryz.ntmps110
  go_wp2_with fail
  refine HT.out.mono ?_
  rintro e w1 ⟨h | h, hb⟩
  · obtain ⟨t, ht, hl, h30, rfl⟩ := h
    have HY : Hid (holdsB l ps = t.ev ps) := Lib.hid (by rw [hl]; exact holdsB_yes ps ht h30)
    have HB := Lib.hid hb
    have HI := Lib.hid (im_holds t v2 ps w1 (HP.out.below hb) hm2)
    have hme := meth_holds t
    have hca := call_holds t
    clear hb hl h30 ht HT
    unfold CT.iv
    go_wp2_with fail
    refine HI.out.mono ?_
    rintro e w2 ⟨rfl, hb⟩
    have HB2 := Lib.hid (HB.out.trans (hb.mono HB.out.size))
    clear hb hme hca
    go_wp2_with fail
    go_ret
    exact ⟨by rw [HY.out]; rfl, HB2.out⟩
  · obtain ⟨hl, rfl⟩ := h
    have HY := Lib.hid (holdsB_no (ps := ps) hl)
    have HB := Lib.hid hb
    clear hb hl HT
    go_wp2_with fail
    go_ret
    exact ⟨by rw [HY.out]; rfl, HB.out⟩

end Go.Proofs.YteadmanmhgdhoaaGreat
