/-
  The program's Holds and FormatCond: the methods of conditions.
-/
import Derived.Test.YtghofgjlmfdnpaaCondImC
import Derived.WalkKit
import Derived.WalkSpells
import Derived.WalkSmall
import Derived.BigQuiet
import Derived.Deep.QuietTactic
import Derived.Deep.DeepCutAuto
import Derived.Deep.RegionHeld3
import Derived.Lib.Hide
namespace Go.Proofs.Ytghofgjlmfdnpaa
open Go.RowKit

/-- The methods of a condition. -/
def CT.fH : CT → FuncId
  | .tt => 144
  | .is _ _ => 122
  | .no _ => 129
  | .and _ _ => 134
  | .or _ _ => 140
def CT.fT : CT → FuncId
  | .tt => 147
  | .is _ _ => 125
  | .no _ => 132
  | .and _ _ => 137
  | .or _ _ => 143
def CT.fR : CT → FuncId
  | .tt => 146
  | .is _ _ => 124
  | .no _ => 131
  | .and _ _ => 136
  | .or _ _ => 142
theorem meth_holds (t : CT) (w : World) : (method 256 t.ty t.pay "loop.example/g03407/impl.holds").run Try.prog w = .ok (t.fH, t.pay) w := by
  cases t <;> kernel_rfl
theorem call_holds (t : CT) (args : Array Value) (w : World) : (callFunc t.fH args).run Try.prog w = .ok (.enter t.fH args) w := by
  cases t <;> kernel_rfl
theorem meth_text (t : CT) (w : World) : (method 256 t.ty t.pay "loop.example/g03407/impl.text").run Try.prog w = .ok (t.fT, t.pay) w := by
  cases t <;> kernel_rfl
theorem call_text (t : CT) (args : Array Value) (w : World) : (callFunc t.fT args).run Try.prog w = .ok (.enter t.fT args) w := by
  cases t <;> kernel_rfl
theorem meth_rank (t : CT) (w : World) : (method 256 t.ty t.pay "loop.example/g03407/impl.rank").run Try.prog w = .ok (t.fR, t.pay) w := by
  cases t <;> kernel_rfl
theorem call_rank (t : CT) (args : Array Value) (w : World) : (callFunc t.fR args).run Try.prog w = .ok (.enter t.fR args) w := by
  cases t <;> kernel_rfl
/-- A condition's holds. -/
def HoldsC (t : CT) : Prop := ∀ (v : Value) (ps : List PK) (w : World), PK.Is w v ps → ps.length ≤ maxLen → Calls Try.prog t.fH #[t.pay, v] w (BoolRes (t.ev ps) w)

set_option maxRecDepth 100000 in
set_option maxHeartbeats 1000000 in
theorem holds_tt : HoldsC .tt := by
  intro v ps w h hm
  clear h
  unfold CT.fH CT.pay
  go_enter Try.func144, Try.ntmps144
  go_wp2_with fail
  go_ret
  exact ⟨rfl, (Below.refl _ _).alloc (Nat.le_refl _) _⟩

set_option maxRecDepth 100000 in
set_option maxHeartbeats 1000000 in
theorem holds_is (o u : ByteArray) : HoldsC (.is o u) := by
  intro v ps w h hm
  have HB0 : Below w.heap.size w (w.alloc (.cells #[.string o, .string u] 106)) := (Below.refl _ _).alloc (Nat.le_refl _) _
  have HI := Lib.hid (im_hasP v ps o u (w.alloc (.cells #[.string o, .string u] 106)) (h.below HB0) hm)
  have HE : Hid ((CT.is o u).ev ps = hasP ps o u) := Lib.hid rfl
  clear h
  rw [HE.out]
  unfold CT.fH CT.pay
  go_enter Try.func122, Try.ntmps122
  go_wp2_with fail
  refine HI.out.mono ?_
  rintro e w1 ⟨rfl, hb⟩
  have HB := Lib.hid (HB0.trans (hb.mono HB0.size))
  clear hb HB0
  go_wp2_with fail
  go_ret
  exact ⟨rfl, HB.out⟩

set_option maxRecDepth 100000 in
set_option maxHeartbeats 1000000 in
theorem holds_no (t : CT) (ih : HoldsC t) : HoldsC (.no t) := by
  intro v ps w h hm
  have HB0 : Below w.heap.size w (w.alloc (.cells #[.iface t.ty t.pay] 108)) := (Below.refl _ _).alloc (Nat.le_refl _) _
  have HI := Lib.hid (ih v ps (w.alloc (.cells #[.iface t.ty t.pay] 108)) (h.below HB0) hm)
  have HE : Hid ((CT.no t).ev ps = !t.ev ps) := Lib.hid rfl
  clear h
  have hme := meth_holds t
  have hca := call_holds t
  unfold CT.fH CT.pay
  go_enter Try.func129, Try.ntmps129
  go_wp2_with fail
  refine HI.out.mono ?_
  rintro e w1 ⟨rfl, hb⟩
  have HB := Lib.hid (HB0.trans (hb.mono HB0.size))
  clear hb HB0 hme hca
  obtain ⟨y, hy⟩ : ∃ y, t.ev ps = y := ⟨_, rfl⟩
  rw [hy]
  have HY := Lib.hid hy
  clear hy
  cases y
  all_goals
    go_wp2_with fail
    go_ret
    exact ⟨by rw [HE.out, HY.out]; rfl, HB.out⟩

set_option maxRecDepth 100000 in
set_option maxHeartbeats 1000000 in
theorem holds_and (a b : CT) (iha : HoldsC a) (ihb : HoldsC b) : HoldsC (.and a b) := by
  intro v ps w h hm
  have HG := heap_alloc_new w (.cells #[.iface a.ty a.pay, .iface b.ty b.pay] 110)
  have HB0 : Below w.heap.size w (w.alloc (.cells #[.iface a.ty a.pay, .iface b.ty b.pay] 110)) := (Below.refl _ _).alloc (Nat.le_refl _) _
  have HIA := Lib.hid (iha v ps (w.alloc (.cells #[.iface a.ty a.pay, .iface b.ty b.pay] 110)) (h.below HB0) hm)
  have HIB : Hid (∀ W, Below w.heap.size w W → Calls Try.prog b.fH #[b.pay, v] W (BoolRes (b.ev ps) W)) := Lib.hid (fun W hW => ihb v ps W (h.below hW) hm)
  have HE : Hid ((CT.and a b).ev ps = (a.ev ps && b.ev ps)) := Lib.hid rfl
  clear h
  have hme := meth_holds a
  have hca := call_holds a
  have hme2 := meth_holds b
  have hca2 := call_holds b
  unfold CT.fH CT.pay
  go_enter Try.func134, Try.ntmps134
  go_wp2_with fail
  refine HIA.out.mono ?_
  rintro e w1 ⟨rfl, hb⟩
  have HG := blk_below HG hb
  have HB := Lib.hid (HB0.trans (hb.mono HB0.size))
  clear hb HB0
  obtain ⟨y, hy⟩ : ∃ y, a.ev ps = y := ⟨_, rfl⟩
  obtain ⟨z, hz⟩ : ∃ z, b.ev ps = z := ⟨_, rfl⟩
  rw [hz] at HIB
  rw [hy]
  have HYA := Lib.hid hy
  have HZB := Lib.hid hz
  clear hy hz
  cases y with
  | false =>
    go_wp2_with fail
    go_ret
    exact ⟨by rw [HE.out, HYA.out]; rfl, HB.out⟩
  | true =>
    have g1 := cell_of_row _ _ 1 _ _ _ HG
    go_wp2_with fail
    refine (HIB.out _ HB.out).mono ?_
    rintro e w2 ⟨rfl, hb⟩
    have HB2 := Lib.hid (HB.out.trans (hb.mono HB.out.size))
    clear hb g1 hme hca hme2 hca2
    go_wp2_with fail
    go_ret
    exact ⟨by rw [HE.out, HYA.out, HZB.out]; cases z <;> rfl, HB2.out⟩

set_option maxRecDepth 100000 in
set_option maxHeartbeats 1000000 in
theorem holds_or (a b : CT) (iha : HoldsC a) (ihb : HoldsC b) : HoldsC (.or a b) := by
  intro v ps w h hm
  have HG := heap_alloc_new w (.cells #[.iface a.ty a.pay, .iface b.ty b.pay] 111)
  have HB0 : Below w.heap.size w (w.alloc (.cells #[.iface a.ty a.pay, .iface b.ty b.pay] 111)) := (Below.refl _ _).alloc (Nat.le_refl _) _
  have HIA := Lib.hid (iha v ps (w.alloc (.cells #[.iface a.ty a.pay, .iface b.ty b.pay] 111)) (h.below HB0) hm)
  have HIB : Hid (∀ W, Below w.heap.size w W → Calls Try.prog b.fH #[b.pay, v] W (BoolRes (b.ev ps) W)) := Lib.hid (fun W hW => ihb v ps W (h.below hW) hm)
  have HE : Hid ((CT.or a b).ev ps = (a.ev ps || b.ev ps)) := Lib.hid rfl
  clear h
  have hme := meth_holds a
  have hca := call_holds a
  have hme2 := meth_holds b
  have hca2 := call_holds b
  unfold CT.fH CT.pay
  go_enter Try.func140, Try.ntmps140
  go_wp2_with fail
  refine HIA.out.mono ?_
  rintro e w1 ⟨rfl, hb⟩
  have HG := blk_below HG hb
  have HB := Lib.hid (HB0.trans (hb.mono HB0.size))
  clear hb HB0
  obtain ⟨y, hy⟩ : ∃ y, a.ev ps = y := ⟨_, rfl⟩
  obtain ⟨z, hz⟩ : ∃ z, b.ev ps = z := ⟨_, rfl⟩
  rw [hz] at HIB
  rw [hy]
  have HYA := Lib.hid hy
  have HZB := Lib.hid hz
  clear hy hz
  cases y with
  | true =>
    go_wp2_with fail
    go_ret
    exact ⟨by rw [HE.out, HYA.out]; rfl, HB.out⟩
  | false =>
    have g1 := cell_of_row _ _ 1 _ _ _ HG
    go_wp2_with fail
    refine (HIB.out _ HB.out).mono ?_
    rintro e w2 ⟨rfl, hb⟩
    have HB2 := Lib.hid (HB.out.trans (hb.mono HB.out.size))
    clear hb g1 hme hca hme2 hca2
    go_wp2_with fail
    go_ret
    exact ⟨by rw [HE.out, HYA.out, HZB.out]; cases z <;> rfl, HB2.out⟩

theorem im_holds : ∀ t : CT, HoldsC t
  | .tt => holds_tt
  | .is o u => holds_is o u
  | .no t => holds_no t (im_holds t)
  | .and a b => holds_and a b (im_holds a) (im_holds b)
  | .or a b => holds_or a b (im_holds a) (im_holds b)

set_option maxRecDepth 100000 in
set_option maxHeartbeats 1000000 in
theorem im_Holds : ImplHolds := by
  intro v v2 l ps w h hs hm h2 hs2 hm2
  have HT := Lib.hid (im_tree v l w h hs hm)
  have HP := Lib.hid h2
  clear h h2 hs hs2
  go_enter Try.func23, Try.ntmps23
  go_wp2_with fail
  refine HT.out.mono ?_
  rintro e w1 ⟨h | h, hb⟩
  · obtain ⟨t, ht, hl, h30, rfl⟩ := h
    have HY : Hid (holdsB l ps = t.ev ps) := Lib.hid (by rw [hl]; exact holdsB_yes ps ht h30)
    have HB := Lib.hid hb
    have HI := Lib.hid (im_holds t v2 ps w1 (HP.out.below hb) hm2)
    have hme := meth_holds t
    have hca := call_holds t
    clear hb hl h30 ht HT
    unfold CT.iv
    go_wp2_with fail
    refine HI.out.mono ?_
    rintro e w2 ⟨rfl, hb⟩
    have HB2 := Lib.hid (HB.out.trans (hb.mono HB.out.size))
    clear hb hme hca
    go_wp2_with fail
    go_ret
    exact ⟨by rw [HY.out]; rfl, HB2.out⟩
  · obtain ⟨hl, rfl⟩ := h
    have HY := Lib.hid (holdsB_no (ps := ps) hl)
    have HB := Lib.hid hb
    clear hb hl HT
    go_wp2_with fail
    go_ret
    exact ⟨by rw [HY.out]; rfl, HB.out⟩

/-- A condition's rank. -/
theorem im_rank (t : CT) (w : World) : Calls Try.prog t.fR #[t.pay] w fun e w' => e = .returned (.int .i64 ((t.level : Int) - 1)) ∧ Below w.heap.size w w' := by
  cases t
  · unfold CT.fR CT.pay
    go_enter Try.func146, Try.ntmps146
    go_wp2_with fail
    go_ret
    exact ⟨rfl, (Below.refl _ _).alloc (Nat.le_refl _) _⟩
  · unfold CT.fR CT.pay
    go_enter Try.func124, Try.ntmps124
    go_wp2_with fail
    go_ret
    exact ⟨rfl, (Below.refl _ _).alloc (Nat.le_refl _) _⟩
  · unfold CT.fR CT.pay
    go_enter Try.func131, Try.ntmps131
    go_wp2_with fail
    go_ret
    exact ⟨rfl, (Below.refl _ _).alloc (Nat.le_refl _) _⟩
  · unfold CT.fR CT.pay
    go_enter Try.func136, Try.ntmps136
    go_wp2_with fail
    go_ret
    exact ⟨rfl, (Below.refl _ _).alloc (Nat.le_refl _) _⟩
  · unfold CT.fR CT.pay
    go_enter Try.func142, Try.ntmps142
    go_wp2_with fail
    go_ret
    exact ⟨rfl, (Below.refl _ _).alloc (Nat.le_refl _) _⟩

/-- A condition's text. -/
def TextC (t : CT) : Prop := ∀ (w : World), t.ok → t.post.length ≤ 30 → Calls Try.prog t.fT #[t.pay] w (TextRes (t.fmt 1) w)
theorem fmt_par (t : CT) (k : Nat) : t.fmt k = par t.level k (t.fmt 1) := by
  cases t <;> (unfold CT.fmt CT.level; rw [par_no (k := 1) (by omega)])

set_option maxRecDepth 100000 in
set_option maxHeartbeats 1000000 in
theorem im_operand (t : CT) (hT : TextC t) (k : Nat) (w : World) (hok : t.ok) (hl : t.post.length ≤ 30) :
    Calls Try.prog 133 #[.iface t.ty t.pay, .int .i64 (k : Int)] w (TextRes (t.fmt (k + 1)) w) := by
  have HF := Lib.hid (fmt_par t (k + 1))
  have HZ := Lib.hid (fmt_size t 1 hok)
  have HT : Hid (∀ W, Calls Try.prog t.fT #[t.pay] W (TextRes (t.fmt 1) W)) := Lib.hid (fun W => hT W hok hl)
  have HK := Lib.hid (im_rank t)
  have hme := meth_rank t
  have hca := call_rank t
  have hme2 := meth_text t
  have hca2 := call_text t
  have hzz : (t.fmt 1).size ≤ 720 := by have := HZ.out; omega
  have hlv : 1 ≤ t.level ∧ t.level ≤ 3 := by cases t <;> simp [CT.level]
  obtain ⟨hlv1, hlv3⟩ := hlv
  rw [HF.out]
  clear hT HZ HF
  generalize t.fmt 1 = s at *
  generalize t.level = lv at *
  have z1 := cat_size tOpen s
  have z2 := cat_size (tOpen ++ s) tShut
  have z3 : tOpen.size = 1 := rfl
  have z4 : tShut.size = 1 := rfl
  go_enter Try.func133, Try.ntmps133
  go_wp2_with fail
  refine (HK.out _).mono ?_
  rintro e w1 ⟨rfl, hb⟩
  have HB := Lib.hid hb
  clear hb
  by_cases hlt : lv < k + 1
  · have HP : Hid (par lv (k + 1) s = (tOpen ++ s) ++ tShut) := Lib.hid (par_yes hlt)
    have hd : (lv : Int) - 1 < (k : Int) := by omega
    go_wp2_with fail
    refine (HT.out _).mono ?_
    rintro e w2 ⟨rfl, hb⟩
    have HB2 := Lib.hid (HB.out.trans (hb.mono HB.out.size))
    clear hb
    go_wp2_with fail
    go_ret
    exact ⟨by rw [HP.out]; rfl, HB2.out⟩
  · have HP : Hid (par lv (k + 1) s = s) := Lib.hid (par_no hlt)
    have hd : ¬(lv : Int) - 1 < (k : Int) := by omega
    go_wp2_with fail
    refine (HT.out _).mono ?_
    rintro e w2 ⟨rfl, hb⟩
    have HB2 := Lib.hid (HB.out.trans (hb.mono HB.out.size))
    clear hb
    go_wp2_with fail
    go_ret
    exact ⟨by rw [HP.out]; rfl, HB2.out⟩

set_option maxRecDepth 100000 in
set_option maxHeartbeats 1000000 in
theorem text_tt : TextC .tt := by
  intro w hok hl
  have HY : Hid (CT.fmt .tt 1 = tTrue) := Lib.hid (par_no (by omega))
  rw [HY.out]
  unfold CT.fT CT.pay
  go_enter Try.func147, Try.ntmps147
  go_wp2_with fail
  go_ret
  exact ⟨rfl, (Below.refl _ _).alloc (Nat.le_refl _) _⟩

set_option maxRecDepth 100000 in
set_option maxHeartbeats 1000000 in
theorem text_is (o u : ByteArray) : TextC (.is o u) := by
  intro w hok hl
  have HY : Hid (CT.fmt (.is o u) 1 = (o ++ tEq) ++ u) := Lib.hid (par_no (by omega))
  have h1 := code_size hok.1
  have h2 := code_size hok.2
  have z1 := cat_size o tEq
  have z2 := cat_size (o ++ tEq) u
  have z3 : tEq.size = 1 := rfl
  rw [HY.out]
  clear hok
  unfold CT.fT CT.pay
  go_enter Try.func125, Try.ntmps125
  go_wp2_with fail
  go_ret
  exact ⟨rfl, (Below.refl _ _).alloc (Nat.le_refl _) _⟩

set_option maxRecDepth 100000 in
set_option maxHeartbeats 1000000 in
theorem text_no (t : CT) (ih : TextC t) : TextC (.no t) := by
  intro w hok hl
  have hl1 : t.post.length ≤ 30 := by have : (CT.no t).post.length = t.post.length + 1 := by simp [CT.post]
                                      omega
  have HY : Hid (CT.fmt (.no t) 1 = tNot ++ t.fmt 3) := Lib.hid (par_no (by omega))
  have HB0 : Below w.heap.size w (w.alloc (.cells #[.iface t.ty t.pay] 108)) := (Below.refl _ _).alloc (Nat.le_refl _) _
  have HI := Lib.hid (fun W => im_operand t ih 2 W hok hl1)
  have hz := fmt_size t 3 hok
  have hzz : (t.fmt 3).size ≤ 720 := by omega
  rw [HY.out]
  clear hz ih hl hl1 hok HY
  simp only [Nat.reduceAdd, Int.cast_ofNat_Int] at HI
  generalize t.fmt 3 = s at *
  have z1 := cat_size tNot s
  have z3 : tNot.size = 1 := rfl
  unfold CT.fT CT.pay
  go_enter Try.func132, Try.ntmps132
  go_wp2_with fail
  refine (HI.out _).mono ?_
  rintro e w1 ⟨rfl, hb⟩
  have HB := Lib.hid (HB0.trans (hb.mono HB0.size))
  clear hb HB0
  go_wp2_with fail
  go_ret
  exact ⟨rfl, HB.out⟩

set_option maxRecDepth 100000 in
set_option maxHeartbeats 1000000 in
theorem text_and (a b : CT) (iha : TextC a) (ihb : TextC b) : TextC (.and a b) := by
  intro w hok hl
  have hll : (CT.and a b).post.length = a.post.length + b.post.length + 1 := by simp [CT.post]; omega
  have hla : a.post.length ≤ 30 := by omega
  have hlb : b.post.length ≤ 30 := by omega
  have HY : Hid (CT.fmt (.and a b) 1 = (a.fmt 2 ++ tAnd) ++ b.fmt 3) := Lib.hid (par_no (by omega))
  have HG := heap_alloc_new w (.cells #[.iface a.ty a.pay, .iface b.ty b.pay] 110)
  have HB0 : Below w.heap.size w (w.alloc (.cells #[.iface a.ty a.pay, .iface b.ty b.pay] 110)) := (Below.refl _ _).alloc (Nat.le_refl _) _
  have HIA := Lib.hid (fun W => im_operand a iha 1 W hok.1 hla)
  have HIB := Lib.hid (fun W => im_operand b ihb 2 W hok.2 hlb)
  have hz1 := fmt_size a 2 hok.1
  have hz2 := fmt_size b 3 hok.2
  have hza : (a.fmt 2).size ≤ 720 := by omega
  have hzb : (b.fmt 3).size ≤ 720 := by omega
  rw [HY.out]
  clear hz1 hz2 iha ihb hl hla hlb hll hok HY
  simp only [Nat.reduceAdd, Int.cast_ofNat_Int] at HIA HIB
  generalize a.fmt 2 = fa at *
  generalize b.fmt 3 = fb at *
  have z1 := cat_size fa tAnd
  have z2 := cat_size (fa ++ tAnd) fb
  have z3 : ByteArray.size tAnd = 3 := rfl
  have hr1 : ∀ W, (Op.stringOp .add fa tAnd).run Try.prog W = .ok (.string (fa ++ tAnd)) W := fun W => run_string_add_sum _ _ _ (by omega)
  have hr2 : ∀ W, (Op.stringOp .add (fa ++ tAnd) fb).run Try.prog W = .ok (.string ((fa ++ tAnd) ++ fb)) W := fun W => run_string_add_sum _ _ _ (by omega)
  unfold CT.fT CT.pay
  go_enter Try.func137, Try.ntmps137
  go_upto_region 1 with fail
  generalize w.alloc (.cells #[.iface a.ty a.pay, .iface b.ty b.pay] 110) = w0 at *
  have g0 := cell_of_row _ _ 0 _ _ _ HG
  have g1 := cell_of_row _ _ 1 _ _ _ HG
  go_region_held3 (fun W' => Hid (Below w0.heap.size w0 W') ∧ W'.cell? ⟨w.heap.size, 0, none⟩ = some (.iface a.ty a.pay) ∧ W'.cell? ⟨w.heap.size, 1, none⟩ = some (.iface b.ty b.pay))
    (first | assumption | exact hold2 g0 g1 (hold_call (by assumption) (by assumption)) | exact hold2 g0 g1 (Below.refl _ _).drew)
    (first | (go_at_call 133; ((with_reducible refine (HIA.out _).mono ?_); rintro e w' ⟨rfl, hb⟩); have hle := hold_le (by assumption) hb) | (go_at_call 133; ((with_reducible refine (HIB.out _).mono ?_); rintro e w' ⟨rfl, hb⟩); have hle := hold_le (by assumption) hb))
  all_goals
    go_wp2_with fail
    go_ret
    exact ⟨rfl, HB0.trans ((by assumption : Hid (Below w0.heap.size w0 _) ∧ _).1.out.mono HB0.size)⟩

set_option maxRecDepth 100000 in
set_option maxHeartbeats 1000000 in
theorem text_or (a b : CT) (iha : TextC a) (ihb : TextC b) : TextC (.or a b) := by
  intro w hok hl
  have hll : (CT.or a b).post.length = a.post.length + b.post.length + 1 := by simp [CT.post]; omega
  have hla : a.post.length ≤ 30 := by omega
  have hlb : b.post.length ≤ 30 := by omega
  have HY : Hid (CT.fmt (.or a b) 1 = (a.fmt 1 ++ tOr) ++ b.fmt 2) := Lib.hid (par_no (by omega))
  have HG := heap_alloc_new w (.cells #[.iface a.ty a.pay, .iface b.ty b.pay] 111)
  have HB0 : Below w.heap.size w (w.alloc (.cells #[.iface a.ty a.pay, .iface b.ty b.pay] 111)) := (Below.refl _ _).alloc (Nat.le_refl _) _
  have HIA := Lib.hid (fun W => im_operand a iha 0 W hok.1 hla)
  have HIB := Lib.hid (fun W => im_operand b ihb 1 W hok.2 hlb)
  have hz1 := fmt_size a 1 hok.1
  have hz2 := fmt_size b 2 hok.2
  have hza : (a.fmt 1).size ≤ 720 := by omega
  have hzb : (b.fmt 2).size ≤ 720 := by omega
  rw [HY.out]
  clear hz1 hz2 iha ihb hl hla hlb hll hok HY
  simp only [Nat.reduceAdd, Int.cast_ofNat_Int] at HIA HIB
  generalize a.fmt 1 = fa at *
  generalize b.fmt 2 = fb at *
  have z1 := cat_size fa tOr
  have z2 := cat_size (fa ++ tOr) fb
  have z3 : ByteArray.size tOr = 3 := rfl
  have hr1 : ∀ W, (Op.stringOp .add fa tOr).run Try.prog W = .ok (.string (fa ++ tOr)) W := fun W => run_string_add_sum _ _ _ (by omega)
  have hr2 : ∀ W, (Op.stringOp .add (fa ++ tOr) fb).run Try.prog W = .ok (.string ((fa ++ tOr) ++ fb)) W := fun W => run_string_add_sum _ _ _ (by omega)
  unfold CT.fT CT.pay
  go_enter Try.func143, Try.ntmps143
  go_upto_region 1 with fail
  generalize w.alloc (.cells #[.iface a.ty a.pay, .iface b.ty b.pay] 111) = w0 at *
  have g0 := cell_of_row _ _ 0 _ _ _ HG
  have g1 := cell_of_row _ _ 1 _ _ _ HG
  go_region_held3 (fun W' => Hid (Below w0.heap.size w0 W') ∧ W'.cell? ⟨w.heap.size, 0, none⟩ = some (.iface a.ty a.pay) ∧ W'.cell? ⟨w.heap.size, 1, none⟩ = some (.iface b.ty b.pay))
    (first | assumption | exact hold2 g0 g1 (hold_call (by assumption) (by assumption)) | exact hold2 g0 g1 (Below.refl _ _).drew)
    (first | (go_at_call 133; ((with_reducible refine (HIA.out _).mono ?_); rintro e w' ⟨rfl, hb⟩); have hle := hold_le (by assumption) hb) | (go_at_call 133; ((with_reducible refine (HIB.out _).mono ?_); rintro e w' ⟨rfl, hb⟩); have hle := hold_le (by assumption) hb))
  all_goals
    go_wp2_with fail
    go_ret
    exact ⟨rfl, HB0.trans ((by assumption : Hid (Below w0.heap.size w0 _) ∧ _).1.out.mono HB0.size)⟩

theorem im_text : ∀ t : CT, TextC t
  | .tt => text_tt
  | .is o u => text_is o u
  | .no t => text_no t (im_text t)
  | .and a b => text_and a b (im_text a) (im_text b)
  | .or a b => text_or a b (im_text a) (im_text b)

set_option maxRecDepth 100000 in
set_option maxHeartbeats 1000000 in
theorem im_FormatCond : ImplFormatCond := by
  intro v l w h hs hm
  have HT := Lib.hid (im_tree v l w h hs hm)
  clear h hs
  go_enter Try.func13, Try.ntmps13
  go_wp2_with fail
  refine HT.out.mono ?_
  rintro e w1 ⟨h | h, hb⟩
  · obtain ⟨t, ht, hl, h30, rfl⟩ := h
    have HY : Hid (fmtB l = t.fmt 1) := Lib.hid (by rw [hl]; exact fmtB_yes ht h30)
    have HB := Lib.hid hb
    have HI := Lib.hid (im_text t w1 ht h30)
    have hme := meth_text t
    have hca := call_text t
    clear hb hl h30 ht HT
    unfold CT.iv
    go_wp2_with fail
    refine HI.out.mono ?_
    rintro e w2 ⟨rfl, hb⟩
    have HB2 := Lib.hid (HB.out.trans (hb.mono HB.out.size))
    clear hb hme hca
    go_wp2_with fail
    go_ret
    exact ⟨by rw [HY.out]; rfl, HB2.out⟩
  · obtain ⟨hl, rfl⟩ := h
    have HY := Lib.hid (fmtB_no hl)
    have HB := Lib.hid hb
    clear hb hl HT
    go_wp2_with fail
    go_ret
    exact ⟨by rw [HY.out]; rfl, HB.out⟩
end Go.Proofs.Ytghofgjlmfdnpaa
