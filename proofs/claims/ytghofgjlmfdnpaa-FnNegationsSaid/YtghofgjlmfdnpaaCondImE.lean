/-
  The program's NegateCond.
-/
import Derived.Test.YtghofgjlmfdnpaaCondImD
import Derived.WalkKit
import Derived.WalkSpells
import Derived.WalkSmall
import Derived.BigQuiet
import Derived.Laws.AppendOwn
import Derived.Deep.QuietTactic
import Derived.Deep.DeepCutAuto
import Derived.Lib.Hide
namespace Go.Proofs.Ytghofgjlmfdnpaa
open Go.RowKit

/-- The method nodes of a condition. -/
def CT.fN : CT → FuncId
  | .tt => 145
  | .is _ _ => 123
  | .no _ => 130
  | .and _ _ => 135
  | .or _ _ => 141
theorem meth_nodes (t : CT) (w : World) : (method 256 t.ty t.pay "loop.example/g03407/impl.nodes").run Try.prog w = .ok (t.fN, t.pay) w := by
  cases t <;> kernel_rfl
theorem call_nodes (t : CT) (args : Array Value) (w : World) : (callFunc t.fN args).run Try.prog w = .ok (.enter t.fN args) w := by
  cases t <;> kernel_rfl
/-- A condition's nodes, or those of its opposite. -/
def NodesC (t : CT) : Prop := ∀ (z : Bool) (w : World), t.post.length ≤ 30 → Calls Try.prog t.fN #[t.pay, .bool z] w (OwnC (t.neg z).post w)
def leafL (n : CN) (z : Bool) : List CN := if z = true then [n, ⟨2, eB, eB⟩] else [n]

set_option maxRecDepth 100000 in
set_option maxHeartbeats 1000000 in
theorem im_leaf (n : CN) (z : Bool) (w : World) : Calls Try.prog 127 #[n.val, .bool z] w (OwnC (leafL n z) w) := by
  obtain ⟨kind, opt, vl⟩ := n
  unfold CN.val
  simp only
  have HB : Below w.heap.size w (w.alloc (.cells #[.int .i64 kind, .string opt, .string vl] 43)) := (Below.refl _ _).alloc (Nat.le_refl _) _
  cases z with
  | false =>
    have HL : Hid (∀ w1 : World, w.heap.size ≤ w1.heap.size → (w1.alloc (.cells #[.int .i64 kind, .string opt, .string vl] 43)).ownsRow w.heap.size 43 3 (.slice (some ⟨w1.heap.size, 0, none⟩) 1 1) 1 (CN.cells (leafL ⟨kind, opt, vl⟩ false))) := Lib.hid (fun w1 h => own_downL (World.ownsRow_lit w1 #[.int .i64 kind, .string opt, .string vl] 1 (Nat.le_refl _) (by unfold maxLen; omega) rfl (e := 43) (size := 3)) h)
    go_enter Try.func127, Try.ntmps127
    go_upto_region 3 with fail
    have HG := heap_alloc_new w (.cells #[.int .i64 kind, .string opt, .string vl] 43)
    generalize w.alloc (.cells #[.int .i64 kind, .string opt, .string vl] 43) = w1 at *
    have g0 := cell_of_row _ _ 0 _ _ _ HG
    have g1 := cell_of_row _ _ 1 _ _ _ HG
    have g2 := cell_of_row _ _ 2 _ _ _ HG
    go_wp2_with fail
    go_ret
    exact ⟨_, _, rfl, HL.out w1 HB.size, HB.alloc HB.size _⟩
  | true =>
    have HL : Hid (∀ w1 : World, w.heap.size ≤ w1.heap.size → (w1.alloc (.cells #[.int .i64 kind, .string opt, .string vl, .int .i64 2, .string eB, .string eB] 43)).ownsRow w.heap.size 43 3 (.slice (some ⟨w1.heap.size, 0, none⟩) 2 2) 2 (CN.cells (leafL ⟨kind, opt, vl⟩ true))) := Lib.hid (fun w1 h => own_downL (World.ownsRow_lit w1 #[.int .i64 kind, .string opt, .string vl, .int .i64 2, .string eB, .string eB] 2 (Nat.le_refl _) (by unfold maxLen; omega) rfl (e := 43) (size := 3)) h)
    go_enter Try.func127, Try.ntmps127
    go_upto_region 2 with fail
    have HG := heap_alloc_new w (.cells #[.int .i64 kind, .string opt, .string vl] 43)
    generalize w.alloc (.cells #[.int .i64 kind, .string opt, .string vl] 43) = w1 at *
    have g0 := cell_of_row _ _ 0 _ _ _ HG
    have g1 := cell_of_row _ _ 1 _ _ _ HG
    have g2 := cell_of_row _ _ 2 _ _ _ HG
    go_wp2_with fail
    go_ret
    exact ⟨_, _, rfl, HL.out w1 HB.size, HB.alloc HB.size _⟩

set_option maxRecDepth 100000 in
set_option maxHeartbeats 1000000 in
theorem nodes_tt : NodesC .tt := by
  intro z w hl
  have HB0 : Below w.heap.size w (w.alloc (.cells #[] 113)) := (Below.refl _ _).alloc (Nat.le_refl _) _
  have HI := Lib.hid (im_leaf ⟨0, eB, eB⟩ z (w.alloc (.cells #[] 113)))
  have HE : Hid ((CT.neg .tt z).post = leafL ⟨0, eB, eB⟩ z) := Lib.hid (by cases z <;> rfl)
  unfold CN.val at HI
  simp only at HI
  unfold CT.fN CT.pay
  go_enter Try.func145, Try.ntmps145
  go_wp2_with fail
  refine HI.out.mono ?_
  rintro e w1 ⟨g, c, rfl, hown, hb⟩
  have HO := Lib.hid (own_downL hown HB0.size)
  have HB := Lib.hid (HB0.trans (hb.mono HB0.size))
  clear hb HB0 hown
  go_wp2_with fail
  go_ret
  exact ⟨g, c, by rw [HE.out]; rfl, by rw [HE.out]; exact HO.out, HB.out⟩

set_option maxRecDepth 100000 in
set_option maxHeartbeats 1000000 in
theorem nodes_is (o u : ByteArray) : NodesC (.is o u) := by
  intro z w hl
  have HB0 : Below w.heap.size w (w.alloc (.cells #[.string o, .string u] 106)) := (Below.refl _ _).alloc (Nat.le_refl _) _
  have HI := Lib.hid (im_leaf ⟨1, o, u⟩ z (w.alloc (.cells #[.string o, .string u] 106)))
  have HE : Hid ((CT.neg (.is o u) z).post = leafL ⟨1, o, u⟩ z) := Lib.hid (by cases z <;> rfl)
  unfold CN.val at HI
  simp only at HI
  unfold CT.fN CT.pay
  go_enter Try.func123, Try.ntmps123
  go_wp2_with fail
  refine HI.out.mono ?_
  rintro e w1 ⟨g, c, rfl, hown, hb⟩
  have HO := Lib.hid (own_downL hown HB0.size)
  have HB := Lib.hid (HB0.trans (hb.mono HB0.size))
  clear hb HB0 hown
  go_wp2_with fail
  go_ret
  exact ⟨g, c, by rw [HE.out]; rfl, by rw [HE.out]; exact HO.out, HB.out⟩

set_option maxRecDepth 100000 in
set_option maxHeartbeats 1000000 in
theorem nodes_no (t : CT) (ih : NodesC t) : NodesC (.no t) := by
  intro z w hl
  have hl1 : t.post.length ≤ 30 := by have : (CT.no t).post.length = t.post.length + 1 := by simp [CT.post]
                                      omega
  have HB0 : Below w.heap.size w (w.alloc (.cells #[.iface t.ty t.pay] 108)) := (Below.refl _ _).alloc (Nat.le_refl _) _
  have HI := Lib.hid (ih (!z) (w.alloc (.cells #[.iface t.ty t.pay] 108)) hl1)
  have HE : Hid ((CT.neg (.no t) z).post = (t.neg (!z)).post) := Lib.hid rfl
  have hme := meth_nodes t
  have hca := call_nodes t
  clear ih hl hl1
  generalize (t.neg (!z)).post = m at *
  cases z
  all_goals
    simp only [Bool.not_true, Bool.not_false] at HI
    unfold CT.fN CT.pay
    go_enter Try.func130, Try.ntmps130
    go_wp2_with fail
    refine HI.out.mono ?_
    rintro e w1 ⟨g, c, rfl, hown, hb⟩
    have HO := Lib.hid (own_downL hown HB0.size)
    have HB := Lib.hid (HB0.trans (hb.mono HB0.size))
    clear hb HB0 hown
    go_wp2_with fail
    go_ret
    exact ⟨g, c, by rw [HE.out]; rfl, by rw [HE.out]; exact HO.out, HB.out⟩

set_option maxRecDepth 100000 in
set_option maxHeartbeats 1000000 in
theorem im_other (k : Int) (hk : k = 3 ∨ k = 4) (w : World) : Calls Try.prog 139 #[.int .i64 k] w fun e w' => e = .returned (.int .i64 (7 - k)) ∧ w = w' := by
  rcases hk with rfl | rfl
  all_goals
    go_enter Try.func139, Try.ntmps139
    go_wp2_with fail
    go_ret
    exact ⟨rfl, rfl⟩

set_option maxRecDepth 100000 in
set_option maxHeartbeats 1000000 in
theorem im_joined (a b : CT) (iha : NodesC a) (ihb : NodesC b) (z : Bool) (k k' : Int) (hk : k = 3 ∨ k = 4) (hk' : k' = if z = true then 7 - k else k) (w : World) (hla : a.post.length ≤ 30) (hlb : b.post.length ≤ 30) :
    Calls Try.prog 138 #[.int .i64 k, .iface a.ty a.pay, .iface b.ty b.pay, .bool z] w (OwnC (((a.neg z).post ++ (b.neg z).post) ++ [⟨k', eB, eB⟩]) w) := by
  obtain ⟨i0, hi0, hz0, hz1, hz2⟩ := info_parts CN.info
  have HIA : Hid (∀ W, Calls Try.prog a.fN #[a.pay, .bool z] W (OwnC (a.neg z).post W)) := Lib.hid (fun W => iha z W hla)
  have HIB : Hid (∀ W, Calls Try.prog b.fN #[b.pay, .bool z] W (OwnC (b.neg z).post W)) := Lib.hid (fun W => ihb z W hlb)
  have HOP := Lib.hid (fun W => im_other k hk W)
  have hna := neg_len a z
  have hnb := neg_len b z
  have hla2 : (a.neg z).post.length ≤ 60 := by omega
  have hlb2 : (b.neg z).post.length ≤ 60 := by omega
  have hme := meth_nodes a
  have hca := call_nodes a
  have hme2 := meth_nodes b
  have hca2 := call_nodes b
  clear iha ihb hna hnb hla hlb
  generalize (a.neg z).post = pa at *
  generalize (b.neg z).post = pb at *
  have HEQ : Hid ((pa ++ pb ++ [(⟨k', eB, eB⟩ : CN)]).length = pa.length + pb.length + 1) := Lib.hid (by simp; omega)
  cases z
  · obtain rfl : k' = k := by simpa using hk'
    clear hk'
    go_enter Try.func138, Try.ntmps138
    go_wp2_with fail
    refine (HIA.out _).mono ?_
    rintro e w1 ⟨ga, ca, rfl, hown, hb⟩
    have HOA := Lib.hid hown
    have HB := hb
    clear hb hown
    go_wp2_with fail
    refine (HIB.out _).mono ?_
    rintro e w2 ⟨gb, cb, rfl, hown, hb⟩
    have HOA := Lib.hid (own_keepL HOA.out hb)
    have HOB := Lib.hid hown
    have hs1 := HB.size
    have HB := HB.trans (hb.mono HB.size)
    have hs2 := HB.size
    clear hb hown
    go_wp2_with (at_builtin; refine wpList_append_own _ rfl _ _ 24 rfl w.heap.size 43 i0 (.agg #[.int .i64 0, .string ByteArray.empty, .string ByteArray.empty]) 3 40 Try.underlying24 hi0 hz0 hz1 hz2 rfl (by decide) _ pa.length (CN.cells pa) rfl HOA.out ⟨gb, 0, none⟩ pb.length cb (CN.cells pb) rfl (CN.cells_length pb) (own_newsL HOB.out) (CN.one pb) (by unfold maxLen; omega) (by omega) (by omega) ?_)
    intro v4 w4 ho hg hnn
    obtain ⟨g4, c4, rfl⟩ := own_nnL ho hnn
    have HO4 := Lib.hid ho
    have HB4 := HB.grown hg HB.size (fun j hj => (HOA.out.lt j hj).1)
    have hs4 := HB4.size
    clear ho hg hnn HOA HOB
    go_wp2_with (at_builtin; refine wpList_append_own _ rfl _ _ 24 rfl w.heap.size 43 i0 (.agg #[.int .i64 0, .string ByteArray.empty, .string ByteArray.empty]) 3 40 Try.underlying24 hi0 hz0 hz1 hz2 rfl (by decide) _ (pa.length + pb.length) (CN.cells pa ++ CN.cells pb) rfl (HO4.out.alloc _) ⟨w4.heap.size, 0, none⟩ 1 1 [.int .i64 (k'), .string eB, .string eB] rfl rfl (newL3 _ _ _ _ _) (by intro u hu; simp at hu; rcases hu with rfl | rfl | rfl <;> rfl) (by unfold maxLen; omega) (by omega) (by simp; omega) ?_)
    intro v6 w6 ho hg _
    obtain ⟨g6, c6, rfl⟩ := own_someL ho
    have HB6 := Lib.hid ((HB4.alloc HB4.size (.cells #[.int .i64 (k'), .string eB, .string eB] 43)).grown hg (by simp; omega) (fun j hj => (HO4.out.lt j hj).1))
    have HO6 := Lib.hid ho
    clear ho hg
    go_wp2_with fail
    go_ret
    refine ⟨g6, c6, ?_, ?_, HB6.out⟩
    · first | (rw [HEQ.out]; rfl) | (rw [← List.append_assoc, HEQ.out]; rfl)
    · have h6 := HO6.out
      have e : CN.cells pa ++ CN.cells pb ++ [.int .i64 (k'), .string eB, .string eB] = CN.cells (pa ++ pb ++ [⟨k', eB, eB⟩]) := by rw [← CN.cells_push, ← CN.cells_append]
      rw [← List.append_assoc, e] at h6
      first | (rw [HEQ.out]; exact h6) | (rw [← List.append_assoc, HEQ.out]; exact h6)
  · obtain rfl : k' = 7 - k := by simpa using hk'
    clear hk'
    go_enter Try.func138, Try.ntmps138
    go_wp2_with fail
    refine (HOP.out _).mono ?_
    rintro e w9 ⟨rfl, rfl⟩
    go_wp2_with fail
    refine (HIA.out _).mono ?_
    rintro e w1 ⟨ga, ca, rfl, hown, hb⟩
    have HOA := Lib.hid hown
    have HB := hb
    clear hb hown
    go_wp2_with fail
    refine (HIB.out _).mono ?_
    rintro e w2 ⟨gb, cb, rfl, hown, hb⟩
    have HOA := Lib.hid (own_keepL HOA.out hb)
    have HOB := Lib.hid hown
    have hs1 := HB.size
    have HB := HB.trans (hb.mono HB.size)
    have hs2 := HB.size
    clear hb hown
    go_wp2_with (at_builtin; refine wpList_append_own _ rfl _ _ 24 rfl w.heap.size 43 i0 (.agg #[.int .i64 0, .string ByteArray.empty, .string ByteArray.empty]) 3 40 Try.underlying24 hi0 hz0 hz1 hz2 rfl (by decide) _ pa.length (CN.cells pa) rfl HOA.out ⟨gb, 0, none⟩ pb.length cb (CN.cells pb) rfl (CN.cells_length pb) (own_newsL HOB.out) (CN.one pb) (by unfold maxLen; omega) (by omega) (by omega) ?_)
    intro v4 w4 ho hg hnn
    obtain ⟨g4, c4, rfl⟩ := own_nnL ho hnn
    have HO4 := Lib.hid ho
    have HB4 := HB.grown hg HB.size (fun j hj => (HOA.out.lt j hj).1)
    have hs4 := HB4.size
    clear ho hg hnn HOA HOB
    go_wp2_with (at_builtin; refine wpList_append_own _ rfl _ _ 24 rfl w.heap.size 43 i0 (.agg #[.int .i64 0, .string ByteArray.empty, .string ByteArray.empty]) 3 40 Try.underlying24 hi0 hz0 hz1 hz2 rfl (by decide) _ (pa.length + pb.length) (CN.cells pa ++ CN.cells pb) rfl (HO4.out.alloc _) ⟨w4.heap.size, 0, none⟩ 1 1 [.int .i64 (7 - k), .string eB, .string eB] rfl rfl (newL3 _ _ _ _ _) (by intro u hu; simp at hu; rcases hu with rfl | rfl | rfl <;> rfl) (by unfold maxLen; omega) (by omega) (by simp; omega) ?_)
    intro v6 w6 ho hg _
    obtain ⟨g6, c6, rfl⟩ := own_someL ho
    have HB6 := Lib.hid ((HB4.alloc HB4.size (.cells #[.int .i64 (7 - k), .string eB, .string eB] 43)).grown hg (by simp; omega) (fun j hj => (HO4.out.lt j hj).1))
    have HO6 := Lib.hid ho
    clear ho hg
    go_wp2_with fail
    go_ret
    refine ⟨g6, c6, ?_, ?_, HB6.out⟩
    · first | (rw [HEQ.out]; rfl) | (rw [← List.append_assoc, HEQ.out]; rfl)
    · have h6 := HO6.out
      have e : CN.cells pa ++ CN.cells pb ++ [.int .i64 (7 - k), .string eB, .string eB] = CN.cells (pa ++ pb ++ [⟨7 - k, eB, eB⟩]) := by rw [← CN.cells_push, ← CN.cells_append]
      rw [← List.append_assoc, e] at h6
      first | (rw [HEQ.out]; exact h6) | (rw [← List.append_assoc, HEQ.out]; exact h6)

set_option maxRecDepth 100000 in
set_option maxHeartbeats 1000000 in
theorem nodes_and (a b : CT) (iha : NodesC a) (ihb : NodesC b) : NodesC (.and a b) := by
  intro z w hl
  have hll : (CT.and a b).post.length = a.post.length + b.post.length + 1 := by simp [CT.post]; omega
  have HB0 : Below w.heap.size w (w.alloc (.cells #[.iface a.ty a.pay, .iface b.ty b.pay] 110)) := (Below.refl _ _).alloc (Nat.le_refl _) _
  have HI := Lib.hid (im_joined a b iha ihb z 3 (if z = true then 4 else 3) (by omega) (by cases z <;> rfl) (w.alloc (.cells #[.iface a.ty a.pay, .iface b.ty b.pay] 110)) (by omega) (by omega))
  have HE : Hid ((CT.neg (.and a b) z).post = ((a.neg z).post ++ (b.neg z).post) ++ [⟨if z = true then 4 else 3, eB, eB⟩]) := Lib.hid (by cases z <;> rfl)
  clear iha ihb hl hll
  generalize (a.neg z).post ++ (b.neg z).post ++ [⟨if z = true then 4 else 3, eB, eB⟩] = m at *
  unfold CT.fN CT.pay
  go_enter Try.func135, Try.ntmps135
  go_wp2_with fail
  refine HI.out.mono ?_
  rintro e w1 ⟨g, c, rfl, hown, hb⟩
  have HO := Lib.hid (own_downL hown HB0.size)
  have HB := Lib.hid (HB0.trans (hb.mono HB0.size))
  clear hb HB0 hown
  go_wp2_with fail
  go_ret
  exact ⟨g, c, by rw [HE.out]; rfl, by rw [HE.out]; exact HO.out, HB.out⟩

set_option maxRecDepth 100000 in
set_option maxHeartbeats 1000000 in
theorem nodes_or (a b : CT) (iha : NodesC a) (ihb : NodesC b) : NodesC (.or a b) := by
  intro z w hl
  have hll : (CT.or a b).post.length = a.post.length + b.post.length + 1 := by simp [CT.post]; omega
  have HB0 : Below w.heap.size w (w.alloc (.cells #[.iface a.ty a.pay, .iface b.ty b.pay] 111)) := (Below.refl _ _).alloc (Nat.le_refl _) _
  have HI := Lib.hid (im_joined a b iha ihb z 4 (if z = true then 3 else 4) (by omega) (by cases z <;> rfl) (w.alloc (.cells #[.iface a.ty a.pay, .iface b.ty b.pay] 111)) (by omega) (by omega))
  have HE : Hid ((CT.neg (.or a b) z).post = ((a.neg z).post ++ (b.neg z).post) ++ [⟨if z = true then 3 else 4, eB, eB⟩]) := Lib.hid (by cases z <;> rfl)
  clear iha ihb hl hll
  generalize (a.neg z).post ++ (b.neg z).post ++ [⟨if z = true then 3 else 4, eB, eB⟩] = m at *
  unfold CT.fN CT.pay
  go_enter Try.func141, Try.ntmps141
  go_wp2_with fail
  refine HI.out.mono ?_
  rintro e w1 ⟨g, c, rfl, hown, hb⟩
  have HO := Lib.hid (own_downL hown HB0.size)
  have HB := Lib.hid (HB0.trans (hb.mono HB0.size))
  clear hb HB0 hown
  go_wp2_with fail
  go_ret
  exact ⟨g, c, by rw [HE.out]; rfl, by rw [HE.out]; exact HO.out, HB.out⟩

theorem im_nodes : ∀ t : CT, NodesC t
  | .tt => nodes_tt
  | .is o u => nodes_is o u
  | .no t => nodes_no t (im_nodes t)
  | .and a b => nodes_and a b (im_nodes a) (im_nodes b)
  | .or a b => nodes_or a b (im_nodes a) (im_nodes b)

set_option maxRecDepth 100000 in
set_option maxHeartbeats 1000000 in
theorem im_NegateCond : ImplNegateCond := by
  intro v l w h hs hm
  have HT := Lib.hid (im_tree v l w h hs hm)
  clear h hs
  go_enter Try.func19, Try.ntmps19
  go_wp2_with fail
  refine HT.out.mono ?_
  rintro e w1 ⟨h | h, hb⟩
  · obtain ⟨t, ht, hl, h30, rfl⟩ := h
    have HY : Hid (negR l = if (t.neg true).post.length ≤ 30 then ((t.neg true).post, true) else ([], false)) := Lib.hid (by rw [hl]; exact negR_in ht h30)
    have HB := Lib.hid hb
    have HI := Lib.hid (im_nodes t true w1 h30)
    have hnl := neg_len t true
    have hme := meth_nodes t
    have hca := call_nodes t
    clear hb hl ht HT
    generalize (t.neg true).post = m at *
    unfold CT.iv
    go_wp2_with fail
    refine HI.out.mono ?_
    rintro e w2 ⟨g, c, rfl, hown, hb⟩
    have HO := Lib.hid (own_downL hown HB.out.size)
    have HB2 := Lib.hid (HB.out.trans (hb.mono HB.out.size))
    clear hb hme hca hown
    by_cases hm30 : m.length ≤ 30
    · have HZ : Hid (negR l = (m, true)) := Lib.hid (by rw [HY.out, if_pos hm30])
      go_wp2_with fail
      go_ret2
      exact ⟨_, by rw [HZ.out]; rfl, by rw [HZ.out]; exact HO.out, HB2.out⟩
    · have HZ : Hid (negR l = ([], false)) := Lib.hid (by rw [HY.out, if_neg hm30])
      go_wp2_with fail
      go_ret2
      exact ⟨_, by rw [HZ.out]; rfl, by rw [HZ.out]; exact ⟨rfl, Or.inl ⟨rfl, rfl⟩⟩, HB2.out⟩
  · obtain ⟨hl, rfl⟩ := h
    have HY := Lib.hid (negR_no hl)
    have HB := Lib.hid hb
    clear hb hl HT
    go_wp2_with fail
    go_ret2
    exact ⟨_, by rw [HY.out]; rfl, by rw [HY.out]; exact ⟨rfl, Or.inl ⟨rfl, rfl⟩⟩, HB.out⟩
end Go.Proofs.Ytghofgjlmfdnpaa
