/-
  The model's l6Negate and NegateCond.
-/
import Derived.Test.YtghofgjlmfdnpaaRows
import Derived.Test.YtghofgjlmfdnpaaRecLib
import Derived.Test.YtghofgjlmfdnpaaCondLib
import Derived.Test.YtghofgjlmfdnpaaCondTree
import Derived.Test.YtghofgjlmfdnpaaCondSpec
import Derived.Test.YtghofgjlmfdnpaaCondFmt
import Derived.Test.YtghofgjlmfdnpaaCNTo
import Derived.Test.YtghofgjlmfdnpaaHold
import Derived.WalkKit
import Derived.WalkSpells
import Derived.WalkSmall
import Derived.Laws.AppendOwn
import Derived.BigQuiet
import Derived.Deep.QuietTactic
import Derived.Deep.DeepCutAuto
import Derived.Lib.Hide
namespace Go.Proofs.Ytghofgjlmfdnpaa
open Go.RowKit

/-- Nodes of the call's own are returned. -/
def OwnC (xs : List CN) (w : World) (e : Ending) (w' : World) : Prop := ∃ g c, e = .returned (.slice (some ⟨g, 0, none⟩) xs.length c) ∧ w'.ownsRow w.heap.size 43 3 (.slice (some ⟨g, 0, none⟩) xs.length c) xs.length (CN.cells xs) ∧ Below w.heap.size w w'
theorem own_downL {w : World} {base base' e size : Nat} {v : Value} {n : Nat} {xs : List Value} (h : w.ownsRow base e size v n xs) (hle : base' ≤ base) : w.ownsRow base' e size v n xs :=
  ⟨h.1, h.2.imp id (fun ⟨g, cap, cur, hv, hb, r⟩ => ⟨g, cap, cur, hv, Nat.le_trans hle hb, r⟩)⟩
theorem own_capL {w : World} {base e size g n cap : Nat} {xs : List Value} (h : w.ownsRow base e size (.slice (some ⟨g, 0, none⟩) n cap) n xs) : n ≤ cap := by
  rcases h.2 with ⟨h1, _⟩ | ⟨g', cap', cur, h1, _, _, hnc, _⟩
  · cases h1
  · cases h1; exact hnc
/-- The cells of a row, as an append reads them. -/
theorem own_newsL {w : World} {base e size g n cap : Nat} {xs : List Value} (h : w.ownsRow base e size (.slice (some ⟨g, 0, none⟩) n cap) n xs) : ∀ j u, xs[j]? = some u → w.cell? ((⟨g, 0, none⟩ : Addr).add j) = some u := fun j u hu => by
  have hj : j < n * size := by have := (List.getElem?_eq_some_iff.1 hu).1; rw [h.1] at this; exact this
  rw [Addr.add_lit, Nat.zero_add, h.cellAt j hj, hu]
theorem CN.one : ∀ (xs : List CN) (u : Value), u ∈ CN.cells xs → u.oneCell' = true := by
  intro xs
  induction xs with
  | nil => intro u hu; cases hu
  | cons x xs ih =>
    intro u hu
    rw [CN.cells_cons] at hu
    simp only [List.mem_cons] at hu
    rcases hu with rfl | rfl | rfl | hu
    · rfl
    · rfl
    · rfl
    · exact ih u hu
theorem newL3 (W : World) (x y z : Value) (t : TypeId) : ∀ j u, [x, y, z][j]? = some u → (W.alloc (.cells #[x, y, z] t)).cell? ((⟨W.heap.size, 0, none⟩ : Addr).add j) = some u := fun j u hu => by
  match j, hu with
  | 0, hu => simp at hu; subst hu; exact cell_of_row _ _ 0 _ _ _ (heap_alloc_new _ _)
  | 1, hu => simp at hu; subst hu; exact cell_of_row _ _ 1 _ _ _ (heap_alloc_new _ _)
  | 2, hu => simp at hu; subst hu; exact cell_of_row _ _ 2 _ _ _ (heap_alloc_new _ _)
theorem own_nnL {w : World} {base e size n : Nat} {v : Value} {xs : List Value} (h : w.ownsRow base e size v n xs) (hn : ¬v = .slice none 0 0) : ∃ g c, v = .slice (some ⟨g, 0, none⟩) n c := by
  rcases h.2 with ⟨h1, _⟩ | ⟨g, cap, cur, h1, _⟩
  · exact absurd h1 hn
  · exact ⟨g, cap, h1⟩
theorem blk_grownL {w w' : World} {g : Nat} {x : Obj} {o : Option Nat} (h : w.heap[g]? = some x) (hg : w.grownBy w' o) (hne : some g ≠ o) : w'.heap[g]? = some x := (hg.block g (lt_of_heap h) hne).trans h
theorem set_grownL (w : World) (p : Addr) (u : Value) : w.grownBy (w.setCell p u) (some p.block) := ⟨rfl, rfl, rfl, by simp, fun k _ hk => heap_setCell_other w p k u (fun e => hk (by rw [e]))⟩
/-- l6Negate makes the opposite of this subtree. -/
def NegC (t : CT) : Prop := ∀ (v : Value) (l pre : List CN) (z : Bool) (i : Int) (w : World), t.ok → CN.Is w v l → l.length ≤ 30 → l.take (pre.length + t.post.length) = pre ++ t.post → pre.length + t.post.length ≤ l.length →
    i = ((pre.length + t.post.length : Nat) : Int) - 1 → Calls Try.prog 52 #[v, .int .i64 i, .bool z] w (OwnC (t.neg z).post w)

set_option maxRecDepth 100000 in
set_option maxHeartbeats 1000000 in
theorem neg_tt : NegC (CT.tt) := by
  intro v l pre z i w hok h hl hi hm he
  obtain ⟨n, hkn, hn1, hnx, htk, hnl⟩ := node_at hi hm
  have hin : i = (n : Int) := by omega
  subst hin
  have HNL := Lib.hid hnl
  clear hnl
  have HX := Lib.hid h
  have HTK := Lib.hid htk
  obtain ⟨a', c', rfl⟩ := h.slice
  obtain ⟨b2, o2, c2, hv2, hc2, hcell2⟩ := HX.out.some (by omega)
  simp only [Value.slice.injEq] at hv2
  obtain ⟨rfl, _, rfl⟩ := hv2
  obtain ⟨r0, r1, r2⟩ := hcell2.at n hkn
  rw [hnx] at r0 r1 r2
  simp only [CT.top] at r0 r1 r2
  clear h hi he hcell2 hc2 hnx htk
  go_enter Try.func52, Try.ntmps52
  go_upto_region 2 with fail
  have HG := heap_alloc_new w (.cells #[.int .i64 0, .string eB, .string eB] 43)
  have HB := (Below.refl w.heap.size w).alloc (Nat.le_refl _) (.cells #[.int .i64 0, .string eB, .string eB] 43)
  generalize w.alloc (.cells #[.int .i64 0, .string eB, .string eB] 43) = w1 at *
  clear r0 r1 r2
  have g0 := cell_of_row _ _ 0 _ _ _ HG
  have g1 := cell_of_row _ _ 1 _ _ _ HG
  have g2 := cell_of_row _ _ 2 _ _ _ HG
  cases z with
  | false =>
    have HL : Hid ((w1.alloc (.cells #[.int .i64 0, .string eB, .string eB] 43)).ownsRow w.heap.size 43 3 (.slice (some ⟨w1.heap.size, 0, none⟩) 1 1) 1 (CN.cells (CT.post (CT.tt)))) := Lib.hid (own_downL (World.ownsRow_lit w1 #[.int .i64 0, .string eB, .string eB] 1 (Nat.le_refl _) (by unfold maxLen; omega) rfl (e := 43) (size := 3)) HB.size)
    go_wp2_with fail
    go_ret
    exact ⟨_, _, rfl, HL.out, HB.alloc HB.size _⟩
  | true =>
    have HL : Hid ((w1.alloc (.cells #[.int .i64 0, .string eB, .string eB, .int .i64 2, .string eB, .string eB] 43)).ownsRow w.heap.size 43 3 (.slice (some ⟨w1.heap.size, 0, none⟩) 2 2) 2 (CN.cells (CT.post (.no (CT.tt))))) := Lib.hid (own_downL (World.ownsRow_lit w1 #[.int .i64 0, .string eB, .string eB, .int .i64 2, .string eB, .string eB] 2 (Nat.le_refl _) (by unfold maxLen; omega) rfl (e := 43) (size := 3)) HB.size)
    go_wp2_with fail
    go_ret
    exact ⟨_, _, rfl, HL.out, HB.alloc HB.size _⟩

set_option maxRecDepth 100000 in
set_option maxHeartbeats 1000000 in
theorem neg_is (o u : ByteArray) : NegC (CT.is o u) := by
  intro v l pre z i w hok h hl hi hm he
  obtain ⟨n, hkn, hn1, hnx, htk, hnl⟩ := node_at hi hm
  have hin : i = (n : Int) := by omega
  subst hin
  have HNL := Lib.hid hnl
  clear hnl
  have HX := Lib.hid h
  have HTK := Lib.hid htk
  obtain ⟨a', c', rfl⟩ := h.slice
  obtain ⟨b2, o2, c2, hv2, hc2, hcell2⟩ := HX.out.some (by omega)
  simp only [Value.slice.injEq] at hv2
  obtain ⟨rfl, _, rfl⟩ := hv2
  obtain ⟨r0, r1, r2⟩ := hcell2.at n hkn
  rw [hnx] at r0 r1 r2
  simp only [CT.top] at r0 r1 r2
  clear h hi he hcell2 hc2 hnx htk
  go_enter Try.func52, Try.ntmps52
  go_upto_region 2 with fail
  have HG := heap_alloc_new w (.cells #[.int .i64 1, .string o, .string u] 43)
  have HB := (Below.refl w.heap.size w).alloc (Nat.le_refl _) (.cells #[.int .i64 1, .string o, .string u] 43)
  generalize w.alloc (.cells #[.int .i64 1, .string o, .string u] 43) = w1 at *
  clear r0 r1 r2
  have g0 := cell_of_row _ _ 0 _ _ _ HG
  have g1 := cell_of_row _ _ 1 _ _ _ HG
  have g2 := cell_of_row _ _ 2 _ _ _ HG
  cases z with
  | false =>
    have HL : Hid ((w1.alloc (.cells #[.int .i64 1, .string o, .string u] 43)).ownsRow w.heap.size 43 3 (.slice (some ⟨w1.heap.size, 0, none⟩) 1 1) 1 (CN.cells (CT.post (CT.is o u)))) := Lib.hid (own_downL (World.ownsRow_lit w1 #[.int .i64 1, .string o, .string u] 1 (Nat.le_refl _) (by unfold maxLen; omega) rfl (e := 43) (size := 3)) HB.size)
    go_wp2_with fail
    go_ret
    exact ⟨_, _, rfl, HL.out, HB.alloc HB.size _⟩
  | true =>
    have HL : Hid ((w1.alloc (.cells #[.int .i64 1, .string o, .string u, .int .i64 2, .string eB, .string eB] 43)).ownsRow w.heap.size 43 3 (.slice (some ⟨w1.heap.size, 0, none⟩) 2 2) 2 (CN.cells (CT.post (.no (CT.is o u))))) := Lib.hid (own_downL (World.ownsRow_lit w1 #[.int .i64 1, .string o, .string u, .int .i64 2, .string eB, .string eB] 2 (Nat.le_refl _) (by unfold maxLen; omega) rfl (e := 43) (size := 3)) HB.size)
    go_wp2_with fail
    go_ret
    exact ⟨_, _, rfl, HL.out, HB.alloc HB.size _⟩

set_option maxRecDepth 100000 in
set_option maxHeartbeats 1000000 in
theorem neg_no (t : CT) (ih : NegC t) : NegC (.no t) := by
  intro v l pre z i w hok h hl hi hm he
  obtain ⟨n, hkn, hn1, hnx, htk, hnl⟩ := node_at hi hm
  have hin : i = (n : Int) := by omega
  subst hin
  have HNL := Lib.hid hnl
  clear hnl
  have HX := Lib.hid h
  have HTK := Lib.hid htk
  obtain ⟨a', c', rfl⟩ := h.slice
  obtain ⟨b2, o2, c2, hv2, hc2, hcell2⟩ := HX.out.some (by omega)
  simp only [Value.slice.injEq] at hv2
  obtain ⟨rfl, _, rfl⟩ := hv2
  obtain ⟨r0, r1, r2⟩ := hcell2.at n hkn
  rw [hnx] at r0 r1 r2
  simp only [CT.top] at r0 r1 r2
  clear h hi he hcell2 hc2 hnx htk
  go_enter Try.func52, Try.ntmps52
  go_upto_region 2 with fail
  have HG := heap_alloc_new w (.cells #[.int .i64 2, .string eB, .string eB] 43)
  have HB := (Below.refl w.heap.size w).alloc (Nat.le_refl _) (.cells #[.int .i64 2, .string eB, .string eB] 43)
  generalize w.alloc (.cells #[.int .i64 2, .string eB, .string eB] 43) = w1 at *
  clear r0 r1 r2
  have g0 := cell_of_row _ _ 0 _ _ _ HG
  have g1 := cell_of_row _ _ 1 _ _ _ HG
  have g2 := cell_of_row _ _ 2 _ _ _ HG
  have htk2 : l.take n = pre ++ t.post := by rw [HTK.out]; simp [CT.kids, postS]
  have hn2 : n = pre.length + t.post.length := by rw [HNL.out]; simp [CT.kids, postS]
  have HIH : Hid (Calls Try.prog 52 #[.slice (some ⟨b2, o2, none⟩) l.length c', .int .i64 ((n : Int) - 1), .bool (!z)] w1 (OwnC (t.neg (!z)).post w1)) := Lib.hid (ih _ l pre (!z) _ w1 hok (HX.out.below HB) hl (by rw [← hn2]; exact htk2) (by omega) (by omega))
  clear ih htk2 hn1 hn2 hm
  go_wp2_with fail
  refine HIH.out.mono ?_
  rintro e w2 ⟨g, c, rfl, hown, hb⟩
  have HO := Lib.hid (own_downL hown HB.size)
  have HB := HB.trans (hb.mono HB.size)
  clear hown hb
  go_wp2_with fail
  go_ret
  exact ⟨_, _, rfl, HO.out, HB⟩

set_option maxRecDepth 100000 in
set_option maxHeartbeats 1000000 in
theorem neg_and (a b : CT) (iha : NegC a) (ihb : NegC b) : NegC (.and a b) := by
  obtain ⟨i0, hi0, hz0, hz1, hz2⟩ := info_parts CN.info
  intro v l pre z i w hok h hl hi hm he
  obtain ⟨n, hkn, hn1, hnx, htk, hnl⟩ := node_at hi hm
  have hin : i = (n : Int) := by omega
  subst hin
  have HNL := Lib.hid hnl
  clear hnl
  have HX := Lib.hid h
  have HTK := Lib.hid htk
  obtain ⟨a', c', rfl⟩ := h.slice
  obtain ⟨b2, o2, c2, hv2, hc2, hcell2⟩ := HX.out.some (by omega)
  simp only [Value.slice.injEq] at hv2
  obtain ⟨rfl, _, rfl⟩ := hv2
  obtain ⟨r0, r1, r2⟩ := hcell2.at n hkn
  rw [hnx] at r0 r1 r2
  simp only [CT.top] at r0 r1 r2
  clear h hi he hcell2 hc2 hnx htk
  go_enter Try.func52, Try.ntmps52
  go_upto_region 2 with fail
  have HG := heap_alloc_new w (.cells #[.int .i64 3, .string eB, .string eB] 43)
  have HB := (Below.refl w.heap.size w).alloc (Nat.le_refl _) (.cells #[.int .i64 3, .string eB, .string eB] 43)
  generalize w.alloc (.cells #[.int .i64 3, .string eB, .string eB] 43) = w1 at *
  clear r0 r1 r2
  have g0 := cell_of_row _ _ 0 _ _ _ HG
  have g1 := cell_of_row _ _ 1 _ _ _ HG
  have g2 := cell_of_row _ _ 2 _ _ _ HG
  have htk2 : l.take n = (pre ++ a.post) ++ b.post := by rw [HTK.out]; simp [CT.kids, postS]
  have hn2 : n = ((pre ++ a.post) ++ b.post).length := by rw [HNL.out]; simp [CT.kids, postS]
  have hn3 : ((pre ++ a.post) ++ b.post).length = (pre ++ a.post).length + b.post.length := List.length_append
  have hn4 : (pre ++ a.post).length = pre.length + a.post.length := List.length_append
  have htk3 := sub_take htk2 hn2
  have HST := Lib.hid (spec_start (.slice (some ⟨b2, o2, none⟩) l.length c') l (pre ++ a.post) b ((n : Int) - 1) w1 (HX.out.below HB) (by omega) (by rw [← hn3, ← hn2]; exact htk2) (by omega) (by omega))
  have HIA : Hid (∀ W, Below w.heap.size w W → Calls Try.prog 52 #[.slice (some ⟨b2, o2, none⟩) l.length c', .int .i64 (((pre ++ a.post).length : Int) - 1), .bool z] W (OwnC (a.neg z).post W)) := Lib.hid (fun W hB => iha _ l pre z _ W hok.1 (HX.out.below hB) hl (by rw [← hn4]; exact htk3) (by omega) (by omega))
  have HIB : Hid (∀ W, Below w.heap.size w W → Calls Try.prog 52 #[.slice (some ⟨b2, o2, none⟩) l.length c', .int .i64 ((n : Int) - 1), .bool z] W (OwnC (b.neg z).post W)) := Lib.hid (fun W hB => ihb _ l (pre ++ a.post) z _ W hok.2 (HX.out.below hB) hl (by rw [← hn3, ← hn2]; exact htk2) (by omega) (by omega))
  have hla := neg_len a z
  have hlb := neg_len b z
  have hla2 : (a.neg z).post.length ≤ 60 := by omega
  have hlb2 : (b.neg z).post.length ≤ 60 := by omega
  have HEQ : Hid (((CT.and a b).neg z).post = ((a.neg z).post ++ (b.neg z).post) ++ [⟨if z = true then 4 else 3, eB, eB⟩]) := Lib.hid (by cases z <;> rfl)
  have hq0 : (pre ++ a.post).length ≤ 30 := by omega
  clear iha ihb htk2 htk3 hn1 hn2 hn3 hn4 hm hla hlb
  generalize (pre ++ a.post).length = na at *
  generalize (a.neg z).post = pa at *
  generalize (b.neg z).post = pb at *
  go_wp2_with fail
  refine HST.out.mono ?_
  rintro e w2 ⟨rfl, rfl⟩
  go_wp2_with fail
  refine (HIA.out _ HB).mono ?_
  rintro e w2 ⟨ga, ca, rfl, hown, hb⟩
  have HOA := Lib.hid hown
  have hga := (hown.lt ga rfl).1
  have hw1 := lt_of_heap HG
  have hs1 := hb.size
  have HG := blk_below HG hb
  have HB := HB.trans (hb.mono HB.size)
  clear hb hown g0 g1 g2 HST
  go_wp2_with fail
  refine (HIB.out _ HB).mono ?_
  rintro e w3 ⟨gb, cb, rfl, hown, hb⟩
  have HOA := Lib.hid (own_keepL HOA.out hb)
  have HOB := Lib.hid hown
  have HG := blk_below HG hb
  have HB := HB.trans (hb.mono HB.size)
  have hs2 := hb.size
  clear hb hown
  go_wp2_with (at_builtin; refine wpList_append_own _ rfl _ _ 24 rfl w1.heap.size 43 i0 (.agg #[.int .i64 0, .string ByteArray.empty, .string ByteArray.empty]) 3 40 Try.underlying24 hi0 hz0 hz1 hz2 rfl (by decide) _ pa.length (CN.cells pa) rfl HOA.out ⟨gb, 0, none⟩ pb.length cb (CN.cells pb) rfl (CN.cells_length pb) (own_newsL HOB.out) (CN.one pb) (by unfold maxLen; omega) (by omega) (by omega) ?_)
  intro v4 w4 ho hg hnn
  obtain ⟨g4, c4, rfl⟩ := own_nnL ho hnn
  have HO4 := Lib.hid ho
  have hg4 := (ho.lt g4 rfl).1
  have hs3 := hg.size
  have HG := blk_grownL HG hg (fun e => by have := Option.some.inj e; simp only at this; omega)
  have HB := HB.grown hg HB.size (fun j hj => by cases hj; show w.heap.size ≤ ga; omega)
  clear ho hg hnn HOA HOB
  have g0 := cell_of_row _ _ 0 _ _ _ HG
  have g1 := cell_of_row _ _ 1 _ _ _ HG
  have g2 := cell_of_row _ _ 2 _ _ _ HG
  have f0 := frozen_of_row _ _ 0 _ _ HG
  cases z with
  | false =>
    have HBW := HB.alloc HB.size (.cells #[.int .i64 3, .string eB, .string eB] 43)
    go_wp2_with (at_builtin; refine wpList_append_own _ rfl _ _ 24 rfl w1.heap.size 43 i0 (.agg #[.int .i64 0, .string ByteArray.empty, .string ByteArray.empty]) 3 40 Try.underlying24 hi0 hz0 hz1 hz2 rfl (by decide) _ (pa.length + pb.length) (CN.cells pa ++ CN.cells pb) rfl (HO4.out.alloc _) ⟨w4.heap.size, 0, none⟩ 1 1 [.int .i64 3, .string eB, .string eB] rfl rfl (newL3 _ _ _ _ _) (by intro u hu; simp at hu; rcases hu with rfl | rfl | rfl <;> rfl) (by unfold maxLen; omega) (by omega) (by simp; omega) ?_)
    intro v6 w6 ho hg hnn
    have hnn2 : ¬v6 = .slice none 0 0 := fun e => by
      rcases ho.2 with ⟨_, h1⟩ | ⟨g', cap', cur, h1, _⟩
      · omega
      · rw [h1] at e; cases e
    obtain ⟨g6, c6, rfl⟩ := own_nnL ho hnn2
    have HB6 := Lib.hid (HBW.grown hg (by have := HB.size; simp; omega) (fun j hj => by cases hj; show w.heap.size ≤ g4; omega))
    have HO6 := Lib.hid (own_downL ho (show w.heap.size ≤ w1.heap.size by omega))
    clear ho hg hnn hnn2
    go_wp2_with fail
    go_ret
    refine ⟨g6, c6, ?_, ?_, HB6.out⟩
    · rw [HEQ.out, List.length_append, List.length_append]; rfl
    · have h6 := HO6.out
      rw [HEQ.out, List.length_append, List.length_append, List.length_singleton, ← CN.cells_push, ← CN.cells_append]
      first | exact h6 | (rw [List.append_assoc]; exact h6)
  | true =>
    have HO5 : Hid ((w4.setCell ⟨w.heap.size, 0, none⟩ (.int .i64 4)).ownsRow w1.heap.size 43 3 (.slice (some ⟨g4, 0, none⟩) (pa.length + pb.length) c4) (pa.length + pb.length) (CN.cells pa ++ CN.cells pb)) := Lib.hid (HO4.out.kept (set_grownL w4 _ _) (Or.inr (by simp [Value.ownBlock]; omega)))
    have HB5 := HB.setCell (p := ⟨w.heap.size, 0, none⟩) (Nat.le_refl _) (.int .i64 4)
    have HG5 : (w4.setCell ⟨w.heap.size, 0, none⟩ (.int .i64 4)).heap[w.heap.size]? = some (.cells #[.int .i64 4, .string eB, .string eB] 43 (0, 0)) := heap_setCell_same w4 w.heap.size 0 _ _ _ HG
    have hs5 : w4.heap.size = (w4.setCell ⟨w.heap.size, 0, none⟩ (.int .i64 4)).heap.size := by simp
    go_upto_region 13 with fail
    generalize w4.setCell ⟨w.heap.size, 0, none⟩ (.int .i64 4) = w5 at *
    clear g0 g1 g2 f0 HO4 HG
    have g0 := cell_of_row _ _ 0 _ _ _ HG5
    have g1 := cell_of_row _ _ 1 _ _ _ HG5
    have g2 := cell_of_row _ _ 2 _ _ _ HG5
    have HBW := HB5.alloc HB5.size (.cells #[.int .i64 4, .string eB, .string eB] 43)
    have HB := HB5
    go_wp2_with (at_builtin; refine wpList_append_own _ rfl _ _ 24 rfl w1.heap.size 43 i0 (.agg #[.int .i64 0, .string ByteArray.empty, .string ByteArray.empty]) 3 40 Try.underlying24 hi0 hz0 hz1 hz2 rfl (by decide) _ (pa.length + pb.length) (CN.cells pa ++ CN.cells pb) rfl (HO5.out.alloc _) ⟨w5.heap.size, 0, none⟩ 1 1 [.int .i64 4, .string eB, .string eB] rfl rfl (newL3 _ _ _ _ _) (by intro u hu; simp at hu; rcases hu with rfl | rfl | rfl <;> rfl) (by unfold maxLen; omega) (by omega) (by simp; omega) ?_)
    intro v6 w6 ho hg hnn
    have hnn2 : ¬v6 = .slice none 0 0 := fun e => by
      rcases ho.2 with ⟨_, h1⟩ | ⟨g', cap', cur, h1, _⟩
      · omega
      · rw [h1] at e; cases e
    obtain ⟨g6, c6, rfl⟩ := own_nnL ho hnn2
    have HB6 := Lib.hid (HBW.grown hg (by have := HB.size; simp; omega) (fun j hj => by cases hj; show w.heap.size ≤ g4; omega))
    have HO6 := Lib.hid (own_downL ho (show w.heap.size ≤ w1.heap.size by omega))
    clear ho hg hnn hnn2
    go_wp2_with fail
    go_ret
    refine ⟨g6, c6, ?_, ?_, HB6.out⟩
    · rw [HEQ.out, List.length_append, List.length_append]; rfl
    · have h6 := HO6.out
      rw [HEQ.out, List.length_append, List.length_append, List.length_singleton, ← CN.cells_push, ← CN.cells_append]
      first | exact h6 | (rw [List.append_assoc]; exact h6)

set_option maxRecDepth 100000 in
set_option maxHeartbeats 1000000 in
theorem neg_or (a b : CT) (iha : NegC a) (ihb : NegC b) : NegC (.or a b) := by
  obtain ⟨i0, hi0, hz0, hz1, hz2⟩ := info_parts CN.info
  intro v l pre z i w hok h hl hi hm he
  obtain ⟨n, hkn, hn1, hnx, htk, hnl⟩ := node_at hi hm
  have hin : i = (n : Int) := by omega
  subst hin
  have HNL := Lib.hid hnl
  clear hnl
  have HX := Lib.hid h
  have HTK := Lib.hid htk
  obtain ⟨a', c', rfl⟩ := h.slice
  obtain ⟨b2, o2, c2, hv2, hc2, hcell2⟩ := HX.out.some (by omega)
  simp only [Value.slice.injEq] at hv2
  obtain ⟨rfl, _, rfl⟩ := hv2
  obtain ⟨r0, r1, r2⟩ := hcell2.at n hkn
  rw [hnx] at r0 r1 r2
  simp only [CT.top] at r0 r1 r2
  clear h hi he hcell2 hc2 hnx htk
  go_enter Try.func52, Try.ntmps52
  go_upto_region 2 with fail
  have HG := heap_alloc_new w (.cells #[.int .i64 4, .string eB, .string eB] 43)
  have HB := (Below.refl w.heap.size w).alloc (Nat.le_refl _) (.cells #[.int .i64 4, .string eB, .string eB] 43)
  generalize w.alloc (.cells #[.int .i64 4, .string eB, .string eB] 43) = w1 at *
  clear r0 r1 r2
  have g0 := cell_of_row _ _ 0 _ _ _ HG
  have g1 := cell_of_row _ _ 1 _ _ _ HG
  have g2 := cell_of_row _ _ 2 _ _ _ HG
  have htk2 : l.take n = (pre ++ a.post) ++ b.post := by rw [HTK.out]; simp [CT.kids, postS]
  have hn2 : n = ((pre ++ a.post) ++ b.post).length := by rw [HNL.out]; simp [CT.kids, postS]
  have hn3 : ((pre ++ a.post) ++ b.post).length = (pre ++ a.post).length + b.post.length := List.length_append
  have hn4 : (pre ++ a.post).length = pre.length + a.post.length := List.length_append
  have htk3 := sub_take htk2 hn2
  have HST := Lib.hid (spec_start (.slice (some ⟨b2, o2, none⟩) l.length c') l (pre ++ a.post) b ((n : Int) - 1) w1 (HX.out.below HB) (by omega) (by rw [← hn3, ← hn2]; exact htk2) (by omega) (by omega))
  have HIA : Hid (∀ W, Below w.heap.size w W → Calls Try.prog 52 #[.slice (some ⟨b2, o2, none⟩) l.length c', .int .i64 (((pre ++ a.post).length : Int) - 1), .bool z] W (OwnC (a.neg z).post W)) := Lib.hid (fun W hB => iha _ l pre z _ W hok.1 (HX.out.below hB) hl (by rw [← hn4]; exact htk3) (by omega) (by omega))
  have HIB : Hid (∀ W, Below w.heap.size w W → Calls Try.prog 52 #[.slice (some ⟨b2, o2, none⟩) l.length c', .int .i64 ((n : Int) - 1), .bool z] W (OwnC (b.neg z).post W)) := Lib.hid (fun W hB => ihb _ l (pre ++ a.post) z _ W hok.2 (HX.out.below hB) hl (by rw [← hn3, ← hn2]; exact htk2) (by omega) (by omega))
  have hla := neg_len a z
  have hlb := neg_len b z
  have hla2 : (a.neg z).post.length ≤ 60 := by omega
  have hlb2 : (b.neg z).post.length ≤ 60 := by omega
  have HEQ : Hid (((CT.or a b).neg z).post = ((a.neg z).post ++ (b.neg z).post) ++ [⟨if z = true then 3 else 4, eB, eB⟩]) := Lib.hid (by cases z <;> rfl)
  have hq0 : (pre ++ a.post).length ≤ 30 := by omega
  clear iha ihb htk2 htk3 hn1 hn2 hn3 hn4 hm hla hlb
  generalize (pre ++ a.post).length = na at *
  generalize (a.neg z).post = pa at *
  generalize (b.neg z).post = pb at *
  go_wp2_with fail
  refine HST.out.mono ?_
  rintro e w2 ⟨rfl, rfl⟩
  go_wp2_with fail
  refine (HIA.out _ HB).mono ?_
  rintro e w2 ⟨ga, ca, rfl, hown, hb⟩
  have HOA := Lib.hid hown
  have hga := (hown.lt ga rfl).1
  have hw1 := lt_of_heap HG
  have hs1 := hb.size
  have HG := blk_below HG hb
  have HB := HB.trans (hb.mono HB.size)
  clear hb hown g0 g1 g2 HST
  go_wp2_with fail
  refine (HIB.out _ HB).mono ?_
  rintro e w3 ⟨gb, cb, rfl, hown, hb⟩
  have HOA := Lib.hid (own_keepL HOA.out hb)
  have HOB := Lib.hid hown
  have HG := blk_below HG hb
  have HB := HB.trans (hb.mono HB.size)
  have hs2 := hb.size
  clear hb hown
  go_wp2_with (at_builtin; refine wpList_append_own _ rfl _ _ 24 rfl w1.heap.size 43 i0 (.agg #[.int .i64 0, .string ByteArray.empty, .string ByteArray.empty]) 3 40 Try.underlying24 hi0 hz0 hz1 hz2 rfl (by decide) _ pa.length (CN.cells pa) rfl HOA.out ⟨gb, 0, none⟩ pb.length cb (CN.cells pb) rfl (CN.cells_length pb) (own_newsL HOB.out) (CN.one pb) (by unfold maxLen; omega) (by omega) (by omega) ?_)
  intro v4 w4 ho hg hnn
  obtain ⟨g4, c4, rfl⟩ := own_nnL ho hnn
  have HO4 := Lib.hid ho
  have hg4 := (ho.lt g4 rfl).1
  have hs3 := hg.size
  have HG := blk_grownL HG hg (fun e => by have := Option.some.inj e; simp only at this; omega)
  have HB := HB.grown hg HB.size (fun j hj => by cases hj; show w.heap.size ≤ ga; omega)
  clear ho hg hnn HOA HOB
  have g0 := cell_of_row _ _ 0 _ _ _ HG
  have g1 := cell_of_row _ _ 1 _ _ _ HG
  have g2 := cell_of_row _ _ 2 _ _ _ HG
  have f0 := frozen_of_row _ _ 0 _ _ HG
  cases z with
  | false =>
    have HBW := HB.alloc HB.size (.cells #[.int .i64 4, .string eB, .string eB] 43)
    go_wp2_with (at_builtin; refine wpList_append_own _ rfl _ _ 24 rfl w1.heap.size 43 i0 (.agg #[.int .i64 0, .string ByteArray.empty, .string ByteArray.empty]) 3 40 Try.underlying24 hi0 hz0 hz1 hz2 rfl (by decide) _ (pa.length + pb.length) (CN.cells pa ++ CN.cells pb) rfl (HO4.out.alloc _) ⟨w4.heap.size, 0, none⟩ 1 1 [.int .i64 4, .string eB, .string eB] rfl rfl (newL3 _ _ _ _ _) (by intro u hu; simp at hu; rcases hu with rfl | rfl | rfl <;> rfl) (by unfold maxLen; omega) (by omega) (by simp; omega) ?_)
    intro v6 w6 ho hg hnn
    have hnn2 : ¬v6 = .slice none 0 0 := fun e => by
      rcases ho.2 with ⟨_, h1⟩ | ⟨g', cap', cur, h1, _⟩
      · omega
      · rw [h1] at e; cases e
    obtain ⟨g6, c6, rfl⟩ := own_nnL ho hnn2
    have HB6 := Lib.hid (HBW.grown hg (by have := HB.size; simp; omega) (fun j hj => by cases hj; show w.heap.size ≤ g4; omega))
    have HO6 := Lib.hid (own_downL ho (show w.heap.size ≤ w1.heap.size by omega))
    clear ho hg hnn hnn2
    go_wp2_with fail
    go_ret
    refine ⟨g6, c6, ?_, ?_, HB6.out⟩
    · rw [HEQ.out, List.length_append, List.length_append]; rfl
    · have h6 := HO6.out
      rw [HEQ.out, List.length_append, List.length_append, List.length_singleton, ← CN.cells_push, ← CN.cells_append]
      first | exact h6 | (rw [List.append_assoc]; exact h6)
  | true =>
    have HO5 : Hid ((w4.setCell ⟨w.heap.size, 0, none⟩ (.int .i64 3)).ownsRow w1.heap.size 43 3 (.slice (some ⟨g4, 0, none⟩) (pa.length + pb.length) c4) (pa.length + pb.length) (CN.cells pa ++ CN.cells pb)) := Lib.hid (HO4.out.kept (set_grownL w4 _ _) (Or.inr (by simp [Value.ownBlock]; omega)))
    have HB5 := HB.setCell (p := ⟨w.heap.size, 0, none⟩) (Nat.le_refl _) (.int .i64 3)
    have HG5 : (w4.setCell ⟨w.heap.size, 0, none⟩ (.int .i64 3)).heap[w.heap.size]? = some (.cells #[.int .i64 3, .string eB, .string eB] 43 (0, 0)) := heap_setCell_same w4 w.heap.size 0 _ _ _ HG
    have hs5 : w4.heap.size = (w4.setCell ⟨w.heap.size, 0, none⟩ (.int .i64 3)).heap.size := by simp
    go_upto_region 13 with fail
    generalize w4.setCell ⟨w.heap.size, 0, none⟩ (.int .i64 3) = w5 at *
    clear g0 g1 g2 f0 HO4 HG
    have g0 := cell_of_row _ _ 0 _ _ _ HG5
    have g1 := cell_of_row _ _ 1 _ _ _ HG5
    have g2 := cell_of_row _ _ 2 _ _ _ HG5
    have HBW := HB5.alloc HB5.size (.cells #[.int .i64 3, .string eB, .string eB] 43)
    have HB := HB5
    go_wp2_with (at_builtin; refine wpList_append_own _ rfl _ _ 24 rfl w1.heap.size 43 i0 (.agg #[.int .i64 0, .string ByteArray.empty, .string ByteArray.empty]) 3 40 Try.underlying24 hi0 hz0 hz1 hz2 rfl (by decide) _ (pa.length + pb.length) (CN.cells pa ++ CN.cells pb) rfl (HO5.out.alloc _) ⟨w5.heap.size, 0, none⟩ 1 1 [.int .i64 3, .string eB, .string eB] rfl rfl (newL3 _ _ _ _ _) (by intro u hu; simp at hu; rcases hu with rfl | rfl | rfl <;> rfl) (by unfold maxLen; omega) (by omega) (by simp; omega) ?_)
    intro v6 w6 ho hg hnn
    have hnn2 : ¬v6 = .slice none 0 0 := fun e => by
      rcases ho.2 with ⟨_, h1⟩ | ⟨g', cap', cur, h1, _⟩
      · omega
      · rw [h1] at e; cases e
    obtain ⟨g6, c6, rfl⟩ := own_nnL ho hnn2
    have HB6 := Lib.hid (HBW.grown hg (by have := HB.size; simp; omega) (fun j hj => by cases hj; show w.heap.size ≤ g4; omega))
    have HO6 := Lib.hid (own_downL ho (show w.heap.size ≤ w1.heap.size by omega))
    clear ho hg hnn hnn2
    go_wp2_with fail
    go_ret
    refine ⟨g6, c6, ?_, ?_, HB6.out⟩
    · rw [HEQ.out, List.length_append, List.length_append]; rfl
    · have h6 := HO6.out
      rw [HEQ.out, List.length_append, List.length_append, List.length_singleton, ← CN.cells_push, ← CN.cells_append]
      first | exact h6 | (rw [List.append_assoc]; exact h6)

theorem spec_negate : ∀ t : CT, NegC t
  | .tt => neg_tt
  | .is o u => neg_is o u
  | .no t => neg_no t (spec_negate t)
  | .and a b => neg_and a b (spec_negate a) (spec_negate b)
  | .or a b => neg_or a b (spec_negate a) (spec_negate b)

/-- The opposite of a condition, and whether there is one. -/
noncomputable def negR (l : List CN) : List CN × Bool :=
  match CT.runs [] l with
  | some [t] => if condB l = true ∧ (t.neg true).post.length ≤ 30 then ((t.neg true).post, true) else ([], false)
  | _ => ([], false)
theorem negR_no {l : List CN} (h : condB l = false) : negR l = ([], false) := by
  unfold negR
  split
  · rw [if_neg (fun hc => by rw [h] at hc; cases hc.1)]
  · rfl
theorem negR_in {t : CT} (h : t.ok) (hl : t.post.length ≤ 30) : negR t.post = if (t.neg true).post.length ≤ 30 then ((t.neg true).post, true) else ([], false) := by
  unfold negR
  rw [CT.runs_post t [] h]
  simp only [condB_yes (cond_post h hl), true_and]
/-- Nodes of the call's own are returned, and whether there are any. -/
def NodesRes (r : List CN × Bool) (w : World) (e : Ending) (w' : World) : Prop := ∃ g c, e = .returned (.tuple #[.slice (some ⟨g, 0, none⟩) r.1.length c, .bool r.2]) ∧ w'.ownsRow w.heap.size 43 3 (.slice (some ⟨g, 0, none⟩) r.1.length c) r.1.length (CN.cells r.1) ∧ Below w.heap.size w w'

set_option maxRecDepth 100000 in
set_option maxHeartbeats 1000000 in
theorem spec_negateCond (v : Value) (l : List CN) (w : World) (h : CN.Is w v l) (hs : ∀ r, r ∈ l → CN.Sz r) (hl : l.length ≤ maxLen) :
    Calls Try.prog 20 #[v] w (NodesRes (negR l) w) := by
  have HC := Lib.hid (spec_isCond v l w h hs hl)
  have HX := Lib.hid h
  obtain ⟨a', c', rfl⟩ := h.slice
  clear h hs hl
  have HE : Hid (∀ W : World, Below w.heap.size w W → (W.alloc (.cells #[] 43)).ownsRow w.heap.size 43 3 (.slice (some ⟨W.heap.size, 0, none⟩) 0 0) 0 (CN.cells [])) := Lib.hid (fun W hB => own_downL (World.ownsRow_lit W #[] 0 (Nat.le_refl _) (Nat.zero_le _) rfl (e := 43) (size := 3)) hB.size)
  rcases Bool.eq_false_or_eq_true (condB l) with hc | hc
  · obtain ⟨t, hok, rfl, hln⟩ := cond_tree (condB_iff.1 hc)
    have HT := Lib.hid (negR_in hok hln)
    have hpos := CT.post_pos t
    have HF : Hid (∀ W, Below w.heap.size w W → Calls Try.prog 52 #[.slice a' t.post.length c', .int .i64 ((t.post.length : Int) - 1), .bool true] W (OwnC (t.neg true).post W)) := Lib.hid (fun W hB => spec_negate t _ t.post [] true _ W hok (HX.out.below hB) hln (by simp) (by simp) (by simp))
    have hnl := neg_len t true
    rw [hc] at HC
    clear hc hok
    generalize (t.neg true).post = m at *
    go_enter Try.func20, Try.ntmps20
    go_wp2_with fail
    refine HC.out.mono ?_
    rintro e w1 ⟨rfl, hb⟩
    go_wp2_with fail
    refine (HF.out _ hb).mono ?_
    rintro e w2 ⟨g, c, rfl, hown, hb2⟩
    have HO := Lib.hid (own_downL hown hb.size)
    have HB := hb.trans (hb2.mono hb.size)
    clear hown hb hb2
    by_cases hm : m.length ≤ 30
    · have HR : Hid (negR t.post = (m, true)) := Lib.hid (by rw [HT.out, if_pos hm])
      go_wp2_with fail
      go_ret2
      exact ⟨g, c, by rw [HR.out]; rfl, by rw [HR.out]; exact HO.out, HB⟩
    · have HR : Hid (negR t.post = ([], false)) := Lib.hid (by rw [HT.out, if_neg hm])
      go_wp2_with fail
      go_ret2
      exact ⟨_, _, by rw [HR.out]; rfl, by rw [HR.out]; exact HE.out _ HB, HB.alloc HB.size _⟩
  · have HR := Lib.hid (negR_no hc)
    rw [hc] at HC
    clear hc
    go_enter Try.func20, Try.ntmps20
    go_wp2_with fail
    refine HC.out.mono ?_
    rintro e w1 ⟨rfl, hb⟩
    go_wp2_with fail
    go_ret2
    exact ⟨_, _, by rw [HR.out]; rfl, by rw [HR.out]; exact HE.out _ hb, hb.alloc hb.size _⟩
end Go.Proofs.Ytghofgjlmfdnpaa
