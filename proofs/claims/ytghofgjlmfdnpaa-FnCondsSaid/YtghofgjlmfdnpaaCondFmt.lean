/-
  The model's l6Start, l6Level, l6Format and FormatCond.
-/
import Derived.Test.YtghofgjlmfdnpaaRows
import Derived.Test.YtghofgjlmfdnpaaCondLib
import Derived.Test.YtghofgjlmfdnpaaCondTree
import Derived.Test.YtghofgjlmfdnpaaCondSpec
import Derived.Test.YtghofgjlmfdnpaaHold
import Derived.WalkKit
import Derived.WalkSpells
import Derived.WalkSmall
import Derived.BigQuiet
import Derived.Deep.QuietTactic
import Derived.Deep.DeepCutAuto
import Derived.Lib.Hide
namespace Go.Proofs.Ytghofgjlmfdnpaa
open Go.RowKit

set_option maxRecDepth 100000 in
set_option maxHeartbeats 1000000 in
theorem spec_start (v : Value) (l pre : List CN) (t : CT) (i : Int) (w : World) (h : CN.Is w v l) (hl : l.length ≤ 1000) (hi : l.take (pre.length + t.post.length) = pre ++ t.post) (hm : pre.length + t.post.length ≤ l.length) (he : i = ((pre.length + t.post.length : Nat) : Int) - 1) :
    Calls Try.prog 72 #[v, .int .i64 i] w fun e w' => e = .returned (.int .i64 (pre.length : Int)) ∧ w = w' := by
  subst he
  have HX := Lib.hid h
  have HI : Hid (l.take (pre.length + t.post.length) = pre ++ postS [t]) := Lib.hid (by rw [postS_cons, postS_nil, List.nil_append]; exact hi)
  obtain ⟨m0, hm0⟩ : ∃ m0, pre.length + t.post.length = m0 := ⟨_, rfl⟩
  rw [hm0] at HI hm
  rw [hm0]
  have hp : pre.length ≤ 1000 := by omega
  obtain ⟨a', c', rfl⟩ := h.slice
  clear h hi hm0
  have hm1 : m0 ≤ 1000 := by omega
  go_enter Try.func72, Try.ntmps72
  go_wp2_with fail
  go_loop [5, 6] (fun n i => ∃ (m : Nat) (ts : List CT), i = .int .i64 ((m : Int) - 1) ∧ n = .int .i64 (ts.length : Int) ∧ m ≤ l.length ∧ Hid (l.take m = pre ++ postS ts)) (fun _ i => (intOf i + 1).toNat)
  case atStart => exact ⟨m0, [t], rfl, rfl, hm, HI⟩
  case round =>
    obtain ⟨m, ts, rfl, rfl, hml, HT⟩ := hrel
    clear HI
    match ts, HT with
    | [], HT =>
      have hmp : m = pre.length := by
        have := congrArg List.length HT.out
        rw [postS_nil, List.append_nil, List.length_take, Nat.min_eq_left hml] at this
        exact this
      subst hmp
      clear HT
      go_wp2_with fail
      go_ret
      exact ⟨congrArg (fun z : Int => Ending.returned (.int .i64 z)) (by omega), rfl⟩
    | t :: q, HT =>
      obtain ⟨hk, hmA, hx, htk⟩ := take_last (A := pre ++ postS (t.kids ++ q)) (x := t.top) hml (by rw [HT.out, top_post, List.append_assoc])
      have HT2 := Lib.hid htk
      have hql : (t.kids ++ q).length ≤ (pre ++ postS (t.kids ++ q)).length := by
        have h1 := postS_len (t.kids ++ q)
        have h2 : (pre ++ postS (t.kids ++ q)).length = pre.length + (postS (t.kids ++ q)).length := List.length_append
        omega
      generalize hA : (pre ++ postS (t.kids ++ q)).length = n at *
      have HA := Lib.hid hA
      obtain ⟨b2, o2, c2, hv2, hc2, hcell2⟩ := HX.out.some (by omega)
      simp only [Value.slice.injEq] at hv2
      obtain ⟨rfl, _, rfl⟩ := hv2
      obtain ⟨r0, r1, r2⟩ := hcell2.at n hk
      rw [hx] at r0 r1 r2
      subst hmA
      have hm1 : ((n + 1 : Nat) : Int) - 1 = n := by omega
      rw [hm1]
      clear hcell2 hc2 hx htk hA HT r1 r2
      rw [List.length_append] at hql
      cases t with
      | tt =>
        have HT3 : Hid (l.take n = pre ++ postS q) := HT2
        simp only [CT.top, CT.kids, List.length_nil, Nat.zero_add] at r0 hql
        go_wp2_with fail
        go_round
        case rel => exact ⟨n, q, by go_num, by simp, by omega, HT3⟩
        case measure => simp [intOf]
      | is o v =>
        have HT3 : Hid (l.take n = pre ++ postS q) := HT2
        simp only [CT.top, CT.kids, List.length_nil, Nat.zero_add] at r0 hql
        go_wp2_with fail
        go_round
        case rel => exact ⟨n, q, by go_num, by simp, by omega, HT3⟩
        case measure => simp [intOf]
      | no t =>
        have HT3 : Hid (l.take n = pre ++ postS (t :: q)) := HT2
        simp only [CT.top, CT.kids, List.length_cons, List.length_nil, Nat.zero_add] at r0 hql
        go_wp2_with fail
        go_round
        case rel => exact ⟨n, t :: q, by go_num, by simp, by omega, HT3⟩
        case measure => simp [intOf]
      | and a b =>
        have HT3 : Hid (l.take n = pre ++ postS (b :: a :: q)) := HT2
        simp only [CT.top, CT.kids, List.length_cons, List.length_nil, Nat.zero_add] at r0 hql
        go_wp2_with fail
        go_round
        case rel => exact ⟨n, b :: a :: q, by go_num, by simp, by omega, HT3⟩
        case measure => simp [intOf]
      | or a b =>
        have HT3 : Hid (l.take n = pre ++ postS (b :: a :: q)) := HT2
        simp only [CT.top, CT.kids, List.length_cons, List.length_nil, Nat.zero_add] at r0 hql
        go_wp2_with fail
        go_round
        case rel => exact ⟨n, b :: a :: q, by go_num, by simp, by omega, HT3⟩
        case measure => simp [intOf]

/-- How tightly a kind of node binds. -/
theorem spec_level (t : CT) (w : World) : Calls Try.prog 75 #[.int .i64 t.top.kind] w fun e w' => e = .returned (.int .i64 (t.level : Int)) ∧ w = w' := by
  cases t <;> (simp only [CT.top, CT.level]; go_enter Try.func75, Try.ntmps75; go_wp2_with fail; go_ret; exact ⟨rfl, rfl⟩)

/-- A text is returned. -/
def TextRes (s : ByteArray) (w : World) (e : Ending) (w' : World) : Prop := e = .returned (.string s) ∧ Below w.heap.size w w'

/-- The last node of a subtree. -/
theorem node_at {l pre : List CN} {t : CT} (hi : l.take (pre.length + t.post.length) = pre ++ t.post) (hm : pre.length + t.post.length ≤ l.length) :
    ∃ n, ∃ hk : n < l.length, pre.length + t.post.length = n + 1 ∧ l[n]'hk = t.top ∧ l.take n = pre ++ postS t.kids ∧ n = pre.length + (postS t.kids).length := by
  have e : t.post = postS t.kids ++ [t.top] := by have := top_post t []; rwa [postS_cons, postS_nil, List.nil_append, List.append_nil] at this
  have hp : pre ++ t.post = (pre ++ postS t.kids) ++ [t.top] := by rw [List.append_assoc, ← e]
  obtain ⟨hk, h1, h2, h3⟩ := take_last (A := pre ++ postS t.kids) (x := t.top) hm (hi.trans hp)
  exact ⟨_, hk, h1, h2, h3, List.length_append⟩
theorem sub_take {l A B : List CN} {n : Nat} (h : l.take n = A ++ B) (hn : n = (A ++ B).length) : l.take A.length = A := by
  have h2 := congrArg (List.take A.length) h
  rw [List.take_take, Nat.min_eq_left (by rw [hn, List.length_append]; omega)] at h2
  rw [h2]
  simp
theorem par_no {lv k : Nat} {s : ByteArray} (h : ¬lv < k) : par lv k s = s := if_neg h
theorem par_yes {lv k : Nat} {s : ByteArray} (h : lv < k) : par lv k s = (tOpen ++ s) ++ tShut := if_pos h
theorem size_max {s : ByteArray} (h : s.size ≤ 1000) : s.size ≤ maxLen := by unfold maxLen; omega

/-- l6Format writes this subtree. -/
def FmtC (t : CT) : Prop := ∀ (v : Value) (l pre : List CN) (k : Nat) (i : Int) (w : World), t.ok → CN.Is w v l → l.length ≤ 30 → l.take (pre.length + t.post.length) = pre ++ t.post → pre.length + t.post.length ≤ l.length →
    i = ((pre.length + t.post.length : Nat) : Int) - 1 → k ≤ 3 → Calls Try.prog 61 #[v, .int .i64 i, .int .i64 (k : Int)] w (TextRes (t.fmt k) w)

set_option maxRecDepth 100000 in
set_option maxHeartbeats 1000000 in
theorem fmt_tt : FmtC .tt := by
    intro v l pre k i w hok h hl hi hm he hk
    obtain ⟨n, hkn, hn1, hnx, htk, hnl⟩ := node_at hi hm
    have hin : i = (n : Int) := by omega
    subst hin
    have HNL := Lib.hid hnl
    clear hnl
    have HX := Lib.hid h
    have HTK := Lib.hid htk
    obtain ⟨a', c', rfl⟩ := h.slice
    obtain ⟨b2, o2, c2, hv2, hc2, hcell2⟩ := HX.out.some (by omega)
    simp only [Value.slice.injEq] at hv2
    obtain ⟨rfl, _, rfl⟩ := hv2
    obtain ⟨r0, r1, r2⟩ := hcell2.at n hkn
    rw [hnx] at r0 r1 r2
    simp only [CT.top] at r0 r1 r2
    have HSZ := Lib.hid (fmt_size (.tt) k hok)
    have HLV := Lib.hid (spec_level (.tt))
    simp only [CT.top, CT.level] at HLV
    clear h hi he hcell2 hc2 hnx htk
    go_enter Try.func61, Try.ntmps61
    go_upto_region 3 with fail
    have HG := heap_alloc_new w (.cells #[.int .i64 0, .string eB, .string eB] 43)
    have HB := (Below.refl w.heap.size w).alloc (Nat.le_refl _) (.cells #[.int .i64 0, .string eB, .string eB] 43)
    generalize w.alloc (.cells #[.int .i64 0, .string eB, .string eB] 43) = w1 at *
    clear r0 r1 r2
    have g0 := cell_of_row _ _ 0 _ _ _ HG
    have g1 := cell_of_row _ _ 1 _ _ _ HG
    have g2 := cell_of_row _ _ 2 _ _ _ HG
    have HY : Hid (CT.fmt .tt k = tTrue) := Lib.hid (par_no (by omega))
    go_wp2_with fail
    refine (HLV.out _).mono ?_
    rintro e w9 ⟨rfl, rfl⟩
    have hb9 : ¬(3 : Int) < (k : Int) := by omega
    go_wp2_with fail
    go_ret
    exact ⟨by rw [HY.out]; rfl, HB⟩
set_option maxRecDepth 100000 in
set_option maxHeartbeats 1000000 in
theorem fmt_is (o u : ByteArray) : FmtC (.is o u) := by
    intro v l pre k i w hok h hl hi hm he hk
    obtain ⟨n, hkn, hn1, hnx, htk, hnl⟩ := node_at hi hm
    have hin : i = (n : Int) := by omega
    subst hin
    have HNL := Lib.hid hnl
    clear hnl
    have HX := Lib.hid h
    have HTK := Lib.hid htk
    obtain ⟨a', c', rfl⟩ := h.slice
    obtain ⟨b2, o2, c2, hv2, hc2, hcell2⟩ := HX.out.some (by omega)
    simp only [Value.slice.injEq] at hv2
    obtain ⟨rfl, _, rfl⟩ := hv2
    obtain ⟨r0, r1, r2⟩ := hcell2.at n hkn
    rw [hnx] at r0 r1 r2
    simp only [CT.top] at r0 r1 r2
    have HSZ := Lib.hid (fmt_size (.is o u) k hok)
    have HLV := Lib.hid (spec_level (.is o u))
    simp only [CT.top, CT.level] at HLV
    clear h hi he hcell2 hc2 hnx htk
    go_enter Try.func61, Try.ntmps61
    go_upto_region 3 with fail
    have HG := heap_alloc_new w (.cells #[.int .i64 1, .string o, .string u] 43)
    have HB := (Below.refl w.heap.size w).alloc (Nat.le_refl _) (.cells #[.int .i64 1, .string o, .string u] 43)
    generalize w.alloc (.cells #[.int .i64 1, .string o, .string u] 43) = w1 at *
    clear r0 r1 r2
    have g0 := cell_of_row _ _ 0 _ _ _ HG
    have g1 := cell_of_row _ _ 1 _ _ _ HG
    have g2 := cell_of_row _ _ 2 _ _ _ HG
    have HY : Hid (CT.fmt (.is o u) k = (o ++ tEq) ++ u) := Lib.hid (par_no (by omega))
    have hz1 := code_size hok.1
    have hz2 := code_size hok.2
    have hz3 := cat_size o tEq
    have hz4 := cat_size (o ++ tEq) u
    have hz5 : tEq.size = 1 := rfl
    go_wp2_with fail
    refine (HLV.out _).mono ?_
    rintro e w9 ⟨rfl, rfl⟩
    have hb9 : ¬(3 : Int) < (k : Int) := by omega
    go_wp2_with fail
    go_ret
    exact ⟨by rw [HY.out]; rfl, HB⟩
set_option maxRecDepth 100000 in
set_option maxHeartbeats 1000000 in
theorem fmt_no (t : CT) (ih : FmtC t) : FmtC (.no t) := by
    intro v l pre k i w hok h hl hi hm he hk
    obtain ⟨n, hkn, hn1, hnx, htk, hnl⟩ := node_at hi hm
    have hin : i = (n : Int) := by omega
    subst hin
    have HNL := Lib.hid hnl
    clear hnl
    have HX := Lib.hid h
    have HTK := Lib.hid htk
    obtain ⟨a', c', rfl⟩ := h.slice
    obtain ⟨b2, o2, c2, hv2, hc2, hcell2⟩ := HX.out.some (by omega)
    simp only [Value.slice.injEq] at hv2
    obtain ⟨rfl, _, rfl⟩ := hv2
    obtain ⟨r0, r1, r2⟩ := hcell2.at n hkn
    rw [hnx] at r0 r1 r2
    simp only [CT.top] at r0 r1 r2
    have HSZ := Lib.hid (fmt_size (.no t) k hok)
    have HLV := Lib.hid (spec_level (.no t))
    simp only [CT.top, CT.level] at HLV
    clear h hi he hcell2 hc2 hnx htk
    go_enter Try.func61, Try.ntmps61
    go_upto_region 3 with fail
    have HG := heap_alloc_new w (.cells #[.int .i64 2, .string eB, .string eB] 43)
    have HB := (Below.refl w.heap.size w).alloc (Nat.le_refl _) (.cells #[.int .i64 2, .string eB, .string eB] 43)
    generalize w.alloc (.cells #[.int .i64 2, .string eB, .string eB] 43) = w1 at *
    clear r0 r1 r2
    have g0 := cell_of_row _ _ 0 _ _ _ HG
    have g1 := cell_of_row _ _ 1 _ _ _ HG
    have g2 := cell_of_row _ _ 2 _ _ _ HG
    have HY : Hid (CT.fmt (.no t) k = tNot ++ t.fmt 3) := Lib.hid (par_no (by omega))
    have htk2 : l.take n = pre ++ t.post := by rw [HTK.out]; simp [CT.kids, postS]
    have hn2 : n = pre.length + t.post.length := by rw [HNL.out]; simp [CT.kids, postS]
    have HIH : Hid (Calls Try.prog 61 #[.slice (some ⟨b2, o2, none⟩) l.length c', .int .i64 ((n : Int) - 1), .int .i64 (3 : Int)] w1 (TextRes (t.fmt 3) w1)) := Lib.hid (ih (.slice (some ⟨b2, o2, none⟩) l.length c') l pre 3 ((n : Int) - 1) w1 hok (HX.out.below HB) hl (by rw [← hn2]; exact htk2) (by omega) (by omega) (Nat.le_refl _))
    have hz1 := fmt_size t 3 hok
    have hz2 := cat_size tNot (t.fmt 3)
    have hz3 : tNot.size = 1 := rfl
    have hz4 : t.post.length ≤ 30 := by omega
    generalize t.fmt 3 = f at *
    clear ih htk2 hn1 hn2 hm
    go_wp2_with fail
    refine HIH.out.mono ?_
    rintro e w2 ⟨rfl, hb⟩
    have HG := blk_below HG hb
    have HB := HB.trans (hb.mono HB.size)
    clear hb g0 g1 g2 HIH
    have g0 := cell_of_row _ _ 0 _ _ _ HG
    go_wp2_with fail
    refine (HLV.out _).mono ?_
    rintro e w9 ⟨rfl, rfl⟩
    have hb9 : ¬(3 : Int) < (k : Int) := by omega
    go_wp2_with fail
    go_ret
    exact ⟨by rw [HY.out]; rfl, HB⟩
set_option maxRecDepth 100000 in
set_option maxHeartbeats 1000000 in
theorem fmt_and (a b : CT) (iha : FmtC a) (ihb : FmtC b) : FmtC (.and a b) := by
    intro v l pre k i w hok h hl hi hm he hk
    obtain ⟨n, hkn, hn1, hnx, htk, hnl⟩ := node_at hi hm
    have hin : i = (n : Int) := by omega
    subst hin
    have HNL := Lib.hid hnl
    clear hnl
    have HX := Lib.hid h
    have HTK := Lib.hid htk
    obtain ⟨a', c', rfl⟩ := h.slice
    obtain ⟨b2, o2, c2, hv2, hc2, hcell2⟩ := HX.out.some (by omega)
    simp only [Value.slice.injEq] at hv2
    obtain ⟨rfl, _, rfl⟩ := hv2
    obtain ⟨r0, r1, r2⟩ := hcell2.at n hkn
    rw [hnx] at r0 r1 r2
    simp only [CT.top] at r0 r1 r2
    have HSZ := Lib.hid (fmt_size (.and a b) k hok)
    have HLV := Lib.hid (spec_level (.and a b))
    simp only [CT.top, CT.level] at HLV
    clear h hi he hcell2 hc2 hnx htk
    go_enter Try.func61, Try.ntmps61
    go_upto_region 3 with fail
    have HG := heap_alloc_new w (.cells #[.int .i64 3, .string eB, .string eB] 43)
    have HB := (Below.refl w.heap.size w).alloc (Nat.le_refl _) (.cells #[.int .i64 3, .string eB, .string eB] 43)
    generalize w.alloc (.cells #[.int .i64 3, .string eB, .string eB] 43) = w1 at *
    clear r0 r1 r2
    have g0 := cell_of_row _ _ 0 _ _ _ HG
    have g1 := cell_of_row _ _ 1 _ _ _ HG
    have g2 := cell_of_row _ _ 2 _ _ _ HG
    have htk2 : l.take n = (pre ++ a.post) ++ b.post := by rw [HTK.out]; simp [CT.kids, postS]
    have hn2 : n = ((pre ++ a.post) ++ b.post).length := by rw [HNL.out]; simp [CT.kids, postS]
    have hn3 : ((pre ++ a.post) ++ b.post).length = (pre ++ a.post).length + b.post.length := List.length_append
    have hn4 : (pre ++ a.post).length = pre.length + a.post.length := List.length_append
    have htk3 := sub_take htk2 hn2
    have HST := Lib.hid (spec_start (.slice (some ⟨b2, o2, none⟩) l.length c') l (pre ++ a.post) b ((n : Int) - 1) w1 (HX.out.below HB) (by omega) (by rw [← hn3, ← hn2]; exact htk2) (by omega) (by omega))
    have HIA : Hid (∀ W, Below w.heap.size w W → Calls Try.prog 61 #[.slice (some ⟨b2, o2, none⟩) l.length c', .int .i64 (((pre ++ a.post).length : Int) - 1), .int .i64 (2 : Int)] W (TextRes (a.fmt 2) W)) := Lib.hid (fun W hB => iha _ l pre 2 _ W hok.1 (HX.out.below hB) hl (by rw [← hn4]; exact htk3) (by omega) (by omega) (by omega))
    have HIB : Hid (∀ W, Below w.heap.size w W → Calls Try.prog 61 #[.slice (some ⟨b2, o2, none⟩) l.length c', .int .i64 ((n : Int) - 1), .int .i64 (3 : Int)] W (TextRes (b.fmt 3) W)) := Lib.hid (fun W hB => ihb _ l (pre ++ a.post) 3 _ W hok.2 (HX.out.below hB) hl (by rw [← hn3, ← hn2]; exact htk2) (by omega) (by omega) (by omega))
    have hz1 := fmt_size a 2 hok.1
    have hz2 := fmt_size b 3 hok.2
    have hza : a.post.length + b.post.length ≤ 30 := by omega
    have HYES : Hid (2 < k → CT.fmt (.and a b) k = (tOpen ++ ((a.fmt 2 ++ tAnd) ++ b.fmt 3)) ++ tShut) := Lib.hid (fun h => par_yes h)
    have HNO : Hid (¬2 < k → CT.fmt (.and a b) k = (a.fmt 2 ++ tAnd) ++ b.fmt 3) := Lib.hid (fun h => par_no h)
    generalize a.fmt 2 = fa at *
    generalize b.fmt 3 = fb at *
    have hz3 := cat_size fa tAnd
    have hz4 := cat_size (fa ++ tAnd) fb
    have hz5 : tAnd.size = 3 := rfl
    have hz6 := cat_size tOpen ((fa ++ tAnd) ++ fb)
    have hz7 := cat_size (tOpen ++ ((fa ++ tAnd) ++ fb)) tShut
    have hz8 : tOpen.size = 1 := rfl
    have hz9 : tShut.size = 1 := rfl
    have hq0 : (pre ++ a.post).length ≤ 30 := by omega
    clear iha ihb htk2 htk3 hn1 hn2 hn3 hn4 hm
    generalize (pre ++ a.post).length = na at *
    go_wp2_with fail
    refine HST.out.mono ?_
    rintro e w2 ⟨rfl, rfl⟩
    go_wp2_with fail
    refine (HIA.out _ HB).mono ?_
    rintro e w2 ⟨rfl, hb⟩
    have HG := blk_below HG hb
    have HB := HB.trans (hb.mono HB.size)
    clear hb g0 g1 g2 HST
    go_wp2_with fail
    refine (HIB.out _ HB).mono ?_
    rintro e w3 ⟨rfl, hb⟩
    have HG := blk_below HG hb
    have HB := HB.trans (hb.mono HB.size)
    clear hb
    have g0 := cell_of_row _ _ 0 _ _ _ HG
    go_wp2_with fail
    refine (HLV.out _).mono ?_
    rintro e w9 ⟨rfl, rfl⟩
    by_cases hlv : 2 < k
    · have hb9 : (2 : Int) < (k : Int) := by omega
      go_wp2_with fail
      go_ret
      exact ⟨by rw [HYES.out hlv]; rfl, HB⟩
    · have hb9 : ¬(2 : Int) < (k : Int) := by omega
      go_wp2_with fail
      go_ret
      exact ⟨by rw [HNO.out hlv]; rfl, HB⟩
set_option maxRecDepth 100000 in
set_option maxHeartbeats 1000000 in
theorem fmt_or (a b : CT) (iha : FmtC a) (ihb : FmtC b) : FmtC (.or a b) := by
    intro v l pre k i w hok h hl hi hm he hk
    obtain ⟨n, hkn, hn1, hnx, htk, hnl⟩ := node_at hi hm
    have hin : i = (n : Int) := by omega
    subst hin
    have HNL := Lib.hid hnl
    clear hnl
    have HX := Lib.hid h
    have HTK := Lib.hid htk
    obtain ⟨a', c', rfl⟩ := h.slice
    obtain ⟨b2, o2, c2, hv2, hc2, hcell2⟩ := HX.out.some (by omega)
    simp only [Value.slice.injEq] at hv2
    obtain ⟨rfl, _, rfl⟩ := hv2
    obtain ⟨r0, r1, r2⟩ := hcell2.at n hkn
    rw [hnx] at r0 r1 r2
    simp only [CT.top] at r0 r1 r2
    have HSZ := Lib.hid (fmt_size (.or a b) k hok)
    have HLV := Lib.hid (spec_level (.or a b))
    simp only [CT.top, CT.level] at HLV
    clear h hi he hcell2 hc2 hnx htk
    go_enter Try.func61, Try.ntmps61
    go_upto_region 3 with fail
    have HG := heap_alloc_new w (.cells #[.int .i64 4, .string eB, .string eB] 43)
    have HB := (Below.refl w.heap.size w).alloc (Nat.le_refl _) (.cells #[.int .i64 4, .string eB, .string eB] 43)
    generalize w.alloc (.cells #[.int .i64 4, .string eB, .string eB] 43) = w1 at *
    clear r0 r1 r2
    have g0 := cell_of_row _ _ 0 _ _ _ HG
    have g1 := cell_of_row _ _ 1 _ _ _ HG
    have g2 := cell_of_row _ _ 2 _ _ _ HG
    have htk2 : l.take n = (pre ++ a.post) ++ b.post := by rw [HTK.out]; simp [CT.kids, postS]
    have hn2 : n = ((pre ++ a.post) ++ b.post).length := by rw [HNL.out]; simp [CT.kids, postS]
    have hn3 : ((pre ++ a.post) ++ b.post).length = (pre ++ a.post).length + b.post.length := List.length_append
    have hn4 : (pre ++ a.post).length = pre.length + a.post.length := List.length_append
    have htk3 := sub_take htk2 hn2
    have HST := Lib.hid (spec_start (.slice (some ⟨b2, o2, none⟩) l.length c') l (pre ++ a.post) b ((n : Int) - 1) w1 (HX.out.below HB) (by omega) (by rw [← hn3, ← hn2]; exact htk2) (by omega) (by omega))
    have HIA : Hid (∀ W, Below w.heap.size w W → Calls Try.prog 61 #[.slice (some ⟨b2, o2, none⟩) l.length c', .int .i64 (((pre ++ a.post).length : Int) - 1), .int .i64 (1 : Int)] W (TextRes (a.fmt 1) W)) := Lib.hid (fun W hB => iha _ l pre 1 _ W hok.1 (HX.out.below hB) hl (by rw [← hn4]; exact htk3) (by omega) (by omega) (by omega))
    have HIB : Hid (∀ W, Below w.heap.size w W → Calls Try.prog 61 #[.slice (some ⟨b2, o2, none⟩) l.length c', .int .i64 ((n : Int) - 1), .int .i64 (2 : Int)] W (TextRes (b.fmt 2) W)) := Lib.hid (fun W hB => ihb _ l (pre ++ a.post) 2 _ W hok.2 (HX.out.below hB) hl (by rw [← hn3, ← hn2]; exact htk2) (by omega) (by omega) (by omega))
    have hz1 := fmt_size a 1 hok.1
    have hz2 := fmt_size b 2 hok.2
    have hza : a.post.length + b.post.length ≤ 30 := by omega
    have HYES : Hid (1 < k → CT.fmt (.or a b) k = (tOpen ++ ((a.fmt 1 ++ tOr) ++ b.fmt 2)) ++ tShut) := Lib.hid (fun h => par_yes h)
    have HNO : Hid (¬1 < k → CT.fmt (.or a b) k = (a.fmt 1 ++ tOr) ++ b.fmt 2) := Lib.hid (fun h => par_no h)
    generalize a.fmt 1 = fa at *
    generalize b.fmt 2 = fb at *
    have hz3 := cat_size fa tOr
    have hz4 := cat_size (fa ++ tOr) fb
    have hz5 : tOr.size = 3 := rfl
    have hz6 := cat_size tOpen ((fa ++ tOr) ++ fb)
    have hz7 := cat_size (tOpen ++ ((fa ++ tOr) ++ fb)) tShut
    have hz8 : tOpen.size = 1 := rfl
    have hz9 : tShut.size = 1 := rfl
    have hq0 : (pre ++ a.post).length ≤ 30 := by omega
    clear iha ihb htk2 htk3 hn1 hn2 hn3 hn4 hm
    generalize (pre ++ a.post).length = na at *
    go_wp2_with fail
    refine HST.out.mono ?_
    rintro e w2 ⟨rfl, rfl⟩
    go_wp2_with fail
    refine (HIA.out _ HB).mono ?_
    rintro e w2 ⟨rfl, hb⟩
    have HG := blk_below HG hb
    have HB := HB.trans (hb.mono HB.size)
    clear hb g0 g1 g2 HST
    go_wp2_with fail
    refine (HIB.out _ HB).mono ?_
    rintro e w3 ⟨rfl, hb⟩
    have HG := blk_below HG hb
    have HB := HB.trans (hb.mono HB.size)
    clear hb
    have g0 := cell_of_row _ _ 0 _ _ _ HG
    go_wp2_with fail
    refine (HLV.out _).mono ?_
    rintro e w9 ⟨rfl, rfl⟩
    by_cases hlv : 1 < k
    · have hb9 : (1 : Int) < (k : Int) := by omega
      go_wp2_with fail
      go_ret
      exact ⟨by rw [HYES.out hlv]; rfl, HB⟩
    · have hb9 : ¬(1 : Int) < (k : Int) := by omega
      go_wp2_with fail
      go_ret
      exact ⟨by rw [HNO.out hlv]; rfl, HB⟩
theorem spec_format : ∀ t : CT, FmtC t
  | .tt => fmt_tt
  | .is o u => fmt_is o u
  | .no t => fmt_no t (spec_format t)
  | .and a b => fmt_and a b (spec_format a) (spec_format b)
  | .or a b => fmt_or a b (spec_format a) (spec_format b)

/-- The text of a condition; none for another list. -/
noncomputable def fmtB (l : List CN) : ByteArray :=
  match CT.runs [] l with
  | some [t] => if condB l = true then t.fmt 1 else eB
  | _ => eB
theorem fmtB_no {l : List CN} (h : condB l = false) : fmtB l = eB := by
  unfold fmtB
  split
  · rw [h]; rfl
  · rfl
theorem fmtB_yes {t : CT} (h : t.ok) (hl : t.post.length ≤ 30) : fmtB t.post = t.fmt 1 := by
  unfold fmtB
  rw [CT.runs_post t [] h]
  exact if_pos (condB_yes (cond_post h hl))

set_option maxRecDepth 100000 in
set_option maxHeartbeats 1000000 in
theorem spec_formatCond (v : Value) (l : List CN) (w : World) (h : CN.Is w v l) (hs : ∀ r, r ∈ l → CN.Sz r) (hl : l.length ≤ maxLen) :
    Calls Try.prog 32 #[v] w (TextRes (fmtB l) w) := by
  have HC := Lib.hid (spec_isCond v l w h hs hl)
  have HX := Lib.hid h
  obtain ⟨a', c', rfl⟩ := h.slice
  clear h hs hl
  rcases Bool.eq_false_or_eq_true (condB l) with hc | hc
  · obtain ⟨t, hok, rfl, hln⟩ := cond_tree (condB_iff.1 hc)
    have HT := Lib.hid (fmtB_yes hok hln)
    have HOK := Lib.hid hok
    have hpos := CT.post_pos t
    have HF : Hid (∀ W, Below w.heap.size w W → Calls Try.prog 61 #[.slice a' t.post.length c', .int .i64 ((t.post.length : Int) - 1), .int .i64 (1 : Int)] W (TextRes (t.fmt 1) W)) := Lib.hid (fun W hB => spec_format t _ t.post [] 1 _ W hok (HX.out.below hB) hln (by simp) (by simp) (by simp) (by omega))
    rw [hc] at HC
    clear hc hok
    go_enter Try.func32, Try.ntmps32
    go_wp2_with fail
    refine HC.out.mono ?_
    rintro e w1 ⟨rfl, hb⟩
    go_wp2_with fail
    refine (HF.out _ hb).mono ?_
    rintro e w2 ⟨rfl, hb2⟩
    go_wp2_with fail
    go_ret
    exact ⟨by rw [HT.out]; rfl, hb.trans (hb2.mono hb.size)⟩
  · have HT := Lib.hid (fmtB_no hc)
    rw [hc] at HC
    clear hc
    go_enter Try.func32, Try.ntmps32
    go_wp2_with fail
    refine HC.out.mono ?_
    rintro e w1 ⟨rfl, hb⟩
    go_wp2_with fail
    go_ret
    exact ⟨by rw [HT.out]; rfl, hb⟩
end Go.Proofs.Ytghofgjlmfdnpaa
