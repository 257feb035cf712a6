/-
 The draws of the laws on conditions: l6Leaf, l6Draw.
-/
import Derived.Test.YtmnncinpepeocaaGreatBuDr
import Derived.Test.YtmnncinpepeocaaGreatBuRec
import Derived.Test.YtmnncinpepeocaaGreatCondOwn
import Derived.Test.YtmnncinpepeocaaGreatBuCond
import Derived.Test.YtmnncinpepeocaaGreatBuA
import Derived.WalkKit
import Derived.WalkSpells
import Derived.WalkSmall
import Derived.BigQuiet
import Derived.Laws.AppendOwn
import Derived.Deep.QuietTactic
import Derived.Deep.DeepCutAuto
import Derived.Lib.Hide
namespace Go.Proofs.YtmnncinpepeocaaGreat
open Go.RowKit

/-- A node drawn. -/
def DrewN (B b : Nat) (a : Option Addr) (n c : Nat) (w : World) (e : Ending) (w' : World) : Prop := ∃ x : CN, e = .returned x.val ∧ x.opt.size ≤ 1000 ∧ x.vl.size ≤ 1000 ∧ Drawn B b a n c w w'
/-- Nodes drawn, the call's own. -/
def DrewL (B b : Nat) (a : Option Addr) (n c K : Nat) (w : World) (e : Ending) (w' : World) : Prop :=
 ∃ (g q : Nat) (l : List CN), e = .returned (.slice (some ⟨g, 0, none⟩) l.length q) ∧ 1 ≤ l.length ∧ l.length ≤ K ∧ (∀ r, r ∈ l → r.opt.size ≤ 1000 ∧ r.vl.size ≤ 1000) ∧
  w'.ownsRow w.heap.size 145 3 (.slice (some ⟨g, 0, none⟩) l.length q) l.length (CN.cells l) ∧ Drawn B b a n c w w'

set_option maxRecDepth 100000 in
set_option maxHeartbeats 2000000 in
theorem l6_leaf (B b : Nat) (a : Option Addr) (n c : Nat) (w : World) (hn : n ≤ 1048576) (hcode : CodeAt B w a n) (hcur : CurAt B w b a n c) (hBw : B ≤ w.heap.size) :
 Calls Tryz.prog 127 #[.pointer (some ⟨b, 0, none⟩)] w (DrewN B b a n c w) := by
 have hlt := hcur.lt
 have HC := Lib.hid (hcode.alloc hBw (.cells #[.int .i64 0, .string eB, .string eB] 145))
 have HU := Lib.hid (hcur.alloc (.cells #[.int .i64 0, .string eB, .string eB] 145))
 have HG := heap_alloc_new w (.cells #[.int .i64 0, .string eB, .string eB] 145)
 clear hcode hcur
 go_enter Tryz.func127, Tryz.ntmps127
 go_wp2_with fail
 refine (l1_once B b a n c 9 _ hn HC.out HU.out (by omega) (by omega) (by simp; omega)).mono ?_
 rintro e w1 ⟨x, rfl, hd⟩
 have HG1 := Drawn.blk hd HG (by omega)
 have HC1 := Lib.hid (HC.out.below (hd.below (by simp; omega)))
 have HD1 := Lib.hid hd.ofAlloc
 have hs1 := hd.ofAlloc.grown.size
 clear hd HG HC HU
 cases x with
 | true =>
  have HG2 := heap_setCell_same _ _ 2 _ _ (.string eB) (heap_setCell_same _ _ 1 _ _ (.string eB) (heap_setCell_same _ _ 0 _ _ (.int .i64 0) HG1))
  have HD2 := Lib.hid (((HD1.out.set1 hlt (Nat.le_refl _) (i := 0) (x := .int .i64 0)).set1 hlt (Nat.le_refl _) (i := 1) (x := .string eB)).set1 hlt (Nat.le_refl _) (i := 2) (x := .string eB))
  have q0 := cell_of_row _ _ 0 _ _ _ HG1
  have q1 := cell_of_row _ _ 1 _ _ _ HG1
  have q2 := cell_of_row _ _ 2 _ _ _ HG1
  have f0 := frozen_of_row _ _ 0 _ _ HG1
  have f1 := frozen_of_row _ _ 1 _ _ HG1
  have f2 := frozen_of_row _ _ 2 _ _ HG1
  go_wp2_with fail
  exact bodyPost_ret (v := .agg #[.int .i64 0, .string eB, .string eB]) (results_cell_row Tryz.results127 _ _ _ _ _ _ _ rfl HG2 Tryz.underlying145 rfl (by kernel_rfl)) rfl ⟨⟨0, eB, eB⟩, rfl, by decide, by decide, HD2.out⟩
 | false =>
  have hT1 := Lib.hid (texts_new w1 9 [{ data := #[67, 79, 76, 79, 82] }, { data := #[83, 73, 90, 69] }, { data := #[76, 73, 68] }] (by intro z hz; simp only [List.mem_cons, List.mem_nil_iff, or_false] at hz; rcases hz with rfl | rfl | rfl <;> decide))
  have HC1a := Lib.hid (HC1.out.alloc (show B ≤ w1.heap.size by omega) (.cells #[.string { data := #[67, 79, 76, 79, 82] }, .string { data := #[83, 73, 90, 69] }, .string { data := #[76, 73, 68] }] 9))
  have HU1 := Lib.hid (HD1.out.cur.alloc (.cells #[.string { data := #[67, 79, 76, 79, 82] }, .string { data := #[83, 73, 90, 69] }, .string { data := #[76, 73, 68] }] 9))
  go_wp2_with fail
  refine (l1_pick B b w1.heap.size 3 a n c _ hn HC1a.out HU1.out (by omega) (by omega) (by simp; omega) (by omega) hT1.out).mono ?_
  rintro e w2 ⟨o, rfl, ho, hd⟩
  have HG2 := Drawn.blk hd.ofAlloc HG1 (by omega)
  have HC2 := Lib.hid (HC1.out.below (hd.ofAlloc.below (by omega)))
  have HD2 := Lib.hid (HD1.out.trans hd.ofAlloc)
  have hs2 := hd.ofAlloc.grown.size
  clear hd HG1 HC1 HD1 HU1 HC1a hT1
  have hT2 := Lib.hid (texts_new w2 9 [{ data := #[88] }, { data := #[89] }, { data := #[90] }] (by intro z hz; simp only [List.mem_cons, List.mem_nil_iff, or_false] at hz; rcases hz with rfl | rfl | rfl <;> decide))
  have HC2a := Lib.hid (HC2.out.alloc (show B ≤ w2.heap.size by omega) (.cells #[.string { data := #[88] }, .string { data := #[89] }, .string { data := #[90] }] 9))
  have HU2 := Lib.hid (HD2.out.cur.alloc (.cells #[.string { data := #[88] }, .string { data := #[89] }, .string { data := #[90] }] 9))
  go_wp2_with fail
  refine (l1_pick B b w2.heap.size 3 a n c _ hn HC2a.out HU2.out (by omega) (by omega) (by simp; omega) (by omega) hT2.out).mono ?_
  rintro e w3 ⟨u, rfl, hu, hd⟩
  have HG3 := Drawn.blk hd.ofAlloc HG2 (by omega)
  have HD3 := Lib.hid (HD2.out.trans hd.ofAlloc)
  clear hd HG2 HC2 HD2 HU2 HC2a hT2
  have HG4 := heap_setCell_same _ _ 2 _ _ (.string u) (heap_setCell_same _ _ 1 _ _ (.string o) (heap_setCell_same _ _ 0 _ _ (.int .i64 1) HG3))
  have HD4 := Lib.hid (((HD3.out.set1 hlt (Nat.le_refl _) (i := 0) (x := .int .i64 1)).set1 hlt (Nat.le_refl _) (i := 1) (x := .string o)).set1 hlt (Nat.le_refl _) (i := 2) (x := .string u))
  have q0 := cell_of_row _ _ 0 _ _ _ HG3
  have q1 := cell_of_row _ _ 1 _ _ _ HG3
  have q2 := cell_of_row _ _ 2 _ _ _ HG3
  have f0 := frozen_of_row _ _ 0 _ _ HG3
  have f1 := frozen_of_row _ _ 1 _ _ HG3
  have f2 := frozen_of_row _ _ 2 _ _ HG3
  go_wp2_with fail
  exact bodyPost_ret (v := .agg #[.int .i64 1, .string o, .string u]) (results_cell_row Tryz.results127 _ _ _ _ _ _ _ rfl HG4 Tryz.underlying145 rfl (by kernel_rfl)) rfl ⟨⟨1, o, u⟩, rfl, ho, hu, HD4.out⟩

theorem sz_push {l : List CN} {k : Int} (h : ∀ r, r ∈ l → r.opt.size ≤ 1000 ∧ r.vl.size ≤ 1000) : ∀ r, r ∈ l ++ [(⟨k, eB, eB⟩ : CN)] → r.opt.size ≤ 1000 ∧ r.vl.size ≤ 1000 := fun r hr => by
 rcases List.mem_append.1 hr with hr | hr
 · exact h r hr
 · obtain rfl := List.mem_singleton.1 hr
   exact ⟨Nat.zero_le _, Nat.zero_le _⟩
theorem sz_app {l m : List CN} (h : ∀ r, r ∈ l → r.opt.size ≤ 1000 ∧ r.vl.size ≤ 1000) (h2 : ∀ r, r ∈ m → r.opt.size ≤ 1000 ∧ r.vl.size ≤ 1000) : ∀ r, r ∈ l ++ m → r.opt.size ≤ 1000 ∧ r.vl.size ≤ 1000 := fun r hr => by
 rcases List.mem_append.1 hr with hr | hr
 · exact h r hr
 · exact h2 r hr
/-- How many nodes a draw of this depth has at most. -/
def kD : Nat → Nat
 | 0 => 1
 | d + 1 => 2 * kD d + 1
theorem kD_pos : ∀ d, 1 ≤ kD d
 | 0 => Nat.le_refl _
 | d + 1 => by show 1 ≤ 2 * kD d + 1; omega
/-- A draw of this depth. -/
def DrawC (B b : Nat) (a : Option Addr) (n c d : Nat) : Prop := ∀ (w : World), n ≤ 1048576 → CodeAt B w a n → CurAt B w b a n c → B ≤ w.heap.size →
 Calls Tryz.prog 122 #[.pointer (some ⟨b, 0, none⟩), .int .i64 (d : Int)] w (DrewL B b a n c (kD d) w)

set_option maxRecDepth 100000 in
set_option maxHeartbeats 2000000 in
theorem l6_draw0 (B b : Nat) (a : Option Addr) (n c : Nat) : DrawC B b a n c 0 := by
 intro w hn hcode hcur hBx
 have hlt := hcur.lt
 have HCx := Lib.hid hcode
 have HUx := Lib.hid hcur
 have HDx : Hid (Drawn B b a n c w w) := Lib.hid ⟨hcur, ⟨rfl, rfl, rfl, Nat.le_refl _, fun _ _ _ => rfl⟩⟩
 have hkk := kD_pos 0
 clear hcode hcur
 go_enter Tryz.func122, Tryz.ntmps122
 go_wp2_with fail
 refine (l6_leaf B b a n c _ hn HCx.out HUx.out hBx).mono ?_
 rintro e w2 ⟨x, rfl, hx1, hx2, hd⟩
 have HD2 := Lib.hid (HDx.out.trans hd)
 have hs2 := HD2.out.grown.size
 clear hd
 obtain ⟨kind, opt, vl⟩ := x
 unfold CN.val
 simp only at hx1 hx2
 have HO2 := Lib.hid (own_downL (World.ownsRow_lit w2 #[.int .i64 kind, .string opt, .string vl] 1 (Nat.le_refl _) (by unfold maxLen; omega) rfl (e := 145) (size := 3)) hs2)
 have HD3 := Lib.hid (HD2.out.al hlt (.cells #[.int .i64 kind, .string opt, .string vl] 145))
 go_wp2_with fail
 go_ret
 exact ⟨_, _, [⟨kind, opt, vl⟩], rfl, Nat.le_refl _, by show 1 ≤ _; omega, fun r hr => (by obtain rfl := List.mem_singleton.1 hr; exact ⟨hx1, hx2⟩), HO2.out, HD3.out⟩

set_option maxRecDepth 100000 in
set_option maxHeartbeats 2000000 in
theorem l6_drawS (B b : Nat) (a : Option Addr) (n c d : Nat) (hd3 : d ≤ 2) (ih : DrawC B b a n c d) (hk : kD d ≤ 7) : DrawC B b a n c (d + 1) := by
 obtain ⟨i0, hi0, hz0, hz1, hz2⟩ := info_parts CN.info
 intro w hn hcode hcur hBw
 have hlt := hcur.lt
 have HC := Lib.hid hcode
 have HU := Lib.hid hcur
 have HIH : Hid (∀ (w : World), n ≤ 1048576 → CodeAt B w a n → CurAt B w b a n c → B ≤ w.heap.size → Calls Tryz.prog 122 #[.pointer (some ⟨b, 0, none⟩), .int .i64 (d : Int)] w (DrewL B b a n c (kD d) w)) := Lib.hid ih
 have hkd : kD (d + 1) = 2 * kD d + 1 := rfl
 have hkp := kD_pos d
 have hkk : 2 * kD d + 1 ≤ kD (d + 1) := by omega
 have e1 : ((d + 1 : Nat) : Int) = (d : Int) + 1 := by omega
 rw [e1]
 have n1 : ¬(d : Int) + 1 ≤ 0 := by omega
 clear hcode hcur ih hkd e1
 generalize kD (d + 1) = KK at *
 generalize kD d = K at *
 go_enter Tryz.func122, Tryz.ntmps122
 go_wp2_with fail
 refine (l1_once B b a n c 3 _ hn HC.out HU.out (by omega) (by omega) hBw).mono ?_
 rintro e w1 ⟨y, rfl, hd⟩
 have HDx := Lib.hid hd
 have HCx := Lib.hid (HC.out.below (hd.below hBw))
 have HUx := Lib.hid hd.cur
 have hs1 := hd.grown.size
 have hBx : B ≤ w1.heap.size := by omega
 clear hd HC HU
 cases y with
 | true =>
  go_wp2_with fail
  refine (l6_leaf B b a n c _ hn HCx.out HUx.out hBx).mono ?_
  rintro e w2 ⟨x, rfl, hx1, hx2, hd⟩
  have HD2 := Lib.hid (HDx.out.trans hd)
  have hs2 := HD2.out.grown.size
  clear hd
  obtain ⟨kind, opt, vl⟩ := x
  unfold CN.val
  simp only at hx1 hx2
  have HO2 := Lib.hid (own_downL (World.ownsRow_lit w2 #[.int .i64 kind, .string opt, .string vl] 1 (Nat.le_refl _) (by unfold maxLen; omega) rfl (e := 145) (size := 3)) hs2)
  have HD3 := Lib.hid (HD2.out.al hlt (.cells #[.int .i64 kind, .string opt, .string vl] 145))
  go_wp2_with fail
  go_ret
  exact ⟨_, _, [⟨kind, opt, vl⟩], rfl, Nat.le_refl _, by show 1 ≤ _; omega, fun r hr => (by obtain rfl := List.mem_singleton.1 hr; exact ⟨hx1, hx2⟩), HO2.out, HD3.out⟩
 | false =>
  go_wp2_with fail
  refine (HIH.out _ hn HCx.out HUx.out hBx).mono ?_
  rintro e w2 ⟨g2, q2, l, rfl, hl1, hlK, hlz, hown, hd⟩
  have HZ2 := Lib.hid hlz
  have HO2 := Lib.hid (own_downL hown hs1)
  have HD2 := Lib.hid (HDx.out.trans hd)
  have hs2 := HD2.out.grown.size
  have HC2 := Lib.hid (HCx.out.below (hd.below hBx))
  clear hlz hown hd HDx HCx HUx
  obtain ⟨N, hN⟩ : ∃ N, l.length = N := ⟨_, rfl⟩
  have HN := Lib.hid hN
  rw [hN] at HO2 hl1 hlK ⊢
  clear hN
  go_wp2_with fail
  refine (l1_below B b a n c 3 _ hn HC2.out HD2.out.cur (by omega) (by omega) (by omega)).mono ?_
  rintro e w3 ⟨m, rfl, hm0, hm1, hd⟩
  have HO3 := Lib.hid (own_hdC HO2.out hd.grown hlt)
  have HD3 := Lib.hid (HD2.out.trans hd)
  have hs3 := HD3.out.grown.size
  have HC3 := Lib.hid (HC2.out.below (hd.below (by omega)))
  clear hd HO2 HD2 HC2
  rcases (show m = 0 ∨ m = 1 ∨ m = 2 by omega) with rfl | rfl | rfl
  · go_wp2_with (at_builtin; refine wpList_append_own _ rfl _ _ 92 rfl w.heap.size 145 i0 (.agg #[.int .i64 0, .string ByteArray.empty, .string ByteArray.empty]) 3 40 Tryz.underlying92 hi0 hz0 hz1 hz2 rfl (by decide) _ N (CN.cells l) rfl (HO3.out.alloc _) ⟨w3.heap.size, 0, none⟩ 1 1 [.int .i64 2, .string eB, .string eB] rfl rfl (newL3 _ _ _ _ _) (by intro u hu; simp at hu; rcases hu with rfl | rfl | rfl <;> rfl) (by unfold maxLen; omega) (by omega) (by simp; omega) ?_)
    intro v9 w9 ho9 hg9 _
    obtain ⟨g9, c9, rfl⟩ := own_someL ho9
    have HD9 := Lib.hid ((HD3.out.al hlt (.cells #[.int .i64 2, .string eB, .string eB] 145)).row hlt hg9 (fun j hj => (HO3.out.lt j hj).1))
    have HO9 : Hid (w9.ownsRow w.heap.size 145 3 (.slice (some ⟨g9, 0, none⟩) (N + 1) c9) (N + 1) (CN.cells (l ++ [⟨2, eB, eB⟩]))) := Lib.hid (by rw [← CN.cells_push]; exact ho9)
    clear ho9 hg9
    go_wp2_with fail
    go_ret
    exact ⟨g9, c9, l ++ [⟨2, eB, eB⟩], by rw [List.length_append, HN.out]; rfl, by rw [List.length_append]; simp, by rw [List.length_append, List.length_singleton, HN.out]; have := hkk; omega, sz_push HZ2.out, by rw [List.length_append, List.length_singleton, HN.out]; exact HO9.out, HD9.out⟩
  · go_wp2_with fail
    refine (HIH.out _ hn HC3.out HD3.out.cur (by omega)).mono ?_
    rintro e w4 ⟨g4, q4, r, rfl, hr1, hrK, hrz, hown, hd⟩
    have HZ4 := Lib.hid (sz_app HZ2.out hrz)
    have HR4 := Lib.hid (own_downL hown hs3)
    have HO4 := Lib.hid (own_hdC HO3.out hd.grown hlt)
    have HD4 := Lib.hid (HD3.out.trans hd)
    have hs4 := HD4.out.grown.size
    clear hrz hown hd HO3 HD3 HC3
    obtain ⟨M, hM⟩ : ∃ M, r.length = M := ⟨_, rfl⟩
    have HM := Lib.hid hM
    rw [hM] at HR4 hr1 hrK ⊢
    clear hM
    have HRL : Hid ((CN.cells r).length = M * 3) := Lib.hid (by rw [CN.cells_length, HM.out])
    go_wp2_with (at_builtin; refine wpList_append_own _ rfl _ _ 92 rfl w.heap.size 145 i0 (.agg #[.int .i64 0, .string ByteArray.empty, .string ByteArray.empty]) 3 40 Tryz.underlying92 hi0 hz0 hz1 hz2 rfl (by decide) _ N (CN.cells l) rfl HO4.out ⟨g4, 0, none⟩ M q4 (CN.cells r) rfl HRL.out (own_newsL HR4.out) (CN.one r) (by unfold maxLen; omega) (by omega) (by omega) ?_)
    intro v5 w5 ho hg _
    have hv5 : ∃ g5 c5, v5 = .slice (some ⟨g5, 0, none⟩) (N + M) c5 := by
     rcases ho.2 with ⟨_, h1⟩ | ⟨g5, cap, cur, h1, _⟩
     · omega
     · exact ⟨g5, cap, h1⟩
    obtain ⟨g5, c5, rfl⟩ := hv5
    have HLL : Hid ((l ++ r).length = N + M) := Lib.hid (by rw [List.length_append, HN.out, HM.out])
    have HO5 : Hid (w5.ownsRow w.heap.size 145 3 (.slice (some ⟨g5, 0, none⟩) (N + M) c5) (N + M) (CN.cells (l ++ r))) := Lib.hid (by rw [← CN.cells_append]; exact ho)
    have HD5 := Lib.hid (HD4.out.row hlt hg (fun j hj => (HO4.out.lt j hj).1))
    have hs5 := HD5.out.grown.size
    clear ho hg HO4 HD4 HR4 HRL
    generalize l ++ r = lr at *
    go_wp2_with (at_builtin; refine wpList_append_own _ rfl _ _ 92 rfl w.heap.size 145 i0 (.agg #[.int .i64 0, .string ByteArray.empty, .string ByteArray.empty]) 3 40 Tryz.underlying92 hi0 hz0 hz1 hz2 rfl (by decide) _ (N + M) (CN.cells lr) rfl (HO5.out.alloc _) ⟨w5.heap.size, 0, none⟩ 1 1 [.int .i64 3, .string eB, .string eB] rfl rfl (newL3 _ _ _ _ _) (by intro u hu; simp at hu; rcases hu with rfl | rfl | rfl <;> rfl) (by unfold maxLen; omega) (by omega) (by simp; omega) ?_)
    intro v9 w9 ho9 hg9 _
    obtain ⟨g9, c9, rfl⟩ := own_someL ho9
    have HD9 := Lib.hid ((HD5.out.al hlt (.cells #[.int .i64 3, .string eB, .string eB] 145)).row hlt hg9 (fun j hj => (HO5.out.lt j hj).1))
    have HO9 : Hid (w9.ownsRow w.heap.size 145 3 (.slice (some ⟨g9, 0, none⟩) ((N + M) + 1) c9) ((N + M) + 1) (CN.cells (lr ++ [⟨3, eB, eB⟩]))) := Lib.hid (by rw [← CN.cells_push]; exact ho9)
    clear ho9 hg9
    go_wp2_with fail
    go_ret
    exact ⟨g9, c9, lr ++ [⟨3, eB, eB⟩], by rw [List.length_append, HLL.out]; rfl, by rw [List.length_append]; simp, by rw [List.length_append, List.length_singleton, HLL.out]; have := hkk; omega, sz_push HZ4.out, by rw [List.length_append, List.length_singleton, HLL.out]; exact HO9.out, HD9.out⟩
  · go_wp2_with fail
    refine (HIH.out _ hn HC3.out HD3.out.cur (by omega)).mono ?_
    rintro e w4 ⟨g4, q4, r, rfl, hr1, hrK, hrz, hown, hd⟩
    have HZ4 := Lib.hid (sz_app HZ2.out hrz)
    have HR4 := Lib.hid (own_downL hown hs3)
    have HO4 := Lib.hid (own_hdC HO3.out hd.grown hlt)
    have HD4 := Lib.hid (HD3.out.trans hd)
    have hs4 := HD4.out.grown.size
    clear hrz hown hd HO3 HD3 HC3
    obtain ⟨M, hM⟩ : ∃ M, r.length = M := ⟨_, rfl⟩
    have HM := Lib.hid hM
    rw [hM] at HR4 hr1 hrK ⊢
    clear hM
    have HRL : Hid ((CN.cells r).length = M * 3) := Lib.hid (by rw [CN.cells_length, HM.out])
    go_wp2_with (at_builtin; refine wpList_append_own _ rfl _ _ 92 rfl w.heap.size 145 i0 (.agg #[.int .i64 0, .string ByteArray.empty, .string ByteArray.empty]) 3 40 Tryz.underlying92 hi0 hz0 hz1 hz2 rfl (by decide) _ N (CN.cells l) rfl HO4.out ⟨g4, 0, none⟩ M q4 (CN.cells r) rfl HRL.out (own_newsL HR4.out) (CN.one r) (by unfold maxLen; omega) (by omega) (by omega) ?_)
    intro v5 w5 ho hg _
    have hv5 : ∃ g5 c5, v5 = .slice (some ⟨g5, 0, none⟩) (N + M) c5 := by
     rcases ho.2 with ⟨_, h1⟩ | ⟨g5, cap, cur, h1, _⟩
     · omega
     · exact ⟨g5, cap, h1⟩
    obtain ⟨g5, c5, rfl⟩ := hv5
    have HLL : Hid ((l ++ r).length = N + M) := Lib.hid (by rw [List.length_append, HN.out, HM.out])
    have HO5 : Hid (w5.ownsRow w.heap.size 145 3 (.slice (some ⟨g5, 0, none⟩) (N + M) c5) (N + M) (CN.cells (l ++ r))) := Lib.hid (by rw [← CN.cells_append]; exact ho)
    have HD5 := Lib.hid (HD4.out.row hlt hg (fun j hj => (HO4.out.lt j hj).1))
    have hs5 := HD5.out.grown.size
    clear ho hg HO4 HD4 HR4 HRL
    generalize l ++ r = lr at *
    go_wp2_with (at_builtin; refine wpList_append_own _ rfl _ _ 92 rfl w.heap.size 145 i0 (.agg #[.int .i64 0, .string ByteArray.empty, .string ByteArray.empty]) 3 40 Tryz.underlying92 hi0 hz0 hz1 hz2 rfl (by decide) _ (N + M) (CN.cells lr) rfl (HO5.out.alloc _) ⟨w5.heap.size, 0, none⟩ 1 1 [.int .i64 4, .string eB, .string eB] rfl rfl (newL3 _ _ _ _ _) (by intro u hu; simp at hu; rcases hu with rfl | rfl | rfl <;> rfl) (by unfold maxLen; omega) (by omega) (by simp; omega) ?_)
    intro v9 w9 ho9 hg9 _
    obtain ⟨g9, c9, rfl⟩ := own_someL ho9
    have HD9 := Lib.hid ((HD5.out.al hlt (.cells #[.int .i64 4, .string eB, .string eB] 145)).row hlt hg9 (fun j hj => (HO5.out.lt j hj).1))
    have HO9 : Hid (w9.ownsRow w.heap.size 145 3 (.slice (some ⟨g9, 0, none⟩) ((N + M) + 1) c9) ((N + M) + 1) (CN.cells (lr ++ [⟨4, eB, eB⟩]))) := Lib.hid (by rw [← CN.cells_push]; exact ho9)
    clear ho9 hg9
    go_wp2_with fail
    go_ret
    exact ⟨g9, c9, lr ++ [⟨4, eB, eB⟩], by rw [List.length_append, HLL.out]; rfl, by rw [List.length_append]; simp, by rw [List.length_append, List.length_singleton, HLL.out]; have := hkk; omega, sz_push HZ4.out, by rw [List.length_append, List.length_singleton, HLL.out]; exact HO9.out, HD9.out⟩

theorem l6_draw (B b : Nat) (a : Option Addr) (n c : Nat) : DrawC B b a n c 3 :=
 l6_drawS B b a n c 2 (by decide) (l6_drawS B b a n c 1 (by decide) (l6_drawS B b a n c 0 (by decide) (l6_draw0 B b a n c) (by decide)) (by decide)) (by decide)

theorem l6_draw1 (B b : Nat) (a : Option Addr) (n c : Nat) : DrawC B b a n c 1 := l6_drawS B b a n c 0 (by omega) (l6_draw0 B b a n c) (by decide)
end Go.Proofs.YtmnncinpepeocaaGreat
