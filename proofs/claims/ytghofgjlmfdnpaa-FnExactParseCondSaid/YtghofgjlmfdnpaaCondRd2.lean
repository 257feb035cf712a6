/-
  The program's reader in memory: Cut, take, add.
-/
import Derived.Test.YtghofgjlmfdnpaaCondRd1
import Derived.WalkKit
import Derived.WalkSpells
import Derived.WalkSmall
import Derived.Laws.AppendOwn
import Derived.BigQuiet
import Derived.Deep.QuietTactic
import Derived.Deep.DeepCutAuto
import Derived.Deep.RegionLaw
import Derived.Lib.Hide
import Derived.Lib.IndexLaws
import Derived.IntWalk
namespace Go.Proofs.Ytghofgjlmfdnpaa
open Go.RowKit

theorem ib_lt (s : ByteArray) (c : UInt8) : Lib.indexByte s.data.toList c < (s.size : Int) := by
  by_cases h : 0 ≤ Lib.indexByte s.data.toList c
  · obtain ⟨k, hk⟩ : ∃ k : Nat, Lib.indexByte s.data.toList c = (k : Int) := ⟨(Lib.indexByte s.data.toList c).toNat, by omega⟩
    have h1 := (List.getElem?_eq_some_iff.1 (Lib.indexByte_some hk).1).1
    have h2 : s.data.toList.length = s.size := by simp
    omega
  · omega
theorem rd_yes (p : Option Addr) (y : Bool) (w : World) (hy : y = true) : Calls Try.prog 45 #[.pointer p, .bool y] w fun e w' => e = .returned (.tuple #[]) ∧ w = w' := by
  subst hy
  exact rd_require p true w
theorem rd_nope (p : Option Addr) (y : Bool) (w : World) (hy : y = false) : Calls Try.prog 45 #[.pointer p, .bool y] w fun e w' => e = .panicked [{ v := panV, recovered := false }] ∧ w = w' := by
  subst hy
  exact (rd_require p false w).mono fun _ _ ⟨h1, h2⟩ => ⟨h1, h2⟩

/-- A cut's answer. -/
def CutRes (s : ByteArray) (w : World) (e : Ending) (w' : World) : Prop := e = .returned (.tuple #[.string (pCut s).1, .string (pCut s).2, .bool (decide (0 ≤ Lib.indexByte s.data.toList 61))]) ∧ Below w.heap.size w w'

set_option maxRecDepth 100000 in
set_option maxHeartbeats 1000000 in
theorem lite_cut (s : ByteArray) (w : World) (hs : s.size ≤ 1048576) : Calls Try.prog 97 #[.string s, .string tEq] w (CutRes s w) := by
  have HI := Lib.hid (Try.stringslite_Index_one s 61)
  have hlt := ib_lt s 61
  have HP : Hid (pCut s = if 0 ≤ Lib.indexByte s.data.toList 61 then (s.extract 0 (Lib.indexByte s.data.toList 61).toNat, s.extract ((Lib.indexByte s.data.toList 61).toNat + 1) s.size) else (s, eB)) := Lib.hid rfl
  obtain ⟨z, hz0⟩ : ∃ z, Lib.indexByte s.data.toList 61 = z := ⟨_, rfl⟩
  have HZ := Lib.hid hz0
  rw [hz0] at HI hlt HP
  clear hz0
  by_cases hz : 0 ≤ z
  · obtain ⟨k, rfl⟩ : ∃ k : Nat, z = (k : Int) := ⟨z.toNat, by omega⟩
    have HC : Hid (pCut s = (s.extract 0 k, s.extract (k + 1) s.size)) := Lib.hid (by rw [HP.out, if_pos hz]; simp)
    have HD : Hid (decide (0 ≤ Lib.indexByte s.data.toList 61) = true) := Lib.hid (by rw [HZ.out]; exact decide_eq_true hz)
    go_enter Try.func97, Try.ntmps97
    go_wp2_with fail
    refine (HI.out _).mono ?_
    rintro e w1 ⟨rfl, rfl⟩
    go_wp2_with fail
    have n1 : IntKind.i64.wrap ((k : Int) + 1) = (k : Int) + 1 := IntWalk.i64_in _ (by omega)
    have n2 : (0 : Int) ≤ (k : Int) + 1 := by omega
    have n3 : ((k : Int) + 1).toNat = k + 1 := by omega
    have n4 : (k : Int) + 1 ≤ (s.size : Int) := by omega
    have n5 : (k : Int) ≤ (s.size : Int) := by omega
    go_quiet (fail)
    clear n1
    go_wp2_with fail
    go_ret3
    exact ⟨by rw [HC.out, HD.out]; rfl, below_drewN (Below.refl _ _) _⟩
  · have hd : decide (0 ≤ z) = false := decide_eq_false hz
    have HD : Hid (decide (0 ≤ Lib.indexByte s.data.toList 61) = false) := Lib.hid (by rw [HZ.out]; exact hd)
    have HC : Hid (pCut s = (s, eB)) := Lib.hid (by rw [HP.out, if_neg hz])
    go_enter Try.func97, Try.ntmps97
    go_wp2_with fail
    refine (HI.out _).mono ?_
    rintro e w1 ⟨rfl, rfl⟩
    go_wp2_with fail
    go_ret3
    exact ⟨by rw [HC.out, HD.out]; rfl, Below.refl _ _⟩

set_option maxRecDepth 100000 in
set_option maxHeartbeats 1000000 in
theorem lib_cut (s : ByteArray) (w : World) (hs : s.size ≤ 1048576) : Calls Try.prog 91 #[.string s, .string tEq] w (CutRes s w) := by
  have HL := Lib.hid (lite_cut s w hs)
  go_enter Try.func91, Try.ntmps91
  go_wp2_with fail
  refine HL.out.mono ?_
  rintro e w1 ⟨rfl, hb⟩
  have HB := Lib.hid hb
  clear hb
  go_wp2_with fail
  go_ret3
  exact ⟨rfl, HB.out⟩

set_option maxRecDepth 100000 in
set_option maxHeartbeats 1000000 in
theorem rd_take (b : Nat) (q t : ByteArray) (dp : Int) (l : List CN) (w : World) (h : RdI b q dp l w) :
    Calls Try.prog 79 #[.pointer (some ⟨b, 0, none⟩), .string t] w fun e w' => e = .returned (.bool (takes q t 0)) ∧ RdI b (if takes q t 0 = true then pRest q t else q) dp l w' ∧ Below b w w' := by
  have H := Lib.hid h
  have HL := Lib.hid (lib_cutPrefix q t)
  obtain ⟨a, c, HG, _, hb⟩ := h
  have g0 := cell_of_row _ _ 0 _ _ _ HG
  have f0 := frozen_of_row _ _ 0 _ _ HG
  obtain ⟨y, hy⟩ : ∃ y, takes q t 0 = y := ⟨_, rfl⟩
  rw [hy] at HL ⊢
  clear hy
  generalize (if y = true then pRest q t else q) = q' at *
  go_enter Try.func79, Try.ntmps79
  go_wp2_with fail
  refine (HL.out _).mono ?_
  rintro e w1 ⟨rfl, rfl⟩
  go_wp2_with fail
  go_ret
  exact ⟨rfl, H.out.rest, (Below.refl _ _).setCell (p := ⟨b, 0, none⟩) (Nat.le_refl _) _⟩

theorem grown_drewI {w w' : World} {o : Option Nat} (h : w.drew.grownBy w' o) : w.grownBy w' o := ⟨h.os, h.tape, h.output, h.size, h.block⟩
/-- A node put behind. -/
theorem pushedI {b : Nat} {q : ByteArray} {l : List CN} {dp : Int} {w w4 : World} {v : Value} {g4 c4 : Nat} {o : Obj} {x : CN} (HG : w.heap[b]? = some (.cells #[.string q, .int .i64 dp, v] 66 (0, 0)))
    (HO : w.ownsRow (b + 1) 43 3 v l.length (CN.cells l)) (ho : w4.ownsRow (b + 1) 43 3 (.slice (some ⟨g4, 0, none⟩) (l.length + 1) c4) (l.length + 1) (CN.cells l ++ [.int .i64 x.kind, .string x.opt, .string x.vl])) (hg : (w.alloc o).grownBy w4 v.ownBlock) :
    RdI b q dp (l ++ [x]) (w4.setCell ⟨b, 2, none⟩ (.slice (some ⟨g4, 0, none⟩) (l.length + 1) c4)) ∧ Below b w (w4.setCell ⟨b, 2, none⟩ (.slice (some ⟨g4, 0, none⟩) (l.length + 1) c4)) := by
  have hb := lt_of_heap HG
  have hv : ∀ k, v.ownBlock = some k → b + 1 ≤ k := fun k hk => (HO.lt k hk).1
  have HG4 := blk_grownL (blk_alloc HG o) hg (fun e => by have := hv b e.symm; omega)
  have hs := hg.size
  have hsz : b < w4.heap.size := by have : w.heap.size + 1 ≤ w4.heap.size := by simpa using hs
                                    omega
  refine ⟨⟨some ⟨g4, 0, none⟩, c4, ?_, ?_, by simpa using hsz⟩, ?_⟩
  · rw [List.length_append, List.length_singleton]
    exact heap_setCell_same w4 b 2 _ _ _ HG4
  · have h2 := own_setI (g := b) (j := 2) ho (by omega) (.slice (some ⟨g4, 0, none⟩) (l.length + 1) c4)
    rw [← CN.cells_push, List.length_append, List.length_singleton]
    exact h2
  · have h1 : Below b w w4 := (((Below.refl b w).alloc (by omega) o)).grown hg (by simp; omega) (fun j hj => by have := hv j hj; omega)
    exact h1.setCell (Nat.le_refl _) _

set_option maxRecDepth 100000 in
set_option maxHeartbeats 2000000 in
theorem rd_add (b : Nat) (q : ByteArray) (dp : Int) (l : List CN) (x : CN) (w : World) (h : RdI b q dp l w) (hl : l.length ≤ 30) :
    Calls Try.prog 80 #[.pointer (some ⟨b, 0, none⟩), x.val] w (PRes (pAdd x (q, l)) b dp w) := by
  obtain ⟨i0, hi0, hz0, hz1, hz2⟩ := info_parts CN.info
  obtain ⟨kind, opt, vl⟩ := x
  unfold CN.val
  simp only
  have hb := h.lt
  have HX0 := heap_alloc_new w (.cells #[.int .i64 kind, .string opt, .string vl] 43)
  have HB0 : Below w.heap.size w (w.alloc (.cells #[.int .i64 kind, .string opt, .string vl] 43)) := (Below.refl _ _).alloc (Nat.le_refl _) _
  obtain ⟨a, c, HG, HO, _⟩ := h.below HB0
  have HO := Lib.hid HO
  have g2 := cell_of_row _ _ 2 _ _ _ HG
  have f2 := frozen_of_row _ _ 2 _ _ HG
  have hnb : ∀ k, (Value.slice a l.length c).ownBlock = some k → k ≠ w.heap.size := fun k hk e => by
    obtain ⟨a', c', HG', HO', _⟩ := h
    have e1 : (Value.slice a l.length c) = (Value.slice a' l.length c') := by
      have h1 := (HB0.block b hb).trans HG'
      rw [HG] at h1
      simp only [Option.some.injEq, Obj.cells.injEq, Array.mk.injEq, List.cons.injEq, and_true, true_and] at h1
      exact h1
    rw [e1] at hk
    have := (HO'.lt k hk).2
    omega
  have hsz : b < (w.alloc (.cells #[.int .i64 kind, .string opt, .string vl] 43)).heap.size := by simp; omega
  clear h
  by_cases h30 : l.length < 30
  rotate_left
  · have HN : Hid (pAdd ⟨kind, opt, vl⟩ (q, l) = none) := Lib.hid (if_neg h30)
    go_enter Try.func80, Try.ntmps80
    go_wp2_with fail
    refine (rd_nope _ _ _ (decide_eq_false (by omega))).mono ?_
    rintro e w1 ⟨rfl, rfl⟩
    exact ⟨rfl, Or.inr ⟨HN.out, rfl, HB0.mono (by omega)⟩⟩
  have HN : Hid (pAdd ⟨kind, opt, vl⟩ (q, l) = some (q, l ++ [⟨kind, opt, vl⟩])) := Lib.hid (if_pos h30)
  go_enter Try.func80, Try.ntmps80
  go_wp2_with fail
  refine (rd_yes _ _ _ (decide_eq_true (by omega))).mono ?_
  rintro e w1 ⟨rfl, rfl⟩
  generalize w.alloc (.cells #[.int .i64 kind, .string opt, .string vl] 43) = w0 at *
  have x0 := cell_of_row _ _ 0 _ _ _ HX0
  have x1 := cell_of_row _ _ 1 _ _ _ HX0
  have x2 := cell_of_row _ _ 2 _ _ _ HX0
  go_wp2_with fail
  have HOA : Hid (((w0.alloc (.cells #[.int .i64 kind, .string opt, .string vl] 43)).drew).ownsRow (b + 1) 43 3 (.slice a l.length c) l.length (CN.cells l)) := Lib.hid (HO.out.alloc (.cells #[.int .i64 kind, .string opt, .string vl] 43))
  have HNW : Hid (∀ j u, [Value.int .i64 kind, .string opt, .string vl][j]? = some u → ((w0.alloc (.cells #[.int .i64 kind, .string opt, .string vl] 43)).drew).cell? ((⟨w0.heap.size, 0, none⟩ : Addr).add j) = some u) := Lib.hid (newL3 w0 (.int .i64 kind) (.string opt) (.string vl) 43)
  have h1c : ∀ u ∈ [Value.int .i64 kind, .string opt, .string vl], u.oneCell' = true := by intro z hz; simp at hz; rcases hz with rfl | rfl | rfl <;> rfl
  have hbs : b + 1 ≤ ((w0.alloc (.cells #[.int .i64 kind, .string opt, .string vl] 43)).drew).heap.size := by show b + 1 ≤ (w0.alloc (.cells #[.int .i64 kind, .string opt, .string vl] 43)).heap.size; simp; omega
  go_region_law (first | (refine step_append_ownL rfl (.tmp 16) (.tmp 18) 24 rfl (b + 1) 43 i0 (.agg #[.int .i64 0, .string ByteArray.empty, .string ByteArray.empty]) 3 40 Try.underlying24 hi0 hz0 hz1 hz2 rfl (by decide) (.slice a l.length c) l.length (CN.cells l) (by simp [Act.eval]) HOA.out ⟨w0.heap.size, 0, none⟩ 1 1 [.int .i64 kind, .string opt, .string vl] (by simp [Act.eval]) rfl HNW.out h1c (by unfold maxLen; omega) (by omega) hbs ?_; intro v6 w6 ho6 hg6; obtain ⟨g6, c6, rfl⟩ := own_someL ho6; have HPS := Lib.hid (pushedI (x := ⟨kind, opt, vl⟩) HG HO.out ho6 (grown_drewI hg6)); have HG6 := blk_grownL (blk_alloc HG (.cells #[.int .i64 kind, .string opt, .string vl] 43)) (grown_drewI hg6) (fun e => by have := (HO.out.lt b e.symm).1; omega); have p2 := cell_of_row _ _ 2 _ _ _ HG6; have pf2 := frozen_of_row _ _ 2 _ _ HG6; clear ho6 hg6))
  all_goals
    go_wp2_with fail
    first | go_end0 | go_ret
    exact Or.inl ⟨_, HN.out, rfl, HPS.out.1, (HB0.mono (by omega)).trans HPS.out.2⟩
end Go.Proofs.Ytghofgjlmfdnpaa
