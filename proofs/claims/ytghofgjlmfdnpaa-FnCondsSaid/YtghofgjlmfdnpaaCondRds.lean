import Derived.Test.YtghofgjlmfdnpaaCondPure
import Derived.Test.YtghofgjlmfdnpaaCondLibr
import Derived.Test.YtghofgjlmfdnpaaCondImA
import Derived.Test.YtghofgjlmfdnpaaCondNeg
import Derived.Test.YtghofgjlmfdnpaaCNTo
import Derived.WalkKit
import Derived.WalkSpells
import Derived.WalkSmall
import Derived.Laws.AppendOwn
import Derived.BigQuiet
import Derived.Deep.QuietTactic
import Derived.Deep.DeepCutAuto
import Derived.Deep.RegionLaw
import Derived.Lib.Hide
import Derived.Lib.IndexLaws
import Derived.IntWalk
namespace Go.Proofs.Ytghofgjlmfdnpaa
open Go.RowKit

/-- The reader at block b: the rest, the depth, the nodes in memory of its own. -/
def RdI (b : Nat) (q : ByteArray) (dp : Int) (l : List CN) (w : World) : Prop :=
  ∃ (a : Option Addr) (c : Nat), w.heap[b]? = some (.cells #[.string q, .int .i64 dp, .slice a l.length c] 66 (0, 0)) ∧ w.ownsRow (b + 1) 43 3 (.slice a l.length c) l.length (CN.cells l) ∧ b < w.heap.size
theorem RdI.lt {b : Nat} {q : ByteArray} {dp : Int} {l : List CN} {w : World} (h : RdI b q dp l w) : b < w.heap.size := by
  obtain ⟨_, _, _, _, h⟩ := h
  exact h
theorem RdI.below {b : Nat} {q : ByteArray} {dp : Int} {l : List CN} {w w' : World} (h : RdI b q dp l w) (hb : Below w.heap.size w w') : RdI b q dp l w' := by
  obtain ⟨a, c, h1, h2, h3⟩ := h
  exact ⟨a, c, (hb.block b h3).trans h1, own_keepL h2 hb, Nat.lt_of_lt_of_le h3 hb.size⟩
theorem own_setI {w : World} {base e size n g j : Nat} {v : Value} {xs : List Value} (h : w.ownsRow base e size v n xs) (hg : g < base) (u : Value) : (w.setCell ⟨g, j, none⟩ u).ownsRow base e size v n xs :=
  h.kept (row := some g) ⟨rfl, rfl, rfl, by simp, fun k _ hk => heap_setCell_other w ⟨g, j, none⟩ k u (fun e => hk (by simp [e]))⟩ (by
    cases hv : v.ownBlock with
    | none => exact Or.inl rfl
    | some k => exact Or.inr (fun e => by have := (h.lt k hv).1; cases e; omega))
theorem RdI.rest {b : Nat} {q q' : ByteArray} {dp : Int} {l : List CN} {w : World} (h : RdI b q dp l w) : RdI b q' dp l (w.setCell ⟨b, 0, none⟩ (.string q')) := by
  obtain ⟨a, c, h1, h2, h3⟩ := h
  exact ⟨a, c, heap_setCell_same w b 0 _ _ _ h1, own_setI h2 (by omega) _, by simpa using h3⟩
theorem RdI.deep {b : Nat} {q : ByteArray} {dp dp' x : Int} {l : List CN} {w : World} (h : RdI b q dp l w) (hx : x = dp') : RdI b q dp' l (w.setCell ⟨b, 1, none⟩ (.int .i64 x)) := by
  subst hx
  obtain ⟨a, c, h1, h2, h3⟩ := h
  exact ⟨a, c, heap_setCell_same w b 1 _ _ _ h1, own_setI h2 (by omega) _, by simpa using h3⟩
/-- What the reader panics with. -/
def panV : Value := .iface 9 (.string ⟨#[110, 111, 32, 116, 101, 120, 116, 32, 111, 102, 32, 97, 32, 99, 111, 110, 100, 105, 116, 105, 111, 110]⟩)
/-- A part of the reader ends so. -/
def PRes (o : Option PS) (b : Nat) (dp : Int) (w : World) (e : Ending) (w' : World) : Prop :=
  (∃ r, o = some r ∧ e = .returned (.tuple #[]) ∧ RdI b r.1 dp r.2 w' ∧ Below b w w') ∨ (o = none ∧ e = .panicked [{ v := panV, recovered := false }] ∧ Below b w w')

set_option maxRecDepth 100000 in
set_option maxHeartbeats 1000000 in
theorem rd_require (p : Option Addr) (y : Bool) (w : World) : Calls Try.prog 45 #[.pointer p, .bool y] w fun e w' => e = (if y = true then .returned (.tuple #[]) else .panicked [{ v := panV, recovered := false }]) ∧ w = w' := by
  cases y with
  | true =>
    go_enter Try.func45, Try.ntmps45
    go_wp2_with fail
    first | go_end0 | go_ret
    exact ⟨rfl, rfl⟩
  | false =>
    go_enter Try.func45, Try.ntmps45
    go_wp2_with fail
    exact ⟨rfl, rfl, rfl⟩

set_option maxRecDepth 100000 in
set_option maxHeartbeats 1000000 in
theorem lib_hasPrefix (s p : ByteArray) (w : World) : Calls Try.prog 92 #[.string s, .string p] w fun e w' => e = .returned (.bool (takes s p 0)) ∧ w = w' := by
  by_cases h1 : p.size ≤ s.size
  · have hd : decide ((p.size : Int) ≤ (s.size : Int)) = true := decide_eq_true (by omega)
    by_cases h2 : s.extract 0 p.size = p
    · have HY : Hid (takes s p 0 = true) := Lib.hid (decide_eq_true ⟨by omega, by rw [Nat.zero_add]; exact h2⟩)
      have b2 := str_eq h2
      clear h2
      go_enter Try.func92, Try.ntmps92
      go_wp2_with fail
      go_ret
      exact ⟨by rw [HY.out]; rfl, rfl⟩
    · have HY : Hid (takes s p 0 = false) := Lib.hid (decide_eq_false (fun h => h2 (by have := h.2; rwa [Nat.zero_add] at this)))
      have b2 := str_ne h2
      clear h2
      go_enter Try.func92, Try.ntmps92
      go_wp2_with fail
      go_ret
      exact ⟨by rw [HY.out]; rfl, rfl⟩
  · have hd : decide ((p.size : Int) ≤ (s.size : Int)) = false := decide_eq_false (by omega)
    have HY : Hid (takes s p 0 = false) := Lib.hid (decide_eq_false (fun h => h1 (by omega)))
    go_enter Try.func92, Try.ntmps92
    go_wp2_with fail
    go_ret
    exact ⟨by rw [HY.out]; rfl, rfl⟩

set_option maxRecDepth 100000 in
set_option maxHeartbeats 1000000 in
theorem lib_cutPrefix (s p : ByteArray) (w : World) : Calls Try.prog 85 #[.string s, .string p] w fun e w' => e = .returned (.tuple #[.string (if takes s p 0 = true then pRest s p else s), .bool (takes s p 0)]) ∧ w = w' := by
  have HH := Lib.hid (lib_hasPrefix s p)
  obtain ⟨y, hy⟩ : ∃ y, takes s p 0 = y := ⟨_, rfl⟩
  rw [hy] at HH ⊢
  cases y with
  | true =>
    have hle := (takes_yes hy).1
    rw [Nat.zero_add] at hle
    have hle' : (p.size : Int) ≤ (s.size : Int) := by omega
    have h0 : (0 : Int) ≤ (p.size : Int) := by omega
    clear hy
    go_enter Try.func85, Try.ntmps85
    go_wp2_with (go_at_call 89; go_in)
    refine (HH.out _).mono ?_
    rintro e w1 ⟨rfl, rfl⟩
    go_wp2_with fail
    go_ret2
    exact ⟨rfl, rfl⟩
  | false =>
    clear hy
    go_enter Try.func85, Try.ntmps85
    go_wp2_with (go_at_call 89; go_in)
    refine (HH.out _).mono ?_
    rintro e w1 ⟨rfl, rfl⟩
    go_wp2_with fail
    go_ret2
    exact ⟨rfl, rfl⟩
end Go.Proofs.Ytghofgjlmfdnpaa

namespace Go.Proofs.Ytghofgjlmfdnpaa
open Go.RowKit

theorem ib_lt (s : ByteArray) (c : UInt8) : Lib.indexByte s.data.toList c < (s.size : Int) := by
  by_cases h : 0 ≤ Lib.indexByte s.data.toList c
  · obtain ⟨k, hk⟩ : ∃ k : Nat, Lib.indexByte s.data.toList c = (k : Int) := ⟨(Lib.indexByte s.data.toList c).toNat, by omega⟩
    have h1 := (List.getElem?_eq_some_iff.1 (Lib.indexByte_some hk).1).1
    have h2 : s.data.toList.length = s.size := by simp
    omega
  · omega
theorem rd_yes (p : Option Addr) (y : Bool) (w : World) (hy : y = true) : Calls Try.prog 45 #[.pointer p, .bool y] w fun e w' => e = .returned (.tuple #[]) ∧ w = w' := by
  subst hy
  exact rd_require p true w
theorem rd_nope (p : Option Addr) (y : Bool) (w : World) (hy : y = false) : Calls Try.prog 45 #[.pointer p, .bool y] w fun e w' => e = .panicked [{ v := panV, recovered := false }] ∧ w = w' := by
  subst hy
  exact (rd_require p false w).mono fun _ _ ⟨h1, h2⟩ => ⟨h1, h2⟩

/-- A cut's answer. -/
def CutRes (s : ByteArray) (w : World) (e : Ending) (w' : World) : Prop := e = .returned (.tuple #[.string (pCut s).1, .string (pCut s).2, .bool (decide (0 ≤ Lib.indexByte s.data.toList 61))]) ∧ Below w.heap.size w w'

set_option maxRecDepth 100000 in
set_option maxHeartbeats 1000000 in
theorem lite_cut (s : ByteArray) (w : World) (hs : s.size ≤ 1048576) : Calls Try.prog 97 #[.string s, .string tEq] w (CutRes s w) := by
  have HI := Lib.hid (Try.stringslite_Index_one s 61)
  have hlt := ib_lt s 61
  have HP : Hid (pCut s = if 0 ≤ Lib.indexByte s.data.toList 61 then (s.extract 0 (Lib.indexByte s.data.toList 61).toNat, s.extract ((Lib.indexByte s.data.toList 61).toNat + 1) s.size) else (s, eB)) := Lib.hid rfl
  obtain ⟨z, hz0⟩ : ∃ z, Lib.indexByte s.data.toList 61 = z := ⟨_, rfl⟩
  have HZ := Lib.hid hz0
  rw [hz0] at HI hlt HP
  clear hz0
  by_cases hz : 0 ≤ z
  · obtain ⟨k, rfl⟩ : ∃ k : Nat, z = (k : Int) := ⟨z.toNat, by omega⟩
    have HC : Hid (pCut s = (s.extract 0 k, s.extract (k + 1) s.size)) := Lib.hid (by rw [HP.out, if_pos hz]; simp)
    have HD : Hid (decide (0 ≤ Lib.indexByte s.data.toList 61) = true) := Lib.hid (by rw [HZ.out]; exact decide_eq_true hz)
    go_enter Try.func97, Try.ntmps97
    go_wp2_with fail
    refine (HI.out _).mono ?_
    rintro e w1 ⟨rfl, rfl⟩
    go_wp2_with fail
    have n1 : IntKind.i64.wrap ((k : Int) + 1) = (k : Int) + 1 := IntWalk.i64_in _ (by omega)
    have n2 : (0 : Int) ≤ (k : Int) + 1 := by omega
    have n3 : ((k : Int) + 1).toNat = k + 1 := by omega
    have n4 : (k : Int) + 1 ≤ (s.size : Int) := by omega
    have n5 : (k : Int) ≤ (s.size : Int) := by omega
    go_quiet (fail)
    clear n1
    go_wp2_with fail
    go_ret3
    exact ⟨by rw [HC.out, HD.out]; rfl, below_drewN (Below.refl _ _) _⟩
  · have hd : decide (0 ≤ z) = false := decide_eq_false hz
    have HD : Hid (decide (0 ≤ Lib.indexByte s.data.toList 61) = false) := Lib.hid (by rw [HZ.out]; exact hd)
    have HC : Hid (pCut s = (s, eB)) := Lib.hid (by rw [HP.out, if_neg hz])
    go_enter Try.func97, Try.ntmps97
    go_wp2_with fail
    refine (HI.out _).mono ?_
    rintro e w1 ⟨rfl, rfl⟩
    go_wp2_with fail
    go_ret3
    exact ⟨by rw [HC.out, HD.out]; rfl, Below.refl _ _⟩

set_option maxRecDepth 100000 in
set_option maxHeartbeats 1000000 in
theorem lib_cut (s : ByteArray) (w : World) (hs : s.size ≤ 1048576) : Calls Try.prog 91 #[.string s, .string tEq] w (CutRes s w) := by
  have HL := Lib.hid (lite_cut s w hs)
  go_enter Try.func91, Try.ntmps91
  go_wp2_with fail
  refine HL.out.mono ?_
  rintro e w1 ⟨rfl, hb⟩
  have HB := Lib.hid hb
  clear hb
  go_wp2_with fail
  go_ret3
  exact ⟨rfl, HB.out⟩

set_option maxRecDepth 100000 in
set_option maxHeartbeats 1000000 in
theorem rd_take (b : Nat) (q t : ByteArray) (dp : Int) (l : List CN) (w : World) (h : RdI b q dp l w) :
    Calls Try.prog 79 #[.pointer (some ⟨b, 0, none⟩), .string t] w fun e w' => e = .returned (.bool (takes q t 0)) ∧ RdI b (if takes q t 0 = true then pRest q t else q) dp l w' ∧ Below b w w' := by
  have H := Lib.hid h
  have HL := Lib.hid (lib_cutPrefix q t)
  obtain ⟨a, c, HG, _, hb⟩ := h
  have g0 := cell_of_row _ _ 0 _ _ _ HG
  have f0 := frozen_of_row _ _ 0 _ _ HG
  obtain ⟨y, hy⟩ : ∃ y, takes q t 0 = y := ⟨_, rfl⟩
  rw [hy] at HL ⊢
  clear hy
  generalize (if y = true then pRest q t else q) = q' at *
  go_enter Try.func79, Try.ntmps79
  go_wp2_with fail
  refine (HL.out _).mono ?_
  rintro e w1 ⟨rfl, rfl⟩
  go_wp2_with fail
  go_ret
  exact ⟨rfl, H.out.rest, (Below.refl _ _).setCell (p := ⟨b, 0, none⟩) (Nat.le_refl _) _⟩

theorem grown_drewI {w w' : World} {o : Option Nat} (h : w.drew.grownBy w' o) : w.grownBy w' o := ⟨h.os, h.tape, h.output, h.size, h.block⟩
/-- A node put behind. -/
theorem pushedI {b : Nat} {q : ByteArray} {l : List CN} {dp : Int} {w w4 : World} {v : Value} {g4 c4 : Nat} {o : Obj} {x : CN} (HG : w.heap[b]? = some (.cells #[.string q, .int .i64 dp, v] 66 (0, 0)))
    (HO : w.ownsRow (b + 1) 43 3 v l.length (CN.cells l)) (ho : w4.ownsRow (b + 1) 43 3 (.slice (some ⟨g4, 0, none⟩) (l.length + 1) c4) (l.length + 1) (CN.cells l ++ [.int .i64 x.kind, .string x.opt, .string x.vl])) (hg : (w.alloc o).grownBy w4 v.ownBlock) :
    RdI b q dp (l ++ [x]) (w4.setCell ⟨b, 2, none⟩ (.slice (some ⟨g4, 0, none⟩) (l.length + 1) c4)) ∧ Below b w (w4.setCell ⟨b, 2, none⟩ (.slice (some ⟨g4, 0, none⟩) (l.length + 1) c4)) := by
  have hb := lt_of_heap HG
  have hv : ∀ k, v.ownBlock = some k → b + 1 ≤ k := fun k hk => (HO.lt k hk).1
  have HG4 := blk_grownL (blk_alloc HG o) hg (fun e => by have := hv b e.symm; omega)
  have hs := hg.size
  have hsz : b < w4.heap.size := by have : w.heap.size + 1 ≤ w4.heap.size := by simpa using hs
                                    omega
  refine ⟨⟨some ⟨g4, 0, none⟩, c4, ?_, ?_, by simpa using hsz⟩, ?_⟩
  · rw [List.length_append, List.length_singleton]
    exact heap_setCell_same w4 b 2 _ _ _ HG4
  · have h2 := own_setI (g := b) (j := 2) ho (by omega) (.slice (some ⟨g4, 0, none⟩) (l.length + 1) c4)
    rw [← CN.cells_push, List.length_append, List.length_singleton]
    exact h2
  · have h1 : Below b w w4 := (((Below.refl b w).alloc (by omega) o)).grown hg (by simp; omega) (fun j hj => by have := hv j hj; omega)
    exact h1.setCell (Nat.le_refl _) _

set_option maxRecDepth 100000 in
set_option maxHeartbeats 2000000 in
theorem rd_add (b : Nat) (q : ByteArray) (dp : Int) (l : List CN) (x : CN) (w : World) (h : RdI b q dp l w) (hl : l.length ≤ 30) :
    Calls Try.prog 80 #[.pointer (some ⟨b, 0, none⟩), x.val] w (PRes (pAdd x (q, l)) b dp w) := by
  obtain ⟨i0, hi0, hz0, hz1, hz2⟩ := info_parts CN.info
  obtain ⟨kind, opt, vl⟩ := x
  unfold CN.val
  simp only
  have hb := h.lt
  have HX0 := heap_alloc_new w (.cells #[.int .i64 kind, .string opt, .string vl] 43)
  have HB0 : Below w.heap.size w (w.alloc (.cells #[.int .i64 kind, .string opt, .string vl] 43)) := (Below.refl _ _).alloc (Nat.le_refl _) _
  obtain ⟨a, c, HG, HO, _⟩ := h.below HB0
  have HO := Lib.hid HO
  have g2 := cell_of_row _ _ 2 _ _ _ HG
  have f2 := frozen_of_row _ _ 2 _ _ HG
  have hnb : ∀ k, (Value.slice a l.length c).ownBlock = some k → k ≠ w.heap.size := fun k hk e => by
    obtain ⟨a', c', HG', HO', _⟩ := h
    have e1 : (Value.slice a l.length c) = (Value.slice a' l.length c') := by
      have h1 := (HB0.block b hb).trans HG'
      rw [HG] at h1
      simp only [Option.some.injEq, Obj.cells.injEq, Array.mk.injEq, List.cons.injEq, and_true, true_and] at h1
      exact h1
    rw [e1] at hk
    have := (HO'.lt k hk).2
    omega
  have hsz : b < (w.alloc (.cells #[.int .i64 kind, .string opt, .string vl] 43)).heap.size := by simp; omega
  clear h
  by_cases h30 : l.length < 30
  rotate_left
  · have HN : Hid (pAdd ⟨kind, opt, vl⟩ (q, l) = none) := Lib.hid (if_neg h30)
    go_enter Try.func80, Try.ntmps80
    go_wp2_with fail
    refine (rd_nope _ _ _ (decide_eq_false (by omega))).mono ?_
    rintro e w1 ⟨rfl, rfl⟩
    exact ⟨rfl, Or.inr ⟨HN.out, rfl, HB0.mono (by omega)⟩⟩
  have HN : Hid (pAdd ⟨kind, opt, vl⟩ (q, l) = some (q, l ++ [⟨kind, opt, vl⟩])) := Lib.hid (if_pos h30)
  go_enter Try.func80, Try.ntmps80
  go_wp2_with fail
  refine (rd_yes _ _ _ (decide_eq_true (by omega))).mono ?_
  rintro e w1 ⟨rfl, rfl⟩
  generalize w.alloc (.cells #[.int .i64 kind, .string opt, .string vl] 43) = w0 at *
  have x0 := cell_of_row _ _ 0 _ _ _ HX0
  have x1 := cell_of_row _ _ 1 _ _ _ HX0
  have x2 := cell_of_row _ _ 2 _ _ _ HX0
  go_wp2_with fail
  have HOA : Hid (((w0.alloc (.cells #[.int .i64 kind, .string opt, .string vl] 43)).drew).ownsRow (b + 1) 43 3 (.slice a l.length c) l.length (CN.cells l)) := Lib.hid (HO.out.alloc (.cells #[.int .i64 kind, .string opt, .string vl] 43))
  have HNW : Hid (∀ j u, [Value.int .i64 kind, .string opt, .string vl][j]? = some u → ((w0.alloc (.cells #[.int .i64 kind, .string opt, .string vl] 43)).drew).cell? ((⟨w0.heap.size, 0, none⟩ : Addr).add j) = some u) := Lib.hid (newL3 w0 (.int .i64 kind) (.string opt) (.string vl) 43)
  have h1c : ∀ u ∈ [Value.int .i64 kind, .string opt, .string vl], u.oneCell' = true := by intro z hz; simp at hz; rcases hz with rfl | rfl | rfl <;> rfl
  have hbs : b + 1 ≤ ((w0.alloc (.cells #[.int .i64 kind, .string opt, .string vl] 43)).drew).heap.size := by show b + 1 ≤ (w0.alloc (.cells #[.int .i64 kind, .string opt, .string vl] 43)).heap.size; simp; omega
  go_region_law (first | (refine step_append_ownL rfl (.tmp 16) (.tmp 18) 24 rfl (b + 1) 43 i0 (.agg #[.int .i64 0, .string ByteArray.empty, .string ByteArray.empty]) 3 40 Try.underlying24 hi0 hz0 hz1 hz2 rfl (by decide) (.slice a l.length c) l.length (CN.cells l) (by simp [Act.eval]) HOA.out ⟨w0.heap.size, 0, none⟩ 1 1 [.int .i64 kind, .string opt, .string vl] (by simp [Act.eval]) rfl HNW.out h1c (by unfold maxLen; omega) (by omega) hbs ?_; intro v6 w6 ho6 hg6; obtain ⟨g6, c6, rfl⟩ := own_someL ho6; have HPS := Lib.hid (pushedI (x := ⟨kind, opt, vl⟩) HG HO.out ho6 (grown_drewI hg6)); have HG6 := blk_grownL (blk_alloc HG (.cells #[.int .i64 kind, .string opt, .string vl] 43)) (grown_drewI hg6) (fun e => by have := (HO.out.lt b e.symm).1; omega); have p2 := cell_of_row _ _ 2 _ _ _ HG6; have pf2 := frozen_of_row _ _ 2 _ _ HG6; clear ho6 hg6))
  all_goals
    go_wp2_with fail
    first | go_end0 | go_ret
    exact Or.inl ⟨_, HN.out, rfl, HPS.out.1, (HB0.mono (by omega)).trans HPS.out.2⟩
end Go.Proofs.Ytghofgjlmfdnpaa

namespace Go.Proofs.Ytghofgjlmfdnpaa
open Go.RowKit

theorem any_lt (chars : List UInt8) : ∀ l : List UInt8, Lib.indexAny l chars < (l.length : Int)
  | [] => by show (-1 : Int) < 0; decide
  | b :: l => by
    have ih := any_lt chars l
    unfold Lib.indexAny
    split
    · simp only [List.length_cons]; omega
    · split
      · simp only [List.length_cons]; omega
      · simp only [List.length_cons]; omega
theorem pEnd_le (q : ByteArray) : pEnd q ≤ q.size := by
  have h1 := any_lt [32, 41] q.data.toList
  have h2 : q.data.toList.length = q.size := by simp
  unfold pEnd
  split
  · exact Nat.le_refl _
  · omega
theorem cut_size (s : ByteArray) : (pCut s).1.size ≤ s.size ∧ (pCut s).2.size ≤ s.size := by
  unfold pCut
  split
  · simp only [ByteArray.size_extract]; omega
  · exact ⟨Nat.le_refl _, Nat.zero_le _⟩

set_option maxRecDepth 100000 in
set_option maxHeartbeats 4000000 in
theorem rd_leaf (b : Nat) (q : ByteArray) (dp : Int) (l : List CN) (w : World) (h : RdI b q dp l w) (hq : q.size ≤ 1048576) (hl : l.length ≤ 30) :
    Calls Try.prog 87 #[.pointer (some ⟨b, 0, none⟩)] w (PRes (pLeaf (q, l)) b dp w) := by
  have H := Lib.hid h
  have hbw := h.lt
  have HI := Lib.hid (idx_stop q w hq)
  have hz1 := Lib.indexAny_ge [32, 41] q.data.toList
  have hz2 := any_lt [32, 41] q.data.toList
  have hz3 : q.data.toList.length = q.size := by simp
  rw [hz3] at hz2
  have hkle := pEnd_le q
  have HK : Hid (pEnd q = if Lib.indexAny q.data.toList [32, 41] < 0 then q.size else (Lib.indexAny q.data.toList [32, 41]).toNat) := Lib.hid rfl
  generalize Lib.indexAny q.data.toList [32, 41] = z at *
  have HLF : Hid (pLeaf (q, l) = if q.extract 0 (pEnd q) = tTrue then pAdd nTrue (q.extract (pEnd q) q.size, l) else if (isCode.codeB (pCut (q.extract 0 (pEnd q))).1 && isCode.codeB (pCut (q.extract 0 (pEnd q))).2) = true then pAdd ⟨1, (pCut (q.extract 0 (pEnd q))).1, (pCut (q.extract 0 (pEnd q))).2⟩ (q.extract (pEnd q) q.size, l) else none) := Lib.hid rfl
  generalize pEnd q = k at *
  obtain ⟨wd, hwd⟩ : ∃ wd, q.extract 0 k = wd := ⟨_, rfl⟩
  have hws : wd.size ≤ q.size := by rw [← hwd, ByteArray.size_extract]; omega
  rw [hwd] at HLF
  have HWD := Lib.hid hwd
  clear hwd hz3
  obtain ⟨a0, c0, HG0, _, _⟩ := h
  have g0 := cell_of_row _ _ 0 _ _ _ HG0
  have hk0 : (k : Int) ≤ (q.size : Int) := by omega
  go_enter Try.func87, Try.ntmps87
  go_wp2_with fail
  refine HI.out.mono ?_
  rintro e w1 ⟨rfl, hb⟩
  have H1 := Lib.hid (H.out.below hb)
  have HB1 := Lib.hid (hb.mono (show b ≤ w.heap.size by omega))
  clear hb g0 HG0 HI
  obtain ⟨a1, c1, HG1, _, hb1⟩ := H1.out
  have g0 := cell_of_row _ _ 0 _ _ _ HG1
  have f0 := frozen_of_row _ _ 0 _ _ HG1
  go_upto_region 1 with fail
  go_upto_if 14 with fail
  go_cut [2] from 13 to 19 (fun x wx => x = .int .i64 (k : Int) ∧ wx = w1)
  case first =>
    by_cases hz : z < 0
    · have HKZ : Hid (k = q.size) := Lib.hid (by rw [HK.out, if_pos hz])
      have hd : decide (z < 0) = true := decide_eq_true hz
      go_wp2_with fail
      go_meet
      exact ⟨by rw [HKZ.out], rfl⟩
    · have HKZ : Hid (z = (k : Int)) := Lib.hid (by rw [HK.out, if_neg hz]; omega)
      have hd : decide (z < 0) = false := decide_eq_false hz
      go_wp2_with fail
      go_meet
      exact ⟨by rw [HKZ.out], rfl⟩
  case rest =>
    obtain ⟨rfl, rfl⟩ := hcut
    have hk1 : (0 : Int) ≤ (k : Int) := by omega
    have HR2 := Lib.hid (H1.out.rest (q' := q.extract k q.size))
    have HB2 := Lib.hid (HB1.out.setCell (p := ⟨b, 0, none⟩) (Nat.le_refl _) (.string (q.extract k q.size)))
    go_upto_region 5 with fail
    generalize wc.setCell ⟨b, 0, none⟩ (.string (q.extract k q.size)) = w2 at *
    rw [HWD.out]
    clear HG1 g0 f0 H1 HB1 HK HWD hz1 hz2 hk0 hk1
    by_cases htt : wd = tTrue
    · have HL2 : Hid (pLeaf (q, l) = pAdd nTrue (q.extract k q.size, l)) := Lib.hid (by rw [HLF.out, if_pos htt])
      have bt : wd.toList = [84, 82, 85, 69] := by rw [htt]; simp
      have HA := Lib.hid (rd_add b (q.extract k q.size) dp l nTrue w2 HR2.out hl)
      unfold CN.val nTrue at HA
      clear htt HLF
      go_wp2_with fail
      refine HA.out.mono ?_
      rintro e w3 (⟨r, ho, rfl, hR, hb⟩ | ⟨ho, rfl, hb⟩)
      · have HO := Lib.hid ho
        have HR3 := Lib.hid hR
        have HB3 := Lib.hid (HB2.out.trans hb)
        clear ho hR hb
        go_wp2_with fail
        (try simp only [Exit.inBlock, Exit.then])
        refine bodyPost_ret (results_none rfl _ _ _) rfl ?_
        exact Or.inl ⟨r, HL2.out.trans HO.out, rfl, HR3.out, HB3.out⟩
      · exact ⟨rfl, Or.inr ⟨HL2.out.trans ho, rfl, HB2.out.trans hb⟩⟩
    · have bt0 : ¬wd.toList = [84, 82, 85, 69] := fun e => by
        have h1 := str_ne htt
        rw [e] at h1
        simp at h1
      have bt : (wd.toList == [84, 82, 85, 69]) = false := beq_eq_false_iff_ne.2 bt0
      have HL2 := Lib.hid (HLF.out.trans (if_neg htt))
      have hcs := cut_size wd
      have HC := Lib.hid (lib_cut wd w2 (by omega))
      have hbw2 := HR2.out.lt
      clear htt HLF bt0
      go_wp2_with fail
      refine HC.out.mono ?_
      rintro e w3 ⟨rfl, hb⟩
      have HR3 := Lib.hid (HR2.out.below hb)
      have HB3 := Lib.hid (HB2.out.trans (hb.mono (show b ≤ w2.heap.size by omega)))
      have hbw3 := HR3.out.lt
      clear hb HC HR2 HB2
      generalize pCut wd = cv at *
      obtain ⟨o, v⟩ := cv
      simp only at hcs HL2
      generalize decide (0 ≤ Lib.indexByte wd.data.toList 61) = yc at *
      have HX := heap_alloc_new w3 (.cells #[.int .i64 1, .string o, .string v] 43)
      have HBX : Below w3.heap.size w3 (w3.alloc (.cells #[.int .i64 1, .string o, .string v] 43)) := (Below.refl _ _).alloc (Nat.le_refl _) _
      have HR4 := Lib.hid (HR3.out.below HBX)
      have HB4 := Lib.hid (HB3.out.trans (HBX.mono (show b ≤ w3.heap.size by omega)))
      go_upto_region 9 with fail
      generalize w3.alloc (.cells #[.int .i64 1, .string o, .string v] 43) = w4 at *
      have x0 := cell_of_row _ _ 0 _ _ _ HX
      have x1 := cell_of_row _ _ 1 _ _ _ HX
      have x2 := cell_of_row _ _ 2 _ _ _ HX
      have HS := Lib.hid (im_sound ⟨1, o, v⟩ w4 (by unfold CN.Sz maxLen; simp only; omega))
      rw [sound_is rfl] at HS
      unfold CN.val at HS
      simp only at HS
      have hw4 := HR4.out.lt
      go_wp2_with fail
      refine HS.out.mono ?_
      rintro e w5 ⟨rfl, hb⟩
      have HX5 := blk_below HX hb
      have HR5 := Lib.hid (HR4.out.below hb)
      have HB5 := Lib.hid (HB4.out.trans (hb.mono (show b ≤ w4.heap.size by omega)))
      clear hb x0 x1 x2 HX HR4 HB4 HS HBX
      generalize (isCode.codeB o && isCode.codeB v) = yb at *
      cases yb with
      | false =>
        go_wp2_with fail
        refine (rd_nope _ _ _ rfl).mono ?_
        rintro e w6 ⟨rfl, rfl⟩
        exact ⟨rfl, Or.inr ⟨HL2.out, rfl, HB5.out⟩⟩
      | true =>
        have x0 := cell_of_row _ _ 0 _ _ _ HX5
        have x1 := cell_of_row _ _ 1 _ _ _ HX5
        have x2 := cell_of_row _ _ 2 _ _ _ HX5
        go_wp2_with fail
        refine (rd_yes _ _ _ rfl).mono ?_
        rintro e w6 ⟨rfl, rfl⟩
        have HA := Lib.hid (rd_add b (q.extract k q.size) dp l ⟨1, o, v⟩ w5 HR5.out hl)
        unfold CN.val at HA
        simp only at HA
        go_wp2_with fail
        refine HA.out.mono ?_
        rintro e w7 (⟨r, ho, rfl, hR, hb⟩ | ⟨ho, rfl, hb⟩)
        · have HO := Lib.hid ho
          have HR7 := Lib.hid hR
          have HB7 := Lib.hid (HB5.out.trans hb)
          clear ho hR hb
          go_wp2_with fail
          first | go_end0 | go_ret
          exact Or.inl ⟨r, HL2.out.trans HO.out, rfl, HR7.out, HB7.out⟩
        · exact ⟨rfl, Or.inr ⟨HL2.out.trans ho, rfl, HB5.out.trans hb⟩⟩
end Go.Proofs.Ytghofgjlmfdnpaa

namespace Go.Proofs.Ytghofgjlmfdnpaa
open Go.RowKit

/-- A part of the reader reads as S. -/
def RdK (F : FuncId) (S : PS → Option PS) (b : Nat) (dp : Int) : Prop :=
  ∀ (q : ByteArray) (l : List CN) (w : World), RdI b q dp l w → q.size ≤ 1048576 → l.length ≤ 30 → Calls Try.prog F #[.pointer (some ⟨b, 0, none⟩)] w (PRes (S (q, l)) b dp w)
/-- How much is left. -/
def restAt (b : Nat) (w : World) : Nat := match w.cell? ⟨b, 0, none⟩ with
  | some (.string q) => q.size
  | _ => 0
theorem RdI.left {b : Nat} {q : ByteArray} {dp : Int} {l : List CN} {w : World} (h : RdI b q dp l w) : restAt b w = q.size := by
  obtain ⟨a, c, h1, _⟩ := h
  unfold restAt
  rw [cell_of_row w b 0 _ _ _ h1]
  rfl

set_option maxRecDepth 100000 in
set_option maxHeartbeats 2000000 in
theorem rd_chain (F : FuncId) (t : ByteArray) (k : Int) (S : PS → Option PS) (b : Nat) (dp : Int) (ht : 1 ≤ t.size) (hS : Shr S) (hK : RdK F S b dp)
    (hca : ∀ (args : Array Value) (w : World), (callFunc F args).run Try.prog w = .ok (.enter F args) w)
    (q0 : ByteArray) (l0 : List CN) (w : World) (h : RdI b q0 dp l0 w) (hq0 : q0.size ≤ 1048576) (hl0 : l0.length ≤ 30) :
    Calls Try.prog 68 #[.pointer (some ⟨b, 0, none⟩), .func (.func F) #[.pointer (some ⟨b, 0, none⟩)] #[], .string t, .int .i64 k] w (PRes (pChain t ⟨k, eB, eB⟩ S (q0, l0)) b dp w) := by
  have H := Lib.hid h
  have HK := Lib.hid hK
  have HS := Lib.hid hS
  have hbw := h.lt
  clear h hK hS
  have HE : Hid (pChain t ⟨k, eB, eB⟩ S (q0, l0) = (S (q0, l0)).bind (pMore t ⟨k, eB, eB⟩ S)) := Lib.hid rfl
  obtain ⟨o, ho0⟩ : ∃ o, pChain t ⟨k, eB, eB⟩ S (q0, l0) = o := ⟨_, rfl⟩
  rw [ho0] at HE ⊢
  clear ho0
  have HC := Lib.hid (HK.out q0 l0 w H.out hq0 hl0)
  have HSH := Lib.hid (fun r hr => HS.out (q0, l0) r hr hl0)
  obtain ⟨u, hu⟩ : ∃ u, S (q0, l0) = u := ⟨_, rfl⟩
  rw [hu] at HC HE
  simp only [hu] at HSH
  clear hu
  go_enter Try.func68, Try.ntmps68
  go_wp2_with fail
  refine HC.out.mono ?_
  rintro e w1 (⟨r, ho, rfl, hR, hb⟩ | ⟨ho, rfl, hb⟩)
  rotate_left
  · exact ⟨rfl, Or.inr ⟨by rw [HE.out, ho]; rfl, rfl, hb⟩⟩
  subst ho
  have hr1 := (HSH.out r rfl).1
  have hr2 := (HSH.out r rfl).2
  have HR1 := Lib.hid hR
  have HB1 := Lib.hid hb
  have HE1 : Hid (o = pMore t ⟨k, eB, eB⟩ S r) := Lib.hid HE.out
  have hrs : r.1.size ≤ 1048576 := Nat.le_trans hr1 hq0
  clear hR hb H HC HSH HE hr1
  go_wp2_with fail
  go_loopw [] (fun wr => ∃ (q : ByteArray) (l : List CN), q.size ≤ 1048576 ∧ l.length ≤ 30 ∧ Hid (o = pMore t ⟨k, eB, eB⟩ S (q, l)) ∧ Hid (RdI b q dp l wr) ∧ Hid (Below b w wr)) (fun wr => restAt b wr)
  case atStart => exact ⟨r.1, r.2, hrs, hr2, HE1, HR1, HB1⟩
  case round =>
    obtain ⟨q, l, hq, hl, HL, HR, HB⟩ := hrel
    clear HR1 HB1
    have HP := Lib.hid HR.out.left
    go_wp2_with fail
    refine (rd_take b q t dp l _ HR.out).mono ?_
    rintro e w2 ⟨rfl, hr, hb⟩
    obtain ⟨y, hy⟩ : ∃ y, takes q t 0 = y := ⟨_, rfl⟩
    rw [hy] at hr
    rw [hy]
    have HY := Lib.hid hy
    have HB2 := Lib.hid (HB.out.trans hb)
    clear hy hb
    cases y with
    | false =>
      have HE2 : Hid (o = some (q, l)) := Lib.hid (HL.out.trans (more_off HY.out))
      have HR2 : Hid (RdI b q dp l w2) := Lib.hid hr
      clear hr
      go_wp2_with fail
      first | go_end0 | go_ret
      exact Or.inl ⟨_, HE2.out, rfl, HR2.out, HB2.out⟩
    | true =>
      have HR2 : Hid (RdI b (pRest q t) dp l w2) := Lib.hid hr
      have hle := (takes_yes HY.out).1
      have hps := pRest_size q t
      have HE2 : Hid (o = (S (pRest q t, l)).bind (fun r => (pAdd ⟨k, eB, eB⟩ r).bind (pMore t ⟨k, eB, eB⟩ S))) := Lib.hid (HL.out.trans (more_on HS.out ht hl HY.out))
      generalize pRest q t = q2 at *
      have hq2 : q2.size ≤ 1048576 := by omega
      have HC := Lib.hid (HK.out q2 l w2 HR2.out hq2 hl)
      have HSH := Lib.hid (fun r hr => HS.out (q2, l) r hr hl)
      obtain ⟨u, hu⟩ : ∃ u, S (q2, l) = u := ⟨_, rfl⟩
      rw [hu] at HC HE2
      simp only [hu] at HSH
      clear hu hr
      go_wp2_with fail
      refine HC.out.mono ?_
      rintro e w3 (⟨r3, ho, rfl, hR, hb⟩ | ⟨ho, rfl, hb⟩)
      rotate_left
      · exact ⟨rfl, Or.inr ⟨by rw [HE2.out, ho]; rfl, rfl, HB2.out.trans hb⟩⟩
      subst ho
      have hr1 := (HSH.out r3 rfl).1
      have hr2 := (HSH.out r3 rfl).2
      have HR3 := Lib.hid hR
      have HB3 := Lib.hid (HB2.out.trans hb)
      have HE3 : Hid (o = (pAdd ⟨k, eB, eB⟩ r3).bind (pMore t ⟨k, eB, eB⟩ S)) := Lib.hid HE2.out
      clear hR hb HC HSH HE2
      obtain ⟨q3, l3⟩ := r3
      simp only at hr1 hr2
      have HA := Lib.hid (rd_add b q3 dp l3 ⟨k, eB, eB⟩ w3 HR3.out hr2)
      unfold CN.val at HA
      simp only at HA
      go_wp2_with fail
      refine HA.out.mono ?_
      rintro e w4 (⟨r4, ho, rfl, hR, hb⟩ | ⟨ho, rfl, hb⟩)
      rotate_left
      · exact ⟨rfl, Or.inr ⟨by rw [HE3.out, ho]; rfl, rfl, HB3.out.trans hb⟩⟩
      have HB4 := Lib.hid (HB3.out.trans hb)
      have HE4 : Hid (o = pMore t ⟨k, eB, eB⟩ S r4) := Lib.hid (by rw [HE3.out, ho]; rfl)
      obtain ⟨e1, e2, e3⟩ := add_some ho
      have HR4 := Lib.hid hR
      have h41 : r4.1.size ≤ q3.size := by rw [e1]; exact Nat.le_refl _
      have h42 : r4.2.length ≤ 30 := by rw [e2, List.length_append, List.length_singleton]; have e4 : l3.length < 30 := e3; show l3.length + 1 ≤ 30; omega
      have HP4 := Lib.hid HR4.out.left
      clear ho hR hb e1 e2 e3
      go_wp2_with fail
      go_roundw
      case rel => exact ⟨r4.1, r4.2, by omega, h42, HE4, HR4, HB4⟩
      case measure => rw [HP4.out, HP.out]; omega
end Go.Proofs.Ytghofgjlmfdnpaa

namespace Go.Proofs.Ytghofgjlmfdnpaa
open Go.RowKit

theorem rd_mf : ∀ (fn : Fn) (first cap : Array Value) (w : World), (Instr.makeFunc fn first cap).run Try.prog w = .ok (.func fn first cap) w := fun _ _ _ _ => rfl
theorem call_op (args : Array Value) (w : World) : (callFunc 81 args).run Try.prog w = .ok (.enter 81 args) w := by kernel_rfl
theorem call_and (args : Array Value) (w : World) : (callFunc 69 args).run Try.prog w = .ok (.enter 69 args) w := by kernel_rfl
theorem call_or (args : Array Value) (w : World) : (callFunc 44 args).run Try.prog w = .ok (.enter 44 args) w := by kernel_rfl

set_option maxRecDepth 100000 in
set_option maxHeartbeats 1000000 in
theorem rd_and (S : PS → Option PS) (b : Nat) (dp : Int) (hS : Shr S) (hK : RdK 81 S b dp) : RdK 69 (pChain tAnd nAnd S) b dp := by
  intro q l w h hq hl
  have HC := Lib.hid (rd_chain _ tAnd 3 S b dp (by decide) hS hK call_op q l w h hq hl)
  have hmf := rd_mf
  clear h hK
  have HE : Hid (pChain tAnd nAnd S (q, l) = pChain tAnd ⟨3, eB, eB⟩ S (q, l)) := Lib.hid rfl
  rw [HE.out]
  clear HE
  go_enter Try.func69, Try.ntmps69
  go_wp2_with fail
  refine HC.out.mono ?_
  rintro e w1 (⟨r, ho, rfl, hR, hb⟩ | ⟨ho, rfl, hb⟩)
  · have HO := Lib.hid ho
    have HR := Lib.hid hR
    have HB := Lib.hid hb
    clear ho hR hb
    go_wp2_with fail
    first | go_end0 | go_ret
    exact Or.inl ⟨r, HO.out, rfl, HR.out, HB.out⟩
  · exact ⟨rfl, Or.inr ⟨ho, rfl, hb⟩⟩

set_option maxRecDepth 100000 in
set_option maxHeartbeats 1000000 in
theorem rd_or (S : PS → Option PS) (b : Nat) (dp : Int) (hS : Shr S) (hK : RdK 69 S b dp) : RdK 44 (pChain tOr nOr S) b dp := by
  intro q l w h hq hl
  have HC := Lib.hid (rd_chain _ tOr 4 S b dp (by decide) hS hK call_and q l w h hq hl)
  have hmf := rd_mf
  clear h hK
  have HE : Hid (pChain tOr nOr S (q, l) = pChain tOr ⟨4, eB, eB⟩ S (q, l)) := Lib.hid rfl
  rw [HE.out]
  clear HE
  go_enter Try.func44, Try.ntmps44
  go_wp2_with fail
  refine HC.out.mono ?_
  rintro e w1 (⟨r, ho, rfl, hR, hb⟩ | ⟨ho, rfl, hb⟩)
  · have HO := Lib.hid ho
    have HR := Lib.hid hR
    have HB := Lib.hid hb
    clear ho hR hb
    go_wp2_with fail
    first | go_end0 | go_ret
    exact Or.inl ⟨r, HO.out, rfl, HR.out, HB.out⟩
  · exact ⟨rfl, Or.inr ⟨ho, rfl, hb⟩⟩
theorem rd_whole (S : PS → Option PS) (b : Nat) (dp : Int) (hS : Shr S) (hK : RdK 81 S b dp) : RdK 44 (pOr S) b dp :=
  rd_or _ b dp (shr_chain hS) (rd_and S b dp hS hK)

set_option maxRecDepth 100000 in
set_option maxHeartbeats 1000000 in
theorem rd_inside (F : FuncId) (S : PS → Option PS) (b : Nat) (dp : Int) (hd0 : 0 ≤ dp) (hd1 : dp ≤ 29) (hK : RdK F S b (dp + 1))
    (hca : ∀ (args : Array Value) (w : World), (callFunc F args).run Try.prog w = .ok (.enter F args) w)
    (q : ByteArray) (l : List CN) (w : World) (h : RdI b q dp l w) (hq : q.size ≤ 1048576) (hl : l.length ≤ 30) :
    Calls Try.prog 86 #[.pointer (some ⟨b, 0, none⟩), .func (.func F) #[.pointer (some ⟨b, 0, none⟩)] #[]] w (PRes (S (q, l)) b dp w) := by
  obtain ⟨a, c, HG, _, hbw⟩ := id h
  have g1 := cell_of_row _ _ 1 _ _ _ HG
  have f1 := frozen_of_row _ _ 1 _ _ HG
  have HR1 := Lib.hid (h.deep (x := dp + 1) (dp' := dp + 1) rfl)
  have HB1 := Lib.hid ((Below.refl b w).setCell (p := ⟨b, 1, none⟩) (Nat.le_refl _) (.int .i64 (dp + 1)))
  have HC := Lib.hid (hK q l _ HR1.out hq hl)
  obtain ⟨o, ho0⟩ : ∃ o, S (q, l) = o := ⟨_, rfl⟩
  rw [ho0] at HC ⊢
  clear h hK ho0
  go_enter Try.func86, Try.ntmps86
  go_wp2_with fail
  refine (rd_yes _ _ _ (decide_eq_true (by omega))).mono ?_
  rintro e w1 ⟨rfl, rfl⟩
  go_wp2_with fail
  refine HC.out.mono ?_
  rintro e w1 (⟨r, ho, rfl, hR, hb⟩ | ⟨ho, rfl, hb⟩)
  rotate_left
  · exact ⟨rfl, Or.inr ⟨ho, rfl, HB1.out.trans hb⟩⟩
  have HO := Lib.hid ho
  have HR := Lib.hid hR
  have HB := Lib.hid (HB1.out.trans hb)
  clear HR1 HB1 g1 f1 HG ho hb HC
  obtain ⟨a, c, HG, _, hbw⟩ := id hR
  have g1 := cell_of_row _ _ 1 _ _ _ HG
  have f1 := frozen_of_row _ _ 1 _ _ HG
  have HR1 := Lib.hid (hR.deep (x := dp) (dp' := dp) rfl)
  have HB1 := Lib.hid (HB.out.setCell (p := ⟨b, 1, none⟩) (Nat.le_refl _) (.int .i64 dp))
  clear hR
  go_wp2_with fail
  first | go_end0 | go_ret
  exact Or.inl ⟨r, HO.out, rfl, HR1.out, HB1.out⟩

set_option maxRecDepth 100000 in
set_option maxHeartbeats 1000000 in
theorem rd_deep (v : Value) (b : Nat) (q : ByteArray) (l : List CN) (w : World) (h : RdI b q 30 l w) :
    Calls Try.prog 86 #[.pointer (some ⟨b, 0, none⟩), v] w (PRes none b 30 w) := by
  obtain ⟨a, c, HG, _, hbw⟩ := id h
  have g1 := cell_of_row _ _ 1 _ _ _ HG
  have f1 := frozen_of_row _ _ 1 _ _ HG
  have HB1 := Lib.hid ((Below.refl b w).setCell (p := ⟨b, 1, none⟩) (Nat.le_refl _) (.int .i64 31))
  clear h
  go_enter Try.func86, Try.ntmps86
  go_wp2_with fail
  refine (rd_nope _ _ _ rfl).mono ?_
  rintro e w1 ⟨rfl, rfl⟩
  exact ⟨rfl, Or.inr ⟨rfl, rfl, HB1.out⟩⟩
end Go.Proofs.Ytghofgjlmfdnpaa

namespace Go.Proofs.Ytghofgjlmfdnpaa
open Go.RowKit

set_option maxRecDepth 100000 in
set_option maxHeartbeats 2000000 in
theorem rd_op0 (b : Nat) : RdK 81 (pOp 0) b 30 := by
  intro q l w h hq hl
  have hmf := rd_mf
  have HE : Hid (pOp 0 (q, l) = if takes q tNot 0 = true then none else if takes q tOpen 0 = true then none else pLeaf (q, l)) := Lib.hid rfl
  obtain ⟨o, ho0⟩ : ∃ o, pOp 0 (q, l) = o := ⟨_, rfl⟩
  rw [ho0] at HE ⊢
  have HT := Lib.hid (rd_take b q tNot 30 l w h)
  obtain ⟨y, hy⟩ : ∃ y, takes q tNot 0 = y := ⟨_, rfl⟩
  rw [hy] at HT HE
  clear hy ho0
  cases y with
  | true =>
    go_enter Try.func81, Try.ntmps81
    go_wp2_with fail
    refine HT.out.mono ?_
    rintro e w1 ⟨rfl, hr, hb⟩
    have HD := Lib.hid (fun v => rd_deep v b _ l w1 hr)
    have HB := Lib.hid hb
    clear hr hb
    go_wp2_with fail
    refine (HD.out _).mono ?_
    rintro e w2 (⟨r, ho, rfl, hR, hb⟩ | ⟨ho, rfl, hb⟩)
    · cases ho
    · exact ⟨rfl, Or.inr ⟨HE.out, rfl, HB.out.trans hb⟩⟩
  | false =>
    have HE1 : Hid (o = if takes q tOpen 0 = true then none else pLeaf (q, l)) := Lib.hid HE.out
    obtain ⟨z, hz⟩ : ∃ z, takes q tOpen 0 = z := ⟨_, rfl⟩
    have HZ := Lib.hid hz
    rw [hz] at HE1
    clear hz HE
    go_enter Try.func81, Try.ntmps81
    go_wp2_with fail
    refine HT.out.mono ?_
    rintro e w1 ⟨rfl, hr, hb⟩
    have HR1 : Hid (RdI b q 30 l w1) := Lib.hid hr
    have HB := Lib.hid hb
    clear hr hb
    have HT2 := Lib.hid (rd_take b q tOpen 30 l w1 HR1.out)
    rw [HZ.out] at HT2
    go_wp2_with fail
    refine HT2.out.mono ?_
    rintro e w2 ⟨rfl, hr, hb⟩
    have HB2 := Lib.hid (HB.out.trans hb)
    have HR2 := Lib.hid hr
    clear hr hb HT HT2
    cases z with
    | true =>
      have HD := Lib.hid (fun v => rd_deep v b _ l w2 HR2.out)
      go_wp2_with fail
      refine (HD.out _).mono ?_
      rintro e w3 (⟨r, ho, rfl, hR, hb⟩ | ⟨ho, rfl, hb⟩)
      · cases ho
      · exact ⟨rfl, Or.inr ⟨HE1.out, rfl, HB2.out.trans hb⟩⟩
    | false =>
      have HR3 : Hid (RdI b q 30 l w2) := Lib.hid HR2.out
      have HE2 : Hid (o = pLeaf (q, l)) := Lib.hid HE1.out
      have HL := Lib.hid (rd_leaf b q 30 l w2 HR3.out hq hl)
      clear HE1
      go_wp2_with fail
      refine HL.out.mono ?_
      rintro e w3 (⟨r, ho, rfl, hR, hb⟩ | ⟨ho, rfl, hb⟩)
      · have HO := Lib.hid ho
        have HR4 := Lib.hid hR
        have HB4 := Lib.hid (HB2.out.trans hb)
        clear ho hR hb
        go_wp2_with fail
        first | go_end0 | go_ret
        exact Or.inl ⟨r, HE2.out.trans HO.out, rfl, HR4.out, HB4.out⟩
      · exact ⟨rfl, Or.inr ⟨HE2.out.trans ho, rfl, HB2.out.trans hb⟩⟩

set_option maxRecDepth 100000 in
set_option maxHeartbeats 4000000 in
theorem rd_opn (n : Nat) (b : Nat) (dp : Int) (hd0 : 0 ≤ dp) (hd1 : dp ≤ 29) (hK : RdK 81 (pOp n) b (dp + 1)) : RdK 81 (pOp (n + 1)) b dp := by
  intro q l w h hq hl
  have hmf := rd_mf
  have HI1 := Lib.hid (rd_inside _ (pOp n) b dp hd0 hd1 hK call_op)
  have HI2 := Lib.hid (rd_inside _ (pOr (pOp n)) b dp hd0 hd1 (rd_whole (pOp n) b (dp + 1) (shr_op n) hK) call_or)
  have HE : Hid (pOp (n + 1) (q, l) = if takes q tNot 0 = true then (pOp n (pRest q tNot, l)).bind (pAdd nNot) else if takes q tOpen 0 = true then (pOr (pOp n) (pRest q tOpen, l)).bind pShut else pLeaf (q, l)) := Lib.hid rfl
  clear hK
  obtain ⟨o, ho0⟩ : ∃ o, pOp (n + 1) (q, l) = o := ⟨_, rfl⟩
  rw [ho0] at HE ⊢
  have HT := Lib.hid (rd_take b q tNot dp l w h)
  obtain ⟨y, hy⟩ : ∃ y, takes q tNot 0 = y := ⟨_, rfl⟩
  rw [hy] at HT HE
  clear hy ho0 h
  cases y with
  | true =>
    have HE1 : Hid (o = (pOp n (pRest q tNot, l)).bind (pAdd nNot)) := Lib.hid HE.out
    have HSH := Lib.hid (fun r hr => shr_op n (pRest q tNot, l) r hr hl)
    have hps := pRest_size q tNot
    clear HE
    go_enter Try.func81, Try.ntmps81
    go_wp2_with fail
    refine HT.out.mono ?_
    rintro e w1 ⟨rfl, hr, hb⟩
    have HR1 : Hid (RdI b (pRest q tNot) dp l w1) := Lib.hid hr
    have HB := Lib.hid hb
    clear hr hb HT
    generalize pRest q tNot = q1 at *
    have HC := Lib.hid (HI1.out q1 l w1 HR1.out (by omega) hl)
    generalize pOp n (q1, l) = u at *
    go_wp2_with fail
    refine HC.out.mono ?_
    rintro e w2 (⟨r, ho, rfl, hR, hb⟩ | ⟨ho, rfl, hb⟩)
    rotate_left
    · exact ⟨rfl, Or.inr ⟨by rw [HE1.out, ho]; rfl, rfl, HB.out.trans hb⟩⟩
    have HE2 : Hid (o = pAdd nNot r) := Lib.hid (by rw [HE1.out, ho]; rfl)
    have HR2 := Lib.hid hR
    have HB2 := Lib.hid (HB.out.trans hb)
    have hl2 := (HSH.out r ho).2
    clear ho hR hb HC HE1 HSH
    obtain ⟨q2, l2⟩ := r
    simp only at hl2
    have HA := Lib.hid (rd_add b q2 dp l2 nNot w2 HR2.out hl2)
    unfold CN.val nNot at HA
    simp only at HA
    go_wp2_with fail
    refine HA.out.mono ?_
    rintro e w3 (⟨r, ho, rfl, hR, hb⟩ | ⟨ho, rfl, hb⟩)
    · have HO := Lib.hid ho
      have HR3 := Lib.hid hR
      have HB3 := Lib.hid (HB2.out.trans hb)
      clear ho hR hb
      go_wp2_with fail
      first | go_end0 | go_ret
      exact Or.inl ⟨r, HE2.out.trans HO.out, rfl, HR3.out, HB3.out⟩
    · exact ⟨rfl, Or.inr ⟨HE2.out.trans ho, rfl, HB2.out.trans hb⟩⟩
  | false =>
    have HE1 : Hid (o = if takes q tOpen 0 = true then (pOr (pOp n) (pRest q tOpen, l)).bind pShut else pLeaf (q, l)) := Lib.hid HE.out
    obtain ⟨z, hz⟩ : ∃ z, takes q tOpen 0 = z := ⟨_, rfl⟩
    have HZ := Lib.hid hz
    rw [hz] at HE1
    clear hz HE
    go_enter Try.func81, Try.ntmps81
    go_wp2_with fail
    refine HT.out.mono ?_
    rintro e w1 ⟨rfl, hr, hb⟩
    have HR1 : Hid (RdI b q dp l w1) := Lib.hid hr
    have HB := Lib.hid hb
    clear hr hb
    have HT2 := Lib.hid (rd_take b q tOpen dp l w1 HR1.out)
    rw [HZ.out] at HT2
    go_wp2_with fail
    refine HT2.out.mono ?_
    rintro e w2 ⟨rfl, hr, hb⟩
    have HB2 := Lib.hid (HB.out.trans hb)
    have HR2 := Lib.hid hr
    clear hr hb HT HT2
    cases z with
    | true =>
      have HE2 : Hid (o = (pOr (pOp n) (pRest q tOpen, l)).bind pShut) := Lib.hid HE1.out
      have HR3 : Hid (RdI b (pRest q tOpen) dp l w2) := Lib.hid HR2.out
      have hps := pRest_size q tOpen
      clear HE1
      generalize pRest q tOpen = q1 at *
      have HC := Lib.hid (HI2.out q1 l w2 HR3.out (by omega) hl)
      generalize pOr (pOp n) (q1, l) = u at *
      go_wp2_with fail
      refine HC.out.mono ?_
      rintro e w3 (⟨r, ho, rfl, hR, hb⟩ | ⟨ho, rfl, hb⟩)
      rotate_left
      · exact ⟨rfl, Or.inr ⟨by rw [HE2.out, ho]; rfl, rfl, HB2.out.trans hb⟩⟩
      have HE3 : Hid (o = pShut r) := Lib.hid (by rw [HE2.out, ho]; rfl)
      have HR4 := Lib.hid hR
      have HB4 := Lib.hid (HB2.out.trans hb)
      clear ho hR hb HC HE2
      obtain ⟨q2, l2⟩ := r
      have HE4 : Hid (o = if takes q2 tShut 0 = true then some (pRest q2 tShut, l2) else none) := Lib.hid HE3.out
      have HT3 := Lib.hid (rd_take b q2 tShut dp l2 w3 HR4.out)
      clear HE3
      obtain ⟨y3, hy3⟩ : ∃ y, takes q2 tShut 0 = y := ⟨_, rfl⟩
      rw [hy3] at HT3 HE4
      clear hy3
      go_wp2_with fail
      refine HT3.out.mono ?_
      rintro e w4 ⟨rfl, hr, hb⟩
      have HB5 := Lib.hid (HB4.out.trans hb)
      have HR5 := Lib.hid hr
      clear hr hb
      cases y3 with
      | false =>
        go_wp2_with fail
        refine (rd_nope _ _ _ rfl).mono ?_
        rintro e w6 ⟨rfl, rfl⟩
        exact ⟨rfl, Or.inr ⟨HE4.out, rfl, HB5.out⟩⟩
      | true =>
        go_wp2_with fail
        refine (rd_yes _ _ _ rfl).mono ?_
        rintro e w6 ⟨rfl, rfl⟩
        go_wp2_with fail
        first | go_end0 | go_ret
        exact Or.inl ⟨_, HE4.out, rfl, HR5.out, HB5.out⟩
    | false =>
      have HR3 : Hid (RdI b q dp l w2) := Lib.hid HR2.out
      have HE2 : Hid (o = pLeaf (q, l)) := Lib.hid HE1.out
      have HL := Lib.hid (rd_leaf b q dp l w2 HR3.out hq hl)
      clear HE1
      go_wp2_with fail
      refine HL.out.mono ?_
      rintro e w3 (⟨r, ho, rfl, hR, hb⟩ | ⟨ho, rfl, hb⟩)
      · have HO := Lib.hid ho
        have HR4 := Lib.hid hR
        have HB4 := Lib.hid (HB2.out.trans hb)
        clear ho hR hb
        go_wp2_with fail
        first | go_end0 | go_ret
        exact Or.inl ⟨r, HE2.out.trans HO.out, rfl, HR4.out, HB4.out⟩
      · exact ⟨rfl, Or.inr ⟨HE2.out.trans ho, rfl, HB2.out.trans hb⟩⟩

theorem rd_ops (b : Nat) : ∀ n : Nat, n ≤ 30 → RdK 81 (pOp n) b (30 - (n : Int))
  | 0, _ => rd_op0 b
  | n + 1, h => rd_opn n b (30 - ((n + 1 : Nat) : Int)) (by omega) (by omega) (by
      have e : (30 - ((n + 1 : Nat) : Int)) + 1 = 30 - (n : Int) := by omega
      rw [e]
      exact rd_ops b n (by omega))
theorem rd_all (b : Nat) : RdK 44 (pOr (pOp 30)) b 0 := rd_whole _ b 0 (shr_op 30) (rd_ops b 30 (Nat.le_refl _))
end Go.Proofs.Ytghofgjlmfdnpaa
