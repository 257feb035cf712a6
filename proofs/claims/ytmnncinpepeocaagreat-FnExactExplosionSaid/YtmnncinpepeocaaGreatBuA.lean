import Derived.WalkKit
import Derived.Laws.Cover1
import Derived.Below
import Derived.WalkSmall
import Derived.Laws.Rows
import Derived.Lib.Hide
import Derived.Laws.AppendOwn
import Derived.Laws.OwnMore
import Derived.Maps.AppendAt
import Derived.ProofKit
import Derived.SliceStrings
import Derived.ChangeSlices
import Derived.Deep.DeepHandedRow
import Derived.Test.YtmnncinpepeocaaGreatRows
import Derived.WalkSpells
import Derived.Deep.RegionLaw
import Derived.Deep.RegionHeld3
import Derived.OwnWalk
namespace Go.Proofs.YtmnncinpepeocaaGreat

theorem str_ne {x y : ByteArray} (h : x ≠ y) : (x.toList == y.toList) = false := beq_eq_false_iff_ne.2 (fun e => h (by
 rw [ByteArray.toList_eq, ByteArray.toList_eq] at e
 cases x; cases y
 simpa [Array.toList_inj] using e))
theorem str_eq {x y : ByteArray} (h : x = y) : (x.toList == y.toList) = true := by rw [h]; exact beq_self_eq_true _
end Go.Proofs.YtmnncinpepeocaaGreat

namespace Go.Proofs.YtmnncinpepeocaaGreat

/-- The one text stands before the other. -/
def strLt (a b : ByteArray) : Prop := Op.bytesLess a.toList b.toList = true
instance (a b : ByteArray) : Decidable (strLt a b) := inferInstanceAs (Decidable (_ = true))
theorem less_no {a b : ByteArray} (h : ¬strLt a b) : Op.bytesLess a.toList b.toList = false := by
 unfold strLt at h
 cases e : Op.bytesLess a.toList b.toList with
 | false => rfl
 | true => exact absurd e h
theorem less_list : ∀ x y : List UInt8, Op.bytesLess x y = true ↔ x < y
 | [], [] => by simp [Op.bytesLess]
 | _ :: _, [] => by simp [Op.bytesLess]
 | [], _ :: _ => by simp [Op.bytesLess]
 | a :: x, b :: y => by
  have h := less_list x y
  simp only [Op.bytesLess, Bool.or_eq_true, Bool.and_eq_true, decide_eq_true_eq, beq_iff_eq, List.cons_lt_cons_iff, h]
theorem strLt_iff {a b : ByteArray} : strLt a b ↔ a.toList < b.toList := by
 unfold strLt
 exact less_list _ _
theorem strLt_irrefl (a : ByteArray) : ¬strLt a a := fun h => by
 rw [strLt_iff] at h
 exact List.lt_irrefl _ h
theorem strLt_trans {a b c : ByteArray} (h : strLt a b) (k : strLt b c) : strLt a c := by
 rw [strLt_iff] at h k ⊢
 exact List.lt_trans h k
theorem strLt_asymm {a b : ByteArray} (h : strLt a b) : ¬strLt b a := fun k => strLt_irrefl a (strLt_trans h k)
theorem strLt_ne {a b : ByteArray} (h : strLt a b) : a ≠ b := fun e => by subst e; exact strLt_irrefl _ h
theorem toList_inj {a b : ByteArray} (h : a.toList = b.toList) : a = b := Classical.byContradiction (fun hn => by
 have := str_ne hn
 rw [h, beq_self_eq_true] at this
 cases this)
theorem strLt_total {a b : ByteArray} (h : a ≠ b) (k : ¬strLt a b) : strLt b a := by
 rw [strLt_iff] at k ⊢
 rcases Std.Trichotomous.rel_or_eq_or_rel_swap (r := (· < · : List UInt8 → List UInt8 → Prop)) (a := a.toList) (b := b.toList) with h1 | h1 | h1
 · exact absurd h1 k
 · exact absurd (toList_inj h1) h
 · exact h1
end Go.Proofs.YtmnncinpepeocaaGreat

namespace Go.Proofs.YtmnncinpepeocaaGreat

instance decTextC (x : ByteArray) (l : List ByteArray) : Decidable (x ∈ l) := decidable_of_iff (l.any (fun y => decide (y = x)) = true) (by simp)
/-- Where a string is first found, -1 for nowhere. -/
def fndI (ns : List ByteArray) (s : ByteArray) : Int := match ns.findIdx? (fun x => decide (x = s)) with
 | some k => (k : Int)
 | none => -1
theorem fnd_at {ns : List ByteArray} {s : ByteArray} {k : Nat} (hk : k < ns.length) (h : ns[k]'hk = s) (hb : ∀ j, (hj : j < k) → (ns[j]'(by omega)) ≠ s) : fndI ns s = k := by
 have e : ns.findIdx? (fun x => decide (x = s)) = some k := by
  rw [List.findIdx?_eq_some_iff_getElem]
  exact ⟨hk, decide_eq_true h, fun j hj => by simp [hb j hj]⟩
 unfold fndI
 rw [e]
theorem fnd_no {ns : List ByteArray} {s : ByteArray} (hb : ∀ j, (hj : j < ns.length) → (ns[j]'hj) ≠ s) : fndI ns s = -1 := by
 have e : ns.findIdx? (fun x => decide (x = s)) = none := by
  rw [List.findIdx?_eq_none_iff]
  intro x hx
  obtain ⟨j, hj, rfl⟩ := List.getElem_of_mem hx
  exact decide_eq_false (hb j hj)
 unfold fndI
 rw [e]
theorem fnd_cases (ns : List ByteArray) (s : ByteArray) : (∃ k, ∃ hk : k < ns.length, ns[k]'hk = s ∧ fndI ns s = k ∧ ∀ j, (hj : j < k) → (ns[j]'(by omega)) ≠ s) ∨ (fndI ns s = -1 ∧ s ∉ ns) := by
 cases e : ns.findIdx? (fun x => decide (x = s)) with
 | some k =>
  rw [List.findIdx?_eq_some_iff_getElem] at e
  obtain ⟨hk, h1, h2⟩ := e
  have h3 : ∀ j, (hj : j < k) → (ns[j]'(by omega)) ≠ s := fun j hj => by simpa using h2 j hj
  exact Or.inl ⟨k, hk, of_decide_eq_true h1, fnd_at hk (of_decide_eq_true h1) h3, h3⟩
 | none =>
  rw [List.findIdx?_eq_none_iff] at e
  refine Or.inr ⟨fnd_no (fun j hj h => ?_), fun hm => ?_⟩
  · have := e _ (List.getElem_mem hj); simp [h] at this
  · have := e s hm; simp at this
theorem fnd_neg {ns : List ByteArray} {s : ByteArray} : fndI ns s < 0 ↔ s ∉ ns := by
 rcases fnd_cases ns s with ⟨k, hk, h1, h2, _⟩ | ⟨h1, h2⟩
 · rw [h2]
   constructor
   · intro h; omega
   · intro h; exact absurd (h1 ▸ List.getElem_mem hk) h
 · rw [h1]; exact ⟨fun _ => h2, fun _ => by omega⟩

theorem fnd_in {ns : List ByteArray} {s : ByteArray} (h : ¬fndI ns s < 0) : ∃ k, k < ns.length ∧ fndI ns s = (k : Int) := by
 rcases fnd_cases ns s with ⟨k, hk, _, h2, _⟩ | ⟨h1, _⟩
 · exact ⟨k, hk, h2⟩
 · omega
end Go.Proofs.YtmnncinpepeocaaGreat

namespace Go.Proofs.YtmnncinpepeocaaGreat
open Go.RowKit

theorem lt_of_heap {W : World} {g : Nat} {o : Obj} (h : W.heap[g]? = some o) : g < W.heap.size := by
 rcases Nat.lt_or_ge g W.heap.size with hlt | hge
 · exact hlt
 · rw [Array.getElem?_eq_none (by omega)] at h; cases h
theorem blk_below {w w1 : World} {b : Nat} {o : Obj} (h : w.heap[b]? = some o) (hb : Below w.heap.size w w1) : w1.heap[b]? = some o := (hb.block b (lt_of_heap h)).trans h
theorem blk_alloc {w : World} {b : Nat} {o : Obj} (h : w.heap[b]? = some o) (o' : Obj) : (w.alloc o').heap[b]? = some o := (Below.heap_alloc w o' b (lt_of_heap h)).trans h

/-- A cell of the beginning. -/
theorem hold_c {B W : World} {p : Addr} {v : Value} (h : B.cell? p = some v) (hB : Below B.heap.size B W) : W.cell? p = some v := (hB.cell (block_lt_of_cell h)).trans h
theorem hold_call {p : Prop} {B W W' : World} (h : Hid (Below B.heap.size B W) ∧ p) (hb : Below W.heap.size W W') : Below B.heap.size B W' := h.1.out.trans (hb.mono h.1.out.size)
theorem hold_alloc {p : Prop} {B W : World} {o : Obj} (h : Hid (Below B.heap.size B W) ∧ p) : Below B.heap.size B (W.alloc o) := h.1.out.alloc h.1.out.size o
theorem hold_realloc {p : Prop} {B W : World} {o o' : Obj} (h : Hid (Below B.heap.size B (W.alloc o)) ∧ p) (hle : B.heap.size ≤ W.heap.size) : Below B.heap.size B (W.alloc o') :=
 (show Below B.heap.size B W from ⟨h.1.out.os, h.1.out.tape, h.1.out.output, hle, fun k hk => (Below.heap_alloc W o k (by omega)).symm.trans (h.1.out.block k hk)⟩).alloc hle o'
theorem hold_set {p : Prop} {B W : World} {g i : Nat} {x : Value} (h : Hid (Below B.heap.size B W) ∧ p) (hg : B.heap.size ≤ g) : Below B.heap.size B (W.setCell ⟨g, i, none⟩ x) := h.1.out.setCell hg _
theorem hold_set2 {p : Prop} {B W : World} {g i j : Nat} {x y : Value} (h : Hid (Below B.heap.size B W) ∧ p) (hg : B.heap.size ≤ g) : Below B.heap.size B ((W.setCell ⟨g, i, none⟩ x).setCell ⟨g, j, none⟩ y) := (h.1.out.setCell hg _).setCell hg _
theorem hold_le {p : Prop} {B W W' : World} (h : Hid (Below B.heap.size B W) ∧ p) (hb : Below W.heap.size W W') : B.heap.size ≤ W'.heap.size := Nat.le_trans h.1.out.size hb.size
/-- A block that the statement has made, behind a call. -/
theorem made {W W' : World} {o : Obj} (hb : Below (W.alloc o).heap.size (W.alloc o) W') : W'.heap[W.heap.size]? = some o := blk_below (heap_alloc_new W o) hb
theorem made_drew {W W' : World} {o : Obj} (hb : Below (W.alloc o).drew.heap.size (W.alloc o).drew W') : W'.heap[W.heap.size]? = some o := blk_below (w := (W.alloc o).drew) (heap_alloc_new W o) hb
theorem hold0 {B W : World}   (hB : Below B.heap.size B W) : Hid (Below B.heap.size B W) ∧ True := ⟨Lib.hid hB, trivial⟩
theorem hold1 {B W : World} {p0 : Addr} {v0 : Value} (c0 : B.cell? p0 = some v0) (hB : Below B.heap.size B W) : Hid (Below B.heap.size B W) ∧ W.cell? p0 = some v0 := ⟨Lib.hid hB, hold_c c0 hB⟩
theorem hold2 {B W : World} {p0 : Addr} {v0 : Value} {p1 : Addr} {v1 : Value} (c0 : B.cell? p0 = some v0) (c1 : B.cell? p1 = some v1) (hB : Below B.heap.size B W) : Hid (Below B.heap.size B W) ∧ W.cell? p0 = some v0 ∧ W.cell? p1 = some v1 := ⟨Lib.hid hB, hold_c c0 hB, hold_c c1 hB⟩
theorem hold3 {B W : World} {p0 : Addr} {v0 : Value} {p1 : Addr} {v1 : Value} {p2 : Addr} {v2 : Value} (c0 : B.cell? p0 = some v0) (c1 : B.cell? p1 = some v1) (c2 : B.cell? p2 = some v2) (hB : Below B.heap.size B W) : Hid (Below B.heap.size B W) ∧ W.cell? p0 = some v0 ∧ W.cell? p1 = some v1 ∧ W.cell? p2 = some v2 := ⟨Lib.hid hB, hold_c c0 hB, hold_c c1 hB, hold_c c2 hB⟩
theorem hold4 {B W : World} {p0 : Addr} {v0 : Value} {p1 : Addr} {v1 : Value} {p2 : Addr} {v2 : Value} {p3 : Addr} {v3 : Value} (c0 : B.cell? p0 = some v0) (c1 : B.cell? p1 = some v1) (c2 : B.cell? p2 = some v2) (c3 : B.cell? p3 = some v3) (hB : Below B.heap.size B W) : Hid (Below B.heap.size B W) ∧ W.cell? p0 = some v0 ∧ W.cell? p1 = some v1 ∧ W.cell? p2 = some v2 ∧ W.cell? p3 = some v3 := ⟨Lib.hid hB, hold_c c0 hB, hold_c c1 hB, hold_c c2 hB, hold_c c3 hB⟩
theorem hold5 {B W : World} {p0 : Addr} {v0 : Value} {p1 : Addr} {v1 : Value} {p2 : Addr} {v2 : Value} {p3 : Addr} {v3 : Value} {p4 : Addr} {v4 : Value} (c0 : B.cell? p0 = some v0) (c1 : B.cell? p1 = some v1) (c2 : B.cell? p2 = some v2) (c3 : B.cell? p3 = some v3) (c4 : B.cell? p4 = some v4) (hB : Below B.heap.size B W) : Hid (Below B.heap.size B W) ∧ W.cell? p0 = some v0 ∧ W.cell? p1 = some v1 ∧ W.cell? p2 = some v2 ∧ W.cell? p3 = some v3 ∧ W.cell? p4 = some v4 := ⟨Lib.hid hB, hold_c c0 hB, hold_c c1 hB, hold_c c2 hB, hold_c c3 hB, hold_c c4 hB⟩
theorem hold6 {B W : World} {p0 : Addr} {v0 : Value} {p1 : Addr} {v1 : Value} {p2 : Addr} {v2 : Value} {p3 : Addr} {v3 : Value} {p4 : Addr} {v4 : Value} {p5 : Addr} {v5 : Value} (c0 : B.cell? p0 = some v0) (c1 : B.cell? p1 = some v1) (c2 : B.cell? p2 = some v2) (c3 : B.cell? p3 = some v3) (c4 : B.cell? p4 = some v4) (c5 : B.cell? p5 = some v5) (hB : Below B.heap.size B W) : Hid (Below B.heap.size B W) ∧ W.cell? p0 = some v0 ∧ W.cell? p1 = some v1 ∧ W.cell? p2 = some v2 ∧ W.cell? p3 = some v3 ∧ W.cell? p4 = some v4 ∧ W.cell? p5 = some v5 := ⟨Lib.hid hB, hold_c c0 hB, hold_c c1 hB, hold_c c2 hB, hold_c c3 hB, hold_c c4 hB, hold_c c5 hB⟩
theorem hold7 {B W : World} {p0 : Addr} {v0 : Value} {p1 : Addr} {v1 : Value} {p2 : Addr} {v2 : Value} {p3 : Addr} {v3 : Value} {p4 : Addr} {v4 : Value} {p5 : Addr} {v5 : Value} {p6 : Addr} {v6 : Value} (c0 : B.cell? p0 = some v0) (c1 : B.cell? p1 = some v1) (c2 : B.cell? p2 = some v2) (c3 : B.cell? p3 = some v3) (c4 : B.cell? p4 = some v4) (c5 : B.cell? p5 = some v5) (c6 : B.cell? p6 = some v6) (hB : Below B.heap.size B W) : Hid (Below B.heap.size B W) ∧ W.cell? p0 = some v0 ∧ W.cell? p1 = some v1 ∧ W.cell? p2 = some v2 ∧ W.cell? p3 = some v3 ∧ W.cell? p4 = some v4 ∧ W.cell? p5 = some v5 ∧ W.cell? p6 = some v6 := ⟨Lib.hid hB, hold_c c0 hB, hold_c c1 hB, hold_c c2 hB, hold_c c3 hB, hold_c c4 hB, hold_c c5 hB, hold_c c6 hB⟩
theorem hold8 {B W : World} {p0 : Addr} {v0 : Value} {p1 : Addr} {v1 : Value} {p2 : Addr} {v2 : Value} {p3 : Addr} {v3 : Value} {p4 : Addr} {v4 : Value} {p5 : Addr} {v5 : Value} {p6 : Addr} {v6 : Value} {p7 : Addr} {v7 : Value} (c0 : B.cell? p0 = some v0) (c1 : B.cell? p1 = some v1) (c2 : B.cell? p2 = some v2) (c3 : B.cell? p3 = some v3) (c4 : B.cell? p4 = some v4) (c5 : B.cell? p5 = some v5) (c6 : B.cell? p6 = some v6) (c7 : B.cell? p7 = some v7) (hB : Below B.heap.size B W) : Hid (Below B.heap.size B W) ∧ W.cell? p0 = some v0 ∧ W.cell? p1 = some v1 ∧ W.cell? p2 = some v2 ∧ W.cell? p3 = some v3 ∧ W.cell? p4 = some v4 ∧ W.cell? p5 = some v5 ∧ W.cell? p6 = some v6 ∧ W.cell? p7 = some v7 := ⟨Lib.hid hB, hold_c c0 hB, hold_c c1 hB, hold_c c2 hB, hold_c c3 hB, hold_c c4 hB, hold_c c5 hB, hold_c c6 hB, hold_c c7 hB⟩
end Go.Proofs.YtmnncinpepeocaaGreat

namespace Go.Proofs.YtmnncinpepeocaaGreat
open Go.RowKit

theorem hold9 {B W : World} {p0 : Addr} {v0 : Value} {p1 : Addr} {v1 : Value} {p2 : Addr} {v2 : Value} {p3 : Addr} {v3 : Value} {p4 : Addr} {v4 : Value} {p5 : Addr} {v5 : Value} {p6 : Addr} {v6 : Value} {p7 : Addr} {v7 : Value} {p8 : Addr} {v8 : Value} (c0 : B.cell? p0 = some v0) (c1 : B.cell? p1 = some v1) (c2 : B.cell? p2 = some v2) (c3 : B.cell? p3 = some v3) (c4 : B.cell? p4 = some v4) (c5 : B.cell? p5 = some v5) (c6 : B.cell? p6 = some v6) (c7 : B.cell? p7 = some v7) (c8 : B.cell? p8 = some v8) (hB : Below B.heap.size B W) : Hid (Below B.heap.size B W) ∧ W.cell? p0 = some v0 ∧ W.cell? p1 = some v1 ∧ W.cell? p2 = some v2 ∧ W.cell? p3 = some v3 ∧ W.cell? p4 = some v4 ∧ W.cell? p5 = some v5 ∧ W.cell? p6 = some v6 ∧ W.cell? p7 = some v7 ∧ W.cell? p8 = some v8 := ⟨Lib.hid hB, hold_c c0 hB, hold_c c1 hB, hold_c c2 hB, hold_c c3 hB, hold_c c4 hB, hold_c c5 hB, hold_c c6 hB, hold_c c7 hB, hold_c c8 hB⟩
theorem hold10 {B W : World} {p0 : Addr} {v0 : Value} {p1 : Addr} {v1 : Value} {p2 : Addr} {v2 : Value} {p3 : Addr} {v3 : Value} {p4 : Addr} {v4 : Value} {p5 : Addr} {v5 : Value} {p6 : Addr} {v6 : Value} {p7 : Addr} {v7 : Value} {p8 : Addr} {v8 : Value} {p9 : Addr} {v9 : Value} (c0 : B.cell? p0 = some v0) (c1 : B.cell? p1 = some v1) (c2 : B.cell? p2 = some v2) (c3 : B.cell? p3 = some v3) (c4 : B.cell? p4 = some v4) (c5 : B.cell? p5 = some v5) (c6 : B.cell? p6 = some v6) (c7 : B.cell? p7 = some v7) (c8 : B.cell? p8 = some v8) (c9 : B.cell? p9 = some v9) (hB : Below B.heap.size B W) : Hid (Below B.heap.size B W) ∧ W.cell? p0 = some v0 ∧ W.cell? p1 = some v1 ∧ W.cell? p2 = some v2 ∧ W.cell? p3 = some v3 ∧ W.cell? p4 = some v4 ∧ W.cell? p5 = some v5 ∧ W.cell? p6 = some v6 ∧ W.cell? p7 = some v7 ∧ W.cell? p8 = some v8 ∧ W.cell? p9 = some v9 := ⟨Lib.hid hB, hold_c c0 hB, hold_c c1 hB, hold_c c2 hB, hold_c c3 hB, hold_c c4 hB, hold_c c5 hB, hold_c c6 hB, hold_c c7 hB, hold_c c8 hB, hold_c c9 hB⟩
theorem hold11 {B W : World} {p0 : Addr} {v0 : Value} {p1 : Addr} {v1 : Value} {p2 : Addr} {v2 : Value} {p3 : Addr} {v3 : Value} {p4 : Addr} {v4 : Value} {p5 : Addr} {v5 : Value} {p6 : Addr} {v6 : Value} {p7 : Addr} {v7 : Value} {p8 : Addr} {v8 : Value} {p9 : Addr} {v9 : Value} {p10 : Addr} {v10 : Value} (c0 : B.cell? p0 = some v0) (c1 : B.cell? p1 = some v1) (c2 : B.cell? p2 = some v2) (c3 : B.cell? p3 = some v3) (c4 : B.cell? p4 = some v4) (c5 : B.cell? p5 = some v5) (c6 : B.cell? p6 = some v6) (c7 : B.cell? p7 = some v7) (c8 : B.cell? p8 = some v8) (c9 : B.cell? p9 = some v9) (c10 : B.cell? p10 = some v10) (hB : Below B.heap.size B W) : Hid (Below B.heap.size B W) ∧ W.cell? p0 = some v0 ∧ W.cell? p1 = some v1 ∧ W.cell? p2 = some v2 ∧ W.cell? p3 = some v3 ∧ W.cell? p4 = some v4 ∧ W.cell? p5 = some v5 ∧ W.cell? p6 = some v6 ∧ W.cell? p7 = some v7 ∧ W.cell? p8 = some v8 ∧ W.cell? p9 = some v9 ∧ W.cell? p10 = some v10 := ⟨Lib.hid hB, hold_c c0 hB, hold_c c1 hB, hold_c c2 hB, hold_c c3 hB, hold_c c4 hB, hold_c c5 hB, hold_c c6 hB, hold_c c7 hB, hold_c c8 hB, hold_c c9 hB, hold_c c10 hB⟩
theorem hold12 {B W : World} {p0 : Addr} {v0 : Value} {p1 : Addr} {v1 : Value} {p2 : Addr} {v2 : Value} {p3 : Addr} {v3 : Value} {p4 : Addr} {v4 : Value} {p5 : Addr} {v5 : Value} {p6 : Addr} {v6 : Value} {p7 : Addr} {v7 : Value} {p8 : Addr} {v8 : Value} {p9 : Addr} {v9 : Value} {p10 : Addr} {v10 : Value} {p11 : Addr} {v11 : Value} (c0 : B.cell? p0 = some v0) (c1 : B.cell? p1 = some v1) (c2 : B.cell? p2 = some v2) (c3 : B.cell? p3 = some v3) (c4 : B.cell? p4 = some v4) (c5 : B.cell? p5 = some v5) (c6 : B.cell? p6 = some v6) (c7 : B.cell? p7 = some v7) (c8 : B.cell? p8 = some v8) (c9 : B.cell? p9 = some v9) (c10 : B.cell? p10 = some v10) (c11 : B.cell? p11 = some v11) (hB : Below B.heap.size B W) : Hid (Below B.heap.size B W) ∧ W.cell? p0 = some v0 ∧ W.cell? p1 = some v1 ∧ W.cell? p2 = some v2 ∧ W.cell? p3 = some v3 ∧ W.cell? p4 = some v4 ∧ W.cell? p5 = some v5 ∧ W.cell? p6 = some v6 ∧ W.cell? p7 = some v7 ∧ W.cell? p8 = some v8 ∧ W.cell? p9 = some v9 ∧ W.cell? p10 = some v10 ∧ W.cell? p11 = some v11 := ⟨Lib.hid hB, hold_c c0 hB, hold_c c1 hB, hold_c c2 hB, hold_c c3 hB, hold_c c4 hB, hold_c c5 hB, hold_c c6 hB, hold_c c7 hB, hold_c c8 hB, hold_c c9 hB, hold_c c10 hB, hold_c c11 hB⟩
theorem hold13 {B W : World} {p0 : Addr} {v0 : Value} {p1 : Addr} {v1 : Value} {p2 : Addr} {v2 : Value} {p3 : Addr} {v3 : Value} {p4 : Addr} {v4 : Value} {p5 : Addr} {v5 : Value} {p6 : Addr} {v6 : Value} {p7 : Addr} {v7 : Value} {p8 : Addr} {v8 : Value} {p9 : Addr} {v9 : Value} {p10 : Addr} {v10 : Value} {p11 : Addr} {v11 : Value} {p12 : Addr} {v12 : Value} (c0 : B.cell? p0 = some v0) (c1 : B.cell? p1 = some v1) (c2 : B.cell? p2 = some v2) (c3 : B.cell? p3 = some v3) (c4 : B.cell? p4 = some v4) (c5 : B.cell? p5 = some v5) (c6 : B.cell? p6 = some v6) (c7 : B.cell? p7 = some v7) (c8 : B.cell? p8 = some v8) (c9 : B.cell? p9 = some v9) (c10 : B.cell? p10 = some v10) (c11 : B.cell? p11 = some v11) (c12 : B.cell? p12 = some v12) (hB : Below B.heap.size B W) : Hid (Below B.heap.size B W) ∧ W.cell? p0 = some v0 ∧ W.cell? p1 = some v1 ∧ W.cell? p2 = some v2 ∧ W.cell? p3 = some v3 ∧ W.cell? p4 = some v4 ∧ W.cell? p5 = some v5 ∧ W.cell? p6 = some v6 ∧ W.cell? p7 = some v7 ∧ W.cell? p8 = some v8 ∧ W.cell? p9 = some v9 ∧ W.cell? p10 = some v10 ∧ W.cell? p11 = some v11 ∧ W.cell? p12 = some v12 := ⟨Lib.hid hB, hold_c c0 hB, hold_c c1 hB, hold_c c2 hB, hold_c c3 hB, hold_c c4 hB, hold_c c5 hB, hold_c c6 hB, hold_c c7 hB, hold_c c8 hB, hold_c c9 hB, hold_c c10 hB, hold_c c11 hB, hold_c c12 hB⟩
theorem hold14 {B W : World} {p0 : Addr} {v0 : Value} {p1 : Addr} {v1 : Value} {p2 : Addr} {v2 : Value} {p3 : Addr} {v3 : Value} {p4 : Addr} {v4 : Value} {p5 : Addr} {v5 : Value} {p6 : Addr} {v6 : Value} {p7 : Addr} {v7 : Value} {p8 : Addr} {v8 : Value} {p9 : Addr} {v9 : Value} {p10 : Addr} {v10 : Value} {p11 : Addr} {v11 : Value} {p12 : Addr} {v12 : Value} {p13 : Addr} {v13 : Value} (c0 : B.cell? p0 = some v0) (c1 : B.cell? p1 = some v1) (c2 : B.cell? p2 = some v2) (c3 : B.cell? p3 = some v3) (c4 : B.cell? p4 = some v4) (c5 : B.cell? p5 = some v5) (c6 : B.cell? p6 = some v6) (c7 : B.cell? p7 = some v7) (c8 : B.cell? p8 = some v8) (c9 : B.cell? p9 = some v9) (c10 : B.cell? p10 = some v10) (c11 : B.cell? p11 = some v11) (c12 : B.cell? p12 = some v12) (c13 : B.cell? p13 = some v13) (hB : Below B.heap.size B W) : Hid (Below B.heap.size B W) ∧ W.cell? p0 = some v0 ∧ W.cell? p1 = some v1 ∧ W.cell? p2 = some v2 ∧ W.cell? p3 = some v3 ∧ W.cell? p4 = some v4 ∧ W.cell? p5 = some v5 ∧ W.cell? p6 = some v6 ∧ W.cell? p7 = some v7 ∧ W.cell? p8 = some v8 ∧ W.cell? p9 = some v9 ∧ W.cell? p10 = some v10 ∧ W.cell? p11 = some v11 ∧ W.cell? p12 = some v12 ∧ W.cell? p13 = some v13 := ⟨Lib.hid hB, hold_c c0 hB, hold_c c1 hB, hold_c c2 hB, hold_c c3 hB, hold_c c4 hB, hold_c c5 hB, hold_c c6 hB, hold_c c7 hB, hold_c c8 hB, hold_c c9 hB, hold_c c10 hB, hold_c c11 hB, hold_c c12 hB, hold_c c13 hB⟩
theorem hold15 {B W : World} {p0 : Addr} {v0 : Value} {p1 : Addr} {v1 : Value} {p2 : Addr} {v2 : Value} {p3 : Addr} {v3 : Value} {p4 : Addr} {v4 : Value} {p5 : Addr} {v5 : Value} {p6 : Addr} {v6 : Value} {p7 : Addr} {v7 : Value} {p8 : Addr} {v8 : Value} {p9 : Addr} {v9 : Value} {p10 : Addr} {v10 : Value} {p11 : Addr} {v11 : Value} {p12 : Addr} {v12 : Value} {p13 : Addr} {v13 : Value} {p14 : Addr} {v14 : Value} (c0 : B.cell? p0 = some v0) (c1 : B.cell? p1 = some v1) (c2 : B.cell? p2 = some v2) (c3 : B.cell? p3 = some v3) (c4 : B.cell? p4 = some v4) (c5 : B.cell? p5 = some v5) (c6 : B.cell? p6 = some v6) (c7 : B.cell? p7 = some v7) (c8 : B.cell? p8 = some v8) (c9 : B.cell? p9 = some v9) (c10 : B.cell? p10 = some v10) (c11 : B.cell? p11 = some v11) (c12 : B.cell? p12 = some v12) (c13 : B.cell? p13 = some v13) (c14 : B.cell? p14 = some v14) (hB : Below B.heap.size B W) : Hid (Below B.heap.size B W) ∧ W.cell? p0 = some v0 ∧ W.cell? p1 = some v1 ∧ W.cell? p2 = some v2 ∧ W.cell? p3 = some v3 ∧ W.cell? p4 = some v4 ∧ W.cell? p5 = some v5 ∧ W.cell? p6 = some v6 ∧ W.cell? p7 = some v7 ∧ W.cell? p8 = some v8 ∧ W.cell? p9 = some v9 ∧ W.cell? p10 = some v10 ∧ W.cell? p11 = some v11 ∧ W.cell? p12 = some v12 ∧ W.cell? p13 = some v13 ∧ W.cell? p14 = some v14 := ⟨Lib.hid hB, hold_c c0 hB, hold_c c1 hB, hold_c c2 hB, hold_c c3 hB, hold_c c4 hB, hold_c c5 hB, hold_c c6 hB, hold_c c7 hB, hold_c c8 hB, hold_c c9 hB, hold_c c10 hB, hold_c c11 hB, hold_c c12 hB, hold_c c13 hB, hold_c c14 hB⟩
theorem hold16 {B W : World} {p0 : Addr} {v0 : Value} {p1 : Addr} {v1 : Value} {p2 : Addr} {v2 : Value} {p3 : Addr} {v3 : Value} {p4 : Addr} {v4 : Value} {p5 : Addr} {v5 : Value} {p6 : Addr} {v6 : Value} {p7 : Addr} {v7 : Value} {p8 : Addr} {v8 : Value} {p9 : Addr} {v9 : Value} {p10 : Addr} {v10 : Value} {p11 : Addr} {v11 : Value} {p12 : Addr} {v12 : Value} {p13 : Addr} {v13 : Value} {p14 : Addr} {v14 : Value} {p15 : Addr} {v15 : Value} (c0 : B.cell? p0 = some v0) (c1 : B.cell? p1 = some v1) (c2 : B.cell? p2 = some v2) (c3 : B.cell? p3 = some v3) (c4 : B.cell? p4 = some v4) (c5 : B.cell? p5 = some v5) (c6 : B.cell? p6 = some v6) (c7 : B.cell? p7 = some v7) (c8 : B.cell? p8 = some v8) (c9 : B.cell? p9 = some v9) (c10 : B.cell? p10 = some v10) (c11 : B.cell? p11 = some v11) (c12 : B.cell? p12 = some v12) (c13 : B.cell? p13 = some v13) (c14 : B.cell? p14 = some v14) (c15 : B.cell? p15 = some v15) (hB : Below B.heap.size B W) : Hid (Below B.heap.size B W) ∧ W.cell? p0 = some v0 ∧ W.cell? p1 = some v1 ∧ W.cell? p2 = some v2 ∧ W.cell? p3 = some v3 ∧ W.cell? p4 = some v4 ∧ W.cell? p5 = some v5 ∧ W.cell? p6 = some v6 ∧ W.cell? p7 = some v7 ∧ W.cell? p8 = some v8 ∧ W.cell? p9 = some v9 ∧ W.cell? p10 = some v10 ∧ W.cell? p11 = some v11 ∧ W.cell? p12 = some v12 ∧ W.cell? p13 = some v13 ∧ W.cell? p14 = some v14 ∧ W.cell? p15 = some v15 := ⟨Lib.hid hB, hold_c c0 hB, hold_c c1 hB, hold_c c2 hB, hold_c c3 hB, hold_c c4 hB, hold_c c5 hB, hold_c c6 hB, hold_c c7 hB, hold_c c8 hB, hold_c c9 hB, hold_c c10 hB, hold_c c11 hB, hold_c c12 hB, hold_c c13 hB, hold_c c14 hB, hold_c c15 hB⟩
theorem hold17 {B W : World} {p0 : Addr} {v0 : Value} {p1 : Addr} {v1 : Value} {p2 : Addr} {v2 : Value} {p3 : Addr} {v3 : Value} {p4 : Addr} {v4 : Value} {p5 : Addr} {v5 : Value} {p6 : Addr} {v6 : Value} {p7 : Addr} {v7 : Value} {p8 : Addr} {v8 : Value} {p9 : Addr} {v9 : Value} {p10 : Addr} {v10 : Value} {p11 : Addr} {v11 : Value} {p12 : Addr} {v12 : Value} {p13 : Addr} {v13 : Value} {p14 : Addr} {v14 : Value} {p15 : Addr} {v15 : Value} {p16 : Addr} {v16 : Value} (c0 : B.cell? p0 = some v0) (c1 : B.cell? p1 = some v1) (c2 : B.cell? p2 = some v2) (c3 : B.cell? p3 = some v3) (c4 : B.cell? p4 = some v4) (c5 : B.cell? p5 = some v5) (c6 : B.cell? p6 = some v6) (c7 : B.cell? p7 = some v7) (c8 : B.cell? p8 = some v8) (c9 : B.cell? p9 = some v9) (c10 : B.cell? p10 = some v10) (c11 : B.cell? p11 = some v11) (c12 : B.cell? p12 = some v12) (c13 : B.cell? p13 = some v13) (c14 : B.cell? p14 = some v14) (c15 : B.cell? p15 = some v15) (c16 : B.cell? p16 = some v16) (hB : Below B.heap.size B W) : Hid (Below B.heap.size B W) ∧ W.cell? p0 = some v0 ∧ W.cell? p1 = some v1 ∧ W.cell? p2 = some v2 ∧ W.cell? p3 = some v3 ∧ W.cell? p4 = some v4 ∧ W.cell? p5 = some v5 ∧ W.cell? p6 = some v6 ∧ W.cell? p7 = some v7 ∧ W.cell? p8 = some v8 ∧ W.cell? p9 = some v9 ∧ W.cell? p10 = some v10 ∧ W.cell? p11 = some v11 ∧ W.cell? p12 = some v12 ∧ W.cell? p13 = some v13 ∧ W.cell? p14 = some v14 ∧ W.cell? p15 = some v15 ∧ W.cell? p16 = some v16 := ⟨Lib.hid hB, hold_c c0 hB, hold_c c1 hB, hold_c c2 hB, hold_c c3 hB, hold_c c4 hB, hold_c c5 hB, hold_c c6 hB, hold_c c7 hB, hold_c c8 hB, hold_c c9 hB, hold_c c10 hB, hold_c c11 hB, hold_c c12 hB, hold_c c13 hB, hold_c c14 hB, hold_c c15 hB, hold_c c16 hB⟩
theorem hold18 {B W : World} {p0 : Addr} {v0 : Value} {p1 : Addr} {v1 : Value} {p2 : Addr} {v2 : Value} {p3 : Addr} {v3 : Value} {p4 : Addr} {v4 : Value} {p5 : Addr} {v5 : Value} {p6 : Addr} {v6 : Value} {p7 : Addr} {v7 : Value} {p8 : Addr} {v8 : Value} {p9 : Addr} {v9 : Value} {p10 : Addr} {v10 : Value} {p11 : Addr} {v11 : Value} {p12 : Addr} {v12 : Value} {p13 : Addr} {v13 : Value} {p14 : Addr} {v14 : Value} {p15 : Addr} {v15 : Value} {p16 : Addr} {v16 : Value} {p17 : Addr} {v17 : Value} (c0 : B.cell? p0 = some v0) (c1 : B.cell? p1 = some v1) (c2 : B.cell? p2 = some v2) (c3 : B.cell? p3 = some v3) (c4 : B.cell? p4 = some v4) (c5 : B.cell? p5 = some v5) (c6 : B.cell? p6 = some v6) (c7 : B.cell? p7 = some v7) (c8 : B.cell? p8 = some v8) (c9 : B.cell? p9 = some v9) (c10 : B.cell? p10 = some v10) (c11 : B.cell? p11 = some v11) (c12 : B.cell? p12 = some v12) (c13 : B.cell? p13 = some v13) (c14 : B.cell? p14 = some v14) (c15 : B.cell? p15 = some v15) (c16 : B.cell? p16 = some v16) (c17 : B.cell? p17 = some v17) (hB : Below B.heap.size B W) : Hid (Below B.heap.size B W) ∧ W.cell? p0 = some v0 ∧ W.cell? p1 = some v1 ∧ W.cell? p2 = some v2 ∧ W.cell? p3 = some v3 ∧ W.cell? p4 = some v4 ∧ W.cell? p5 = some v5 ∧ W.cell? p6 = some v6 ∧ W.cell? p7 = some v7 ∧ W.cell? p8 = some v8 ∧ W.cell? p9 = some v9 ∧ W.cell? p10 = some v10 ∧ W.cell? p11 = some v11 ∧ W.cell? p12 = some v12 ∧ W.cell? p13 = some v13 ∧ W.cell? p14 = some v14 ∧ W.cell? p15 = some v15 ∧ W.cell? p16 = some v16 ∧ W.cell? p17 = some v17 := ⟨Lib.hid hB, hold_c c0 hB, hold_c c1 hB, hold_c c2 hB, hold_c c3 hB, hold_c c4 hB, hold_c c5 hB, hold_c c6 hB, hold_c c7 hB, hold_c c8 hB, hold_c c9 hB, hold_c c10 hB, hold_c c11 hB, hold_c c12 hB, hold_c c13 hB, hold_c c14 hB, hold_c c15 hB, hold_c c16 hB, hold_c c17 hB⟩
theorem hold19 {B W : World} {p0 : Addr} {v0 : Value} {p1 : Addr} {v1 : Value} {p2 : Addr} {v2 : Value} {p3 : Addr} {v3 : Value} {p4 : Addr} {v4 : Value} {p5 : Addr} {v5 : Value} {p6 : Addr} {v6 : Value} {p7 : Addr} {v7 : Value} {p8 : Addr} {v8 : Value} {p9 : Addr} {v9 : Value} {p10 : Addr} {v10 : Value} {p11 : Addr} {v11 : Value} {p12 : Addr} {v12 : Value} {p13 : Addr} {v13 : Value} {p14 : Addr} {v14 : Value} {p15 : Addr} {v15 : Value} {p16 : Addr} {v16 : Value} {p17 : Addr} {v17 : Value} {p18 : Addr} {v18 : Value} (c0 : B.cell? p0 = some v0) (c1 : B.cell? p1 = some v1) (c2 : B.cell? p2 = some v2) (c3 : B.cell? p3 = some v3) (c4 : B.cell? p4 = some v4) (c5 : B.cell? p5 = some v5) (c6 : B.cell? p6 = some v6) (c7 : B.cell? p7 = some v7) (c8 : B.cell? p8 = some v8) (c9 : B.cell? p9 = some v9) (c10 : B.cell? p10 = some v10) (c11 : B.cell? p11 = some v11) (c12 : B.cell? p12 = some v12) (c13 : B.cell? p13 = some v13) (c14 : B.cell? p14 = some v14) (c15 : B.cell? p15 = some v15) (c16 : B.cell? p16 = some v16) (c17 : B.cell? p17 = some v17) (c18 : B.cell? p18 = some v18) (hB : Below B.heap.size B W) : Hid (Below B.heap.size B W) ∧ W.cell? p0 = some v0 ∧ W.cell? p1 = some v1 ∧ W.cell? p2 = some v2 ∧ W.cell? p3 = some v3 ∧ W.cell? p4 = some v4 ∧ W.cell? p5 = some v5 ∧ W.cell? p6 = some v6 ∧ W.cell? p7 = some v7 ∧ W.cell? p8 = some v8 ∧ W.cell? p9 = some v9 ∧ W.cell? p10 = some v10 ∧ W.cell? p11 = some v11 ∧ W.cell? p12 = some v12 ∧ W.cell? p13 = some v13 ∧ W.cell? p14 = some v14 ∧ W.cell? p15 = some v15 ∧ W.cell? p16 = some v16 ∧ W.cell? p17 = some v17 ∧ W.cell? p18 = some v18 := ⟨Lib.hid hB, hold_c c0 hB, hold_c c1 hB, hold_c c2 hB, hold_c c3 hB, hold_c c4 hB, hold_c c5 hB, hold_c c6 hB, hold_c c7 hB, hold_c c8 hB, hold_c c9 hB, hold_c c10 hB, hold_c c11 hB, hold_c c12 hB, hold_c c13 hB, hold_c c14 hB, hold_c c15 hB, hold_c c16 hB, hold_c c17 hB, hold_c c18 hB⟩
theorem hold20 {B W : World} {p0 : Addr} {v0 : Value} {p1 : Addr} {v1 : Value} {p2 : Addr} {v2 : Value} {p3 : Addr} {v3 : Value} {p4 : Addr} {v4 : Value} {p5 : Addr} {v5 : Value} {p6 : Addr} {v6 : Value} {p7 : Addr} {v7 : Value} {p8 : Addr} {v8 : Value} {p9 : Addr} {v9 : Value} {p10 : Addr} {v10 : Value} {p11 : Addr} {v11 : Value} {p12 : Addr} {v12 : Value} {p13 : Addr} {v13 : Value} {p14 : Addr} {v14 : Value} {p15 : Addr} {v15 : Value} {p16 : Addr} {v16 : Value} {p17 : Addr} {v17 : Value} {p18 : Addr} {v18 : Value} {p19 : Addr} {v19 : Value} (c0 : B.cell? p0 = some v0) (c1 : B.cell? p1 = some v1) (c2 : B.cell? p2 = some v2) (c3 : B.cell? p3 = some v3) (c4 : B.cell? p4 = some v4) (c5 : B.cell? p5 = some v5) (c6 : B.cell? p6 = some v6) (c7 : B.cell? p7 = some v7) (c8 : B.cell? p8 = some v8) (c9 : B.cell? p9 = some v9) (c10 : B.cell? p10 = some v10) (c11 : B.cell? p11 = some v11) (c12 : B.cell? p12 = some v12) (c13 : B.cell? p13 = some v13) (c14 : B.cell? p14 = some v14) (c15 : B.cell? p15 = some v15) (c16 : B.cell? p16 = some v16) (c17 : B.cell? p17 = some v17) (c18 : B.cell? p18 = some v18) (c19 : B.cell? p19 = some v19) (hB : Below B.heap.size B W) : Hid (Below B.heap.size B W) ∧ W.cell? p0 = some v0 ∧ W.cell? p1 = some v1 ∧ W.cell? p2 = some v2 ∧ W.cell? p3 = some v3 ∧ W.cell? p4 = some v4 ∧ W.cell? p5 = some v5 ∧ W.cell? p6 = some v6 ∧ W.cell? p7 = some v7 ∧ W.cell? p8 = some v8 ∧ W.cell? p9 = some v9 ∧ W.cell? p10 = some v10 ∧ W.cell? p11 = some v11 ∧ W.cell? p12 = some v12 ∧ W.cell? p13 = some v13 ∧ W.cell? p14 = some v14 ∧ W.cell? p15 = some v15 ∧ W.cell? p16 = some v16 ∧ W.cell? p17 = some v17 ∧ W.cell? p18 = some v18 ∧ W.cell? p19 = some v19 := ⟨Lib.hid hB, hold_c c0 hB, hold_c c1 hB, hold_c c2 hB, hold_c c3 hB, hold_c c4 hB, hold_c c5 hB, hold_c c6 hB, hold_c c7 hB, hold_c c8 hB, hold_c c9 hB, hold_c c10 hB, hold_c c11 hB, hold_c c12 hB, hold_c c13 hB, hold_c c14 hB, hold_c c15 hB, hold_c c16 hB, hold_c c17 hB, hold_c c18 hB, hold_c c19 hB⟩
end Go.Proofs.YtmnncinpepeocaaGreat

namespace Go.Proofs.YtmnncinpepeocaaGreat
open Go.RowKit

/-- Three blocks are laid. -/
theorem alloc3 (w : World) (o0 o1 o2 : Obj) : Below w.heap.size w (((w.alloc o0).alloc o1).alloc o2) ∧ (((w.alloc o0).alloc o1).alloc o2).heap.size = w.heap.size + 1 + 1 + 1 ∧
 (((w.alloc o0).alloc o1).alloc o2).heap[w.heap.size]? = some o0 ∧ (((w.alloc o0).alloc o1).alloc o2).heap[w.heap.size + 1]? = some o1 ∧ (((w.alloc o0).alloc o1).alloc o2).heap[w.heap.size + 1 + 1]? = some o2 := by
 have e2 : ((w.alloc o0).alloc o1).heap.size = w.heap.size + 1 + 1 := by simp
 have h2 := heap_alloc_new ((w.alloc o0).alloc o1) o2
 rw [e2] at h2
 exact ⟨(((Below.refl _ w).alloc (Nat.le_refl _) _).alloc (by simp) _).alloc (by simp; omega) _, by simp, blk_alloc (blk_alloc (heap_alloc_new w _) _) _, blk_alloc (heap_alloc2_new w _ _) _, h2⟩
/-- Four cells of a block are stored. -/
theorem blk_set4 {w : World} {g : Nat} {a b c d x y z u : Value} {t : TypeId} (h : w.heap[g]? = some (.cells #[a, b, c, d] t (0, 0))) :
 ((((w.setCell ⟨g, 0, none⟩ x).setCell ⟨g, 1, none⟩ y).setCell ⟨g, 2, none⟩ z).setCell ⟨g, 3, none⟩ u).heap[g]? = some (.cells #[x, y, z, u] t (0, 0)) :=
 heap_setCell_same _ g 3 _ t u (heap_setCell_same _ g 2 _ t z (heap_setCell_same _ g 1 _ t y (heap_setCell_same w g 0 _ t x h)))
theorem blk_other {w : World} {g g' i : Nat} {x : Value} {o : Obj} (h : w.heap[g]? = some o) (hne : g ≠ g') : (w.setCell ⟨g', i, none⟩ x).heap[g]? = some o := (heap_setCell_other w ⟨g', i, none⟩ g x hne).trans h
end Go.Proofs.YtmnncinpepeocaaGreat

namespace Go.Proofs.YtmnncinpepeocaaGreat
open Go.RowKit

/-- The row when j of its cells are those of M. -/
def halfL (M xs : List Value) (j : Nat) : List Value := M.take j ++ xs.drop j
theorem halfL_zero (M xs : List Value) : halfL M xs 0 = xs := by simp [halfL]
theorem halfL_all {M xs : List Value} {n : Nat} (hM : M.length = n) (hx : xs.length = n) : halfL M xs n = M := by
 unfold halfL
 rw [List.take_of_length_le (by omega), List.drop_eq_nil_of_le (by omega), List.append_nil]
theorem halfL_length {M xs : List Value} {j : Nat} (h : xs.length = M.length) (hj : j ≤ M.length) : (halfL M xs j).length = M.length := by
 unfold halfL
 rw [List.length_append, List.length_take, List.length_drop]
 omega
theorem halfL_set {M xs : List Value} {j : Nat} {u : Value} (h : xs.length = M.length) (hu : M[j]? = some u) : (halfL M xs j).set j u = halfL M xs (j + 1) := by
 have hj : j < M.length := (List.getElem?_eq_some_iff.1 hu).1
 apply List.ext_getElem?
 intro i
 rw [List.getElem?_set, halfL_length h (by omega)]
 have hl : (M.take j).length = j := by rw [List.length_take]; omega
 have hl1 : (M.take (j + 1)).length = j + 1 := by rw [List.length_take]; omega
 unfold halfL
 by_cases hij : j = i
 · subst hij
   rw [if_pos rfl, if_pos hj, List.getElem?_append_left (by omega), List.getElem?_take_of_lt (by omega), hu]
 · rw [if_neg hij]
   by_cases hlt : i < j
   · rw [List.getElem?_append_left (by omega), List.getElem?_append_left (by omega), List.getElem?_take_of_lt hlt, List.getElem?_take_of_lt (by omega)]
   · rw [List.getElem?_append_right (by omega), List.getElem?_append_right (by omega), hl, hl1, List.getElem?_drop, List.getElem?_drop, show j + (i - j) = i by omega, show j + 1 + (i - (j + 1)) = i by omega]
/-- A row of n records of size cells, of which j cells are those of M. -/
def RowL (base e size : Nat) (M xs : List Value) (g n cap j : Nat) (w : World) : Prop := xs.length = M.length ∧ M.length = n * size ∧ j ≤ M.length ∧ w.ownsRow base e size (.slice (some ⟨g, 0, none⟩) n cap) n (halfL M xs j)
theorem RowL.keep {base e size : Nat} {M xs : List Value} {g n cap j : Nat} {w w' : World} (h : RowL base e size M xs g n cap j w) (hb : Below w.heap.size w w') : RowL base e size M xs g n cap j w' :=
 ⟨h.1, h.2.1, h.2.2.1, h.2.2.2.kept (row := none) ⟨hb.os, hb.tape, hb.output, hb.size, fun k hk _ => hb.block k hk⟩ (Or.inr (by simp [Value.ownBlock]))⟩
theorem RowL.cell {base e size : Nat} {M xs : List Value} {g n cap j : Nat} {w : World} (h : RowL base e size M xs g n cap j w) (i : Nat) (hi : i < n * size) : (∃ u, w.cell? ⟨g, i, none⟩ = some u) ∧ w.frozen? ⟨g, i, none⟩ = false := by
 refine ⟨?_, h.2.2.2.frozenAt i⟩
 rw [h.2.2.2.cellAt i hi]
 exact ⟨_, List.getElem?_eq_getElem (by rw [halfL_length h.1 h.2.2.1, h.2.1]; exact hi)⟩
theorem RowL.set {base e size : Nat} {M xs : List Value} {g n cap j : Nat} {w : World} (h : RowL base e size M xs g n cap j w) {u : Value} (hu : M[j]? = some u) : RowL base e size M xs g n cap (j + 1) (w.setCell ⟨g, j, none⟩ u) := by
 have h1 := (h.2.2.2.stored j u).1
 rw [halfL_set h.1 hu] at h1
 exact ⟨h.1, h.2.1, (List.getElem?_eq_some_iff.1 hu).1, h1⟩
theorem RowL.done {base e size : Nat} {M xs : List Value} {g n cap j : Nat} {w : World} (h : RowL base e size M xs g n cap j w) (hj : j = n * size) : w.ownsRow base e size (.slice (some ⟨g, 0, none⟩) n cap) n M := by
 have h1 := h.2.2.2
 subst hj
 rw [halfL_all h.2.1 (h.1.trans h.2.1)] at h1
 exact h1
theorem RowL.start {base e size : Nat} {M xs : List Value} {g n cap : Nat} {w : World} (hM : M.length = n * size) (h : w.ownsRow base e size (.slice (some ⟨g, 0, none⟩) n cap) n xs) : RowL base e size M xs g n cap 0 w :=
 ⟨h.1.trans hM.symm, hM, Nat.zero_le _, by rw [halfL_zero]; exact h⟩
theorem grown_setL {w w' : World} {g j : Nat} {u : Value} (h : w.grownBy w' (some g)) : w.grownBy (w'.setCell ⟨g, j, none⟩ u) (some g) :=
 h.trans ⟨rfl, rfl, rfl, by simp, fun k _ hk => heap_setCell_other w' ⟨g, j, none⟩ k u (fun e => hk (by simp [e]))⟩
theorem cellL_grown {W W' : World} {p : Addr} {v : Value} (h : W.cell? p = some v) {o : Option Nat} (hd : W.grownBy W' o) (hne : o ≠ some p.block) : W'.cell? p = some v := hd.cell h (fun e => hne (by rw [← e]))
/-- Cells that have just been laid. -/
theorem newL1 (W : World) (x : Value) (t : TypeId) : ∀ j u, [x][j]? = some u → (W.alloc (.cells #[x] t)).cell? ((⟨W.heap.size, 0, none⟩ : Addr).add j) = some u := fun j u hu => by
 match j, hu with
 | 0, hu => simp at hu; subst hu; exact cell_of_row _ _ 0 _ _ _ (heap_alloc_new _ _)
/-- An append to a row of one's own, as one step of a region that draws. -/
theorem step_append_ownL {P : Program} {ops : Array Oper} {o : Oper} {ac : Act} {w : World} {K : Act → World → Prop} {Q : Exit → Act → World → Prop} {X : Prop}
 (hg : o.guard = none) (s x : Operand) (t : TypeId) (hop : o.op = Op.call { callee := Callee.builtin Builtin.append, args := #[s, x], argTypes := #[t, t] })
 (base : Nat) (e : TypeId) (i : TypeInfo) (z : Value) (size bytes : Nat) (h1 : P.underlying t = some (.slice e)) (h2 : P.info? e = some i) (h3 : i.zero = some z) (h4 : i.size = size) (h5 : i.bytes = bytes) (h6 : z.cells.size = size) (h7 : 0 < size)
 (v : Value) (k : Nat) (olds : List Value) (hs : ac.eval s = v) (hown : w.ownsRow base e size v k olds)
 (ad : Addr) (m cc : Nat) (news : List Value) (hx : ac.eval x = .slice (some ad) m cc) (hn : news.length = m * size) (hc : ∀ j u, news[j]? = some u → w.cell? (ad.add j) = some u) (h1c : ∀ u ∈ news, u.oneCell' = true)
 (b1 : k + m ≤ maxLen) (b2 : (k + m) * bytes ≤ 140737488355328) (hbase : base ≤ w.heap.size)
 (hK : ∀ v' w', w'.ownsRow base e size v' (k + m) (olds ++ news) → w.grownBy w' v.ownBlock → K (ac.put o.dst v') w') :
 if Region.wanted o (yielded ops ac.tmps) = true then Oper.wp P o ac w K Q else X := by
 have hw : Region.wanted o (yielded ops ac.tmps) = true := by simp [Region.wanted, hg]
 rw [if_pos hw]
 obtain ⟨v', w', hrun, r1, r2, _⟩ := run_append_own (P := P) w base t o.type e i z size bytes h1 h2 h3 h4 h5 h6 h7 v k olds hown ad m cc news hn hc h1c b1 b2 hbase
 unfold Oper.wp
 simp [execOp, hop, resolve, invoke, builtin, hs, hx, hrun, Result.andThen]
 exact hK v' w' r1 r2
theorem own_someL {w : World} {base e size n : Nat} {v : Value} {xs : List Value} (h : w.ownsRow base e size v (n + 1) xs) : ∃ g c, v = .slice (some ⟨g, 0, none⟩) (n + 1) c := by
 rcases h.2 with ⟨_, h1⟩ | ⟨g, cap, cur, h1, _⟩
 · omega
 · exact ⟨g, cap, h1⟩
theorem cell_blockL {w : World} {a : Addr} {n : Nat} {v : Value} (h : w.cell? (a.add n) = some v) : a.block < w.heap.size := by
 have e : (a.add n).block = a.block := by unfold Addr.add; split <;> rfl
 rw [← e]
 exact block_lt_of_cell h
theorem grown_of_belowL {w w' : World} (h : Below w.heap.size w w') (row : Option Nat) : w.grownBy w' row := ⟨h.os, h.tape, h.output, h.size, fun k hk _ => h.block k hk⟩
theorem own_keepL {base e size : Nat} {v : Value} {n : Nat} {xs : List Value} {w w' : World} (h : w.ownsRow base e size v n xs) (hb : Below w.heap.size w w') : w'.ownsRow base e size v n xs :=
 h.kept (row := none) ⟨hb.os, hb.tape, hb.output, hb.size, fun k hk _ => hb.block k hk⟩ (by
  cases hv : v.ownBlock with
  | none => exact Or.inl rfl
  | some b => exact Or.inr (by simp))
end Go.Proofs.YtmnncinpepeocaaGreat

namespace Go.Proofs.YtmnncinpepeocaaGreat
open Go.RowKit

def BoolRes (y : Bool) (w : World) (e : Ending) (w' : World) : Prop := e = .returned (.bool y) ∧ Below w.heap.size w w'
/-- A place is returned, or -1. -/
def IdxRes (y : Bool) (w : World) (e : Ending) (w' : World) : Prop := ∃ z : Int, e = .returned (.int .i64 z) ∧ (y = true → 0 ≤ z) ∧ (y = false → z < 0) ∧ Below w.heap.size w w'
end Go.Proofs.YtmnncinpepeocaaGreat

namespace Go.Proofs.YtmnncinpepeocaaGreat
open Go.RowKit Go.ChangeShapes

/-- The cells of a slice that is not empty: at block b from o on lie the strings ss; the block is one of w's. -/
def CellsS (w : World) (b o : Nat) (ss : List ByteArray) : Prop := b < w.heap.size ∧ ∀ (j : Nat) (x : ByteArray), ss[j]? = some x → w.cell? ⟨b, o + j, none⟩ = some (.string x)

/-- In the world w the value v is a slice that reads as the strings ss. -/
def Strs (w : World) (v : Value) (ss : List ByteArray) : Prop :=
 (ss = [] ∧ ∃ (a : Option Addr) (c : Nat), v = .slice a 0 c) ∨
 (ss ≠ [] ∧ ∃ b o c : Nat, v = .slice (some ⟨b, o, none⟩) ss.length c ∧ ss.length ≤ c ∧ CellsS w b o ss)

theorem CellsS.below {w w' : World} {b o : Nat} {ss : List ByteArray} (h : CellsS w b o ss) (hb : Below w.heap.size w w') : CellsS w' b o ss :=
 ⟨Nat.lt_of_lt_of_le h.1 hb.size, fun j x hx => (hb.cell (p := ⟨b, o + j, none⟩) h.1).trans (h.2 j x hx)⟩

theorem Strs.below {w w' : World} {v : Value} {ss : List ByteArray} (h : Strs w v ss) (hb : Below w.heap.size w w') : Strs w' v ss := by
 rcases h with h | ⟨h0, b, o, c, hv, hc, hcell⟩
 · exact Or.inl h
 · exact Or.inr ⟨h0, b, o, c, hv, hc, hcell.below hb⟩

theorem CellsS.drew {w : World} {b o : Nat} {ss : List ByteArray} (h : CellsS w b o ss) : CellsS w.drew b o ss := h

/-- The cell at k, in the walk's spelling. -/
theorem CellsS.at {w : World} {b o : Nat} {ss : List ByteArray} (h : CellsS w b o ss) (k : Nat) (hk : k < ss.length) : w.cell? ⟨b, o + k, none⟩ = some (.string (ss[k]'hk)) :=
 h.2 k _ (List.getElem?_eq_getElem hk)

/-- How many bytes together. -/
def bytesOf (ss : List ByteArray) : Nat := (ss.map (·.size)).sum

theorem bytesOf_succ {ss : List ByteArray} {k : Nat} (hk : k < ss.length) : bytesOf (ss.take (k + 1)) = bytesOf (ss.take k) + (ss[k]'hk).size := by
 unfold bytesOf
 rw [List.take_succ_eq_append_getElem hk, List.map_append, List.sum_append]
 simp

theorem bytesOf_all {ss : List ByteArray} {k : Nat} (hk : ss.length ≤ k) : bytesOf (ss.take k) = bytesOf ss := by rw [List.take_of_length_le hk]

theorem cell_block {w : World} {a : Addr} {n : Nat} {v : Value} (h : w.cell? (a.add n) = some v) : a.block < w.heap.size := by
 by_cases hb : a.block < w.heap.size
 · exact hb
 · have e : (a.add n).block = a.block := by unfold Addr.add; split <;> rfl
   have : w.heap[(a.add n).block]? = none := by rw [e]; exact Array.getElem?_eq_none (by omega)
   simp [World.cell?, this] at h

/-- What 'open_strings' gives, as Strs. -/
theorem strs_open {w : World} {a : Addr} {len cap : Nat} {ss : List ByteArray} (hl : len ≤ cap) (hz : ss.length = cap)
 (hc : ∀ i, i < ss.length → w.cell? (a.add i) = some (.string (ss.getD i ByteArray.empty))) (hlt : ∀ i, i < ss.length → a.block < w.heap.size) :
 Strs w (.slice (some a) len cap) (ss.take len) := by
 by_cases h0 : len = 0
 · subst h0
   exact Or.inl ⟨by simp, _, _, rfl⟩
 · have hp : 0 < ss.length := by omega
   obtain ⟨b, off, spot⟩ := a
   have hspot : spot = none := by simpa [Addr.add] using World.cell?_spot (hc 0 hp)
   subst hspot
   have hlen : (ss.take len).length = len := by rw [List.length_take]; omega
   refine Or.inr ⟨by intro h; rw [h] at hlen; simp at hlen; omega, b, off, cap, by rw [hlen], by omega, hlt 0 hp, ?_⟩
   intro j x hx
   have hj : j < len := by
    have := (List.getElem?_eq_some_iff.1 hx).1
    omega
   have := hc j (by omega)
   rw [Addr.add_lit] at this
   rw [this, List.getD]
   rw [List.getElem?_take_of_lt hj] at hx
   rw [hx]
   rfl
end Go.Proofs.YtmnncinpepeocaaGreat

namespace Go.Proofs.YtmnncinpepeocaaGreat
open Go.RowKit Go.ChangeShapes

/-- The cells of a slice that is not empty: at block b from o on lie the numbers xs; the block is one of w's. -/
def CellsI (w : World) (b o : Nat) (xs : List Int) : Prop := b < w.heap.size ∧ ∀ (j : Nat) (x : Int), xs[j]? = some x → w.cell? ⟨b, o + j, none⟩ = some (.int .i64 x)

/-- In the world w the value v is a slice that reads as the numbers xs. -/
def Ints (w : World) (v : Value) (xs : List Int) : Prop :=
 (xs = [] ∧ ∃ (a : Option Addr) (c : Nat), v = .slice a 0 c) ∨
 (xs ≠ [] ∧ ∃ b o c : Nat, v = .slice (some ⟨b, o, none⟩) xs.length c ∧ xs.length ≤ c ∧ CellsI w b o xs)

theorem CellsI.below {w w' : World} {b o : Nat} {xs : List Int} (h : CellsI w b o xs) (hb : Below w.heap.size w w') : CellsI w' b o xs :=
 ⟨Nat.lt_of_lt_of_le h.1 hb.size, fun j x hx => (hb.cell (p := ⟨b, o + j, none⟩) h.1).trans (h.2 j x hx)⟩

theorem Ints.below {w w' : World} {v : Value} {xs : List Int} (h : Ints w v xs) (hb : Below w.heap.size w w') : Ints w' v xs := by
 rcases h with h | ⟨h0, b, o, c, hv, hc, hcell⟩
 · exact Or.inl h
 · exact Or.inr ⟨h0, b, o, c, hv, hc, hcell.below hb⟩

theorem CellsI.drew {w : World} {b o : Nat} {xs : List Int} (h : CellsI w b o xs) : CellsI w.drew b o xs := h

/-- The cell at k, in the walk's spelling. -/
theorem CellsI.at {w : World} {b o : Nat} {xs : List Int} (h : CellsI w b o xs) (k : Nat) (hk : k < xs.length) : w.cell? ⟨b, o + k, none⟩ = some (.int .i64 (xs[k]'hk)) :=
 h.2 k _ (List.getElem?_eq_getElem hk)

theorem cell_blockI {w : World} {a : Addr} {n : Nat} {v : Value} (h : w.cell? (a.add n) = some v) : a.block < w.heap.size := by
 by_cases hb : a.block < w.heap.size
 · exact hb
 · have e : (a.add n).block = a.block := by unfold Addr.add; split <;> rfl
   have : w.heap[(a.add n).block]? = none := by rw [e]; exact Array.getElem?_eq_none (by omega)
   simp [World.cell?, this] at h

/-- What 'open_ints' gives, as Ints. -/
theorem ints_open0 {w : World} {a : Addr} {len cap : Nat} {xs : List Int} (hl : len ≤ cap) (hz : xs.length = cap)
 (hc : ∀ i, i < xs.length → w.cell? (a.add i) = some (.int .i64 (xs.getD i 0))) (hlt : ∀ i, i < xs.length → a.block < w.heap.size) :
 Ints w (.slice (some a) len cap) (xs.take len) := by
 by_cases h0 : len = 0
 · subst h0
   exact Or.inl ⟨by simp, _, _, rfl⟩
 · have hp : 0 < xs.length := by omega
   obtain ⟨b, off, spot⟩ := a
   have hspot : spot = none := by simpa [Addr.add] using World.cell?_spot (hc 0 hp)
   subst hspot
   have hlen : (xs.take len).length = len := by rw [List.length_take]; omega
   refine Or.inr ⟨by intro h; rw [h] at hlen; simp at hlen; omega, b, off, cap, by rw [hlen], by omega, hlt 0 hp, ?_⟩
   intro j x hx
   have hj : j < len := by
    have := (List.getElem?_eq_some_iff.1 hx).1
    omega
   have := hc j (by omega)
   rw [Addr.add_lit] at this
   rw [this, List.getD]
   rw [List.getElem?_take_of_lt hj] at hx
   rw [hx]
   rfl

/-- An owned row of numbers reads as these numbers. -/
theorem ints_of_row {w : World} {base e : Nat} {v : Value} {n : Nat} {xs : List Int} (hn : n = xs.length) (h : w.ownsRow base e 1 v n (xs.map (Value.int .i64))) : Ints w v xs := by
 subst hn
 rcases h.2 with ⟨rfl, hx⟩ | ⟨g, cap, cur, rfl, hb, hg, hnc, hcm, hcs, htake⟩
 · exact Or.inl ⟨List.eq_nil_of_length_eq_zero hx, _, _, rfl⟩
 · by_cases h0 : xs = []
   · subst h0
     exact Or.inl ⟨rfl, _, _, rfl⟩
   · refine Or.inr ⟨h0, g, 0, cap, rfl, hnc, (h.lt g rfl).2, fun j x hx => ?_⟩
     have hj : j < xs.length := (List.getElem?_eq_some_iff.1 hx).1
     rw [Nat.zero_add, h.cellAt j (by omega), List.getElem?_map, hx]
     rfl
theorem ints_none (w : World) (a : Option Addr) (c : Nat) : Ints w (.slice a 0 c) [] := Or.inl ⟨rfl, _, _, rfl⟩
/-- Always a slice of that length. -/
theorem Ints.slice {w : World} {v : Value} {xs : List Int} (h : Ints w v xs) : ∃ (a : Option Addr) (c : Nat), v = .slice a xs.length c := by
 rcases h with ⟨rfl, a, c, rfl⟩ | ⟨h0, b, o, c, rfl, hc, hcell⟩
 · exact ⟨a, c, rfl⟩
 · exact ⟨_, c, rfl⟩
theorem grown_of_below {w w' : World} (h : Below w.heap.size w w') (row : Option Nat) : w.grownBy w' row := ⟨h.os, h.tape, h.output, h.size, fun k hk _ => h.block k hk⟩
theorem kept_below {w w' : World} {base e : Nat} {v : Value} {n : Nat} {xs : List Value} (h : w.ownsRow base e 1 v n xs) (hb : Below w.heap.size w w') : w'.ownsRow base e 1 v n xs :=
 h.kept (grown_of_below hb none) (by
  cases hv : v.ownBlock
  · exact Or.inl rfl
  · exact Or.inr (by simp))
/-- What is owned stays while a row apart from it changes. -/
theorem own_apart {w w' : World} {base e : Nat} {v u : Value} {n : Nat} {xs : List Value} (h : w.ownsRow base e 1 v n xs) (hg : w.grownBy w' u.ownBlock) (ha : ∀ j, v.ownBlock = some j → u.ownBlock = some j → False) : w'.ownsRow base e 1 v n xs :=
 h.kept hg (by
  cases hv : v.ownBlock with
  | none => exact Or.inl rfl
  | some j => exact Or.inr (fun e => ha j hv e.symm))
end Go.Proofs.YtmnncinpepeocaaGreat

namespace Go.Proofs.YtmnncinpepeocaaGreat
open Go.RowKit

abbrev Lk := Nat × Nat
/-- The labelling grows along all links. -/
def Sol (ps : List Lk) (u : Nat → Nat) : Prop := ∀ p, p ∈ ps → u p.1 + 1 ≤ u p.2
def Inb (n : Nat) (ps : List Lk) : Prop := ∀ p, p ∈ ps → p.1 < n ∧ p.2 < n
def lv (v : List Nat) (i : Nat) : Nat := v.getD i 0
theorem lv_out {v : List Nat} {i : Nat} (h : v.length ≤ i) : lv v i = 0 := by
 unfold lv
 rw [List.getD_eq_getElem?_getD, List.getElem?_eq_none h]; rfl
theorem lv_get {v : List Nat} {i : Nat} (h : i < v.length) : lv v i = v[i]'h := by
 unfold lv
 rw [List.getD_eq_getElem?_getD, List.getElem?_eq_getElem h]; rfl
theorem lv_set {v : List Nat} {b x i : Nat} (h : b < v.length) : lv (v.set b x) i = if i = b then x else lv v i := by
 by_cases hi : i < v.length
 · rw [lv_get (by simpa using hi), List.getElem_set, lv_get hi]
   by_cases e : b = i
   · rw [if_pos e, if_pos e.symm]
   · rw [if_neg e, if_neg (fun h => e h.symm)]
 · rw [lv_out (by simpa using hi), lv_out (by omega), if_neg (by omega)]
theorem lv_zeros (n i : Nat) : lv (List.replicate n 0) i = 0 := by
 by_cases hi : i < n
 · rw [lv_get (by simpa using hi)]; simp
 · exact lv_out (by simpa using hi)
theorem cnt_le (L : List Nat) (p q : Nat → Bool) (h : ∀ j, p j = true → q j = true) : L.countP p ≤ L.countP q := by
 induction L with
 | nil => exact Nat.le_refl _
 | cons x L ih =>
  simp only [List.countP_cons]
  cases hx : p x with
  | false => cases q x <;> simp <;> omega
  | true => rw [h x hx]; simp; omega
theorem cnt_lt (L : List Nat) (p q : Nat → Bool) (h : ∀ j, p j = true → q j = true) {j : Nat} (hj : j ∈ L) (hq : q j = true) (hp : p j = false) : L.countP p < L.countP q := by
 induction L with
 | nil => cases hj
 | cons x L ih =>
  simp only [List.countP_cons]
  rcases List.mem_cons.1 hj with rfl | hm
  · have := cnt_le L p q h
    rw [hq, hp]; simp; omega
  · have := ih hm
    cases hx : p x with
    | false => cases q x <;> simp <;> omega
    | true => rw [h x hx]; simp; omega
/-- If one labelling grows along all links, then one below n does. -/
theorem Sol.bound {ps : List Lk} {u : Nat → Nat} {n : Nat} (h : Sol ps u) (hi : Inb n ps) : ∃ u', Sol ps u' ∧ ∀ i, i < n → u' i < n := by
 refine ⟨fun i => (List.range n).countP (fun j => decide (u j < u i)), fun p hp => ?_, fun i hlt => ?_⟩
 · have h1 := h p hp
   exact cnt_lt _ _ _ (fun j hj => decide_eq_true (by have := of_decide_eq_true hj; omega)) (List.mem_range.2 (hi p hp).1) (decide_eq_true (by omega)) (decide_eq_false (by omega))
 · have h1 := cnt_lt (List.range n) (fun j => decide (u j < u i)) (fun _ => true) (fun _ _ => rfl) (List.mem_range.2 hlt) rfl (decide_eq_false (by omega))
   have h2 : (List.range n).countP (fun _ => true) = n := by simp
   rw [h2] at h1
   exact h1
/-- No labelling is below this one. -/
def Low (ps : List Lk) (v : List Nat) : Prop := ∀ u, Sol ps u → ∀ i, lv v i ≤ u i
theorem Low.zero (ps : List Lk) (n : Nat) : Low ps (List.replicate n 0) := fun u _ i => by rw [lv_zeros]; exact Nat.zero_le _
theorem Low.raise {ps : List Lk} {v : List Nat} (h : Low ps v) {p : Lk} (hp : p ∈ ps) (hb : p.2 < v.length) : Low ps (v.set p.2 (lv v p.1 + 1)) := fun u hu i => by
 rw [lv_set hb]
 split
 · rename_i e
   subst e
   exact Nat.le_trans (Nat.succ_le_succ (h u hu p.1)) (hu p hp)
 · exact h u hu i
/-- The least labelling. -/
def LevOk (n : Nat) (ps : List Lk) (v : List Nat) : Prop := v.length = n ∧ Sol ps (lv v) ∧ Low ps v
theorem LevOk.eq {n : Nat} {ps : List Lk} {v v' : List Nat} (h : LevOk n ps v) (h' : LevOk n ps v') : v = v' := by
 refine List.ext_getElem (h.1.trans h'.1.symm) (fun i h1 h2 => ?_)
 have a := h.2.2 _ h'.2.1 i
 have b := h'.2.2 _ h.2.1 i
 rw [lv_get h1, lv_get h2] at a b
 omega
theorem LevOk.lt {n : Nat} {ps : List Lk} {v : List Nat} (h : LevOk n ps v) (hi : Inb n ps) (i : Nat) (hlt : i < n) : lv v i < n := by
 obtain ⟨u, hu, hb⟩ := h.2.1.bound hi
 have := h.2.2 u hu i
 have := hb i hlt
 omega
/-- The least labelling is 0 where no link leads to. -/
theorem LevOk.zero {n : Nat} {ps : List Lk} {v : List Nat} (h : LevOk n ps v) (i : Nat) (hno : ∀ p, p ∈ ps → p.2 ≠ i) : lv v i = 0 := by
 have h1 := h.2.2 (fun j => if j = i then 0 else lv v j) (fun p hp => by
  have a := h.2.1 p hp
  simp only
  rw [if_neg (hno p hp)]
  split <;> omega) i
 simp at h1
 exact h1

/-- In the round r, before link k: links already taken hold or begin high. -/
def RInv (r k : Nat) (ps : List Lk) (v : List Nat) : Prop := ∀ j (hj : j < ps.length), lv v (ps[j]'hj).1 + 1 ≤ lv v (ps[j]'hj).2 ∨ (if j < k then r + 1 else r) ≤ lv v (ps[j]'hj).1
theorem RInv.zero (ps : List Lk) (v : List Nat) : RInv 0 0 ps v := fun j hj => Or.inr (by simp)
theorem RInv.next {r : Nat} {ps : List Lk} {v : List Nat} (h : RInv r ps.length ps v) : RInv (r + 1) 0 ps v := fun j hj => by
 have := h j hj
 rw [if_pos hj] at this
 simpa using this
theorem RInv.keep {r k : Nat} {ps : List Lk} {v : List Nat} (h : RInv r k ps v) (hk : k < ps.length) (hd : lv v (ps[k]'hk).1 + 1 ≤ lv v (ps[k]'hk).2) : RInv r (k + 1) ps v := fun j hj => by
 by_cases e : j = k
 · subst e; exact Or.inl hd
 · rcases h j hj with h1 | h1
   · exact Or.inl h1
   · right
     by_cases hlt : j < k
     · rw [if_pos hlt] at h1; rw [if_pos (by omega)]; exact h1
     · rw [if_neg hlt] at h1; rw [if_neg (by omega)]; exact h1
theorem RInv.raise {r k : Nat} {ps : List Lk} {v : List Nat} (h : RInv r k ps v) (hk : k < ps.length) (hd : ¬lv v (ps[k]'hk).1 + 1 ≤ lv v (ps[k]'hk).2) (hb : (ps[k]'hk).2 < v.length) : RInv r (k + 1) ps (v.set (ps[k]'hk).2 (lv v (ps[k]'hk).1 + 1)) := fun j hj => by
 have hr : r ≤ lv v (ps[k]'hk).1 := by
  rcases h k hk with h1 | h1
  · exact absurd h1 hd
  · rwa [if_neg (Nat.lt_irrefl _)] at h1
 rw [lv_set hb, lv_set hb]
 by_cases ej : j = k
 · subst ej
   rw [if_pos (Nat.lt_succ_self _)]
   by_cases e2 : (ps[j]'hj).1 = (ps[j]'hj).2
   · right; rw [if_pos e2]; omega
   · left; rw [if_neg e2, if_pos rfl]; omega
 · by_cases e1 : (ps[j]'hj).1 = (ps[k]'hk).2
   · right
     rw [if_pos e1]
     split <;> omega
   · rw [if_neg e1]
     rcases h j hj with h1 | h1
     · left
       by_cases e2 : (ps[j]'hj).2 = (ps[k]'hk).2
       · rw [if_pos e2]; rw [e2] at h1; omega
       · rw [if_neg e2]; exact h1
     · right
       by_cases hlt : j < k
       · rw [if_pos hlt] at h1; rw [if_pos (by omega)]; exact h1
       · rw [if_neg hlt] at h1; rw [if_neg (by omega)]; exact h1
/-- Ahead of round r. -/
def HState (n r : Nat) (ps : List Lk) (v : List Nat) : Prop := v.length = n ∧ Low ps v ∧ RInv r 0 ps v ∧ (0 < r → ∃ i, r ≤ lv v i) ∧ ∀ i, lv v i ≤ 25 * r
/-- In round r, ahead of link k; whether something has changed in it. -/
def RState (n r k : Nat) (ps : List Lk) (v : List Nat) (c : Bool) : Prop := v.length = n ∧ Low ps v ∧ RInv r k ps v ∧ ((c = true ∧ ∃ i, r + 1 ≤ lv v i) ∨ (c = false ∧ ∀ j (hj : j < ps.length), j < k → lv v (ps[j]'hj).1 + 1 ≤ lv v (ps[j]'hj).2)) ∧ ∀ i, lv v i ≤ 25 * r + k
theorem HState.start (n : Nat) (ps : List Lk) : HState n 0 ps (List.replicate n 0) := ⟨by simp, Low.zero _ _, RInv.zero _ _, fun h => by omega, fun i => by rw [lv_zeros]; omega⟩
theorem HState.round {n r : Nat} {ps : List Lk} {v : List Nat} (h : HState n r ps v) : RState n r 0 ps v false := ⟨h.1, h.2.1, h.2.2.1, Or.inr ⟨rfl, fun j _ hj => by omega⟩, by simpa using h.2.2.2.2⟩
theorem RState.keep {n r k : Nat} {ps : List Lk} {v : List Nat} {c : Bool} (h : RState n r k ps v c) (hk : k < ps.length) (hd : lv v (ps[k]'hk).1 + 1 ≤ lv v (ps[k]'hk).2) : RState n r (k + 1) ps v c := by
 obtain ⟨h1, h2, h3, h4, h5⟩ := h
 refine ⟨h1, h2, h3.keep hk hd, ?_, fun i => by have := h5 i; omega⟩
 rcases h4 with h4 | ⟨hc, h4⟩
 · exact Or.inl h4
 · refine Or.inr ⟨hc, fun j hj hlt => ?_⟩
   by_cases e : j = k
   · subst e; exact hd
   · exact h4 j hj (by omega)
theorem RState.raise {n r k : Nat} {ps : List Lk} {v : List Nat} {c : Bool} (h : RState n r k ps v c) (hk : k < ps.length) (hd : ¬lv v (ps[k]'hk).1 + 1 ≤ lv v (ps[k]'hk).2) (hb : (ps[k]'hk).2 < n) : RState n r (k + 1) ps (v.set (ps[k]'hk).2 (lv v (ps[k]'hk).1 + 1)) true := by
 obtain ⟨h1, h2, h3, h4, h5⟩ := h
 have hb' : (ps[k]'hk).2 < v.length := by omega
 refine ⟨by simpa using h1, h2.raise (List.getElem_mem hk) hb', h3.raise hk hd hb', Or.inl ⟨rfl, ?_⟩, fun i => ?_⟩
 · refine ⟨(ps[k]'hk).2, ?_⟩
   rw [lv_set hb', if_pos rfl]
   rcases h3 k hk with h6 | h6
   · exact absurd h6 hd
   · rw [if_neg (Nat.lt_irrefl _)] at h6; omega
 · rw [lv_set hb']
   split
   · have := h5 (ps[k]'hk).1; omega
   · have := h5 i; omega
theorem RState.still {n r : Nat} {ps : List Lk} {v : List Nat} (h : RState n r ps.length ps v false) : LevOk n ps v := by
 obtain ⟨h1, h2, h3, h4, h5⟩ := h
 refine ⟨h1, fun p hp => ?_, h2⟩
 rcases h4 with ⟨hc, _⟩ | ⟨_, h4⟩
 · cases hc
 · obtain ⟨j, hj, rfl⟩ := List.getElem_of_mem hp
   exact h4 j hj hj
theorem RState.again {n r : Nat} {ps : List Lk} {v : List Nat} (h : RState n r ps.length ps v true) (hl : ps.length ≤ 24) : HState n (r + 1) ps v := by
 obtain ⟨h1, h2, h3, h4, h5⟩ := h
 refine ⟨h1, h2, h3.next, fun _ => ?_, fun i => by have := h5 i; omega⟩
 rcases h4 with ⟨_, h4⟩ | ⟨hc, _⟩
 · exact h4
 · cases hc
theorem HState.none {n r : Nat} {ps : List Lk} {v : List Nat} (h : HState n r ps v) (hr : n < r) (hi : Inb n ps) : ¬∃ u, Sol ps u := by
 rintro ⟨u, hu⟩
 obtain ⟨u', hu', hb⟩ := hu.bound hi
 obtain ⟨i, h6⟩ := h.2.2.2.1 (by omega)
 have h7 := h.2.1 u' hu' i
 by_cases hlt : i < n
 · have := hb i hlt; omega
 · rw [lv_out (by rw [h.1]; omega)] at h6; omega

/-- Raising one at a time: no level is too high yet. -/
def PState (n : Nat) (ps : List Lk) (v : List Nat) : Prop := v.length = n ∧ Low ps v ∧ ∀ i, i < n → lv v i < n
/-- The first k links hold. -/
def DoneTo (k : Nat) (ps : List Lk) (v : List Nat) : Prop := ∀ j (hj : j < ps.length), j < k → lv v (ps[j]'hj).1 + 1 ≤ lv v (ps[j]'hj).2
theorem DoneTo.zero (ps : List Lk) (v : List Nat) : DoneTo 0 ps v := fun _ _ h => by omega
theorem DoneTo.succ {k : Nat} {ps : List Lk} {v : List Nat} (h : DoneTo k ps v) (hk : k < ps.length) (hd : lv v (ps[k]'hk).1 + 1 ≤ lv v (ps[k]'hk).2) : DoneTo (k + 1) ps v := fun j hj hlt => by
 by_cases e : j = k
 · subst e; exact hd
 · exact h j hj (by omega)
theorem PState.start (n : Nat) (ps : List Lk) : PState n ps (List.replicate n 0) := ⟨by simp, Low.zero _ _, fun i hi => by rw [lv_zeros]; omega⟩
theorem PState.done {n k : Nat} {ps : List Lk} {v : List Nat} (h : PState n ps v) (hd : DoneTo k ps v) (hk : ps.length ≤ k) : LevOk n ps v := ⟨h.1, fun p hp => by
 obtain ⟨j, hj, rfl⟩ := List.getElem_of_mem hp
 exact hd j hj (by omega), h.2.1⟩
theorem PState.raise {n : Nat} {ps : List Lk} {v : List Nat} (h : PState n ps v) {p : Lk} (hp : p ∈ ps) (hb : p.2 < n) (hne : lv v p.1 + 1 ≠ n) (ha : p.1 < n) : PState n ps (v.set p.2 (lv v p.1 + 1)) := by
 have hb' : p.2 < v.length := by rw [h.1]; exact hb
 refine ⟨by simpa using h.1, h.2.1.raise hp hb', fun i hi => ?_⟩
 rw [lv_set hb']
 split
 · have := h.2.2 p.1 ha; omega
 · exact h.2.2 i hi
theorem PState.none {n : Nat} {ps : List Lk} {v : List Nat} (h : PState n ps v) (hi : Inb n ps) {p : Lk} (hp : p ∈ ps) (hne : lv v p.1 + 1 = n) : ¬∃ u, Sol ps u := by
 rintro ⟨u, hu⟩
 obtain ⟨u', hu', hb⟩ := hu.bound hi
 have h1 := h.2.1 u' hu' p.1
 have h2 := hu' p hp
 have h3 := hb p.2 (hi p hp).2
 omega
theorem sum_set {v : List Nat} {b x : Nat} (h : b < v.length) : (v.set b x).sum + lv v b = v.sum + x := by
 induction v generalizing b with
 | nil => simp at h
 | cons y v ih =>
  cases b with
  | zero => simp [lv]; omega
  | succ b =>
   have h1 := ih (b := b) (by simpa using h)
   have h2 : lv (y :: v) (b + 1) = lv v b := by unfold lv; simp
   rw [h2]
   simp only [List.set_cons_succ, List.sum_cons]
   omega
theorem sum_le {v : List Nat} {m : Nat} (h : ∀ i, i < v.length → lv v i < m) : v.sum ≤ v.length * m := by
 induction v with
 | nil => simp
 | cons y v ih =>
  have h0 := h 0 (by simp)
  have h1 := ih (fun i hi => by have := h (i + 1) (by simpa using hi); unfold lv at this ⊢; simpa using this)
  have h2 : lv (y :: v) 0 = y := by unfold lv; rfl
  rw [List.sum_cons, List.length_cons, Nat.succ_mul]
  omega
/-- Each raise brings the end nearer. -/
theorem PState.less {n : Nat} {ps : List Lk} {v : List Nat} (h : PState n ps v) {p : Lk} (hb : p.2 < n) (hd : ¬lv v p.1 + 1 ≤ lv v p.2) (h2 : PState n ps (v.set p.2 (lv v p.1 + 1))) : n * n + 1 - (v.set p.2 (lv v p.1 + 1)).sum < n * n + 1 - v.sum := by
 have h3 := sum_set (v := v) (b := p.2) (x := lv v p.1 + 1) (by rw [h.1]; exact hb)
 have h4 := sum_le (v := v.set p.2 (lv v p.1 + 1)) (m := n) (fun i hi => h2.2.2 i (by rw [← h2.1]; exact hi))
 rw [h2.1] at h4
 omega
end Go.Proofs.YtmnncinpepeocaaGreat

namespace Go.Proofs.YtmnncinpepeocaaGreat
open Go.RowKit

/-- Between two bounds. -/
def inB (x lo hi : Int) : Bool := decide (lo ≤ x) && decide (x ≤ hi)
theorem inB_yes {x lo hi : Int} (h : lo ≤ x) (h' : x ≤ hi) : inB x lo hi = true := by simp [inB, h, h']
theorem inB_no {x lo hi : Int} (h : x < lo ∨ hi < x) : inB x lo hi = false := by
 unfold inB
 rcases h with h | h
 · rw [decide_eq_false (by omega)]; rfl
 · rw [decide_eq_false (p := x ≤ hi) (by omega), Bool.and_false]

set_option maxRecDepth 100000 in
set_option maxHeartbeats 400000 in
theorem spec_in (x lo hi : Int) (w : World) : Calls Tryz.prog 50 #[.int .i64 x, .int .i64 lo, .int .i64 hi] w fun e w' => e = .returned (.bool (inB x lo hi)) ∧ w' = w := by
 by_cases h : lo ≤ x
 · by_cases h2 : x ≤ hi
   · have HI := Lib.hid (inB_yes h h2)
     go_enter Tryz.func50, Tryz.ntmps50
     go_wp2
     go_ret
     exact ⟨by rw [HI.out]; rfl, rfl⟩
   · have HI := Lib.hid (inB_no (x := x) (lo := lo) (hi := hi) (Or.inr (by omega)))
     go_enter Tryz.func50, Tryz.ntmps50
     go_wp2
     go_ret
     exact ⟨by rw [HI.out]; rfl, rfl⟩
 · have HI := Lib.hid (inB_no (x := x) (lo := lo) (hi := hi) (Or.inl (by omega)))
   go_enter Tryz.func50, Tryz.ntmps50
   go_wp2
   go_ret
   exact ⟨by rw [HI.out]; rfl, rfl⟩

/-- .. where the answer is known. -/
theorem spec_in_is (x lo hi : Int) (y : Bool) (w : World) (h : inB x lo hi = y) : Calls Tryz.prog 50 #[.int .i64 x, .int .i64 lo, .int .i64 hi] w fun e w' => e = .returned (.bool y) ∧ w' = w := by
 rw [← h]
 exact spec_in x lo hi w

theorem ret_b {a b : Bool} (h : a = b) : Ending.returned (.bool a) = .returned (.bool b) := by rw [h]
end Go.Proofs.YtmnncinpepeocaaGreat

namespace Go.Proofs.YtmnncinpepeocaaGreat
open Go.RowKit

/-- An append to a row of one's own, as one step of a region that draws. -/
theorem step_append_row {P : Program} {ops : Array Oper} {o : Oper} {ac : Act} {w : World} {K : Act → World → Prop} {Q : Exit → Act → World → Prop} {X : Prop}
 (hg : o.guard = none) (s x : Operand) (t : TypeId) (hop : o.op = Op.call { callee := Callee.builtin Builtin.append, args := #[s, x], argTypes := #[t, t] })
 (base : Nat) (e : TypeId) (i : TypeInfo) (z : Value) (size bytes : Nat) (h1 : P.underlying t = some (.slice e)) (h2 : P.info? e = some i) (h3 : i.zero = some z) (h4 : i.size = size) (h5 : i.bytes = bytes) (h6 : z.cells.size = size) (h7 : 0 < size)
 (v : Value) (k : Nat) (olds : List Value) (hs : ac.eval s = v) (hown : w.ownsRow base e size v k olds)
 (ad : Addr) (m cc : Nat) (news : List Value) (hx : ac.eval x = .slice (some ad) m cc) (hn : news.length = m * size) (hc : ∀ j u, news[j]? = some u → w.cell? (ad.add j) = some u) (h1c : ∀ u ∈ news, u.oneCell' = true)
 (b1 : k + m ≤ maxLen) (b2 : (k + m) * bytes ≤ 140737488355328) (hbase : base ≤ w.heap.size)
 (hK : ∀ v' w', w'.ownsRow base e size v' (k + m) (olds ++ news) → w.grownBy w' v.ownBlock → K (ac.put o.dst v') w') :
 if Region.wanted o (yielded ops ac.tmps) = true then Oper.wp P o ac w K Q else X := by
 have hw : Region.wanted o (yielded ops ac.tmps) = true := by simp [Region.wanted, hg]
 rw [if_pos hw]
 obtain ⟨v', w', hrun, r1, r2, _⟩ := run_append_own (P := P) w base t o.type e i z size bytes h1 h2 h3 h4 h5 h6 h7 v k olds hown ad m cc news hn hc h1c b1 b2 hbase
 unfold Oper.wp
 simp [execOp, hop, resolve, invoke, builtin, hs, hx, hrun, Result.andThen]
 exact hK v' w' r1 r2
/-- The cell of a block that has just been laid. -/
theorem new_1 (W : World) (x0 : Value) (T : TypeId) : ∀ (j : Nat) (u : Value), [x0][j]? = some u → (W.alloc (.cells #[x0] T)).cell? ((⟨W.heap.size, 0, none⟩ : Addr).add j) = some u := by
 intro j u hu
 match j, hu with
 | 0, hu => simp at hu; subst hu; exact cell_of_row _ _ 0 _ _ _ (heap_alloc_new _ _)
/-- The 2 cells of a block that has just been laid. -/
theorem new_2 (W : World) (x0 x1 : Value) (T : TypeId) : ∀ (j : Nat) (u : Value), [x0, x1][j]? = some u → (W.alloc (.cells #[x0, x1] T)).cell? ((⟨W.heap.size, 0, none⟩ : Addr).add j) = some u := by
 intro j u hu
 match j, hu with
 | 0, hu => simp at hu; subst hu; exact cell_of_row _ _ 0 _ _ _ (heap_alloc_new _ _)
 | 1, hu => simp at hu; subst hu; exact cell_of_row _ _ 1 _ _ _ (heap_alloc_new _ _)
/-- The 6 cells of a block that has just been laid. -/
theorem new_6 (W : World) (x0 x1 x2 x3 x4 x5 : Value) (T : TypeId) : ∀ (j : Nat) (u : Value), [x0, x1, x2, x3, x4, x5][j]? = some u → (W.alloc (.cells #[x0, x1, x2, x3, x4, x5] T)).cell? ((⟨W.heap.size, 0, none⟩ : Addr).add j) = some u := by
 intro j u hu
 match j, hu with
 | 0, hu => simp at hu; subst hu; exact cell_of_row _ _ 0 _ _ _ (heap_alloc_new _ _)
 | 1, hu => simp at hu; subst hu; exact cell_of_row _ _ 1 _ _ _ (heap_alloc_new _ _)
 | 2, hu => simp at hu; subst hu; exact cell_of_row _ _ 2 _ _ _ (heap_alloc_new _ _)
 | 3, hu => simp at hu; subst hu; exact cell_of_row _ _ 3 _ _ _ (heap_alloc_new _ _)
 | 4, hu => simp at hu; subst hu; exact cell_of_row _ _ 4 _ _ _ (heap_alloc_new _ _)
 | 5, hu => simp at hu; subst hu; exact cell_of_row _ _ 5 _ _ _ (heap_alloc_new _ _)
end Go.Proofs.YtmnncinpepeocaaGreat

namespace Go.Proofs.YtmnncinpepeocaaGreat
open Go.RowKit

theorem results_cell_row2 {P : Program} {fn : Func} {p q : Tmp} {ty uy : TypeId} (h : fn.results = #[.cell p ty, .cell q uy]) (tmps : Array Value) (w : World) (g k : Nat) (t u : TypeId) (cs ds : Array Value) (fr gr : Nat × Nat) (d e : TypeDesc)
 (hp : tmps.getD p undef = .pointer (some ⟨g, 0, none⟩)) (hq : tmps.getD q undef = .pointer (some ⟨k, 0, none⟩)) (hg : w.heap[g]? = some (.cells cs t fr)) (hk : w.heap[k]? = some (.cells ds u gr))
 (hu : P.underlying ty = some d) (hd : (match d with | .struct _ | .array _ _ => true | _ => false) = true) (hi : (P.info? ty).map (·.size) = some cs.size)
 (hv : P.underlying uy = some e) (he : (match e with | .struct _ | .array _ _ => true | _ => false) = true) (hj : (P.info? uy).map (·.size) = some ds.size) :
 (results fn tmps).run P w = .ok (.tuple #[.agg cs, .agg ds]) w := by
 have hp' : tmps[p]?.getD undef = .pointer (some ⟨g, 0, none⟩) := by simpa using hp
 have hq' : tmps[q]?.getD undef = .pointer (some ⟨k, 0, none⟩) := by simpa using hq
 simp [results, h, hp', hq', asAddr, run_loadVar_row w g t ty cs fr d hg hu hd hi, run_loadVar_row w k u uy ds gr e hk hv he hj]
/-- One result in memory, one in a slot. -/
theorem results_cell_row_slot {P : Program} {fn : Func} {p q : Tmp} {ty : TypeId} (h : fn.results = #[.cell p ty, .tmp q]) (tmps : Array Value) (w : World) (g : Nat) (t : TypeId) (cs : Array Value) (fr : Nat × Nat) (d : TypeDesc) (v : Value)
 (hp : tmps.getD p undef = .pointer (some ⟨g, 0, none⟩)) (hq : tmps.getD q undef = v) (hg : w.heap[g]? = some (.cells cs t fr))
 (hu : P.underlying ty = some d) (hd : (match d with | .struct _ | .array _ _ => true | _ => false) = true) (hi : (P.info? ty).map (·.size) = some cs.size) :
 (results fn tmps).run P w = .ok (.tuple #[.agg cs, v]) w := by
 have hp' : tmps[p]?.getD undef = .pointer (some ⟨g, 0, none⟩) := by simpa using hp
 have hq' : tmps[q]?.getD undef = v := by simpa using hq
 simp [results, h, hp', hq', asAddr, run_loadVar_row w g t ty cs fr d hg hu hd hi]
/-- One result in memory, two in slots. -/
theorem results_cell_row_slot2 {P : Program} {fn : Func} {p q r : Tmp} {ty : TypeId} (h : fn.results = #[.cell p ty, .tmp q, .tmp r]) (tmps : Array Value) (w : World) (g : Nat) (t : TypeId) (cs : Array Value) (fr : Nat × Nat) (d : TypeDesc) (v u : Value)
 (hp : tmps.getD p undef = .pointer (some ⟨g, 0, none⟩)) (hq : tmps.getD q undef = v) (hr : tmps.getD r undef = u) (hg : w.heap[g]? = some (.cells cs t fr))
 (hu : P.underlying ty = some d) (hd : (match d with | .struct _ | .array _ _ => true | _ => false) = true) (hi : (P.info? ty).map (·.size) = some cs.size) :
 (results fn tmps).run P w = .ok (.tuple #[.agg cs, v, u]) w := by
 have hp' : tmps[p]?.getD undef = .pointer (some ⟨g, 0, none⟩) := by simpa using hp
 have hq' : tmps[q]?.getD undef = v := by simpa using hq
 have hr' : tmps[r]?.getD undef = u := by simpa using hr
 simp [results, h, hp', hq', hr', asAddr, run_loadVar_row w g t ty cs fr d hg hu hd hi]
end Go.Proofs.YtmnncinpepeocaaGreat
