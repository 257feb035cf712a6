/-
  The draws of the law FnTexts.
-/
import Derived.Test.YtccmmpfbiemjiaaDoorRows
import Derived.Test.YtccmmpfbiemjiaaDoorDraw
import Derived.Test.YtccmmpfbiemjiaaDoorFmtWalk
import Derived.WalkKit
import Derived.WalkSpells
import Derived.Lib.Hide
namespace Go.Proofs.YtccmmpfbiemjiaaDoor
open Go.RowKit

theorem CurAt.alloc {B b : Nat} {w : World} {a : Option Addr} {n c : Nat} (h : CurAt B w b a n c) (o : Obj) : CurAt B (w.alloc o) b a n c := by
  obtain ⟨hB, i, x, h1, h2, h3, hb⟩ := h
  have hlt : b < w.heap.size := (Array.getElem?_eq_some_iff.1 hb).1
  exact ⟨hB, i, x, h1, h2, h3, (Below.heap_alloc w o b hlt).trans hb⟩
theorem CodeAt.alloc {B : Nat} {w : World} {a : Option Addr} {n : Nat} (h : CodeAt B w a n) (hB : B ≤ w.heap.size) (o : Obj) : CodeAt B (w.alloc o) a n := h.below ((Below.refl _ _).alloc hB o)
theorem CurAt.lt {B b : Nat} {w : World} {a : Option Addr} {n c : Nat} (h : CurAt B w b a n c) : b < w.heap.size := by
  obtain ⟨_, i, x, _, _, _, hb⟩ := h
  exact (Array.getElem?_eq_some_iff.1 hb).1
theorem Drawn.ofAlloc {B b : Nat} {a : Option Addr} {n c : Nat} {w w' : World} {o : Obj} (h : Drawn B b a n c (w.alloc o) w') : Drawn B b a n c w w' := ⟨h.cur, (World.grownBy_alloc w o _).trans h.grown⟩

/-- The cells of a list of numbers that has just been laid. -/
theorem ints_new (w : World) (T : TypeId) (zs : List Int) (h : ∀ z ∈ zs, -9223372036854775808 ≤ z ∧ z ≤ 9223372036854775807) : IntsAt (w.alloc (.cells (zs.map (Value.int .i64)).toArray T)) w.heap.size zs.length := by
  intro j hj
  refine ⟨zs[j]'hj, (h _ (List.getElem_mem hj)).1, (h _ (List.getElem_mem hj)).2, ?_⟩
  rw [cell_of_row _ _ j _ _ _ (heap_new _ _)]
  simp [hj]
theorem texts_new (w : World) (T : TypeId) (zs : List ByteArray) (h : ∀ z ∈ zs, z.size ≤ 1000) : TextsAt (w.alloc (.cells (zs.map Value.string).toArray T)) w.heap.size zs.length := by
  intro j hj
  refine ⟨zs[j]'hj, h _ (List.getElem_mem hj), ?_⟩
  rw [cell_of_row _ _ j _ _ _ (heap_new _ _)]
  simp [hj]

set_option maxRecDepth 100000 in
set_option maxHeartbeats 400000 in
theorem l1_odd (B b : Nat) (a : Option Addr) (n c : Nat) (w : World) (hn : n ≤ 1048576) (hcode : CodeAt B w a n) (hcur : CurAt B w b a n c) (hBw : B ≤ w.heap.size) :
    Calls Tryd.prog 26 #[.pointer (some ⟨b, 0, none⟩)] w (Draws B b a n c (-9223372036854775808) 9223372036854775807 w) := by
  have HC := Lib.hid hcode
  have HU := Lib.hid hcur
  have hlt := hcur.lt
  clear hcode hcur
  go_enter Tryd.func26, Tryd.ntmps26
  go_wp2_with fail
  have hi := ints_new w 3 [0, 1, -1, 2, 1000000, 1000001, -1000001, 1000000000, 1000000001, 9223372036854775807, -9223372036854775808] (by
    intro z hz; simp only [List.mem_cons, List.mem_nil_iff, or_false] at hz; omega)
  refine (l1_pickInt B b w.heap.size 11 a n c _ hn (HC.out.alloc hBw _) (HU.out.alloc _) (by omega) (by omega) (by simp; omega) (by omega) hi).mono ?_
  rintro e w1 ⟨x, rfl, hx0, hx1, hd⟩
  have HD := Lib.hid hd.ofAlloc
  clear hd hi
  go_wp2
  go_ret
  exact ⟨x, rfl, hx0, hx1, HD.out⟩

theorem zero_cat (l : List UInt8) : (⟨#[48]⟩ : ByteArray) ++ ⟨l.toArray⟩ = ⟨(48 :: l).toArray⟩ := by
  apply ba_ext
  rw [ba_append]
  rfl

/-- What a draw from a text gives: a number, and nothing that was there has changed. -/
def DrewInt (w : World) (e : Ending) (w' : World) : Prop := ∃ x : Int, e = .returned (.int .i64 x) ∧ -9223372036854775808 ≤ x ∧ x ≤ 9223372036854775807 ∧ Below w.heap.size w w'
def DrewStr (w : World) (e : Ending) (w' : World) : Prop := ∃ x : ByteArray, e = .returned (.string x) ∧ x.size ≤ 2000 ∧ Below w.heap.size w w'

set_option maxRecDepth 100000 in
set_option maxHeartbeats 400000 in
theorem draw_formatInt (a : Option Addr) (n c : Nat) (w : World) (hn : n ≤ 1048576) (hcode : CodeAt w.heap.size w a n) :
    Calls Tryd.prog 9 #[.slice a n c] w (DrewInt w) := by
  have HC := Lib.hid hcode
  clear hcode
  go_enter Tryd.func9, Tryd.ntmps9
  go_wp2_with fail
  refine (l1_new a n c _ hn HC.out).mono ?_
  rintro e w1 ⟨b, rfl, hcur, hb1⟩
  have HU := Lib.hid hcur
  have B1 := Lib.hid hb1
  clear hcur hb1
  go_wp2_with fail
  refine (l1_once w.heap.size b a n c 4 _ hn (HC.out.below B1.out) HU.out (by omega) (by omega) B1.out.size).mono ?_
  rintro e w2 ⟨x, rfl, hd⟩
  have HU2 := Lib.hid hd.cur
  have B2 := Lib.hid (B1.out.trans (hd.below B1.out.size))
  clear hd
  cases x
  · go_wp2_with fail
    refine (l1_below w.heap.size b a n c 1000000 _ hn (HC.out.below B2.out) HU2.out (by omega) (by omega) B2.out.size).mono ?_
    rintro e w3 ⟨y, rfl, hy0, hy1, hd⟩
    have B3 := Lib.hid (B2.out.trans (hd.below B2.out.size))
    clear hd
    go_wp2
    go_ret
    exact ⟨_, rfl, by omega, by omega, B3.out⟩
  · go_wp2_with fail
    refine (l1_odd w.heap.size b a n c _ hn (HC.out.below B2.out) HU2.out B2.out.size).mono ?_
    rintro e w3 ⟨y, rfl, hy0, hy1, hd⟩
    have B3 := Lib.hid (B2.out.trans (hd.below B2.out.size))
    clear hd
    go_wp2
    go_ret
    exact ⟨_, rfl, hy0, hy1, B3.out⟩

set_option maxRecDepth 100000 in
set_option maxHeartbeats 400000 in
theorem draw_parseInt (a : Option Addr) (n c : Nat) (w : World) (hn : n ≤ 1048576) (hcode : CodeAt w.heap.size w a n) :
    Calls Tryd.prog 12 #[.slice a n c] w (DrewStr w) := by
  have HC := Lib.hid hcode
  clear hcode
  go_enter Tryd.func12, Tryd.ntmps12
  go_wp2_with fail
  refine (l1_new a n c _ hn HC.out).mono ?_
  rintro e w1 ⟨b, rfl, hcur, hb1⟩
  have HU := Lib.hid hcur
  have B1 := Lib.hid hb1
  clear hcur hb1
  go_wp2_with fail
  refine (l1_below w.heap.size b a n c 1000 _ hn (HC.out.below B1.out) HU.out (by omega) (by omega) B1.out.size).mono ?_
  rintro e w2 ⟨x, rfl, hx0, hx1, hd⟩
  have HU2 := Lib.hid hd.cur
  have B2 := Lib.hid (B1.out.trans (hd.below B1.out.size))
  clear hd
  go_wp2_with fail
  refine (spec_format (x - 500) (by omega) (by omega) _).mono ?_
  rintro e w3 ⟨rfl, rfl⟩
  have hlen := Lib.itoa_length_le (x - 500) (by omega) (by omega)
  generalize Lib.itoa (x - 500) = l at *
  go_wp2_with fail
  refine (l1_below w.heap.size b a n c 6 _ hn (HC.out.below B2.out) HU2.out (by omega) (by omega) B2.out.size).mono ?_
  rintro e w4 ⟨y, rfl, hy0, hy1, hd⟩
  have HU4 := Lib.hid hd.cur
  have B4 := Lib.hid (B2.out.trans (hd.below B2.out.size))
  have hlt := hd.cur.lt
  clear hd
  have hcase : (y == 0) = true ∨ ((y == 0) = false ∧ (y == 1) = true) ∨ ((y == 0) = false ∧ (y == 1) = false ∧ (y == 2) = true) ∨ ((y == 0) = false ∧ (y == 1) = false ∧ (y == 2) = false) := by
    by_cases h0 : y = 0
    · exact Or.inl (beq_iff_eq.2 h0)
    · have e0 := beq_eq_false_iff_ne.2 h0
      by_cases h1 : y = 1
      · exact Or.inr (Or.inl ⟨e0, beq_iff_eq.2 h1⟩)
      · have e1 := beq_eq_false_iff_ne.2 h1
        by_cases h2 : y = 2
        · exact Or.inr (Or.inr (Or.inl ⟨e0, e1, beq_iff_eq.2 h2⟩))
        · exact Or.inr (Or.inr (Or.inr ⟨e0, e1, beq_eq_false_iff_ne.2 h2⟩))
  rcases hcase with e0 | ⟨e0, e1⟩ | ⟨e0, e1, e2⟩ | ⟨e0, e1, e2⟩
  · go_wp2
    go_ret
    exact ⟨_, rfl, by rw [zero_cat]; simp [ByteArray.size]; omega, B4.out⟩
  · go_wp2_with fail
    refine (l1_odd w.heap.size b a n c _ hn (HC.out.below B4.out) HU4.out B4.out.size).mono ?_
    rintro e w5 ⟨z, rfl, hz0, hz1, hd⟩
    have B5 := Lib.hid (B4.out.trans (hd.below B4.out.size))
    clear hd
    go_wp2_with fail
    refine (spec_format z hz0 hz1 _).mono ?_
    rintro e w6 ⟨rfl, rfl⟩
    have hlz := Lib.itoa_length_le z hz0 hz1
    generalize Lib.itoa z = lz at *
    go_wp2_with fail
    go_ret
    exact ⟨_, rfl, by simp [ByteArray.size]; omega, B5.out⟩
  · go_wp2_with fail
    have hi := texts_new w4 9 [⟨#[]⟩, ⟨#[45]⟩, ⟨#[45, 48]⟩, ⟨#[49, 32]⟩, ⟨#[43, 49]⟩, ⟨#[49, 45]⟩, ⟨#[57, 57, 57, 57, 57, 57, 57, 57, 57, 57, 57, 57, 57, 57, 57, 57, 57, 57, 57, 57]⟩] (by
      intro z hz; simp only [List.mem_cons, List.mem_nil_iff, or_false] at hz; rcases hz with rfl | rfl | rfl | rfl | rfl | rfl | rfl <;> decide)
    refine (l1_pick w.heap.size b w4.heap.size 7 a n c _ hn ((HC.out.below B4.out).alloc B4.out.size _) (HU4.out.alloc _) (by omega) (by omega) (by have := B4.out.size; simp; omega) (by omega) hi).mono ?_
    rintro e w5 ⟨z, rfl, hz, hd⟩
    have B5 := Lib.hid (B4.out.trans (hd.ofAlloc.below B4.out.size))
    clear hd hi
    go_wp2
    go_ret
    exact ⟨_, rfl, by omega, B5.out⟩
  · go_wp2
    go_ret
    exact ⟨_, rfl, by simp [ByteArray.size]; omega, B4.out⟩
end Go.Proofs.YtccmmpfbiemjiaaDoor
