/-
  The draws of the model's package: from a text of bytes each gives some number, and changes only its own cursor.
-/
import Derived.Test.YtfcgdhedaefonaaRows
import Derived.WalkKit
import Derived.ProofKit
import Derived.WalkSpells
import Derived.WalkSmall
import Derived.BigQuiet
import Derived.Deep.QuietTactic
import Derived.Lib.Hide
import Derived.Maps.AppendAt
namespace Go.Proofs.Ytfcgdhedaefonaa
open Go.RowKit

/-- The bytes of the text lie below block B. -/
def CodeAt (B : Nat) (w : World) (a : Option Addr) (n : Nat) : Prop :=
  n = 0 ∨ ∃ b o : Nat, a = some ⟨b, o, none⟩ ∧ b < B ∧ ∀ j, j < n → ∃ z : Nat, z ≤ 255 ∧ w.cell? ⟨b, o + j, none⟩ = some (.int .u8 z)

theorem CodeAt.below {B : Nat} {w w' : World} {a : Option Addr} {n : Nat} (h : CodeAt B w a n) (hb : Below B w w') : CodeAt B w' a n := by
  rcases h with h | ⟨b, o, ha, hlt, hc⟩
  · exact Or.inl h
  · exact Or.inr ⟨b, o, ha, hlt, fun j hj => by
      obtain ⟨z, hz, hcell⟩ := hc j hj
      exact ⟨z, hz, (hb.cell (p := ⟨b, o + j, none⟩) hlt).trans hcell⟩⟩

/-- Block b is a cursor over the text. -/
def CurAt (B : Nat) (w : World) (b : Nat) (a : Option Addr) (n c : Nat) : Prop :=
  B ≤ b ∧ ∃ (i : Nat) (h : Int), i ≤ n ∧ -9223372036854775808 ≤ h ∧ h ≤ 9223372036854775807 ∧ w.heap[b]? = some (.cells #[.slice a n c, .int .i64 i, .int .i64 h] 83 (0, 0))

/-- What a draw leaves: the cursor, and all else as it was. -/
structure Drawn (B b : Nat) (a : Option Addr) (n c : Nat) (w w' : World) : Prop where
  cur : CurAt B w' b a n c
  grown : w.grownBy w' (some b)

theorem Drawn.below {B b : Nat} {a : Option Addr} {n c : Nat} {w w' : World} (h : Drawn B b a n c w w') (hB : B ≤ w.heap.size) : Below B w w' :=
  (Below.refl B w).grown h.grown hB (fun k hk => by cases hk; exact h.cur.1)


theorem mask8 (n : Int) : 0 ≤ bits .and .i64 n 255 ∧ bits .and .i64 n 255 ≤ 255 := by
  have h : (BitVec.ofInt 64 255).toNat = 2 ^ 8 - 1 := by decide
  have key : (BitVec.ofInt 64 n &&& BitVec.ofInt 64 255).toNat = (n % ((2 ^ 64 : Nat) : Int)).toNat % 2 ^ 8 := by
    rw [BitVec.toNat_and, BitVec.toNat_ofInt, h, Nat.and_two_pow_sub_one_eq_mod]
  have e : bits .and .i64 n 255 = IntKind.i64.wrap ((BitVec.ofInt 64 n &&& BitVec.ofInt 64 255).toNat : Nat) := rfl
  rw [e, key, IntKind.wrap_i64]
  omega
theorem mask30 (n : Int) : 0 ≤ bits .and .i64 n 1073741823 ∧ bits .and .i64 n 1073741823 ≤ 1073741823 := by
  have h : (BitVec.ofInt 64 1073741823).toNat = 2 ^ 30 - 1 := by decide
  have key : (BitVec.ofInt 64 n &&& BitVec.ofInt 64 1073741823).toNat = (n % ((2 ^ 64 : Nat) : Int)).toNat % 2 ^ 30 := by
    rw [BitVec.toNat_and, BitVec.toNat_ofInt, h, Nat.and_two_pow_sub_one_eq_mod]
  have e : bits .and .i64 n 1073741823 = IntKind.i64.wrap ((BitVec.ofInt 64 n &&& BitVec.ofInt 64 1073741823).toNat : Nat) := rfl
  rw [e, key, IntKind.wrap_i64]
  omega

/-- What l1New leaves. -/
def NewCur (a : Option Addr) (n c : Nat) (w : World) (e : Ending) (w' : World) : Prop := ∃ b, e = .returned (.pointer (some ⟨b, 0, none⟩)) ∧ CurAt w.heap.size w' b a n c ∧ Below w.heap.size w w'

theorem heap_new (w : World) (o : Obj) : (w.alloc o).heap[w.heap.size]? = some o := by
  show (w.heap.push o)[w.heap.size]? = _
  simp

theorem newCur_mk {a : Option Addr} {n c : Nat} {w : World} {x : Int} (h0 : 0 ≤ x) (h1 : x ≤ 1073741823) :
    NewCur a n c w (.returned (.pointer (some ⟨w.heap.size, 0, none⟩))) (w.alloc (.cells #[.slice a n c, .int .i64 0, .int .i64 x] 83)) :=
  ⟨w.heap.size, rfl, ⟨Nat.le_refl _, 0, x, by omega, by omega, by omega, heap_new _ _⟩, (Below.refl _ _).alloc (Nat.le_refl _) _⟩

theorem Drawn.trans {B b : Nat} {a : Option Addr} {n c : Nat} {w w1 w2 : World} (h : Drawn B b a n c w w1) (k : Drawn B b a n c w1 w2) : Drawn B b a n c w w2 := ⟨k.cur, h.grown.trans k.grown⟩

set_option maxRecDepth 100000 in
set_option maxHeartbeats 400000 in
theorem l1_new (a : Option Addr) (n c : Nat) (w : World) (hn : n ≤ 1048576) (hcode : CodeAt w.heap.size w a n) :
    Calls Try.prog 60 #[.slice a n c] w (NewCur a n c w) := by
  rcases hcode with rfl | ⟨b, o, rfl, hlt, hc⟩
  · go_enter Try.func60, Try.ntmps60
    go_wp2
    go_loop [3, 4] (fun h i => i = .int .i64 0 ∧ h = .int .i64 10101) (fun _ _ => 0)
    case atStart => exact ⟨rfl, rfl⟩
    case round =>
      obtain ⟨rfl, rfl⟩ := hrel
      go_wp2
      go_ret
      exact newCur_mk (by omega) (by omega)
  · have HC := Lib.hid hc
    clear hc
    go_enter Try.func60, Try.ntmps60
    go_wp2
    go_loop [3, 4] (fun h i => ∃ (k : Nat) (x : Int), k ≤ n ∧ 0 ≤ x ∧ x ≤ 1073741823 ∧ i = .int .i64 k ∧ h = .int .i64 x) (fun _ i => n - (intOf i).toNat)
    case atStart => exact ⟨0, 10101 + n, Nat.zero_le _, by omega, by omega, rfl, rfl⟩
    case round =>
      obtain ⟨k, x, hk, hx0, hx1, rfl, rfl⟩ := hrel
      by_cases hlt2 : k < n ∧ k < 4000
      · obtain ⟨h1, h2⟩ := hlt2
        obtain ⟨z, hz, hck⟩ := HC.out k h1
        go_wp2
        go_round
        case rel => exact ⟨k + 1, _, by omega, (mask30 _).1, (mask30 _).2, by go_num, rfl⟩
        case measure => simp [intOf]; omega
      · by_cases hkn : k < n
        · have hk4 : 4000 ≤ k := by omega
          clear hlt2
          go_wp2
          go_ret
          exact newCur_mk hx0 hx1
        · clear hlt2
          go_wp2
          go_ret
          exact newCur_mk hx0 hx1

theorem grown_set (w : World) (b i : Nat) (v : Value) : w.grownBy (w.setCell ⟨b, i, none⟩ v) (some b) :=
  ⟨rfl, rfl, rfl, by simp, fun k _ hk => heap_setCell_other w ⟨b, i, none⟩ k v (fun e => hk (by simp [e]))⟩

theorem grown_drewN {b : Nat} (w : World) (k : Nat) : w.grownBy (w.drewN k) (some b) := ⟨rfl, rfl, rfl, Nat.le_refl _, fun _ _ _ => rfl⟩

/-- What a draw of a number leaves. -/
def Draws (B b : Nat) (a : Option Addr) (n c : Nat) (lo hi : Int) (w : World) (e : Ending) (w' : World) : Prop := ∃ x : Int, e = .returned (.int .i64 x) ∧ lo ≤ x ∧ x ≤ hi ∧ Drawn B b a n c w w'

theorem byte_end {B b n c i : Nat} {a : Option Addr} {h : Int} {w W : World} (hB : B ≤ b) (hi : i < n) (h0 : -9223372036854775808 ≤ h) (h1 : h ≤ 9223372036854775807)
    (hW : W.heap[b]? = some (.cells #[.slice a n c, .int .i64 i, .int .i64 h] 83 (0, 0))) (hg : w.grownBy W (some b)) :
    Drawn B b a n c w (W.setCell ⟨b, 1, none⟩ (.int .i64 ((i : Int) + 1))) :=
  ⟨⟨hB, i + 1, h, by omega, h0, h1, heap_setCell_same W b 1 _ _ _ hW⟩, hg.trans (grown_set W b 1 _)⟩

set_option maxRecDepth 100000 in
set_option maxHeartbeats 1000000 in
theorem l1_byte (B b : Nat) (a : Option Addr) (n c : Nat) (w : World) (hn : n ≤ 1048576) (hcode : CodeAt B w a n) (hcur : CurAt B w b a n c) :
    Calls Try.prog 71 #[.pointer (some ⟨b, 0, none⟩)] w (Draws B b a n c 0 255 w) := by
  obtain ⟨hB, i, h, hin, hh0, hh1, hb⟩ := hcur
  have c2 := cell_of_row w b 2 _ _ _ hb
  have fz := frozen_of_row w b 2 _ _ hb
  have HB := Lib.hid hb
  clear hb
  go_enter Try.func71, Try.ntmps71
  go_wp2
  obtain ⟨h1, hx⟩ : ∃ h1 : Int, wrap64 (wrap64 (h * 6364136223846793005) + 1442695040888963407) = h1 := ⟨_, rfl⟩
  have hx0 : -9223372036854775808 ≤ h1 ∧ h1 ≤ 9223372036854775807 := by rw [← hx]; unfold wrap64; omega
  rw [hx]
  obtain ⟨w1, hw1⟩ : ∃ w1, w.setCell ⟨b, 2, none⟩ (.int .i64 h1) = w1 := ⟨_, rfl⟩
  have hb1 : w1.heap[b]? = some (.cells #[.slice a n c, .int .i64 i, .int .i64 h1] 83 (0, 0)) := by
    rw [← hw1]; exact heap_setCell_same w b 2 _ _ _ HB.out
  have hg1 : w.grownBy w1 (some b) := by rw [← hw1]; exact grown_set w b 2 _
  rw [hw1]
  clear hx hw1 c2 fz
  have k0 := cell_of_row w1 b 0 _ _ _ hb1
  have k1 := cell_of_row w1 b 1 _ _ _ hb1
  have k2 := cell_of_row w1 b 2 _ _ _ hb1
  have fz1 := frozen_of_row w1 b 1 _ _ hb1
  have HB1 := Lib.hid hb1
  clear hb1
  by_cases hin2 : i < n
  · obtain ⟨bb, o, rfl, hlt, hc⟩ : ∃ bb o : Nat, a = some ⟨bb, o, none⟩ ∧ bb < B ∧ ∀ j, j < n → ∃ z : Nat, z ≤ 255 ∧ w.cell? ⟨bb, o + j, none⟩ = some (.int .u8 z) := by
      rcases hcode with h0 | h0
      · omega
      · exact h0
    obtain ⟨z, hz, hcz⟩ := hc i hin2
    have hcz1 : w1.cell? ⟨bb, o + i, none⟩ = some (.int .u8 z) := hg1.cell hcz (by simp; omega)
    have G1 := Lib.hid hg1
    clear hc hcz hg1 hcode
    go_quiet (fail)
    go_wp2
    go_quiet (fail)
    go_wp2
    go_quiet (fail)
    go_wp2
    go_ret
    exact ⟨_, rfl, (mask8 _).1, (mask8 _).2, byte_end hB hin2 hx0.1 hx0.2 HB1.out ⟨G1.out.os, G1.out.tape, G1.out.output, G1.out.size, G1.out.block⟩⟩
  · have G1 := Lib.hid hg1
    clear hcode hg1
    go_quiet (fail)
    go_wp2
    go_quiet (fail)
    go_wp2
    go_ret
    exact ⟨_, rfl, (mask8 _).1, (mask8 _).2, ⟨⟨hB, i, h1, hin, hx0.1, hx0.2, HB1.out⟩, (G1.out.trans (grown_drewN _ _)).trans (grown_drewN _ _)⟩⟩

set_option maxRecDepth 100000 in
set_option maxHeartbeats 1000000 in
/-- A number from 0 to below m. -/
theorem l1_below (B b : Nat) (a : Option Addr) (n c : Nat) (m : Int) (w : World) (hn : n ≤ 1048576) (hcode : CodeAt B w a n) (hcur : CurAt B w b a n c) (hm0 : 0 < m) (hm1 : m ≤ 1000000000) (hBw : B ≤ w.heap.size) :
    Calls Try.prog 67 #[.pointer (some ⟨b, 0, none⟩), .int .i64 m] w (Draws B b a n c 0 (m - 1) w) := by
  by_cases hm : m ≤ 256
  · go_enter Try.func67, Try.ntmps67
    go_wp2_with fail
    refine (l1_byte B b a n c _ hn hcode hcur).mono ?_
    rintro e w1 ⟨x, rfl, hx0, hx1, hd⟩
    have HD := Lib.hid hd
    clear hd hcur hcode
    go_wp2_with fail
    go_ret
    exact ⟨_, rfl, Int.emod_nonneg _ (by omega), by have := Int.emod_lt_of_pos x hm0; omega, HD.out⟩
  · have HC := Lib.hid hcode
    go_enter Try.func67, Try.ntmps67
    go_wp2_with fail
    refine (l1_byte B b a n c _ hn HC.out hcur).mono ?_
    rintro e w1 ⟨x1, rfl, hx0, hx1, hd1⟩
    have D1 := Lib.hid hd1
    clear hd1 hcur
    go_wp2_with fail
    refine (l1_byte B b a n c _ hn (HC.out.below (D1.out.below hBw)) D1.out.cur).mono ?_
    rintro e w2 ⟨x2, rfl, hy0, hy1, hd2⟩
    have D2 := Lib.hid (D1.out.trans hd2)
    clear hd2 D1
    go_wp2_with fail
    refine (l1_byte B b a n c _ hn (HC.out.below (D2.out.below hBw)) D2.out.cur).mono ?_
    rintro e w3 ⟨x3, rfl, hz0, hz1, hd3⟩
    have D3 := Lib.hid (D2.out.trans hd3)
    clear hd3 D2
    go_wp2_with fail
    refine (l1_byte B b a n c _ hn (HC.out.below (D3.out.below hBw)) D3.out.cur).mono ?_
    rintro e w4 ⟨x4, rfl, hu0, hu1, hd4⟩
    have D4 := Lib.hid (D3.out.trans hd4)
    clear hd4 D3
    go_wp2_with fail
    go_ret
    exact ⟨_, rfl, Int.emod_nonneg _ (by omega), by have := Int.emod_lt_of_pos (x1 * 16777216 + x2 * 65536 + x3 * 256 + x4) hm0; omega, D4.out⟩

theorem CurAt.alloc {B b : Nat} {w : World} {a : Option Addr} {n c : Nat} (h : CurAt B w b a n c) (o : Obj) : CurAt B (w.alloc o) b a n c := by
  obtain ⟨hB, i, x, h1, h2, h3, hb⟩ := h
  have hlt : b < w.heap.size := (Array.getElem?_eq_some_iff.1 hb).1
  exact ⟨hB, i, x, h1, h2, h3, (Below.heap_alloc w o b hlt).trans hb⟩
theorem CodeAt.alloc {B : Nat} {w : World} {a : Option Addr} {n : Nat} (h : CodeAt B w a n) (hB : B ≤ w.heap.size) (o : Obj) : CodeAt B (w.alloc o) a n := h.below ((Below.refl _ _).alloc hB o)
theorem CurAt.lt {B b : Nat} {w : World} {a : Option Addr} {n c : Nat} (h : CurAt B w b a n c) : b < w.heap.size := by
  obtain ⟨_, i, x, _, _, _, hb⟩ := h
  exact (Array.getElem?_eq_some_iff.1 hb).1
theorem Drawn.ofAlloc {B b : Nat} {a : Option Addr} {n c : Nat} {w w' : World} {o : Obj} (h : Drawn B b a n c (w.alloc o) w') : Drawn B b a n c w w' := ⟨h.cur, (World.grownBy_alloc w o _).trans h.grown⟩

end Go.Proofs.Ytfcgdhedaefonaa
