import Derived.Test.YtmnncinpepeocaaGreatRows
import Derived.WalkKit
import Derived.ProofKit
import Derived.WalkSpells
import Derived.WalkSmall
import Derived.BigQuiet
import Derived.Deep.QuietTactic
import Derived.Lib.Hide
import Derived.Maps.AppendAt
import Derived.Test.YtmnncinpepeocaaGreatBuA
import Derived.Laws.OwnMore
import Derived.OpenShut
namespace Go.Proofs.YtmnncinpepeocaaGreat
open Go.RowKit

/-- The bytes of the text lie below block B. -/
def CodeAt (B : Nat) (w : World) (a : Option Addr) (n : Nat) : Prop :=
 n = 0 ∨ ∃ b o : Nat, a = some ⟨b, o, none⟩ ∧ b < B ∧ ∀ j, j < n → ∃ z : Nat, z ≤ 255 ∧ w.cell? ⟨b, o + j, none⟩ = some (.int .u8 z)

theorem CodeAt.below {B : Nat} {w w' : World} {a : Option Addr} {n : Nat} (h : CodeAt B w a n) (hb : Below B w w') : CodeAt B w' a n := by
 rcases h with h | ⟨b, o, ha, hlt, hc⟩
 · exact Or.inl h
 · exact Or.inr ⟨b, o, ha, hlt, fun j hj => by
    obtain ⟨z, hz, hcell⟩ := hc j hj
    exact ⟨z, hz, (hb.cell (p := ⟨b, o + j, none⟩) hlt).trans hcell⟩⟩

/-- Block b is a cursor over the text. -/
def CurAt (B : Nat) (w : World) (b : Nat) (a : Option Addr) (n c : Nat) : Prop :=
 B ≤ b ∧ ∃ (i : Nat) (h : Int), i ≤ n ∧ -9223372036854775808 ≤ h ∧ h ≤ 9223372036854775807 ∧ w.heap[b]? = some (.cells #[.slice a n c, .int .i64 i, .int .i64 h] 118 (0, 0))

/-- What a draw leaves: the cursor, and all else as it was. -/
structure Drawn (B b : Nat) (a : Option Addr) (n c : Nat) (w w' : World) : Prop where
 cur : CurAt B w' b a n c
 grown : w.grownBy w' (some b)

theorem Drawn.below {B b : Nat} {a : Option Addr} {n c : Nat} {w w' : World} (h : Drawn B b a n c w w') (hB : B ≤ w.heap.size) : Below B w w' :=
 (Below.refl B w).grown h.grown hB (fun k hk => by cases hk; exact h.cur.1)


theorem mask8 (n : Int) : 0 ≤ bits .and .i64 n 255 ∧ bits .and .i64 n 255 ≤ 255 := by
 have h : (BitVec.ofInt 64 255).toNat = 2 ^ 8 - 1 := by decide
 have key : (BitVec.ofInt 64 n &&& BitVec.ofInt 64 255).toNat = (n % ((2 ^ 64 : Nat) : Int)).toNat % 2 ^ 8 := by
  rw [BitVec.toNat_and, BitVec.toNat_ofInt, h, Nat.and_two_pow_sub_one_eq_mod]
 have e : bits .and .i64 n 255 = IntKind.i64.wrap ((BitVec.ofInt 64 n &&& BitVec.ofInt 64 255).toNat : Nat) := rfl
 rw [e, key, IntKind.wrap_i64]
 omega
theorem mask30 (n : Int) : 0 ≤ bits .and .i64 n 1073741823 ∧ bits .and .i64 n 1073741823 ≤ 1073741823 := by
 have h : (BitVec.ofInt 64 1073741823).toNat = 2 ^ 30 - 1 := by decide
 have key : (BitVec.ofInt 64 n &&& BitVec.ofInt 64 1073741823).toNat = (n % ((2 ^ 64 : Nat) : Int)).toNat % 2 ^ 30 := by
  rw [BitVec.toNat_and, BitVec.toNat_ofInt, h, Nat.and_two_pow_sub_one_eq_mod]
 have e : bits .and .i64 n 1073741823 = IntKind.i64.wrap ((BitVec.ofInt 64 n &&& BitVec.ofInt 64 1073741823).toNat : Nat) := rfl
 rw [e, key, IntKind.wrap_i64]
 omega

/-- What l1New leaves. -/
def NewCur (a : Option Addr) (n c : Nat) (w : World) (e : Ending) (w' : World) : Prop := ∃ b, e = .returned (.pointer (some ⟨b, 0, none⟩)) ∧ CurAt w.heap.size w' b a n c ∧ Below w.heap.size w w'

theorem heap_new (w : World) (o : Obj) : (w.alloc o).heap[w.heap.size]? = some o := by
 show (w.heap.push o)[w.heap.size]? = _
 simp

theorem newCur_mk {a : Option Addr} {n c : Nat} {w : World} {x : Int} (h0 : 0 ≤ x) (h1 : x ≤ 1073741823) :
 NewCur a n c w (.returned (.pointer (some ⟨w.heap.size, 0, none⟩))) (w.alloc (.cells #[.slice a n c, .int .i64 0, .int .i64 x] 118)) :=
 ⟨w.heap.size, rfl, ⟨Nat.le_refl _, 0, x, by omega, by omega, by omega, heap_new _ _⟩, (Below.refl _ _).alloc (Nat.le_refl _) _⟩

theorem Drawn.trans {B b : Nat} {a : Option Addr} {n c : Nat} {w w1 w2 : World} (h : Drawn B b a n c w w1) (k : Drawn B b a n c w1 w2) : Drawn B b a n c w w2 := ⟨k.cur, h.grown.trans k.grown⟩

set_option maxRecDepth 100000 in
set_option maxHeartbeats 400000 in
theorem l1_new (a : Option Addr) (n c : Nat) (w : World) (hn : n ≤ 1048576) (hcode : CodeAt w.heap.size w a n) :
 Calls Tryz.prog 39 #[.slice a n c] w (NewCur a n c w) := by
 rcases hcode with rfl | ⟨b, o, rfl, hlt, hc⟩
 · go_enter Tryz.func39, Tryz.ntmps39
   go_wp2
   go_loop [3, 4] (fun h i => i = .int .i64 0 ∧ h = .int .i64 10101) (fun _ _ => 0)
   case atStart => exact ⟨rfl, rfl⟩
   case round =>
    obtain ⟨rfl, rfl⟩ := hrel
    go_wp2
    go_ret
    exact newCur_mk (by omega) (by omega)
 · have HC := Lib.hid hc
   clear hc
   go_enter Tryz.func39, Tryz.ntmps39
   go_wp2
   go_loop [3, 4] (fun h i => ∃ (k : Nat) (x : Int), k ≤ n ∧ 0 ≤ x ∧ x ≤ 1073741823 ∧ i = .int .i64 k ∧ h = .int .i64 x) (fun _ i => n - (intOf i).toNat)
   case atStart => exact ⟨0, 10101 + n, Nat.zero_le _, by omega, by omega, rfl, rfl⟩
   case round =>
    obtain ⟨k, x, hk, hx0, hx1, rfl, rfl⟩ := hrel
    by_cases hlt2 : k < n ∧ k < 4000
    · obtain ⟨h1, h2⟩ := hlt2
      obtain ⟨z, hz, hck⟩ := HC.out k h1
      go_wp2
      go_round
      case rel => exact ⟨k + 1, _, by omega, (mask30 _).1, (mask30 _).2, by go_num, rfl⟩
      case measure => simp [intOf]; omega
    · by_cases hkn : k < n
      · have hk4 : 4000 ≤ k := by omega
        clear hlt2
        go_wp2
        go_ret
        exact newCur_mk hx0 hx1
      · clear hlt2
        go_wp2
        go_ret
        exact newCur_mk hx0 hx1

theorem grown_set (w : World) (b i : Nat) (v : Value) : w.grownBy (w.setCell ⟨b, i, none⟩ v) (some b) :=
 ⟨rfl, rfl, rfl, by simp, fun k _ hk => heap_setCell_other w ⟨b, i, none⟩ k v (fun e => hk (by simp [e]))⟩

theorem grown_drewN {b : Nat} (w : World) (k : Nat) : w.grownBy (w.drewN k) (some b) := ⟨rfl, rfl, rfl, Nat.le_refl _, fun _ _ _ => rfl⟩

/-- What a draw of a number leaves. -/
def Draws (B b : Nat) (a : Option Addr) (n c : Nat) (lo hi : Int) (w : World) (e : Ending) (w' : World) : Prop := ∃ x : Int, e = .returned (.int .i64 x) ∧ lo ≤ x ∧ x ≤ hi ∧ Drawn B b a n c w w'

theorem byte_end {B b n c i : Nat} {a : Option Addr} {h : Int} {w W : World} (hB : B ≤ b) (hi : i < n) (h0 : -9223372036854775808 ≤ h) (h1 : h ≤ 9223372036854775807)
 (hW : W.heap[b]? = some (.cells #[.slice a n c, .int .i64 i, .int .i64 h] 118 (0, 0))) (hg : w.grownBy W (some b)) :
 Drawn B b a n c w (W.setCell ⟨b, 1, none⟩ (.int .i64 ((i : Int) + 1))) :=
 ⟨⟨hB, i + 1, h, by omega, h0, h1, heap_setCell_same W b 1 _ _ _ hW⟩, hg.trans (grown_set W b 1 _)⟩

set_option maxRecDepth 100000 in
set_option maxHeartbeats 1000000 in
theorem l1_byte (B b : Nat) (a : Option Addr) (n c : Nat) (w : World) (hn : n ≤ 1048576) (hcode : CodeAt B w a n) (hcur : CurAt B w b a n c) :
 Calls Tryz.prog 106 #[.pointer (some ⟨b, 0, none⟩)] w (Draws B b a n c 0 255 w) := by
 obtain ⟨hB, i, h, hin, hh0, hh1, hb⟩ := hcur
 have c2 := cell_of_row w b 2 _ _ _ hb
 have fz := frozen_of_row w b 2 _ _ hb
 have HB := Lib.hid hb
 clear hb
 go_enter Tryz.func106, Tryz.ntmps106
 go_wp2
 obtain ⟨h1, hx⟩ : ∃ h1 : Int, wrap64 (wrap64 (h * 6364136223846793005) + 1442695040888963407) = h1 := ⟨_, rfl⟩
 have hx0 : -9223372036854775808 ≤ h1 ∧ h1 ≤ 9223372036854775807 := by rw [← hx]; unfold wrap64; omega
 rw [hx]
 obtain ⟨w1, hw1⟩ : ∃ w1, w.setCell ⟨b, 2, none⟩ (.int .i64 h1) = w1 := ⟨_, rfl⟩
 have hb1 : w1.heap[b]? = some (.cells #[.slice a n c, .int .i64 i, .int .i64 h1] 118 (0, 0)) := by
  rw [← hw1]; exact heap_setCell_same w b 2 _ _ _ HB.out
 have hg1 : w.grownBy w1 (some b) := by rw [← hw1]; exact grown_set w b 2 _
 rw [hw1]
 clear hx hw1 c2 fz
 have k0 := cell_of_row w1 b 0 _ _ _ hb1
 have k1 := cell_of_row w1 b 1 _ _ _ hb1
 have k2 := cell_of_row w1 b 2 _ _ _ hb1
 have fz1 := frozen_of_row w1 b 1 _ _ hb1
 have HB1 := Lib.hid hb1
 clear hb1
 by_cases hin2 : i < n
 · obtain ⟨bb, o, rfl, hlt, hc⟩ : ∃ bb o : Nat, a = some ⟨bb, o, none⟩ ∧ bb < B ∧ ∀ j, j < n → ∃ z : Nat, z ≤ 255 ∧ w.cell? ⟨bb, o + j, none⟩ = some (.int .u8 z) := by
    rcases hcode with h0 | h0
    · omega
    · exact h0
   obtain ⟨z, hz, hcz⟩ := hc i hin2
   have hcz1 : w1.cell? ⟨bb, o + i, none⟩ = some (.int .u8 z) := hg1.cell hcz (by simp; omega)
   have G1 := Lib.hid hg1
   clear hc hcz hg1 hcode
   go_quiet (fail)
   go_wp2
   go_quiet (fail)
   go_wp2
   go_quiet (fail)
   go_wp2
   go_ret
   exact ⟨_, rfl, (mask8 _).1, (mask8 _).2, byte_end hB hin2 hx0.1 hx0.2 HB1.out ⟨G1.out.os, G1.out.tape, G1.out.output, G1.out.size, G1.out.block⟩⟩
 · have G1 := Lib.hid hg1
   clear hcode hg1
   go_quiet (fail)
   go_wp2
   go_quiet (fail)
   go_wp2
   go_ret
   exact ⟨_, rfl, (mask8 _).1, (mask8 _).2, ⟨⟨hB, i, h1, hin, hx0.1, hx0.2, HB1.out⟩, (G1.out.trans (grown_drewN _ _)).trans (grown_drewN _ _)⟩⟩

set_option maxRecDepth 100000 in
set_option maxHeartbeats 1000000 in
/-- A number from 0 to below m. -/
theorem l1_below (B b : Nat) (a : Option Addr) (n c : Nat) (m : Int) (w : World) (hn : n ≤ 1048576) (hcode : CodeAt B w a n) (hcur : CurAt B w b a n c) (hm0 : 0 < m) (hm1 : m ≤ 1000000000) (hBw : B ≤ w.heap.size) :
 Calls Tryz.prog 83 #[.pointer (some ⟨b, 0, none⟩), .int .i64 m] w (Draws B b a n c 0 (m - 1) w) := by
 by_cases hm : m ≤ 256
 · go_enter Tryz.func83, Tryz.ntmps83
   go_wp2_with fail
   refine (l1_byte B b a n c _ hn hcode hcur).mono ?_
   rintro e w1 ⟨x, rfl, hx0, hx1, hd⟩
   have HD := Lib.hid hd
   clear hd hcur hcode
   go_wp2_with fail
   go_ret
   exact ⟨_, rfl, Int.emod_nonneg _ (by omega), by have := Int.emod_lt_of_pos x hm0; omega, HD.out⟩
 · have HC := Lib.hid hcode
   go_enter Tryz.func83, Tryz.ntmps83
   go_wp2_with fail
   refine (l1_byte B b a n c _ hn HC.out hcur).mono ?_
   rintro e w1 ⟨x1, rfl, hx0, hx1, hd1⟩
   have D1 := Lib.hid hd1
   clear hd1 hcur
   go_wp2_with fail
   refine (l1_byte B b a n c _ hn (HC.out.below (D1.out.below hBw)) D1.out.cur).mono ?_
   rintro e w2 ⟨x2, rfl, hy0, hy1, hd2⟩
   have D2 := Lib.hid (D1.out.trans hd2)
   clear hd2 D1
   go_wp2_with fail
   refine (l1_byte B b a n c _ hn (HC.out.below (D2.out.below hBw)) D2.out.cur).mono ?_
   rintro e w3 ⟨x3, rfl, hz0, hz1, hd3⟩
   have D3 := Lib.hid (D2.out.trans hd3)
   clear hd3 D2
   go_wp2_with fail
   refine (l1_byte B b a n c _ hn (HC.out.below (D3.out.below hBw)) D3.out.cur).mono ?_
   rintro e w4 ⟨x4, rfl, hu0, hu1, hd4⟩
   have D4 := Lib.hid (D3.out.trans hd4)
   clear hd4 D3
   go_wp2_with fail
   go_ret
   exact ⟨_, rfl, Int.emod_nonneg _ (by omega), by have := Int.emod_lt_of_pos (x1 * 16777216 + x2 * 65536 + x3 * 256 + x4) hm0; omega, D4.out⟩

theorem CurAt.alloc {B b : Nat} {w : World} {a : Option Addr} {n c : Nat} (h : CurAt B w b a n c) (o : Obj) : CurAt B (w.alloc o) b a n c := by
 obtain ⟨hB, i, x, h1, h2, h3, hb⟩ := h
 have hlt : b < w.heap.size := (Array.getElem?_eq_some_iff.1 hb).1
 exact ⟨hB, i, x, h1, h2, h3, (Below.heap_alloc w o b hlt).trans hb⟩
theorem CodeAt.alloc {B : Nat} {w : World} {a : Option Addr} {n : Nat} (h : CodeAt B w a n) (hB : B ≤ w.heap.size) (o : Obj) : CodeAt B (w.alloc o) a n := h.below ((Below.refl _ _).alloc hB o)
theorem CurAt.lt {B b : Nat} {w : World} {a : Option Addr} {n c : Nat} (h : CurAt B w b a n c) : b < w.heap.size := by
 obtain ⟨_, i, x, _, _, _, hb⟩ := h
 exact (Array.getElem?_eq_some_iff.1 hb).1
theorem Drawn.ofAlloc {B b : Nat} {a : Option Addr} {n c : Nat} {w w' : World} {o : Obj} (h : Drawn B b a n c (w.alloc o) w') : Drawn B b a n c w w' := ⟨h.cur, (World.grownBy_alloc w o _).trans h.grown⟩

end Go.Proofs.YtmnncinpepeocaaGreat

namespace Go.Proofs.YtmnncinpepeocaaGreat
open Go.RowKit

/-- What a draw of a bool leaves. -/
def DrawsB (B b : Nat) (a : Option Addr) (n c : Nat) (w : World) (e : Ending) (w' : World) : Prop := ∃ x : Bool, e = .returned (.bool x) ∧ Drawn B b a n c w w'

theorem l1_once (B b : Nat) (a : Option Addr) (n c : Nat) (m : Int) (w : World) (hn : n ≤ 1048576) (hcode : CodeAt B w a n) (hcur : CurAt B w b a n c) (hm0 : 0 < m) (hm1 : m ≤ 1000000000) (hBw : B ≤ w.heap.size) :
 Calls Tryz.prog 80 #[.pointer (some ⟨b, 0, none⟩), .int .i64 m] w (DrawsB B b a n c w) := by
 go_enter Tryz.func80, Tryz.ntmps80
 go_wp2_with fail
 refine (l1_below B b a n c m _ hn hcode hcur hm0 hm1 hBw).mono ?_
 rintro e w1 ⟨x, rfl, hx0, hx1, hd⟩
 have HD := Lib.hid hd
 clear hd hcur hcode
 go_wp2
 go_ret
 exact ⟨_, rfl, HD.out⟩

end Go.Proofs.YtmnncinpepeocaaGreat

namespace Go.Proofs.YtmnncinpepeocaaGreat
open Go.RowKit

/-- The numbers of a list that a draw picks from: its cells at block g. -/
def IntsAt (w : World) (g : Nat) (N : Nat) : Prop := ∀ j, j < N → ∃ z : Int, -9223372036854775808 ≤ z ∧ z ≤ 9223372036854775807 ∧ w.cell? ⟨g, j, none⟩ = some (.int .i64 z)
/-- The cells of a list of numbers that has just been laid. -/
theorem ints_new (w : World) (T : TypeId) (zs : List Int) (h : ∀ z ∈ zs, -9223372036854775808 ≤ z ∧ z ≤ 9223372036854775807) : IntsAt (w.alloc (.cells (zs.map (Value.int .i64)).toArray T)) w.heap.size zs.length := by
 intro j hj
 refine ⟨zs[j]'hj, (h _ (List.getElem_mem hj)).1, (h _ (List.getElem_mem hj)).2, ?_⟩
 rw [cell_of_row _ _ j _ _ _ (heap_new _ _)]
 simp [hj]
set_option maxRecDepth 100000 in
set_option maxHeartbeats 400000 in
theorem l1_pickInt (B b g N : Nat) (a : Option Addr) (n c : Nat) (w : World) (hn : n ≤ 1048576) (hcode : CodeAt B w a n) (hcur : CurAt B w b a n c) (hN0 : 0 < N) (hN1 : N ≤ 256) (hBw : B ≤ w.heap.size) (hgb : g ≠ b) (hints : IntsAt w g N) :
 Calls Tryz.prog 82 #[.pointer (some ⟨b, 0, none⟩), .slice (some ⟨g, 0, none⟩) N N] w (Draws B b a n c (-9223372036854775808) 9223372036854775807 w) := by
 have HI := Lib.hid hints
 have HG : Hid (g ≠ b) := Lib.hid hgb
 clear hints hgb
 go_enter Tryz.func82, Tryz.ntmps82
 go_wp2_with fail
 refine (l1_below B b a n c N _ hn hcode hcur (by omega) (by omega) hBw).mono ?_
 rintro e w1 ⟨x, rfl, hx0, hx1, hd⟩
 obtain ⟨k, rfl⟩ := Int.eq_ofNat_of_zero_le hx0
 obtain ⟨z, hz0, hz1, hz⟩ := HI.out k (by omega)
 have hz2 := hd.grown.cell hz (by intro e; exact HG.out (Option.some.inj e))
 have HD := Lib.hid hd
 clear hd hcur hcode hz
 go_wp2
 go_ret
 exact ⟨z, rfl, hz0, hz1, HD.out⟩

set_option maxRecDepth 100000 in
set_option maxHeartbeats 400000 in
theorem l1_odd (B b : Nat) (a : Option Addr) (n c : Nat) (w : World) (hn : n ≤ 1048576) (hcode : CodeAt B w a n) (hcur : CurAt B w b a n c) (hBw : B ≤ w.heap.size) :
 Calls Tryz.prog 121 #[.pointer (some ⟨b, 0, none⟩)] w (Draws B b a n c (-9223372036854775808) 9223372036854775807 w) := by
 have HC := Lib.hid hcode
 have HU := Lib.hid hcur
 have hlt := hcur.lt
 clear hcode hcur
 go_enter Tryz.func121, Tryz.ntmps121
 go_wp2_with fail
 have hi := ints_new w 3 [0, 1, -1, 2, 1000000, 1000001, -1000001, 1000000000, 1000000001, 9223372036854775807, -9223372036854775808] (by
  intro z hz; simp only [List.mem_cons, List.mem_nil_iff, or_false] at hz; omega)
 refine (l1_pickInt B b w.heap.size 11 a n c _ hn (HC.out.alloc hBw _) (HU.out.alloc _) (by omega) (by omega) (by simp; omega) (by omega) hi).mono ?_
 rintro e w1 ⟨x, rfl, hx0, hx1, hd⟩
 have HD := Lib.hid hd.ofAlloc
 clear hd hi
 go_wp2
 go_ret
 exact ⟨x, rfl, hx0, hx1, HD.out⟩

end Go.Proofs.YtmnncinpepeocaaGreat

namespace Go.Proofs.YtmnncinpepeocaaGreat
open Go.RowKit

def TextsAt (w : World) (g : Nat) (N : Nat) : Prop := ∀ j, j < N → ∃ z : ByteArray, z.size ≤ 1000 ∧ w.cell? ⟨g, j, none⟩ = some (.string z)

theorem texts_new (w : World) (T : TypeId) (zs : List ByteArray) (h : ∀ z ∈ zs, z.size ≤ 1000) : TextsAt (w.alloc (.cells (zs.map Value.string).toArray T)) w.heap.size zs.length := by
 intro j hj
 refine ⟨zs[j]'hj, h _ (List.getElem_mem hj), ?_⟩
 rw [cell_of_row _ _ j _ _ _ (heap_new _ _)]
 simp [hj]

/-- What a draw of a text leaves. -/
def DrawsS (B b : Nat) (a : Option Addr) (n c : Nat) (w : World) (e : Ending) (w' : World) : Prop := ∃ x : ByteArray, e = .returned (.string x) ∧ x.size ≤ 1000 ∧ Drawn B b a n c w w'

set_option maxRecDepth 100000 in
set_option maxHeartbeats 400000 in
theorem l1_pick (B b g N : Nat) (a : Option Addr) (n c : Nat) (w : World) (hn : n ≤ 1048576) (hcode : CodeAt B w a n) (hcur : CurAt B w b a n c) (hN0 : 0 < N) (hN1 : N ≤ 256) (hBw : B ≤ w.heap.size) (hgb : g ≠ b) (htexts : TextsAt w g N) :
 Calls Tryz.prog 84 #[.pointer (some ⟨b, 0, none⟩), .slice (some ⟨g, 0, none⟩) N N] w (DrawsS B b a n c w) := by
 have HI := Lib.hid htexts
 have HG : Hid (g ≠ b) := Lib.hid hgb
 clear htexts hgb
 go_enter Tryz.func84, Tryz.ntmps84
 go_wp2_with fail
 refine (l1_below B b a n c N _ hn hcode hcur (by omega) (by omega) hBw).mono ?_
 rintro e w1 ⟨x, rfl, hx0, hx1, hd⟩
 obtain ⟨k, rfl⟩ := Int.eq_ofNat_of_zero_le hx0
 obtain ⟨z, hz0, hz⟩ := HI.out k (by omega)
 have hz2 := hd.grown.cell hz (by intro e; exact HG.out (Option.some.inj e))
 have HD := Lib.hid hd
 clear hd hcur hcode hz
 go_wp2
 go_ret
 exact ⟨z, rfl, hz0, HD.out⟩
end Go.Proofs.YtmnncinpepeocaaGreat

namespace Go.Proofs.YtmnncinpepeocaaGreat
open Go.RowKit

theorem grown_below {b : Nat} {w w' : World} (h : Below w.heap.size w w') : w.grownBy w' (some b) := ⟨h.os, h.tape, h.output, h.size, fun k hk _ => h.block k hk⟩
theorem CurAt.keep {B b : Nat} {w w' : World} {a : Option Addr} {n c : Nat} (h : CurAt B w b a n c) (hb : Below w.heap.size w w') : CurAt B w' b a n c := by
 obtain ⟨hB, i, x, h1, h2, h3, hk⟩ := h
 exact ⟨hB, i, x, h1, h2, h3, blk_below hk hb⟩
theorem Drawn.more {B b : Nat} {a : Option Addr} {n c : Nat} {w w1 w2 : World} (h : Drawn B b a n c w w1) (hb : Below w1.heap.size w1 w2) : Drawn B b a n c w w2 := ⟨CurAt.keep h.cur hb, h.grown.trans (grown_below hb)⟩
/-- A block other than the cursor's stays. -/
theorem Drawn.blk {B b g : Nat} {a : Option Addr} {n c : Nat} {w w1 : World} {o : Obj} (h : Drawn B b a n c w w1) (hg : w.heap[g]? = some o) (hne : g ≠ b) : w1.heap[g]? = some o := by
 rw [h.grown.block g (lt_of_heap hg) (fun e => hne (Option.some.inj e))]; exact hg
theorem Drawn.set2 {B b g : Nat} {a : Option Addr} {n c : Nat} {w w1 : World} {x y : Value} (h : Drawn B b a n c w w1) (hne : b ≠ g) (hg : w.heap.size ≤ g) :
 Drawn B b a n c w ((w1.setCell ⟨g, 0, none⟩ x).setCell ⟨g, 1, none⟩ y) := by
 obtain ⟨⟨hB, i, z, h1, h2, h3, hk⟩, gr⟩ := h
 refine ⟨⟨hB, i, z, h1, h2, h3, (heap_setCell_other _ _ _ _ (by simpa using hne)).trans ((heap_setCell_other _ _ _ _ (by simpa using hne)).trans hk)⟩, ?_⟩
 refine ⟨gr.os, gr.tape, gr.output, by simpa using gr.size, fun k hk2 hn => ?_⟩
 rw [heap_setCell_other _ _ _ _ (by simp; omega), heap_setCell_other _ _ _ _ (by simp; omega)]
 exact gr.block k hk2 hn

end Go.Proofs.YtmnncinpepeocaaGreat

namespace Go.Proofs.YtmnncinpepeocaaGreat
open Go.RowKit

section
variable {B b : Nat} {a : Option Addr} {n c : Nat} {w w1 w2 : World}
/-- What does not touch the cursor keeps the draw. -/
theorem Drawn.row {o : Option Nat} (h : Drawn B b a n c w w1) (hb : b < w.heap.size) (hg : w1.grownBy w2 o) (ho : ∀ k, o = some k → w.heap.size ≤ k) : Drawn B b a n c w w2 := by
 obtain ⟨hB, i, z, h1, h2, h3, hk⟩ := h.cur
 have hs := h.grown.size
 refine ⟨⟨hB, i, z, h1, h2, h3, (hg.block b (lt_of_heap hk) (fun e => by have := ho b e.symm; omega)).trans hk⟩, ?_⟩
 refine ⟨hg.os.trans h.grown.os, hg.tape.trans h.grown.tape, hg.output.trans h.grown.output, Nat.le_trans h.grown.size hg.size, fun k hk1 hk2 => ?_⟩
 exact (hg.block k (by omega) (fun e => by have := ho k e.symm; omega)).trans (h.grown.block k hk1 hk2)
theorem Drawn.set1 {g i : Nat} {x : Value} (h : Drawn B b a n c w w1) (hb : b < w.heap.size) (hg : w.heap.size ≤ g) : Drawn B b a n c w (w1.setCell ⟨g, i, none⟩ x) :=
 h.row hb (grown_set w1 g i x) (fun k e => by cases e; exact hg)
theorem Drawn.al (h : Drawn B b a n c w w1) (hb : b < w.heap.size) (o : Obj) : Drawn B b a n c w (w1.alloc o) :=
 h.row hb (World.grownBy_alloc w1 o none) (fun k e => by cases e)
theorem own_hdC {base e size : Nat} {v : Value} {k : Nat} {xs : List Value} (h : w1.ownsRow base e size v k xs) (hd : w1.grownBy w2 (some b)) (hb : b < base) : w2.ownsRow base e size v k xs :=
 h.kept hd (by
  cases hv : v.ownBlock with
  | none => exact Or.inl rfl
  | some j => exact Or.inr (fun e => by have := (h.lt j hv).1; cases e; omega))
end
theorem blk8_c0 {w1 : World} {g : Nat} {z0 z1 z2 z3 z4 z5 z6 z7 y : Value} {t : TypeId} (h : w1.heap[g]? = some (.cells #[z0, z1, z2, z3, z4, z5, z6, z7] t (0, 0))) : (w1.setCell ⟨g, 0, none⟩ y).heap[g]? = some (.cells #[y, z1, z2, z3, z4, z5, z6, z7] t (0, 0)) := heap_setCell_same w1 g 0 #[z0, z1, z2, z3, z4, z5, z6, z7] t y h
theorem blk8_c1 {w1 : World} {g : Nat} {z0 z1 z2 z3 z4 z5 z6 z7 y : Value} {t : TypeId} (h : w1.heap[g]? = some (.cells #[z0, z1, z2, z3, z4, z5, z6, z7] t (0, 0))) : (w1.setCell ⟨g, 1, none⟩ y).heap[g]? = some (.cells #[z0, y, z2, z3, z4, z5, z6, z7] t (0, 0)) := heap_setCell_same w1 g 1 #[z0, z1, z2, z3, z4, z5, z6, z7] t y h
theorem blk8_c2 {w1 : World} {g : Nat} {z0 z1 z2 z3 z4 z5 z6 z7 y : Value} {t : TypeId} (h : w1.heap[g]? = some (.cells #[z0, z1, z2, z3, z4, z5, z6, z7] t (0, 0))) : (w1.setCell ⟨g, 2, none⟩ y).heap[g]? = some (.cells #[z0, z1, y, z3, z4, z5, z6, z7] t (0, 0)) := heap_setCell_same w1 g 2 #[z0, z1, z2, z3, z4, z5, z6, z7] t y h
theorem blk8_c3 {w1 : World} {g : Nat} {z0 z1 z2 z3 z4 z5 z6 z7 y : Value} {t : TypeId} (h : w1.heap[g]? = some (.cells #[z0, z1, z2, z3, z4, z5, z6, z7] t (0, 0))) : (w1.setCell ⟨g, 3, none⟩ y).heap[g]? = some (.cells #[z0, z1, z2, y, z4, z5, z6, z7] t (0, 0)) := heap_setCell_same w1 g 3 #[z0, z1, z2, z3, z4, z5, z6, z7] t y h
theorem blk8_c4 {w1 : World} {g : Nat} {z0 z1 z2 z3 z4 z5 z6 z7 y : Value} {t : TypeId} (h : w1.heap[g]? = some (.cells #[z0, z1, z2, z3, z4, z5, z6, z7] t (0, 0))) : (w1.setCell ⟨g, 4, none⟩ y).heap[g]? = some (.cells #[z0, z1, z2, z3, y, z5, z6, z7] t (0, 0)) := heap_setCell_same w1 g 4 #[z0, z1, z2, z3, z4, z5, z6, z7] t y h
theorem blk8_c5 {w1 : World} {g : Nat} {z0 z1 z2 z3 z4 z5 z6 z7 y : Value} {t : TypeId} (h : w1.heap[g]? = some (.cells #[z0, z1, z2, z3, z4, z5, z6, z7] t (0, 0))) : (w1.setCell ⟨g, 5, none⟩ y).heap[g]? = some (.cells #[z0, z1, z2, z3, z4, y, z6, z7] t (0, 0)) := heap_setCell_same w1 g 5 #[z0, z1, z2, z3, z4, z5, z6, z7] t y h
theorem blk8_c6 {w1 : World} {g : Nat} {z0 z1 z2 z3 z4 z5 z6 z7 y : Value} {t : TypeId} (h : w1.heap[g]? = some (.cells #[z0, z1, z2, z3, z4, z5, z6, z7] t (0, 0))) : (w1.setCell ⟨g, 6, none⟩ y).heap[g]? = some (.cells #[z0, z1, z2, z3, z4, z5, y, z7] t (0, 0)) := heap_setCell_same w1 g 6 #[z0, z1, z2, z3, z4, z5, z6, z7] t y h
theorem blk8_c7 {w1 : World} {g : Nat} {z0 z1 z2 z3 z4 z5 z6 z7 y : Value} {t : TypeId} (h : w1.heap[g]? = some (.cells #[z0, z1, z2, z3, z4, z5, z6, z7] t (0, 0))) : (w1.setCell ⟨g, 7, none⟩ y).heap[g]? = some (.cells #[z0, z1, z2, z3, z4, z5, z6, y] t (0, 0)) := heap_setCell_same w1 g 7 #[z0, z1, z2, z3, z4, z5, z6, z7] t y h
/-- All 8 cells of a block stored. -/
theorem blk_set8r {w1 : World} {g : Nat} {z0 z1 z2 z3 z4 z5 z6 z7 y0 y1 y2 y3 y4 y5 y6 y7 : Value} {t : TypeId} (h : w1.heap[g]? = some (.cells #[z0, z1, z2, z3, z4, z5, z6, z7] t (0, 0))) : ((((((((w1.setCell ⟨g, 0, none⟩ y0).setCell ⟨g, 1, none⟩ y1).setCell ⟨g, 2, none⟩ y2).setCell ⟨g, 3, none⟩ y3).setCell ⟨g, 4, none⟩ y4).setCell ⟨g, 5, none⟩ y5).setCell ⟨g, 6, none⟩ y6).setCell ⟨g, 7, none⟩ y7).heap[g]? = some (.cells #[y0, y1, y2, y3, y4, y5, y6, y7] t (0, 0)) :=
 (blk8_c7 (blk8_c6 (blk8_c5 (blk8_c4 (blk8_c3 (blk8_c2 (blk8_c1 (blk8_c0 h))))))))
theorem Drawn.set8r {B b : Nat} {a : Option Addr} {n c : Nat} {w w1 : World} {g : Nat} {y0 y1 y2 y3 y4 y5 y6 y7 : Value} (h : Drawn B b a n c w w1) (hb : b < w.heap.size) (hg : w.heap.size ≤ g) : Drawn B b a n c w ((((((((w1.setCell ⟨g, 0, none⟩ y0).setCell ⟨g, 1, none⟩ y1).setCell ⟨g, 2, none⟩ y2).setCell ⟨g, 3, none⟩ y3).setCell ⟨g, 4, none⟩ y4).setCell ⟨g, 5, none⟩ y5).setCell ⟨g, 6, none⟩ y6).setCell ⟨g, 7, none⟩ y7) :=
 ((((((((h.set1 hb hg).set1 hb hg).set1 hb hg).set1 hb hg).set1 hb hg).set1 hb hg).set1 hb hg).set1 hb hg)
theorem blk_oth8r {w1 : World} {g k : Nat} {y0 y1 y2 y3 y4 y5 y6 y7 : Value} {o : Obj} (h : w1.heap[k]? = some o) (hne : k ≠ g) : ((((((((w1.setCell ⟨g, 0, none⟩ y0).setCell ⟨g, 1, none⟩ y1).setCell ⟨g, 2, none⟩ y2).setCell ⟨g, 3, none⟩ y3).setCell ⟨g, 4, none⟩ y4).setCell ⟨g, 5, none⟩ y5).setCell ⟨g, 6, none⟩ y6).setCell ⟨g, 7, none⟩ y7).heap[k]? = some o :=
 ((heap_setCell_other _ _ _ _ hne).trans ((heap_setCell_other _ _ _ _ hne).trans ((heap_setCell_other _ _ _ _ hne).trans ((heap_setCell_other _ _ _ _ hne).trans ((heap_setCell_other _ _ _ _ hne).trans ((heap_setCell_other _ _ _ _ hne).trans ((heap_setCell_other _ _ _ _ hne).trans ((heap_setCell_other _ _ _ _ hne).trans h))))))))
end Go.Proofs.YtmnncinpepeocaaGreat

namespace Go.Proofs.YtmnncinpepeocaaGreat
open Go.RowKit Go.ChangeShapes Go.WideShapes

theorem CodeAt.mono {B B' : Nat} {w : World} {a : Option Addr} {n : Nat} (h : CodeAt B w a n) (hB : B ≤ B') : CodeAt B' w a n := by
 rcases h with h | ⟨b, o, ha, hlt, hc⟩
 · exact Or.inl h
 · exact Or.inr ⟨b, o, ha, Nat.lt_of_lt_of_le hlt hB, hc⟩

set_option maxRecDepth 100000 in
theorem bytes_open {H : Type} {enc : TypeId × Value → H} {W : World} {base : Nat} {v : Value} {d : DataW H} {p : List MemPlace} (hv : Value.okWide Tryz.prog W .any base 22 v)
 (h : DataW.Trod enc Tryz.prog W 0 (fun _ => true) true 22 v d p) : ∃ a n c, v = .slice a n c ∧ n ≤ maxLen ∧ CodeAt W.heap.size W a n := by
 obtain ⟨a0, len, cap, rfl⟩ := okWide_slice Tryz.underlying22 hv
 obtain ⟨fuel, hf⟩ := h
 rcases open_ints Tryz.underlying22 Tryz.underlying5 (by kernel_rfl : Tryz.prog.cellsOf 5 = 1) hf with ⟨hcs, hx⟩ | ⟨a, len', cap', zs, hcs, _, hl, hm, hz, hx, hcell, hwz⟩
 · simp only [Value.cells, List.cons.injEq, Value.slice.injEq, and_true] at hcs
   obtain ⟨rfl, rfl, rfl⟩ := hcs
   exact ⟨_, _, _, rfl, Nat.zero_le _, Or.inl rfl⟩
 · simp only [Value.cells, List.cons.injEq, Value.slice.injEq, and_true] at hcs
   obtain ⟨rfl, rfl, rfl⟩ := hcs
   rw [if_pos rfl] at hz
   refine ⟨_, _, _, rfl, Nat.le_trans hl hm, ?_⟩
   by_cases h0 : len = 0
   · exact Or.inl h0
   · obtain ⟨b, off, rfl, hc⟩ := ints_at hcell (by omega)
     refine Or.inr ⟨b, off, rfl, ?_, fun j hj => ?_⟩
     · have := block_lt_of_cell (hc 0 (by omega))
       exact this
     · have hb := bounds_u8 (hwz (zs.getD j 0) (by rw [List.getD, List.getElem?_eq_getElem (by omega)]; exact List.getElem_mem _))
       exact ⟨(zs.getD j 0).toNat, by omega, by rw [hc j (by omega), Int.toNat_of_nonneg hb.1]⟩
end Go.Proofs.YtmnncinpepeocaaGreat

namespace Go.Proofs.YtmnncinpepeocaaGreat
open Go.RowKit

set_option maxRecDepth 100000 in
theorem laws_big (a : Option Addr) (n c : Nat) (w : World) : Calls Tryz.prog 8 #[.slice a n c] w fun e w' => e = .returned (.bool (decide (1048576 < (n : Int)))) ∧ w' = w := by
 go_enter Tryz.func8, Tryz.ntmps8
 go_wp2
 go_ret
 exact ⟨rfl, rfl⟩
end Go.Proofs.YtmnncinpepeocaaGreat
