/-
  The row that is sorted, said of a world; the library's exchange of two blocks and its rotation.
-/
import Derived.Test.YtgdoahdkidlndaaRows
import Derived.Test.YtgdoahdkidlndaaInts
import Derived.Test.YtgdoahdkidlndaaSortLib
import Derived.WalkKit
import Derived.WalkSpells
import Derived.WalkSmall
import Derived.BigQuiet
import Derived.CellFam
import Derived.Deep.QuietTactic
import Derived.Lib.Hide
namespace Go.Proofs.Ytgdoahdkidlndaa.srt
open Go.RowKit

/-- The row's values. -/
def rowV (n : Nat) (f : Nat → Int) : List Value := (List.range n).map fun i => Value.int .i64 (f i)
theorem rowV_length (n : Nat) (f : Nat → Int) : (rowV n f).length = n := by simp [rowV]
theorem rowV_at {n : Nat} {f : Nat → Int} {i : Nat} (h : i < n) : (rowV n f)[i]? = some (.int .i64 (f i)) := by simp [rowV, h]
theorem rowV_swp {n : Nat} {f : Nat → Int} {i j : Nat} (hi : i < n) (hj : j < n) : ((rowV n f).set i (.int .i64 (f j))).set j (.int .i64 (f i)) = rowV n (swp f i j) := by
  apply List.ext_getElem?
  intro k
  rw [List.getElem?_set, List.getElem?_set, List.length_set, rowV_length]
  by_cases h1 : j = k
  · subst h1
    rw [if_pos rfl, if_pos hj, rowV_at hj]
    by_cases h2 : j = i
    · subst h2; rw [swp_l]
    · rw [swp_r (fun e => h2 e.symm)]
  · rw [if_neg h1]
    by_cases h2 : i = k
    · subst h2; rw [if_pos rfl, if_pos hi, rowV_at hi, swp_l]
    · rw [if_neg h2]
      by_cases hk : k < n
      · rw [rowV_at hk, rowV_at hk, swp_o (fun e => h2 e.symm) (fun e => h1 e.symm)]
      · rw [List.getElem?_eq_none (by rw [rowV_length]; omega), List.getElem?_eq_none (by rw [rowV_length]; omega)]

/-- In W the block g holds f's first n values; nothing else that was in w has changed. -/
structure Rw (w W : World) (g n : Nat) (f : Nat → Int) : Prop where
  own : W.ownsRow 0 3 1 (.slice (some ⟨g, 0, none⟩) n n) n (rowV n f)
  grow : w.grownBy W (some g)

theorem Rw.cell {w W : World} {g n : Nat} {f : Nat → Int} (h : Rw w W g n f) {i : Nat} (hi : i < n) : W.cell? ⟨g, i, none⟩ = some (.int .i64 (f i)) := by
  rw [h.own.cellAt i (by omega), rowV_at hi]
theorem Rw.free {w W : World} {g n : Nat} {f : Nat → Int} (h : Rw w W g n f) (i : Nat) : W.frozen? ⟨g, i, none⟩ = false := h.own.frozenAt i
theorem Rw.drewN {w W : World} {g n : Nat} {f : Nat → Int} (h : Rw w W g n f) (m : Nat) : Rw w (W.drewN m) g n f :=
  ⟨kept_below h.own (below_drewN (Below.refl _ _) m), h.grow.trans (grown_of_below (below_drewN (Below.refl _ _) m) _)⟩
theorem Rw.swap0 {w W : World} {g n : Nat} {f : Nat → Int} (h : Rw w W g n f) {i j : Nat} (hi : i < n) (hj : j < n) :
    Rw w ((W.setCell ⟨g, i, none⟩ (.int .i64 (f j))).setCell ⟨g, j, none⟩ (.int .i64 (f i))) g n (swp f i j) := by
  have h1 := h.own.stored i (.int .i64 (f j))
  have h2 := h1.1.stored j (.int .i64 (f i))
  rw [rowV_swp hi hj] at h2
  exact ⟨h2.1, (h.grow.trans h1.2).trans h2.2⟩
theorem Rw.drew {w W : World} {g n : Nat} {f : Nat → Int} (h : Rw w W g n f) : Rw w W.drew g n f :=
  ⟨kept_below h.own (Below.refl _ _).drew, h.grow.trans (grown_of_below (Below.refl _ _).drew _)⟩
theorem Rw.cell2 {w W : World} {g n : Nat} {f : Nat → Int} (h : Rw w W g n f) {i j : Nat} (hj : j < n) (v : Value) : ∃ u, (W.setCell ⟨g, i, none⟩ v).cell? ⟨g, j, none⟩ = some u := by
  have h1 := h.own.stored i v
  rw [h1.1.cellAt j (by omega)]
  exact ⟨_, List.getElem?_eq_getElem (by rw [List.length_set, rowV_length]; exact hj)⟩

set_option maxRecDepth 100000 in
set_option maxHeartbeats 1000000 in
theorem swap_range (fv : Value) (a b k n g : Nat) (f : Nat → Int) (w W : World) (h : Rw w W g n f) (hab : a + k ≤ b) (hb : b + k ≤ n) (hn : n ≤ 1000) :
    Calls Try.prog 53 #[.slice (some ⟨g, 0, none⟩) n n, .int .i64 a, .int .i64 b, .int .i64 k, fv] W fun e W' => e = .returned (.tuple #[]) ∧ Rw w W' g n (swr f a b k) := by
  have H := Lib.hid h
  clear h
  go_enter Try.func53, Try.ntmps53
  go_wp2
  go_loopw [10] (fun i wr => ∃ j : Nat, j ≤ k ∧ i = .int .i64 j ∧ Hid (Rw w wr g n (swr f a b j))) (fun i _ => k - (intOf i).toNat)
  case atStart => exact ⟨0, Nat.zero_le _, rfl, Lib.hid (by rw [swr_zero]; exact H.out)⟩
  case round =>
    obtain ⟨j, hj, rfl, HR⟩ := hrel
    by_cases hlt : j < k
    · have c1 := HR.out.cell (i := a + j) (by omega)
      have c2 := HR.out.cell (i := b + j) (by omega)
      have f1 := HR.out.free (a + j)
      have f2 := HR.out.free (b + j)
      obtain ⟨u, c3⟩ := HR.out.cell2 (i := a + j) (j := b + j) (by omega) (.int .i64 (swr f a b j (b + j)))
      have HN : Hid (Rw w ((wr.setCell ⟨g, a + j, none⟩ (.int .i64 (swr f a b j (b + j)))).setCell ⟨g, b + j, none⟩ (.int .i64 (swr f a b j (a + j)))) g n (swr f a b (j + 1))) := Lib.hid (by
        have := HR.out.swap0 (i := a + j) (j := b + j) (by omega) (by omega)
        rwa [swr_succ (by omega)] at this)
      generalize swr f a b j (a + j) = x1 at *
      generalize swr f a b j (b + j) = x2 at *
      go_wp2
      go_region
      go_wp2
      go_roundw
      case rel => exact ⟨j + 1, by omega, by go_num, Lib.hid HN.out.drew⟩
      case measure => simp [intOf]; omega
    · obtain rfl : j = k := by omega
      go_wp2
      go_end0
      exact ⟨rfl, HR.out⟩

theorem swap_rangeI (fv : Value) (x y z : Int) (a b k n g : Nat) (f : Nat → Int) (w W : World) (hx : x = (a : Int)) (hy : y = (b : Int)) (hz : z = (k : Int)) (h : Rw w W g n f) (hab : a + k ≤ b) (hb : b + k ≤ n) (hn : n ≤ 1000) :
    Calls Try.prog 53 #[.slice (some ⟨g, 0, none⟩) n n, .int .i64 x, .int .i64 y, .int .i64 z, fv] W fun e W' => e = .returned (.tuple #[]) ∧ Rw w W' g n (swr f a b k) := by
  subst hx; subst hy; subst hz
  exact swap_range fv a b k n g f w W h hab hb hn

set_option maxRecDepth 100000 in
set_option maxHeartbeats 1000000 in
theorem rotate (fv : Value) (s m e n g : Nat) (f : Nat → Int) (w W : World) (h : Rw w W g n f) (hs : s < m) (he : m < e) (hb : e ≤ n) (hn : n ≤ 1000) :
    Calls Try.prog 52 #[.slice (some ⟨g, 0, none⟩) n n, .int .i64 s, .int .i64 m, .int .i64 e, fv] W fun e' W' => e' = .returned (.tuple #[]) ∧ Rw w W' g n (rot f s m e) := by
  have H := Lib.hid h
  clear h
  have HE : Hid (rot f s m e = rot f (m - (m - s)) m (m + (e - m))) := Lib.hid (by rw [show m - (m - s) = s from by omega, show m + (e - m) = e from by omega])
  go_enter Try.func52, Try.ntmps52
  go_wp2
  go_loopw [10, 11] (fun x y wr => ∃ (i j : Nat) (h : Nat → Int), 0 < i ∧ 0 < j ∧ i ≤ m ∧ m + j ≤ n ∧ x = .int .i64 i ∧ y = .int .i64 j ∧ Hid (Rw w wr g n h) ∧ Hid (rot h (m - i) m (m + j) = rot f s m e)) (fun x y _ => (intOf x).toNat + (intOf y).toNat)
  case atStart => exact ⟨m - s, e - m, f, by omega, by omega, by omega, by omega, congrArg (Value.int .i64) (by omega), congrArg (Value.int .i64) (by omega), H, Lib.hid HE.out.symm⟩
  case round =>
    obtain ⟨i, j, h, hi, hj, him, hjn, rfl, rfl, HR, HQ⟩ := hrel
    rcases (show i = j ∨ j < i ∨ i < j by omega) with c | c | c
    · subst c
      have e0 : ((i : Int) != (i : Int)) = false := by simp
      have HN := Lib.hid ((rot_eq (f := h) him).trans HQ.out)
      go_wp2_with fail
      refine (swap_rangeI _ _ _ _ (m - i) m i n g h w _ (by omega) rfl rfl HR.out (by omega) (by omega) hn).mono ?_
      rintro e' w1 ⟨rfl, hr⟩
      have HR1 := Lib.hid hr
      clear hr
      go_wp2
      go_end0
      exact ⟨rfl, HN.out ▸ HR1.out⟩
    · have e0 : ((i : Int) != (j : Int)) = true := by simp; omega
      have HN := Lib.hid ((rot_gt (f := h) him c).trans HQ.out)
      go_wp2_with fail
      refine (swap_rangeI _ _ _ _ (m - i) m j n g h w _ (by omega) rfl rfl HR.out (by omega) (by omega) hn).mono ?_
      rintro e' w1 ⟨rfl, hr⟩
      have HR1 := Lib.hid hr
      clear hr
      go_wp2
      go_roundw
      case rel => exact ⟨i - j, j, _, by omega, hj, by omega, hjn, by go_num, rfl, HR1, Lib.hid (by rw [show m - (i - j) = m - i + j from by omega]; exact HN.out)⟩
      case measure => simp [intOf]; omega
    · have e0 : ((i : Int) != (j : Int)) = true := by simp; omega
      have HN := Lib.hid ((rot_lt (f := h) him c).trans HQ.out)
      go_wp2_with fail
      refine (swap_rangeI _ _ _ _ (m - i) (m + j - i) i n g h w _ (by omega) (by omega) rfl HR.out (by omega) (by omega) hn).mono ?_
      rintro e' w1 ⟨rfl, hr⟩
      have HR1 := Lib.hid hr
      clear hr
      go_wp2
      go_roundw
      case rel => exact ⟨i, j - i, _, hi, by omega, him, by omega, rfl, by go_num, HR1, HN⟩
      case measure => simp [intOf]; omega
end Go.Proofs.Ytgdoahdkidlndaa.srt
