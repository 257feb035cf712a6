/-
  The library's insertion sort, with the program's comparison.
-/
import Derived.Test.YtgdoahdkidlndaaRows
import Derived.Test.YtgdoahdkidlndaaInts
import Derived.Test.YtgdoahdkidlndaaIsShLib
import Derived.Test.YtgdoahdkidlndaaSortLib
import Derived.Test.YtgdoahdkidlndaaSortRow
import Derived.WalkKit
import Derived.WalkSpells
import Derived.WalkSmall
import Derived.BigQuiet
import Derived.CellFam
import Derived.Deep.QuietTactic
import Derived.Lib.Hide
namespace Go.Proofs.Ytgdoahdkidlndaa.srt
open Go.RowKit

/-- What the comparison answers, in whatever world the sort passes through. -/
def CmpOk (w : World) (g n : Nat) (key : Int → Int) (p : Value) : Prop := ∀ W, w.grownBy W (some g) → ∀ x y : Int, 0 ≤ x → x < n → 0 ≤ y → y < n →
  Calls Try.prog 47 #[.int .i64 x, .int .i64 y, p] W fun e W' => e = .returned (.int .i64 (cmpI (key y) (key x))) ∧ ∃ m, W' = W.drewN m

theorem cmp_yes {a b : Int} (h : a < b) : decide (cmpI a b < 0) = true := by rw [cmpI_lt h]; decide
theorem cmp_no {a b : Int} (h : ¬a < b) : decide (cmpI a b < 0) = false := by
  unfold cmpI
  rw [if_neg h]
  split <;> decide

/-- The function value. -/
abbrev cmpV (p : Value) : Value := .func (.func 47) #[] #[p]

set_option maxRecDepth 100000 in
set_option maxHeartbeats 2000000 in
theorem ins_sort (key : Int → Int) (p : Option Addr) (a b n g : Nat) (f : Nat → Int) (w W : World) (h : Rw w W g n f) (hc : CmpOk w g n key (.pointer p)) (hr : InR f n) (hasc : ∀ i j, a ≤ i → i < j → j < b → f i < f j) (hab : a < b) (hb : b ≤ n) (hn : n ≤ 1000) :
    Calls Try.prog 50 #[.slice (some ⟨g, 0, none⟩) n n, .int .i64 a, .int .i64 b, cmpV (.pointer p)] W fun e W' => e = .returned (.tuple #[]) ∧ ∃ f', Rw w W' g n f' ∧ Into f f' a b ∧ Srtd key f' a b := by
  have H := Lib.hid h
  have HC := Lib.hid hc
  have HI := Lib.hid hr
  have HA := Lib.hid hasc
  clear h hc hr hasc
  go_enter Try.func50, Try.ntmps50
  go_wp2
  go_loopw [8] (fun x wr => ∃ (i : Nat) (f1 : Nat → Int), a < i ∧ i ≤ b ∧ x = .int .i64 i ∧ Hid (Rw w wr g n f1) ∧ Hid (Into f f1 a i) ∧ Hid (Srtd key f1 a i)) (fun x _ => b - (intOf x).toNat)
  case atStart => exact ⟨a + 1, f, by omega, by omega, by go_num, H, Lib.hid (Into.refl _ _ _), Lib.hid (fun i j h1 h2 h3 => by omega)⟩
  case round =>
    obtain ⟨i, f1, hai, hib, rfl, HR1, HI1, HS1⟩ := hrel
    by_cases hlt : i < b
    · go_wp2_with fail
      go_loopw [9] (fun x wr => ∃ (j : Nat) (f2 : Nat → Int), a ≤ j ∧ j ≤ i ∧ x = .int .i64 j ∧ Hid (Rw w wr g n f2) ∧ Hid (Ins key f a i f2 j)) (fun x _ => (intOf x).toNat)
      case atStart => exact ⟨i, f1, by omega, Nat.le_refl _, rfl, HR1, Lib.hid (Ins.start HI1.out HS1.out)⟩
      case round =>
        obtain ⟨j, f2, haj, hji, rfl, HR, HX⟩ := hrel
        by_cases hja : a < j
        · obtain ⟨q, rfl⟩ : ∃ q, j = q + 1 := ⟨j - 1, by omega⟩
          have c1 := HR.out.cell (i := q + 1) (by omega)
          have c2 := HR.out.cell (i := q) (by omega)
          have e0 : decide ((a : Int) < (q : Int) + 1) = true := decide_eq_true (by omega)
          have e0' : decide ((q : Int) + 1 > (a : Int)) = true := decide_eq_true (by omega)
          have r1 : 0 ≤ f2 (q + 1) ∧ f2 (q + 1) < n := by rw [HX.out.here]; exact HI.out i (by omega)
          have r2 : 0 ≤ f2 q ∧ f2 q < n := by
            obtain ⟨q', h1, h2, e⟩ := HX.out.els q (by omega) (by omega) (by omega)
            rw [e]; exact HI.out q' (by omega)
          have HCC : Hid (∀ m, Calls Try.prog 47 #[.int .i64 (f2 (q + 1)), .int .i64 (f2 q), .pointer p] (wr.drewN m) fun e W' => e = .returned (.int .i64 (cmpI (key (f2 q)) (key (f2 (q + 1))))) ∧ ∃ m', W' = (wr.drewN m).drewN m') :=
            Lib.hid (fun m => HC.out _ (HR.out.drewN m).grow _ _ r1.1 r1.2 r2.1 r2.2)
          clear r1 r2
          by_cases hk : key (f2 q) < key (f2 (q + 1))
          · have e1 := cmp_yes hk
            have HN := Lib.hid (HX.out.step (by omega) (by omega) (R.of_lt (by rw [← HX.out.here]; exact hk)))
            have HSW : Hid (∀ m, Rw w ((((wr.drewN m).setCell ⟨g, q + 1, none⟩ (.int .i64 (f2 q))).setCell ⟨g, q, none⟩ (.int .i64 (f2 (q + 1))))) g n (swp f2 (q + 1) q)) := Lib.hid (fun m => (HR.out.drewN m).swap0 (by omega) (by omega))
            have f1 := HR.out.free (q + 1)
            have f2' := HR.out.free q
            have HC2 : Hid (∀ m, ∃ u, ((wr.drewN m).setCell ⟨g, q + 1, none⟩ (.int .i64 (f2 q))).cell? ⟨g, q, none⟩ = some u) := Lib.hid (fun m => (HR.out.drewN m).cell2 (by omega) _)
            clear hk
            generalize f2 (q + 1) = x1 at *
            generalize f2 q = x2 at *
            generalize cmpI (key x2) (key x1) = cc at *
            go_wp2_with fail
            go_quiet (first | (go_at_call 47; with_reducible exact Calls.quiet_of (HCC.out _)))
            obtain ⟨u, c3⟩ := HC2.out nq
            have HS2 := Lib.hid (HSW.out nq)
            have d1 : (wr.drewN nq).cell? ⟨g, q + 1, none⟩ = some (.int .i64 x1) := c1
            have d2 : (wr.drewN nq).cell? ⟨g, q, none⟩ = some (.int .i64 x2) := c2
            have g1 : (wr.drewN nq).frozen? ⟨g, q + 1, none⟩ = false := f1
            have g2 : (wr.drewN nq).frozen? ⟨g, q, none⟩ = false := f2'
            clear c1 c2 f1 f2' HC2 HSW HCC
            generalize wr.drewN nq = wd at *
            go_wp2_with fail
            go_region
            go_wp2
            go_roundw
            case rel => exact ⟨q, _, by omega, by omega, by go_num, Lib.hid HS2.out.drew, HN⟩
            case measure => simp [intOf]
          · have e1 := cmp_no hk
            have HD := Lib.hid (HX.out.done haj hji (Or.inr (HX.out.lesser (by omega) (by omega) hlt HA.out (by rw [← HX.out.here]; exact hk))))
            clear hk
            generalize f2 (q + 1) = x1 at *
            generalize hx2 : f2 q = x2 at *
            clear hx2
            generalize cmpI (key x2) (key x1) = cc at *
            go_wp2_with fail
            go_quiet (first | (go_at_call 47; with_reducible exact Calls.quiet_of (HCC.out _)))
            go_wp2
            go_roundw
            case rel => exact ⟨i + 1, f2, by omega, by omega, by go_num, Lib.hid (HR.out.drewN _), Lib.hid HD.out.1, Lib.hid HD.out.2⟩
            case measure => simp [intOf]; omega
        · obtain rfl : j = a := by omega
          have e0 : decide ((j : Int) > (j : Int)) = false := decide_eq_false (by omega)
          have HD := Lib.hid (HX.out.done haj hji (Or.inl rfl))
          go_wp2_with fail
          go_quiet (fail)
          go_wp2
          go_roundw
          case rel => exact ⟨i + 1, f2, by omega, by omega, by go_num, Lib.hid (HR.out.drewN _), Lib.hid HD.out.1, Lib.hid HD.out.2⟩
          case measure => simp [intOf]; omega
    · obtain rfl : i = b := by omega
      go_wp2
      go_end0
      exact ⟨rfl, f1, HR1.out, HI1.out, HS1.out⟩
end Go.Proofs.Ytgdoahdkidlndaa.srt
