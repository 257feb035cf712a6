/-
  The library's merge in place, where the left part is one element.
-/
import Derived.Test.YtgdoahdkidlndaaRows
import Derived.Test.YtgdoahdkidlndaaInts
import Derived.Test.YtgdoahdkidlndaaIsShLib
import Derived.Test.YtgdoahdkidlndaaSortLib
import Derived.Test.YtgdoahdkidlndaaSortRow
import Derived.Test.YtgdoahdkidlndaaSortIns
import Derived.WalkKit
import Derived.WalkSpells
import Derived.WalkSmall
import Derived.BigQuiet
import Derived.CellFam
import Derived.Deep.QuietTactic
import Derived.Lib.Hide
namespace Go.Proofs.Ytgdoahdkidlndaa.srt
open Go.RowKit

set_option maxRecDepth 100000 in
set_option maxHeartbeats 2000000 in
theorem sym_l (key : Int → Int) (p : Option Addr) (a b n g : Nat) (f : Nat → Int) (w W : World) (h : Rw w W g n f) (hc : CmpOk w g n key (.pointer p)) (hr : InR f n) (hp : Pre key f a (a + 1) b) (hab : a + 1 < b) (hb : b ≤ n) (hn : n ≤ 1000) :
    Calls Try.prog 51 #[.slice (some ⟨g, 0, none⟩) n n, .int .i64 a, .int .i64 ((a : Int) + 1), .int .i64 b, cmpV (.pointer p)] W fun e W' => e = .returned (.tuple #[]) ∧ ∃ f', Rw w W' g n f' ∧ Into f f' a b ∧ Srtd key f' a b := by
  have H := Lib.hid h
  have HC := Lib.hid hc
  have HI := Lib.hid hr
  have HP := Lib.hid hp
  clear h hc hr hp
  have e0 : ((a : Int) + 1 - (a : Int) == 1) = true := by simp; omega
  go_enter Try.func51, Try.ntmps51
  go_wp2_with fail
  go_loopw [10, 11] (fun x y wr => ∃ (i j : Nat), a + 1 ≤ i ∧ i ≤ j ∧ j ≤ b ∧ x = .int .i64 i ∧ y = .int .i64 j ∧ Hid (Rw w wr g n f) ∧ Hid (i = a + 1 ∨ R key (f (i - 1)) (f a)) ∧ Hid (j = b ∨ R key (f a) (f j))) (fun x y _ => (intOf y).toNat - (intOf x).toNat)
  case atStart => exact ⟨a + 1, b, Nat.le_refl _, by omega, Nat.le_refl _, by go_num, rfl, H, Lib.hid (Or.inl rfl), Lib.hid (Or.inl rfl)⟩
  case round =>
    obtain ⟨i, j, hai, hij, hjb, rfl, rfl, HR, HL, HG⟩ := hrel
    by_cases hlt : i < j
    · obtain ⟨hh, h1, h2, h3⟩ : ∃ hh : Nat, i ≤ hh ∧ hh < j ∧ ((i : Int) + (j : Int)) / 2 = (hh : Int) := ⟨(i + j) / 2, by omega, by omega, by omega⟩
      have c1 := HR.out.cell (i := hh) (by omega)
      have c2 := HR.out.cell (i := a) (by omega)
      have r1 := HI.out hh (by omega)
      have r2 := HI.out a (by omega)
      have HCC : Hid (∀ m, Calls Try.prog 47 #[.int .i64 (f hh), .int .i64 (f a), .pointer p] (wr.drewN m) fun e W' => e = .returned (.int .i64 (cmpI (key (f a)) (key (f hh)))) ∧ ∃ m', W' = (wr.drewN m).drewN m') :=
        Lib.hid (fun m => HC.out _ (HR.out.drewN m).grow _ _ r1.1 r1.2 r2.1 r2.2)
      clear r1 r2
      by_cases hk : key (f a) < key (f hh)
      · have e1 := cmp_yes hk
        have HN : Hid (hh + 1 = a + 1 ∨ R key (f (hh + 1 - 1)) (f a)) := Lib.hid (Or.inr (R.of_lt hk))
        clear hk
        generalize f hh = x1 at *
        generalize f a = x2 at *
        generalize cmpI (key x2) (key x1) = cc at *
        go_wp2_with fail
        go_quiet (first | (go_at_call 47; with_reducible exact Calls.quiet_of (HCC.out _)))
        go_wp2
        go_roundw
        case rel => exact ⟨hh + 1, j, by omega, by omega, hjb, by go_num, rfl, Lib.hid (HR.out.drewN _), HN, HG⟩
        case measure => simp [intOf]; omega
      · have e1 := cmp_no hk
        have HN : Hid (hh = b ∨ R key (f a) (f hh)) := Lib.hid (Or.inr (R.of_not hk (HP.out.x a hh (Nat.le_refl _) (by omega) (by omega) (by omega))))
        clear hk
        generalize hx1 : f hh = x1 at *
        have HX1 := Lib.hid hx1
        clear hx1
        generalize hx2 : f a = x2 at *
        clear hx2
        generalize cmpI (key x2) (key x1) = cc at *
        go_wp2_with fail
        go_quiet (first | (go_at_call 47; with_reducible exact Calls.quiet_of (HCC.out _)))
        go_wp2
        go_roundw
        case rel => exact ⟨i, hh, hai, h1, by omega, rfl, rfl, Lib.hid (HR.out.drewN _), HL, Lib.hid (by rw [HX1.out]; exact HN.out)⟩
        case measure => simp [intOf]; omega
    · obtain rfl : i = j := by omega
      obtain ⟨q, rfl⟩ : ∃ q, i = q + 1 := ⟨i - 1, by omega⟩
      have HS := Lib.hid (HP.out.one_l hai hjb HL.out HG.out)
      go_wp2_with fail
      go_loopw [13] (fun x wr2 => ∃ k : Nat, a ≤ k ∧ k ≤ q ∧ x = .int .i64 k ∧ Hid (Rw w wr2 g n (rot f a (a + 1) (k + 1)))) (fun x _ => q - (intOf x).toNat)
      case atStart => exact ⟨a, Nat.le_refl _, by omega, rfl, Lib.hid (by rw [rot_id2]; exact HR.out)⟩
      case round =>
        obtain ⟨k, hak, hkq, rfl, HR2⟩ := hrel
        by_cases hk : k < q
        · have c1 := HR2.out.cell (i := k) (by omega)
          have c2 := HR2.out.cell (i := k + 1) (by omega)
          have f1 := HR2.out.free k
          have f2 := HR2.out.free (k + 1)
          obtain ⟨u, c3⟩ := HR2.out.cell2 (i := k) (j := k + 1) (by omega) (.int .i64 (rot f a (a + 1) (k + 1) (k + 1)))
          have HN : Hid (Rw w ((wr.setCell ⟨g, k, none⟩ (.int .i64 (rot f a (a + 1) (k + 1) (k + 1)))).setCell ⟨g, k + 1, none⟩ (.int .i64 (rot f a (a + 1) (k + 1) k))) g n (rot f a (a + 1) (k + 1 + 1))) := Lib.hid (by
            have := HR2.out.swap0 (i := k) (j := k + 1) (by omega) (by omega)
            have e := rot_up (f := f) (a := a) (i := k + 1) (by omega)
            rw [Nat.add_sub_cancel] at e
            rwa [e] at this)
          generalize rot f a (a + 1) (k + 1) k = x1 at *
          generalize rot f a (a + 1) (k + 1) (k + 1) = x2 at *
          go_wp2_with fail
          go_region
          go_wp2
          go_roundw
          case rel => exact ⟨k + 1, by omega, by omega, by go_num, Lib.hid HN.out.drew⟩
          case measure => simp [intOf]; omega
        · obtain rfl : k = q := by omega
          go_wp2
          (try simp only [Exit.inBlock, Exit.then])
          refine bodyPost_ret (results_none rfl _ _ _) rfl ?_
          exact ⟨rfl, _, HR2.out, rot_into (by omega) (by omega) (Nat.le_refl _) hjb, HS.out⟩
end Go.Proofs.Ytgdoahdkidlndaa.srt
