/-
  The library's merge in place, where the right part is one element.
-/
import Derived.Test.YtgdoahdkidlndaaRows
import Derived.Test.YtgdoahdkidlndaaInts
import Derived.Test.YtgdoahdkidlndaaIsShLib
import Derived.Test.YtgdoahdkidlndaaSortLib
import Derived.Test.YtgdoahdkidlndaaSortRow
import Derived.Test.YtgdoahdkidlndaaSortIns
import Derived.WalkKit
import Derived.WalkSpells
import Derived.WalkSmall
import Derived.BigQuiet
import Derived.CellFam
import Derived.Deep.QuietTactic
import Derived.Lib.Hide
namespace Go.Proofs.Ytgdoahdkidlndaa.srt
open Go.RowKit

set_option maxRecDepth 100000 in
set_option maxHeartbeats 2000000 in
theorem sym_r (key : Int → Int) (p : Option Addr) (a m n g : Nat) (f : Nat → Int) (w W : World) (h : Rw w W g n f) (hc : CmpOk w g n key (.pointer p)) (hr : InR f n) (hp : Pre key f a m (m + 1)) (ham : a + 1 < m) (hb : m + 1 ≤ n) (hn : n ≤ 1000) :
    Calls Try.prog 51 #[.slice (some ⟨g, 0, none⟩) n n, .int .i64 a, .int .i64 m, .int .i64 ((m : Int) + 1), cmpV (.pointer p)] W fun e W' => e = .returned (.tuple #[]) ∧ ∃ f', Rw w W' g n f' ∧ Into f f' a (m + 1) ∧ Srtd key f' a (m + 1) := by
  have H := Lib.hid h
  have HC := Lib.hid hc
  have HI := Lib.hid hr
  have HP := Lib.hid hp
  clear h hc hr hp
  have e0 : ((m : Int) - (a : Int) == 1) = false := by simp; omega
  have e0' : ((m : Int) + 1 - (m : Int) == 1) = true := by simp; omega
  go_enter Try.func51, Try.ntmps51
  go_wp2_with fail
  go_loopw [14, 15] (fun x y wr => ∃ (i j : Nat), a ≤ i ∧ i ≤ j ∧ j ≤ m ∧ x = .int .i64 i ∧ y = .int .i64 j ∧ Hid (Rw w wr g n f) ∧ Hid (i = a ∨ R key (f (i - 1)) (f m)) ∧ Hid (j = m ∨ R key (f m) (f j))) (fun x y _ => (intOf y).toNat - (intOf x).toNat)
  case atStart => exact ⟨a, m, Nat.le_refl _, by omega, Nat.le_refl _, rfl, rfl, H, Lib.hid (Or.inl rfl), Lib.hid (Or.inl rfl)⟩
  case round =>
    obtain ⟨i, j, hai, hij, hjb, rfl, rfl, HR, HL, HG⟩ := hrel
    by_cases hlt : i < j
    · obtain ⟨hh, h1, h2, h3⟩ : ∃ hh : Nat, i ≤ hh ∧ hh < j ∧ ((i : Int) + (j : Int)) / 2 = (hh : Int) := ⟨(i + j) / 2, by omega, by omega, by omega⟩
      have c1 := HR.out.cell (i := m) (by omega)
      have c2 := HR.out.cell (i := hh) (by omega)
      have r1 := HI.out m (by omega)
      have r2 := HI.out hh (by omega)
      have HCC : Hid (∀ q, Calls Try.prog 47 #[.int .i64 (f m), .int .i64 (f hh), .pointer p] (wr.drewN q) fun e W' => e = .returned (.int .i64 (cmpI (key (f hh)) (key (f m)))) ∧ ∃ m', W' = (wr.drewN q).drewN m') :=
        Lib.hid (fun q => HC.out _ (HR.out.drewN q).grow _ _ r1.1 r1.2 r2.1 r2.2)
      clear r1 r2
      by_cases hk : key (f hh) < key (f m)
      · have e1 := cmp_yes hk
        have HN : Hid (hh = m ∨ R key (f m) (f hh)) := Lib.hid (Or.inr (R.of_lt hk))
        clear hk
        generalize hx1 : f hh = x1 at *
        have HX1 := Lib.hid hx1
        clear hx1
        generalize hx2 : f m = x2 at *
        clear hx2
        generalize cmpI (key x1) (key x2) = cc at *
        go_wp2_with fail
        go_quiet (first | (go_at_call 47; with_reducible exact Calls.quiet_of (HCC.out _)))
        go_wp2
        go_roundw
        case rel => exact ⟨i, hh, hai, h1, by omega, rfl, rfl, Lib.hid (HR.out.drewN _), HL, Lib.hid (by rw [HX1.out]; exact HN.out)⟩
        case measure => simp [intOf]; omega
      · have e1 := cmp_no hk
        have HN : Hid (hh + 1 = a ∨ R key (f (hh + 1 - 1)) (f m)) := Lib.hid (Or.inr (R.of_not hk (HP.out.x hh m (by omega) (by omega) (Nat.le_refl _) (by omega))))
        clear hk
        generalize f hh = x1 at *
        generalize f m = x2 at *
        generalize cmpI (key x1) (key x2) = cc at *
        go_wp2_with fail
        go_quiet (first | (go_at_call 47; with_reducible exact Calls.quiet_of (HCC.out _)))
        go_wp2
        go_roundw
        case rel => exact ⟨hh + 1, j, by omega, by omega, hjb, by go_num, rfl, Lib.hid (HR.out.drewN _), HN, HG⟩
        case measure => simp [intOf]; omega
    · obtain rfl : i = j := by omega
      have HS := Lib.hid (HP.out.one_r hjb HL.out HG.out hai)
      go_wp2_with fail
      go_loopw [17] (fun x wr => ∃ k : Nat, i ≤ k ∧ k ≤ m ∧ x = .int .i64 k ∧ Hid (Rw w wr g n (rot f k m (m + 1)))) (fun x _ => (intOf x).toNat)
      case atStart => exact ⟨m, by omega, Nat.le_refl _, rfl, Lib.hid (by rw [rot_id1]; exact HR.out)⟩
      case round =>
        obtain ⟨k, hik, hkm, rfl, HR2⟩ := hrel
        by_cases hk : i < k
        · obtain ⟨q, rfl⟩ : ∃ q, k = q + 1 := ⟨k - 1, by omega⟩
          have c1 := HR2.out.cell (i := q + 1) (by omega)
          have c2 := HR2.out.cell (i := q) (by omega)
          have f1 := HR2.out.free (q + 1)
          have f2 := HR2.out.free q
          obtain ⟨u, c3⟩ := HR2.out.cell2 (i := q + 1) (j := q) (by omega) (.int .i64 (rot f (q + 1) m (m + 1) q))
          have HN : Hid (Rw w ((wr.setCell ⟨g, q + 1, none⟩ (.int .i64 (rot f (q + 1) m (m + 1) q))).setCell ⟨g, q, none⟩ (.int .i64 (rot f (q + 1) m (m + 1) (q + 1)))) g n (rot f q m (m + 1))) := Lib.hid (by
            have := HR2.out.swap0 (i := q + 1) (j := q) (by omega) (by omega)
            rwa [rot_down (by omega)] at this)
          generalize rot f (q + 1) m (m + 1) q = x1 at *
          generalize rot f (q + 1) m (m + 1) (q + 1) = x2 at *
          go_wp2_with fail
          go_region
          go_wp2
          go_roundw
          case rel => exact ⟨q, by omega, by omega, by go_num, Lib.hid HN.out.drew⟩
          case measure => simp [intOf]
        · obtain rfl : k = i := by omega
          go_wp2
          (try simp only [Exit.inBlock, Exit.then])
          refine bodyPost_ret (results_none rfl _ _ _) rfl ?_
          exact ⟨rfl, _, HR2.out, rot_into (by omega) (by omega) hai (Nat.le_refl _), HS.out⟩
end Go.Proofs.Ytgdoahdkidlndaa.srt
