/-
  The library's merge in place: it calls itself on two shorter pieces.
-/
import Derived.Test.YtgdoahdkidlndaaRows
import Derived.Test.YtgdoahdkidlndaaInts
import Derived.Test.YtgdoahdkidlndaaIsShLib
import Derived.Test.YtgdoahdkidlndaaSortLib
import Derived.Test.YtgdoahdkidlndaaSortRow
import Derived.Test.YtgdoahdkidlndaaSortIns
import Derived.Test.YtgdoahdkidlndaaSortSymL
import Derived.Test.YtgdoahdkidlndaaSortSymR
import Derived.WalkKit
import Derived.WalkSpells
import Derived.WalkSmall
import Derived.BigQuiet
import Derived.CellFam
import Derived.Deep.QuietTactic
import Derived.Deep.DeepCutAuto
import Derived.Lib.Hide
namespace Go.Proofs.Ytgdoahdkidlndaa.srt
open Go.RowKit

/-- What a merge leaves. -/
def Merges (key : Int → Int) (p : Option Addr) (n g : Nat) (w : World) (a m b : Nat) (f : Nat → Int) (W : World) : Prop :=
  Calls Try.prog 51 #[.slice (some ⟨g, 0, none⟩) n n, .int .i64 a, .int .i64 m, .int .i64 b, cmpV (.pointer p)] W fun e W' => e = .returned (.tuple #[]) ∧ ∃ f', Rw w W' g n f' ∧ Into f f' a b ∧ Srtd key f' a b

/-- Where the search begins. -/
def Beg (a m b mid s0 r0 : Nat) : Prop := (mid < m ∧ s0 + b = mid + m ∧ r0 = mid) ∨ (m ≤ mid ∧ s0 = a ∧ r0 = m)

theorem fin_of {key : Int → Int} {f f1 f2 f3 : Nat → Int} {a mid b : Nat} (hin : Into f f1 a b) (ha : ∀ i j, a ≤ i → i < mid → mid ≤ j → j < b → R key (f1 i) (f1 j)) (h1 : a ≤ mid) (h2 : mid ≤ b) (i1 : Into f1 f2 a mid) (s1 : Srtd key f2 a mid) (i2 : Into f2 f3 mid b) (s2 : Srtd key f3 mid b) :
    Into f f3 a b ∧ Srtd key f3 a b := by
  have := merged ha h1 h2 i1 s1 i2 s2
  exact ⟨hin.trans this.2, this.1⟩

theorem calls_i {f : FuncId} {P : Program} {d c : Value} {x y z x' y' z' : Int} {W : World} {Q : Ending → World → Prop} (h : Calls P f #[d, .int .i64 x, .int .i64 y, .int .i64 z, c] W Q) (hx : x' = x) (hy : y' = y) (hz : z' = z) :
    Calls P f #[d, .int .i64 x', .int .i64 y', .int .i64 z', c] W Q := by
  subst hx; subst hy; subst hz; exact h

set_option maxRecDepth 100000 in
set_option maxHeartbeats 8000000 in
theorem sym_go (key : Int → Int) (p : Option Addr) (a m b n g : Nat) (f : Nat → Int) (w W : World) (h : Rw w W g n f) (hc : CmpOk w g n key (.pointer p)) (hr : InR f n) (hp : Pre key f a m b) (ham : a + 1 < m) (hmb : m + 1 < b) (hb : b ≤ n) (hn : n ≤ 1000)
    (ih : ∀ a' m' b' f' W', b' - a' < b - a → Rw w W' g n f' → InR f' n → Pre key f' a' m' b' → a' < m' → m' < b' → b' ≤ n → Merges key p n g w a' m' b' f' W') :
    Merges key p n g w a m b f W := by
  have H := Lib.hid h
  have HC := Lib.hid hc
  have HI := Lib.hid hr
  have HP := Lib.hid hp
  have IH := Lib.hid ih
  clear h hc hr hp ih
  have e0 : ((m : Int) - (a : Int) == 1) = false := by simp; omega
  have e0' : ((b : Int) - (m : Int) == 1) = false := by simp; omega
  obtain ⟨mid, hm1, hm2, hm3, hm4, hm5⟩ : ∃ mid : Nat, a < mid ∧ mid < b ∧ 2 * mid ≤ a + b ∧ a + b ≤ 2 * mid + 1 ∧ ((a : Int) + (b : Int)) / 2 = (mid : Int) := ⟨(a + b) / 2, by omega, by omega, by omega, by omega, by omega⟩
  unfold Merges
  go_enter Try.func51, Try.ntmps51
  go_upto_if 140 with fail
  go_cut [20, 21] (fun x y wx => ∃ s0 r0 : Nat, x = .int .i64 s0 ∧ y = .int .i64 r0 ∧ Hid (Beg a m b mid s0 r0) ∧ wx = W)
  case first =>
    by_cases hmm : mid < m
    · obtain ⟨s0, hs0, hs1⟩ : ∃ s0 : Nat, (mid : Int) + (m : Int) - (b : Int) = (s0 : Int) ∧ s0 + b = mid + m := ⟨mid + m - b, by omega, by omega⟩
      go_wp2_with fail
      go_meet
      exact ⟨s0, mid, rfl, rfl, Lib.hid (Or.inl ⟨hmm, hs1, rfl⟩), rfl⟩
    · go_wp2_with fail
      go_meet
      exact ⟨a, m, rfl, rfl, Lib.hid (Or.inr ⟨by omega, rfl, rfl⟩), rfl⟩
  case rest =>
    obtain ⟨s0, r0, rfl, rfl, HB, rfl⟩ := hcut
    have hBeg := HB.out
    have hs0a : a ≤ s0 := by unfold Beg at hBeg; omega
    have hsr0 : s0 ≤ r0 := by unfold Beg at hBeg; omega
    have hr0m : r0 ≤ m := by unfold Beg at hBeg; omega
    have HPC : Hid (∀ q : Nat, s0 ≤ q → q < r0 → ∃ pc : Nat, (mid : Int) + (m : Int) - 1 - (q : Int) = (pc : Int) ∧ m ≤ pc ∧ pc < b ∧ q + 1 + pc = mid + m) := Lib.hid (fun q h1 h2 => ⟨mid + m - 1 - q, by unfold Beg at hBeg; omega, by unfold Beg at hBeg; omega, by unfold Beg at hBeg; omega, by unfold Beg at hBeg; omega⟩)
    clear hBeg
    go_wp2_with fail
    go_loopw [20, 21] (fun x y wr => ∃ (s r : Nat), s0 ≤ s ∧ s ≤ r ∧ r ≤ r0 ∧ x = .int .i64 s ∧ y = .int .i64 r ∧ Hid (Rw w wr g n f) ∧ Hid (s = s0 ∨ R key (f (s - 1)) (f (mid + m - s))) ∧ Hid (r = r0 ∨ R key (f (mid + m - r - 1)) (f r))) (fun x y _ => (intOf y).toNat - (intOf x).toNat)
    case atStart => exact ⟨s0, r0, Nat.le_refl _, hsr0, Nat.le_refl _, rfl, rfl, H, Lib.hid (Or.inl rfl), Lib.hid (Or.inl rfl)⟩
    case round =>
      obtain ⟨s, r, hs, hsr, hrr, rfl, rfl, HR, HL, HG⟩ := hrel
      by_cases hlt : s < r
      · obtain ⟨hh, h1, h2, h3⟩ : ∃ hh : Nat, s ≤ hh ∧ hh < r ∧ ((s : Int) + (r : Int)) / 2 = (hh : Int) := ⟨(s + r) / 2, by omega, by omega, by omega⟩
        obtain ⟨pc, hp1, hp2, hp3, hp4⟩ := HPC.out hh (by omega) (by omega)
        have c1 := HR.out.cell (i := pc) (by omega)
        have c2 := HR.out.cell (i := hh) (by omega)
        have r1 := HI.out pc (by omega)
        have r2 := HI.out hh (by omega)
        have HCC : Hid (∀ q, Calls Try.prog 47 #[.int .i64 (f pc), .int .i64 (f hh), .pointer p] (wr.drewN q) fun e W' => e = .returned (.int .i64 (cmpI (key (f hh)) (key (f pc)))) ∧ ∃ m', W' = (wr.drewN q).drewN m') :=
          Lib.hid (fun q => HC.out _ (HR.out.drewN q).grow _ _ r1.1 r1.2 r2.1 r2.2)
        clear r1 r2
        by_cases hk : key (f hh) < key (f pc)
        · have e1 := cmp_yes hk
          have HN : Hid (hh = r0 ∨ R key (f (mid + m - hh - 1)) (f hh)) := Lib.hid (Or.inr (by rw [show mid + m - hh - 1 = pc from by omega]; exact R.of_lt hk))
          clear hk hp4
          generalize hx1 : f hh = x1 at *
          have HX1 := Lib.hid hx1
          clear hx1
          generalize f pc = x2 at *
          generalize cmpI (key x1) (key x2) = cc at *
          go_wp2_with fail
          go_quiet (first | (go_at_call 47; with_reducible exact Calls.quiet_of (HCC.out _)))
          go_wp2
          go_roundw
          case rel => exact ⟨s, hh, hs, h1, by omega, rfl, rfl, Lib.hid (HR.out.drewN _), HL, Lib.hid (by rw [HX1.out]; exact HN.out)⟩
          case measure => simp [intOf]; omega
        · have e1 := cmp_no hk
          have HN : Hid (hh + 1 = s0 ∨ R key (f (hh + 1 - 1)) (f (mid + m - (hh + 1)))) := Lib.hid (Or.inr (by rw [show mid + m - (hh + 1) = pc from by omega]; exact R.of_not hk (HP.out.x hh pc (by omega) (by omega) hp2 hp3)))
          clear hk hp4
          generalize f hh = x1 at *
          generalize f pc = x2 at *
          generalize cmpI (key x1) (key x2) = cc at *
          go_wp2_with fail
          go_quiet (first | (go_at_call 47; with_reducible exact Calls.quiet_of (HCC.out _)))
          go_wp2
          go_roundw
          case rel => exact ⟨hh + 1, r, by omega, by omega, hrr, by go_num, rfl, Lib.hid (HR.out.drewN _), HN, HG⟩
          case measure => simp [intOf]; omega
      · obtain rfl : s = r := by omega
        have hBeg := HB.out
        obtain ⟨e, he1, he2, he3, he4⟩ : ∃ e : Nat, (mid : Int) + (m : Int) - (s : Int) = (e : Int) ∧ s + e = mid + m ∧ m ≤ e ∧ e ≤ b := ⟨mid + m - s, by unfold Beg at hBeg; omega, by unfold Beg at hBeg; omega, by unfold Beg at hBeg; omega, by unfold Beg at hBeg; omega⟩
        have hsm : s ≤ m := by omega
        have has : a ≤ s := by omega
        have HMID : Hid (s + (e - m) = mid) := Lib.hid (by omega)
        have HA : Hid (∀ i j, a ≤ i → i < mid → mid ≤ j → j < b → R key (rot f s m e i) (rot f s m e j)) := Lib.hid (by
          have := HP.out.across (s := s) (e := e) has hsm he3 he4 (by
            rcases HL.out with hh | hh
            · unfold Beg at hBeg; omega
            · exact Or.inr (Or.inr (by rw [show e = mid + m - s from by omega]; exact hh))) (by
            rcases HG.out with hh | hh
            · unfold Beg at hBeg; omega
            · exact Or.inr (Or.inr (by rw [show e - 1 = mid + m - s - 1 from by omega]; exact hh)))
          rwa [HMID.out] at this)
        have HP1 : Hid (Pre key (rot f s m e) a s mid) := Lib.hid (by have := HP.out.first (s := s) (e := e) hsm he3 he4; rwa [HMID.out] at this)
        have HP2 : Hid (Pre key (rot f s m e) mid e b) := Lib.hid (by have := HP.out.second (s := s) (e := e) has he3; rwa [HMID.out] at this)
        have HIN : Hid (Into f (rot f s m e) a b) := Lib.hid (rot_into hsm he3 has he4)
        have HI2 : Hid (InR (rot f s m e) n) := Lib.hid (HIN.out.inR HI.out hb)
        have HID1 : Hid (s = m → rot f s m e = f) := Lib.hid (fun h => by subst h; exact rot_id1)
        have HID2 : Hid (e = m → rot f s m e = f) := Lib.hid (fun h => by subst h; exact rot_id2)
        clear hBeg HL HG HB HPC
        generalize hrot : rot f s m e = f1 at *
        have HROT := Lib.hid hrot
        clear hrot
        have hes : mid < e ↔ s < m := by omega
        have hsm2 : s < mid ↔ m < e := by omega
        clear he2
        by_cases c1 : s < m
        · by_cases c2 : m < e
          · go_wp2_with fail
            refine (calls_i (rotate _ s m e n g f w _ HR.out c1 c2 (by omega) hn) rfl rfl rfl).mono ?_
            rintro e1 w1 ⟨rfl, hr1⟩
            have HR1 : Hid (Rw w w1 g n f1) := Lib.hid (by rw [← HROT.out]; exact hr1)
            clear hr1 HR
            by_cases c3 : a < s
            · go_wp2_with fail
              refine (calls_i (IH.out a s mid f1 _ (by omega) HR1.out HI2.out HP1.out c3 (by omega) (by omega)) rfl rfl rfl).mono ?_
              rintro e2 w2 ⟨rfl, f2, hr2, hi2, hs2⟩
              have HR2 := Lib.hid hr2
              have HQ := Lib.hid (And.intro hi2 hs2)
              clear hr2 hi2 hs2 HR1
              have HP3 : Hid (Pre key f2 mid e b) := Lib.hid (HP2.out.congr (fun k h1 h2 => HQ.out.1.1 k (Or.inr h1)) (by omega) he4)
              by_cases c4 : e < b
              · go_wp2_with fail
                refine (IH.out mid e b f2 _ (by omega) HR2.out (HQ.out.1.inR HI2.out (by omega)) HP3.out (by omega) c4 hb).mono ?_
                rintro e3 w3 ⟨rfl, f3, hr3, hi3, hs3⟩
                have HR3 := Lib.hid hr3
                have HQ3 := Lib.hid (And.intro hi3 hs3)
                clear hr3 hi3 hs3
                go_wp2
                go_end0
                exact ⟨rfl, f3, HR3.out, fin_of HIN.out HA.out (by omega) (by omega) HQ.out.1 HQ.out.2 HQ3.out.1 HQ3.out.2⟩
              · have HS3 := Lib.hid (HP3.out.done (Or.inr (by omega)))
                go_wp2
                go_end0
                exact ⟨rfl, f2, HR2.out, fin_of HIN.out HA.out (by omega) (by omega) HQ.out.1 HQ.out.2 (Into.refl _ _ _) HS3.out⟩
            · obtain ⟨f2, hf2⟩ : ∃ f2, f1 = f2 := ⟨_, rfl⟩
              have HR2 : Hid (Rw w _ g n f2) := Lib.hid (by rw [← hf2]; exact HR1.out)
              have HQ : Hid (Into f1 f2 a mid ∧ Srtd key f2 a mid) := Lib.hid (by rw [← hf2]; exact ⟨Into.refl _ _ _, HP1.out.done (Or.inl (by omega))⟩)
              clear hf2 HR1
              have HP3 : Hid (Pre key f2 mid e b) := Lib.hid (HP2.out.congr (fun k h1 h2 => HQ.out.1.1 k (Or.inr h1)) (by omega) he4)
              by_cases c4 : e < b
              · go_wp2_with fail
                refine (IH.out mid e b f2 _ (by omega) HR2.out (HQ.out.1.inR HI2.out (by omega)) HP3.out (by omega) c4 hb).mono ?_
                rintro e3 w3 ⟨rfl, f3, hr3, hi3, hs3⟩
                have HR3 := Lib.hid hr3
                have HQ3 := Lib.hid (And.intro hi3 hs3)
                clear hr3 hi3 hs3
                go_wp2
                go_end0
                exact ⟨rfl, f3, HR3.out, fin_of HIN.out HA.out (by omega) (by omega) HQ.out.1 HQ.out.2 HQ3.out.1 HQ3.out.2⟩
              · have HS3 := Lib.hid (HP3.out.done (Or.inr (by omega)))
                go_wp2
                go_end0
                exact ⟨rfl, f2, HR2.out, fin_of HIN.out HA.out (by omega) (by omega) HQ.out.1 HQ.out.2 (Into.refl _ _ _) HS3.out⟩
          · have HR1 : Hid (Rw w wr g n f1) := Lib.hid (by rw [HID2.out (by omega)]; exact HR.out)
            clear HR
            by_cases c3 : a < s
            · obtain ⟨f2, hf2⟩ : ∃ f2, f1 = f2 := ⟨_, rfl⟩
              have HR2 : Hid (Rw w _ g n f2) := Lib.hid (by rw [← hf2]; exact HR1.out)
              have HQ : Hid (Into f1 f2 a mid ∧ Srtd key f2 a mid) := Lib.hid (by rw [← hf2]; exact ⟨Into.refl _ _ _, HP1.out.done (Or.inr (by omega))⟩)
              clear hf2 HR1
              have HP3 : Hid (Pre key f2 mid e b) := Lib.hid (HP2.out.congr (fun k h1 h2 => HQ.out.1.1 k (Or.inr h1)) (by omega) he4)
              by_cases c4 : e < b
              · go_wp2_with fail
                refine (IH.out mid e b f2 _ (by omega) HR2.out (HQ.out.1.inR HI2.out (by omega)) HP3.out (by omega) c4 hb).mono ?_
                rintro e3 w3 ⟨rfl, f3, hr3, hi3, hs3⟩
                have HR3 := Lib.hid hr3
                have HQ3 := Lib.hid (And.intro hi3 hs3)
                clear hr3 hi3 hs3
                go_wp2
                go_end0
                exact ⟨rfl, f3, HR3.out, fin_of HIN.out HA.out (by omega) (by omega) HQ.out.1 HQ.out.2 HQ3.out.1 HQ3.out.2⟩
              · have HS3 := Lib.hid (HP3.out.done (Or.inr (by omega)))
                go_wp2
                go_end0
                exact ⟨rfl, f2, HR2.out, fin_of HIN.out HA.out (by omega) (by omega) HQ.out.1 HQ.out.2 (Into.refl _ _ _) HS3.out⟩
            · obtain ⟨f2, hf2⟩ : ∃ f2, f1 = f2 := ⟨_, rfl⟩
              have HR2 : Hid (Rw w _ g n f2) := Lib.hid (by rw [← hf2]; exact HR1.out)
              have HQ : Hid (Into f1 f2 a mid ∧ Srtd key f2 a mid) := Lib.hid (by rw [← hf2]; exact ⟨Into.refl _ _ _, HP1.out.done (Or.inl (by omega))⟩)
              clear hf2 HR1
              have HP3 : Hid (Pre key f2 mid e b) := Lib.hid (HP2.out.congr (fun k h1 h2 => HQ.out.1.1 k (Or.inr h1)) (by omega) he4)
              by_cases c4 : e < b
              · go_wp2_with fail
                refine (IH.out mid e b f2 _ (by omega) HR2.out (HQ.out.1.inR HI2.out (by omega)) HP3.out (by omega) c4 hb).mono ?_
                rintro e3 w3 ⟨rfl, f3, hr3, hi3, hs3⟩
                have HR3 := Lib.hid hr3
                have HQ3 := Lib.hid (And.intro hi3 hs3)
                clear hr3 hi3 hs3
                go_wp2
                go_end0
                exact ⟨rfl, f3, HR3.out, fin_of HIN.out HA.out (by omega) (by omega) HQ.out.1 HQ.out.2 HQ3.out.1 HQ3.out.2⟩
              · have HS3 := Lib.hid (HP3.out.done (Or.inr (by omega)))
                go_wp2
                go_end0
                exact ⟨rfl, f2, HR2.out, fin_of HIN.out HA.out (by omega) (by omega) HQ.out.1 HQ.out.2 (Into.refl _ _ _) HS3.out⟩
        · have HR1 : Hid (Rw w wr g n f1) := Lib.hid (by rw [HID1.out (by omega)]; exact HR.out)
          clear HR
          by_cases c2 : m < e
          · by_cases c3 : a < s
            · go_wp2_with fail
              refine (calls_i (IH.out a s mid f1 _ (by omega) HR1.out HI2.out HP1.out c3 (by omega) (by omega)) rfl rfl rfl).mono ?_
              rintro e2 w2 ⟨rfl, f2, hr2, hi2, hs2⟩
              have HR2 := Lib.hid hr2
              have HQ := Lib.hid (And.intro hi2 hs2)
              clear hr2 hi2 hs2 HR1
              have HS3 : Hid (Srtd key f2 mid b) := Lib.hid ((HP2.out.congr (f' := f2) (fun k h1 h2 => HQ.out.1.1 k (Or.inr h1)) (by omega) he4).done (Or.inl (by omega)))
              go_wp2
              go_end0
              exact ⟨rfl, f2, HR2.out, fin_of HIN.out HA.out (by omega) (by omega) HQ.out.1 HQ.out.2 (Into.refl _ _ _) HS3.out⟩
            · obtain ⟨f2, hf2⟩ : ∃ f2, f1 = f2 := ⟨_, rfl⟩
              have HR2 : Hid (Rw w _ g n f2) := Lib.hid (by rw [← hf2]; exact HR1.out)
              have HQ : Hid (Into f1 f2 a mid ∧ Srtd key f2 a mid) := Lib.hid (by rw [← hf2]; exact ⟨Into.refl _ _ _, HP1.out.done (Or.inl (by omega))⟩)
              clear hf2 HR1
              have HS3 : Hid (Srtd key f2 mid b) := Lib.hid ((HP2.out.congr (f' := f2) (fun k h1 h2 => HQ.out.1.1 k (Or.inr h1)) (by omega) he4).done (Or.inl (by omega)))
              go_wp2
              go_end0
              exact ⟨rfl, f2, HR2.out, fin_of HIN.out HA.out (by omega) (by omega) HQ.out.1 HQ.out.2 (Into.refl _ _ _) HS3.out⟩
          · by_cases c3 : a < s
            · obtain ⟨f2, hf2⟩ : ∃ f2, f1 = f2 := ⟨_, rfl⟩
              have HR2 : Hid (Rw w _ g n f2) := Lib.hid (by rw [← hf2]; exact HR1.out)
              have HQ : Hid (Into f1 f2 a mid ∧ Srtd key f2 a mid) := Lib.hid (by rw [← hf2]; exact ⟨Into.refl _ _ _, HP1.out.done (Or.inr (by omega))⟩)
              clear hf2 HR1
              have HS3 : Hid (Srtd key f2 mid b) := Lib.hid ((HP2.out.congr (f' := f2) (fun k h1 h2 => HQ.out.1.1 k (Or.inr h1)) (by omega) he4).done (Or.inl (by omega)))
              go_wp2
              go_end0
              exact ⟨rfl, f2, HR2.out, fin_of HIN.out HA.out (by omega) (by omega) HQ.out.1 HQ.out.2 (Into.refl _ _ _) HS3.out⟩
            · obtain ⟨f2, hf2⟩ : ∃ f2, f1 = f2 := ⟨_, rfl⟩
              have HR2 : Hid (Rw w _ g n f2) := Lib.hid (by rw [← hf2]; exact HR1.out)
              have HQ : Hid (Into f1 f2 a mid ∧ Srtd key f2 a mid) := Lib.hid (by rw [← hf2]; exact ⟨Into.refl _ _ _, HP1.out.done (Or.inl (by omega))⟩)
              clear hf2 HR1
              have HS3 : Hid (Srtd key f2 mid b) := Lib.hid ((HP2.out.congr (f' := f2) (fun k h1 h2 => HQ.out.1.1 k (Or.inr h1)) (by omega) he4).done (Or.inl (by omega)))
              go_wp2
              go_end0
              exact ⟨rfl, f2, HR2.out, fin_of HIN.out HA.out (by omega) (by omega) HQ.out.1 HQ.out.2 (Into.refl _ _ _) HS3.out⟩
end Go.Proofs.Ytgdoahdkidlndaa.srt
