/-
  The library's stable sort, at forty elements or fewer.
-/
import Derived.Test.YtgdoahdkidlndaaRows
import Derived.Test.YtgdoahdkidlndaaInts
import Derived.Test.YtgdoahdkidlndaaIsShLib
import Derived.Test.YtgdoahdkidlndaaSortLib
import Derived.Test.YtgdoahdkidlndaaSortRow
import Derived.Test.YtgdoahdkidlndaaSortIns
import Derived.Test.YtgdoahdkidlndaaSortSymL
import Derived.Test.YtgdoahdkidlndaaSortSymR
import Derived.Test.YtgdoahdkidlndaaSortSym
import Derived.WalkKit
import Derived.WalkSpells
import Derived.WalkSmall
import Derived.Lib.Hide
namespace Go.Proofs.Ytgdoahdkidlndaa.srt
open Go.RowKit

theorem sym_all (key : Int → Int) (p : Option Addr) (n g : Nat) (w : World) (hc : CmpOk w g n key (.pointer p)) (hn : n ≤ 1000) (N : Nat) :
    ∀ a m b f W, b - a ≤ N → Rw w W g n f → InR f n → Pre key f a m b → a < m → m < b → b ≤ n → Merges key p n g w a m b f W := by
  induction N with
  | zero => intro a m b f W h1 _ _ _ h2 h3 _; omega
  | succ N ih =>
    intro a m b f W h1 h hr hp h2 h3 hb
    by_cases c1 : m = a + 1
    · subst c1
      exact calls_i (sym_l key p a b n g f w W h hc hr hp h3 hb hn) rfl (by omega) rfl
    · by_cases c2 : b = m + 1
      · subst c2
        exact calls_i (sym_r key p a m n g f w W h hc hr hp (by omega) hb hn) rfl rfl (by omega)
      · exact sym_go key p a m b n g f w W h hc hr hp (by omega) (by omega) hb hn (fun a' m' b' f' W' hl h' hr' hp' g1 g2 g3 => ih a' m' b' f' W' (by omega) h' hr' hp' g1 g2 g3)

set_option maxRecDepth 100000 in
theorem ins_none (fv : Value) (a b n g : Nat) (hab : b ≤ a) (ha : a ≤ 1000) (W : World) :
    Calls Try.prog 50 #[.slice (some ⟨g, 0, none⟩) n n, .int .i64 a, .int .i64 b, fv] W fun e W' => e = .returned (.tuple #[]) ∧ W' = W := by
  go_enter Try.func50, Try.ntmps50
  go_wp2
  refine wp_loop_rounds 1 ?_
  rw [rounds_succ]
  go_wp2
  go_end0
  exact ⟨rfl, rfl⟩

theorem calls_j {f : FuncId} {P : Program} {d c : Value} {x y x' y' : Int} {W : World} {Q : Ending → World → Prop} (h : Calls P f #[d, .int .i64 x, .int .i64 y, c] W Q) (hx : x' = x) (hy : y' = y) :
    Calls P f #[d, .int .i64 x', .int .i64 y', c] W Q := by
  subst hx; subst hy; exact h

theorem pre_of {key : Int → Int} {f f1 f2 : Nat → Int} {m n : Nat} (i1 : Into f f1 0 m) (s1 : Srtd key f1 0 m) (i2 : Into f1 f2 m n) (s2 : Srtd key f2 m n) (hasc : ∀ i j, i < j → j < n → f i < f j) : Pre key f2 0 m n := by
  refine ⟨fun i j h1 h2 h3 => ?_, s2, fun i j h1 h2 h3 h4 => ?_⟩
  · rw [i2.1 i (Or.inl (by omega)), i2.1 j (Or.inl h3)]; exact s1 i j h1 h2 h3
  · obtain ⟨i', _, h5, e1⟩ := i1.2 i h1 h2
    obtain ⟨j', h6, h7, e2⟩ := i2.2 j h3 h4
    rw [i2.1 i (Or.inl h2), e1, e2, i1.1 j' (Or.inr h6)]
    exact hasc i' j' (by omega) h7

/-- What the sort leaves. -/
def Sorted (key : Int → Int) (n g : Nat) (w : World) (f : Nat → Int) (e : Ending) (W' : World) : Prop := e = .returned (.tuple #[]) ∧ ∃ f', Rw w W' g n f' ∧ Into f f' 0 n ∧ Srtd key f' 0 n

set_option maxRecDepth 100000 in
set_option maxHeartbeats 4000000 in
theorem stable (key : Int → Int) (p : Option Addr) (n g : Nat) (f : Nat → Int) (w W : World) (h : Rw w W g n f) (hc : CmpOk w g n key (.pointer p)) (hr : InR f n) (hasc : ∀ i j, i < j → j < n → f i < f j) (h0 : 0 < n) (hn : n ≤ 40) :
    Calls Try.prog 49 #[.slice (some ⟨g, 0, none⟩) n n, .int .i64 n, cmpV (.pointer p)] W (Sorted key n g w f) := by
  have H := Lib.hid h
  have HI := Lib.hid hr
  have HA := Lib.hid hasc
  have HS := Lib.hid (sym_all key p n g w hc (by omega) 1000)
  have HC := Lib.hid hc
  clear h hc hr hasc
  by_cases c1 : n < 20
  · go_enter Try.func49, Try.ntmps49
    go_wp2
    refine wp_loop_rounds 1 ?_
    rw [rounds_succ]
    go_wp2_with fail
    refine (calls_j (ins_sort key p 0 n n g f w _ H.out HC.out HI.out (fun i j _ h2 h3 => HA.out i j h2 h3) h0 (Nat.le_refl _) (by omega)) rfl rfl).mono ?_
    rintro e w1 ⟨rfl, f1, hr1, hi1, hs1⟩
    have HR1 := Lib.hid hr1
    have HQ := Lib.hid (And.intro hi1 hs1)
    clear hr1 hi1 hs1
    go_wp2
    refine wp_loop_rounds 1 ?_
    rw [rounds_succ]
    go_wp2
    go_end0
    exact ⟨rfl, f1, HR1.out, HQ.out.1, HQ.out.2⟩
  by_cases c2 : n = 20
  · subst c2
    go_enter Try.func49, Try.ntmps49
    go_wp2
    refine wp_loop_rounds 2 ?_
    rw [rounds_succ]
    go_wp2_with fail
    refine (calls_j (ins_sort key p 0 20 20 g f w _ H.out HC.out HI.out (fun i j _ h2 h3 => HA.out i j h2 h3) h0 (Nat.le_refl _) (by omega)) rfl rfl).mono ?_
    rintro e w1 ⟨rfl, f1, hr1, hi1, hs1⟩
    have HR1 := Lib.hid hr1
    have HQ := Lib.hid (And.intro hi1 hs1)
    clear hr1 hi1 hs1
    go_wp2
    rw [rounds_succ]
    go_wp2_with fail
    refine (calls_j (ins_none _ 20 20 20 g (Nat.le_refl _) (by omega) _) rfl rfl).mono ?_
    rintro e w2 ⟨rfl, rfl⟩
    go_wp2
    refine wp_loop_rounds 1 ?_
    rw [rounds_succ]
    go_wp2
    go_end0
    exact ⟨rfl, f1, HR1.out, HQ.out.1, HQ.out.2⟩
  by_cases c3 : n < 40
  · go_enter Try.func49, Try.ntmps49
    go_wp2
    refine wp_loop_rounds 2 ?_
    rw [rounds_succ]
    go_wp2_with fail
    refine (calls_j (ins_sort key p 0 20 n g f w _ H.out HC.out HI.out (fun i j _ h2 h3 => HA.out i j h2 (by omega)) (by omega) (by omega) (by omega)) rfl rfl).mono ?_
    rintro e w1 ⟨rfl, f1, hr1, hi1, hs1⟩
    have HR1 := Lib.hid hr1
    have HQ := Lib.hid (And.intro hi1 hs1)
    clear hr1 hi1 hs1
    go_wp2
    rw [rounds_succ]
    go_wp2_with fail
    refine (calls_j (ins_sort key p 20 n n g f1 w _ HR1.out HC.out (HQ.out.1.inR HI.out (by omega)) (fun i j h1 h2 h3 => by rw [HQ.out.1.1 i (Or.inr h1), HQ.out.1.1 j (Or.inr (by omega))]; exact HA.out i j h2 h3) (by omega) (Nat.le_refl _) (by omega)) rfl rfl).mono ?_
    rintro e w2 ⟨rfl, f2, hr2, hi2, hs2⟩
    have HR2 := Lib.hid hr2
    have HQ2 := Lib.hid (And.intro hi2 hs2)
    clear hr2 hi2 hs2
    have HP := Lib.hid (pre_of HQ.out.1 HQ.out.2 HQ2.out.1 HQ2.out.2 HA.out)
    have HIN : Hid (Into f f2 0 n) := Lib.hid ((HQ.out.1.widen (Nat.le_refl _) (by omega)).trans (HQ2.out.1.widen (by omega) (Nat.le_refl _)))
    go_wp2
    refine wp_loop_rounds 2 ?_
    rw [rounds_succ]
    go_wp2
    refine wp_loop_rounds 1 ?_
    rw [rounds_succ]
    go_wp2_with fail
    refine (calls_i (HS.out 0 20 n f2 _ (by omega) HR2.out (HIN.out.inR HI.out (Nat.le_refl _)) HP.out (by omega) (by omega) (Nat.le_refl _)) rfl rfl rfl).mono ?_
    rintro e w3 ⟨rfl, f3, hr3, hi3, hs3⟩
    have HR3 := Lib.hid hr3
    have HQ3 := Lib.hid (And.intro hi3 hs3)
    clear hr3 hi3 hs3
    go_wp2
    rw [rounds_succ]
    go_wp2
    go_end0
    exact ⟨rfl, f3, HR3.out, HIN.out.trans HQ3.out.1, HQ3.out.2⟩
  · obtain rfl : n = 40 := by omega
    go_enter Try.func49, Try.ntmps49
    go_wp2
    refine wp_loop_rounds 3 ?_
    rw [rounds_succ]
    go_wp2_with fail
    refine (calls_j (ins_sort key p 0 20 40 g f w _ H.out HC.out HI.out (fun i j _ h2 h3 => HA.out i j h2 (by omega)) (by omega) (by omega) (by omega)) rfl rfl).mono ?_
    rintro e w1 ⟨rfl, f1, hr1, hi1, hs1⟩
    have HR1 := Lib.hid hr1
    have HQ := Lib.hid (And.intro hi1 hs1)
    clear hr1 hi1 hs1
    go_wp2
    rw [rounds_succ]
    go_wp2_with fail
    refine (calls_j (ins_sort key p 20 40 40 g f1 w _ HR1.out HC.out (HQ.out.1.inR HI.out (by omega)) (fun i j h1 h2 h3 => by rw [HQ.out.1.1 i (Or.inr h1), HQ.out.1.1 j (Or.inr (by omega))]; exact HA.out i j h2 h3) (by omega) (Nat.le_refl _) (by omega)) rfl rfl).mono ?_
    rintro e w2 ⟨rfl, f2, hr2, hi2, hs2⟩
    have HR2 := Lib.hid hr2
    have HQ2 := Lib.hid (And.intro hi2 hs2)
    clear hr2 hi2 hs2
    have HP := Lib.hid (pre_of HQ.out.1 HQ.out.2 HQ2.out.1 HQ2.out.2 HA.out)
    have HIN : Hid (Into f f2 0 40) := Lib.hid ((HQ.out.1.widen (Nat.le_refl _) (by omega)).trans (HQ2.out.1.widen (by omega) (Nat.le_refl _)))
    go_wp2
    rw [rounds_succ]
    go_wp2_with fail
    refine (calls_j (ins_none _ 40 40 40 g (Nat.le_refl _) (by omega) _) rfl rfl).mono ?_
    rintro e w2 ⟨rfl, rfl⟩
    go_wp2
    refine wp_loop_rounds 2 ?_
    rw [rounds_succ]
    go_wp2
    refine wp_loop_rounds 2 ?_
    rw [rounds_succ]
    go_wp2_with fail
    refine (calls_i (HS.out 0 20 40 f2 _ (by omega) HR2.out (HIN.out.inR HI.out (Nat.le_refl _)) HP.out (by omega) (by omega) (Nat.le_refl _)) rfl rfl rfl).mono ?_
    rintro e w3 ⟨rfl, f3, hr3, hi3, hs3⟩
    have HR3 := Lib.hid hr3
    have HQ3 := Lib.hid (And.intro hi3 hs3)
    clear hr3 hi3 hs3
    go_wp2
    rw [rounds_succ]
    go_wp2
    rw [rounds_succ]
    go_wp2
    go_end0
    exact ⟨rfl, f3, HR3.out, HIN.out.trans HQ3.out.1, HQ3.out.2⟩

set_option maxRecDepth 100000 in
theorem sort_stable (key : Int → Int) (p : Option Addr) (n g : Nat) (f : Nat → Int) (w W : World) (h : Rw w W g n f) (hc : CmpOk w g n key (.pointer p)) (hr : InR f n) (hasc : ∀ i j, i < j → j < n → f i < f j) (h0 : 0 < n) (hn : n ≤ 40) :
    Calls Try.prog 46 #[.slice (some ⟨g, 0, none⟩) n n, cmpV (.pointer p)] W (Sorted key n g w f) := by
  have H := Lib.hid (stable key p n g f w W h hc hr hasc h0 hn)
  clear h hc hr hasc
  go_enter Try.func46, Try.ntmps46
  go_wp2_with fail
  refine H.out.mono ?_
  rintro e w1 ⟨rfl, hs⟩
  go_wp2
  go_end0
  exact ⟨rfl, hs⟩
end Go.Proofs.Ytgdoahdkidlndaa.srt
