/-
  The model's reader in memory: l6Take, l6Word.
-/
import Derived.Test.YtghofgjlmfdnpaaRows
import Derived.Test.YtghofgjlmfdnpaaRecLib
import Derived.Test.YtghofgjlmfdnpaaCondRead
import Derived.Test.YtghofgjlmfdnpaaCondSpec
import Derived.Test.YtghofgjlmfdnpaaFind
import Derived.Test.YtghofgjlmfdnpaaHold
import Derived.WalkKit
import Derived.WalkSpells
import Derived.WalkSmall
import Derived.BigQuiet
import Derived.Deep.QuietTactic
import Derived.Deep.DeepCutAuto
import Derived.Lib.Hide
namespace Go.Proofs.Ytghofgjlmfdnpaa
open Go.RowKit

/-- The reader at block b, its depth, its list in memory of its own. -/
def RdS (b : Nat) (s : ByteArray) (r : RS) (dp : Int) (w : World) : Prop :=
  ∃ v, w.heap[b]? = some (.cells #[.string s, .int .i64 r.i, v, .bool r.bad, .int .i64 dp] 87 (0, 0)) ∧ w.ownsRow (b + 1) 43 3 v r.out.length (CN.cells r.out) ∧ b < w.heap.size

theorem RdS.below {b : Nat} {s : ByteArray} {r : RS} {dp : Int} {w w' : World} (h : RdS b s r dp w) (hb : Below w.heap.size w w') : RdS b s r dp w' := by
  obtain ⟨v, h1, h2, h3⟩ := h
  exact ⟨v, (hb.block b h3).trans h1, own_keepL h2 hb, Nat.lt_of_lt_of_le h3 hb.size⟩
theorem RdS.lt {b : Nat} {s : ByteArray} {r : RS} {dp : Int} {w : World} (h : RdS b s r dp w) : b < w.heap.size := h.choose_spec.2.2
/-- The reader, its list being v. -/
def RdV (b : Nat) (s : ByteArray) (r : RS) (dp : Int) (v : Value) (w : World) : Prop :=
  w.heap[b]? = some (.cells #[.string s, .int .i64 r.i, v, .bool r.bad, .int .i64 dp] 87 (0, 0)) ∧ w.ownsRow (b + 1) 43 3 v r.out.length (CN.cells r.out) ∧ b < w.heap.size
theorem RdV.S {b : Nat} {s : ByteArray} {r : RS} {dp : Int} {v : Value} {w : World} (h : RdV b s r dp v w) : RdS b s r dp w := ⟨v, h⟩
theorem RdV.below {b : Nat} {s : ByteArray} {r : RS} {dp : Int} {v : Value} {w w' : World} (h : RdV b s r dp v w) (hb : Below w.heap.size w w') : RdV b s r dp v w' :=
  ⟨(hb.block b h.2.2).trans h.1, own_keepL h.2.1 hb, Nat.lt_of_lt_of_le h.2.2 hb.size⟩
theorem RdV.other {b : Nat} {s : ByteArray} {r : RS} {dp : Int} {v : Value} {w : World} {g i : Nat} {x : Value} (h : RdV b s r dp v w) (hg : b ≠ g) (hv : v.ownBlock ≠ some g) : RdV b s r dp v (w.setCell ⟨g, i, none⟩ x) :=
  ⟨(heap_setCell_other w ⟨g, i, none⟩ b x hg).trans h.1, h.2.1.kept (row := some g) ⟨rfl, rfl, rfl, by simp, fun k _ hk => heap_setCell_other w ⟨g, i, none⟩ k x (fun e => hk (by simp [e]))⟩ (Or.inr (fun e => hv e)), by simpa using h.2.2⟩
/-- A cell of the reader stored. -/
theorem own_setL {w : World} {base e size n g j : Nat} {v : Value} {xs : List Value} (h : w.ownsRow base e size v n xs) (hg : g < base) (u : Value) : (w.setCell ⟨g, j, none⟩ u).ownsRow base e size v n xs :=
  h.kept (row := some g) ⟨rfl, rfl, rfl, by simp, fun k _ hk => heap_setCell_other w ⟨g, j, none⟩ k u (fun e => hk (by simp [e]))⟩ (by
    cases hv : v.ownBlock with
    | none => exact Or.inl rfl
    | some k => exact Or.inr (fun e => by have := (h.lt k hv).1; cases e; omega))

set_option maxRecDepth 100000 in
set_option maxHeartbeats 1000000 in
theorem spec_takeV (b : Nat) (s t : ByteArray) (r : RS) (dp : Int) (v : Value) (w : World) (h : RdV b s r dp v w) (hi : r.i ≤ s.size) (hs : s.size ≤ 1048576) (ht : t.size ≤ 100) :
    Calls Try.prog 77 #[.pointer (some ⟨b, 0, none⟩), .string t] w fun e w' => e = .returned (.bool (takes s t r.i)) ∧ RdV b s (if takes s t r.i = true then r.on t.size else r) dp v w' ∧ Below b w w' ∧ w.grownBy w' (some b) := by
  have H := Lib.hid h
  obtain ⟨HG, HO, hb⟩ := h
  clear HO
  obtain ⟨i, out, bad⟩ := r
  simp only at HG hi
  have g0 := cell_of_row _ _ 0 _ _ _ HG
  have g1 := cell_of_row _ _ 1 _ _ _ HG
  obtain ⟨y, hy⟩ : ∃ y, takes s t i = y := ⟨_, rfl⟩
  have HY := Lib.hid hy
  clear hy
  have HLE : Hid (y = true → i + t.size ≤ s.size) := Lib.hid (fun e => (takes_yes (HY.out.trans e)).1)
  simp only
  rw [HY.out]
  go_enter Try.func77, Try.ntmps77
  go_upto_region 1 with fail
  go_cut [37] (fun x wx => x = .bool y ∧ Hid (Below w.heap.size w wx))
  case first =>
    by_cases h1 : i + t.size ≤ s.size
    · have hd : decide ((i : Int) + (t.size : Int) ≤ (s.size : Int)) = true := decide_eq_true (by omega)
      by_cases h2 : s.extract i (i + t.size) = t
      · have b2 := str_eq h2
        have HYT : Hid (y = true) := Lib.hid (by rw [← HY.out]; exact decide_eq_true ⟨h1, h2⟩)
        go_quiet (fail)
        go_wp2_with fail
        go_meet
        exact ⟨by rw [HYT.out], Lib.hid (below_drewN (Below.refl _ _) _)⟩
      · have b2 := str_ne h2
        have HYT : Hid (y = false) := Lib.hid (by rw [← HY.out]; exact decide_eq_false (fun h => h2 h.2))
        go_quiet (fail)
        go_wp2_with fail
        go_meet
        exact ⟨by rw [HYT.out], Lib.hid (below_drewN (Below.refl _ _) _)⟩
    · have hd : decide ((i : Int) + (t.size : Int) ≤ (s.size : Int)) = false := decide_eq_false (by omega)
      have HYT : Hid (y = false) := Lib.hid (by rw [← HY.out]; exact decide_eq_false (fun h => h1 h.1))
      go_quiet (fail)
      go_wp2_with fail
      go_meet
      exact ⟨by rw [HYT.out], Lib.hid (below_drewN (Below.refl _ _) _)⟩
  case rest =>
    obtain ⟨rfl, HB⟩ := hcut
    have H1 := Lib.hid (H.out.below HB.out)
    obtain ⟨HG1, HO1, hb1⟩ := H1.out
    have HO := Lib.hid HO1
    clear HO1 g0 g1 HG
    have g1 := cell_of_row _ _ 1 _ _ _ HG1
    have f1 := frozen_of_row _ _ 1 _ _ HG1
    cases y with
    | false =>
      go_wp2_with fail
      go_ret
      exact ⟨rfl, H1.out, HB.out.mono (by omega), grown_of_belowL HB.out _⟩
    | true =>
      have hle := HLE.out rfl
      have HG2 := heap_setCell_same wc b 1 _ _ (.int .i64 ((i : Int) + (t.size : Int))) HG1
      have HO2 := Lib.hid (own_setL (g := b) (j := 1) HO.out (by omega) (.int .i64 ((i : Int) + (t.size : Int))))
      go_wp2_with fail
      go_ret
      exact ⟨rfl, ⟨by exact HG2, HO2.out, by simpa using hb1⟩, (HB.out.mono (show b ≤ w.heap.size by omega)).setCell (p := ⟨b, 1, none⟩) (Nat.le_refl _) _, grown_setL (grown_of_belowL HB.out _)⟩
theorem spec_takeG (b : Nat) (s t : ByteArray) (r : RS) (dp : Int) (w : World) (h : RdS b s r dp w) (hi : r.i ≤ s.size) (hs : s.size ≤ 1048576) (ht : t.size ≤ 100) :
    Calls Try.prog 77 #[.pointer (some ⟨b, 0, none⟩), .string t] w fun e w' => e = .returned (.bool (takes s t r.i)) ∧ RdS b s (if takes s t r.i = true then r.on t.size else r) dp w' ∧ Below b w w' ∧ w.grownBy w' (some b) := by
  obtain ⟨v, h⟩ := h
  exact (spec_takeV b s t r dp v w h hi hs ht).mono fun _ _ ⟨h1, h2, h3, h4⟩ => ⟨h1, h2.S, h3, h4⟩
theorem spec_take (b : Nat) (s t : ByteArray) (r : RS) (dp : Int) (w : World) (h : RdS b s r dp w) (hi : r.i ≤ s.size) (hs : s.size ≤ 1048576) (ht : t.size ≤ 100) :
    Calls Try.prog 77 #[.pointer (some ⟨b, 0, none⟩), .string t] w fun e w' => e = .returned (.bool (takes s t r.i)) ∧ RdS b s (if takes s t r.i = true then r.on t.size else r) dp w' ∧ Below b w w' :=
  (spec_takeG b s t r dp w h hi hs ht).mono fun _ _ ⟨h1, h2, h3, _⟩ => ⟨h1, h2, h3⟩

/-- Where the reader stands, read off the world. -/
def placeAt (b : Nat) (w : World) : Nat := match w.cell? ⟨b, 1, none⟩ with | some v => (intOf v).toNat | none => 0
theorem RdS.place {b : Nat} {s : ByteArray} {r : RS} {dp : Int} {w : World} (h : RdS b s r dp w) : placeAt b w = r.i := by
  obtain ⟨v, HG, _, _⟩ := h
  have g1 := cell_of_row _ _ 1 _ _ _ HG
  have g2 : w.cell? ⟨b, 1, none⟩ = some (.int .i64 r.i) := g1
  unfold placeAt
  rw [g2]
  simp [intOf]

set_option maxRecDepth 100000 in
set_option maxHeartbeats 2000000 in
theorem spec_wordV (b : Nat) (s : ByteArray) (i : Nat) (out : List CN) (bad : Bool) (dp : Int) (v : Value) (w : World) (h : RdV b s ⟨i, out, bad⟩ dp v w) (hi : i ≤ s.size) (hs : s.size ≤ 1048576) :
    Calls Try.prog 88 #[.pointer (some ⟨b, 0, none⟩)] w fun e w' => e = .returned (.string (s.extract i (wEnd s s.size i))) ∧ RdV b s ⟨wEnd s s.size i, out, bad⟩ dp v w' ∧ Below b w w' ∧ w.grownBy w' (some b) := by
  have H := Lib.hid h
  have hbw := h.2.2
  obtain ⟨HG, HO, _⟩ := h
  clear HO
  have g0 := cell_of_row _ _ 0 _ _ _ HG
  have g1 := cell_of_row _ _ 1 _ _ _ HG
  simp only at g1
  clear g0 g1
  go_enter Try.func88, Try.ntmps88
  have g1 := cell_of_row _ _ 1 _ _ _ HG
  simp only at g1
  go_wp2_with fail
  clear g1 HG
  go_loopw [] (fun wr => ∃ j : Nat, i ≤ j ∧ j ≤ s.size ∧ Hid (wEnd s s.size j = wEnd s s.size i) ∧ Hid (RdV b s ⟨j, out, bad⟩ dp v wr) ∧ Hid (Below b w wr) ∧ Hid (w.grownBy wr (some b))) (fun wr => s.size - placeAt b wr)
  case atStart => exact ⟨i, Nat.le_refl _, hi, Lib.hid rfl, H, Lib.hid (Below.refl _ _), Lib.hid (grown_of_belowL (Below.refl _ _) _)⟩
  case round =>
    obtain ⟨j, hij, hjs, HW, HR, HB, HGW⟩ := hrel
    obtain ⟨HG, HO, hbr⟩ := HR.out
    have HO := Lib.hid HO
    have HP := Lib.hid HR.out.S.place
    clear HO
    have g0 := cell_of_row _ _ 0 _ _ _ HG
    have g1 := cell_of_row _ _ 1 _ _ _ HG
    simp only at g1
    by_cases hlt : j < s.size
    · have hc : (s[j]'hlt).toNat < 256 := (s[j]'hlt).toNat_lt
      have HWN : Hid (isW (s[j]'hlt).toNat = true → wEnd s s.size (j + 1) = wEnd s s.size i) := Lib.hid (fun h => by rw [← wEnd_on hlt h]; exact HW.out)
      have HWF : Hid (isW (s[j]'hlt).toNat = false → wEnd s s.size i = j) := Lib.hid (fun h => by rw [← HW.out]; exact wEnd_off (fun _ => h))
      obtain ⟨y, hy⟩ : ∃ y, isW (s[j]'hlt).toNat = y := ⟨_, rfl⟩
      have HY := Lib.hid hy
      clear hy
      go_upto_region 2 with fail
      go_cut [77] (fun x wx => x = .bool y ∧ Hid (Below wr.heap.size wr wx))
      case first =>
        have d0 : decide ((j : Int) < (s.size : Int)) = true := decide_eq_true (by omega)
        rcases (show (65 ≤ (s[j]'hlt).toNat ∧ (s[j]'hlt).toNat ≤ 90) ∨ (48 ≤ (s[j]'hlt).toNat ∧ (s[j]'hlt).toNat ≤ 57) ∨ (s[j]'hlt).toNat = 45 ∨ ((s[j]'hlt).toNat < 48 ∧ (s[j]'hlt).toNat ≠ 45) ∨ (58 ≤ (s[j]'hlt).toNat ∧ (s[j]'hlt).toNat < 65) ∨ 90 < (s[j]'hlt).toNat by omega) with hw | hw | hw | hw | hw | hw
        · have d1 : decide (65 ≤ ((s[j]'hlt).toNat : Int)) = true := decide_eq_true (by omega)
          have d2 : decide (((s[j]'hlt).toNat : Int) ≤ 90) = true := decide_eq_true (by omega)
          have HYT : Hid (y = true) := Lib.hid (by rw [← HY.out]; exact decide_eq_true (by omega))
          go_quiet (fail)
          go_wp2_with fail
          go_meet
          exact ⟨by rw [HYT.out], Lib.hid (below_drewN (Below.refl _ _) _)⟩
        · have d1 : decide (65 ≤ ((s[j]'hlt).toNat : Int)) = false := decide_eq_false (by omega)
          have d3 : decide (48 ≤ ((s[j]'hlt).toNat : Int)) = true := decide_eq_true (by omega)
          have d4 : decide (((s[j]'hlt).toNat : Int) ≤ 57) = true := decide_eq_true (by omega)
          have HYT : Hid (y = true) := Lib.hid (by rw [← HY.out]; exact decide_eq_true (by omega))
          go_quiet (fail)
          go_wp2_with fail
          go_meet
          exact ⟨by rw [HYT.out], Lib.hid (below_drewN (Below.refl _ _) _)⟩
        · have d1 : decide (65 ≤ ((s[j]'hlt).toNat : Int)) = false := decide_eq_false (by omega)
          have d3 : decide (48 ≤ ((s[j]'hlt).toNat : Int)) = false := decide_eq_false (by omega)
          have d5 : (((s[j]'hlt).toNat : Int) == 45) = true := beq_iff_eq.2 (by omega)
          have HYT : Hid (y = true) := Lib.hid (by rw [← HY.out]; exact decide_eq_true (by omega))
          go_quiet (fail)
          go_wp2_with fail
          go_meet
          exact ⟨by rw [HYT.out], Lib.hid (below_drewN (Below.refl _ _) _)⟩
        · have d1 : decide (65 ≤ ((s[j]'hlt).toNat : Int)) = false := decide_eq_false (by omega)
          have d3 : decide (48 ≤ ((s[j]'hlt).toNat : Int)) = false := decide_eq_false (by omega)
          have d5 : (((s[j]'hlt).toNat : Int) == 45) = false := beq_eq_false_iff_ne.2 (by omega)
          have HYT : Hid (y = false) := Lib.hid (by rw [← HY.out]; exact decide_eq_false (by omega))
          go_quiet (fail)
          go_wp2_with fail
          go_meet
          exact ⟨by rw [HYT.out], Lib.hid (below_drewN (Below.refl _ _) _)⟩
        · have d1 : decide (65 ≤ ((s[j]'hlt).toNat : Int)) = false := decide_eq_false (by omega)
          have d3 : decide (48 ≤ ((s[j]'hlt).toNat : Int)) = true := decide_eq_true (by omega)
          have d4 : decide (((s[j]'hlt).toNat : Int) ≤ 57) = false := decide_eq_false (by omega)
          have d5 : (((s[j]'hlt).toNat : Int) == 45) = false := beq_eq_false_iff_ne.2 (by omega)
          have HYT : Hid (y = false) := Lib.hid (by rw [← HY.out]; exact decide_eq_false (by omega))
          go_quiet (fail)
          go_wp2_with fail
          go_meet
          exact ⟨by rw [HYT.out], Lib.hid (below_drewN (Below.refl _ _) _)⟩
        · have d1 : decide (65 ≤ ((s[j]'hlt).toNat : Int)) = true := decide_eq_true (by omega)
          have d2 : decide (((s[j]'hlt).toNat : Int) ≤ 90) = false := decide_eq_false (by omega)
          have d3 : decide (48 ≤ ((s[j]'hlt).toNat : Int)) = true := decide_eq_true (by omega)
          have d4 : decide (((s[j]'hlt).toNat : Int) ≤ 57) = false := decide_eq_false (by omega)
          have d5 : (((s[j]'hlt).toNat : Int) == 45) = false := beq_eq_false_iff_ne.2 (by omega)
          have HYT : Hid (y = false) := Lib.hid (by rw [← HY.out]; exact decide_eq_false (by omega))
          go_quiet (fail)
          go_wp2_with fail
          go_meet
          exact ⟨by rw [HYT.out], Lib.hid (below_drewN (Below.refl _ _) _)⟩
      case rest =>
        obtain ⟨rfl, HC⟩ := hcut
        have HR1 := Lib.hid (HR.out.below HC.out)
        have HB1 := Lib.hid (HB.out.trans (HC.out.mono (show b ≤ wr.heap.size by omega)))
        have HGW1 := Lib.hid (HGW.out.trans (grown_of_belowL HC.out (some b)))
        obtain ⟨HG1, HO1, hb1⟩ := HR1.out
        have HO1 := Lib.hid HO1
        clear g0 g1 HG HC
        have g0 := cell_of_row _ _ 0 _ _ _ HG1
        have g1 := cell_of_row _ _ 1 _ _ _ HG1
        have f1 := frozen_of_row _ _ 1 _ _ HG1
        simp only at g1
        cases y with
        | true =>
          have HN := Lib.hid (HWN.out HY.out)
          have HG2 := Lib.hid (heap_setCell_same wc b 1 _ _ (.int .i64 ((j : Int) + 1)) HG1)
          have HO2 := Lib.hid (own_setL (g := b) (j := 1) HO1.out (by omega) (.int .i64 ((j : Int) + 1)))
          have HR2 : Hid (RdV b s ⟨j + 1, out, bad⟩ dp v (wc.setCell ⟨b, 1, none⟩ (.int .i64 ((j : Int) + 1)))) := Lib.hid ⟨by have := HG2.out; simpa using this, HO2.out, by simpa using hb1⟩
          have HB2 := Lib.hid (HB1.out.setCell (p := ⟨b, 1, none⟩) (Nat.le_refl _) (.int .i64 ((j : Int) + 1)))
          have HP2 := Lib.hid HR2.out.S.place
          have HGW2 := Lib.hid (grown_setL (j := 1) (u := .int .i64 ((j : Int) + 1)) HGW1.out)
          go_wp2_with fail
          go_roundw
          case rel => exact ⟨j + 1, by omega, by omega, HN, HR2, HB2, HGW2⟩
          case measure => rw [HP2.out, HP.out]; simp only; omega
        | false =>
          have HE := Lib.hid (HWF.out HY.out)
          go_wp2_with fail
          go_quiet (fail)
          go_wp2_with fail
          go_ret
          exact ⟨by rw [HE.out]; rfl, by rw [HE.out]; exact HR1.out.below (below_drewN (Below.refl _ _) _), below_drewN HB1.out _, HGW1.out.trans (grown_of_belowL (below_drewN (Below.refl _ _) _) _)⟩
    · have hje : j = s.size := by omega
      have HE : Hid (wEnd s s.size i = j) := Lib.hid (by rw [← HW.out]; exact wEnd_off (fun hi => absurd hi hlt))
      have d0 : decide ((j : Int) < (s.size : Int)) = false := decide_eq_false (by omega)
      go_upto_region 2 with fail
      go_cut [77] (fun x wx => x = .bool false ∧ Hid (Below wr.heap.size wr wx))
      case first =>
        go_quiet (fail)
        go_wp2_with fail
        go_meet
        exact ⟨rfl, Lib.hid (below_drewN (Below.refl _ _) _)⟩
      case rest =>
        obtain ⟨rfl, HC⟩ := hcut
        have HR1 := Lib.hid (HR.out.below HC.out)
        have HB1 := Lib.hid (HB.out.trans (HC.out.mono (show b ≤ wr.heap.size by omega)))
        have HGW1 := Lib.hid (HGW.out.trans (grown_of_belowL HC.out (some b)))
        obtain ⟨HG1, HO1, hb1⟩ := HR1.out
        clear g0 g1 HG HC HO1 d0
        have g0 := cell_of_row _ _ 0 _ _ _ HG1
        have g1 := cell_of_row _ _ 1 _ _ _ HG1
        simp only at g1
        go_wp2_with fail
        go_quiet (fail)
        go_wp2_with fail
        go_ret
        exact ⟨by rw [HE.out, hje]; rfl, by rw [HE.out]; exact HR1.out.below (below_drewN (Below.refl _ _) _), below_drewN HB1.out _, HGW1.out.trans (grown_of_belowL (below_drewN (Below.refl _ _) _) _)⟩
theorem spec_wordG (b : Nat) (s : ByteArray) (i : Nat) (out : List CN) (bad : Bool) (dp : Int) (w : World) (h : RdS b s ⟨i, out, bad⟩ dp w) (hi : i ≤ s.size) (hs : s.size ≤ 1048576) :
    Calls Try.prog 88 #[.pointer (some ⟨b, 0, none⟩)] w fun e w' => e = .returned (.string (s.extract i (wEnd s s.size i))) ∧ RdS b s ⟨wEnd s s.size i, out, bad⟩ dp w' ∧ Below b w w' ∧ w.grownBy w' (some b) := by
  obtain ⟨v, h⟩ := h
  exact (spec_wordV b s i out bad dp v w h hi hs).mono fun _ _ ⟨h1, h2, h3, h4⟩ => ⟨h1, h2.S, h3, h4⟩
theorem spec_word (b : Nat) (s : ByteArray) (i : Nat) (out : List CN) (bad : Bool) (dp : Int) (w : World) (h : RdS b s ⟨i, out, bad⟩ dp w) (hi : i ≤ s.size) (hs : s.size ≤ 1048576) :
    Calls Try.prog 88 #[.pointer (some ⟨b, 0, none⟩)] w fun e w' => e = .returned (.string (s.extract i (wEnd s s.size i))) ∧ RdS b s ⟨wEnd s s.size i, out, bad⟩ dp w' ∧ Below b w w' :=
  (spec_wordG b s i out bad dp w h hi hs).mono fun _ _ ⟨h1, h2, h3, _⟩ => ⟨h1, h2, h3⟩
end Go.Proofs.Ytghofgjlmfdnpaa
