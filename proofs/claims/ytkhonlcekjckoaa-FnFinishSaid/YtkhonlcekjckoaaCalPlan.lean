/-
  The program's plannedHours: the hours of a day by a binary search among the exceptions.
-/
import Derived.Test.YtkhonlcekjckoaaRows
import Derived.Test.YtkhonlcekjckoaaExcs
import Derived.Test.YtkhonlcekjckoaaCalLib
import Derived.Test.YtkhonlcekjckoaaCalHours
import Derived.Test.YtkhonlcekjckoaaHold
import Derived.WalkKit
import Derived.WalkSpells
import Derived.WalkSmall
import Derived.BigQuiet
import Derived.Deep.QuietTactic
import Derived.IntWalk
import Derived.Lib.Hide
namespace Go.Proofs.Ytkhonlcekjckoaa
open Go.RowKit

/-- What cmp.Compare answers. -/
def cmpV (x y : Int) : Int := if x < y then -1 else if y < x then 1 else 0
theorem cmpV_lt {x y : Int} (h : x < y) : cmpV x y = -1 := by unfold cmpV; rw [if_pos h]
theorem cmpV_gt {x y : Int} (h : y < x) : cmpV x y = 1 := by unfold cmpV; rw [if_neg (by omega), if_pos h]
theorem cmpV_eq {x y : Int} (h1 : ¬ x < y) (h2 : ¬ y < x) : cmpV x y = 0 := by unfold cmpV; rw [if_neg h1, if_neg h2]

theorem isNaN_int (x : Int) (w : World) : Calls Try.prog 63 #[.int .i64 x] w fun e w' => e = .returned (.bool false) ∧ w = w' := by
  have hx : (x != x) = false := by simp
  go_enter Try.func63, Try.ntmps63
  go_wp2
  go_ret
  exact ⟨rfl, rfl⟩
theorem ret_i {a b : Int} (h : a = b) : Ending.returned (.int .i64 a) = .returned (.int .i64 b) := by rw [h]
theorem cmp_int (x y : Int) (w : World) : Calls Try.prog 59 #[.int .i64 x, .int .i64 y] w fun e w' => e = .returned (.int .i64 (cmpV x y)) ∧ w = w' := by
  rcases Int.lt_trichotomy x y with h | h | h
  · have HV := Lib.hid (cmpV_lt h)
    go_enter Try.func59, Try.ntmps59
    go_wp2_with fail
    refine (isNaN_int x _).mono ?_
    rintro e w1 ⟨rfl, rfl⟩
    go_wp2_with fail
    refine (isNaN_int y _).mono ?_
    rintro e w1 ⟨rfl, rfl⟩
    go_wp2_with fail
    go_ret
    exact ⟨ret_i HV.out.symm, rfl⟩
  · have h1 : ¬ x < y := by omega
    have h2 : ¬ y < x := by omega
    have HV := Lib.hid (cmpV_eq h1 h2)
    clear h
    go_enter Try.func59, Try.ntmps59
    go_wp2_with fail
    refine (isNaN_int x _).mono ?_
    rintro e w1 ⟨rfl, rfl⟩
    go_wp2_with fail
    refine (isNaN_int y _).mono ?_
    rintro e w1 ⟨rfl, rfl⟩
    go_wp2_with fail
    go_ret
    exact ⟨ret_i HV.out.symm, rfl⟩
  · have h1 : ¬ x < y := by omega
    have HV := Lib.hid (cmpV_gt h)
    go_enter Try.func59, Try.ntmps59
    go_wp2_with fail
    refine (isNaN_int x _).mono ?_
    rintro e w1 ⟨rfl, rfl⟩
    go_wp2_with fail
    refine (isNaN_int y _).mono ?_
    rintro e w1 ⟨rfl, rfl⟩
    go_wp2_with fail
    go_ret
    exact ⟨ret_i HV.out.symm, rfl⟩

set_option maxRecDepth 100000 in
theorem cmp_exc (x : Int × Int) (d : Int) (w : World) : Calls Try.prog 58 #[.agg #[.int .i64 x.1, .int .i64 x.2], .int .i64 d] w (NumRes (cmpV x.1 d) w) := by
  have HB : Below w.heap.size w (w.alloc (.cells #[.int .i64 x.1, .int .i64 x.2] 56)) := (Below.refl _ _).alloc (Nat.le_refl _) _
  have HR := heap_alloc_new w (.cells #[.int .i64 x.1, .int .i64 x.2] 56)
  have c0 := cell_of_row _ _ 0 _ _ _ HR
  go_enter Try.func58, Try.ntmps58
  go_wp2_with fail
  refine (cmp_int x.1 d _).mono ?_
  rintro e w1 ⟨rfl, rfl⟩
  go_wp2_with fail
  go_ret
  exact ⟨rfl, HB⟩

/-- The day of an exception. -/
def exD (es : List (Int × Int)) (j : Nat) : Int := (es.getD j (0, 0)).1
theorem exD_get {es : List (Int × Int)} {k : Nat} (h : k < es.length) : exD es k = (es[k]'h).1 := by unfold exD; rw [getE h]
theorem exD_mono {ws : List Int} {es : List (Int × Int)} (h : IsCal ws es) (a b : Nat) (hab : a < b) (hb : b < es.length) : exD es a < exD es b := by
  induction b with
  | zero => omega
  | succ n ih =>
    have hs : exD es n < exD es (n + 1) := by have := (h.2.2.2 (n + 1) hb).2.2 (by omega); rwa [Nat.add_sub_cancel] at this
    by_cases e : a = n
    · subst e; exact hs
    · have := ih (by omega) (by omega); omega
def LoTo (es : List (Int × Int)) (d : Int) (lo : Nat) : Prop := ∀ j, j < lo → exD es j < d
def HiTo (es : List (Int × Int)) (d : Int) (hi : Nat) : Prop := ∀ j, hi ≤ j → j < es.length → d ≤ exD es j
theorem loTo_mid {ws : List Int} {es : List (Int × Int)} {d : Int} (h : IsCal ws es) {m : Nat} (hm : m < es.length) (hd : exD es m < d) : LoTo es d (m + 1) := by
  intro j hj
  by_cases e : j = m
  · subst e; exact hd
  · have := exD_mono h j m (by omega) hm; omega
theorem hiTo_mid {ws : List Int} {es : List (Int × Int)} {d : Int} (h : IsCal ws es) {m : Nat} (hd : d ≤ exD es m) : HiTo es d m := by
  intro j hj hl
  by_cases e : j = m
  · subst e; exact hd
  · have := exD_mono h m j (by omega) hl; omega
/-- What a binary search answers. -/
def Found (es : List (Int × Int)) (d : Int) (i : Nat) (y : Bool) : Prop :=
  (y = true ∧ i < es.length ∧ exD es i = d ∧ ∀ j, j < i → exD es j ≠ d) ∨ (y = false ∧ ∀ j, j < es.length → exD es j ≠ d)
theorem found_yes {es : List (Int × Int)} {d : Int} {i : Nat} (hi : i < es.length) (h : exD es i = d) (hl : LoTo es d i) : Found es d i true :=
  Or.inl ⟨rfl, hi, h, fun j hj => by have := hl j hj; omega⟩
theorem found_no {ws : List Int} {es : List (Int × Int)} {d : Int} {i : Nat} (hc : IsCal ws es) (hl : LoTo es d i) (hh : HiTo es d i) (h : i < es.length → exD es i ≠ d) : Found es d i false := by
  refine Or.inr ⟨rfl, fun j hj => ?_⟩
  by_cases h1 : j < i
  · have := hl j h1; omega
  · have h2 := hh j (by omega) hj
    by_cases e : j = i
    · subst e; exact h hj
    · have := exD_mono hc i j (by omega) hj
      have := hh i (Nat.le_refl _) (by omega)
      omega
theorem found_hOf {ws : List Int} {es : List (Int × Int)} {d i : Nat} (hi : i < es.length) (h : exD es i = (d : Int)) (hb : ∀ j, j < i → exD es j ≠ (d : Int)) : hOf ws es d = (es[i]'hi).2 :=
  hOf_at hi (by rw [← exD_get hi]; exact h) (fun j hj => by rw [← exD_get]; exact hb j hj)
theorem found_hOf_no {ws : List Int} {es : List (Int × Int)} {d : Nat} (hb : ∀ j, j < es.length → exD es j ≠ (d : Int)) : hOf ws es d = ws.getD (d % 7) 0 :=
  hOf_none (fun j hj => by rw [← exD_get hj]; exact hb j hj)

set_option maxRecDepth 100000 in
set_option maxHeartbeats 2000000 in
theorem search_exc (v : Value) (ws : List Int) (es : List (Int × Int)) (d : Int) (w : World) (h : Excs w v es) (hv : IsCal ws es) :
    Calls Try.prog 57 #[v, .int .i64 d, .func (.func 58) #[] #[]] w fun e w' =>
      ∃ (i : Nat) (y : Bool), e = .returned (.tuple #[.int .i64 (i : Int), .bool y]) ∧ Found es d i y ∧ Below w.heap.size w w' := by
  have HE := Lib.hid h
  have HV := Lib.hid hv
  have h20 := hv.2.1
  obtain ⟨a', c', rfl⟩ := h.slice
  clear h hv
  go_enter Try.func57, Try.ntmps57
  go_wp2_with fail
  go_loopw [9, 10] (fun s9 s10 wr => ∃ lo hi : Nat, s9 = .int .i64 lo ∧ s10 = .int .i64 hi ∧ lo ≤ hi ∧ hi ≤ es.length ∧ Hid (LoTo es d lo) ∧ Hid (HiTo es d hi) ∧ Hid (Below w.heap.size w wr)) (fun s9 s10 _ => (intOf s10 - intOf s9).toNat)
  case atStart => exact ⟨0, es.length, rfl, rfl, Nat.zero_le _, Nat.le_refl _, Lib.hid (fun j h => by omega), Lib.hid (fun j h1 h2 => by omega), Lib.hid (Below.refl _ _)⟩
  case round =>
    obtain ⟨lo, hi, rfl, rfl, hlh, hin, HL, HH, HB⟩ := hrel
    by_cases hlt : lo < hi
    · have hml : (lo + hi) / 2 < es.length := by omega
      have hm0 : lo ≤ (lo + hi) / 2 := by omega
      have hm1 : (lo + hi) / 2 < hi := by omega
      have hm2 : ((lo : Int) + (hi : Int)) / 2 = (((lo + hi) / 2 : Nat) : Int) := by omega
      have hms : lo + hi ≤ 40 := by omega
      obtain ⟨b2, o2, c2, hv2, hc2, hcell2⟩ := HE.out.some (by omega)
      simp only [Value.slice.injEq] at hv2
      obtain ⟨rfl, _, rfl⟩ := hv2
      have e1 := (hcell2.below HB.out).fst _ hml
      have e2 := (hcell2.below HB.out).snd _ hml
      have HG := Lib.hid (exD_get hml)
      have HLM := Lib.hid (fun q => loTo_mid (d := d) HV.out hml q)
      have HHM := Lib.hid (fun q => hiTo_mid (d := d) (m := (lo + hi) / 2) HV.out q)
      generalize hmq : (lo + hi) / 2 = m at *
      generalize es[m]'hml = x at *
      by_cases hx : x.1 < d
      · have hcv : decide (cmpV x.1 d < 0) = true := by rw [cmpV_lt hx]; rfl
        have HL2 := Lib.hid (HLM.out (by rw [HG.out]; exact hx))
        go_wp2_with fail
        refine (cmp_exc x d _).mono ?_
        rintro e w2 ⟨rfl, hb2⟩
        go_wp2_with fail
        go_roundw
        case rel => exact ⟨m + 1, hi, by go_num, rfl, by omega, hin, HL2, HH, Lib.hid (HB.out.trans (hb2.mono HB.out.size))⟩
        case measure => simp [intOf]; omega
      · have hcv : decide (cmpV x.1 d < 0) = false := decide_eq_false (by unfold cmpV; rw [if_neg hx]; split <;> omega)
        have HH2 := Lib.hid (HHM.out (by rw [HG.out]; omega))
        go_wp2_with fail
        refine (cmp_exc x d _).mono ?_
        rintro e w2 ⟨rfl, hb2⟩
        go_wp2_with fail
        go_roundw
        case rel => exact ⟨lo, m, rfl, by go_num, hm0, by omega, HL, HH2, Lib.hid (HB.out.trans (hb2.mono HB.out.size))⟩
        case measure => simp [intOf]; omega
    · obtain rfl : hi = lo := by omega
      by_cases hl : hi < es.length
      · obtain ⟨b2, o2, c2, hv2, hc2, hcell2⟩ := HE.out.some (by omega)
        simp only [Value.slice.injEq] at hv2
        obtain ⟨rfl, _, rfl⟩ := hv2
        have e1 := (hcell2.below HB.out).fst _ hl
        have e2 := (hcell2.below HB.out).snd _ hl
        have HG := Lib.hid (exD_get hl)
        generalize es[hi]'hl = x at *
        by_cases hx : x.1 = d
        · have hcv : (cmpV x.1 d == 0) = true := by rw [hx, cmpV_eq (by omega) (by omega)]; rfl
          have HF := Lib.hid (found_yes (d := d) hl (HG.out.trans hx) HL.out)
          clear hx
          go_wp2_with fail
          refine (cmp_exc x d _).mono ?_
          rintro e w2 ⟨rfl, hb2⟩
          go_wp2_with fail
          go_ret2
          exact ⟨hi, true, rfl, HF.out, HB.out.trans (hb2.mono HB.out.size)⟩
        · have hcv : (cmpV x.1 d == 0) = false := beq_eq_false_iff_ne.2 (by unfold cmpV; split <;> (try split) <;> omega)
          have HF := Lib.hid (found_no HV.out HL.out HH.out (fun _ => by rw [HG.out]; exact hx))
          clear hx
          go_wp2_with fail
          refine (cmp_exc x d _).mono ?_
          rintro e w2 ⟨rfl, hb2⟩
          go_wp2_with fail
          go_ret2
          exact ⟨hi, false, rfl, HF.out, HB.out.trans (hb2.mono HB.out.size)⟩
      · have HF := Lib.hid (found_no HV.out HL.out HH.out (fun h => absurd h hl))
        go_wp2_with fail
        go_ret2
        exact ⟨hi, false, rfl, HF.out, HB.out⟩

set_option maxRecDepth 100000 in
set_option maxHeartbeats 1000000 in
theorem impl_planned (v : Value) (ws : List Int) (es : List (Int × Int)) (d : Nat) (w : World) (h : Cal w v ws es) (hv : IsCal ws es) (hd : d ≤ 1000) :
    Calls Try.prog 44 #[v, .int .i64 (d : Int)] w (NumRes (hOf ws es d) w) := by
  obtain ⟨vw, vx, rfl, hw, hx⟩ := h
  have H7 := Lib.hid hv.1
  have h20 := hv.2.1
  have HV := Lib.hid hv
  obtain ⟨b, o, c, rfl, hc, hcell⟩ := hw.cells (by have := H7.out; omega)
  have HB : Below w.heap.size w (w.alloc (.cells #[.slice (some ⟨b, o, none⟩) ws.length c, vx] 27)) := (Below.refl _ _).alloc (Nat.le_refl _) _
  have HR := heap_alloc_new w (.cells #[.slice (some ⟨b, o, none⟩) ws.length c, vx] 27)
  have HW := Lib.hid (hcell.below HB)
  have HE := Lib.hid (hx.below HB)
  obtain ⟨a', c', rfl⟩ := hx.slice
  clear hw hcell hx hv
  go_enter Try.func44, Try.ntmps44
  go_wp2_with fail
  generalize w.alloc (.cells #[.slice (some ⟨b, o, none⟩) ws.length c, .slice a' es.length c'] 27) = w1 at *
  have c0 := cell_of_row _ _ 0 _ _ _ HR
  have c1 := cell_of_row _ _ 1 _ _ _ HR
  go_wp2_with fail
  refine (search_exc _ ws es d _ HE.out HV.out).mono ?_
  rintro e w2 ⟨i, y, rfl, hf, hb⟩
  have HR2 := blk_below HR hb
  have HBr := Lib.hid hb
  clear c0 c1
  have c0 := cell_of_row _ _ 0 _ _ _ HR2
  have c1 := cell_of_row _ _ 1 _ _ _ HR2
  rcases hf with ⟨rfl, hi, h1, h2⟩ | ⟨rfl, h2⟩
  · have HH := Lib.hid (found_hOf (ws := ws) hi h1 h2)
    obtain ⟨b2, o2, c2, hv2, hc2, hcell2⟩ := HE.out.some (by omega)
    simp only [Value.slice.injEq] at hv2
    obtain ⟨rfl, _, rfl⟩ := hv2
    have e2 := (hcell2.below hb).snd _ hi
    clear h1 h2 hb
    generalize es[i]'hi = x at *
    go_wp2_with fail
    go_ret
    exact ⟨by rw [HH.out]; rfl, HB.trans (HBr.out.mono HB.size)⟩
  · have HH := Lib.hid (found_hOf_no (ws := ws) (es := es) h2)
    have hd7 : d % 7 < ws.length := by have := H7.out; have := Nat.mod_lt d (show 0 < 7 by omega); omega
    have e3 := (HW.out.below hb).at (d % 7) hd7
    have HG : Hid (ws.getD (d % 7) 0 = ws[d % 7]'hd7) := Lib.hid (by simp [List.getD, hd7])
    have hm7 : (d : Int) % 7 = ((d % 7 : Nat) : Int) := by omega
    clear h2 hb
    generalize hq : d % 7 = q at *
    generalize ws[q]'hd7 = x at *
    go_wp2_with fail
    go_ret
    exact ⟨by rw [HH.out, HG.out]; rfl, HB.trans (HBr.out.mono HB.size)⟩
end Go.Proofs.Ytkhonlcekjckoaa
