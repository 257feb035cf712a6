/-
  The program's IsStep and IsRouting.
-/
import Derived.Test.YtfcgdhedaefonaaRows
import Derived.Test.YtfcgdhedaefonaaRtLib
import Derived.Test.YtfcgdhedaefonaaRtImp
import Derived.Test.YtfcgdhedaefonaaCodeCalls
import Derived.Test.YtfcgdhedaefonaaSpecIn
import Derived.Test.YtfcgdhedaefonaaBoolRes
import Derived.Test.YtfcgdhedaefonaaHold
import Derived.WalkKit
import Derived.WalkSpells
import Derived.WalkSmall
import Derived.BigQuiet
import Derived.Deep.QuietTactic
import Derived.Deep.DeepCutAuto
import Derived.Lib.Hide
namespace Go.Proofs.Ytfcgdhedaefonaa
open Go.RowKit

set_option maxRecDepth 100000 in
set_option maxHeartbeats 1000000 in
theorem rt_upTo (n l : Int) (y : Bool) (w : World) (h : inB n 0 l = y) : Calls Try.prog 52 #[.int .i64 n, .int .i64 l] w fun e w' => e = .returned (.bool y) ∧ w' = w := by
  subst h
  by_cases h0 : 0 ≤ n
  · by_cases h1 : n ≤ l
    · have HY := Lib.hid (inB_yes h0 h1)
      go_enter Try.func52, Try.ntmps52
      go_wp2
      go_ret
      exact ⟨by rw [HY.out]; rfl, rfl⟩
    · have HY := Lib.hid (inB_no (x := n) (lo := 0) (hi := l) (Or.inr (by omega)))
      go_enter Try.func52, Try.ntmps52
      go_wp2
      go_ret
      exact ⟨by rw [HY.out]; rfl, rfl⟩
  · have HY := Lib.hid (inB_no (x := n) (lo := 0) (hi := l) (Or.inl (by omega)))
    go_enter Try.func52, Try.ntmps52
    go_wp2
    go_ret
    exact ⟨by rw [HY.out]; rfl, rfl⟩

set_option maxRecDepth 100000 in
set_option maxHeartbeats 1000000 in
theorem rt_fromOne (n l : Int) (y : Bool) (w : World) (h : inB n 1 l = y) : Calls Try.prog 45 #[.int .i64 n, .int .i64 l] w fun e w' => e = .returned (.bool y) ∧ w' = w := by
  subst h
  by_cases h0 : 1 ≤ n
  · by_cases h1 : n ≤ l
    · have HY := Lib.hid (inB_yes h0 h1)
      go_enter Try.func45, Try.ntmps45
      go_wp2
      go_ret
      exact ⟨by rw [HY.out]; rfl, rfl⟩
    · have HY := Lib.hid (inB_no (x := n) (lo := 1) (hi := l) (Or.inr (by omega)))
      go_enter Try.func45, Try.ntmps45
      go_wp2
      go_ret
      exact ⟨by rw [HY.out]; rfl, rfl⟩
  · have HY := Lib.hid (inB_no (x := n) (lo := 1) (hi := l) (Or.inl (by omega)))
    go_enter Try.func45, Try.ntmps45
    go_wp2
    go_ret
    exact ⟨by rw [HY.out]; rfl, rfl⟩

set_option maxRecDepth 100000 in
set_option maxHeartbeats 2000000 in
theorem im_isStep : ImplIsStep := by
  intro x w hs
  obtain ⟨cen, stu, run⟩ := x
  have S0 : Hid (cen.size ≤ maxLen) := Lib.hid hs
  clear hs
  unfold ST.val
  simp only
  have HN : Hid (¬StOk ⟨cen, stu, run⟩ → stB ⟨cen, stu, run⟩ = false) := Lib.hid stB_no
  have HYS : Hid (StOk ⟨cen, stu, run⟩ → stB ⟨cen, stu, run⟩ = true) := Lib.hid stB_yes
  generalize stB ⟨cen, stu, run⟩ = z at *
  have HA0 := Lib.hid (heap_alloc_new w (.cells #[.string cen, .int .i64 stu, .int .i64 run] 34))
  have HB0 : Hid (Below w.heap.size w (w.alloc (.cells #[.string cen, .int .i64 stu, .int .i64 run] 34))) := Lib.hid ((Below.refl _ _).alloc (Nat.le_refl _) _)
  go_enter Try.func24, Try.ntmps24
  go_upto_region 1 with fail
  generalize w.alloc (.cells #[.string cen, .int .i64 stu, .int .i64 run] 34) = w1 at *
  have c0 := cell_of_row _ _ 0 _ _ _ HA0.out
  have c1 := cell_of_row _ _ 1 _ _ _ HA0.out
  have c2 := cell_of_row _ _ 2 _ _ _ HA0.out
  go_wp2_with fail
  refine (code_calls cen _ S0.out).mono ?_
  rintro e w2 ⟨rfl, hb⟩
  have HA := Lib.hid (blk_below HA0.out hb)
  have HB := Lib.hid (HB0.out.trans (hb.mono HB0.out.size))
  clear hb HA0 HB0 c0 c1 c2
  have c1 := cell_of_row _ _ 1 _ _ _ HA.out
  have c2 := cell_of_row _ _ 2 _ _ _ HA.out
  rcases Bool.eq_false_or_eq_true (isCode.codeB cen) with hA | hA
  rotate_left
  · have HY := Lib.hid (HN.out (fun h => by have := h.1; simp only at this; rw [hA] at this; cases this))
    rw [hA]
    go_wp2_with fail
    go_ret
    exact ⟨by rw [HY.out]; rfl, HB.out⟩
  rw [hA]
  have A0 := Lib.hid hA
  clear hA
  go_wp2_with fail
  by_cases h1 : 0 ≤ stu ∧ stu ≤ 1000
  rotate_left
  · have HY := Lib.hid (HN.out (fun h => h1 h.2.1))
    refine (rt_upTo stu 1000 false _ (inB_no (by omega))).mono ?_
    rintro e w2 ⟨rfl, rfl⟩
    clear h1
    go_wp2_with fail
    go_ret
    exact ⟨by rw [HY.out]; rfl, HB.out⟩
  refine (rt_upTo stu 1000 true _ (inB_yes h1.1 h1.2)).mono ?_
  rintro e w2 ⟨rfl, rfl⟩
  have A1 := Lib.hid h1
  clear h1
  go_wp2_with fail
  by_cases h2 : 0 ≤ run ∧ run ≤ 1000
  rotate_left
  · have HY := Lib.hid (HN.out (fun h => h2 h.2.2))
    refine (rt_upTo run 1000 false _ (inB_no (by omega))).mono ?_
    rintro e w2 ⟨rfl, rfl⟩
    clear h2
    go_wp2_with fail
    go_ret
    exact ⟨by rw [HY.out]; rfl, HB.out⟩
  have HY := Lib.hid (HYS.out ⟨A0.out, A1.out, h2⟩)
  refine (rt_upTo run 1000 true _ (inB_yes h2.1 h2.2)).mono ?_
  rintro e w2 ⟨rfl, rfl⟩
  clear h2
  go_wp2_with fail
  go_ret
  exact ⟨by rw [HY.out]; rfl, HB.out⟩

set_option maxRecDepth 100000 in
set_option maxHeartbeats 1000000 in
theorem rt_noStep (x : ST) (w : World) (hs : ST.Sz x) : Calls Try.prog 55 #[ST.val x] w (BoolRes (!stB x) w) := by
  have HIS := Lib.hid (fun W => im_isStep x W hs)
  unfold ST.val at HIS ⊢
  clear hs
  have HA0 := Lib.hid (heap_alloc_new w (.cells #[.string x.cen, .int .i64 x.stu, .int .i64 x.run] 34))
  have HB0 : Hid (Below w.heap.size w (w.alloc (.cells #[.string x.cen, .int .i64 x.stu, .int .i64 x.run] 34))) := Lib.hid ((Below.refl _ _).alloc (Nat.le_refl _) _)
  generalize stB x = z at *
  go_enter Try.func55, Try.ntmps55
  go_upto_region 1 with fail
  generalize w.alloc (.cells #[.string x.cen, .int .i64 x.stu, .int .i64 x.run] 34) = w1 at *
  have c0 := cell_of_row _ _ 0 _ _ _ HA0.out
  have c1 := cell_of_row _ _ 1 _ _ _ HA0.out
  have c2 := cell_of_row _ _ 2 _ _ _ HA0.out
  go_wp2_with fail
  refine (HIS.out _).mono ?_
  rintro e w2 ⟨rfl, hb⟩
  have HB := Lib.hid (HB0.out.trans (hb.mono HB0.out.size))
  clear hb c0 c1 c2
  go_wp2_with fail
  go_ret
  exact ⟨rfl, HB.out⟩

/-- Some step is wrong. -/
def anyBad (xs : List ST) : Prop := ¬StTo xs xs.length
open Classical in
noncomputable def badB (xs : List ST) : Bool := decide (anyBad xs)
open Classical in
theorem badB_iff {xs : List ST} : badB xs = true ↔ anyBad xs := by unfold badB; exact decide_eq_true_iff
theorem badB_at {xs : List ST} {k : Nat} (hk : k < xs.length) (h : stB (xs[k]'hk) = false) : badB xs = true := badB_iff.2 (fun h2 => by
  have := stB_yes (h2 k hk hk)
  rw [h] at this
  cases this)
theorem badB_no {xs : List ST} (h : StTo xs xs.length) : badB xs = false := by
  cases hb : badB xs with
  | false => rfl
  | true => exact absurd h (badB_iff.1 hb)
theorem badB_to {xs : List ST} (h : badB xs = false) : StTo xs xs.length := by
  apply Classical.byContradiction
  intro hn
  rw [badB_iff.2 hn] at h
  cases h

set_option maxRecDepth 100000 in
set_option maxHeartbeats 1000000 in
theorem rt_indexS (v : Value) (xs : List ST) (w : World) (h : ST.Is w v xs) (hm : xs.length ≤ maxLen) (hs : ∀ x, x ∈ xs → ST.Sz x) :
    Calls Try.prog 65 #[v, .func (.func 55) #[] #[]] w (IdxRes (badB xs) w) := by
  unfold maxLen at hm
  have HX := Lib.hid h
  have HS0 := Lib.hid hs
  obtain ⟨a, c, rfl⟩ := h.slice
  clear h hs
  go_enter Try.func65, Try.ntmps65
  go_wp2_with fail
  go_loopw [8] (fun i wr => ∃ k : Nat, k ≤ xs.length ∧ i = .int .i64 k ∧ Hid (StTo xs k) ∧ Hid (Below w.heap.size w wr)) (fun i _ => xs.length - (intOf i).toNat)
  case atStart => exact ⟨0, Nat.zero_le _, rfl, Lib.hid (StTo.zero xs), Lib.hid (Below.refl _ _)⟩
  case round =>
    obtain ⟨k, hk, rfl, HN, HB⟩ := hrel
    by_cases hlt : k < xs.length
    rotate_left
    · have HR := Lib.hid (badB_no (HN.out.all (by omega)))
      go_wp2_with fail
      go_ret
      exact ⟨-1, rfl, (fun h => by rw [HR.out] at h; cases h), fun _ => by decide, HB.out⟩
    have HLT := Lib.hid hlt
    obtain ⟨b2, o2, c2, hv2, hc2, hcell2⟩ := HX.out.some (by omega)
    simp only [Value.slice.injEq] at hv2
    obtain ⟨rfl, _, rfl⟩ := hv2
    obtain ⟨e0, e1, e2⟩ := (hcell2.below HB.out).at k hlt
    clear hcell2 hc2
    have HY : Hid (stB (xs[k]'hlt) = false → badB xs = true) := Lib.hid (badB_at hlt)
    have HS : Hid (stB (xs[k]'hlt) = true → StTo xs (k + 1)) := Lib.hid (fun h => HN.out.succ hlt (stB_iff.1 h))
    have HC := Lib.hid (fun W => rt_noStep (xs[k]'hlt) W (HS0.out _ (List.getElem_mem hlt)))
    unfold ST.val at HC
    generalize xs[k]'hlt = x at *
    rcases Bool.eq_false_or_eq_true (stB x) with he | he
    · have HS2 := Lib.hid (HS.out he)
      rw [he] at HC
      clear he
      go_wp2_with fail
      refine (HC.out _).mono ?_
      rintro e w2 ⟨rfl, hb⟩
      have HB2 := Lib.hid (HB.out.trans (hb.mono HB.out.size))
      clear hb
      go_wp2_with fail
      go_roundw
      case rel => exact ⟨k + 1, by have := HLT.out; omega, by go_num, HS2, HB2⟩
      case measure => have := HLT.out; simp [intOf]; omega
    · have HR := Lib.hid (HY.out he)
      rw [he] at HC
      clear he
      go_wp2_with fail
      refine (HC.out _).mono ?_
      rintro e w2 ⟨rfl, hb⟩
      have HB2 := Lib.hid (HB.out.trans (hb.mono HB.out.size))
      clear hb
      go_wp2_with fail
      go_ret
      exact ⟨k, rfl, fun _ => by omega, (fun h => by rw [HR.out] at h; cases h), HB2.out⟩

set_option maxRecDepth 100000 in
set_option maxHeartbeats 1000000 in
theorem rt_hasS (v : Value) (xs : List ST) (y : Bool) (w : World) (h : ST.Is w v xs) (hm : xs.length ≤ maxLen) (hs : ∀ x, x ∈ xs → ST.Sz x) (hy : badB xs = y) :
    Calls Try.prog 56 #[v, .func (.func 55) #[] #[]] w (BoolRes y w) := by
  subst hy
  have HI := Lib.hid (rt_indexS v xs w h hm hs)
  clear h hs
  go_enter Try.func56, Try.ntmps56
  go_wp2_with fail
  refine HI.out.mono ?_
  rintro e w1 ⟨z, rfl, h1, h2, hb⟩
  have HB := Lib.hid hb
  have H1 := Lib.hid h1
  have H2 := Lib.hid h2
  clear h1 h2 hb HI
  by_cases hz : 0 ≤ z
  · have HY : Hid (badB xs = true) := Lib.hid (by
      rcases Bool.eq_false_or_eq_true (badB xs) with h | h
      · exact h
      · have := H2.out h; omega)
    go_wp2_with fail
    go_ret
    exact ⟨by rw [HY.out]; rfl, HB.out⟩
  · have HY : Hid (badB xs = false) := Lib.hid (by
      rcases Bool.eq_false_or_eq_true (badB xs) with h | h
      · have := H1.out h; omega
      · exact h)
    have hd : decide (0 ≤ z) = false := decide_eq_false hz
    go_wp2_with fail
    go_ret
    exact ⟨by rw [HY.out]; rfl, HB.out⟩

set_option maxRecDepth 100000 in
set_option maxHeartbeats 4000000 in
theorem im_isRouting : ImplIsRouting := by
  intro r u lo hi w h hs
  obtain ⟨item, steps⟩ := r
  simp only at h
  have S0 : Hid (item.size ≤ maxLen) := Lib.hid hs.1
  have SS : Hid (∀ x, x ∈ steps → ST.Sz x) := Lib.hid hs.2.2
  have HM := Lib.hid hs.2.1
  have hm := hs.2.1
  simp only at hm
  unfold maxLen at hm
  clear hs
  obtain ⟨a, c, rfl⟩ := h.slice
  simp only
  have HN : Hid (¬RtOk ⟨item, steps⟩ → rtB ⟨item, steps⟩ = false) := Lib.hid rtB_no
  have HYS : Hid (RtOk ⟨item, steps⟩ → rtB ⟨item, steps⟩ = true) := Lib.hid rtB_yes
  generalize rtB ⟨item, steps⟩ = z at *
  have HA0 := Lib.hid (heap_alloc_new w (.cells #[.string item, .slice a steps.length c] 26))
  have HB0 : Hid (Below w.heap.size w (w.alloc (.cells #[.string item, .slice a steps.length c] 26))) := Lib.hid ((Below.refl _ _).alloc (Nat.le_refl _) _)
  have HX := Lib.hid ((SX.is h).below HB0.out)
  clear h
  go_enter Try.func28, Try.ntmps28
  go_upto_region 1 with fail
  generalize w.alloc (.cells #[.string item, .slice a steps.length c] 26) = w1 at *
  have c0 := cell_of_row _ _ 0 _ _ _ HA0.out
  have c1 := cell_of_row _ _ 1 _ _ _ HA0.out
  go_wp2_with fail
  refine (code_calls item _ S0.out).mono ?_
  rintro e w2 ⟨rfl, hb⟩
  have HA := Lib.hid (blk_below HA0.out hb)
  have HB := Lib.hid (HB0.out.trans (hb.mono HB0.out.size))
  have HX2 := Lib.hid (HX.out.below hb)
  clear hb HA0 HB0 HX c0 c1
  have c1 := cell_of_row _ _ 1 _ _ _ HA.out
  rcases Bool.eq_false_or_eq_true (isCode.codeB item) with hA | hA
  rotate_left
  · have HY := Lib.hid (HN.out (fun h => by have := h.1; simp only at this; rw [hA] at this; cases this))
    rw [hA]
    go_wp2_with fail
    go_ret
    exact ⟨by rw [HY.out]; rfl, HB.out⟩
  rw [hA]
  have A0 := Lib.hid hA
  clear hA
  go_wp2_with fail
  by_cases h1 : 1 ≤ steps.length ∧ steps.length ≤ 6
  rotate_left
  · have HY := Lib.hid (HN.out (fun h => h1 h.2.1))
    refine (rt_fromOne (steps.length : Int) 6 false _ (inB_no (by omega))).mono ?_
    rintro e w3 ⟨rfl, rfl⟩
    clear h1
    go_wp2_with fail
    go_ret
    exact ⟨by rw [HY.out]; rfl, HB.out⟩
  refine (rt_fromOne (steps.length : Int) 6 true _ (inB_yes (by omega) (by omega))).mono ?_
  rintro e w3 ⟨rfl, rfl⟩
  have A1 := Lib.hid h1
  clear h1
  go_wp2_with fail
  rcases Bool.eq_false_or_eq_true (badB steps) with hbd | hbd
  · have HY := Lib.hid (HN.out (fun h => badB_iff.1 hbd h.2.2))
    refine (rt_hasS _ steps true _ HX2.out HM.out SS.out hbd).mono ?_
    rintro e w4 ⟨rfl, hb⟩
    have HB4 := Lib.hid (HB.out.trans (hb.mono HB.out.size))
    clear hb hbd
    go_wp2_with fail
    go_ret
    exact ⟨by rw [HY.out]; rfl, HB4.out⟩
  · have HY := Lib.hid (HYS.out ⟨A0.out, A1.out, badB_to hbd⟩)
    refine (rt_hasS _ steps false _ HX2.out HM.out SS.out hbd).mono ?_
    rintro e w4 ⟨rfl, hb⟩
    have HB4 := Lib.hid (HB.out.trans (hb.mono HB.out.size))
    clear hb hbd
    go_wp2_with fail
    go_ret
    exact ⟨by rw [HY.out]; rfl, HB4.out⟩
end Go.Proofs.Ytfcgdhedaefonaa
