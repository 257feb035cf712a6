/-
  The program's lotTimes, StepTime, RoutingTime, SlowestStep and FlowTime.
-/
import Derived.Test.YtfcgdhedaefonaaRtImB
import Derived.Test.YtfcgdhedaefonaaRtImC
import Derived.Test.YtfcgdhedaefonaaShareLib
import Derived.WalkKit
import Derived.WalkSpells
import Derived.WalkSmall
import Derived.BigQuiet
import Derived.OwnWalk
import Derived.Deep.QuietTactic
import Derived.Deep.DeepCutAuto
import Derived.Lib.Hide
namespace Go.Proofs.Ytfcgdhedaefonaa
open Go.RowKit

set_option maxRecDepth 100000 in
set_option maxHeartbeats 400000 in
theorem rt_sumOf (v : Value) (xs : List Int) (w : World) (h : Ints w v xs) (hm : xs.length ≤ 1048577) (hs : SumOk xs) :
    Calls Try.prog 42 #[v] w fun e w' => e = .returned (.int .i64 (sumL xs)) ∧ Below w.heap.size w w' := by
  have HS := Lib.hid hs
  clear hs
  rcases h with ⟨rfl, a, c, rfl⟩ | ⟨hne, b, o, c, rfl, hc, hcell⟩
  · go_enter Try.func42, Try.ntmps42
    go_wp2
    go_loop [3, 8] (fun s i => i = .int .i64 0 ∧ s = .int .i64 0) (fun _ _ => 0)
    case atStart => exact ⟨rfl, rfl⟩
    case round =>
      obtain ⟨rfl, rfl⟩ := hrel
      go_wp2
      go_ret
      exact ⟨rfl, Below.refl _ _⟩
  · have H := Lib.hid hcell
    clear hcell hne
    go_enter Try.func42, Try.ntmps42
    go_wp2
    go_loopw [3, 8] (fun s i wr => ∃ k : Nat, k ≤ xs.length ∧ i = .int .i64 k ∧ s = .int .i64 (sumL (xs.take k)) ∧ Below w.heap.size w wr) (fun _ i _ => xs.length - (intOf i).toNat)
    case atStart => exact ⟨0, Nat.zero_le _, rfl, rfl, Below.refl _ _⟩
    case round =>
      obtain ⟨k, hk, rfl, rfl, hb⟩ := hrel
      by_cases hlt : k < xs.length
      · have hck : wr.cell? ⟨b, o + k, none⟩ = some (.int .i64 (xs[k]'hlt)) := (hb.cell (p := ⟨b, o + k, none⟩) H.out.1).trans (H.out.at k hlt)
        have hb1 := HS.out k
        have hb2 := HS.out (k + 1)
        rw [sumL_take_succ hlt] at hb2
        have HN := Lib.hid (sumL_take_succ hlt)
        generalize sumL (xs.take k) = s0 at *
        generalize xs[k]'hlt = x0 at *
        go_wp2
        go_roundw
        case rel => exact ⟨k + 1, by omega, by go_num, by rw [HN.out], hb⟩
        case measure => simp [intOf]; omega
      · have HN := Lib.hid (sumL_all (xs := xs) (k := k) (by omega))
        go_wp2
        go_ret
        exact ⟨by rw [HN.out]; rfl, hb⟩


theorem sumL_sum : ∀ xs : List Int, sumL xs = xs.sum
  | [] => rfl
  | x :: xs => by rw [List.sum_cons, ← sumL_sum xs]; rfl
theorem sumL_times (xs : List ST) (q : Int) : sumL (xs.map fun x => stT x q) = sumT xs q xs.length := by
  rw [sumL_sum]
  unfold sumT
  rw [List.take_of_length_le (Nat.le_refl _)]
theorem sumL_runs (xs : List ST) : sumL (xs.map fun x => x.run) = preR xs xs.length := by
  rw [sumL_sum]
  unfold preR
  rw [List.take_of_length_le (Nat.le_refl _)]
theorem at_of {P : ST → Prop} {xs : List ST} (h : ∀ i (hi : i < xs.length), P (xs[i]'hi)) : ∀ x, x ∈ xs → P x := fun x hx => by
  obtain ⟨i, hi, rfl⟩ := List.getElem_of_mem hx
  exact h i hi
theorem sumOk_times {xs : List ST} {q : Int} (h : StTo xs xs.length) (hq : QOk q) (hn : xs.length ≤ 6) : SumOk (xs.map fun x => stT x q) :=
  sumOk_small (by rw [List.length_map]; omega) (fun z hz => by
    obtain ⟨x, hx, rfl⟩ := List.mem_map.1 hz
    have h1 := at_of (P := StOk) (fun i hi => h i hi hi) x hx
    have := stT_lo h1 hq
    have := stT_hi h1 hq
    omega)
theorem sumOk_runs {xs : List ST} (h : StTo xs xs.length) (hn : xs.length ≤ 6) : SumOk (xs.map fun x => x.run) :=
  sumOk_small (by rw [List.length_map]; omega) (fun z hz => by
    obtain ⟨x, hx, rfl⟩ := List.mem_map.1 hz
    have h1 := (at_of (P := StOk) (fun i hi => h i hi hi) x hx).2.2
    omega)
/-- The first place of the largest time is the first of the steps that take longest. -/
theorem best_first {xs : List ST} {q m : Int} (hn : 1 ≤ xs.length) (h : MaxTo (xs.map fun x => stT x q) (xs.map fun x => stT x q).length m) :
    ∃ hb : bestI xs q xs.length < (xs.map fun x => stT x q).length, (xs.map fun x => stT x q)[bestI xs q xs.length]'hb = m ∧
      ∀ i (hi : i < (xs.map fun x => stT x q).length), i < bestI xs q xs.length → (xs.map fun x => stT x q)[i]'hi ≠ m := by
  have hb := bestI_lt (xs := xs) (q := q) xs.length (by omega)
  have hget : ∀ i (hi : i < xs.length), (xs.map fun x => stT x q)[i]'(by rw [List.length_map]; exact hi) = tAt xs q i := fun i hi => by
    rw [tAt_get hi, List.getElem_map]
  have hb2 : bestI xs q xs.length < (xs.map fun x => stT x q).length := by rw [List.length_map]; exact hb
  obtain ⟨h1, i, hi, -, hi2⟩ := h
  have hi' : i < xs.length := by rw [List.length_map] at hi; exact hi
  have e1 := h1 _ hb2 hb2
  rw [hget _ hb] at e1
  rw [hget _ hi'] at hi2
  have e2 := (bestI_max (xs := xs) (q := q) xs.length i hi').1
  refine ⟨hb2, by rw [hget _ hb]; omega, fun j hj hlt => ?_⟩
  have hj' : j < xs.length := by rw [List.length_map] at hj; exact hj
  have e3 := (bestI_max (xs := xs) (q := q) xs.length j hj').2 hlt
  rw [hget _ hj']
  omega
theorem maxR_facts (xs : List ST) : ∀ k, k ≤ xs.length → (∀ i (hi : i < xs.length), i < k → (xs[i]'hi).run ≤ maxR xs k) ∧ ∀ M : Int, 0 ≤ M → (∀ i (hi : i < xs.length), i < k → (xs[i]'hi).run ≤ M) → maxR xs k ≤ M
  | 0, _ => ⟨fun _ _ h => absurd h (Nat.not_lt_zero _), fun M hM _ => by rw [maxR_zero]; exact hM⟩
  | k + 1, hk => by
    obtain ⟨h1, h2⟩ := maxR_facts xs k (by omega)
    rw [maxR_succ hk]
    refine ⟨fun i hi hlt => ?_, fun M hM h => ?_⟩
    · by_cases e : i = k
      · subst e; omega
      · have := h1 i hi (by omega); omega
    · have := h2 M hM (fun i hi hlt => h i hi (by omega))
      have := h k hk (Nat.lt_succ_self k)
      omega
theorem maxR_is {xs : List ST} {m : Int} (ho : StTo xs xs.length) (h : MaxTo (xs.map fun x => x.run) (xs.map fun x => x.run).length m) : m = maxR xs xs.length := by
  obtain ⟨h1, i, hi, -, rfl⟩ := h
  have hi' : i < xs.length := by rw [List.length_map] at hi; exact hi
  obtain ⟨f1, f2⟩ := maxR_facts xs xs.length (Nat.le_refl _)
  rw [List.getElem_map]
  have e1 := f1 i hi' hi'
  have e2 := f2 (xs[i]'hi').run (ho i hi' hi').2.2.1 (fun j hj _ => by
    have := h1 j (by rw [List.length_map]; exact hj) (by rw [List.length_map]; exact hj)
    rw [List.getElem_map, List.getElem_map] at this
    exact this)
  omega

set_option maxRecDepth 100000 in
set_option maxHeartbeats 2000000 in
theorem im_stepTime : ImplStepTime := by
  intro x q w hs
  have HIS := Lib.hid (fun W => im_isStep x W hs)
  clear hs
  have HN : Hid (¬(StOk x ∧ QOk q) → stO x q = none) := Lib.hid stO_no
  have HYS : Hid (StOk x → QOk q → stO x q = some (stT x q)) := Lib.hid stO_yes
  generalize stO x q = o at *
  have HMI := Lib.hid (fun W => rt_minutes x q W)
  unfold ST.val at HIS HMI ⊢
  have HA0 := Lib.hid (heap_alloc_new w (.cells #[.string x.cen, .int .i64 x.stu, .int .i64 x.run] 34))
  have HB0 : Hid (Below w.heap.size w (w.alloc (.cells #[.string x.cen, .int .i64 x.stu, .int .i64 x.run] 34))) := Lib.hid ((Below.refl _ _).alloc (Nat.le_refl _) _)
  go_enter Try.func17, Try.ntmps17
  go_upto_region 1 with fail
  generalize w.alloc (.cells #[.string x.cen, .int .i64 x.stu, .int .i64 x.run] 34) = w1 at *
  have c0 := cell_of_row _ _ 0 _ _ _ HA0.out
  have c1 := cell_of_row _ _ 1 _ _ _ HA0.out
  have c2 := cell_of_row _ _ 2 _ _ _ HA0.out
  go_wp2_with fail
  refine (HIS.out _).mono ?_
  rintro e w2 ⟨rfl, hb⟩
  have HA := Lib.hid (blk_below HA0.out hb)
  have HB := Lib.hid (HB0.out.trans (hb.mono HB0.out.size))
  clear hb HA0 HB0 c0 c1 c2
  rcases Bool.eq_false_or_eq_true (stB x) with hc | hc
  rotate_left
  · have HY := Lib.hid (HN.out (fun h => by rw [stB_yes h.1] at hc; cases hc))
    rw [hc]
    clear hc
    go_wp2_with fail
    go_ret2
    exact ⟨by rw [HY.out]; rfl, HB.out⟩
  have HS := Lib.hid (stB_iff.1 hc)
  rw [hc]
  clear hc
  go_wp2_with fail
  by_cases hq : 1 ≤ q ∧ q ≤ 100000
  rotate_left
  · have HY := Lib.hid (HN.out (fun h => hq h.2))
    refine (rt_fromOne q 100000 false _ (inB_no (by omega))).mono ?_
    rintro e w3 ⟨rfl, rfl⟩
    clear hq
    go_wp2_with fail
    go_ret2
    exact ⟨by rw [HY.out]; rfl, HB.out⟩
  have HQ : Hid (QOk q) := Lib.hid hq
  have HY := Lib.hid (HYS.out HS.out HQ.out)
  refine (rt_fromOne q 100000 true _ (inB_yes hq.1 hq.2)).mono ?_
  rintro e w3 ⟨rfl, rfl⟩
  clear hq
  have c0 := cell_of_row _ _ 0 _ _ _ HA.out
  have c1 := cell_of_row _ _ 1 _ _ _ HA.out
  have c2 := cell_of_row _ _ 2 _ _ _ HA.out
  go_wp2_with fail
  refine (HMI.out _ HS.out HQ.out).mono ?_
  rintro e w4 ⟨rfl, hb⟩
  have HB4 := Lib.hid (HB.out.trans (hb.mono HB.out.size))
  clear hb
  go_wp2_with fail
  go_ret2
  exact ⟨by rw [HY.out]; rfl, HB4.out⟩

/-- The times of a lot, and whether there are any. -/
def LotR (r : RT) (q : Int) (w : World) (e : Ending) (w' : World) : Prop :=
  (¬(RtOk r ∧ QOk q) ∧ e = .returned (.tuple #[.slice none 0 0, .bool false]) ∧ Below w.heap.size w w') ∨
  (RtOk r ∧ QOk q ∧ ∃ v, e = .returned (.tuple #[v, .bool true]) ∧ Ints w' v (r.steps.map fun x => stT x q) ∧ Below w.heap.size w w')

set_option maxRecDepth 100000 in
set_option maxHeartbeats 4000000 in
theorem rt_lotTimes (r : RT) (u : Value) (q : Int) (lo hi : Nat) (w : World) (h : SX lo hi w u r.steps) (hs : RT.Sz r) : Calls Try.prog 41 #[.agg #[.string r.item, u], .int .i64 q] w (LotR r q w) := by
  obtain ⟨item, steps⟩ := r
  simp only at h
  have hm := hs.2.1
  simp only at hm
  unfold maxLen at hm
  obtain ⟨a, c, rfl⟩ := h.slice
  simp only
  have HA0 := Lib.hid (heap_alloc_new w (.cells #[.string item, .slice a steps.length c] 26))
  have HB0 : Hid (Below w.heap.size w (w.alloc (.cells #[.string item, .slice a steps.length c] 26))) := Lib.hid ((Below.refl _ _).alloc (Nat.le_refl _) _)
  have HIR := Lib.hid (im_isRouting ⟨item, steps⟩ _ lo hi _ (h.below StN.kept HB0.out) hs)
  have HX := Lib.hid ((SX.is h).below HB0.out)
  clear h hs
  go_enter Try.func41, Try.ntmps41
  go_upto_region 1 with fail
  generalize w.alloc (.cells #[.string item, .slice a steps.length c] 26) = w1 at *
  have c0 := cell_of_row _ _ 0 _ _ _ HA0.out
  have c1 := cell_of_row _ _ 1 _ _ _ HA0.out
  go_wp2_with fail
  refine HIR.out.mono ?_
  rintro e w2 ⟨rfl, hb⟩
  have HA2 := Lib.hid (blk_below HA0.out hb)
  have HB2 := Lib.hid (HB0.out.trans (hb.mono HB0.out.size))
  have HX2 := Lib.hid (HX.out.below hb)
  clear hb HA0 HB0 HX HIR c0 c1
  rcases Bool.eq_false_or_eq_true (rtB ⟨item, steps⟩) with hc | hc
  rotate_left
  · have HY : Hid (¬(RtOk ⟨item, steps⟩ ∧ QOk q)) := Lib.hid (fun h => by rw [rtB_yes h.1] at hc; cases hc)
    rw [hc]
    clear hc
    go_wp2_with fail
    go_ret2
    exact Or.inl ⟨HY.out, rfl, HB2.out⟩
  have HR := Lib.hid (rtB_iff.1 hc)
  have hn1 := HR.out.2.1.1
  have hn6 := HR.out.2.1.2
  simp only at hn1 hn6
  rw [hc]
  clear hc
  go_wp2_with fail
  by_cases hq : 1 ≤ q ∧ q ≤ 100000
  rotate_left
  · have HY : Hid (¬(RtOk ⟨item, steps⟩ ∧ QOk q)) := Lib.hid (fun h => hq h.2)
    refine (rt_fromOne q 100000 false _ (inB_no (by omega))).mono ?_
    rintro e w3 ⟨rfl, rfl⟩
    clear hq
    go_wp2_with fail
    go_ret2
    exact Or.inl ⟨HY.out, rfl, HB2.out⟩
  have HQ : Hid (QOk q) := Lib.hid hq
  refine (rt_fromOne q 100000 true _ (inB_yes hq.1 hq.2)).mono ?_
  rintro e w3 ⟨rfl, rfl⟩
  clear hq
  have c0 := cell_of_row _ _ 0 _ _ _ HA2.out
  have c1 := cell_of_row _ _ 1 _ _ _ HA2.out
  have HT := Lib.hid (rt_times item steps _ q w3 HX2.out hn6 HR.out.2.2 HQ.out)
  go_wp2_with fail
  refine HT.out.mono ?_
  rintro e w4 ⟨v, rfl, hv, hb⟩
  have HB4 := Lib.hid (HB2.out.trans (hb.mono HB2.out.size))
  have HV := Lib.hid hv
  obtain ⟨va, vc, rfl⟩ := hv.slice
  clear hb hv HT
  generalize hys : (steps.map fun x => stT x q) = ys at *
  have HYS := Lib.hid hys
  clear hys
  go_wp2_with fail
  go_ret2
  exact Or.inr ⟨HR.out, HQ.out, _, rfl, by rw [HYS.out]; exact HV.out, HB4.out⟩

set_option maxRecDepth 100000 in
set_option maxHeartbeats 4000000 in
theorem im_routingTime : ImplRoutingTime := by
  intro r u q lo hi w h hs
  obtain ⟨item, steps⟩ := r
  simp only at h
  have hm := hs.2.1
  simp only at hm
  unfold maxLen at hm
  obtain ⟨a, c, rfl⟩ := h.slice
  simp only
  have HA0 := Lib.hid (heap_alloc_new w (.cells #[.string item, .slice a steps.length c] 26))
  have HB0 : Hid (Below w.heap.size w (w.alloc (.cells #[.string item, .slice a steps.length c] 26))) := Lib.hid ((Below.refl _ _).alloc (Nat.le_refl _) _)
  have HLT := Lib.hid (rt_lotTimes ⟨item, steps⟩ _ q lo hi _ (h.below StN.kept HB0.out) hs)
  clear h hs
  go_enter Try.func15, Try.ntmps15
  go_upto_region 1 with fail
  generalize w.alloc (.cells #[.string item, .slice a steps.length c] 26) = w1 at *
  have c0 := cell_of_row _ _ 0 _ _ _ HA0.out
  have c1 := cell_of_row _ _ 1 _ _ _ HA0.out
  go_wp2_with fail
  refine HLT.out.mono ?_
  rintro e w2 (⟨hno, rfl, hb⟩ | ⟨hr, hq, v, rfl, hv, hb⟩)
  · have HY := Lib.hid (rtO_no hno)
    have HB2 := Lib.hid (HB0.out.trans (hb.mono HB0.out.size))
    clear hb hno c0 c1
    go_wp2_with fail
    refine (rt_sumOf _ [] _ (ints_none _ _ _) (by simp) (sumOk_small (by simp) (fun x hx => by cases hx))).mono ?_
    rintro e w3 ⟨rfl, hb⟩
    have HB3 := Lib.hid (HB2.out.trans (hb.mono HB2.out.size))
    clear hb
    go_wp2_with fail
    go_ret2
    exact ⟨by rw [HY.out]; rfl, HB3.out⟩
  · have HY := Lib.hid (rtO_yes hr hq)
    have HB2 := Lib.hid (HB0.out.trans (hb.mono HB0.out.size))
    have HV := Lib.hid hv
    have HSM := Lib.hid (sumL_times steps q)
    have HSO := Lib.hid (sumOk_times hr.2.2 hq hr.2.1.2)
    have HLN : Hid ((steps.map fun x => stT x q).length ≤ 1048577) := Lib.hid (by rw [List.length_map]; have := hr.2.1.2; simp only at this; omega)
    obtain ⟨va, vc, rfl⟩ := hv.slice
    clear hb hv hr hq c0 c1
    generalize (steps.map fun x => stT x q) = ys at *
    go_wp2_with fail
    refine (rt_sumOf _ ys _ HV.out HLN.out HSO.out).mono ?_
    rintro e w3 ⟨rfl, hb⟩
    have HB3 := Lib.hid (HB2.out.trans (hb.mono HB2.out.size))
    clear hb
    rw [HSM.out]
    go_wp2_with fail
    go_ret2
    exact ⟨by rw [HY.out]; rfl, HB3.out⟩

set_option maxRecDepth 100000 in
set_option maxHeartbeats 4000000 in
theorem im_slowestStep : ImplSlowestStep := by
  intro r u q lo hi w h hs
  obtain ⟨item, steps⟩ := r
  simp only at h
  have hm := hs.2.1
  simp only at hm
  unfold maxLen at hm
  obtain ⟨a, c, rfl⟩ := h.slice
  simp only
  have HA0 := Lib.hid (heap_alloc_new w (.cells #[.string item, .slice a steps.length c] 26))
  have HB0 : Hid (Below w.heap.size w (w.alloc (.cells #[.string item, .slice a steps.length c] 26))) := Lib.hid ((Below.refl _ _).alloc (Nat.le_refl _) _)
  have HLT := Lib.hid (rt_lotTimes ⟨item, steps⟩ _ q lo hi _ (h.below StN.kept HB0.out) hs)
  clear h hs
  go_enter Try.func16, Try.ntmps16
  go_upto_region 1 with fail
  generalize w.alloc (.cells #[.string item, .slice a steps.length c] 26) = w1 at *
  have c0 := cell_of_row _ _ 0 _ _ _ HA0.out
  have c1 := cell_of_row _ _ 1 _ _ _ HA0.out
  go_wp2_with fail
  refine HLT.out.mono ?_
  rintro e w2 (⟨hno, rfl, hb⟩ | ⟨hr, hq, v, rfl, hv, hb⟩)
  · have HY := Lib.hid (slowI_no hno)
    have HB2 := Lib.hid (HB0.out.trans (hb.mono HB0.out.size))
    clear hb hno c0 c1
    go_wp2_with fail
    go_ret
    exact ⟨by rw [HY.out]; rfl, HB2.out⟩
  · have HY := Lib.hid (slowI_yes hr hq)
    have HB2 := Lib.hid (HB0.out.trans (hb.mono HB0.out.size))
    have HV := Lib.hid hv
    have hn1 := hr.2.1.1
    have hn6 := hr.2.1.2
    simp only at hn1 hn6
    have HBF := Lib.hid (fun m h => best_first (xs := steps) (q := q) (m := m) hn1 h)
    have hln : (steps.map fun x => stT x q).length = steps.length := List.length_map _
    obtain ⟨va, vc, rfl⟩ := hv.slice
    clear hb hv hr hq c0 c1
    generalize (steps.map fun x => stT x q) = ys at *
    have HLN := Lib.hid hln
    clear hln
    go_wp2_with fail
    refine (rt_max _ ys _ HV.out (by have := HLN.out; omega) (by have := HLN.out; omega)).mono ?_
    rintro e w3 ⟨m, rfl, hmx, hb⟩
    have HB3 := Lib.hid (HB2.out.trans (hb.mono HB2.out.size))
    have HV3 := Lib.hid (HV.out.below hb)
    have HF := Lib.hid (HBF.out m hmx)
    clear hb hmx
    go_wp2_with fail
    refine (rt_index _ ys (bestI steps q steps.length) m _ HV3.out (by have := HLN.out; omega) HF.out.1 HF.out.2.1 HF.out.2.2).mono ?_
    rintro e w4 ⟨rfl, hb⟩
    have HB4 := Lib.hid (HB3.out.trans (hb.mono HB3.out.size))
    clear hb
    go_wp2_with fail
    go_ret
    exact ⟨by rw [HY.out]; rfl, HB4.out⟩

set_option maxRecDepth 100000 in
set_option maxHeartbeats 4000000 in
theorem im_flowTime : ImplFlowTime := by
  intro r u q lo hi w h hs
  obtain ⟨item, steps⟩ := r
  simp only at h
  have hm := hs.2.1
  simp only at hm
  unfold maxLen at hm
  obtain ⟨a, c, rfl⟩ := h.slice
  simp only
  have HA0 := Lib.hid (heap_alloc_new w (.cells #[.string item, .slice a steps.length c] 26))
  have HB0 : Hid (Below w.heap.size w (w.alloc (.cells #[.string item, .slice a steps.length c] 26))) := Lib.hid ((Below.refl _ _).alloc (Nat.le_refl _) _)
  have HIR := Lib.hid (im_isRouting ⟨item, steps⟩ _ lo hi _ (h.below StN.kept HB0.out) hs)
  have HX := Lib.hid ((SX.is h).below HB0.out)
  have HN : Hid (¬(RtOk ⟨item, steps⟩ ∧ FOk q) → flO ⟨item, steps⟩ q = none) := Lib.hid flO_no
  have HYS : Hid (RtOk ⟨item, steps⟩ → FOk q → flO ⟨item, steps⟩ q = some (flT steps q)) := Lib.hid flO_yes
  generalize flO ⟨item, steps⟩ q = o at *
  clear h hs
  go_enter Try.func19, Try.ntmps19
  go_upto_region 1 with fail
  generalize w.alloc (.cells #[.string item, .slice a steps.length c] 26) = w1 at *
  have c0 := cell_of_row _ _ 0 _ _ _ HA0.out
  have c1 := cell_of_row _ _ 1 _ _ _ HA0.out
  go_wp2_with fail
  refine HIR.out.mono ?_
  rintro e w2 ⟨rfl, hb⟩
  have HA2 := Lib.hid (blk_below HA0.out hb)
  have HB2 := Lib.hid (HB0.out.trans (hb.mono HB0.out.size))
  have HX2 := Lib.hid (HX.out.below hb)
  clear hb HA0 HB0 HX HIR c0 c1
  rcases Bool.eq_false_or_eq_true (rtB ⟨item, steps⟩) with hc | hc
  rotate_left
  · have HY := Lib.hid (HN.out (fun h => by rw [rtB_yes h.1] at hc; cases hc))
    rw [hc]
    clear hc
    go_wp2_with fail
    go_ret2
    exact ⟨by rw [HY.out]; rfl, HB2.out⟩
  have HR := Lib.hid (rtB_iff.1 hc)
  have hn1 := HR.out.2.1.1
  have hn6 := HR.out.2.1.2
  simp only at hn1 hn6
  rw [hc]
  clear hc
  go_wp2_with fail
  by_cases hq : 1 ≤ q ∧ q ≤ 200
  rotate_left
  · have HY := Lib.hid (HN.out (fun h => hq h.2))
    refine (rt_fromOne q 200 false _ (inB_no (by omega))).mono ?_
    rintro e w3 ⟨rfl, rfl⟩
    clear hq
    go_wp2_with fail
    go_ret2
    exact ⟨by rw [HY.out]; rfl, HB2.out⟩
  have HQ : Hid (FOk q) := Lib.hid hq
  have HY := Lib.hid (HYS.out HR.out HQ.out)
  refine (rt_fromOne q 200 true _ (inB_yes hq.1 hq.2)).mono ?_
  rintro e w3 ⟨rfl, rfl⟩
  have c0 := cell_of_row _ _ 0 _ _ _ HA2.out
  have c1 := cell_of_row _ _ 1 _ _ _ HA2.out
  have HT := Lib.hid (rt_runs item steps _ w3 HX2.out hn6 HR.out.2.2)
  have HSM := Lib.hid (sumL_runs steps)
  have HST : Hid (StTo steps steps.length) := Lib.hid HR.out.2.2
  have HSO := Lib.hid (sumOk_runs HST.out hn6)
  have HMX := Lib.hid (fun m h => maxR_is (xs := steps) (m := m) HST.out h)
  have HLN : Hid ((steps.map fun x => x.run).length = steps.length) := Lib.hid (List.length_map _)
  have p1 := preR_bound HST.out steps.length (Nat.le_refl _)
  have p2 := maxR_bound HST.out steps.length (Nat.le_refl _)
  have p3 : 0 ≤ (q - 1) * maxR steps steps.length := Int.mul_nonneg (by omega) p2.1
  have p4 : (q - 1) * maxR steps steps.length ≤ (q - 1) * 1000 := Int.mul_le_mul_of_nonneg_left p2.2 (by omega)
  unfold flT at HY
  generalize (steps.map fun x => x.run) = ys at *
  generalize preR steps steps.length = s0 at *
  generalize maxR steps steps.length = m0 at *
  have hw0 : IntKind.i64.wrap (q - 1) = q - 1 := (IntKind.wrap_i64 _).trans (by omega)
  have hw1 : IntKind.i64.wrap ((q - 1) * m0) = (q - 1) * m0 := (IntKind.wrap_i64 _).trans (by omega)
  have hw2 : IntKind.i64.wrap (s0 + (q - 1) * m0) = s0 + (q - 1) * m0 := (IntKind.wrap_i64 _).trans (by omega)
  clear hq p1 p2 p3 p4
  go_wp2_with fail
  refine HT.out.mono ?_
  rintro e w4 ⟨v, rfl, hv, hb⟩
  have HB4 := Lib.hid (HB2.out.trans (hb.mono HB2.out.size))
  have HV := Lib.hid hv
  obtain ⟨va, vc, rfl⟩ := hv.slice
  clear hb hv
  go_wp2_with fail
  refine (rt_sumOf _ ys _ HV.out (by have := HLN.out; omega) HSO.out).mono ?_
  rintro e w5 ⟨rfl, hb⟩
  have HB5 := Lib.hid (HB4.out.trans (hb.mono HB4.out.size))
  have HV5 := Lib.hid (HV.out.below hb)
  clear hb
  rw [HSM.out]
  go_wp2_with fail
  refine (rt_max _ ys _ HV5.out (by have := HLN.out; omega) (by have := HLN.out; omega)).mono ?_
  rintro e w6 ⟨m, rfl, hmx, hb⟩
  have HB6 := Lib.hid (HB5.out.trans (hb.mono HB5.out.size))
  obtain rfl := HMX.out m hmx
  clear hb hmx
  go_wp2_with fail
  go_ret2
  exact ⟨by rw [HY.out]; rfl, HB6.out⟩
end Go.Proofs.Ytfcgdhedaefonaa
