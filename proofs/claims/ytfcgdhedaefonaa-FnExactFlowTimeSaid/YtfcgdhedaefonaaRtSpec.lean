/-
  The model's IsStep, IsRouting, AreRoutings and FindRouting.
-/
import Derived.Test.YtfcgdhedaefonaaRows
import Derived.Test.YtfcgdhedaefonaaRtLib
import Derived.Test.YtfcgdhedaefonaaIsCodeWalkA
import Derived.Test.YtfcgdhedaefonaaSpecIn
import Derived.Test.YtfcgdhedaefonaaBoolRes
import Derived.Test.YtfcgdhedaefonaaStrQ
import Derived.Test.YtfcgdhedaefonaaStrOrd
import Derived.Test.YtfcgdhedaefonaaHold
import Derived.WalkKit
import Derived.WalkSpells
import Derived.WalkSmall
import Derived.BigQuiet
import Derived.Deep.QuietTactic
import Derived.Deep.DeepCutAuto
import Derived.Deep.RegionHeld3
import Derived.Lib.Hide
namespace Go.Proofs.Ytfcgdhedaefonaa
open Go.RowKit

set_option maxRecDepth 100000 in
set_option maxHeartbeats 2000000 in
theorem spec_step (x : ST) (w : World) (hs : ST.Sz x) : Calls Try.prog 22 #[ST.val x] w (BoolRes (stB x) w) := by
  obtain ⟨cen, stu, run⟩ := x
  have S0 : Hid (cen.size ≤ maxLen) := Lib.hid hs
  clear hs
  unfold ST.val
  simp only
  have HN : Hid (¬StOk ⟨cen, stu, run⟩ → stB ⟨cen, stu, run⟩ = false) := Lib.hid stB_no
  have HYS : Hid (StOk ⟨cen, stu, run⟩ → stB ⟨cen, stu, run⟩ = true) := Lib.hid stB_yes
  generalize stB ⟨cen, stu, run⟩ = z at *
  have HA := Lib.hid (heap_alloc_new w (.cells #[.string cen, .int .i64 stu, .int .i64 run] 34))
  have HB : Hid (Below w.heap.size w (w.alloc (.cells #[.string cen, .int .i64 stu, .int .i64 run] 34))) := Lib.hid ((Below.refl _ _).alloc (Nat.le_refl _) _)
  go_enter Try.func22, Try.ntmps22
  go_upto_region 1 with fail
  generalize w.alloc (.cells #[.string cen, .int .i64 stu, .int .i64 run] 34) = w1 at *
  have c0 := cell_of_row _ _ 0 _ _ _ HA.out
  have c1 := cell_of_row _ _ 1 _ _ _ HA.out
  have c2 := cell_of_row _ _ 2 _ _ _ HA.out
  go_wp2_with fail
  refine (isCode.spec_walk cen _ S0.out).mono ?_
  rintro e w2 ⟨rfl, rfl⟩
  rcases Bool.eq_false_or_eq_true (isCode.codeB cen) with hA | hA
  rotate_left
  · have HY := Lib.hid (HN.out (fun h => by have := h.1; simp only at this; rw [hA] at this; cases this))
    rw [hA]
    go_wp2_with fail
    go_ret
    exact ⟨by rw [HY.out]; rfl, HB.out⟩
  rw [hA]
  have A0 := Lib.hid hA
  clear hA
  go_wp2_with fail
  by_cases h1 : 0 ≤ stu ∧ stu ≤ 1000
  rotate_left
  · have HY := Lib.hid (HN.out (fun h => h1 h.2.1))
    refine (spec_in_is stu 0 1000 false _ (inB_no (by omega))).mono ?_
    rintro e w2 ⟨rfl, rfl⟩
    clear h1
    go_wp2_with fail
    go_ret
    exact ⟨by rw [HY.out]; rfl, HB.out⟩
  refine (spec_in_is stu 0 1000 true _ (inB_yes h1.1 h1.2)).mono ?_
  rintro e w2 ⟨rfl, rfl⟩
  have A1 := Lib.hid h1
  clear h1
  go_wp2_with fail
  by_cases h2 : 0 ≤ run ∧ run ≤ 1000
  rotate_left
  · have HY := Lib.hid (HN.out (fun h => h2 h.2.2))
    refine (spec_in_is run 0 1000 false _ (inB_no (by omega))).mono ?_
    rintro e w2 ⟨rfl, rfl⟩
    clear h2
    go_wp2_with fail
    go_ret
    exact ⟨by rw [HY.out]; rfl, HB.out⟩
  have HY := Lib.hid (HYS.out ⟨A0.out, A1.out, h2⟩)
  refine (spec_in_is run 0 1000 true _ (inB_yes h2.1 h2.2)).mono ?_
  rintro e w2 ⟨rfl, rfl⟩
  clear h2
  go_wp2_with fail
  go_ret
  exact ⟨by rw [HY.out]; rfl, HB.out⟩

set_option maxRecDepth 100000 in
set_option maxHeartbeats 4000000 in
theorem spec_routing (r : RT) (u : Value) (lo hi : Nat) (w : World) (h : SX lo hi w u r.steps) (hs : RT.Sz r) : Calls Try.prog 26 #[.agg #[.string r.item, u]] w (BoolRes (rtB r) w) := by
  obtain ⟨item, steps⟩ := r
  simp only at h
  have S0 : Hid (item.size ≤ maxLen) := Lib.hid hs.1
  have SS : Hid (∀ x, x ∈ steps → ST.Sz x) := Lib.hid hs.2.2
  have hm := hs.2.1
  simp only at hm
  unfold maxLen at hm
  clear hs
  obtain ⟨a, c, rfl⟩ := h.slice
  simp only
  have HN : Hid (¬RtOk ⟨item, steps⟩ → rtB ⟨item, steps⟩ = false) := Lib.hid rtB_no
  have HYS : Hid (RtOk ⟨item, steps⟩ → rtB ⟨item, steps⟩ = true) := Lib.hid rtB_yes
  generalize rtB ⟨item, steps⟩ = z at *
  have HA0 := Lib.hid (heap_alloc_new w (.cells #[.string item, .slice a steps.length c] 26))
  have HB0 : Hid (Below w.heap.size w (w.alloc (.cells #[.string item, .slice a steps.length c] 26))) := Lib.hid ((Below.refl _ _).alloc (Nat.le_refl _) _)
  have HX := Lib.hid ((SX.is h).below HB0.out)
  clear h
  go_enter Try.func26, Try.ntmps26
  go_upto_region 1 with fail
  generalize w.alloc (.cells #[.string item, .slice a steps.length c] 26) = w1 at *
  go_wp2_with fail
  go_loopw [3] (fun i wr => ∃ k : Nat, k ≤ steps.length ∧ i = .int .i64 k ∧ Hid (StTo steps k) ∧ Hid (Below w1.heap.size w1 wr)) (fun i _ => steps.length - (intOf i).toNat)
  case atStart => exact ⟨0, Nat.zero_le _, rfl, Lib.hid (StTo.zero steps), Lib.hid (Below.refl _ _)⟩
  case round =>
    obtain ⟨k, hk, rfl, HC, HB⟩ := hrel
    have HA := Lib.hid (blk_below HA0.out HB.out)
    have HBW := Lib.hid (HB0.out.trans (HB.out.mono HB0.out.size))
    have c0 := cell_of_row _ _ 0 _ _ _ HA.out
    have c1 := cell_of_row _ _ 1 _ _ _ HA.out
    by_cases hlt : k < steps.length
    rotate_left
    · have HALL := Lib.hid (HC.out.all (by omega))
      have hkk : k = steps.length := by omega
      go_wp2_with fail
      refine (isCode.spec_walk item _ S0.out).mono ?_
      rintro e w2 ⟨rfl, rfl⟩
      rcases Bool.eq_false_or_eq_true (isCode.codeB item) with hA | hA
      rotate_left
      · have HY := Lib.hid (HN.out (fun h => by have := h.1; simp only at this; rw [hA] at this; cases this))
        rw [hA]
        go_wp2_with fail
        go_ret
        exact ⟨by rw [HY.out]; rfl, HBW.out⟩
      have A0 := Lib.hid hA
      rw [hA]
      clear hA
      go_wp2_with fail
      by_cases h1 : 1 ≤ steps.length ∧ steps.length ≤ 6
      · have HY := Lib.hid (HYS.out ⟨A0.out, h1, HALL.out⟩)
        refine (spec_in_is (steps.length : Int) 1 6 true _ (inB_yes (by omega) (by omega))).mono ?_
        rintro e w2 ⟨rfl, rfl⟩
        go_wp2_with fail
        go_ret
        exact ⟨by rw [HY.out]; rfl, HBW.out⟩
      · have HY := Lib.hid (HN.out (fun h => h1 h.2.1))
        refine (spec_in_is (steps.length : Int) 1 6 false _ (inB_no (by omega))).mono ?_
        rintro e w2 ⟨rfl, rfl⟩
        go_wp2_with fail
        go_ret
        exact ⟨by rw [HY.out]; rfl, HBW.out⟩
    have HLT := Lib.hid hlt
    have hsz := SS.out _ (List.getElem_mem hlt)
    have HN1 : Hid (¬StOk (steps[k]'hlt) → z = false) := Lib.hid (fun h => HN.out (fun h2 => h (h2.2.2 k hlt hlt)))
    have HSU : Hid (StOk (steps[k]'hlt) → StTo steps (k + 1)) := Lib.hid (fun h => HC.out.succ hlt h)
    obtain ⟨b2, o2, c2, hv2, hc2, hcell2⟩ := HX.out.some (by omega)
    simp only [Value.slice.injEq] at hv2
    obtain ⟨rfl, _, rfl⟩ := hv2
    obtain ⟨e0, e1, e2⟩ := (hcell2.below HB.out).at k hlt
    clear hcell2 hc2
    generalize steps[k]'hlt = x at *
    have HIT := Lib.hid (fun W => spec_step x W hsz)
    unfold ST.val at HIT
    clear hsz
    rcases Bool.eq_false_or_eq_true (stB x) with hi | hi
    rotate_left
    · have HY := Lib.hid (HN1.out (fun h => by rw [stB_yes h] at hi; cases hi))
      rw [hi] at HIT
      clear hi
      go_wp2_with fail
      refine (HIT.out _).mono ?_
      rintro e w2 ⟨rfl, hb⟩
      have HBF := Lib.hid (HBW.out.trans (hb.mono HBW.out.size))
      clear hb
      go_wp2_with fail
      go_ret
      exact ⟨by rw [HY.out]; rfl, HBF.out⟩
    have HS2 := Lib.hid (HSU.out (stB_iff.1 hi))
    rw [hi] at HIT
    clear hi
    go_wp2_with fail
    refine (HIT.out _).mono ?_
    rintro e w2 ⟨rfl, hb⟩
    have HBG := Lib.hid (HB.out.trans (hb.mono HB.out.size))
    clear hb
    go_wp2_with fail
    go_roundw
    case rel => exact ⟨k + 1, by have := HLT.out; omega, by go_num, HS2, HBG⟩
    case measure => have := HLT.out; simp [intOf]; omega

set_option maxRecDepth 100000 in
set_option maxHeartbeats 4000000 in
theorem spec_routings (v : Value) (l : List RT) (lo hi : Nat) (w : World) (h : RU lo hi w v l) (hs : RU.Sz l) :
    Calls Try.prog 31 #[v] w (BoolRes (rtsB l) w) := by
  have hm := hs.1
  unfold maxLen at hm
  have HX := Lib.hid h
  have HS := Lib.hid hs.2
  obtain ⟨a, c, rfl⟩ := h.slice
  clear h hs
  go_enter Try.func31, Try.ntmps31
  go_wp2_with fail
  go_loopw [3] (fun i wr => ∃ k : Nat, k ≤ l.length ∧ i = .int .i64 k ∧ Hid (RtsTo l k) ∧ Hid (Below w.heap.size w wr)) (fun i _ => l.length - (intOf i).toNat)
  case atStart => exact ⟨0, Nat.zero_le _, rfl, Lib.hid (RtsTo.zero l), Lib.hid (Below.refl _ _)⟩
  case round =>
    obtain ⟨k, hk, rfl, HC, HB⟩ := hrel
    by_cases hlt : k < l.length
    rotate_left
    · by_cases h12 : l.length ≤ 12
      · have HY : Hid (rtsB l = true) := Lib.hid (rtsB_yes ⟨HC.out.all (by omega), h12⟩)
        have hd : decide ((l.length : Int) ≤ 12) = true := decide_eq_true (by omega)
        go_wp2_with fail
        go_ret
        exact ⟨by rw [HY.out]; rfl, HB.out⟩
      · have HY : Hid (rtsB l = false) := Lib.hid (rtsB_no (fun h => h12 h.2))
        have hd : decide ((l.length : Int) ≤ 12) = false := decide_eq_false (by omega)
        go_wp2_with fail
        go_ret
        exact ⟨by rw [HY.out]; rfl, HB.out⟩
    have HLT := Lib.hid hlt
    have hsz := HS.out _ (List.getElem_mem hlt)
    have HN1 : Hid (¬RtOk (l[k]'hlt) → rtsB l = false) := Lib.hid (RtsTo.no1 hlt)
    have HN2 : Hid (∀ h0 : 0 < k, ¬strLt (l[k - 1]'(by omega)).item (l[k]'hlt).item → rtsB l = false) := Lib.hid (fun h0 => RtsTo.no2 hlt h0)
    have HSU : Hid (RtOk (l[k]'hlt) → (∀ h0 : 0 < k, strLt (l[k - 1]'(by omega)).item (l[k]'hlt).item) → RtsTo l (k + 1)) := Lib.hid (fun x1 x2 => HC.out.succ hlt x1 x2)
    have HXR := Lib.hid (HX.out.below RTN.kept HB.out)
    obtain ⟨b2, o2, c2', cl, hv2, hc2, hb2, hcl, hr5, hcell⟩ := HXR.out.get k hlt
    simp only [Value.slice.injEq] at hv2
    obtain ⟨rfl, _, rfl⟩ := hv2
    obtain ⟨u5, rfl, h5⟩ := hr5
    obtain ⟨sa, sc, rfl⟩ := h5.slice
    have e0 := hcell 0 (by omega)
    have e1 := hcell 1 (by omega)
    simp only [List.getElem?_cons_zero, List.getElem?_cons_succ, Nat.add_zero] at e0 e1
    clear hcell hc2 hcl hb2
    obtain ⟨x, hx⟩ : ∃ x, l[k]'hlt = x := ⟨_, rfl⟩
    rw [hx] at hsz HN1 e0 e1 h5
    simp only [hx] at HN2 HSU
    have HIT := Lib.hid (fun W (hW : Below wr.heap.size wr W) => spec_routing x _ lo hi W (h5.below StN.kept hW) hsz)
    have HXX := Lib.hid hx
    clear hx hsz h5
    rcases Bool.eq_false_or_eq_true (rtB x) with hi | hi
    rotate_left
    · have HY := Lib.hid (HN1.out (fun h => by rw [rtB_yes h] at hi; cases hi))
      rw [hi] at HIT
      clear hi
      go_upto_region 4 with fail
      refine wp_region_held_drew (S := (fun W' => Hid (Below wr.heap.size wr W') ∧ W'.cell? ⟨b2, o2 + k * 2, none⟩ = some (.string x.item) ∧ W'.cell? ⟨b2, o2 + k * 2 + 1, none⟩ = some (.slice sa x.steps.length sc))) (by kernel_rfl) (hold2 e0 e1 (Below.refl _ _).drew) (fun hHeld => ?_)
      refine wpAnyH_take (i := 0) (oi := { dst := some 10, op := Op.move (Operand.tmp 0), type := 51, pos := _, after := #[], guard := none }) (v := ?vr1x1) rfl (by kernel_rfl) (by kernel_rfl) (by kernel_rfl) (fun _ _ _ h => h) (Or.inl ⟨by rfl, ?yr1x1⟩) (by assumption) ?rr1x1
      case yr1x1 => (intro w' hSw; (try dsimp only at hSw); go_simp; (try with_reducible rfl))
      refine wpAnyH_take (i := 1) (oi := { dst := some 11, op := Op.move (Operand.tmp 3), type := 3, pos := _, after := #[], guard := none }) (v := ?vr1x2) rfl (by kernel_rfl) (by kernel_rfl) (by kernel_rfl) (fun _ _ _ h => h) (Or.inl ⟨by rfl, ?yr1x2⟩) (by assumption) ?rr1x2
      case yr1x2 => (intro w' hSw; (try dsimp only at hSw); go_simp; (try with_reducible rfl))
      refine wpAnyH_take (i := 2) (oi := { dst := some 12, op := Op.indexAddr 51 (Operand.tmp 10) (Operand.tmp 11), type := 0, pos := _, after := #[{ on := 0, ground := Ground.data }, { on := 1, ground := Ground.data }], guard := none }) (v := ?vr1x3) rfl (by kernel_rfl) (by kernel_rfl) (by kernel_rfl) (fun _ _ _ h => h) (Or.inl ⟨by rfl, ?yr1x3⟩) (by assumption) ?rr1x3
      case yr1x3 => (intro w' hSw; (try dsimp only at hSw); go_simp; (try with_reducible rfl))
      (try simp only [Act.put, List.setIfInBounds_toArray, List.set_cons_zero, List.set_cons_succ])
      refine wpAnyH_take (i := 3) (oi := { dst := some 13, op := Op.load 26 (Operand.tmp 12), type := 26, pos := _, after := #[{ on := 2, ground := Ground.data }], guard := none }) (v := ?vr1x4) rfl (by kernel_rfl) (by kernel_rfl) (by kernel_rfl) (fun _ _ _ h => h) (Or.inl ⟨by rfl, ?yr1x4⟩) (by assumption) ?rr1x4
      case yr1x4 => (intro w' hSw; (try dsimp only at hSw); go_simp; (try with_reducible rfl))
      (try simp only [Act.put, List.setIfInBounds_toArray, List.set_cons_zero, List.set_cons_succ])
      refine wpAnyH_ready (rs := [4]) (by kernel_rfl) (by simp) ?_
      refine AllReadyH.cons (o := { dst := some 14, op := Op.call { callee := Callee.value (Operand.func 26), args := #[Operand.tmp 13], argTypes := #[26] }, type := 4, pos := _, after := #[{ on := 3, ground := Ground.data }], guard := none }) rfl (fun K hK => ?_) AllReadyH.nil
      go_simp
      refine (HIT.out _ (by first | exact (by assumption : Hid (Below wr.heap.size wr _) ∧ _).1.out | exact Below.refl _ _ | exact (Below.refl _ _).drew)).mono ?_; rintro e w' ⟨rfl, hb⟩; have hle := hold_le (by assumption) hb
      (try go_wp2_with fail)
      refine hK.out _ _ ?_ (fun hHeld => ?_)
      · (try dsimp only); first | assumption | exact hold2 e0 e1 (hold_call (by assumption) (by assumption))
      clear hK K
      (try simp only [Act.put, List.setIfInBounds_toArray, List.set_cons_zero, List.set_cons_succ])
      refine wpAnyH_take (i := 5) (oi := { dst := some 15, op := Op.unOp UnOp.not 4 (Operand.tmp 14), type := 4, pos := _, after := #[{ on := 4, ground := Ground.data }], guard := none }) (v := ?vr1x5) rfl (by kernel_rfl) (by kernel_rfl) (by kernel_rfl) (fun _ _ _ h => h) (Or.inl ⟨by rfl, ?yr1x5⟩) (by assumption) ?rr1x5
      case yr1x5 => (intro w' hSw; (try dsimp only at hSw); go_simp; (try with_reducible rfl))
      refine wpAnyH_take (i := 6) (oi := { dst := some 16, op := Op.move (Operand.tmp 15), type := 4, pos := _, after := #[{ on := 5, ground := Ground.data }, { on := 4, ground := Ground.chain }], guard := none }) (v := ?vr1x6) rfl (by kernel_rfl) (by kernel_rfl) (by kernel_rfl) (fun _ _ _ h => h) (Or.inl ⟨by rfl, ?yr1x6⟩) (by assumption) ?rr1x6
      case yr1x6 => (intro w' hSw; (try dsimp only at hSw); go_simp; (try with_reducible rfl))
      refine wpAnyH_take (i := 7) (oi := { dst := some 17, op := Op.move (Operand.tmp 3), type := 3, pos := _, after := #[{ on := 6, ground := Ground.guard }], guard := some (6, false) }) (v := undef) rfl (by kernel_rfl) (by kernel_rfl) (by kernel_rfl) (fun _ _ _ h => h) (Or.inr ⟨by rfl, rfl⟩) (by assumption) ?_
      (try simp only [Act.put, List.setIfInBounds_toArray, List.set_cons_zero, List.set_cons_succ])
      refine wpAnyH_take (i := 8) (oi := { dst := some 18, op := Op.binOp BinOp.gtr 3 (Operand.tmp 17) (Operand.const (Value.int IntKind.i64 0)) 3, type := 4, pos := _, after := #[{ on := 7, ground := Ground.data }, { on := 6, ground := Ground.guard }], guard := some (6, false) }) (v := undef) rfl (by kernel_rfl) (by kernel_rfl) (by kernel_rfl) (fun _ _ _ h => h) (Or.inr ⟨by rfl, rfl⟩) (by assumption) ?_
      refine wpAnyH_take (i := 9) (oi := { dst := some 19, op := Op.move (Operand.tmp 18), type := 4, pos := _, after := #[{ on := 8, ground := Ground.data }, { on := 6, ground := Ground.chain }, { on := 6, ground := Ground.guard }], guard := some (6, false) }) (v := undef) rfl (by kernel_rfl) (by kernel_rfl) (by kernel_rfl) (fun _ _ _ h => h) (Or.inr ⟨by rfl, rfl⟩) (by assumption) ?_
      refine wpAnyH_take (i := 10) (oi := { dst := some 20, op := Op.move (Operand.tmp 0), type := 51, pos := _, after := #[{ on := 9, ground := Ground.guard }], guard := some (9, true) }) (v := undef) rfl (by kernel_rfl) (by kernel_rfl) (by kernel_rfl) (fun _ _ _ h => h) (Or.inr ⟨by rfl, rfl⟩) (by assumption) ?_
      (try simp only [Act.put, List.setIfInBounds_toArray, List.set_cons_zero, List.set_cons_succ])
      refine wpAnyH_take (i := 11) (oi := { dst := some 21, op := Op.move (Operand.tmp 3), type := 3, pos := _, after := #[{ on := 9, ground := Ground.guard }], guard := some (9, true) }) (v := undef) rfl (by kernel_rfl) (by kernel_rfl) (by kernel_rfl) (fun _ _ _ h => h) (Or.inr ⟨by rfl, rfl⟩) (by assumption) ?_
      refine wpAnyH_take (i := 12) (oi := { dst := some 22, op := Op.binOp BinOp.sub 3 (Operand.tmp 21) (Operand.const (Value.int IntKind.i64 1)) 3, type := 3, pos := _, after := #[{ on := 11, ground := Ground.data }, { on := 9, ground := Ground.guard }], guard := some (9, true) }) (v := undef) rfl (by kernel_rfl) (by kernel_rfl) (by kernel_rfl) (fun _ _ _ h => h) (Or.inr ⟨by rfl, rfl⟩) (by assumption) ?_
      refine wpAnyH_take (i := 13) (oi := { dst := some 23, op := Op.indexAddr 51 (Operand.tmp 20) (Operand.tmp 22), type := 0, pos := _, after := #[{ on := 10, ground := Ground.data }, { on := 12, ground := Ground.data }, { on := 9, ground := Ground.guard }], guard := some (9, true) }) (v := undef) rfl (by kernel_rfl) (by kernel_rfl) (by kernel_rfl) (fun _ _ _ h => h) (Or.inr ⟨by rfl, rfl⟩) (by assumption) ?_
      (try simp only [Act.put, List.setIfInBounds_toArray, List.set_cons_zero, List.set_cons_succ])
      refine wpAnyH_take (i := 14) (oi := { dst := some 24, op := Op.fieldAddr 26 (Operand.tmp 23) 0, type := 0, pos := _, after := #[{ on := 13, ground := Ground.data }, { on := 9, ground := Ground.guard }], guard := some (9, true) }) (v := undef) rfl (by kernel_rfl) (by kernel_rfl) (by kernel_rfl) (fun _ _ _ h => h) (Or.inr ⟨by rfl, rfl⟩) (by assumption) ?_
      refine wpAnyH_take (i := 15) (oi := { dst := some 25, op := Op.load 9 (Operand.tmp 24), type := 9, pos := _, after := #[{ on := 14, ground := Ground.data }, { on := 9, ground := Ground.guard }], guard := some (9, true) }) (v := undef) rfl (by kernel_rfl) (by kernel_rfl) (by kernel_rfl) (fun _ _ _ h => h) (Or.inr ⟨by rfl, rfl⟩) (by assumption) ?_
      refine wpAnyH_take (i := 16) (oi := { dst := some 26, op := Op.move (Operand.tmp 0), type := 51, pos := _, after := #[{ on := 9, ground := Ground.guard }], guard := some (9, true) }) (v := undef) rfl (by kernel_rfl) (by kernel_rfl) (by kernel_rfl) (fun _ _ _ h => h) (Or.inr ⟨by rfl, rfl⟩) (by assumption) ?_
      (try simp only [Act.put, List.setIfInBounds_toArray, List.set_cons_zero, List.set_cons_succ])
      refine wpAnyH_take (i := 17) (oi := { dst := some 27, op := Op.move (Operand.tmp 3), type := 3, pos := _, after := #[{ on := 9, ground := Ground.guard }], guard := some (9, true) }) (v := undef) rfl (by kernel_rfl) (by kernel_rfl) (by kernel_rfl) (fun _ _ _ h => h) (Or.inr ⟨by rfl, rfl⟩) (by assumption) ?_
      refine wpAnyH_take (i := 18) (oi := { dst := some 28, op := Op.indexAddr 51 (Operand.tmp 26) (Operand.tmp 27), type := 0, pos := _, after := #[{ on := 16, ground := Ground.data }, { on := 17, ground := Ground.data }, { on := 9, ground := Ground.guard }], guard := some (9, true) }) (v := undef) rfl (by kernel_rfl) (by kernel_rfl) (by kernel_rfl) (fun _ _ _ h => h) (Or.inr ⟨by rfl, rfl⟩) (by assumption) ?_
      refine wpAnyH_take (i := 19) (oi := { dst := some 29, op := Op.fieldAddr 26 (Operand.tmp 28) 0, type := 0, pos := _, after := #[{ on := 18, ground := Ground.data }, { on := 9, ground := Ground.guard }], guard := some (9, true) }) (v := undef) rfl (by kernel_rfl) (by kernel_rfl) (by kernel_rfl) (fun _ _ _ h => h) (Or.inr ⟨by rfl, rfl⟩) (by assumption) ?_
      (try simp only [Act.put, List.setIfInBounds_toArray, List.set_cons_zero, List.set_cons_succ])
      refine wpAnyH_take (i := 20) (oi := { dst := some 30, op := Op.load 9 (Operand.tmp 29), type := 9, pos := _, after := #[{ on := 19, ground := Ground.data }, { on := 9, ground := Ground.guard }], guard := some (9, true) }) (v := undef) rfl (by kernel_rfl) (by kernel_rfl) (by kernel_rfl) (fun _ _ _ h => h) (Or.inr ⟨by rfl, rfl⟩) (by assumption) ?_
      refine wpAnyH_take (i := 21) (oi := { dst := some 31, op := Op.binOp BinOp.geq 9 (Operand.tmp 25) (Operand.tmp 30) 9, type := 4, pos := _, after := #[{ on := 15, ground := Ground.data }, { on := 20, ground := Ground.data }, { on := 9, ground := Ground.guard }], guard := some (9, true) }) (v := undef) rfl (by kernel_rfl) (by kernel_rfl) (by kernel_rfl) (fun _ _ _ h => h) (Or.inr ⟨by rfl, rfl⟩) (by assumption) ?_
      refine wpAnyH_take (i := 22) (oi := { dst := some 32, op := Op.pick (Operand.tmp 19) (Operand.tmp 31) (Operand.const (Value.bool false)), type := 4, pos := _, after := #[{ on := 9, ground := Ground.data }, { on := 21, ground := Ground.data }, { on := 6, ground := Ground.guard }], guard := some (6, false) }) (v := undef) rfl (by kernel_rfl) (by kernel_rfl) (by kernel_rfl) (fun _ _ _ h => h) (Or.inr ⟨by rfl, rfl⟩) (by assumption) ?_
      (try simp only [Act.put, List.setIfInBounds_toArray, List.set_cons_zero, List.set_cons_succ])
      refine wpAnyH_take (i := 23) (oi := { dst := some 33, op := Op.pick (Operand.tmp 16) (Operand.const (Value.bool true)) (Operand.tmp 32), type := 4, pos := _, after := #[{ on := 6, ground := Ground.data }, { on := 22, ground := Ground.data }], guard := none }) (v := ?vr1x7) rfl (by kernel_rfl) (by kernel_rfl) (by kernel_rfl) (fun _ _ _ h => h) (Or.inl ⟨by rfl, ?yr1x7⟩) (by assumption) ?rr1x7
      case yr1x7 => (intro w' hSw; (try dsimp only at hSw); go_simp; (try with_reducible rfl))
      (try simp only [Act.put, List.setIfInBounds_toArray, List.set_cons_zero, List.set_cons_succ])
      refine wpAnyH_done (by kernel_rfl) ?_ _
      have hS := (by assumption : Hid (Below wr.heap.size wr _) ∧ _)
      have HBF := Lib.hid (HB.out.trans (hS.1.out.mono HB.out.size))
      go_wp2_with fail
      go_ret
      exact ⟨by rw [HY.out]; rfl, HBF.out⟩
    have HOK := Lib.hid (rtB_iff.1 hi)
    rw [hi] at HIT
    clear hi
    by_cases hk0 : 0 < k
    rotate_left
    · have HS2 := Lib.hid (HSU.out HOK.out (fun h0 => absurd h0 hk0))
      have hd : decide ((0 : Int) < (k : Int)) = false := decide_eq_false (by omega)
      go_upto_region 4 with fail
      refine wp_region_held_drew (S := (fun W' => Hid (Below wr.heap.size wr W') ∧ W'.cell? ⟨b2, o2 + k * 2, none⟩ = some (.string x.item) ∧ W'.cell? ⟨b2, o2 + k * 2 + 1, none⟩ = some (.slice sa x.steps.length sc))) (by kernel_rfl) (hold2 e0 e1 (Below.refl _ _).drew) (fun hHeld => ?_)
      refine wpAnyH_take (i := 0) (oi := { dst := some 10, op := Op.move (Operand.tmp 0), type := 51, pos := _, after := #[], guard := none }) (v := ?vr2x1) rfl (by kernel_rfl) (by kernel_rfl) (by kernel_rfl) (fun _ _ _ h => h) (Or.inl ⟨by rfl, ?yr2x1⟩) (by assumption) ?rr2x1
      case yr2x1 => (intro w' hSw; (try dsimp only at hSw); go_simp; (try with_reducible rfl))
      refine wpAnyH_take (i := 1) (oi := { dst := some 11, op := Op.move (Operand.tmp 3), type := 3, pos := _, after := #[], guard := none }) (v := ?vr2x2) rfl (by kernel_rfl) (by kernel_rfl) (by kernel_rfl) (fun _ _ _ h => h) (Or.inl ⟨by rfl, ?yr2x2⟩) (by assumption) ?rr2x2
      case yr2x2 => (intro w' hSw; (try dsimp only at hSw); go_simp; (try with_reducible rfl))
      refine wpAnyH_take (i := 2) (oi := { dst := some 12, op := Op.indexAddr 51 (Operand.tmp 10) (Operand.tmp 11), type := 0, pos := _, after := #[{ on := 0, ground := Ground.data }, { on := 1, ground := Ground.data }], guard := none }) (v := ?vr2x3) rfl (by kernel_rfl) (by kernel_rfl) (by kernel_rfl) (fun _ _ _ h => h) (Or.inl ⟨by rfl, ?yr2x3⟩) (by assumption) ?rr2x3
      case yr2x3 => (intro w' hSw; (try dsimp only at hSw); go_simp; (try with_reducible rfl))
      (try simp only [Act.put, List.setIfInBounds_toArray, List.set_cons_zero, List.set_cons_succ])
      refine wpAnyH_take (i := 3) (oi := { dst := some 13, op := Op.load 26 (Operand.tmp 12), type := 26, pos := _, after := #[{ on := 2, ground := Ground.data }], guard := none }) (v := ?vr2x4) rfl (by kernel_rfl) (by kernel_rfl) (by kernel_rfl) (fun _ _ _ h => h) (Or.inl ⟨by rfl, ?yr2x4⟩) (by assumption) ?rr2x4
      case yr2x4 => (intro w' hSw; (try dsimp only at hSw); go_simp; (try with_reducible rfl))
      (try simp only [Act.put, List.setIfInBounds_toArray, List.set_cons_zero, List.set_cons_succ])
      refine wpAnyH_ready (rs := [4]) (by kernel_rfl) (by simp) ?_
      refine AllReadyH.cons (o := { dst := some 14, op := Op.call { callee := Callee.value (Operand.func 26), args := #[Operand.tmp 13], argTypes := #[26] }, type := 4, pos := _, after := #[{ on := 3, ground := Ground.data }], guard := none }) rfl (fun K hK => ?_) AllReadyH.nil
      go_simp
      refine (HIT.out _ (by first | exact (by assumption : Hid (Below wr.heap.size wr _) ∧ _).1.out | exact Below.refl _ _ | exact (Below.refl _ _).drew)).mono ?_; rintro e w' ⟨rfl, hb⟩; have hle := hold_le (by assumption) hb
      (try go_wp2_with fail)
      refine hK.out _ _ ?_ (fun hHeld => ?_)
      · (try dsimp only); first | assumption | exact hold2 e0 e1 (hold_call (by assumption) (by assumption))
      clear hK K
      (try simp only [Act.put, List.setIfInBounds_toArray, List.set_cons_zero, List.set_cons_succ])
      refine wpAnyH_take (i := 5) (oi := { dst := some 15, op := Op.unOp UnOp.not 4 (Operand.tmp 14), type := 4, pos := _, after := #[{ on := 4, ground := Ground.data }], guard := none }) (v := ?vr2x5) rfl (by kernel_rfl) (by kernel_rfl) (by kernel_rfl) (fun _ _ _ h => h) (Or.inl ⟨by rfl, ?yr2x5⟩) (by assumption) ?rr2x5
      case yr2x5 => (intro w' hSw; (try dsimp only at hSw); go_simp; (try with_reducible rfl))
      refine wpAnyH_take (i := 6) (oi := { dst := some 16, op := Op.move (Operand.tmp 15), type := 4, pos := _, after := #[{ on := 5, ground := Ground.data }, { on := 4, ground := Ground.chain }], guard := none }) (v := ?vr2x6) rfl (by kernel_rfl) (by kernel_rfl) (by kernel_rfl) (fun _ _ _ h => h) (Or.inl ⟨by rfl, ?yr2x6⟩) (by assumption) ?rr2x6
      case yr2x6 => (intro w' hSw; (try dsimp only at hSw); go_simp; (try with_reducible rfl))
      refine wpAnyH_take (i := 7) (oi := { dst := some 17, op := Op.move (Operand.tmp 3), type := 3, pos := _, after := #[{ on := 6, ground := Ground.guard }], guard := some (6, false) }) (v := ?vr2x7) rfl (by kernel_rfl) (by kernel_rfl) (by kernel_rfl) (fun _ _ _ h => h) (Or.inl ⟨by rfl, ?yr2x7⟩) (by assumption) ?rr2x7
      case yr2x7 => (intro w' hSw; (try dsimp only at hSw); go_simp; (try with_reducible rfl))
      (try simp only [Act.put, List.setIfInBounds_toArray, List.set_cons_zero, List.set_cons_succ])
      refine wpAnyH_take (i := 8) (oi := { dst := some 18, op := Op.binOp BinOp.gtr 3 (Operand.tmp 17) (Operand.const (Value.int IntKind.i64 0)) 3, type := 4, pos := _, after := #[{ on := 7, ground := Ground.data }, { on := 6, ground := Ground.guard }], guard := some (6, false) }) (v := ?vr2x8) rfl (by kernel_rfl) (by kernel_rfl) (by kernel_rfl) (fun _ _ _ h => h) (Or.inl ⟨by rfl, ?yr2x8⟩) (by assumption) ?rr2x8
      case yr2x8 => (intro w' hSw; (try dsimp only at hSw); go_simp; (try with_reducible rfl))
      refine wpAnyH_take (i := 9) (oi := { dst := some 19, op := Op.move (Operand.tmp 18), type := 4, pos := _, after := #[{ on := 8, ground := Ground.data }, { on := 6, ground := Ground.chain }, { on := 6, ground := Ground.guard }], guard := some (6, false) }) (v := ?vr2x9) rfl (by kernel_rfl) (by kernel_rfl) (by kernel_rfl) (fun _ _ _ h => h) (Or.inl ⟨by rfl, ?yr2x9⟩) (by assumption) ?rr2x9
      case yr2x9 => (intro w' hSw; (try dsimp only at hSw); go_simp; (try with_reducible rfl))
      refine wpAnyH_take (i := 10) (oi := { dst := some 20, op := Op.move (Operand.tmp 0), type := 51, pos := _, after := #[{ on := 9, ground := Ground.guard }], guard := some (9, true) }) (v := undef) rfl (by kernel_rfl) (by kernel_rfl) (by kernel_rfl) (fun _ _ _ h => h) (Or.inr ⟨by rfl, rfl⟩) (by assumption) ?_
      (try simp only [Act.put, List.setIfInBounds_toArray, List.set_cons_zero, List.set_cons_succ])
      refine wpAnyH_take (i := 11) (oi := { dst := some 21, op := Op.move (Operand.tmp 3), type := 3, pos := _, after := #[{ on := 9, ground := Ground.guard }], guard := some (9, true) }) (v := undef) rfl (by kernel_rfl) (by kernel_rfl) (by kernel_rfl) (fun _ _ _ h => h) (Or.inr ⟨by rfl, rfl⟩) (by assumption) ?_
      refine wpAnyH_take (i := 12) (oi := { dst := some 22, op := Op.binOp BinOp.sub 3 (Operand.tmp 21) (Operand.const (Value.int IntKind.i64 1)) 3, type := 3, pos := _, after := #[{ on := 11, ground := Ground.data }, { on := 9, ground := Ground.guard }], guard := some (9, true) }) (v := undef) rfl (by kernel_rfl) (by kernel_rfl) (by kernel_rfl) (fun _ _ _ h => h) (Or.inr ⟨by rfl, rfl⟩) (by assumption) ?_
      refine wpAnyH_take (i := 13) (oi := { dst := some 23, op := Op.indexAddr 51 (Operand.tmp 20) (Operand.tmp 22), type := 0, pos := _, after := #[{ on := 10, ground := Ground.data }, { on := 12, ground := Ground.data }, { on := 9, ground := Ground.guard }], guard := some (9, true) }) (v := undef) rfl (by kernel_rfl) (by kernel_rfl) (by kernel_rfl) (fun _ _ _ h => h) (Or.inr ⟨by rfl, rfl⟩) (by assumption) ?_
      (try simp only [Act.put, List.setIfInBounds_toArray, List.set_cons_zero, List.set_cons_succ])
      refine wpAnyH_take (i := 14) (oi := { dst := some 24, op := Op.fieldAddr 26 (Operand.tmp 23) 0, type := 0, pos := _, after := #[{ on := 13, ground := Ground.data }, { on := 9, ground := Ground.guard }], guard := some (9, true) }) (v := undef) rfl (by kernel_rfl) (by kernel_rfl) (by kernel_rfl) (fun _ _ _ h => h) (Or.inr ⟨by rfl, rfl⟩) (by assumption) ?_
      refine wpAnyH_take (i := 15) (oi := { dst := some 25, op := Op.load 9 (Operand.tmp 24), type := 9, pos := _, after := #[{ on := 14, ground := Ground.data }, { on := 9, ground := Ground.guard }], guard := some (9, true) }) (v := undef) rfl (by kernel_rfl) (by kernel_rfl) (by kernel_rfl) (fun _ _ _ h => h) (Or.inr ⟨by rfl, rfl⟩) (by assumption) ?_
      refine wpAnyH_take (i := 16) (oi := { dst := some 26, op := Op.move (Operand.tmp 0), type := 51, pos := _, after := #[{ on := 9, ground := Ground.guard }], guard := some (9, true) }) (v := undef) rfl (by kernel_rfl) (by kernel_rfl) (by kernel_rfl) (fun _ _ _ h => h) (Or.inr ⟨by rfl, rfl⟩) (by assumption) ?_
      (try simp only [Act.put, List.setIfInBounds_toArray, List.set_cons_zero, List.set_cons_succ])
      refine wpAnyH_take (i := 17) (oi := { dst := some 27, op := Op.move (Operand.tmp 3), type := 3, pos := _, after := #[{ on := 9, ground := Ground.guard }], guard := some (9, true) }) (v := undef) rfl (by kernel_rfl) (by kernel_rfl) (by kernel_rfl) (fun _ _ _ h => h) (Or.inr ⟨by rfl, rfl⟩) (by assumption) ?_
      refine wpAnyH_take (i := 18) (oi := { dst := some 28, op := Op.indexAddr 51 (Operand.tmp 26) (Operand.tmp 27), type := 0, pos := _, after := #[{ on := 16, ground := Ground.data }, { on := 17, ground := Ground.data }, { on := 9, ground := Ground.guard }], guard := some (9, true) }) (v := undef) rfl (by kernel_rfl) (by kernel_rfl) (by kernel_rfl) (fun _ _ _ h => h) (Or.inr ⟨by rfl, rfl⟩) (by assumption) ?_
      refine wpAnyH_take (i := 19) (oi := { dst := some 29, op := Op.fieldAddr 26 (Operand.tmp 28) 0, type := 0, pos := _, after := #[{ on := 18, ground := Ground.data }, { on := 9, ground := Ground.guard }], guard := some (9, true) }) (v := undef) rfl (by kernel_rfl) (by kernel_rfl) (by kernel_rfl) (fun _ _ _ h => h) (Or.inr ⟨by rfl, rfl⟩) (by assumption) ?_
      (try simp only [Act.put, List.setIfInBounds_toArray, List.set_cons_zero, List.set_cons_succ])
      refine wpAnyH_take (i := 20) (oi := { dst := some 30, op := Op.load 9 (Operand.tmp 29), type := 9, pos := _, after := #[{ on := 19, ground := Ground.data }, { on := 9, ground := Ground.guard }], guard := some (9, true) }) (v := undef) rfl (by kernel_rfl) (by kernel_rfl) (by kernel_rfl) (fun _ _ _ h => h) (Or.inr ⟨by rfl, rfl⟩) (by assumption) ?_
      refine wpAnyH_take (i := 21) (oi := { dst := some 31, op := Op.binOp BinOp.geq 9 (Operand.tmp 25) (Operand.tmp 30) 9, type := 4, pos := _, after := #[{ on := 15, ground := Ground.data }, { on := 20, ground := Ground.data }, { on := 9, ground := Ground.guard }], guard := some (9, true) }) (v := undef) rfl (by kernel_rfl) (by kernel_rfl) (by kernel_rfl) (fun _ _ _ h => h) (Or.inr ⟨by rfl, rfl⟩) (by assumption) ?_
      refine wpAnyH_take (i := 22) (oi := { dst := some 32, op := Op.pick (Operand.tmp 19) (Operand.tmp 31) (Operand.const (Value.bool false)), type := 4, pos := _, after := #[{ on := 9, ground := Ground.data }, { on := 21, ground := Ground.data }, { on := 6, ground := Ground.guard }], guard := some (6, false) }) (v := ?vr2x10) rfl (by kernel_rfl) (by kernel_rfl) (by kernel_rfl) (fun _ _ _ h => h) (Or.inl ⟨by rfl, ?yr2x10⟩) (by assumption) ?rr2x10
      case yr2x10 => (intro w' hSw; (try dsimp only at hSw); go_simp; (try with_reducible rfl))
      (try simp only [Act.put, List.setIfInBounds_toArray, List.set_cons_zero, List.set_cons_succ])
      refine wpAnyH_take (i := 23) (oi := { dst := some 33, op := Op.pick (Operand.tmp 16) (Operand.const (Value.bool true)) (Operand.tmp 32), type := 4, pos := _, after := #[{ on := 6, ground := Ground.data }, { on := 22, ground := Ground.data }], guard := none }) (v := ?vr2x11) rfl (by kernel_rfl) (by kernel_rfl) (by kernel_rfl) (fun _ _ _ h => h) (Or.inl ⟨by rfl, ?yr2x11⟩) (by assumption) ?rr2x11
      case yr2x11 => (intro w' hSw; (try dsimp only at hSw); go_simp; (try with_reducible rfl))
      (try simp only [Act.put, List.setIfInBounds_toArray, List.set_cons_zero, List.set_cons_succ])
      refine wpAnyH_done (by kernel_rfl) ?_ _
      have hS := (by assumption : Hid (Below wr.heap.size wr _) ∧ _)
      have HBF := Lib.hid (HB.out.trans (hS.1.out.mono HB.out.size))
      go_wp2_with fail
      go_roundw
      case rel => exact ⟨k + 1, by have := HLT.out; omega, by go_num, HS2, HBF⟩
      case measure => have := HLT.out; simp [intOf]; omega
    have hd : decide ((0 : Int) < (k : Int)) = true := decide_eq_true (by omega)
    have hm1 : k - 1 < l.length := by have := HLT.out; omega
    have hix : ((k : Int) - 1) = ((k - 1 : Nat) : Int) := by omega
    obtain ⟨b3, o3, c3', cl3, hv3, hc3, hb3, hcl3, hr3, hcell3⟩ := HXR.out.get (k - 1) hm1
    simp only [Value.slice.injEq, Option.some.injEq, Addr.mk.injEq] at hv3
    obtain ⟨⟨rfl, rfl, _⟩, _, rfl⟩ := hv3
    obtain ⟨u3, rfl, _⟩ := hr3
    have p0 := hcell3 0 (by omega)
    simp only [List.getElem?_cons_zero, Nat.add_zero] at p0
    clear hcell3 hc3 hcl3 hb3
    have HN3 : Hid (¬strLt (l[k - 1]'hm1).item x.item → rtsB l = false) := Lib.hid (fun h => HN2.out hk0 h)
    have HSU3 : Hid (strLt (l[k - 1]'hm1).item x.item → RtsTo l (k + 1)) := Lib.hid (fun h => HSU.out HOK.out (fun _ => h))
    generalize (l[k - 1]'hm1) = p at *
    clear HN2 HSU HN1
    obtain ⟨m, hm⟩ : ∃ m, k - 1 = m := ⟨_, rfl⟩
    rw [hm] at hix p0 hm1
    have HKM := Lib.hid (show k = m + 1 by have := HLT.out; omega)
    clear hm
    have hwm : IntKind.i64.wrap (m : Int) = (m : Int) := (IntKind.wrap_i64 _).trans (by omega)
    have hmi : (m : Int) < (l.length : Int) := by omega
    have hm0 : (0 : Int) ≤ (m : Int) := by omega
    by_cases ho : strLt p.item x.item
    · have HS2 := Lib.hid (HSU3.out ho)
      have l1 : Op.bytesLess p.item.toList x.item.toList = true := ho
      clear ho
      go_upto_region 4 with fail
      refine wp_region_held_drew (S := (fun W' => Hid (Below wr.heap.size wr W') ∧ W'.cell? ⟨b2, o2 + k * 2, none⟩ = some (.string x.item) ∧ W'.cell? ⟨b2, o2 + k * 2 + 1, none⟩ = some (.slice sa x.steps.length sc) ∧ W'.cell? ⟨b2, o2 + m * 2, none⟩ = some (.string p.item))) (by kernel_rfl) (hold3 e0 e1 p0 (Below.refl _ _).drew) (fun hHeld => ?_)
      refine wpAnyH_take (i := 0) (oi := { dst := some 10, op := Op.move (Operand.tmp 0), type := 51, pos := _, after := #[], guard := none }) (v := ?vr3x1) rfl (by kernel_rfl) (by kernel_rfl) (by kernel_rfl) (fun _ _ _ h => h) (Or.inl ⟨by rfl, ?yr3x1⟩) (by assumption) ?rr3x1
      case yr3x1 => (intro w' hSw; (try dsimp only at hSw); go_simp; (try with_reducible rfl))
      refine wpAnyH_take (i := 1) (oi := { dst := some 11, op := Op.move (Operand.tmp 3), type := 3, pos := _, after := #[], guard := none }) (v := ?vr3x2) rfl (by kernel_rfl) (by kernel_rfl) (by kernel_rfl) (fun _ _ _ h => h) (Or.inl ⟨by rfl, ?yr3x2⟩) (by assumption) ?rr3x2
      case yr3x2 => (intro w' hSw; (try dsimp only at hSw); go_simp; (try with_reducible rfl))
      refine wpAnyH_take (i := 2) (oi := { dst := some 12, op := Op.indexAddr 51 (Operand.tmp 10) (Operand.tmp 11), type := 0, pos := _, after := #[{ on := 0, ground := Ground.data }, { on := 1, ground := Ground.data }], guard := none }) (v := ?vr3x3) rfl (by kernel_rfl) (by kernel_rfl) (by kernel_rfl) (fun _ _ _ h => h) (Or.inl ⟨by rfl, ?yr3x3⟩) (by assumption) ?rr3x3
      case yr3x3 => (intro w' hSw; (try dsimp only at hSw); go_simp; (try with_reducible rfl))
      (try simp only [Act.put, List.setIfInBounds_toArray, List.set_cons_zero, List.set_cons_succ])
      refine wpAnyH_take (i := 3) (oi := { dst := some 13, op := Op.load 26 (Operand.tmp 12), type := 26, pos := _, after := #[{ on := 2, ground := Ground.data }], guard := none }) (v := ?vr3x4) rfl (by kernel_rfl) (by kernel_rfl) (by kernel_rfl) (fun _ _ _ h => h) (Or.inl ⟨by rfl, ?yr3x4⟩) (by assumption) ?rr3x4
      case yr3x4 => (intro w' hSw; (try dsimp only at hSw); go_simp; (try with_reducible rfl))
      (try simp only [Act.put, List.setIfInBounds_toArray, List.set_cons_zero, List.set_cons_succ])
      refine wpAnyH_ready (rs := [4]) (by kernel_rfl) (by simp) ?_
      refine AllReadyH.cons (o := { dst := some 14, op := Op.call { callee := Callee.value (Operand.func 26), args := #[Operand.tmp 13], argTypes := #[26] }, type := 4, pos := _, after := #[{ on := 3, ground := Ground.data }], guard := none }) rfl (fun K hK => ?_) AllReadyH.nil
      go_simp
      refine (HIT.out _ (by first | exact (by assumption : Hid (Below wr.heap.size wr _) ∧ _).1.out | exact Below.refl _ _ | exact (Below.refl _ _).drew)).mono ?_; rintro e w' ⟨rfl, hb⟩; have hle := hold_le (by assumption) hb
      (try go_wp2_with fail)
      refine hK.out _ _ ?_ (fun hHeld => ?_)
      · (try dsimp only); first | assumption | exact hold3 e0 e1 p0 (hold_call (by assumption) (by assumption))
      clear hK K
      (try simp only [Act.put, List.setIfInBounds_toArray, List.set_cons_zero, List.set_cons_succ])
      refine wpAnyH_take (i := 5) (oi := { dst := some 15, op := Op.unOp UnOp.not 4 (Operand.tmp 14), type := 4, pos := _, after := #[{ on := 4, ground := Ground.data }], guard := none }) (v := ?vr3x5) rfl (by kernel_rfl) (by kernel_rfl) (by kernel_rfl) (fun _ _ _ h => h) (Or.inl ⟨by rfl, ?yr3x5⟩) (by assumption) ?rr3x5
      case yr3x5 => (intro w' hSw; (try dsimp only at hSw); go_simp; (try with_reducible rfl))
      refine wpAnyH_take (i := 6) (oi := { dst := some 16, op := Op.move (Operand.tmp 15), type := 4, pos := _, after := #[{ on := 5, ground := Ground.data }, { on := 4, ground := Ground.chain }], guard := none }) (v := ?vr3x6) rfl (by kernel_rfl) (by kernel_rfl) (by kernel_rfl) (fun _ _ _ h => h) (Or.inl ⟨by rfl, ?yr3x6⟩) (by assumption) ?rr3x6
      case yr3x6 => (intro w' hSw; (try dsimp only at hSw); go_simp; (try with_reducible rfl))
      refine wpAnyH_take (i := 7) (oi := { dst := some 17, op := Op.move (Operand.tmp 3), type := 3, pos := _, after := #[{ on := 6, ground := Ground.guard }], guard := some (6, false) }) (v := ?vr3x7) rfl (by kernel_rfl) (by kernel_rfl) (by kernel_rfl) (fun _ _ _ h => h) (Or.inl ⟨by rfl, ?yr3x7⟩) (by assumption) ?rr3x7
      case yr3x7 => (intro w' hSw; (try dsimp only at hSw); go_simp; (try with_reducible rfl))
      (try simp only [Act.put, List.setIfInBounds_toArray, List.set_cons_zero, List.set_cons_succ])
      refine wpAnyH_take (i := 8) (oi := { dst := some 18, op := Op.binOp BinOp.gtr 3 (Operand.tmp 17) (Operand.const (Value.int IntKind.i64 0)) 3, type := 4, pos := _, after := #[{ on := 7, ground := Ground.data }, { on := 6, ground := Ground.guard }], guard := some (6, false) }) (v := ?vr3x8) rfl (by kernel_rfl) (by kernel_rfl) (by kernel_rfl) (fun _ _ _ h => h) (Or.inl ⟨by rfl, ?yr3x8⟩) (by assumption) ?rr3x8
      case yr3x8 => (intro w' hSw; (try dsimp only at hSw); go_simp; (try with_reducible rfl))
      refine wpAnyH_take (i := 9) (oi := { dst := some 19, op := Op.move (Operand.tmp 18), type := 4, pos := _, after := #[{ on := 8, ground := Ground.data }, { on := 6, ground := Ground.chain }, { on := 6, ground := Ground.guard }], guard := some (6, false) }) (v := ?vr3x9) rfl (by kernel_rfl) (by kernel_rfl) (by kernel_rfl) (fun _ _ _ h => h) (Or.inl ⟨by rfl, ?yr3x9⟩) (by assumption) ?rr3x9
      case yr3x9 => (intro w' hSw; (try dsimp only at hSw); go_simp; (try with_reducible rfl))
      refine wpAnyH_take (i := 10) (oi := { dst := some 20, op := Op.move (Operand.tmp 0), type := 51, pos := _, after := #[{ on := 9, ground := Ground.guard }], guard := some (9, true) }) (v := ?vr3x10) rfl (by kernel_rfl) (by kernel_rfl) (by kernel_rfl) (fun _ _ _ h => h) (Or.inl ⟨by rfl, ?yr3x10⟩) (by assumption) ?rr3x10
      case yr3x10 => (intro w' hSw; (try dsimp only at hSw); go_simp; (try with_reducible rfl))
      (try simp only [Act.put, List.setIfInBounds_toArray, List.set_cons_zero, List.set_cons_succ])
      refine wpAnyH_take (i := 11) (oi := { dst := some 21, op := Op.move (Operand.tmp 3), type := 3, pos := _, after := #[{ on := 9, ground := Ground.guard }], guard := some (9, true) }) (v := ?vr3x11) rfl (by kernel_rfl) (by kernel_rfl) (by kernel_rfl) (fun _ _ _ h => h) (Or.inl ⟨by rfl, ?yr3x11⟩) (by assumption) ?rr3x11
      case yr3x11 => (intro w' hSw; (try dsimp only at hSw); go_simp; (try with_reducible rfl))
      refine wpAnyH_take (i := 12) (oi := { dst := some 22, op := Op.binOp BinOp.sub 3 (Operand.tmp 21) (Operand.const (Value.int IntKind.i64 1)) 3, type := 3, pos := _, after := #[{ on := 11, ground := Ground.data }, { on := 9, ground := Ground.guard }], guard := some (9, true) }) (v := ?vr3x12) rfl (by kernel_rfl) (by kernel_rfl) (by kernel_rfl) (fun _ _ _ h => h) (Or.inl ⟨by rfl, ?yr3x12⟩) (by assumption) ?rr3x12
      case yr3x12 => (intro w' hSw; (try dsimp only at hSw); go_simp; (try with_reducible rfl))
      refine wpAnyH_take (i := 13) (oi := { dst := some 23, op := Op.indexAddr 51 (Operand.tmp 20) (Operand.tmp 22), type := 0, pos := _, after := #[{ on := 10, ground := Ground.data }, { on := 12, ground := Ground.data }, { on := 9, ground := Ground.guard }], guard := some (9, true) }) (v := ?vr3x13) rfl (by kernel_rfl) (by kernel_rfl) (by kernel_rfl) (fun _ _ _ h => h) (Or.inl ⟨by rfl, ?yr3x13⟩) (by assumption) ?rr3x13
      case yr3x13 => (intro w' hSw; (try dsimp only at hSw); go_simp; (try with_reducible rfl))
      (try simp only [Act.put, List.setIfInBounds_toArray, List.set_cons_zero, List.set_cons_succ])
      refine wpAnyH_take (i := 14) (oi := { dst := some 24, op := Op.fieldAddr 26 (Operand.tmp 23) 0, type := 0, pos := _, after := #[{ on := 13, ground := Ground.data }, { on := 9, ground := Ground.guard }], guard := some (9, true) }) (v := ?vr3x14) rfl (by kernel_rfl) (by kernel_rfl) (by kernel_rfl) (fun _ _ _ h => h) (Or.inl ⟨by rfl, ?yr3x14⟩) (by assumption) ?rr3x14
      case yr3x14 => (intro w' hSw; (try dsimp only at hSw); go_simp; (try with_reducible rfl))
      refine wpAnyH_take (i := 15) (oi := { dst := some 25, op := Op.load 9 (Operand.tmp 24), type := 9, pos := _, after := #[{ on := 14, ground := Ground.data }, { on := 9, ground := Ground.guard }], guard := some (9, true) }) (v := ?vr3x15) rfl (by kernel_rfl) (by kernel_rfl) (by kernel_rfl) (fun _ _ _ h => h) (Or.inl ⟨by rfl, ?yr3x15⟩) (by assumption) ?rr3x15
      case yr3x15 => (intro w' hSw; (try dsimp only at hSw); go_simp; (try with_reducible rfl))
      refine wpAnyH_take (i := 16) (oi := { dst := some 26, op := Op.move (Operand.tmp 0), type := 51, pos := _, after := #[{ on := 9, ground := Ground.guard }], guard := some (9, true) }) (v := ?vr3x16) rfl (by kernel_rfl) (by kernel_rfl) (by kernel_rfl) (fun _ _ _ h => h) (Or.inl ⟨by rfl, ?yr3x16⟩) (by assumption) ?rr3x16
      case yr3x16 => (intro w' hSw; (try dsimp only at hSw); go_simp; (try with_reducible rfl))
      (try simp only [Act.put, List.setIfInBounds_toArray, List.set_cons_zero, List.set_cons_succ])
      refine wpAnyH_take (i := 17) (oi := { dst := some 27, op := Op.move (Operand.tmp 3), type := 3, pos := _, after := #[{ on := 9, ground := Ground.guard }], guard := some (9, true) }) (v := ?vr3x17) rfl (by kernel_rfl) (by kernel_rfl) (by kernel_rfl) (fun _ _ _ h => h) (Or.inl ⟨by rfl, ?yr3x17⟩) (by assumption) ?rr3x17
      case yr3x17 => (intro w' hSw; (try dsimp only at hSw); go_simp; (try with_reducible rfl))
      refine wpAnyH_take (i := 18) (oi := { dst := some 28, op := Op.indexAddr 51 (Operand.tmp 26) (Operand.tmp 27), type := 0, pos := _, after := #[{ on := 16, ground := Ground.data }, { on := 17, ground := Ground.data }, { on := 9, ground := Ground.guard }], guard := some (9, true) }) (v := ?vr3x18) rfl (by kernel_rfl) (by kernel_rfl) (by kernel_rfl) (fun _ _ _ h => h) (Or.inl ⟨by rfl, ?yr3x18⟩) (by assumption) ?rr3x18
      case yr3x18 => (intro w' hSw; (try dsimp only at hSw); go_simp; (try with_reducible rfl))
      refine wpAnyH_take (i := 19) (oi := { dst := some 29, op := Op.fieldAddr 26 (Operand.tmp 28) 0, type := 0, pos := _, after := #[{ on := 18, ground := Ground.data }, { on := 9, ground := Ground.guard }], guard := some (9, true) }) (v := ?vr3x19) rfl (by kernel_rfl) (by kernel_rfl) (by kernel_rfl) (fun _ _ _ h => h) (Or.inl ⟨by rfl, ?yr3x19⟩) (by assumption) ?rr3x19
      case yr3x19 => (intro w' hSw; (try dsimp only at hSw); go_simp; (try with_reducible rfl))
      (try simp only [Act.put, List.setIfInBounds_toArray, List.set_cons_zero, List.set_cons_succ])
      refine wpAnyH_take (i := 20) (oi := { dst := some 30, op := Op.load 9 (Operand.tmp 29), type := 9, pos := _, after := #[{ on := 19, ground := Ground.data }, { on := 9, ground := Ground.guard }], guard := some (9, true) }) (v := ?vr3x20) rfl (by kernel_rfl) (by kernel_rfl) (by kernel_rfl) (fun _ _ _ h => h) (Or.inl ⟨by rfl, ?yr3x20⟩) (by assumption) ?rr3x20
      case yr3x20 => (intro w' hSw; (try dsimp only at hSw); go_simp; (try with_reducible rfl))
      refine wpAnyH_take (i := 21) (oi := { dst := some 31, op := Op.binOp BinOp.geq 9 (Operand.tmp 25) (Operand.tmp 30) 9, type := 4, pos := _, after := #[{ on := 15, ground := Ground.data }, { on := 20, ground := Ground.data }, { on := 9, ground := Ground.guard }], guard := some (9, true) }) (v := ?vr3x21) rfl (by kernel_rfl) (by kernel_rfl) (by kernel_rfl) (fun _ _ _ h => h) (Or.inl ⟨by rfl, ?yr3x21⟩) (by assumption) ?rr3x21
      case yr3x21 => (intro w' hSw; (try dsimp only at hSw); go_simp; (try with_reducible rfl))
      refine wpAnyH_take (i := 22) (oi := { dst := some 32, op := Op.pick (Operand.tmp 19) (Operand.tmp 31) (Operand.const (Value.bool false)), type := 4, pos := _, after := #[{ on := 9, ground := Ground.data }, { on := 21, ground := Ground.data }, { on := 6, ground := Ground.guard }], guard := some (6, false) }) (v := ?vr3x22) rfl (by kernel_rfl) (by kernel_rfl) (by kernel_rfl) (fun _ _ _ h => h) (Or.inl ⟨by rfl, ?yr3x22⟩) (by assumption) ?rr3x22
      case yr3x22 => (intro w' hSw; (try dsimp only at hSw); go_simp; (try with_reducible rfl))
      (try simp only [Act.put, List.setIfInBounds_toArray, List.set_cons_zero, List.set_cons_succ])
      refine wpAnyH_take (i := 23) (oi := { dst := some 33, op := Op.pick (Operand.tmp 16) (Operand.const (Value.bool true)) (Operand.tmp 32), type := 4, pos := _, after := #[{ on := 6, ground := Ground.data }, { on := 22, ground := Ground.data }], guard := none }) (v := ?vr3x23) rfl (by kernel_rfl) (by kernel_rfl) (by kernel_rfl) (fun _ _ _ h => h) (Or.inl ⟨by rfl, ?yr3x23⟩) (by assumption) ?rr3x23
      case yr3x23 => (intro w' hSw; (try dsimp only at hSw); go_simp; (try with_reducible rfl))
      (try simp only [Act.put, List.setIfInBounds_toArray, List.set_cons_zero, List.set_cons_succ])
      refine wpAnyH_done (by kernel_rfl) ?_ _
      have hS := (by assumption : Hid (Below wr.heap.size wr _) ∧ _)
      have HBF := Lib.hid (HB.out.trans (hS.1.out.mono HB.out.size))
      go_wp2_with fail
      go_roundw
      case rel => exact ⟨k + 1, by have := HLT.out; omega, by go_num, HS2, HBF⟩
      case measure => have := HLT.out; simp [intOf]; omega
    · have HY := Lib.hid (HN3.out ho)
      have l1 : Op.bytesLess p.item.toList x.item.toList = false := less_no ho
      clear ho
      go_upto_region 4 with fail
      refine wp_region_held_drew (S := (fun W' => Hid (Below wr.heap.size wr W') ∧ W'.cell? ⟨b2, o2 + k * 2, none⟩ = some (.string x.item) ∧ W'.cell? ⟨b2, o2 + k * 2 + 1, none⟩ = some (.slice sa x.steps.length sc) ∧ W'.cell? ⟨b2, o2 + m * 2, none⟩ = some (.string p.item))) (by kernel_rfl) (hold3 e0 e1 p0 (Below.refl _ _).drew) (fun hHeld => ?_)
      refine wpAnyH_take (i := 0) (oi := { dst := some 10, op := Op.move (Operand.tmp 0), type := 51, pos := _, after := #[], guard := none }) (v := ?vr4x1) rfl (by kernel_rfl) (by kernel_rfl) (by kernel_rfl) (fun _ _ _ h => h) (Or.inl ⟨by rfl, ?yr4x1⟩) (by assumption) ?rr4x1
      case yr4x1 => (intro w' hSw; (try dsimp only at hSw); go_simp; (try with_reducible rfl))
      refine wpAnyH_take (i := 1) (oi := { dst := some 11, op := Op.move (Operand.tmp 3), type := 3, pos := _, after := #[], guard := none }) (v := ?vr4x2) rfl (by kernel_rfl) (by kernel_rfl) (by kernel_rfl) (fun _ _ _ h => h) (Or.inl ⟨by rfl, ?yr4x2⟩) (by assumption) ?rr4x2
      case yr4x2 => (intro w' hSw; (try dsimp only at hSw); go_simp; (try with_reducible rfl))
      refine wpAnyH_take (i := 2) (oi := { dst := some 12, op := Op.indexAddr 51 (Operand.tmp 10) (Operand.tmp 11), type := 0, pos := _, after := #[{ on := 0, ground := Ground.data }, { on := 1, ground := Ground.data }], guard := none }) (v := ?vr4x3) rfl (by kernel_rfl) (by kernel_rfl) (by kernel_rfl) (fun _ _ _ h => h) (Or.inl ⟨by rfl, ?yr4x3⟩) (by assumption) ?rr4x3
      case yr4x3 => (intro w' hSw; (try dsimp only at hSw); go_simp; (try with_reducible rfl))
      (try simp only [Act.put, List.setIfInBounds_toArray, List.set_cons_zero, List.set_cons_succ])
      refine wpAnyH_take (i := 3) (oi := { dst := some 13, op := Op.load 26 (Operand.tmp 12), type := 26, pos := _, after := #[{ on := 2, ground := Ground.data }], guard := none }) (v := ?vr4x4) rfl (by kernel_rfl) (by kernel_rfl) (by kernel_rfl) (fun _ _ _ h => h) (Or.inl ⟨by rfl, ?yr4x4⟩) (by assumption) ?rr4x4
      case yr4x4 => (intro w' hSw; (try dsimp only at hSw); go_simp; (try with_reducible rfl))
      (try simp only [Act.put, List.setIfInBounds_toArray, List.set_cons_zero, List.set_cons_succ])
      refine wpAnyH_ready (rs := [4]) (by kernel_rfl) (by simp) ?_
      refine AllReadyH.cons (o := { dst := some 14, op := Op.call { callee := Callee.value (Operand.func 26), args := #[Operand.tmp 13], argTypes := #[26] }, type := 4, pos := _, after := #[{ on := 3, ground := Ground.data }], guard := none }) rfl (fun K hK => ?_) AllReadyH.nil
      go_simp
      refine (HIT.out _ (by first | exact (by assumption : Hid (Below wr.heap.size wr _) ∧ _).1.out | exact Below.refl _ _ | exact (Below.refl _ _).drew)).mono ?_; rintro e w' ⟨rfl, hb⟩; have hle := hold_le (by assumption) hb
      (try go_wp2_with fail)
      refine hK.out _ _ ?_ (fun hHeld => ?_)
      · (try dsimp only); first | assumption | exact hold3 e0 e1 p0 (hold_call (by assumption) (by assumption))
      clear hK K
      (try simp only [Act.put, List.setIfInBounds_toArray, List.set_cons_zero, List.set_cons_succ])
      refine wpAnyH_take (i := 5) (oi := { dst := some 15, op := Op.unOp UnOp.not 4 (Operand.tmp 14), type := 4, pos := _, after := #[{ on := 4, ground := Ground.data }], guard := none }) (v := ?vr4x5) rfl (by kernel_rfl) (by kernel_rfl) (by kernel_rfl) (fun _ _ _ h => h) (Or.inl ⟨by rfl, ?yr4x5⟩) (by assumption) ?rr4x5
      case yr4x5 => (intro w' hSw; (try dsimp only at hSw); go_simp; (try with_reducible rfl))
      refine wpAnyH_take (i := 6) (oi := { dst := some 16, op := Op.move (Operand.tmp 15), type := 4, pos := _, after := #[{ on := 5, ground := Ground.data }, { on := 4, ground := Ground.chain }], guard := none }) (v := ?vr4x6) rfl (by kernel_rfl) (by kernel_rfl) (by kernel_rfl) (fun _ _ _ h => h) (Or.inl ⟨by rfl, ?yr4x6⟩) (by assumption) ?rr4x6
      case yr4x6 => (intro w' hSw; (try dsimp only at hSw); go_simp; (try with_reducible rfl))
      refine wpAnyH_take (i := 7) (oi := { dst := some 17, op := Op.move (Operand.tmp 3), type := 3, pos := _, after := #[{ on := 6, ground := Ground.guard }], guard := some (6, false) }) (v := ?vr4x7) rfl (by kernel_rfl) (by kernel_rfl) (by kernel_rfl) (fun _ _ _ h => h) (Or.inl ⟨by rfl, ?yr4x7⟩) (by assumption) ?rr4x7
      case yr4x7 => (intro w' hSw; (try dsimp only at hSw); go_simp; (try with_reducible rfl))
      (try simp only [Act.put, List.setIfInBounds_toArray, List.set_cons_zero, List.set_cons_succ])
      refine wpAnyH_take (i := 8) (oi := { dst := some 18, op := Op.binOp BinOp.gtr 3 (Operand.tmp 17) (Operand.const (Value.int IntKind.i64 0)) 3, type := 4, pos := _, after := #[{ on := 7, ground := Ground.data }, { on := 6, ground := Ground.guard }], guard := some (6, false) }) (v := ?vr4x8) rfl (by kernel_rfl) (by kernel_rfl) (by kernel_rfl) (fun _ _ _ h => h) (Or.inl ⟨by rfl, ?yr4x8⟩) (by assumption) ?rr4x8
      case yr4x8 => (intro w' hSw; (try dsimp only at hSw); go_simp; (try with_reducible rfl))
      refine wpAnyH_take (i := 9) (oi := { dst := some 19, op := Op.move (Operand.tmp 18), type := 4, pos := _, after := #[{ on := 8, ground := Ground.data }, { on := 6, ground := Ground.chain }, { on := 6, ground := Ground.guard }], guard := some (6, false) }) (v := ?vr4x9) rfl (by kernel_rfl) (by kernel_rfl) (by kernel_rfl) (fun _ _ _ h => h) (Or.inl ⟨by rfl, ?yr4x9⟩) (by assumption) ?rr4x9
      case yr4x9 => (intro w' hSw; (try dsimp only at hSw); go_simp; (try with_reducible rfl))
      refine wpAnyH_take (i := 10) (oi := { dst := some 20, op := Op.move (Operand.tmp 0), type := 51, pos := _, after := #[{ on := 9, ground := Ground.guard }], guard := some (9, true) }) (v := ?vr4x10) rfl (by kernel_rfl) (by kernel_rfl) (by kernel_rfl) (fun _ _ _ h => h) (Or.inl ⟨by rfl, ?yr4x10⟩) (by assumption) ?rr4x10
      case yr4x10 => (intro w' hSw; (try dsimp only at hSw); go_simp; (try with_reducible rfl))
      (try simp only [Act.put, List.setIfInBounds_toArray, List.set_cons_zero, List.set_cons_succ])
      refine wpAnyH_take (i := 11) (oi := { dst := some 21, op := Op.move (Operand.tmp 3), type := 3, pos := _, after := #[{ on := 9, ground := Ground.guard }], guard := some (9, true) }) (v := ?vr4x11) rfl (by kernel_rfl) (by kernel_rfl) (by kernel_rfl) (fun _ _ _ h => h) (Or.inl ⟨by rfl, ?yr4x11⟩) (by assumption) ?rr4x11
      case yr4x11 => (intro w' hSw; (try dsimp only at hSw); go_simp; (try with_reducible rfl))
      refine wpAnyH_take (i := 12) (oi := { dst := some 22, op := Op.binOp BinOp.sub 3 (Operand.tmp 21) (Operand.const (Value.int IntKind.i64 1)) 3, type := 3, pos := _, after := #[{ on := 11, ground := Ground.data }, { on := 9, ground := Ground.guard }], guard := some (9, true) }) (v := ?vr4x12) rfl (by kernel_rfl) (by kernel_rfl) (by kernel_rfl) (fun _ _ _ h => h) (Or.inl ⟨by rfl, ?yr4x12⟩) (by assumption) ?rr4x12
      case yr4x12 => (intro w' hSw; (try dsimp only at hSw); go_simp; (try with_reducible rfl))
      refine wpAnyH_take (i := 13) (oi := { dst := some 23, op := Op.indexAddr 51 (Operand.tmp 20) (Operand.tmp 22), type := 0, pos := _, after := #[{ on := 10, ground := Ground.data }, { on := 12, ground := Ground.data }, { on := 9, ground := Ground.guard }], guard := some (9, true) }) (v := ?vr4x13) rfl (by kernel_rfl) (by kernel_rfl) (by kernel_rfl) (fun _ _ _ h => h) (Or.inl ⟨by rfl, ?yr4x13⟩) (by assumption) ?rr4x13
      case yr4x13 => (intro w' hSw; (try dsimp only at hSw); go_simp; (try with_reducible rfl))
      (try simp only [Act.put, List.setIfInBounds_toArray, List.set_cons_zero, List.set_cons_succ])
      refine wpAnyH_take (i := 14) (oi := { dst := some 24, op := Op.fieldAddr 26 (Operand.tmp 23) 0, type := 0, pos := _, after := #[{ on := 13, ground := Ground.data }, { on := 9, ground := Ground.guard }], guard := some (9, true) }) (v := ?vr4x14) rfl (by kernel_rfl) (by kernel_rfl) (by kernel_rfl) (fun _ _ _ h => h) (Or.inl ⟨by rfl, ?yr4x14⟩) (by assumption) ?rr4x14
      case yr4x14 => (intro w' hSw; (try dsimp only at hSw); go_simp; (try with_reducible rfl))
      refine wpAnyH_take (i := 15) (oi := { dst := some 25, op := Op.load 9 (Operand.tmp 24), type := 9, pos := _, after := #[{ on := 14, ground := Ground.data }, { on := 9, ground := Ground.guard }], guard := some (9, true) }) (v := ?vr4x15) rfl (by kernel_rfl) (by kernel_rfl) (by kernel_rfl) (fun _ _ _ h => h) (Or.inl ⟨by rfl, ?yr4x15⟩) (by assumption) ?rr4x15
      case yr4x15 => (intro w' hSw; (try dsimp only at hSw); go_simp; (try with_reducible rfl))
      refine wpAnyH_take (i := 16) (oi := { dst := some 26, op := Op.move (Operand.tmp 0), type := 51, pos := _, after := #[{ on := 9, ground := Ground.guard }], guard := some (9, true) }) (v := ?vr4x16) rfl (by kernel_rfl) (by kernel_rfl) (by kernel_rfl) (fun _ _ _ h => h) (Or.inl ⟨by rfl, ?yr4x16⟩) (by assumption) ?rr4x16
      case yr4x16 => (intro w' hSw; (try dsimp only at hSw); go_simp; (try with_reducible rfl))
      (try simp only [Act.put, List.setIfInBounds_toArray, List.set_cons_zero, List.set_cons_succ])
      refine wpAnyH_take (i := 17) (oi := { dst := some 27, op := Op.move (Operand.tmp 3), type := 3, pos := _, after := #[{ on := 9, ground := Ground.guard }], guard := some (9, true) }) (v := ?vr4x17) rfl (by kernel_rfl) (by kernel_rfl) (by kernel_rfl) (fun _ _ _ h => h) (Or.inl ⟨by rfl, ?yr4x17⟩) (by assumption) ?rr4x17
      case yr4x17 => (intro w' hSw; (try dsimp only at hSw); go_simp; (try with_reducible rfl))
      refine wpAnyH_take (i := 18) (oi := { dst := some 28, op := Op.indexAddr 51 (Operand.tmp 26) (Operand.tmp 27), type := 0, pos := _, after := #[{ on := 16, ground := Ground.data }, { on := 17, ground := Ground.data }, { on := 9, ground := Ground.guard }], guard := some (9, true) }) (v := ?vr4x18) rfl (by kernel_rfl) (by kernel_rfl) (by kernel_rfl) (fun _ _ _ h => h) (Or.inl ⟨by rfl, ?yr4x18⟩) (by assumption) ?rr4x18
      case yr4x18 => (intro w' hSw; (try dsimp only at hSw); go_simp; (try with_reducible rfl))
      refine wpAnyH_take (i := 19) (oi := { dst := some 29, op := Op.fieldAddr 26 (Operand.tmp 28) 0, type := 0, pos := _, after := #[{ on := 18, ground := Ground.data }, { on := 9, ground := Ground.guard }], guard := some (9, true) }) (v := ?vr4x19) rfl (by kernel_rfl) (by kernel_rfl) (by kernel_rfl) (fun _ _ _ h => h) (Or.inl ⟨by rfl, ?yr4x19⟩) (by assumption) ?rr4x19
      case yr4x19 => (intro w' hSw; (try dsimp only at hSw); go_simp; (try with_reducible rfl))
      (try simp only [Act.put, List.setIfInBounds_toArray, List.set_cons_zero, List.set_cons_succ])
      refine wpAnyH_take (i := 20) (oi := { dst := some 30, op := Op.load 9 (Operand.tmp 29), type := 9, pos := _, after := #[{ on := 19, ground := Ground.data }, { on := 9, ground := Ground.guard }], guard := some (9, true) }) (v := ?vr4x20) rfl (by kernel_rfl) (by kernel_rfl) (by kernel_rfl) (fun _ _ _ h => h) (Or.inl ⟨by rfl, ?yr4x20⟩) (by assumption) ?rr4x20
      case yr4x20 => (intro w' hSw; (try dsimp only at hSw); go_simp; (try with_reducible rfl))
      refine wpAnyH_take (i := 21) (oi := { dst := some 31, op := Op.binOp BinOp.geq 9 (Operand.tmp 25) (Operand.tmp 30) 9, type := 4, pos := _, after := #[{ on := 15, ground := Ground.data }, { on := 20, ground := Ground.data }, { on := 9, ground := Ground.guard }], guard := some (9, true) }) (v := ?vr4x21) rfl (by kernel_rfl) (by kernel_rfl) (by kernel_rfl) (fun _ _ _ h => h) (Or.inl ⟨by rfl, ?yr4x21⟩) (by assumption) ?rr4x21
      case yr4x21 => (intro w' hSw; (try dsimp only at hSw); go_simp; (try with_reducible rfl))
      refine wpAnyH_take (i := 22) (oi := { dst := some 32, op := Op.pick (Operand.tmp 19) (Operand.tmp 31) (Operand.const (Value.bool false)), type := 4, pos := _, after := #[{ on := 9, ground := Ground.data }, { on := 21, ground := Ground.data }, { on := 6, ground := Ground.guard }], guard := some (6, false) }) (v := ?vr4x22) rfl (by kernel_rfl) (by kernel_rfl) (by kernel_rfl) (fun _ _ _ h => h) (Or.inl ⟨by rfl, ?yr4x22⟩) (by assumption) ?rr4x22
      case yr4x22 => (intro w' hSw; (try dsimp only at hSw); go_simp; (try with_reducible rfl))
      (try simp only [Act.put, List.setIfInBounds_toArray, List.set_cons_zero, List.set_cons_succ])
      refine wpAnyH_take (i := 23) (oi := { dst := some 33, op := Op.pick (Operand.tmp 16) (Operand.const (Value.bool true)) (Operand.tmp 32), type := 4, pos := _, after := #[{ on := 6, ground := Ground.data }, { on := 22, ground := Ground.data }], guard := none }) (v := ?vr4x23) rfl (by kernel_rfl) (by kernel_rfl) (by kernel_rfl) (fun _ _ _ h => h) (Or.inl ⟨by rfl, ?yr4x23⟩) (by assumption) ?rr4x23
      case yr4x23 => (intro w' hSw; (try dsimp only at hSw); go_simp; (try with_reducible rfl))
      (try simp only [Act.put, List.setIfInBounds_toArray, List.set_cons_zero, List.set_cons_succ])
      refine wpAnyH_done (by kernel_rfl) ?_ _
      have hS := (by assumption : Hid (Below wr.heap.size wr _) ∧ _)
      have HBF := Lib.hid (HB.out.trans (hS.1.out.mono HB.out.size))
      go_wp2_with fail
      go_ret
      exact ⟨by rw [HY.out]; rfl, HBF.out⟩

set_option maxRecDepth 100000 in
set_option maxHeartbeats 1000000 in
theorem spec_findRouting (v : Value) (l : List RT) (s : ByteArray) (lo hi : Nat) (w : World) (h : RU lo hi w v l) (hs : RU.Sz l) :
    Calls Try.prog 35 #[v, .string s] w (IntR (fiR l s) w) := by
  have hm := hs.1
  unfold maxLen at hm
  have HX := Lib.hid h
  obtain ⟨a, c, rfl⟩ := h.slice
  clear h hs
  go_enter Try.func35, Try.ntmps35
  go_wp2_with fail
  go_loop [5] (fun i => ∃ k : Nat, k ≤ l.length ∧ i = .int .i64 k ∧ Hid (∀ j (hj : j < l.length), j < k → (l[j]'hj).item ≠ s)) (fun i => l.length - (intOf i).toNat)
  case atStart => exact ⟨0, Nat.zero_le _, rfl, Lib.hid (fun j _ h => by omega)⟩
  case round =>
    obtain ⟨k, hk, rfl, HN⟩ := hrel
    by_cases hlt : k < l.length
    rotate_left
    · have HY := Lib.hid (fiR_no (l := l) (s := s) (fun j hj => HN.out j hj (by omega)))
      go_wp2_with fail
      go_ret
      exact ⟨by rw [HY.out]; rfl, Below.refl _ _⟩
    have HLT := Lib.hid hlt
    obtain ⟨b2, o2, c2', cl, hv2, hc2, hb2, hcl, hr5, hcell⟩ := HX.out.get k hlt
    simp only [Value.slice.injEq] at hv2
    obtain ⟨rfl, _, rfl⟩ := hv2
    obtain ⟨u5, rfl, h5⟩ := hr5
    have e0 := hcell 0 (by omega)
    simp only [List.getElem?_cons_zero, Nat.add_zero] at e0
    have HY : Hid ((l[k]'hlt).item = s → fiR l s = k) := Lib.hid (fun h => fiR_at hlt h (fun j hj hjk => HN.out j hj hjk))
    have HS : Hid ((l[k]'hlt).item ≠ s → ∀ j (hj : j < l.length), j < k + 1 → (l[j]'hj).item ≠ s) := Lib.hid (fun h j hj hjk => by
      by_cases e : j = k
      · subst e; exact h
      · exact HN.out j hj (by omega))
    clear hcell hc2 hcl hb2 h5
    generalize l[k]'hlt = x at *
    by_cases he : x.item = s
    · have HR := Lib.hid (HY.out he)
      have hbq := str_eq he
      clear he
      go_wp2_with fail
      go_ret
      exact ⟨by rw [HR.out]; rfl, Below.refl _ _⟩
    · have HS2 := Lib.hid (HS.out he)
      have hbq := str_ne he
      clear he
      go_wp2_with fail
      go_round
      case rel => exact ⟨k + 1, by have := HLT.out; omega, by go_num, HS2⟩
      case measure => have := HLT.out; simp [intOf]; omega
end Go.Proofs.Ytfcgdhedaefonaa
