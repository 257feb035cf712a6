/-
  The walk of the law FnChanges, given what the program owes.
-/
import Derived.Test.YtdhldokpojghdaaChgLawP
import Derived.Test.YtdhldokpojghdaaBuOwn
import Derived.WalkKit
import Derived.WalkSpells
import Derived.WalkSmall
import Derived.BigQuiet
import Derived.OneCell
import Derived.Deep.QuietTactic
import Derived.Deep.DeepCutAuto
import Derived.Deep.RegionHeld3
import Derived.Laws.OwnMore
import Derived.Lib.Hide
namespace Go.Proofs.Ytdhldokpojghdaa
open Go.RowKit

theorem days_at (dy : Int) (h0 : 0 ≤ dy) (h1 : dy ≤ 999) (W : World) (k : Nat) (hk : k < 7) : ∃ d : Int, (-1 ≤ d ∧ d ≤ 1000) ∧ (W.alloc (.cells #[.int .i64 0, .int .i64 (dy - 1), .int .i64 dy, .int .i64 (dy + 1), .int .i64 10, .int .i64 25, .int .i64 999] 3)).cell? ⟨W.heap.size, k, none⟩ = some (.int .i64 d) := by
  match k, hk with
  | 0, _ => exact ⟨0, by omega, cell_of_row _ _ 0 _ _ _ (heap_alloc_new _ _)⟩
  | 1, _ => exact ⟨dy - 1, by omega, cell_of_row _ _ 1 _ _ _ (heap_alloc_new _ _)⟩
  | 2, _ => exact ⟨dy, by omega, cell_of_row _ _ 2 _ _ _ (heap_alloc_new _ _)⟩
  | 3, _ => exact ⟨dy + 1, by omega, cell_of_row _ _ 3 _ _ _ (heap_alloc_new _ _)⟩
  | 4, _ => exact ⟨10, by omega, cell_of_row _ _ 4 _ _ _ (heap_alloc_new _ _)⟩
  | 5, _ => exact ⟨25, by omega, cell_of_row _ _ 5 _ _ _ (heap_alloc_new _ _)⟩
  | 6, _ => exact ⟨999, by omega, cell_of_row _ _ 6 _ _ _ (heap_alloc_new _ _)⟩
theorem few_want {x : CH} {d : Int} {ys : List BL} (h : Few ys) : Few (wantL x d ys) := by
  refine ⟨Nat.le_trans (List.length_filter_le _ _) (by rw [List.length_map]; exact h.1), fun z hz => ?_⟩
  obtain ⟨y, hy, rfl⟩ := List.mem_map.1 (List.mem_filter.1 hz).1
  have h1 : (wantY x d y).whn = y.whn := by unfold wantY; split <;> rfl
  rw [h1]; exact h.2 y hy
theorem wantL_len (x : CH) (d : Int) (ys : List BL) : (wantL x d ys).length ≤ ys.length := by
  unfold wantL; exact Nat.le_trans (List.length_filter_le _ _) (by rw [List.length_map]; exact Nat.le_refl _)
set_option maxRecDepth 100000 in
set_option maxHeartbeats 16000000 in
theorem walk_FnChanges (hia : ImplApplyChange) (hib : ImplBillsOn) (a : Option Addr) (n c : Nat) (w : World) (hm : n ≤ maxLen) (hcode : CodeAt w.heap.size w a n) :
    Calls Try.prog 3 #[.slice a n c] w fun e w' => e = .returned (.bool true) ∧ Below w.heap.size w w' := by
  obtain ⟨i0, hi0, hz0, hz1, hz2⟩ := info_parts infoBLc
  unfold maxLen at hm
  have HIB := Lib.hid hib
  have HIA := Lib.hid hia
  have HCO := Lib.hid hcode
  clear hcode hib hia
  by_cases hbig : 1048576 < n
  · have e0 : decide ((1048576 : Int) < (n : Int)) = true := decide_eq_true (by omega)
    go_enter Try.func3, Try.ntmps3
    go_wp2_with fail
    refine (laws_big a n c _).mono ?_
    rintro e w1 ⟨rfl, rfl⟩
    go_wp2
    go_ret
    exact ⟨rfl, Below.refl _ _⟩
  have e0 : decide ((1048576 : Int) < (n : Int)) = false := decide_eq_false (by omega)
  go_enter Try.func3, Try.ntmps3
  go_wp2_with fail
  refine (laws_big a n c _).mono ?_
  rintro e w1 ⟨rfl, rfl⟩
  go_wp2_with fail
  refine (draw_applyChange a n c _ (by omega) HCO.out).mono ?_
  rintro e w2 ⟨p, q, l, p2, q2, ls, x0, rfl, HL6, HL9, HZ, HZ2, HSX, HI, HBX, HB0⟩
  obtain ⟨lo, hi, hx⟩ := HBX.out
  have HX := Lib.hid hx
  have HLM : Hid (l.length ≤ maxLen) := Lib.hid (by have := HL6.out; unfold maxLen; omega)
  clear hx HBX HCO hbig hm e0 HL6 HL9
  obtain ⟨dy, pa, ou, inn, qy⟩ := x0
  unfold CH.val
  obtain ⟨W3, hW3⟩ : ∃ W, w2.alloc (.cells #[.int .i64 dy, .string pa, .string ou, .string inn, .int .i64 qy] 27) = W := ⟨_, rfl⟩
  have HW3 := Lib.hid hW3
  have HK3 : Hid (W3.heap[w2.heap.size]? = some (.cells #[.int .i64 dy, .string pa, .string ou, .string inn, .int .i64 qy] 27)) := Lib.hid (by rw [← hW3]; exact heap_alloc_new _ _)
  have HA3 : Hid (Below w2.heap.size w2 W3) := Lib.hid (by rw [← hW3]; exact (Below.refl _ _).alloc (Nat.le_refl _) _)
  clear hW3
  go_upto_region 4 with fail
  rw [HW3.out]
  clear HW3
  have k0 := cell_of_row _ _ 0 _ _ _ HK3.out
  have k1 := cell_of_row _ _ 1 _ _ _ HK3.out
  have k2 := cell_of_row _ _ 2 _ _ _ HK3.out
  have k3 := cell_of_row _ _ 3 _ _ _ HK3.out
  have k4 := cell_of_row _ _ 4 _ _ _ HK3.out
  have hs3 : w2.heap.size < W3.heap.size := lt_of_heap HK3.out
  have HI3 := Lib.hid (HI.out.below HA3.out)
  have HX3 := Lib.hid (HX.out.below BLN.kept HA3.out)
  have HB3 := Lib.hid (HB0.out.trans (HA3.out.mono HB0.out.size))
  clear HI HX HA3 HB0
  have HAP := Lib.hid (HIA.out _ _ l ls ⟨dy, pa, ou, inn, qy⟩ lo hi W3 HI3.out HLM.out HZ.out HX3.out HZ2.out HSX.out)
  unfold CH.val at HAP
  go_wp2_with fail
  refine HAP.out.mono ?_
  rintro e w4 ⟨v4, rfl, HO4, HB4⟩
  have HK4 := Lib.hid (blk_below HK3.out HB4.out)
  clear HAP k0 k1 k2 k3 k4
  obtain ⟨o, ho⟩ : ∃ o, apO l ls (⟨dy, pa, ou, inn, qy⟩ : CH) = o := ⟨_, rfl⟩
  have HOO := Lib.hid ho
  rw [ho] at HO4
  rw [ho]
  clear ho
  obtain ⟨p4, q4, rfl⟩ := HO4.out.slice
  have k0 := cell_of_row _ _ 0 _ _ _ HK4.out
  have k1 := cell_of_row _ _ 1 _ _ _ HK4.out
  have k2 := cell_of_row _ _ 2 _ _ _ HK4.out
  have k3 := cell_of_row _ _ 3 _ _ _ HK4.out
  have k4 := cell_of_row _ _ 4 _ _ _ HK4.out
  have HI4 := Lib.hid (HI3.out.below HB4.out)
  have HX4 := Lib.hid (HX3.out.below BLN.kept HB4.out)
  have HW4 := Lib.hid (HB3.out.trans (HB4.out.mono HB3.out.size))
  have HSP := Lib.hid (spec_applyChange _ _ l ls ⟨dy, pa, ou, inn, qy⟩ lo hi w4 HI4.out HX4.out HLM.out HZ.out HZ2.out HSX.out)
  unfold CH.val at HSP
  go_wp2_with fail
  refine HSP.out.mono ?_
  rintro e w5 ⟨v5, rfl, HO5, HB5⟩
  rw [HOO.out]
  have HK5 := Lib.hid (blk_below HK4.out HB5.out)
  have HI5 := Lib.hid (HI4.out.below HB5.out)
  have HX5 := Lib.hid (HX4.out.below BLN.kept HB5.out)
  have HZ5 := Lib.hid (HO4.out.sl.below BLN.kept HB5.out)
  have HW5 := Lib.hid (HW4.out.trans (HB5.out.mono HW4.out.size))
  have hs5 : w2.heap.size < w5.heap.size := by have h1 := HB4.out.size; have h2 := HB5.out.size; omega
  clear HSP k0 k1 k2 k3 k4 HK4 HI4 HX4 HO5 HB5 HW4 HK3 HI3 HX3 HB3 HO4 HB4
  cases o with
  | none =>
    go_wp2_with fail
    go_ret
    exact ⟨rfl, HW5.out⟩
  | some zs =>
    obtain ⟨hap, hze⟩ := apO_some HOO.out
    have HOK := Lib.hid hap
    have HZE := Lib.hid hze
    have hdy0 : 0 ≤ dy := hap.2.1.2.1.1
    have hdy1 : dy ≤ 999 := hap.2.1.2.1.2
    have HZZ : Hid (BX.Sz zs) := Lib.hid (by have := ap_sz (l := l) HZ2.out HSX.out; rw [HOO.out] at this; exact this)
    clear hap hze
    simp only [Option.getD_some, Option.isSome_some] at HZ5 ⊢
    have HDY := Lib.hid (days_at dy hdy0 hdy1 w5)
    have k0 := cell_of_row _ _ 0 _ _ _ HK5.out
    obtain ⟨W6, hW6⟩ : ∃ W, w5.alloc (.cells #[.int .i64 0, .int .i64 (dy - 1), .int .i64 dy, .int .i64 (dy + 1), .int .i64 10, .int .i64 25, .int .i64 999] 3) = W := ⟨_, rfl⟩
    have HW6 := Lib.hid hW6
    rw [hW6] at HDY
    have HA6 : Hid (Below w5.heap.size w5 W6) := Lib.hid (by rw [← hW6]; exact (Below.refl _ _).alloc (Nat.le_refl _) _)
    clear hW6
    go_upto_region 11 with fail
    rw [HW6.out]
    clear HW6 k0
    have HK6 := Lib.hid (blk_below HK5.out HA6.out)
    have HI6 := Lib.hid (HI5.out.below HA6.out)
    have HX6 := Lib.hid (HX5.out.below BLN.kept HA6.out)
    have HZ6 := Lib.hid (HZ5.out.below BLN.kept HA6.out)
    have HW6 := Lib.hid (HW5.out.trans (HA6.out.mono HW5.out.size))
    have hs6 := HA6.out.size
    clear HK5 HI5 HX5 HZ5 HW5 HA6
    go_wp2_with fail
    go_loopw [11] (fun i wr => ∃ k : Nat, k ≤ 7 ∧ i = .int .i64 k ∧ Hid (Below W6.heap.size W6 wr)) (fun i _ => 7 - (intOf i).toNat)
    case atStart => exact ⟨0, by omega, rfl, Lib.hid (Below.refl _ _)⟩
    case round =>
      obtain ⟨k, hk, rfl, HB⟩ := hrel
      obtain ⟨wo, hwo⟩ : ∃ x : World, x = wr := ⟨_, rfl⟩
      subst hwo
      have HWR := Lib.hid (HW6.out.trans (HB.out.mono HW6.out.size))
      have hsr := HB.out.size
      by_cases hlt : k < 7
      rotate_left
      · have hkk : decide ((k : Int) < 7) = false := decide_eq_false (by omega)
        have HCK := Lib.hid (spec_bills _ _ l zs _ _ wo (HI6.out.below HB.out) (HZ6.out.below BLN.kept HB.out) HLM.out HZ.out HZZ.out)
        rw [billsB_yes (by rw [HZE.out]; exact HOK.out.2.2)] at HCK
        go_wp2_with fail
        refine HCK.out.mono ?_
        rintro e w9 ⟨rfl, hb⟩
        have HWF := Lib.hid (HWR.out.trans (hb.mono HWR.out.size))
        clear hb
        go_wp2_with fail
        go_ret
        exact ⟨rfl, HWF.out⟩
      have hkk : decide ((k : Int) < 7) = true := decide_eq_true (by omega)
      have hk0 : (0 : Int) ≤ (k : Int) := by omega
      have hk7 : (k : Int) < 7 := by omega
      have HLT := Lib.hid hlt
      obtain ⟨d, hdb, hcd⟩ := HDY.out k hlt
      have HCD := Lib.hid hcd
      clear hcd hlt
      obtain ⟨W7, hW7⟩ : ∃ W, wo.alloc (.cells #[] 36) = W := ⟨_, rfl⟩
      have HW7 := Lib.hid hW7
      have HS7 : Hid (W7.ownsRow wo.heap.size 36 6 (.slice (some ⟨wo.heap.size, 0, none⟩) 0 0) 0 []) := Lib.hid (by rw [← hW7]; exact World.ownsRow_lit wo #[] 0 (Nat.le_refl _) (Nat.zero_le _) rfl)
      have HA7 : Hid (Below wo.heap.size wo W7) := Lib.hid (by rw [← hW7]; exact (Below.refl _ _).alloc (Nat.le_refl _) _)
      have hs7 : wo.heap.size < W7.heap.size := by rw [← hW7]; simp
      clear hW7
      go_upto_region 15 with fail
      rw [HW7.out]
      clear HW7
      have H7 := Lib.hid (HB.out.trans (HA7.out.mono HB.out.size))
      have hcd := (H7.out.cell (p := ⟨w5.heap.size, k, none⟩) (block_lt_of_cell HCD.out)).trans HCD.out
      go_wp2_with fail
      refine (spec_billsOn _ _ l ls d _ _ W7 (HI6.out.below H7.out) (HX6.out.below BLN.kept H7.out) HLM.out HZ.out HZ2.out).mono ?_
      rintro e w8 ⟨v8, rfl, HO8, HB8⟩
      have hs8 := HB8.out.size
      have HFO := Lib.hid (few_on l ls d)
      have HOD : Hid (billsOnR l ls d = onD d ls) := Lib.hid (billsOnR_yes (billsB_yes HOK.out.1))
      have HOZ : Hid (billsOnR l zs d = wantL ⟨dy, pa, ou, inn, qy⟩ d (onD d ls)) := Lib.hid (by
        rw [billsOnR_yes (billsB_yes (by rw [HZE.out]; exact HOK.out.2.2)), HZE.out]
        exact onD_chg (fun y hy => line_prt HOK.out.1.1.1 (mem_bills HOK.out.1 hy)))
      have HUN : Hid (∀ y, y ∈ onD d ls → ¬y.prt = ByteArray.empty) := Lib.hid (fun y hy => by
        obtain ⟨z, hz, rfl⟩ := onD_mem hy
        exact (line_prt HOK.out.1.1.1 (mem_bills HOK.out.1 hz) : ¬z.prt = ByteArray.empty))
      rw [HOD.out] at HO8 HFO
      obtain ⟨us, hus⟩ : ∃ us, onD d ls = us := ⟨_, rfl⟩
      rw [hus] at HO8 HFO HOZ HUN
      clear hus HOD hcd
      obtain ⟨p8, q8, rfl⟩ := HO8.out.slice
      have HU8 := Lib.hid HO8.out.sl
      have HM8 : Hid (BX.Semi wo.heap.size W7.heap.size w8.heap.size w8 (.slice (some ⟨wo.heap.size, 0, none⟩) 0 0) []) := Lib.hid (BX.Semi.nil (own_keepL HS7.out HB8.out) (Or.inl hs7))
      have H8 := Lib.hid (H7.out.trans (HB8.out.mono H7.out.size))
      have hu24 := HFO.out.1
      clear HO8 HS7 HB8 HA7
      go_wp2_with fail
      go_loopw [12, 14] (fun s i wt => ∃ (m : Nat) (ws : List BL) (pw : Option Addr) (qw : Nat), m ≤ us.length ∧ i = .int .i64 m ∧ s = .slice pw ws.length qw ∧ ws.length ≤ m ∧ Hid (ws = wantL ⟨dy, pa, ou, inn, qy⟩ d (us.take m)) ∧ Hid (BX.Semi wo.heap.size W7.heap.size w8.heap.size wt (.slice pw ws.length qw) ws) ∧ Hid (Same W7.heap.size w8.heap.size w8 wt) ∧ Hid (Below W6.heap.size W6 wt) ∧ w8.heap.size ≤ wt.heap.size) (fun _ i _ => us.length - (intOf i).toNat)
      case atStart => exact ⟨0, [], _, _, Nat.zero_le _, rfl, rfl, Nat.le_refl _, Lib.hid rfl, HM8, Lib.hid (fun _ _ _ _ => rfl), H8, Nat.le_refl _⟩
      case round =>
        clear HM8
        obtain ⟨m, ws, pw, qw, hm, rfl, rfl, hwm, HWS, HM, HSA, H9, hs9⟩ := hrel
        have hcd := (H9.out.cell (p := ⟨w5.heap.size, k, none⟩) (block_lt_of_cell HCD.out)).trans HCD.out
        by_cases hmt : m < us.length
        rotate_left
        · have HWE : Hid (ws = wantL ⟨dy, pa, ou, inn, qy⟩ d us) := Lib.hid (by
            have h1 := HWS.out
            rw [List.take_of_length_le (by omega)] at h1
            exact h1)
          have HFW : Hid (Few ws) := Lib.hid (by rw [HWE.out]; exact few_want HFO.out)
          go_wp2_with fail
          refine (HIB.out _ _ l zs d _ _ wr (HI6.out.below H9.out) HLM.out HZ.out (HZ6.out.below BLN.kept H9.out) HZZ.out).mono ?_
          rintro e w10 ⟨v10, rfl, HO10, HB10⟩
          rw [HOZ.out, ← HWE.out] at HO10
          obtain ⟨p10, q10, rfl⟩ := HO10.out.slice
          have H10 := Lib.hid (H9.out.trans (HB10.out.mono H9.out.size))
          have HMS := Lib.hid ((HM.out.sl hs9).below BLN.kept HB10.out)
          go_wp2_with fail
          refine (laws_sameLines _ _ ws _ _ _ _ w10 HO10.out.sl HMS.out HFW.out.sm).mono ?_
          rintro e w11 ⟨rfl, hb⟩
          have H11 := Lib.hid (H10.out.trans (hb.mono H10.out.size))
          clear hb HO10 HB10 HMS H10 hcd
          go_wp2_with fail
          go_roundw
          case rel => exact ⟨k + 1, by have := HLT.out; omega, by go_num, H11⟩
          case measure => have := HLT.out; simp [intOf]; omega
        have HMT := Lib.hid hmt
        have hm24 : m < 24 := by omega
        have HTK := Lib.hid (wantL_take (x := ⟨dy, pa, ou, inn, qy⟩) (d := d) hmt)
        obtain ⟨b2, o2, c2', cl, hv2, hc2, hb2, hcl, hr5, hcell⟩ := (HU8.out.same BLN.kept HSA.out).get m hmt
        simp only [Value.slice.injEq] at hv2
        obtain ⟨rfl, _, rfl⟩ := hv2
        obtain ⟨u5, rfl, h5⟩ := hr5
        obtain ⟨sa5, sc5, rfl⟩ := h5.slice
        have e0 := hcell 0 (by omega)
        have e1 := hcell 1 (by omega)
        have e2 := hcell 2 (by omega)
        have e3 := hcell 3 (by omega)
        have e4 := hcell 4 (by omega)
        have e5 := hcell 5 (by omega)
        simp only [List.getElem?_cons_zero, List.getElem?_cons_succ, Nat.add_zero] at e0 e1 e2 e3 e4 e5
        have HCX := Lib.hid h5
        have HNE : Hid (¬(us[m]'hmt).prt = ByteArray.empty) := Lib.hid (HUN.out _ (List.getElem_mem hmt))
        clear hcell hc2 hcl hb2 h5
        generalize us[m]'hmt = x at *
        have HKW := Lib.hid (blk_below HK6.out H9.out)
        obtain ⟨W10, hW10⟩ : ∃ W, wr.alloc (.cells #[.string x.par, .string x.prt, .int .i64 x.qty, .int .i64 x.fr, .int .i64 x.un, .slice sa5 x.whn.length sc5] 36) = W := ⟨_, rfl⟩
        have HW10 := Lib.hid hW10
        have HY10 : Hid (W10.heap[wr.heap.size]? = some (.cells #[.string x.par, .string x.prt, .int .i64 x.qty, .int .i64 x.fr, .int .i64 x.un, .slice sa5 x.whn.length sc5] 36)) := Lib.hid (by rw [← hW10]; exact heap_alloc_new _ _)
        have HA10 : Hid (Below wr.heap.size wr W10) := Lib.hid (by rw [← hW10]; exact (Below.refl _ _).alloc (Nat.le_refl _) _)
        clear hW10
        have hs10 : wr.heap.size < W10.heap.size := lt_of_heap HY10.out
        go_upto_region 20 with fail
        rw [HW10.out]
        clear HW10 e0 e1 e2 e3 e4 e5
        have HK10 := Lib.hid (blk_below HKW.out HA10.out)
        have hcd2 := (HA10.out.cell (p := ⟨w5.heap.size, k, none⟩) (block_lt_of_cell hcd)).trans hcd
        have k0 := cell_of_row _ _ 0 _ _ _ HK10.out
        have k1 := cell_of_row _ _ 1 _ _ _ HK10.out
        have k2 := cell_of_row _ _ 2 _ _ _ HK10.out
        have y0 := cell_of_row _ _ 0 _ _ _ HY10.out
        have y1 := cell_of_row _ _ 1 _ _ _ HY10.out
        clear hcd HKW
        have hw5 : w5.heap.size < W6.heap.size := block_lt_of_cell HCD.out
        by_cases hd : dy ≤ d
        rotate_left
        · have hq0 : decide (dy ≤ d) = false := decide_eq_false hd
          have HWY := Lib.hid (wantY_no (x := ⟨dy, pa, ou, inn, qy⟩) (d := d) (y := x) (fun h => by exact hd h.1))
          have HHP := Lib.hid (hasPrt_yes HNE.out)
          refine wp_region_held_drew (S := (fun W' => Hid (Below W10.heap.size W10 W') ∧ W'.cell? ⟨w5.heap.size, k, none⟩ = some (.int .i64 d) ∧ W'.cell? ⟨w2.heap.size, 0, none⟩ = some (.int .i64 dy))) (by kernel_rfl) (hold2 hcd2 k0 (Below.refl _ _).drew) (fun hHeld => ?_)
          refine wpAnyH_take (i := 0) (oi := { dst := some 79, op := Op.move (Operand.tmp 10), type := 32, pos := _, after := #[], guard := none }) (v := ?vr1x1) rfl (by kernel_rfl) (by kernel_rfl) (by kernel_rfl) (fun _ _ _ h => h) (Or.inl ⟨by rfl, ?yr1x1⟩) (by assumption) ?rr1x1
          case yr1x1 => (intro w' hSw; (try dsimp only at hSw); go_simp; (try with_reducible rfl))
          refine wpAnyH_take (i := 1) (oi := { dst := some 80, op := Op.move (Operand.tmp 11), type := 3, pos := _, after := #[], guard := none }) (v := ?vr1x2) rfl (by kernel_rfl) (by kernel_rfl) (by kernel_rfl) (fun _ _ _ h => h) (Or.inl ⟨by rfl, ?yr1x2⟩) (by assumption) ?rr1x2
          case yr1x2 => (intro w' hSw; (try dsimp only at hSw); go_simp; (try with_reducible rfl))
          refine wpAnyH_take (i := 2) (oi := { dst := some 81, op := Op.indexAddr 32 (Operand.tmp 79) (Operand.tmp 80), type := 0, pos := _, after := #[{ on := 0, ground := Ground.data }, { on := 1, ground := Ground.data }], guard := none }) (v := ?vr1x3) rfl (by kernel_rfl) (by kernel_rfl) (by kernel_rfl) (fun _ _ _ h => h) (Or.inl ⟨by rfl, ?yr1x3⟩) (by assumption) ?rr1x3
          case yr1x3 => (intro w' hSw; (try dsimp only at hSw); go_simp; (try with_reducible rfl))
          (try simp only [Act.put, List.setIfInBounds_toArray, List.set_cons_zero, List.set_cons_succ])
          refine wpAnyH_take (i := 3) (oi := { dst := some 82, op := Op.load 3 (Operand.tmp 81), type := 3, pos := _, after := #[{ on := 2, ground := Ground.data }], guard := none }) (v := ?vr1x4) rfl (by kernel_rfl) (by kernel_rfl) (by kernel_rfl) (fun _ _ _ h => h) (Or.inl ⟨by rfl, ?yr1x4⟩) (by assumption) ?rr1x4
          case yr1x4 => (intro w' hSw; (try dsimp only at hSw); go_simp; (try with_reducible rfl))
          refine wpAnyH_take (i := 4) (oi := { dst := some 83, op := Op.fieldAddr 27 (Operand.tmp 5) 0, type := 0, pos := _, after := #[], guard := none }) (v := ?vr1x5) rfl (by kernel_rfl) (by kernel_rfl) (by kernel_rfl) (fun _ _ _ h => h) (Or.inl ⟨by rfl, ?yr1x5⟩) (by assumption) ?rr1x5
          case yr1x5 => (intro w' hSw; (try dsimp only at hSw); go_simp; (try with_reducible rfl))
          refine wpAnyH_take (i := 5) (oi := { dst := some 84, op := Op.load 3 (Operand.tmp 83), type := 3, pos := _, after := #[{ on := 4, ground := Ground.data }], guard := none }) (v := ?vr1x6) rfl (by kernel_rfl) (by kernel_rfl) (by kernel_rfl) (fun _ _ _ h => h) (Or.inl ⟨by rfl, ?yr1x6⟩) (by assumption) ?rr1x6
          case yr1x6 => (intro w' hSw; (try dsimp only at hSw); go_simp; (try with_reducible rfl))
          (try simp only [Act.put, List.setIfInBounds_toArray, List.set_cons_zero, List.set_cons_succ])
          refine wpAnyH_take (i := 6) (oi := { dst := some 85, op := Op.binOp BinOp.geq 3 (Operand.tmp 82) (Operand.tmp 84) 3, type := 4, pos := _, after := #[{ on := 3, ground := Ground.data }, { on := 5, ground := Ground.data }], guard := none }) (v := ?vr1x7) rfl (by kernel_rfl) (by kernel_rfl) (by kernel_rfl) (fun _ _ _ h => h) (Or.inl ⟨by rfl, ?yr1x7⟩) (by assumption) ?rr1x7
          case yr1x7 => (intro w' hSw; (try dsimp only at hSw); go_simp; (try with_reducible rfl))
          refine wpAnyH_take (i := 7) (oi := { dst := some 86, op := Op.move (Operand.tmp 85), type := 4, pos := _, after := #[{ on := 6, ground := Ground.data }], guard := none }) (v := ?vr1x8) rfl (by kernel_rfl) (by kernel_rfl) (by kernel_rfl) (fun _ _ _ h => h) (Or.inl ⟨by rfl, ?yr1x8⟩) (by assumption) ?rr1x8
          case yr1x8 => (intro w' hSw; (try dsimp only at hSw); go_simp; (try with_reducible rfl))
          refine wpAnyH_take (i := 8) (oi := { dst := some 87, op := Op.fieldAddr 36 (Operand.tmp 15) 0, type := 0, pos := _, after := #[{ on := 7, ground := Ground.guard }], guard := some (7, true) }) (v := undef) rfl (by kernel_rfl) (by kernel_rfl) (by kernel_rfl) (fun _ _ _ h => h) (Or.inr ⟨by rfl, rfl⟩) (by assumption) ?_
          (try simp only [Act.put, List.setIfInBounds_toArray, List.set_cons_zero, List.set_cons_succ])
          refine wpAnyH_take (i := 9) (oi := { dst := some 88, op := Op.load 9 (Operand.tmp 87), type := 9, pos := _, after := #[{ on := 8, ground := Ground.data }, { on := 7, ground := Ground.guard }], guard := some (7, true) }) (v := undef) rfl (by kernel_rfl) (by kernel_rfl) (by kernel_rfl) (fun _ _ _ h => h) (Or.inr ⟨by rfl, rfl⟩) (by assumption) ?_
          refine wpAnyH_take (i := 10) (oi := { dst := some 89, op := Op.fieldAddr 27 (Operand.tmp 5) 1, type := 0, pos := _, after := #[{ on := 7, ground := Ground.guard }], guard := some (7, true) }) (v := undef) rfl (by kernel_rfl) (by kernel_rfl) (by kernel_rfl) (fun _ _ _ h => h) (Or.inr ⟨by rfl, rfl⟩) (by assumption) ?_
          refine wpAnyH_take (i := 11) (oi := { dst := some 90, op := Op.load 9 (Operand.tmp 89), type := 9, pos := _, after := #[{ on := 10, ground := Ground.data }, { on := 7, ground := Ground.guard }], guard := some (7, true) }) (v := undef) rfl (by kernel_rfl) (by kernel_rfl) (by kernel_rfl) (fun _ _ _ h => h) (Or.inr ⟨by rfl, rfl⟩) (by assumption) ?_
          (try simp only [Act.put, List.setIfInBounds_toArray, List.set_cons_zero, List.set_cons_succ])
          refine wpAnyH_take (i := 12) (oi := { dst := some 91, op := Op.binOp BinOp.eql 9 (Operand.tmp 88) (Operand.tmp 90) 9, type := 4, pos := _, after := #[{ on := 9, ground := Ground.data }, { on := 11, ground := Ground.data }, { on := 7, ground := Ground.guard }], guard := some (7, true) }) (v := undef) rfl (by kernel_rfl) (by kernel_rfl) (by kernel_rfl) (fun _ _ _ h => h) (Or.inr ⟨by rfl, rfl⟩) (by assumption) ?_
          refine wpAnyH_take (i := 13) (oi := { dst := some 92, op := Op.pick (Operand.tmp 86) (Operand.tmp 91) (Operand.const (Value.bool false)), type := 4, pos := _, after := #[{ on := 7, ground := Ground.data }, { on := 12, ground := Ground.data }], guard := none }) (v := ?vr1x9) rfl (by kernel_rfl) (by kernel_rfl) (by kernel_rfl) (fun _ _ _ h => h) (Or.inl ⟨by rfl, ?yr1x9⟩) (by assumption) ?rr1x9
          case yr1x9 => (intro w' hSw; (try dsimp only at hSw); go_simp; (try with_reducible rfl))
          refine wpAnyH_take (i := 14) (oi := { dst := some 93, op := Op.move (Operand.tmp 92), type := 4, pos := _, after := #[{ on := 13, ground := Ground.data }, { on := 7, ground := Ground.chain }], guard := none }) (v := ?vr1x10) rfl (by kernel_rfl) (by kernel_rfl) (by kernel_rfl) (fun _ _ _ h => h) (Or.inl ⟨by rfl, ?yr1x10⟩) (by assumption) ?rr1x10
          case yr1x10 => (intro w' hSw; (try dsimp only at hSw); go_simp; (try with_reducible rfl))
          (try simp only [Act.put, List.setIfInBounds_toArray, List.set_cons_zero, List.set_cons_succ])
          refine wpAnyH_take (i := 15) (oi := { dst := some 94, op := Op.fieldAddr 36 (Operand.tmp 15) 1, type := 0, pos := _, after := #[{ on := 14, ground := Ground.guard }], guard := some (14, true) }) (v := undef) rfl (by kernel_rfl) (by kernel_rfl) (by kernel_rfl) (fun _ _ _ h => h) (Or.inr ⟨by rfl, rfl⟩) (by assumption) ?_
          refine wpAnyH_take (i := 16) (oi := { dst := some 95, op := Op.load 9 (Operand.tmp 94), type := 9, pos := _, after := #[{ on := 15, ground := Ground.data }, { on := 14, ground := Ground.guard }], guard := some (14, true) }) (v := undef) rfl (by kernel_rfl) (by kernel_rfl) (by kernel_rfl) (fun _ _ _ h => h) (Or.inr ⟨by rfl, rfl⟩) (by assumption) ?_
          refine wpAnyH_take (i := 17) (oi := { dst := some 96, op := Op.fieldAddr 27 (Operand.tmp 5) 2, type := 0, pos := _, after := #[{ on := 14, ground := Ground.guard }], guard := some (14, true) }) (v := undef) rfl (by kernel_rfl) (by kernel_rfl) (by kernel_rfl) (fun _ _ _ h => h) (Or.inr ⟨by rfl, rfl⟩) (by assumption) ?_
          (try simp only [Act.put, List.setIfInBounds_toArray, List.set_cons_zero, List.set_cons_succ])
          refine wpAnyH_take (i := 18) (oi := { dst := some 97, op := Op.load 9 (Operand.tmp 96), type := 9, pos := _, after := #[{ on := 17, ground := Ground.data }, { on := 14, ground := Ground.guard }], guard := some (14, true) }) (v := undef) rfl (by kernel_rfl) (by kernel_rfl) (by kernel_rfl) (fun _ _ _ h => h) (Or.inr ⟨by rfl, rfl⟩) (by assumption) ?_
          refine wpAnyH_take (i := 19) (oi := { dst := some 98, op := Op.binOp BinOp.eql 9 (Operand.tmp 95) (Operand.tmp 97) 9, type := 4, pos := _, after := #[{ on := 16, ground := Ground.data }, { on := 18, ground := Ground.data }, { on := 14, ground := Ground.guard }], guard := some (14, true) }) (v := undef) rfl (by kernel_rfl) (by kernel_rfl) (by kernel_rfl) (fun _ _ _ h => h) (Or.inr ⟨by rfl, rfl⟩) (by assumption) ?_
          refine wpAnyH_take (i := 20) (oi := { dst := some 99, op := Op.pick (Operand.tmp 93) (Operand.tmp 98) (Operand.const (Value.bool false)), type := 4, pos := _, after := #[{ on := 14, ground := Ground.data }, { on := 19, ground := Ground.data }], guard := none }) (v := ?vr1x11) rfl (by kernel_rfl) (by kernel_rfl) (by kernel_rfl) (fun _ _ _ h => h) (Or.inl ⟨by rfl, ?yr1x11⟩) (by assumption) ?rr1x11
          case yr1x11 => (intro w' hSw; (try dsimp only at hSw); go_simp; (try with_reducible rfl))
          (try simp only [Act.put, List.setIfInBounds_toArray, List.set_cons_zero, List.set_cons_succ])
          refine wpAnyH_done (by kernel_rfl) ?_ _
          have hS := (by assumption : Hid (Below W10.heap.size W10 _) ∧ _)
          obtain ⟨w11, hw11⟩ : ∃ W, W = worldOf hS := ⟨_, rfl⟩
          simp only [worldOf] at hw11
          have HB11 : Hid (Below W10.heap.size W10 w11) := Lib.hid (by rw [hw11]; exact hS.1.out)
          rw [← hw11]
          clear hw11 hS hcd2 k0 k1 k2 y0 y1
          have HYc := Lib.hid (blk_below HY10.out HB11.out)
          have HKc := Lib.hid (blk_below HK10.out HB11.out)
          have HBc := Lib.hid (HA10.out.trans (HB11.out.mono HA10.out.size))
          have hsc := HBc.out.size
          have hne := txt_ne HNE.out
          have z0 := cell_of_row _ _ 0 _ _ _ HYc.out
          have z1 := cell_of_row _ _ 1 _ _ _ HYc.out
          have z2 := cell_of_row _ _ 2 _ _ _ HYc.out
          have z3 := cell_of_row _ _ 3 _ _ _ HYc.out
          have z4 := cell_of_row _ _ 4 _ _ _ HYc.out
          have z5 := cell_of_row _ _ 5 _ _ _ HYc.out
          obtain ⟨rs, hrec, hrow, hc, hsp⟩ := HM.out.below (HBc.out.alloc HBc.out.size (.cells #[.string x.par, .string x.prt, .int .i64 x.qty, .int .i64 x.fr, .int .i64 x.un, .slice sa5 x.whn.length sc5] 36))
          have hrl : rs.length = ws.length := hrec.1
          rw [hrl] at hrow
          have HREC := Lib.hid hrec
          have HROW := Lib.hid hrow
          have HC := Lib.hid hc
          have HSPB := Lib.hid hsp
          have HRL := Lib.hid hrl
          clear hrec hrow hc hsp hrl
          go_wp2_with (at_builtin; refine wpList_append_apt rfl _ _ 25 rfl wo.heap.size 36 i0 (.agg #[.string ByteArray.empty, .string ByteArray.empty, .int .i64 0, .int .i64 0, .int .i64 0, .slice none 0 0]) 6 80 Try.underlying25 hi0 hz0 hz1 hz2 rfl (by decide) _ ws.length (flatN rs) rfl HROW.out ⟨w11.heap.size, 0, none⟩ 1 1 [.string x.par, .string x.prt, .int .i64 x.qty, .int .i64 x.fr, .int .i64 x.un, .slice sa5 x.whn.length sc5] (by decide) rfl rfl (new_6 _ _ _ _ _ _ _ _) (by intro u hu; simp at hu; rcases hu with rfl | rfl | rfl | rfl | rfl | rfl <;> rfl) (by omega) (by omega) (by simp; omega) ?_)
          intro g12 q12 w12 ho hg hsep
          have hsz12 : w8.heap.size ≤ w12.heap.size := by have h := hg.size; simp at h; omega
          have HSF : Hid (BX.Semi wo.heap.size W7.heap.size w8.heap.size w12 (.slice (some ⟨g12, 0, none⟩) (ws.length + 1) q12) (ws ++ [x])) := Lib.hid (BX.Semi.push (x := (x : BL)) HREC.out HC.out HSPB.out ((HCX.out.below CnN.kept HBc.out).below CnN.kept ((Below.refl _ _).alloc (Nat.le_refl _) _)) ho HRL.out hg (by rcases hsep with h | h; exact Or.inl h; exact Or.inr (by simp; omega)) (by simp; omega))
          have HSAF : Hid (Same W7.heap.size w8.heap.size w8 w12) := Lib.hid (fun j h1 h2 h3 => (Same.of_grown hg HSPB.out j h1 h2 (by simp; omega)).trans ((((HBc.out.alloc HBc.out.size _).block j (by omega))).trans (HSA.out j h1 h2 h3)))
          have H9F := Lib.hid (((H9.out.trans (HBc.out.mono H9.out.size)).alloc (H9.out.trans (HBc.out.mono H9.out.size)).size _).grown hg (by simp; omega) (fun g hg2 => by have := (HROW.out.lt g hg2).1; omega))
          clear ho hg hsep
          go_wp2_with fail
          go_roundw
          case rel => exact ⟨m + 1, ws ++ [x], some ⟨g12, 0, none⟩, q12, by have := HMT.out; omega, by go_num, by simp, by simp; omega, Lib.hid (by rw [HTK.out, ← HWS.out, HWY.out, HHP.out]; simp), by simpa using HSF, HSAF, H9F, hsz12⟩
          case measure => have := HMT.out; simp [intOf]; omega
        have hq0 : decide (dy ≤ d) = true := decide_eq_true hd
        by_cases hp : x.par = pa
        rotate_left
        · have hq1 := str_ne hp
          have HWY := Lib.hid (wantY_no (x := ⟨dy, pa, ou, inn, qy⟩) (d := d) (y := x) (fun h => by exact hp h.2.1))
          have HHP := Lib.hid (hasPrt_yes HNE.out)
          refine wp_region_held_drew (S := (fun W' => Hid (Below W10.heap.size W10 W') ∧ W'.cell? ⟨w5.heap.size, k, none⟩ = some (.int .i64 d) ∧ W'.cell? ⟨w2.heap.size, 0, none⟩ = some (.int .i64 dy) ∧ W'.cell? ⟨wr.heap.size, 0, none⟩ = some (.string x.par) ∧ W'.cell? ⟨w2.heap.size, 1, none⟩ = some (.string pa))) (by kernel_rfl) (hold4 hcd2 k0 y0 k1 (Below.refl _ _).drew) (fun hHeld => ?_)
          refine wpAnyH_take (i := 0) (oi := { dst := some 79, op := Op.move (Operand.tmp 10), type := 32, pos := _, after := #[], guard := none }) (v := ?vr2x1) rfl (by kernel_rfl) (by kernel_rfl) (by kernel_rfl) (fun _ _ _ h => h) (Or.inl ⟨by rfl, ?yr2x1⟩) (by assumption) ?rr2x1
          case yr2x1 => (intro w' hSw; (try dsimp only at hSw); go_simp; (try with_reducible rfl))
          refine wpAnyH_take (i := 1) (oi := { dst := some 80, op := Op.move (Operand.tmp 11), type := 3, pos := _, after := #[], guard := none }) (v := ?vr2x2) rfl (by kernel_rfl) (by kernel_rfl) (by kernel_rfl) (fun _ _ _ h => h) (Or.inl ⟨by rfl, ?yr2x2⟩) (by assumption) ?rr2x2
          case yr2x2 => (intro w' hSw; (try dsimp only at hSw); go_simp; (try with_reducible rfl))
          refine wpAnyH_take (i := 2) (oi := { dst := some 81, op := Op.indexAddr 32 (Operand.tmp 79) (Operand.tmp 80), type := 0, pos := _, after := #[{ on := 0, ground := Ground.data }, { on := 1, ground := Ground.data }], guard := none }) (v := ?vr2x3) rfl (by kernel_rfl) (by kernel_rfl) (by kernel_rfl) (fun _ _ _ h => h) (Or.inl ⟨by rfl, ?yr2x3⟩) (by assumption) ?rr2x3
          case yr2x3 => (intro w' hSw; (try dsimp only at hSw); go_simp; (try with_reducible rfl))
          (try simp only [Act.put, List.setIfInBounds_toArray, List.set_cons_zero, List.set_cons_succ])
          refine wpAnyH_take (i := 3) (oi := { dst := some 82, op := Op.load 3 (Operand.tmp 81), type := 3, pos := _, after := #[{ on := 2, ground := Ground.data }], guard := none }) (v := ?vr2x4) rfl (by kernel_rfl) (by kernel_rfl) (by kernel_rfl) (fun _ _ _ h => h) (Or.inl ⟨by rfl, ?yr2x4⟩) (by assumption) ?rr2x4
          case yr2x4 => (intro w' hSw; (try dsimp only at hSw); go_simp; (try with_reducible rfl))
          refine wpAnyH_take (i := 4) (oi := { dst := some 83, op := Op.fieldAddr 27 (Operand.tmp 5) 0, type := 0, pos := _, after := #[], guard := none }) (v := ?vr2x5) rfl (by kernel_rfl) (by kernel_rfl) (by kernel_rfl) (fun _ _ _ h => h) (Or.inl ⟨by rfl, ?yr2x5⟩) (by assumption) ?rr2x5
          case yr2x5 => (intro w' hSw; (try dsimp only at hSw); go_simp; (try with_reducible rfl))
          refine wpAnyH_take (i := 5) (oi := { dst := some 84, op := Op.load 3 (Operand.tmp 83), type := 3, pos := _, after := #[{ on := 4, ground := Ground.data }], guard := none }) (v := ?vr2x6) rfl (by kernel_rfl) (by kernel_rfl) (by kernel_rfl) (fun _ _ _ h => h) (Or.inl ⟨by rfl, ?yr2x6⟩) (by assumption) ?rr2x6
          case yr2x6 => (intro w' hSw; (try dsimp only at hSw); go_simp; (try with_reducible rfl))
          (try simp only [Act.put, List.setIfInBounds_toArray, List.set_cons_zero, List.set_cons_succ])
          refine wpAnyH_take (i := 6) (oi := { dst := some 85, op := Op.binOp BinOp.geq 3 (Operand.tmp 82) (Operand.tmp 84) 3, type := 4, pos := _, after := #[{ on := 3, ground := Ground.data }, { on := 5, ground := Ground.data }], guard := none }) (v := ?vr2x7) rfl (by kernel_rfl) (by kernel_rfl) (by kernel_rfl) (fun _ _ _ h => h) (Or.inl ⟨by rfl, ?yr2x7⟩) (by assumption) ?rr2x7
          case yr2x7 => (intro w' hSw; (try dsimp only at hSw); go_simp; (try with_reducible rfl))
          refine wpAnyH_take (i := 7) (oi := { dst := some 86, op := Op.move (Operand.tmp 85), type := 4, pos := _, after := #[{ on := 6, ground := Ground.data }], guard := none }) (v := ?vr2x8) rfl (by kernel_rfl) (by kernel_rfl) (by kernel_rfl) (fun _ _ _ h => h) (Or.inl ⟨by rfl, ?yr2x8⟩) (by assumption) ?rr2x8
          case yr2x8 => (intro w' hSw; (try dsimp only at hSw); go_simp; (try with_reducible rfl))
          refine wpAnyH_take (i := 8) (oi := { dst := some 87, op := Op.fieldAddr 36 (Operand.tmp 15) 0, type := 0, pos := _, after := #[{ on := 7, ground := Ground.guard }], guard := some (7, true) }) (v := ?vr2x9) rfl (by kernel_rfl) (by kernel_rfl) (by kernel_rfl) (fun _ _ _ h => h) (Or.inl ⟨by rfl, ?yr2x9⟩) (by assumption) ?rr2x9
          case yr2x9 => (intro w' hSw; (try dsimp only at hSw); go_simp; (try with_reducible rfl))
          (try simp only [Act.put, List.setIfInBounds_toArray, List.set_cons_zero, List.set_cons_succ])
          refine wpAnyH_take (i := 9) (oi := { dst := some 88, op := Op.load 9 (Operand.tmp 87), type := 9, pos := _, after := #[{ on := 8, ground := Ground.data }, { on := 7, ground := Ground.guard }], guard := some (7, true) }) (v := ?vr2x10) rfl (by kernel_rfl) (by kernel_rfl) (by kernel_rfl) (fun _ _ _ h => h) (Or.inl ⟨by rfl, ?yr2x10⟩) (by assumption) ?rr2x10
          case yr2x10 => (intro w' hSw; (try dsimp only at hSw); go_simp; (try with_reducible rfl))
          refine wpAnyH_take (i := 10) (oi := { dst := some 89, op := Op.fieldAddr 27 (Operand.tmp 5) 1, type := 0, pos := _, after := #[{ on := 7, ground := Ground.guard }], guard := some (7, true) }) (v := ?vr2x11) rfl (by kernel_rfl) (by kernel_rfl) (by kernel_rfl) (fun _ _ _ h => h) (Or.inl ⟨by rfl, ?yr2x11⟩) (by assumption) ?rr2x11
          case yr2x11 => (intro w' hSw; (try dsimp only at hSw); go_simp; (try with_reducible rfl))
          refine wpAnyH_take (i := 11) (oi := { dst := some 90, op := Op.load 9 (Operand.tmp 89), type := 9, pos := _, after := #[{ on := 10, ground := Ground.data }, { on := 7, ground := Ground.guard }], guard := some (7, true) }) (v := ?vr2x12) rfl (by kernel_rfl) (by kernel_rfl) (by kernel_rfl) (fun _ _ _ h => h) (Or.inl ⟨by rfl, ?yr2x12⟩) (by assumption) ?rr2x12
          case yr2x12 => (intro w' hSw; (try dsimp only at hSw); go_simp; (try with_reducible rfl))
          (try simp only [Act.put, List.setIfInBounds_toArray, List.set_cons_zero, List.set_cons_succ])
          refine wpAnyH_take (i := 12) (oi := { dst := some 91, op := Op.binOp BinOp.eql 9 (Operand.tmp 88) (Operand.tmp 90) 9, type := 4, pos := _, after := #[{ on := 9, ground := Ground.data }, { on := 11, ground := Ground.data }, { on := 7, ground := Ground.guard }], guard := some (7, true) }) (v := ?vr2x13) rfl (by kernel_rfl) (by kernel_rfl) (by kernel_rfl) (fun _ _ _ h => h) (Or.inl ⟨by rfl, ?yr2x13⟩) (by assumption) ?rr2x13
          case yr2x13 => (intro w' hSw; (try dsimp only at hSw); go_simp; (try with_reducible rfl))
          refine wpAnyH_take (i := 13) (oi := { dst := some 92, op := Op.pick (Operand.tmp 86) (Operand.tmp 91) (Operand.const (Value.bool false)), type := 4, pos := _, after := #[{ on := 7, ground := Ground.data }, { on := 12, ground := Ground.data }], guard := none }) (v := ?vr2x14) rfl (by kernel_rfl) (by kernel_rfl) (by kernel_rfl) (fun _ _ _ h => h) (Or.inl ⟨by rfl, ?yr2x14⟩) (by assumption) ?rr2x14
          case yr2x14 => (intro w' hSw; (try dsimp only at hSw); go_simp; (try with_reducible rfl))
          refine wpAnyH_take (i := 14) (oi := { dst := some 93, op := Op.move (Operand.tmp 92), type := 4, pos := _, after := #[{ on := 13, ground := Ground.data }, { on := 7, ground := Ground.chain }], guard := none }) (v := ?vr2x15) rfl (by kernel_rfl) (by kernel_rfl) (by kernel_rfl) (fun _ _ _ h => h) (Or.inl ⟨by rfl, ?yr2x15⟩) (by assumption) ?rr2x15
          case yr2x15 => (intro w' hSw; (try dsimp only at hSw); go_simp; (try with_reducible rfl))
          (try simp only [Act.put, List.setIfInBounds_toArray, List.set_cons_zero, List.set_cons_succ])
          refine wpAnyH_take (i := 15) (oi := { dst := some 94, op := Op.fieldAddr 36 (Operand.tmp 15) 1, type := 0, pos := _, after := #[{ on := 14, ground := Ground.guard }], guard := some (14, true) }) (v := undef) rfl (by kernel_rfl) (by kernel_rfl) (by kernel_rfl) (fun _ _ _ h => h) (Or.inr ⟨by rfl, rfl⟩) (by assumption) ?_
          refine wpAnyH_take (i := 16) (oi := { dst := some 95, op := Op.load 9 (Operand.tmp 94), type := 9, pos := _, after := #[{ on := 15, ground := Ground.data }, { on := 14, ground := Ground.guard }], guard := some (14, true) }) (v := undef) rfl (by kernel_rfl) (by kernel_rfl) (by kernel_rfl) (fun _ _ _ h => h) (Or.inr ⟨by rfl, rfl⟩) (by assumption) ?_
          refine wpAnyH_take (i := 17) (oi := { dst := some 96, op := Op.fieldAddr 27 (Operand.tmp 5) 2, type := 0, pos := _, after := #[{ on := 14, ground := Ground.guard }], guard := some (14, true) }) (v := undef) rfl (by kernel_rfl) (by kernel_rfl) (by kernel_rfl) (fun _ _ _ h => h) (Or.inr ⟨by rfl, rfl⟩) (by assumption) ?_
          (try simp only [Act.put, List.setIfInBounds_toArray, List.set_cons_zero, List.set_cons_succ])
          refine wpAnyH_take (i := 18) (oi := { dst := some 97, op := Op.load 9 (Operand.tmp 96), type := 9, pos := _, after := #[{ on := 17, ground := Ground.data }, { on := 14, ground := Ground.guard }], guard := some (14, true) }) (v := undef) rfl (by kernel_rfl) (by kernel_rfl) (by kernel_rfl) (fun _ _ _ h => h) (Or.inr ⟨by rfl, rfl⟩) (by assumption) ?_
          refine wpAnyH_take (i := 19) (oi := { dst := some 98, op := Op.binOp BinOp.eql 9 (Operand.tmp 95) (Operand.tmp 97) 9, type := 4, pos := _, after := #[{ on := 16, ground := Ground.data }, { on := 18, ground := Ground.data }, { on := 14, ground := Ground.guard }], guard := some (14, true) }) (v := undef) rfl (by kernel_rfl) (by kernel_rfl) (by kernel_rfl) (fun _ _ _ h => h) (Or.inr ⟨by rfl, rfl⟩) (by assumption) ?_
          refine wpAnyH_take (i := 20) (oi := { dst := some 99, op := Op.pick (Operand.tmp 93) (Operand.tmp 98) (Operand.const (Value.bool false)), type := 4, pos := _, after := #[{ on := 14, ground := Ground.data }, { on := 19, ground := Ground.data }], guard := none }) (v := ?vr2x16) rfl (by kernel_rfl) (by kernel_rfl) (by kernel_rfl) (fun _ _ _ h => h) (Or.inl ⟨by rfl, ?yr2x16⟩) (by assumption) ?rr2x16
          case yr2x16 => (intro w' hSw; (try dsimp only at hSw); go_simp; (try with_reducible rfl))
          (try simp only [Act.put, List.setIfInBounds_toArray, List.set_cons_zero, List.set_cons_succ])
          refine wpAnyH_done (by kernel_rfl) ?_ _
          have hS := (by assumption : Hid (Below W10.heap.size W10 _) ∧ _)
          obtain ⟨w11, hw11⟩ : ∃ W, W = worldOf hS := ⟨_, rfl⟩
          simp only [worldOf] at hw11
          have HB11 : Hid (Below W10.heap.size W10 w11) := Lib.hid (by rw [hw11]; exact hS.1.out)
          rw [← hw11]
          clear hw11 hS hcd2 k0 k1 k2 y0 y1
          have HYc := Lib.hid (blk_below HY10.out HB11.out)
          have HKc := Lib.hid (blk_below HK10.out HB11.out)
          have HBc := Lib.hid (HA10.out.trans (HB11.out.mono HA10.out.size))
          have hsc := HBc.out.size
          have hne := txt_ne HNE.out
          have z0 := cell_of_row _ _ 0 _ _ _ HYc.out
          have z1 := cell_of_row _ _ 1 _ _ _ HYc.out
          have z2 := cell_of_row _ _ 2 _ _ _ HYc.out
          have z3 := cell_of_row _ _ 3 _ _ _ HYc.out
          have z4 := cell_of_row _ _ 4 _ _ _ HYc.out
          have z5 := cell_of_row _ _ 5 _ _ _ HYc.out
          obtain ⟨rs, hrec, hrow, hc, hsp⟩ := HM.out.below (HBc.out.alloc HBc.out.size (.cells #[.string x.par, .string x.prt, .int .i64 x.qty, .int .i64 x.fr, .int .i64 x.un, .slice sa5 x.whn.length sc5] 36))
          have hrl : rs.length = ws.length := hrec.1
          rw [hrl] at hrow
          have HREC := Lib.hid hrec
          have HROW := Lib.hid hrow
          have HC := Lib.hid hc
          have HSPB := Lib.hid hsp
          have HRL := Lib.hid hrl
          clear hrec hrow hc hsp hrl
          go_wp2_with (at_builtin; refine wpList_append_apt rfl _ _ 25 rfl wo.heap.size 36 i0 (.agg #[.string ByteArray.empty, .string ByteArray.empty, .int .i64 0, .int .i64 0, .int .i64 0, .slice none 0 0]) 6 80 Try.underlying25 hi0 hz0 hz1 hz2 rfl (by decide) _ ws.length (flatN rs) rfl HROW.out ⟨w11.heap.size, 0, none⟩ 1 1 [.string x.par, .string x.prt, .int .i64 x.qty, .int .i64 x.fr, .int .i64 x.un, .slice sa5 x.whn.length sc5] (by decide) rfl rfl (new_6 _ _ _ _ _ _ _ _) (by intro u hu; simp at hu; rcases hu with rfl | rfl | rfl | rfl | rfl | rfl <;> rfl) (by omega) (by omega) (by simp; omega) ?_)
          intro g12 q12 w12 ho hg hsep
          have hsz12 : w8.heap.size ≤ w12.heap.size := by have h := hg.size; simp at h; omega
          have HSF : Hid (BX.Semi wo.heap.size W7.heap.size w8.heap.size w12 (.slice (some ⟨g12, 0, none⟩) (ws.length + 1) q12) (ws ++ [x])) := Lib.hid (BX.Semi.push (x := (x : BL)) HREC.out HC.out HSPB.out ((HCX.out.below CnN.kept HBc.out).below CnN.kept ((Below.refl _ _).alloc (Nat.le_refl _) _)) ho HRL.out hg (by rcases hsep with h | h; exact Or.inl h; exact Or.inr (by simp; omega)) (by simp; omega))
          have HSAF : Hid (Same W7.heap.size w8.heap.size w8 w12) := Lib.hid (fun j h1 h2 h3 => (Same.of_grown hg HSPB.out j h1 h2 (by simp; omega)).trans ((((HBc.out.alloc HBc.out.size _).block j (by omega))).trans (HSA.out j h1 h2 h3)))
          have H9F := Lib.hid (((H9.out.trans (HBc.out.mono H9.out.size)).alloc (H9.out.trans (HBc.out.mono H9.out.size)).size _).grown hg (by simp; omega) (fun g hg2 => by have := (HROW.out.lt g hg2).1; omega))
          clear ho hg hsep
          go_wp2_with fail
          go_roundw
          case rel => exact ⟨m + 1, ws ++ [x], some ⟨g12, 0, none⟩, q12, by have := HMT.out; omega, by go_num, by simp, by simp; omega, Lib.hid (by rw [HTK.out, ← HWS.out, HWY.out, HHP.out]; simp), by simpa using HSF, HSAF, H9F, hsz12⟩
          case measure => have := HMT.out; simp [intOf]; omega
        have hq1 := str_eq hp
        have HPP := Lib.hid hp
        clear hp
        by_cases hop : x.prt = ou
        rotate_left
        · have hq2 := str_ne hop
          have HWY := Lib.hid (wantY_no (x := ⟨dy, pa, ou, inn, qy⟩) (d := d) (y := x) (fun h => by exact hop h.2.2))
          have HHP := Lib.hid (hasPrt_yes HNE.out)
          refine wp_region_held_drew (S := (fun W' => Hid (Below W10.heap.size W10 W') ∧ W'.cell? ⟨w5.heap.size, k, none⟩ = some (.int .i64 d) ∧ W'.cell? ⟨w2.heap.size, 0, none⟩ = some (.int .i64 dy) ∧ W'.cell? ⟨wr.heap.size, 0, none⟩ = some (.string x.par) ∧ W'.cell? ⟨w2.heap.size, 1, none⟩ = some (.string pa) ∧ W'.cell? ⟨wr.heap.size, 1, none⟩ = some (.string x.prt) ∧ W'.cell? ⟨w2.heap.size, 2, none⟩ = some (.string ou))) (by kernel_rfl) (hold6 hcd2 k0 y0 k1 y1 k2 (Below.refl _ _).drew) (fun hHeld => ?_)
          refine wpAnyH_take (i := 0) (oi := { dst := some 79, op := Op.move (Operand.tmp 10), type := 32, pos := _, after := #[], guard := none }) (v := ?vr3x1) rfl (by kernel_rfl) (by kernel_rfl) (by kernel_rfl) (fun _ _ _ h => h) (Or.inl ⟨by rfl, ?yr3x1⟩) (by assumption) ?rr3x1
          case yr3x1 => (intro w' hSw; (try dsimp only at hSw); go_simp; (try with_reducible rfl))
          refine wpAnyH_take (i := 1) (oi := { dst := some 80, op := Op.move (Operand.tmp 11), type := 3, pos := _, after := #[], guard := none }) (v := ?vr3x2) rfl (by kernel_rfl) (by kernel_rfl) (by kernel_rfl) (fun _ _ _ h => h) (Or.inl ⟨by rfl, ?yr3x2⟩) (by assumption) ?rr3x2
          case yr3x2 => (intro w' hSw; (try dsimp only at hSw); go_simp; (try with_reducible rfl))
          refine wpAnyH_take (i := 2) (oi := { dst := some 81, op := Op.indexAddr 32 (Operand.tmp 79) (Operand.tmp 80), type := 0, pos := _, after := #[{ on := 0, ground := Ground.data }, { on := 1, ground := Ground.data }], guard := none }) (v := ?vr3x3) rfl (by kernel_rfl) (by kernel_rfl) (by kernel_rfl) (fun _ _ _ h => h) (Or.inl ⟨by rfl, ?yr3x3⟩) (by assumption) ?rr3x3
          case yr3x3 => (intro w' hSw; (try dsimp only at hSw); go_simp; (try with_reducible rfl))
          (try simp only [Act.put, List.setIfInBounds_toArray, List.set_cons_zero, List.set_cons_succ])
          refine wpAnyH_take (i := 3) (oi := { dst := some 82, op := Op.load 3 (Operand.tmp 81), type := 3, pos := _, after := #[{ on := 2, ground := Ground.data }], guard := none }) (v := ?vr3x4) rfl (by kernel_rfl) (by kernel_rfl) (by kernel_rfl) (fun _ _ _ h => h) (Or.inl ⟨by rfl, ?yr3x4⟩) (by assumption) ?rr3x4
          case yr3x4 => (intro w' hSw; (try dsimp only at hSw); go_simp; (try with_reducible rfl))
          refine wpAnyH_take (i := 4) (oi := { dst := some 83, op := Op.fieldAddr 27 (Operand.tmp 5) 0, type := 0, pos := _, after := #[], guard := none }) (v := ?vr3x5) rfl (by kernel_rfl) (by kernel_rfl) (by kernel_rfl) (fun _ _ _ h => h) (Or.inl ⟨by rfl, ?yr3x5⟩) (by assumption) ?rr3x5
          case yr3x5 => (intro w' hSw; (try dsimp only at hSw); go_simp; (try with_reducible rfl))
          refine wpAnyH_take (i := 5) (oi := { dst := some 84, op := Op.load 3 (Operand.tmp 83), type := 3, pos := _, after := #[{ on := 4, ground := Ground.data }], guard := none }) (v := ?vr3x6) rfl (by kernel_rfl) (by kernel_rfl) (by kernel_rfl) (fun _ _ _ h => h) (Or.inl ⟨by rfl, ?yr3x6⟩) (by assumption) ?rr3x6
          case yr3x6 => (intro w' hSw; (try dsimp only at hSw); go_simp; (try with_reducible rfl))
          (try simp only [Act.put, List.setIfInBounds_toArray, List.set_cons_zero, List.set_cons_succ])
          refine wpAnyH_take (i := 6) (oi := { dst := some 85, op := Op.binOp BinOp.geq 3 (Operand.tmp 82) (Operand.tmp 84) 3, type := 4, pos := _, after := #[{ on := 3, ground := Ground.data }, { on := 5, ground := Ground.data }], guard := none }) (v := ?vr3x7) rfl (by kernel_rfl) (by kernel_rfl) (by kernel_rfl) (fun _ _ _ h => h) (Or.inl ⟨by rfl, ?yr3x7⟩) (by assumption) ?rr3x7
          case yr3x7 => (intro w' hSw; (try dsimp only at hSw); go_simp; (try with_reducible rfl))
          refine wpAnyH_take (i := 7) (oi := { dst := some 86, op := Op.move (Operand.tmp 85), type := 4, pos := _, after := #[{ on := 6, ground := Ground.data }], guard := none }) (v := ?vr3x8) rfl (by kernel_rfl) (by kernel_rfl) (by kernel_rfl) (fun _ _ _ h => h) (Or.inl ⟨by rfl, ?yr3x8⟩) (by assumption) ?rr3x8
          case yr3x8 => (intro w' hSw; (try dsimp only at hSw); go_simp; (try with_reducible rfl))
          refine wpAnyH_take (i := 8) (oi := { dst := some 87, op := Op.fieldAddr 36 (Operand.tmp 15) 0, type := 0, pos := _, after := #[{ on := 7, ground := Ground.guard }], guard := some (7, true) }) (v := ?vr3x9) rfl (by kernel_rfl) (by kernel_rfl) (by kernel_rfl) (fun _ _ _ h => h) (Or.inl ⟨by rfl, ?yr3x9⟩) (by assumption) ?rr3x9
          case yr3x9 => (intro w' hSw; (try dsimp only at hSw); go_simp; (try with_reducible rfl))
          (try simp only [Act.put, List.setIfInBounds_toArray, List.set_cons_zero, List.set_cons_succ])
          refine wpAnyH_take (i := 9) (oi := { dst := some 88, op := Op.load 9 (Operand.tmp 87), type := 9, pos := _, after := #[{ on := 8, ground := Ground.data }, { on := 7, ground := Ground.guard }], guard := some (7, true) }) (v := ?vr3x10) rfl (by kernel_rfl) (by kernel_rfl) (by kernel_rfl) (fun _ _ _ h => h) (Or.inl ⟨by rfl, ?yr3x10⟩) (by assumption) ?rr3x10
          case yr3x10 => (intro w' hSw; (try dsimp only at hSw); go_simp; (try with_reducible rfl))
          refine wpAnyH_take (i := 10) (oi := { dst := some 89, op := Op.fieldAddr 27 (Operand.tmp 5) 1, type := 0, pos := _, after := #[{ on := 7, ground := Ground.guard }], guard := some (7, true) }) (v := ?vr3x11) rfl (by kernel_rfl) (by kernel_rfl) (by kernel_rfl) (fun _ _ _ h => h) (Or.inl ⟨by rfl, ?yr3x11⟩) (by assumption) ?rr3x11
          case yr3x11 => (intro w' hSw; (try dsimp only at hSw); go_simp; (try with_reducible rfl))
          refine wpAnyH_take (i := 11) (oi := { dst := some 90, op := Op.load 9 (Operand.tmp 89), type := 9, pos := _, after := #[{ on := 10, ground := Ground.data }, { on := 7, ground := Ground.guard }], guard := some (7, true) }) (v := ?vr3x12) rfl (by kernel_rfl) (by kernel_rfl) (by kernel_rfl) (fun _ _ _ h => h) (Or.inl ⟨by rfl, ?yr3x12⟩) (by assumption) ?rr3x12
          case yr3x12 => (intro w' hSw; (try dsimp only at hSw); go_simp; (try with_reducible rfl))
          (try simp only [Act.put, List.setIfInBounds_toArray, List.set_cons_zero, List.set_cons_succ])
          refine wpAnyH_take (i := 12) (oi := { dst := some 91, op := Op.binOp BinOp.eql 9 (Operand.tmp 88) (Operand.tmp 90) 9, type := 4, pos := _, after := #[{ on := 9, ground := Ground.data }, { on := 11, ground := Ground.data }, { on := 7, ground := Ground.guard }], guard := some (7, true) }) (v := ?vr3x13) rfl (by kernel_rfl) (by kernel_rfl) (by kernel_rfl) (fun _ _ _ h => h) (Or.inl ⟨by rfl, ?yr3x13⟩) (by assumption) ?rr3x13
          case yr3x13 => (intro w' hSw; (try dsimp only at hSw); go_simp; (try with_reducible rfl))
          refine wpAnyH_take (i := 13) (oi := { dst := some 92, op := Op.pick (Operand.tmp 86) (Operand.tmp 91) (Operand.const (Value.bool false)), type := 4, pos := _, after := #[{ on := 7, ground := Ground.data }, { on := 12, ground := Ground.data }], guard := none }) (v := ?vr3x14) rfl (by kernel_rfl) (by kernel_rfl) (by kernel_rfl) (fun _ _ _ h => h) (Or.inl ⟨by rfl, ?yr3x14⟩) (by assumption) ?rr3x14
          case yr3x14 => (intro w' hSw; (try dsimp only at hSw); go_simp; (try with_reducible rfl))
          refine wpAnyH_take (i := 14) (oi := { dst := some 93, op := Op.move (Operand.tmp 92), type := 4, pos := _, after := #[{ on := 13, ground := Ground.data }, { on := 7, ground := Ground.chain }], guard := none }) (v := ?vr3x15) rfl (by kernel_rfl) (by kernel_rfl) (by kernel_rfl) (fun _ _ _ h => h) (Or.inl ⟨by rfl, ?yr3x15⟩) (by assumption) ?rr3x15
          case yr3x15 => (intro w' hSw; (try dsimp only at hSw); go_simp; (try with_reducible rfl))
          (try simp only [Act.put, List.setIfInBounds_toArray, List.set_cons_zero, List.set_cons_succ])
          refine wpAnyH_take (i := 15) (oi := { dst := some 94, op := Op.fieldAddr 36 (Operand.tmp 15) 1, type := 0, pos := _, after := #[{ on := 14, ground := Ground.guard }], guard := some (14, true) }) (v := ?vr3x16) rfl (by kernel_rfl) (by kernel_rfl) (by kernel_rfl) (fun _ _ _ h => h) (Or.inl ⟨by rfl, ?yr3x16⟩) (by assumption) ?rr3x16
          case yr3x16 => (intro w' hSw; (try dsimp only at hSw); go_simp; (try with_reducible rfl))
          refine wpAnyH_take (i := 16) (oi := { dst := some 95, op := Op.load 9 (Operand.tmp 94), type := 9, pos := _, after := #[{ on := 15, ground := Ground.data }, { on := 14, ground := Ground.guard }], guard := some (14, true) }) (v := ?vr3x17) rfl (by kernel_rfl) (by kernel_rfl) (by kernel_rfl) (fun _ _ _ h => h) (Or.inl ⟨by rfl, ?yr3x17⟩) (by assumption) ?rr3x17
          case yr3x17 => (intro w' hSw; (try dsimp only at hSw); go_simp; (try with_reducible rfl))
          refine wpAnyH_take (i := 17) (oi := { dst := some 96, op := Op.fieldAddr 27 (Operand.tmp 5) 2, type := 0, pos := _, after := #[{ on := 14, ground := Ground.guard }], guard := some (14, true) }) (v := ?vr3x18) rfl (by kernel_rfl) (by kernel_rfl) (by kernel_rfl) (fun _ _ _ h => h) (Or.inl ⟨by rfl, ?yr3x18⟩) (by assumption) ?rr3x18
          case yr3x18 => (intro w' hSw; (try dsimp only at hSw); go_simp; (try with_reducible rfl))
          (try simp only [Act.put, List.setIfInBounds_toArray, List.set_cons_zero, List.set_cons_succ])
          refine wpAnyH_take (i := 18) (oi := { dst := some 97, op := Op.load 9 (Operand.tmp 96), type := 9, pos := _, after := #[{ on := 17, ground := Ground.data }, { on := 14, ground := Ground.guard }], guard := some (14, true) }) (v := ?vr3x19) rfl (by kernel_rfl) (by kernel_rfl) (by kernel_rfl) (fun _ _ _ h => h) (Or.inl ⟨by rfl, ?yr3x19⟩) (by assumption) ?rr3x19
          case yr3x19 => (intro w' hSw; (try dsimp only at hSw); go_simp; (try with_reducible rfl))
          refine wpAnyH_take (i := 19) (oi := { dst := some 98, op := Op.binOp BinOp.eql 9 (Operand.tmp 95) (Operand.tmp 97) 9, type := 4, pos := _, after := #[{ on := 16, ground := Ground.data }, { on := 18, ground := Ground.data }, { on := 14, ground := Ground.guard }], guard := some (14, true) }) (v := ?vr3x20) rfl (by kernel_rfl) (by kernel_rfl) (by kernel_rfl) (fun _ _ _ h => h) (Or.inl ⟨by rfl, ?yr3x20⟩) (by assumption) ?rr3x20
          case yr3x20 => (intro w' hSw; (try dsimp only at hSw); go_simp; (try with_reducible rfl))
          refine wpAnyH_take (i := 20) (oi := { dst := some 99, op := Op.pick (Operand.tmp 93) (Operand.tmp 98) (Operand.const (Value.bool false)), type := 4, pos := _, after := #[{ on := 14, ground := Ground.data }, { on := 19, ground := Ground.data }], guard := none }) (v := ?vr3x21) rfl (by kernel_rfl) (by kernel_rfl) (by kernel_rfl) (fun _ _ _ h => h) (Or.inl ⟨by rfl, ?yr3x21⟩) (by assumption) ?rr3x21
          case yr3x21 => (intro w' hSw; (try dsimp only at hSw); go_simp; (try with_reducible rfl))
          (try simp only [Act.put, List.setIfInBounds_toArray, List.set_cons_zero, List.set_cons_succ])
          refine wpAnyH_done (by kernel_rfl) ?_ _
          have hS := (by assumption : Hid (Below W10.heap.size W10 _) ∧ _)
          obtain ⟨w11, hw11⟩ : ∃ W, W = worldOf hS := ⟨_, rfl⟩
          simp only [worldOf] at hw11
          have HB11 : Hid (Below W10.heap.size W10 w11) := Lib.hid (by rw [hw11]; exact hS.1.out)
          rw [← hw11]
          clear hw11 hS hcd2 k0 k1 k2 y0 y1
          have HYc := Lib.hid (blk_below HY10.out HB11.out)
          have HKc := Lib.hid (blk_below HK10.out HB11.out)
          have HBc := Lib.hid (HA10.out.trans (HB11.out.mono HA10.out.size))
          have hsc := HBc.out.size
          have hne := txt_ne HNE.out
          have z0 := cell_of_row _ _ 0 _ _ _ HYc.out
          have z1 := cell_of_row _ _ 1 _ _ _ HYc.out
          have z2 := cell_of_row _ _ 2 _ _ _ HYc.out
          have z3 := cell_of_row _ _ 3 _ _ _ HYc.out
          have z4 := cell_of_row _ _ 4 _ _ _ HYc.out
          have z5 := cell_of_row _ _ 5 _ _ _ HYc.out
          obtain ⟨rs, hrec, hrow, hc, hsp⟩ := HM.out.below (HBc.out.alloc HBc.out.size (.cells #[.string x.par, .string x.prt, .int .i64 x.qty, .int .i64 x.fr, .int .i64 x.un, .slice sa5 x.whn.length sc5] 36))
          have hrl : rs.length = ws.length := hrec.1
          rw [hrl] at hrow
          have HREC := Lib.hid hrec
          have HROW := Lib.hid hrow
          have HC := Lib.hid hc
          have HSPB := Lib.hid hsp
          have HRL := Lib.hid hrl
          clear hrec hrow hc hsp hrl
          go_wp2_with (at_builtin; refine wpList_append_apt rfl _ _ 25 rfl wo.heap.size 36 i0 (.agg #[.string ByteArray.empty, .string ByteArray.empty, .int .i64 0, .int .i64 0, .int .i64 0, .slice none 0 0]) 6 80 Try.underlying25 hi0 hz0 hz1 hz2 rfl (by decide) _ ws.length (flatN rs) rfl HROW.out ⟨w11.heap.size, 0, none⟩ 1 1 [.string x.par, .string x.prt, .int .i64 x.qty, .int .i64 x.fr, .int .i64 x.un, .slice sa5 x.whn.length sc5] (by decide) rfl rfl (new_6 _ _ _ _ _ _ _ _) (by intro u hu; simp at hu; rcases hu with rfl | rfl | rfl | rfl | rfl | rfl <;> rfl) (by omega) (by omega) (by simp; omega) ?_)
          intro g12 q12 w12 ho hg hsep
          have hsz12 : w8.heap.size ≤ w12.heap.size := by have h := hg.size; simp at h; omega
          have HSF : Hid (BX.Semi wo.heap.size W7.heap.size w8.heap.size w12 (.slice (some ⟨g12, 0, none⟩) (ws.length + 1) q12) (ws ++ [x])) := Lib.hid (BX.Semi.push (x := (x : BL)) HREC.out HC.out HSPB.out ((HCX.out.below CnN.kept HBc.out).below CnN.kept ((Below.refl _ _).alloc (Nat.le_refl _) _)) ho HRL.out hg (by rcases hsep with h | h; exact Or.inl h; exact Or.inr (by simp; omega)) (by simp; omega))
          have HSAF : Hid (Same W7.heap.size w8.heap.size w8 w12) := Lib.hid (fun j h1 h2 h3 => (Same.of_grown hg HSPB.out j h1 h2 (by simp; omega)).trans ((((HBc.out.alloc HBc.out.size _).block j (by omega))).trans (HSA.out j h1 h2 h3)))
          have H9F := Lib.hid (((H9.out.trans (HBc.out.mono H9.out.size)).alloc (H9.out.trans (HBc.out.mono H9.out.size)).size _).grown hg (by simp; omega) (fun g hg2 => by have := (HROW.out.lt g hg2).1; omega))
          clear ho hg hsep
          go_wp2_with fail
          go_roundw
          case rel => exact ⟨m + 1, ws ++ [x], some ⟨g12, 0, none⟩, q12, by have := HMT.out; omega, by go_num, by simp, by simp; omega, Lib.hid (by rw [HTK.out, ← HWS.out, HWY.out, HHP.out]; simp), by simpa using HSF, HSAF, H9F, hsz12⟩
          case measure => have := HMT.out; simp [intOf]; omega
        have hq2 := str_eq hop
        have HWY := Lib.hid (wantY_yes (x := ⟨dy, pa, ou, inn, qy⟩) (d := d) (y := x) ⟨hd, HPP.out, hop⟩)
        clear hd hop
        refine wp_region_held_drew (S := (fun W' => Hid (Below W10.heap.size W10 W') ∧ W'.cell? ⟨w5.heap.size, k, none⟩ = some (.int .i64 d) ∧ W'.cell? ⟨w2.heap.size, 0, none⟩ = some (.int .i64 dy) ∧ W'.cell? ⟨wr.heap.size, 0, none⟩ = some (.string x.par) ∧ W'.cell? ⟨w2.heap.size, 1, none⟩ = some (.string pa) ∧ W'.cell? ⟨wr.heap.size, 1, none⟩ = some (.string x.prt) ∧ W'.cell? ⟨w2.heap.size, 2, none⟩ = some (.string ou))) (by kernel_rfl) (hold6 hcd2 k0 y0 k1 y1 k2 (Below.refl _ _).drew) (fun hHeld => ?_)
        refine wpAnyH_take (i := 0) (oi := { dst := some 79, op := Op.move (Operand.tmp 10), type := 32, pos := _, after := #[], guard := none }) (v := ?vr4x1) rfl (by kernel_rfl) (by kernel_rfl) (by kernel_rfl) (fun _ _ _ h => h) (Or.inl ⟨by rfl, ?yr4x1⟩) (by assumption) ?rr4x1
        case yr4x1 => (intro w' hSw; (try dsimp only at hSw); go_simp; (try with_reducible rfl))
        refine wpAnyH_take (i := 1) (oi := { dst := some 80, op := Op.move (Operand.tmp 11), type := 3, pos := _, after := #[], guard := none }) (v := ?vr4x2) rfl (by kernel_rfl) (by kernel_rfl) (by kernel_rfl) (fun _ _ _ h => h) (Or.inl ⟨by rfl, ?yr4x2⟩) (by assumption) ?rr4x2
        case yr4x2 => (intro w' hSw; (try dsimp only at hSw); go_simp; (try with_reducible rfl))
        refine wpAnyH_take (i := 2) (oi := { dst := some 81, op := Op.indexAddr 32 (Operand.tmp 79) (Operand.tmp 80), type := 0, pos := _, after := #[{ on := 0, ground := Ground.data }, { on := 1, ground := Ground.data }], guard := none }) (v := ?vr4x3) rfl (by kernel_rfl) (by kernel_rfl) (by kernel_rfl) (fun _ _ _ h => h) (Or.inl ⟨by rfl, ?yr4x3⟩) (by assumption) ?rr4x3
        case yr4x3 => (intro w' hSw; (try dsimp only at hSw); go_simp; (try with_reducible rfl))
        (try simp only [Act.put, List.setIfInBounds_toArray, List.set_cons_zero, List.set_cons_succ])
        refine wpAnyH_take (i := 3) (oi := { dst := some 82, op := Op.load 3 (Operand.tmp 81), type := 3, pos := _, after := #[{ on := 2, ground := Ground.data }], guard := none }) (v := ?vr4x4) rfl (by kernel_rfl) (by kernel_rfl) (by kernel_rfl) (fun _ _ _ h => h) (Or.inl ⟨by rfl, ?yr4x4⟩) (by assumption) ?rr4x4
        case yr4x4 => (intro w' hSw; (try dsimp only at hSw); go_simp; (try with_reducible rfl))
        refine wpAnyH_take (i := 4) (oi := { dst := some 83, op := Op.fieldAddr 27 (Operand.tmp 5) 0, type := 0, pos := _, after := #[], guard := none }) (v := ?vr4x5) rfl (by kernel_rfl) (by kernel_rfl) (by kernel_rfl) (fun _ _ _ h => h) (Or.inl ⟨by rfl, ?yr4x5⟩) (by assumption) ?rr4x5
        case yr4x5 => (intro w' hSw; (try dsimp only at hSw); go_simp; (try with_reducible rfl))
        refine wpAnyH_take (i := 5) (oi := { dst := some 84, op := Op.load 3 (Operand.tmp 83), type := 3, pos := _, after := #[{ on := 4, ground := Ground.data }], guard := none }) (v := ?vr4x6) rfl (by kernel_rfl) (by kernel_rfl) (by kernel_rfl) (fun _ _ _ h => h) (Or.inl ⟨by rfl, ?yr4x6⟩) (by assumption) ?rr4x6
        case yr4x6 => (intro w' hSw; (try dsimp only at hSw); go_simp; (try with_reducible rfl))
        (try simp only [Act.put, List.setIfInBounds_toArray, List.set_cons_zero, List.set_cons_succ])
        refine wpAnyH_take (i := 6) (oi := { dst := some 85, op := Op.binOp BinOp.geq 3 (Operand.tmp 82) (Operand.tmp 84) 3, type := 4, pos := _, after := #[{ on := 3, ground := Ground.data }, { on := 5, ground := Ground.data }], guard := none }) (v := ?vr4x7) rfl (by kernel_rfl) (by kernel_rfl) (by kernel_rfl) (fun _ _ _ h => h) (Or.inl ⟨by rfl, ?yr4x7⟩) (by assumption) ?rr4x7
        case yr4x7 => (intro w' hSw; (try dsimp only at hSw); go_simp; (try with_reducible rfl))
        refine wpAnyH_take (i := 7) (oi := { dst := some 86, op := Op.move (Operand.tmp 85), type := 4, pos := _, after := #[{ on := 6, ground := Ground.data }], guard := none }) (v := ?vr4x8) rfl (by kernel_rfl) (by kernel_rfl) (by kernel_rfl) (fun _ _ _ h => h) (Or.inl ⟨by rfl, ?yr4x8⟩) (by assumption) ?rr4x8
        case yr4x8 => (intro w' hSw; (try dsimp only at hSw); go_simp; (try with_reducible rfl))
        refine wpAnyH_take (i := 8) (oi := { dst := some 87, op := Op.fieldAddr 36 (Operand.tmp 15) 0, type := 0, pos := _, after := #[{ on := 7, ground := Ground.guard }], guard := some (7, true) }) (v := ?vr4x9) rfl (by kernel_rfl) (by kernel_rfl) (by kernel_rfl) (fun _ _ _ h => h) (Or.inl ⟨by rfl, ?yr4x9⟩) (by assumption) ?rr4x9
        case yr4x9 => (intro w' hSw; (try dsimp only at hSw); go_simp; (try with_reducible rfl))
        (try simp only [Act.put, List.setIfInBounds_toArray, List.set_cons_zero, List.set_cons_succ])
        refine wpAnyH_take (i := 9) (oi := { dst := some 88, op := Op.load 9 (Operand.tmp 87), type := 9, pos := _, after := #[{ on := 8, ground := Ground.data }, { on := 7, ground := Ground.guard }], guard := some (7, true) }) (v := ?vr4x10) rfl (by kernel_rfl) (by kernel_rfl) (by kernel_rfl) (fun _ _ _ h => h) (Or.inl ⟨by rfl, ?yr4x10⟩) (by assumption) ?rr4x10
        case yr4x10 => (intro w' hSw; (try dsimp only at hSw); go_simp; (try with_reducible rfl))
        refine wpAnyH_take (i := 10) (oi := { dst := some 89, op := Op.fieldAddr 27 (Operand.tmp 5) 1, type := 0, pos := _, after := #[{ on := 7, ground := Ground.guard }], guard := some (7, true) }) (v := ?vr4x11) rfl (by kernel_rfl) (by kernel_rfl) (by kernel_rfl) (fun _ _ _ h => h) (Or.inl ⟨by rfl, ?yr4x11⟩) (by assumption) ?rr4x11
        case yr4x11 => (intro w' hSw; (try dsimp only at hSw); go_simp; (try with_reducible rfl))
        refine wpAnyH_take (i := 11) (oi := { dst := some 90, op := Op.load 9 (Operand.tmp 89), type := 9, pos := _, after := #[{ on := 10, ground := Ground.data }, { on := 7, ground := Ground.guard }], guard := some (7, true) }) (v := ?vr4x12) rfl (by kernel_rfl) (by kernel_rfl) (by kernel_rfl) (fun _ _ _ h => h) (Or.inl ⟨by rfl, ?yr4x12⟩) (by assumption) ?rr4x12
        case yr4x12 => (intro w' hSw; (try dsimp only at hSw); go_simp; (try with_reducible rfl))
        (try simp only [Act.put, List.setIfInBounds_toArray, List.set_cons_zero, List.set_cons_succ])
        refine wpAnyH_take (i := 12) (oi := { dst := some 91, op := Op.binOp BinOp.eql 9 (Operand.tmp 88) (Operand.tmp 90) 9, type := 4, pos := _, after := #[{ on := 9, ground := Ground.data }, { on := 11, ground := Ground.data }, { on := 7, ground := Ground.guard }], guard := some (7, true) }) (v := ?vr4x13) rfl (by kernel_rfl) (by kernel_rfl) (by kernel_rfl) (fun _ _ _ h => h) (Or.inl ⟨by rfl, ?yr4x13⟩) (by assumption) ?rr4x13
        case yr4x13 => (intro w' hSw; (try dsimp only at hSw); go_simp; (try with_reducible rfl))
        refine wpAnyH_take (i := 13) (oi := { dst := some 92, op := Op.pick (Operand.tmp 86) (Operand.tmp 91) (Operand.const (Value.bool false)), type := 4, pos := _, after := #[{ on := 7, ground := Ground.data }, { on := 12, ground := Ground.data }], guard := none }) (v := ?vr4x14) rfl (by kernel_rfl) (by kernel_rfl) (by kernel_rfl) (fun _ _ _ h => h) (Or.inl ⟨by rfl, ?yr4x14⟩) (by assumption) ?rr4x14
        case yr4x14 => (intro w' hSw; (try dsimp only at hSw); go_simp; (try with_reducible rfl))
        refine wpAnyH_take (i := 14) (oi := { dst := some 93, op := Op.move (Operand.tmp 92), type := 4, pos := _, after := #[{ on := 13, ground := Ground.data }, { on := 7, ground := Ground.chain }], guard := none }) (v := ?vr4x15) rfl (by kernel_rfl) (by kernel_rfl) (by kernel_rfl) (fun _ _ _ h => h) (Or.inl ⟨by rfl, ?yr4x15⟩) (by assumption) ?rr4x15
        case yr4x15 => (intro w' hSw; (try dsimp only at hSw); go_simp; (try with_reducible rfl))
        (try simp only [Act.put, List.setIfInBounds_toArray, List.set_cons_zero, List.set_cons_succ])
        refine wpAnyH_take (i := 15) (oi := { dst := some 94, op := Op.fieldAddr 36 (Operand.tmp 15) 1, type := 0, pos := _, after := #[{ on := 14, ground := Ground.guard }], guard := some (14, true) }) (v := ?vr4x16) rfl (by kernel_rfl) (by kernel_rfl) (by kernel_rfl) (fun _ _ _ h => h) (Or.inl ⟨by rfl, ?yr4x16⟩) (by assumption) ?rr4x16
        case yr4x16 => (intro w' hSw; (try dsimp only at hSw); go_simp; (try with_reducible rfl))
        refine wpAnyH_take (i := 16) (oi := { dst := some 95, op := Op.load 9 (Operand.tmp 94), type := 9, pos := _, after := #[{ on := 15, ground := Ground.data }, { on := 14, ground := Ground.guard }], guard := some (14, true) }) (v := ?vr4x17) rfl (by kernel_rfl) (by kernel_rfl) (by kernel_rfl) (fun _ _ _ h => h) (Or.inl ⟨by rfl, ?yr4x17⟩) (by assumption) ?rr4x17
        case yr4x17 => (intro w' hSw; (try dsimp only at hSw); go_simp; (try with_reducible rfl))
        refine wpAnyH_take (i := 17) (oi := { dst := some 96, op := Op.fieldAddr 27 (Operand.tmp 5) 2, type := 0, pos := _, after := #[{ on := 14, ground := Ground.guard }], guard := some (14, true) }) (v := ?vr4x18) rfl (by kernel_rfl) (by kernel_rfl) (by kernel_rfl) (fun _ _ _ h => h) (Or.inl ⟨by rfl, ?yr4x18⟩) (by assumption) ?rr4x18
        case yr4x18 => (intro w' hSw; (try dsimp only at hSw); go_simp; (try with_reducible rfl))
        (try simp only [Act.put, List.setIfInBounds_toArray, List.set_cons_zero, List.set_cons_succ])
        refine wpAnyH_take (i := 18) (oi := { dst := some 97, op := Op.load 9 (Operand.tmp 96), type := 9, pos := _, after := #[{ on := 17, ground := Ground.data }, { on := 14, ground := Ground.guard }], guard := some (14, true) }) (v := ?vr4x19) rfl (by kernel_rfl) (by kernel_rfl) (by kernel_rfl) (fun _ _ _ h => h) (Or.inl ⟨by rfl, ?yr4x19⟩) (by assumption) ?rr4x19
        case yr4x19 => (intro w' hSw; (try dsimp only at hSw); go_simp; (try with_reducible rfl))
        refine wpAnyH_take (i := 19) (oi := { dst := some 98, op := Op.binOp BinOp.eql 9 (Operand.tmp 95) (Operand.tmp 97) 9, type := 4, pos := _, after := #[{ on := 16, ground := Ground.data }, { on := 18, ground := Ground.data }, { on := 14, ground := Ground.guard }], guard := some (14, true) }) (v := ?vr4x20) rfl (by kernel_rfl) (by kernel_rfl) (by kernel_rfl) (fun _ _ _ h => h) (Or.inl ⟨by rfl, ?yr4x20⟩) (by assumption) ?rr4x20
        case yr4x20 => (intro w' hSw; (try dsimp only at hSw); go_simp; (try with_reducible rfl))
        refine wpAnyH_take (i := 20) (oi := { dst := some 99, op := Op.pick (Operand.tmp 93) (Operand.tmp 98) (Operand.const (Value.bool false)), type := 4, pos := _, after := #[{ on := 14, ground := Ground.data }, { on := 19, ground := Ground.data }], guard := none }) (v := ?vr4x21) rfl (by kernel_rfl) (by kernel_rfl) (by kernel_rfl) (fun _ _ _ h => h) (Or.inl ⟨by rfl, ?yr4x21⟩) (by assumption) ?rr4x21
        case yr4x21 => (intro w' hSw; (try dsimp only at hSw); go_simp; (try with_reducible rfl))
        (try simp only [Act.put, List.setIfInBounds_toArray, List.set_cons_zero, List.set_cons_succ])
        refine wpAnyH_done (by kernel_rfl) ?_ _
        have hS := (by assumption : Hid (Below W10.heap.size W10 _) ∧ _)
        obtain ⟨w11, hw11⟩ : ∃ W, W = worldOf hS := ⟨_, rfl⟩
        simp only [worldOf] at hw11
        have HB11 : Hid (Below W10.heap.size W10 w11) := Lib.hid (by rw [hw11]; exact hS.1.out)
        rw [← hw11]
        clear hw11 hS hcd2 k0 k1 k2 y0 y1
        have HYc := Lib.hid (blk_below HY10.out HB11.out)
        have HKc := Lib.hid (blk_below HK10.out HB11.out)
        have HBc := Lib.hid (HA10.out.trans (HB11.out.mono HA10.out.size))
        have hsc := HBc.out.size
        have k3 := cell_of_row _ _ 3 _ _ _ HKc.out
        have zf1 := frozen_of_row _ _ 1 _ _ HYc.out
        have z1 := cell_of_row _ _ 1 _ _ _ HYc.out
        obtain ⟨V1, hV1⟩ : ∃ W, w11.setCell ⟨wr.heap.size, 1, none⟩ (.string inn) = W := ⟨_, rfl⟩
        have HV1 := Lib.hid hV1
        have HYn : Hid (V1.heap[wr.heap.size]? = some (.cells #[.string x.par, .string inn, .int .i64 x.qty, .int .i64 x.fr, .int .i64 x.un, .slice sa5 x.whn.length sc5] 36)) := Lib.hid (by rw [← hV1]; exact heap_setCell_same _ _ 1 _ _ _ HYc.out)
        have HKn : Hid (V1.heap[w2.heap.size]? = some (.cells #[.int .i64 dy, .string pa, .string ou, .string inn, .int .i64 qy] 27)) := Lib.hid (by rw [← hV1]; exact (heap_setCell_other _ _ _ _ (by simp only []; omega)).trans HKc.out)
        have HBn := Lib.hid (HBc.out.setCell (p := ⟨wr.heap.size, 1, none⟩) (Nat.le_refl _) (.string inn))
        rw [hV1] at HBn
        clear hV1 HYc HKc HBc
        have HYc := HYn
        have HKc := HKn
        have HBc := HBn
        clear HYn HKn HBn
        have hsV1 := HBc.out.size
        go_upto_region 22 with fail
        rw [HV1.out]
        clear HV1 z1 zf1
        clear k3
        have k4 := cell_of_row _ _ 4 _ _ _ HKc.out
        by_cases hqy : 0 < qy
        · have hqd : decide (0 < qy) = true := decide_eq_true hqy
          have HQ : Hid ((if 0 < qy then qy else x.qty) = qy) := Lib.hid (if_pos hqy)
          clear hqy
          have zf2 := frozen_of_row _ _ 2 _ _ HYc.out
          have z2 := cell_of_row _ _ 2 _ _ _ HYc.out
          obtain ⟨V2, hV2⟩ : ∃ W, V1.setCell ⟨wr.heap.size, 2, none⟩ (.int .i64 qy) = W := ⟨_, rfl⟩
          have HV2 := Lib.hid hV2
          have HYn : Hid (V2.heap[wr.heap.size]? = some (.cells #[.string x.par, .string inn, .int .i64 qy, .int .i64 x.fr, .int .i64 x.un, .slice sa5 x.whn.length sc5] 36)) := Lib.hid (by rw [← hV2]; exact heap_setCell_same _ _ 2 _ _ _ HYc.out)
          have HKn : Hid (V2.heap[w2.heap.size]? = some (.cells #[.int .i64 dy, .string pa, .string ou, .string inn, .int .i64 qy] 27)) := Lib.hid (by rw [← hV2]; exact (heap_setCell_other _ _ _ _ (by simp only []; omega)).trans HKc.out)
          have HBn := Lib.hid (HBc.out.setCell (p := ⟨wr.heap.size, 2, none⟩) (Nat.le_refl _) (.int .i64 qy))
          rw [hV2] at HBn
          clear hV2 HYc HKc HBc
          have HYc := HYn
          have HKc := HKn
          have HBc := HBn
          clear HYn HKn HBn
          have hsV2 := HBc.out.size
          go_upto_region 24 with fail
          rw [HV2.out]
          clear HV2 z2 zf2
          clear k4
          have HWQ : Hid (wantY ⟨dy, pa, ou, inn, qy⟩ d x = ({ par := x.par, prt := inn, qty := qy, fr := x.fr, un := x.un, whn := x.whn } : BL)) := Lib.hid (by rw [HWY.out]; simp only [HQ.out])
          by_cases he : inn = ByteArray.empty
          · have he1 : inn.toList.isEmpty = true := by rw [he, ByteArray.toList_eq]; rfl
            have HHP := Lib.hid (hasPrt_no (y := ({ par := x.par, prt := inn, qty := qy, fr := x.fr, un := x.un, whn := x.whn } : BL)) he)
            clear he
            have z1 := cell_of_row _ _ 1 _ _ _ HYc.out
            have HSF := Lib.hid (HM.out.below HBc.out)
            have HSAF : Hid (Same W7.heap.size w8.heap.size w8 V2) := Lib.hid (fun j h1 h2 h3 => (HBc.out.block j (by omega)).trans (HSA.out j h1 h2 h3))
            have H9F := Lib.hid (H9.out.trans (HBc.out.mono H9.out.size))
            have hsF : w8.heap.size ≤ V2.heap.size := by have := HBc.out.size; omega
            go_wp2_with fail
            go_roundw
            case rel => exact ⟨m + 1, ws, pw, qw, by have := HMT.out; omega, by go_num, rfl, by omega, Lib.hid (by rw [HTK.out, ← HWS.out, HWQ.out, HHP.out]; simp), HSF, HSAF, H9F, hsF⟩
            case measure => have := HMT.out; simp [intOf]; omega
          have HHP := Lib.hid (hasPrt_yes (y := ({ par := x.par, prt := inn, qty := qy, fr := x.fr, un := x.un, whn := x.whn } : BL)) he)
          have hne := txt_ne he
          clear he
          have z0 := cell_of_row _ _ 0 _ _ _ HYc.out
          have z1 := cell_of_row _ _ 1 _ _ _ HYc.out
          have z2 := cell_of_row _ _ 2 _ _ _ HYc.out
          have z3 := cell_of_row _ _ 3 _ _ _ HYc.out
          have z4 := cell_of_row _ _ 4 _ _ _ HYc.out
          have z5 := cell_of_row _ _ 5 _ _ _ HYc.out
          obtain ⟨rs, hrec, hrow, hc, hsp⟩ := HM.out.below (HBc.out.alloc HBc.out.size (.cells #[.string x.par, .string inn, .int .i64 qy, .int .i64 x.fr, .int .i64 x.un, .slice sa5 x.whn.length sc5] 36))
          have hrl : rs.length = ws.length := hrec.1
          rw [hrl] at hrow
          have HREC := Lib.hid hrec
          have HROW := Lib.hid hrow
          have HC := Lib.hid hc
          have HSPB := Lib.hid hsp
          have HRL := Lib.hid hrl
          clear hrec hrow hc hsp hrl
          go_wp2_with (at_builtin; refine wpList_append_apt rfl _ _ 25 rfl wo.heap.size 36 i0 (.agg #[.string ByteArray.empty, .string ByteArray.empty, .int .i64 0, .int .i64 0, .int .i64 0, .slice none 0 0]) 6 80 Try.underlying25 hi0 hz0 hz1 hz2 rfl (by decide) _ ws.length (flatN rs) rfl HROW.out ⟨V2.heap.size, 0, none⟩ 1 1 [.string x.par, .string inn, .int .i64 qy, .int .i64 x.fr, .int .i64 x.un, .slice sa5 x.whn.length sc5] (by decide) rfl rfl (new_6 _ _ _ _ _ _ _ _) (by intro u hu; simp at hu; rcases hu with rfl | rfl | rfl | rfl | rfl | rfl <;> rfl) (by omega) (by omega) (by simp; omega) ?_)
          intro g12 q12 w12 ho hg hsep
          have hsz12 : w8.heap.size ≤ w12.heap.size := by have h := hg.size; simp at h; omega
          have HSF : Hid (BX.Semi wo.heap.size W7.heap.size w8.heap.size w12 (.slice (some ⟨g12, 0, none⟩) (ws.length + 1) q12) (ws ++ [({ par := x.par, prt := inn, qty := qy, fr := x.fr, un := x.un, whn := x.whn } : BL)])) := Lib.hid (BX.Semi.push (x := (({ par := x.par, prt := inn, qty := qy, fr := x.fr, un := x.un, whn := x.whn } : BL) : BL)) HREC.out HC.out HSPB.out ((HCX.out.below CnN.kept HBc.out).below CnN.kept ((Below.refl _ _).alloc (Nat.le_refl _) _)) ho HRL.out hg (by rcases hsep with h | h; exact Or.inl h; exact Or.inr (by simp; omega)) (by simp; omega))
          have HSAF : Hid (Same W7.heap.size w8.heap.size w8 w12) := Lib.hid (fun j h1 h2 h3 => (Same.of_grown hg HSPB.out j h1 h2 (by simp; omega)).trans ((((HBc.out.alloc HBc.out.size _).block j (by omega))).trans (HSA.out j h1 h2 h3)))
          have H9F := Lib.hid (((H9.out.trans (HBc.out.mono H9.out.size)).alloc (H9.out.trans (HBc.out.mono H9.out.size)).size _).grown hg (by simp; omega) (fun g hg2 => by have := (HROW.out.lt g hg2).1; omega))
          clear ho hg hsep
          go_wp2_with fail
          go_roundw
          case rel => exact ⟨m + 1, ws ++ [({ par := x.par, prt := inn, qty := qy, fr := x.fr, un := x.un, whn := x.whn } : BL)], some ⟨g12, 0, none⟩, q12, by have := HMT.out; omega, by go_num, by simp, by simp; omega, Lib.hid (by rw [HTK.out, ← HWS.out, HWQ.out, HHP.out]; simp), by simpa using HSF, HSAF, H9F, hsz12⟩
          case measure => have := HMT.out; simp [intOf]; omega
        · have hqd : decide (0 < qy) = false := decide_eq_false hqy
          have HQ : Hid ((if 0 < qy then qy else x.qty) = x.qty) := Lib.hid (if_neg hqy)
          clear hqy
          go_upto_region 24 with fail
          clear k4
          have HWQ : Hid (wantY ⟨dy, pa, ou, inn, qy⟩ d x = ({ par := x.par, prt := inn, qty := x.qty, fr := x.fr, un := x.un, whn := x.whn } : BL)) := Lib.hid (by rw [HWY.out]; simp only [HQ.out])
          by_cases he : inn = ByteArray.empty
          · have he1 : inn.toList.isEmpty = true := by rw [he, ByteArray.toList_eq]; rfl
            have HHP := Lib.hid (hasPrt_no (y := ({ par := x.par, prt := inn, qty := x.qty, fr := x.fr, un := x.un, whn := x.whn } : BL)) he)
            clear he
            have z1 := cell_of_row _ _ 1 _ _ _ HYc.out
            have HSF := Lib.hid (HM.out.below HBc.out)
            have HSAF : Hid (Same W7.heap.size w8.heap.size w8 V1) := Lib.hid (fun j h1 h2 h3 => (HBc.out.block j (by omega)).trans (HSA.out j h1 h2 h3))
            have H9F := Lib.hid (H9.out.trans (HBc.out.mono H9.out.size))
            have hsF : w8.heap.size ≤ V1.heap.size := by have := HBc.out.size; omega
            go_wp2_with fail
            go_roundw
            case rel => exact ⟨m + 1, ws, pw, qw, by have := HMT.out; omega, by go_num, rfl, by omega, Lib.hid (by rw [HTK.out, ← HWS.out, HWQ.out, HHP.out]; simp), HSF, HSAF, H9F, hsF⟩
            case measure => have := HMT.out; simp [intOf]; omega
          have HHP := Lib.hid (hasPrt_yes (y := ({ par := x.par, prt := inn, qty := x.qty, fr := x.fr, un := x.un, whn := x.whn } : BL)) he)
          have hne := txt_ne he
          clear he
          have z0 := cell_of_row _ _ 0 _ _ _ HYc.out
          have z1 := cell_of_row _ _ 1 _ _ _ HYc.out
          have z2 := cell_of_row _ _ 2 _ _ _ HYc.out
          have z3 := cell_of_row _ _ 3 _ _ _ HYc.out
          have z4 := cell_of_row _ _ 4 _ _ _ HYc.out
          have z5 := cell_of_row _ _ 5 _ _ _ HYc.out
          obtain ⟨rs, hrec, hrow, hc, hsp⟩ := HM.out.below (HBc.out.alloc HBc.out.size (.cells #[.string x.par, .string inn, .int .i64 x.qty, .int .i64 x.fr, .int .i64 x.un, .slice sa5 x.whn.length sc5] 36))
          have hrl : rs.length = ws.length := hrec.1
          rw [hrl] at hrow
          have HREC := Lib.hid hrec
          have HROW := Lib.hid hrow
          have HC := Lib.hid hc
          have HSPB := Lib.hid hsp
          have HRL := Lib.hid hrl
          clear hrec hrow hc hsp hrl
          go_wp2_with (at_builtin; refine wpList_append_apt rfl _ _ 25 rfl wo.heap.size 36 i0 (.agg #[.string ByteArray.empty, .string ByteArray.empty, .int .i64 0, .int .i64 0, .int .i64 0, .slice none 0 0]) 6 80 Try.underlying25 hi0 hz0 hz1 hz2 rfl (by decide) _ ws.length (flatN rs) rfl HROW.out ⟨V1.heap.size, 0, none⟩ 1 1 [.string x.par, .string inn, .int .i64 x.qty, .int .i64 x.fr, .int .i64 x.un, .slice sa5 x.whn.length sc5] (by decide) rfl rfl (new_6 _ _ _ _ _ _ _ _) (by intro u hu; simp at hu; rcases hu with rfl | rfl | rfl | rfl | rfl | rfl <;> rfl) (by omega) (by omega) (by simp; omega) ?_)
          intro g12 q12 w12 ho hg hsep
          have hsz12 : w8.heap.size ≤ w12.heap.size := by have h := hg.size; simp at h; omega
          have HSF : Hid (BX.Semi wo.heap.size W7.heap.size w8.heap.size w12 (.slice (some ⟨g12, 0, none⟩) (ws.length + 1) q12) (ws ++ [({ par := x.par, prt := inn, qty := x.qty, fr := x.fr, un := x.un, whn := x.whn } : BL)])) := Lib.hid (BX.Semi.push (x := (({ par := x.par, prt := inn, qty := x.qty, fr := x.fr, un := x.un, whn := x.whn } : BL) : BL)) HREC.out HC.out HSPB.out ((HCX.out.below CnN.kept HBc.out).below CnN.kept ((Below.refl _ _).alloc (Nat.le_refl _) _)) ho HRL.out hg (by rcases hsep with h | h; exact Or.inl h; exact Or.inr (by simp; omega)) (by simp; omega))
          have HSAF : Hid (Same W7.heap.size w8.heap.size w8 w12) := Lib.hid (fun j h1 h2 h3 => (Same.of_grown hg HSPB.out j h1 h2 (by simp; omega)).trans ((((HBc.out.alloc HBc.out.size _).block j (by omega))).trans (HSA.out j h1 h2 h3)))
          have H9F := Lib.hid (((H9.out.trans (HBc.out.mono H9.out.size)).alloc (H9.out.trans (HBc.out.mono H9.out.size)).size _).grown hg (by simp; omega) (fun g hg2 => by have := (HROW.out.lt g hg2).1; omega))
          clear ho hg hsep
          go_wp2_with fail
          go_roundw
          case rel => exact ⟨m + 1, ws ++ [({ par := x.par, prt := inn, qty := x.qty, fr := x.fr, un := x.un, whn := x.whn } : BL)], some ⟨g12, 0, none⟩, q12, by have := HMT.out; omega, by go_num, by simp, by simp; omega, Lib.hid (by rw [HTK.out, ← HWS.out, HWQ.out, HHP.out]; simp), by simpa using HSF, HSAF, H9F, hsz12⟩
          case measure => have := HMT.out; simp [intOf]; omega
end Go.Proofs.Ytdhldokpojghdaa
