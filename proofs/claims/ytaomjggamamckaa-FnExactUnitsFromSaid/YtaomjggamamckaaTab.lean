/-
  The model's IsUnitTable.
-/
import Derived.Test.YtaomjggamamckaaRows
import Derived.Test.YtaomjggamamckaaRules
import Derived.Test.YtaomjggamamckaaTabLib
import Derived.Test.YtaomjggamamckaaReach
import Derived.Test.YtaomjggamamckaaRuleOk
import Derived.Test.YtaomjggamamckaaFind
import Derived.Test.YtaomjggamamckaaHold
import Derived.WalkKit
import Derived.WalkSpells
import Derived.WalkSmall
import Derived.BigQuiet
import Derived.Deep.QuietTactic
import Derived.Deep.DeepCutAuto
import Derived.Deep.RegionHeld3
import Derived.Lib.Hide
namespace Go.Proofs.Ytaomjggamamckaa
open Go.RowKit

theorem spec_mul_at {a b c d x y : Int} (h : rat.mulR a b c d = (x, y)) (w : World) : Calls Try.prog 14 #[.agg #[.int .i64 a, .int .i64 b], .agg #[.int .i64 c, .int .i64 d]] w fun e w' => e = .returned (.agg #[.int .i64 x, .int .i64 y]) ∧ Below w.heap.size w w' :=
  (rat.spec_mul a b c d w).mono fun e w' ⟨p, q, he, hp, hb⟩ => by
    have h2 := hp.out
    rw [h] at h2
    cases h2
    exact ⟨he, hb⟩
set_option maxRecDepth 100000 in
set_option maxHeartbeats 4000000 in
theorem spec_tab (v : Value) (rs : List UR) (w : World) (h : Rules w v rs) (hm : rs.length ≤ 1048577) (hsz : ∀ r, r ∈ rs → r.src.size ≤ maxLen ∧ r.dst.size ≤ maxLen) :
    Calls Try.prog 23 #[v] w (BRes (tabB rs) w) := by
  have HX := Lib.hid h
  have HZ := Lib.hid hsz
  obtain ⟨a', c', rfl⟩ := h.slice
  clear h hsz
  by_cases h12 : rs.length ≤ 12
  · have H12 := Lib.hid h12
    have b12 : decide ((rs.length : Int) ≤ 12) = true := decide_eq_true (by omega)
    go_enter Try.func23, Try.ntmps23
    go_wp2_with fail
    go_loopw [3] (fun i wr => ∃ k : Nat, k ≤ rs.length ∧ i = .int .i64 k ∧ Hid (∀ r, r ∈ rs.take k → ruleOk r = true) ∧ Hid (Below w.heap.size w wr)) (fun i _ => rs.length - (intOf i).toNat)
    case atStart => exact ⟨0, Nat.zero_le _, rfl, Lib.hid (fun r hr => by cases hr), Lib.hid (Below.refl _ _)⟩
    case round =>
      obtain ⟨k, hk, rfl, HO, HB⟩ := hrel
      by_cases hlt : k < rs.length
      · obtain ⟨b2, o2, c2, hv2, hc2, hcell2⟩ := HX.out.some (by omega)
        simp only [Value.slice.injEq] at hv2
        obtain ⟨rfl, _, rfl⟩ := hv2
        obtain ⟨r0, r1, r2, r3⟩ := (hcell2.below HB.out).at k hlt
        have hz := HZ.out _ (List.getElem_mem hlt)
        have HTK : Hid (rs.take (k + 1) = rs.take k ++ [rs[k]'hlt]) := Lib.hid (List.take_succ_eq_append_getElem hlt)
        have HME : Hid (rs[k]'hlt ∈ rs) := Lib.hid (List.getElem_mem hlt)
        generalize rs[k]'hlt = r at *
        have HZ1 := Lib.hid hz
        clear hz hcell2 hc2
        have HP := Lib.hid (spec_rule r wr HZ1.out.1 HZ1.out.2)
        unfold urV at HP
        rcases Bool.eq_false_or_eq_true (ruleOk r) with hr | hr
        · have HO2 : Hid (∀ q, q ∈ rs.take (k + 1) → ruleOk q = true) := Lib.hid (fun q hq => by
            rw [HTK.out] at hq
            rcases List.mem_append.1 hq with hq | hq
            · exact HO.out q hq
            · obtain rfl := List.mem_singleton.1 hq; exact hr)
          have HR := Lib.hid hr
          clear hr
          go_wp2_with fail
          refine HP.out.mono ?_
          rintro e w3 ⟨rfl, hb⟩
          rw [HR.out]
          go_wp2_with fail
          go_roundw
          case rel => exact ⟨k + 1, by omega, by go_num, HO2, Lib.hid (HB.out.trans (hb.mono HB.out.size))⟩
          case measure => simp [intOf]; omega
        · have HY : Hid (tabB rs = false) := Lib.hid (tabB_no (fun ht => by have := ht.2.1 r HME.out; rw [hr] at this; exact Bool.noConfusion this))
          have HR := Lib.hid hr
          clear hr
          go_wp2_with fail
          refine HP.out.mono ?_
          rintro e w3 ⟨rfl, hb⟩
          rw [HR.out]
          have HB3 := Lib.hid (HB.out.trans (hb.mono HB.out.size))
          go_wp2_with fail
          go_ret
          exact ⟨by rw [HY.out]; rfl, HB3.out⟩
      · have HOK : Hid (∀ r, r ∈ rs → ruleOk r = true) := Lib.hid (fun r hr => HO.out r (by rw [List.take_of_length_le (Nat.le_of_not_lt hlt)]; exact hr))
        clear HO
        go_wp2_with fail
        go_loopw [4] (fun i wr2 => ∃ k : Nat, k ≤ 2 * rs.length ∧ i = .int .i64 k ∧ Hid (∀ j, j < k → ∀ r, r ∈ rs → RuleH (reachU rs (startU rs j)) r) ∧ Hid (Below w.heap.size w wr2)) (fun i _ => 2 * rs.length - (intOf i).toNat)
        case atStart => exact ⟨0, Nat.zero_le _, rfl, Lib.hid (fun j hj => absurd hj (Nat.not_lt_zero _)), HB⟩
        case round =>
          clear HB
          obtain ⟨k, hk2, rfl, HO, HB⟩ := hrel
          by_cases hl2 : k < 2 * rs.length
          · have hkk : k / 2 < rs.length := by omega
            obtain ⟨b2, o2, c2, hv2, hc2, hcell2⟩ := HX.out.some (by omega)
            simp only [Value.slice.injEq] at hv2
            obtain ⟨rfl, _, rfl⟩ := hv2
            have HCL := Lib.hid hcell2
            obtain ⟨r0, r1, r2, r3⟩ := (hcell2.below HB.out).at (k / 2) hkk
            clear hcell2 hc2
            go_upto_if 48 with fail
            go_cut [5] (fun t wx => t = .string (startU rs k) ∧ wx = wr)
            case first =>
              by_cases ho : k % 2 = 1
              · have HS := Lib.hid (start_odd ho hkk)
                have bo : ((k : Int) % 2 == 1) = true := beq_iff_eq.2 (by omega)
                clear ho
                go_wp2_with fail
                go_meet
                exact ⟨by rw [HS.out], rfl⟩
              · have HS := Lib.hid (start_even ho hkk)
                have bo : ((k : Int) % 2 == 1) = false := beq_eq_false_iff_ne.2 (by omega)
                clear ho
                go_wp2_with fail
                go_meet
                exact ⟨by rw [HS.out], rfl⟩
            case rest =>
              obtain ⟨rfl, rfl⟩ := hcut
              clear r0 r1 r2 r3
              have HPL := Lib.hid (reachU_len rs (startU rs k))
              have HRE := Lib.hid (spec_reach _ rs (startU rs k) _ (HX.out.below HB.out) H12.out)
              go_wp2_with fail
              refine HRE.out.mono ?_
              rintro e w3 ⟨v1, v2, rfl, hs, he, hb⟩
              obtain ⟨ps, hps⟩ : ∃ ps, reachU rs (startU rs k) = ps := ⟨_, rfl⟩
              rw [hps] at hs he HPL
              have HPS := Lib.hid hps
              clear hps HRE
              obtain ⟨p1, q1, rfl⟩ := hs.slice
              obtain ⟨p2, q2, rfl⟩ := he.slice
              rw [namesOf_length] at hs
              rw [facsOf_length] at he
              have HS := Lib.hid hs
              have HE := Lib.hid he
              have HB3 := Lib.hid (HB.out.trans (hb.mono HB.out.size))
              have HCL3 := Lib.hid ((HCL.out.below HB.out).below hb)
              clear hs he hb HCL
              rw [namesOf_length, facsOf_length]
              have hpl : ps.length ≤ 25 := by have := HPL.out; omega
              go_wp2_with fail
              go_loopw [8] (fun i wr4 => ∃ m : Nat, m ≤ rs.length ∧ i = .int .i64 m ∧ Hid (∀ r, r ∈ rs.take m → RuleH ps r) ∧ Hid (Below w3.heap.size w3 wr4)) (fun i _ => rs.length - (intOf i).toNat)
              case atStart => exact ⟨0, Nat.zero_le _, rfl, Lib.hid (fun r hr => by cases hr), Lib.hid (Below.refl _ _)⟩
              case round =>
                obtain ⟨m, hmr, rfl, HI, HB4⟩ := hrel
                by_cases hlm : m < rs.length
                · obtain ⟨r0, r1, r2, r3⟩ := (HCL3.out.below HB4.out).at m hlm
                  have hcb := (HCL3.out.below HB4.out).1
                  have HTK : Hid (rs.take (m + 1) = rs.take m ++ [rs[m]'hlm]) := Lib.hid (List.take_succ_eq_append_getElem hlm)
                  have HME : Hid (rs[m]'hlm ∈ rs) := Lib.hid (List.getElem_mem hlm)
                  generalize rs[m]'hlm = r at *
                  have HS4 := Lib.hid (HS.out.below HB4.out)
                  have HE4 := Lib.hid (HE.out.below HB4.out)
                  have HB44 := Lib.hid (HB3.out.trans (HB4.out.mono HB3.out.size))
                  go_wp2_with fail
                  refine (spec_find _ (namesOf ps) r.src _ HS4.out (by rw [namesOf_length]; omega)).mono ?_
                  rintro e w5 ⟨rfl, hb5⟩
                  obtain ⟨a, ha⟩ : ∃ a, fndI (namesOf ps) r.src = a := ⟨_, rfl⟩
                  rw [ha]
                  have HFA := Lib.hid ha
                  clear ha
                  have k0 := hold_c r0 hb5
                  have k1 := hold_c r1 hb5
                  have k2 := hold_c r2 hb5
                  have k3 := hold_c r3 hb5
                  clear r0 r1 r2 r3
                  go_wp2_with fail
                  refine (spec_find _ (namesOf ps) r.dst _ (HS4.out.below hb5) (by rw [namesOf_length]; omega)).mono ?_
                  rintro e w6 ⟨rfl, hb6⟩
                  obtain ⟨b, hb⟩ : ∃ b, fndI (namesOf ps) r.dst = b := ⟨_, rfl⟩
                  rw [hb]
                  have HFB := Lib.hid hb
                  clear hb
                  have r2 := hold_c k2 hb6
                  have r3 := hold_c k3 hb6
                  have HE6 := Lib.hid ((HE4.out.below hb5).below hb6)
                  have HB46 := Lib.hid ((HB4.out.trans (hb5.mono HB4.out.size)).trans (hb6.mono (HB4.out.trans (hb5.mono HB4.out.size)).size))
                  have HB66 := Lib.hid (HB3.out.trans (HB46.out.mono HB3.out.size))
                  clear k0 k1 k2 k3 hb5 hb6 HS4 HE4 HB44 HB4
                  go_upto_region 18 with fail
                  go_cut [106] (fun t wx => t = .bool (!decide (RuleH ps r)) ∧ Hid (Below w6.heap.size w6 wx))
                  case first =>
                    by_cases hA : a < 0 <;> by_cases hB : b < 0
                    · have HD : Hid (decide (RuleH ps r) = true) := Lib.hid (decide_eq_true (ruleH_none (by rw [HFA.out]; exact hA) (by rw [HFB.out]; exact hB)))
                      have bA := decide_eq_true hA
                      have bB := decide_eq_true hB
                      have bC : decide (0 ≤ a) = false := decide_eq_false (by omega)
                      clear hA hB
                      go_quiet (fail)
                      go_wp2_with fail
                      go_meet
                      exact ⟨by rw [HD.out]; rfl, Lib.hid (below_drewN (Below.refl _ _) _)⟩
                    · have HD : Hid (decide (RuleH ps r) = false) := Lib.hid (decide_eq_false (ruleH_one (Or.inl ⟨by rw [HFA.out]; exact hA, by rw [HFB.out]; exact hB⟩)))
                      have bA := decide_eq_true hA
                      have bB : decide (b < 0) = false := decide_eq_false hB
                      clear hA hB
                      go_quiet (fail)
                      go_wp2_with fail
                      go_meet
                      exact ⟨by rw [HD.out]; rfl, Lib.hid (below_drewN (Below.refl _ _) _)⟩
                    · have HD : Hid (decide (RuleH ps r) = false) := Lib.hid (decide_eq_false (ruleH_one (Or.inr ⟨by rw [HFA.out]; exact hA, by rw [HFB.out]; exact hB⟩)))
                      have bA : decide (a < 0) = false := decide_eq_false hA
                      have bB := decide_eq_true hB
                      clear hA hB
                      go_quiet (fail)
                      go_wp2_with fail
                      go_meet
                      exact ⟨by rw [HD.out]; rfl, Lib.hid (below_drewN (Below.refl _ _) _)⟩
                    · obtain ⟨ka, hka, ha⟩ := fnd_in (ns := namesOf ps) (by rw [HFA.out]; exact hA)
                      obtain ⟨kb, hkb, hb⟩ := fnd_in (ns := namesOf ps) (by rw [HFB.out]; exact hB)
                      have HD : Hid (decide (RuleH ps r) = decide (rat.mulR (facI ps ka).1 (facI ps ka).2 r.num r.den = facI ps kb)) := Lib.hid (ruleH_both (by rw [HFA.out]; exact hA) (by rw [HFB.out]; exact hB) ha hb)
                      rw [HFA.out] at ha
                      rw [HFB.out] at hb
                      rw [namesOf_length] at hka hkb
                      have hfa : ka < (facsOf ps).length := by rw [facsOf_length]; exact hka
                      have hfb : kb < (facsOf ps).length := by rw [facsOf_length]; exact hkb
                      clear hA hB HFA HFB
                      subst ha
                      subst hb
                      obtain ⟨b3, o3, c3, hv3, hc3, hcell3⟩ := HE6.out.some (by omega)
                      simp only [Value.slice.injEq] at hv3
                      obtain ⟨rfl, hl3, rfl⟩ := hv3
                      clear hl3
                      have e1 := hcell3.fst ka hfa
                      have e2 := hcell3.snd ka hfa
                      have e3 := hcell3.fst kb hfb
                      have e4 := hcell3.snd kb hfb
                      rw [facI_get hfa] at e1 e2
                      rw [facI_get hfb] at e3 e4
                      have bA : decide ((ka : Int) < 0) = false := decide_eq_false (by omega)
                      have bB : decide ((kb : Int) < 0) = false := decide_eq_false (by omega)
                      have bC : decide (0 ≤ (ka : Int)) = true := decide_eq_true (by omega)
                      clear hcell3 hc3 hfa hfb
                      generalize facI ps ka = fa at *
                      generalize facI ps kb = fb at *
                      obtain ⟨x, y, hxy⟩ : ∃ x y, rat.mulR fa.1 fa.2 r.num r.den = (x, y) := ⟨_, _, rfl⟩
                      have HXY := Lib.hid hxy
                      have i1 : (0 : Int) ≤ (ka : Int) := by omega
                      have i2 : (ka : Int) < (ps.length : Int) := by omega
                      have i3 : (0 : Int) ≤ (kb : Int) := by omega
                      have i4 : (kb : Int) < (ps.length : Int) := by omega
                      by_cases hx : x = fb.1
                      · by_cases hy : y = fb.2
                        · have HD2 : Hid (decide (RuleH ps r) = true) := Lib.hid (by rw [HD.out, hxy]; exact decide_eq_true (by rw [hx, hy]))
                          have bx : (x == fb.1) = true := beq_iff_eq.2 hx
                          have by' : (y == fb.2) = true := beq_iff_eq.2 hy
                          clear hx hy hxy
                          go_region_held3 (fun W' => Hid (Below w6.heap.size w6 W') ∧ W'.cell? ⟨b3, o3 + ka * 2, none⟩ = some (.int .i64 fa.1) ∧ W'.cell? ⟨b3, o3 + ka * 2 + 1, none⟩ = some (.int .i64 fa.2) ∧ W'.cell? ⟨b3, o3 + kb * 2, none⟩ = some (.int .i64 fb.1) ∧ W'.cell? ⟨b3, o3 + kb * 2 + 1, none⟩ = some (.int .i64 fb.2) ∧ W'.cell? ⟨b2, o2 + m * 4 + 2, none⟩ = some (.int .i64 r.num) ∧ W'.cell? ⟨b2, o2 + m * 4 + 3, none⟩ = some (.int .i64 r.den))
                            (first | assumption | exact hold6 e1 e2 e3 e4 r2 r3 (hold_call (by assumption) (by assumption)) | exact hold6 e1 e2 e3 e4 r2 r3 (Below.refl _ _).drew)
                            (first | (go_at_call 14; refine (spec_mul_at HXY.out _).mono ?_; rintro e w' ⟨rfl, hb⟩; have hle := hold_le (by assumption) hb))
                          all_goals
                            go_wp2_with fail
                            go_meet
                            exact ⟨by rw [HD2.out]; rfl, (by assumption : Hid (Below w6.heap.size w6 _) ∧ _).1⟩
                        · have HD2 : Hid (decide (RuleH ps r) = false) := Lib.hid (by rw [HD.out, hxy]; exact decide_eq_false (fun e => hy (by rw [← e])))
                          have bx : (x == fb.1) = true := beq_iff_eq.2 hx
                          have by' : (y == fb.2) = false := beq_eq_false_iff_ne.2 hy
                          clear hx hy hxy
                          go_region_held3 (fun W' => Hid (Below w6.heap.size w6 W') ∧ W'.cell? ⟨b3, o3 + ka * 2, none⟩ = some (.int .i64 fa.1) ∧ W'.cell? ⟨b3, o3 + ka * 2 + 1, none⟩ = some (.int .i64 fa.2) ∧ W'.cell? ⟨b3, o3 + kb * 2, none⟩ = some (.int .i64 fb.1) ∧ W'.cell? ⟨b3, o3 + kb * 2 + 1, none⟩ = some (.int .i64 fb.2) ∧ W'.cell? ⟨b2, o2 + m * 4 + 2, none⟩ = some (.int .i64 r.num) ∧ W'.cell? ⟨b2, o2 + m * 4 + 3, none⟩ = some (.int .i64 r.den))
                            (first | assumption | exact hold6 e1 e2 e3 e4 r2 r3 (hold_call (by assumption) (by assumption)) | exact hold6 e1 e2 e3 e4 r2 r3 (Below.refl _ _).drew)
                            (first | (go_at_call 14; refine (spec_mul_at HXY.out _).mono ?_; rintro e w' ⟨rfl, hb⟩; have hle := hold_le (by assumption) hb))
                          all_goals
                            go_wp2_with fail
                            go_meet
                            exact ⟨by rw [HD2.out]; rfl, (by assumption : Hid (Below w6.heap.size w6 _) ∧ _).1⟩
                      · have HD2 : Hid (decide (RuleH ps r) = false) := Lib.hid (by rw [HD.out, hxy]; exact decide_eq_false (fun e => hx (by rw [← e])))
                        have bx : (x == fb.1) = false := beq_eq_false_iff_ne.2 hx
                        clear hx hxy
                        go_region_held3 (fun W' => Hid (Below w6.heap.size w6 W') ∧ W'.cell? ⟨b3, o3 + ka * 2, none⟩ = some (.int .i64 fa.1) ∧ W'.cell? ⟨b3, o3 + ka * 2 + 1, none⟩ = some (.int .i64 fa.2) ∧ W'.cell? ⟨b3, o3 + kb * 2, none⟩ = some (.int .i64 fb.1) ∧ W'.cell? ⟨b3, o3 + kb * 2 + 1, none⟩ = some (.int .i64 fb.2) ∧ W'.cell? ⟨b2, o2 + m * 4 + 2, none⟩ = some (.int .i64 r.num) ∧ W'.cell? ⟨b2, o2 + m * 4 + 3, none⟩ = some (.int .i64 r.den))
                          (first | assumption | exact hold6 e1 e2 e3 e4 r2 r3 (hold_call (by assumption) (by assumption)) | exact hold6 e1 e2 e3 e4 r2 r3 (Below.refl _ _).drew)
                          (first | (go_at_call 14; refine (spec_mul_at HXY.out _).mono ?_; rintro e w' ⟨rfl, hb⟩; have hle := hold_le (by assumption) hb))
                        all_goals
                          go_wp2_with fail
                          go_meet
                          exact ⟨by rw [HD2.out]; rfl, (by assumption : Hid (Below w6.heap.size w6 _) ∧ _).1⟩
                  case rest =>
                    obtain ⟨rfl, HBX⟩ := hcut
                    have HBF := Lib.hid (HB46.out.trans (HBX.out.mono HB46.out.size))
                    by_cases hR : RuleH ps r
                    · have HI2 : Hid (∀ q, q ∈ rs.take (m + 1) → RuleH ps q) := Lib.hid (fun q hq => by
                        rw [HTK.out] at hq
                        rcases List.mem_append.1 hq with hq | hq
                        · exact HI.out q hq
                        · obtain rfl := List.mem_singleton.1 hq; exact hR)
                      rw [decide_eq_true hR]
                      clear hR
                      go_wp2_with fail
                      go_roundw
                      case rel => exact ⟨m + 1, by omega, by go_num, HI2, HBF⟩
                      case measure => simp [intOf]; omega
                    · have HY : Hid (tabB rs = false) := Lib.hid (tabB_no (fun ht => by have h2 := ht.2.2 k hl2 r HME.out; rw [HPS.out] at h2; exact hR h2))
                      rw [decide_eq_false hR]
                      clear hR
                      go_wp2_with fail
                      go_ret
                      exact ⟨by rw [HY.out]; rfl, HB3.out.trans (HBF.out.mono HB3.out.size)⟩
                · have HA : Hid (∀ r, r ∈ rs → RuleH ps r) := Lib.hid (fun r hr => HI.out r (by rw [List.take_of_length_le (Nat.le_of_not_lt hlm)]; exact hr))
                  have HO3 : Hid (∀ j, j < k + 1 → ∀ r, r ∈ rs → RuleH (reachU rs (startU rs j)) r) := Lib.hid (fun j hj r hr => by
                    by_cases e : j = k
                    · subst e; rw [HPS.out]; exact HA.out r hr
                    · exact HO.out j (by omega) r hr)
                  go_wp2_with fail
                  go_roundw
                  case rel => exact ⟨k + 1, by omega, by go_num, HO3, Lib.hid (HB3.out.trans (HB4.out.mono HB3.out.size))⟩
                  case measure => simp [intOf]; omega
          · have HY : Hid (tabB rs = true) := Lib.hid (tabB_yes ⟨H12.out, HOK.out, fun i hi => HO.out i (by omega)⟩)
            go_wp2_with fail
            go_ret
            exact ⟨by rw [HY.out]; rfl, HB.out⟩
  · have HY : Hid (tabB rs = false) := Lib.hid (tabB_no (fun ht => h12 ht.1))
    have b12 : decide ((rs.length : Int) ≤ 12) = false := decide_eq_false (by omega)
    go_enter Try.func23, Try.ntmps23
    go_wp2_with fail
    go_loopw [3] (fun i wr => i = .int .i64 0 ∧ Hid (Below w.heap.size w wr)) (fun _ _ => 0)
    case atStart => exact ⟨rfl, Lib.hid (Below.refl _ _)⟩
    case round =>
      obtain ⟨rfl, HB⟩ := hrel
      go_wp2_with fail
      go_loopw [4] (fun i wr => i = .int .i64 0 ∧ Hid (Below w.heap.size w wr)) (fun _ _ => 0)
      case atStart => exact ⟨rfl, HB⟩
      case round =>
        clear HB
        obtain ⟨rfl, HB⟩ := hrel
        go_wp2_with fail
        go_ret
        exact ⟨by rw [HY.out]; rfl, HB.out⟩
end Go.Proofs.Ytaomjggamamckaa
