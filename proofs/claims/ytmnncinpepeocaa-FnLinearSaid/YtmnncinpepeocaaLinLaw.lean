/-
  The walk of FnLinear.
-/
import Derived.Test.YtmnncinpepeocaaBuDx
import Derived.Test.YtmnncinpepeocaaBuPh
import Derived.Test.YtmnncinpepeocaaExpImpl
import Derived.Test.YtmnncinpepeocaaSpecExp
import Derived.Test.YtmnncinpepeocaaBuDr
import Derived.Test.YtmnncinpepeocaaBuA
import Derived.WalkKit
import Derived.WalkSpells
import Derived.WalkSmall
import Derived.BigQuiet
import Derived.OneCell
import Derived.Deep.QuietTactic
import Derived.Deep.DeepCutAuto
import Derived.Deep.RegionHeld3
import Derived.Lib.Hide
namespace Go.Proofs.Ytmnncinpepeocaa
open Go.RowKit

theorem exV_part {l : List IT} {xs : List BL} {s : ByteArray} {q a day : Int} {ps : List PK} (ha : 0 ≤ a) (hq : a ≤ q) (b : ByteArray) : exV l xs s q day ps false b = exV l xs s a day ps false b + exV l xs s (q - a) day ps false b := by
  unfold exV pv
  rw [← Nat.add_mul]
  congr 1
  omega
/-- What twice as many take. -/
theorem ex_part {l : List IT} {xs : List BL} {s : ByteArray} {q a day : Int} {ps : List PK} (h : ExYes l xs s q day ps false) (ha : 0 ≤ a) (hq : a ≤ q) :
    ExYes l xs s a day ps false ∧ ExYes l xs s (q - a) day ps false ∧ ∀ b, inN (exZ l xs s q day ps false) b = inN (exZ l xs s a day ps false) b + inN (exZ l xs s (q - a) day ps false) b := by
  have hv := exV_part (l := l) (xs := xs) (s := s) (day := day) (ps := ps) ha hq
  have h1 := h.1.2.2
  have hA : ExYes l xs s a day ps false := ⟨⟨h.1.1, h.1.2.1, ha, by omega⟩, fun k hk => by have h2 := h.2 k hk; rw [hv] at h2; omega⟩
  have hB : ExYes l xs s (q - a) day ps false := ⟨⟨h.1.1, h.1.2.1, by omega, by omega⟩, fun k hk => by have h2 := h.2 k hk; rw [hv] at h2; omega⟩
  refine ⟨hA, hB, fun b => ?_⟩
  have hn := cat_codes h.1.1.1.1
  rw [exZ_yes h, exZ_yes hA, exZ_yes hB, inN_need _ _ _ _ hn, inN_need _ _ _ _ hn, inN_need _ _ _ _ hn]
  split
  · rw [hv]; exact Int.natCast_add _ _
  · rfl

set_option maxRecDepth 100000 in
set_option maxHeartbeats 4000000 in
theorem walk_FnLinear (a : Option Addr) (n c : Nat) (w : World) (hm : n ≤ maxLen) (hcode : CodeAt w.heap.size w a n) :
    Calls Try.prog 6 #[.slice a n c] w fun e w' => e = .returned (.bool true) ∧ Below w.heap.size w w' := by
  unfold maxLen at hm
  have HCO := Lib.hid hcode
  clear hcode
  by_cases hbig : 1048576 < n
  · have e0 : decide ((1048576 : Int) < (n : Int)) = true := decide_eq_true (by omega)
    go_enter Try.func6, Try.ntmps6
    go_wp2_with fail
    refine (laws_big a n c _).mono ?_
    rintro e w1 ⟨rfl, rfl⟩
    go_wp2
    go_ret
    exact ⟨rfl, Below.refl _ _⟩
  have e0 : decide ((1048576 : Int) < (n : Int)) = false := decide_eq_false (by omega)
  go_enter Try.func6, Try.ntmps6
  go_wp2_with fail
  refine (laws_big a n c _).mono ?_
  rintro e w1 ⟨rfl, rfl⟩
  go_wp2_with fail
  refine (draw_explosion a n c _ (by omega) HCO.out).mono ?_
  rintro e w2 ⟨p, q, l, p2, q2, ls, s, z, d, g3, q3, ps, rfl, HL6, HL9, HP3, HSZ, HXZ, HZ, HI, HXX, HPK, HB0⟩
  obtain ⟨lo, hi, hx⟩ := HXX.out
  have HX := Lib.hid hx
  have HLM : Hid (l.length ≤ maxLen ∧ ps.length ≤ maxLen) := Lib.hid (by have h1 := HL6.out; have h2 := HP3.out; unfold maxLen; omega)
  have HIM : Hid (∀ (y : Int) (W : World), Below w2.heap.size w2 W → Calls Try.prog 34 #[.slice p l.length q, .slice p2 ls.length q2, .string s, .int .i64 y, .int .i64 d, .slice (some ⟨g3, 0, none⟩) ps.length q3] W (NeOut (exB l ls s y d ps false) (exZ l ls s y d ps false) W)) := Lib.hid (fun y W hW => im_explosion _ _ _ l ls s y d ps lo hi W (HI.out.below hW) (HX.out.below BLN.kept hW) (HPK.out.below hW) HLM.out.1 HSZ.out HXZ.out HLM.out.2)
  have HSM : Hid (∀ W, Below w2.heap.size w2 W → Calls Try.prog 35 #[.slice p l.length q, .slice p2 ls.length q2, .string s, .int .i64 z, .int .i64 d, .slice (some ⟨g3, 0, none⟩) ps.length q3] W (NeOut (exB l ls s z d ps false) (exZ l ls s z d ps false) W)) := Lib.hid (fun W hW => spec_explosion _ _ _ l ls s z d ps lo hi W (HI.out.below hW) (HX.out.below BLN.kept hW) (HPK.out.below hW) HLM.out.1 HSZ.out HXZ.out HLM.out.2)
  have HLR : Hid (∀ (y : Int) (v : Value) (b : ByteArray) (W : World), NE.Is W v (exZ l ls s y d ps false) → Calls Try.prog 36 #[v, .string b] W fun e w' => e = .returned (.int .i64 (inN (exZ l ls s y d ps false) b)) ∧ Hid (Below W.heap.size W w')) := Lib.hid (fun y v b W hv => laws_in v _ b W hv (by have h1 := exZ_len l ls s y d ps false; have h2 := HL6.out; omega) (fun k hk => by have h1 := exZ_range HL6.out ls s y d ps false b k hk; omega))
  have HNR : Hid (∀ (y : Int) (b : ByteArray), 0 ≤ inN (exZ l ls s y d ps false) b ∧ inN (exZ l ls s y d ps false) b ≤ 6000000000) := Lib.hid (fun y b => by have h1 := exZ_range HL6.out ls s y d ps false b _ (Nat.le_refl _); rwa [List.take_length] at h1)
  clear hx HXX HCO hbig hm e0 HP3 HPK HX
  obtain ⟨u, hu⟩ : ∃ u, z.tdiv 3 = u := ⟨_, rfl⟩
  have hub : (0 ≤ z → 0 ≤ u ∧ u ≤ z) ∧ (-3074457345618258603 ≤ u ∧ u ≤ 3074457345618258603) ∧ (-9223372036854775808 ≤ z - u ∧ z - u ≤ 9223372036854775807) := by
    obtain ⟨h1, h2⟩ := HZ.out
    by_cases h0 : 0 ≤ z
    · rw [Int.tdiv_eq_ediv_of_nonneg h0] at hu
      omega
    · have h3 : z.tdiv 3 = -((-z).tdiv 3) := by rw [Int.neg_tdiv, Int.neg_neg]
      rw [h3, Int.tdiv_eq_ediv_of_nonneg (by omega)] at hu
      omega
  obtain ⟨hu1, hu2, hu3⟩ := hub
  obtain ⟨hu4, hu5⟩ := hu2
  obtain ⟨hu6, hu7⟩ := hu3
  have HU1 := Lib.hid hu1
  have hz1 := HZ.out.1
  have hz2 := HZ.out.2
  clear HZ hu1
  have HI1 := Lib.hid (HIM.out z w2 (Below.refl _ _))
  go_wp2_with fail
  refine HI1.out.mono ?_
  rintro e w3 ⟨v3, rfl, HO3, HB3⟩
  have HN3 := Lib.hid (NE.is_of_row HO3.out)
  obtain ⟨a3, c3, rfl⟩ := HN3.out.slice
  have HS1 := Lib.hid (HSM.out w3 HB3.out)
  clear HI1 HSM HO3
  go_wp2_with fail
  refine HS1.out.mono ?_
  rintro e w4 ⟨v4, rfl, _, HB4⟩
  have HBB4 := Lib.hid (HB3.out.trans (HB4.out.mono HB3.out.size))
  have HN4 := Lib.hid (HN3.out.below HB4.out)
  have HI2 := Lib.hid (HIM.out u w4 HBB4.out)
  clear HS1 HN3 HB3 HB4
  rcases Bool.eq_false_or_eq_true (exB l ls s z d ps false) with hc | hc
  rotate_left
  · have hzz : exZ l ls s z d ps false = [] := exZ_no (fun h => by rw [exB_yes h] at hc; cases hc)
    have hz0 : (exZ l ls s z d ps false).length = 0 := by rw [hzz]; rfl
    clear hzz HN4 HU1
    rw [hc, hz0]
    go_wp2_with fail
    refine HI2.out.mono ?_
    rintro e w5 ⟨v5, rfl, _, HB5⟩
    have HBB5 := Lib.hid (HBB4.out.trans (HB5.out.mono HBB4.out.size))
    have HI3 := Lib.hid (HIM.out (z - u) w5 HBB5.out)
    clear HI2 HB5 HBB4
    go_wp2_with fail
    refine HI3.out.mono ?_
    rintro e w6 ⟨v6, rfl, _, HB6⟩
    have HBB6 := Lib.hid (HBB5.out.trans (HB6.out.mono HBB5.out.size))
    clear HI3 HB6 HBB5
    go_wp2_with fail
    go_ret
    exact ⟨rfl, HB0.out.trans (HBB6.out.mono HB0.out.size)⟩
  have hye := exB_iff.1 hc
  have hz0 := hye.1.2.2.1
  obtain ⟨hA, hB, hsum⟩ := ex_part hye (HU1.out hz0).1 (HU1.out hz0).2
  have hbA := exB_yes hA
  have hbB := exB_yes hB
  have HSU := Lib.hid hsum
  rw [hc]
  rw [hbA] at HI2
  clear hA hB hsum hye hz0 HU1
  go_wp2_with fail
  refine HI2.out.mono ?_
  rintro e w5 ⟨v5, rfl, HO5, HB5⟩
  have HBB5 := Lib.hid (HBB4.out.trans (HB5.out.mono HBB4.out.size))
  have HN5 := Lib.hid (NE.is_of_row HO5.out)
  obtain ⟨a5, c5, rfl⟩ := HN5.out.slice
  have HI3 := Lib.hid (HIM.out (z - u) w5 HBB5.out)
  rw [hbB] at HI3
  have HM4 := Lib.hid (HN4.out.below HB5.out)
  clear HI2 HO5 HBB4 HN4 HB5 hbA hbB
  go_wp2_with fail
  refine HI3.out.mono ?_
  rintro e w6 ⟨v6, rfl, HO6, HB6⟩
  have HBB6 := Lib.hid (HBB5.out.trans (HB6.out.mono HBB5.out.size))
  have HN6 := Lib.hid (NE.is_of_row HO6.out)
  obtain ⟨a6, c6, rfl⟩ := HN6.out.slice
  have HL1 := Lib.hid (fun (b : ByteArray) (W : World) (hW : Below w6.heap.size w6 W) => HLR.out z (.slice a3 (exZ l ls s z d ps false).length c3) b W ((HM4.out.below HB6.out).below hW))
  have HL2 := Lib.hid (fun (b : ByteArray) (W : World) (hW : Below w6.heap.size w6 W) => HLR.out u (.slice a5 (exZ l ls s u d ps false).length c5) b W ((HN5.out.below HB6.out).below hW))
  have HL3 := Lib.hid (fun (b : ByteArray) (W : World) (hW : Below w6.heap.size w6 W) => HLR.out (z - u) (.slice a6 (exZ l ls s (z - u) d ps false).length c6) b W (HN6.out.below hW))
  have HR2 := Lib.hid (HNR.out u)
  have HR3 := Lib.hid (HNR.out (z - u))
  have hl6 := HL6.out
  clear HI3 HIM HLR HNR HM4 HN5 HN6 HO6 HBB5 HB6 hc
  generalize (exZ l ls s z d ps false) = zs1 at *
  generalize (exZ l ls s u d ps false) = zs2 at *
  generalize (exZ l ls s (z - u) d ps false) = zs3 at *
  clear hu6 hu7 hu4 hu5 hz1 hz2 hu
  go_wp2_with fail
  go_loopw [18] (fun i wr => ∃ k : Nat, k ≤ l.length ∧ i = .int .i64 k ∧ Hid (Below w6.heap.size w6 wr)) (fun i _ => l.length - (intOf i).toNat)
  case atStart => exact ⟨0, Nat.zero_le _, rfl, Lib.hid (Below.refl _ _)⟩
  case round =>
    obtain ⟨k, hk, rfl, HB⟩ := hrel
    by_cases hlt : k < l.length
    rotate_left
    · have hkd : decide ((k : Int) < (l.length : Int)) = false := decide_eq_false (by omega)
      go_wp2_with fail
      go_ret
      exact ⟨rfl, HB0.out.trans ((HBB6.out.trans (HB.out.mono HBB6.out.size)).mono HB0.out.size)⟩
    have hkd : decide ((k : Int) < (l.length : Int)) = true := decide_eq_true (by omega)
    obtain ⟨b3, o3, c3', hv3, hc3, hcell3⟩ := HI.out.some (by omega)
    simp only [Value.slice.injEq] at hv3
    obtain ⟨rfl, _, rfl⟩ := hv3
    have ic := ((hcell3.below (HBB6.out.trans (HB.out.mono HBB6.out.size))).at k hlt).1
    have HLT := Lib.hid hlt
    have i0' : (0 : Int) ≤ (k : Int) := by omega
    have i1' : (k : Int) < (l.length : Int) := by omega
    clear hcell3 hc3
    generalize (l[k]'hlt).code = y at *
    have HC1 := Lib.hid (HL1.out y)
    have HC2 := Lib.hid (HL2.out y)
    have HC3 := Lib.hid (HL3.out y)
    obtain ⟨r2, r3⟩ := HR2.out y
    obtain ⟨r4, r5⟩ := HR3.out y
    rw [HSU.out y] at HC1
    generalize inN zs2 y = n2 at *
    generalize inN zs3 y = n3 at *
    have hne : (n2 + n3 != n2 + n3) = false := by simp
    have hnw : IntKind.i64.wrap (n2 + n3) = n2 + n3 := (IntKind.wrap_i64 _).trans (by omega)
    go_upto_region 16 with fail
    refine wp_region_held_drew (S := (fun W' => Hid (Below wr.heap.size wr W') ∧ W'.cell? ⟨b3, o3 + k * 8, none⟩ = some (.string y))) (by kernel_rfl) (hold1 ic (Below.refl _ _).drew) (fun hHeld => ?_)
    refine wpAnyH_take (i := 0) (oi := { dst := some 88, op := Op.move (Operand.tmp 10), type := 60, pos := _, after := #[], guard := none }) (v := ?vr1x1) rfl (by kernel_rfl) (by kernel_rfl) (by kernel_rfl) (fun _ _ _ h => h) (Or.inl ⟨by rfl, ?yr1x1⟩) (by assumption) ?rr1x1
    case yr1x1 => (intro w' hSw; (try dsimp only at hSw); go_simp; (try with_reducible rfl))
    refine wpAnyH_take (i := 1) (oi := { dst := some 89, op := Op.move (Operand.tmp 3), type := 24, pos := _, after := #[], guard := none }) (v := ?vr1x2) rfl (by kernel_rfl) (by kernel_rfl) (by kernel_rfl) (fun _ _ _ h => h) (Or.inl ⟨by rfl, ?yr1x2⟩) (by assumption) ?rr1x2
    case yr1x2 => (intro w' hSw; (try dsimp only at hSw); go_simp; (try with_reducible rfl))
    refine wpAnyH_take (i := 2) (oi := { dst := some 90, op := Op.move (Operand.tmp 18), type := 3, pos := _, after := #[], guard := none }) (v := ?vr1x3) rfl (by kernel_rfl) (by kernel_rfl) (by kernel_rfl) (fun _ _ _ h => h) (Or.inl ⟨by rfl, ?yr1x3⟩) (by assumption) ?rr1x3
    case yr1x3 => (intro w' hSw; (try dsimp only at hSw); go_simp; (try with_reducible rfl))
    (try simp only [Act.put, List.setIfInBounds_toArray, List.set_cons_zero, List.set_cons_succ])
    refine wpAnyH_take (i := 3) (oi := { dst := some 91, op := Op.indexAddr 24 (Operand.tmp 89) (Operand.tmp 90), type := 0, pos := _, after := #[{ on := 1, ground := Ground.data }, { on := 2, ground := Ground.data }], guard := none }) (v := ?vr1x4) rfl (by kernel_rfl) (by kernel_rfl) (by kernel_rfl) (fun _ _ _ h => h) (Or.inl ⟨by rfl, ?yr1x4⟩) (by assumption) ?rr1x4
    case yr1x4 => (intro w' hSw; (try dsimp only at hSw); go_simp; (try with_reducible rfl))
    refine wpAnyH_take (i := 4) (oi := { dst := some 92, op := Op.fieldAddr 34 (Operand.tmp 91) 0, type := 0, pos := _, after := #[{ on := 3, ground := Ground.data }], guard := none }) (v := ?vr1x5) rfl (by kernel_rfl) (by kernel_rfl) (by kernel_rfl) (fun _ _ _ h => h) (Or.inl ⟨by rfl, ?yr1x5⟩) (by assumption) ?rr1x5
    case yr1x5 => (intro w' hSw; (try dsimp only at hSw); go_simp; (try with_reducible rfl))
    refine wpAnyH_take (i := 5) (oi := { dst := some 93, op := Op.load 9 (Operand.tmp 92), type := 9, pos := _, after := #[{ on := 4, ground := Ground.data }], guard := none }) (v := ?vr1x6) rfl (by kernel_rfl) (by kernel_rfl) (by kernel_rfl) (fun _ _ _ h => h) (Or.inl ⟨by rfl, ?yr1x6⟩) (by assumption) ?rr1x6
    case yr1x6 => (intro w' hSw; (try dsimp only at hSw); go_simp; (try with_reducible rfl))
    (try simp only [Act.put, List.setIfInBounds_toArray, List.set_cons_zero, List.set_cons_succ])
    refine wpAnyH_take (i := 7) (oi := { dst := some 95, op := Op.move (Operand.tmp 14), type := 60, pos := _, after := #[], guard := none }) (v := ?vr1x7) rfl (by kernel_rfl) (by kernel_rfl) (by kernel_rfl) (fun _ _ _ h => h) (Or.inl ⟨by rfl, ?yr1x7⟩) (by assumption) ?rr1x7
    case yr1x7 => (intro w' hSw; (try dsimp only at hSw); go_simp; (try with_reducible rfl))
    refine wpAnyH_take (i := 8) (oi := { dst := some 96, op := Op.move (Operand.tmp 3), type := 24, pos := _, after := #[], guard := none }) (v := ?vr1x8) rfl (by kernel_rfl) (by kernel_rfl) (by kernel_rfl) (fun _ _ _ h => h) (Or.inl ⟨by rfl, ?yr1x8⟩) (by assumption) ?rr1x8
    case yr1x8 => (intro w' hSw; (try dsimp only at hSw); go_simp; (try with_reducible rfl))
    refine wpAnyH_take (i := 9) (oi := { dst := some 97, op := Op.move (Operand.tmp 18), type := 3, pos := _, after := #[], guard := none }) (v := ?vr1x9) rfl (by kernel_rfl) (by kernel_rfl) (by kernel_rfl) (fun _ _ _ h => h) (Or.inl ⟨by rfl, ?yr1x9⟩) (by assumption) ?rr1x9
    case yr1x9 => (intro w' hSw; (try dsimp only at hSw); go_simp; (try with_reducible rfl))
    (try simp only [Act.put, List.setIfInBounds_toArray, List.set_cons_zero, List.set_cons_succ])
    refine wpAnyH_take (i := 10) (oi := { dst := some 98, op := Op.indexAddr 24 (Operand.tmp 96) (Operand.tmp 97), type := 0, pos := _, after := #[{ on := 8, ground := Ground.data }, { on := 9, ground := Ground.data }], guard := none }) (v := ?vr1x10) rfl (by kernel_rfl) (by kernel_rfl) (by kernel_rfl) (fun _ _ _ h => h) (Or.inl ⟨by rfl, ?yr1x10⟩) (by assumption) ?rr1x10
    case yr1x10 => (intro w' hSw; (try dsimp only at hSw); go_simp; (try with_reducible rfl))
    refine wpAnyH_take (i := 11) (oi := { dst := some 99, op := Op.fieldAddr 34 (Operand.tmp 98) 0, type := 0, pos := _, after := #[{ on := 10, ground := Ground.data }], guard := none }) (v := ?vr1x11) rfl (by kernel_rfl) (by kernel_rfl) (by kernel_rfl) (fun _ _ _ h => h) (Or.inl ⟨by rfl, ?yr1x11⟩) (by assumption) ?rr1x11
    case yr1x11 => (intro w' hSw; (try dsimp only at hSw); go_simp; (try with_reducible rfl))
    refine wpAnyH_take (i := 12) (oi := { dst := some 100, op := Op.load 9 (Operand.tmp 99), type := 9, pos := _, after := #[{ on := 11, ground := Ground.data }], guard := none }) (v := ?vr1x12) rfl (by kernel_rfl) (by kernel_rfl) (by kernel_rfl) (fun _ _ _ h => h) (Or.inl ⟨by rfl, ?yr1x12⟩) (by assumption) ?rr1x12
    case yr1x12 => (intro w' hSw; (try dsimp only at hSw); go_simp; (try with_reducible rfl))
    (try simp only [Act.put, List.setIfInBounds_toArray, List.set_cons_zero, List.set_cons_succ])
    refine wpAnyH_take (i := 14) (oi := { dst := some 102, op := Op.move (Operand.tmp 16), type := 60, pos := _, after := #[], guard := none }) (v := ?vr1x13) rfl (by kernel_rfl) (by kernel_rfl) (by kernel_rfl) (fun _ _ _ h => h) (Or.inl ⟨by rfl, ?yr1x13⟩) (by assumption) ?rr1x13
    case yr1x13 => (intro w' hSw; (try dsimp only at hSw); go_simp; (try with_reducible rfl))
    refine wpAnyH_take (i := 15) (oi := { dst := some 103, op := Op.move (Operand.tmp 3), type := 24, pos := _, after := #[], guard := none }) (v := ?vr1x14) rfl (by kernel_rfl) (by kernel_rfl) (by kernel_rfl) (fun _ _ _ h => h) (Or.inl ⟨by rfl, ?yr1x14⟩) (by assumption) ?rr1x14
    case yr1x14 => (intro w' hSw; (try dsimp only at hSw); go_simp; (try with_reducible rfl))
    refine wpAnyH_take (i := 16) (oi := { dst := some 104, op := Op.move (Operand.tmp 18), type := 3, pos := _, after := #[], guard := none }) (v := ?vr1x15) rfl (by kernel_rfl) (by kernel_rfl) (by kernel_rfl) (fun _ _ _ h => h) (Or.inl ⟨by rfl, ?yr1x15⟩) (by assumption) ?rr1x15
    case yr1x15 => (intro w' hSw; (try dsimp only at hSw); go_simp; (try with_reducible rfl))
    (try simp only [Act.put, List.setIfInBounds_toArray, List.set_cons_zero, List.set_cons_succ])
    refine wpAnyH_take (i := 17) (oi := { dst := some 105, op := Op.indexAddr 24 (Operand.tmp 103) (Operand.tmp 104), type := 0, pos := _, after := #[{ on := 15, ground := Ground.data }, { on := 16, ground := Ground.data }], guard := none }) (v := ?vr1x16) rfl (by kernel_rfl) (by kernel_rfl) (by kernel_rfl) (fun _ _ _ h => h) (Or.inl ⟨by rfl, ?yr1x16⟩) (by assumption) ?rr1x16
    case yr1x16 => (intro w' hSw; (try dsimp only at hSw); go_simp; (try with_reducible rfl))
    refine wpAnyH_take (i := 18) (oi := { dst := some 106, op := Op.fieldAddr 34 (Operand.tmp 105) 0, type := 0, pos := _, after := #[{ on := 17, ground := Ground.data }], guard := none }) (v := ?vr1x17) rfl (by kernel_rfl) (by kernel_rfl) (by kernel_rfl) (fun _ _ _ h => h) (Or.inl ⟨by rfl, ?yr1x17⟩) (by assumption) ?rr1x17
    case yr1x17 => (intro w' hSw; (try dsimp only at hSw); go_simp; (try with_reducible rfl))
    refine wpAnyH_take (i := 19) (oi := { dst := some 107, op := Op.load 9 (Operand.tmp 106), type := 9, pos := _, after := #[{ on := 18, ground := Ground.data }], guard := none }) (v := ?vr1x18) rfl (by kernel_rfl) (by kernel_rfl) (by kernel_rfl) (fun _ _ _ h => h) (Or.inl ⟨by rfl, ?yr1x18⟩) (by assumption) ?rr1x18
    case yr1x18 => (intro w' hSw; (try dsimp only at hSw); go_simp; (try with_reducible rfl))
    (try simp only [Act.put, List.setIfInBounds_toArray, List.set_cons_zero, List.set_cons_succ])
    refine wpAnyH_ready (rs := [6]) (by kernel_rfl) (by simp) ?_
    refine AllReadyH.cons (o := { dst := some 94, op := Op.call { callee := Callee.value (Operand.func 36), args := #[Operand.tmp 88, Operand.tmp 93], argTypes := #[60, 9] }, type := 3, pos := _, after := #[{ on := 0, ground := Ground.data }, { on := 5, ground := Ground.data }], guard := none }) rfl (fun K hK => ?_) AllReadyH.nil
    go_simp
    refine (HC1.out _ (HB.out.trans (Below.mono (by first | exact (by assumption : Hid (Below wr.heap.size wr _) ∧ _).1.out | exact Below.refl _ _ | exact (Below.refl _ _).drew) HB.out.size))).mono ?_; rintro e w' ⟨rfl, hb'⟩; have hb := hb'.out; have hle := hold_le (by assumption) hb
    (try go_wp2_with fail)
    refine hK.out _ _ ?_ (fun hHeld => ?_)
    · (try dsimp only); first | assumption | exact hold1 ic (hold_call (by assumption) (by assumption))
    clear hK K
    (try simp only [Act.put, List.setIfInBounds_toArray, List.set_cons_zero, List.set_cons_succ])
    refine wpAnyH_ready (rs := [13]) (by kernel_rfl) (by simp) ?_
    refine AllReadyH.cons (o := { dst := some 101, op := Op.call { callee := Callee.value (Operand.func 36), args := #[Operand.tmp 95, Operand.tmp 100], argTypes := #[60, 9] }, type := 3, pos := _, after := #[{ on := 7, ground := Ground.data }, { on := 12, ground := Ground.data }, { on := 6, ground := Ground.chain }], guard := none }) rfl (fun K hK => ?_) AllReadyH.nil
    go_simp
    refine (HC2.out _ (HB.out.trans (Below.mono (by first | exact (by assumption : Hid (Below wr.heap.size wr _) ∧ _).1.out | exact Below.refl _ _ | exact (Below.refl _ _).drew) HB.out.size))).mono ?_; rintro e w' ⟨rfl, hb'⟩; have hb := hb'.out; have hle := hold_le (by assumption) hb
    (try go_wp2_with fail)
    refine hK.out _ _ ?_ (fun hHeld => ?_)
    · (try dsimp only); first | assumption | exact hold1 ic (hold_call (by assumption) (by assumption))
    clear hK K
    (try simp only [Act.put, List.setIfInBounds_toArray, List.set_cons_zero, List.set_cons_succ])
    refine wpAnyH_ready (rs := [20]) (by kernel_rfl) (by simp) ?_
    refine AllReadyH.cons (o := { dst := some 108, op := Op.call { callee := Callee.value (Operand.func 36), args := #[Operand.tmp 102, Operand.tmp 107], argTypes := #[60, 9] }, type := 3, pos := _, after := #[{ on := 14, ground := Ground.data }, { on := 19, ground := Ground.data }, { on := 13, ground := Ground.chain }], guard := none }) rfl (fun K hK => ?_) AllReadyH.nil
    go_simp
    refine (HC3.out _ (HB.out.trans (Below.mono (by first | exact (by assumption : Hid (Below wr.heap.size wr _) ∧ _).1.out | exact Below.refl _ _ | exact (Below.refl _ _).drew) HB.out.size))).mono ?_; rintro e w' ⟨rfl, hb'⟩; have hb := hb'.out; have hle := hold_le (by assumption) hb
    (try go_wp2_with fail)
    refine hK.out _ _ ?_ (fun hHeld => ?_)
    · (try dsimp only); first | assumption | exact hold1 ic (hold_call (by assumption) (by assumption))
    clear hK K
    (try simp only [Act.put, List.setIfInBounds_toArray, List.set_cons_zero, List.set_cons_succ])
    refine wpAnyH_take (i := 21) (oi := { dst := some 109, op := Op.binOp BinOp.add 3 (Operand.tmp 101) (Operand.tmp 108) 3, type := 3, pos := _, after := #[{ on := 13, ground := Ground.data }, { on := 20, ground := Ground.data }], guard := none }) (v := ?vr1x19) rfl (by kernel_rfl) (by kernel_rfl) (by kernel_rfl) (fun _ _ _ h => h) (Or.inl ⟨by rfl, ?yr1x19⟩) (by assumption) ?rr1x19
    case yr1x19 => (intro w' hSw; (try dsimp only at hSw); go_simp; (try with_reducible rfl))
    refine wpAnyH_take (i := 22) (oi := { dst := some 110, op := Op.binOp BinOp.neq 3 (Operand.tmp 94) (Operand.tmp 109) 3, type := 4, pos := _, after := #[{ on := 6, ground := Ground.data }, { on := 21, ground := Ground.data }], guard := none }) (v := ?vr1x20) rfl (by kernel_rfl) (by kernel_rfl) (by kernel_rfl) (fun _ _ _ h => h) (Or.inl ⟨by rfl, ?yr1x20⟩) (by assumption) ?rr1x20
    case yr1x20 => (intro w' hSw; (try dsimp only at hSw); go_simp; (try with_reducible rfl))
    (try simp only [Act.put, List.setIfInBounds_toArray, List.set_cons_zero, List.set_cons_succ])
    refine wpAnyH_done (by kernel_rfl) ?_ _
    have hS := (by assumption : Hid (Below wr.heap.size wr _) ∧ _)
    have HB9 := Lib.hid (HB.out.trans (hS.1.out.mono HB.out.size))
    go_wp2_with fail
    go_roundw
    case rel => exact ⟨k + 1, HLT.out, by go_num, HB9⟩
    case measure => have := HLT.out; simp [intOf]; omega
end Go.Proofs.Ytmnncinpepeocaa
