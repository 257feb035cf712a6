/-
  The draw of a table of rules.
-/
import Derived.Test.YtaomjggamamckaaUnitCur
import Derived.Test.YtaomjggamamckaaUnitTo
import Derived.Test.YtaomjggamamckaaDrawOnce
import Derived.Test.YtaomjggamamckaaRatDrawS
import Derived.WalkKit
import Derived.WalkSpells
import Derived.WalkSmall
import Derived.BigQuiet
import Derived.StillTailTactics
import Derived.Deep.DeepCutAuto
import Derived.Deep.CutBlock
import Derived.Deep.QuietTactic
import Derived.Deep.RegionLaw
import Derived.Deep.RegionHeld3
import Derived.Lib.Hide
namespace Go.Proofs.Ytaomjggamamckaa
open Go.RowKit

set_option maxRecDepth 100000 in
set_option maxHeartbeats 4000000 in
theorem draw_tab (B b : Nat) (a : Option Addr) (n c : Nat) (w : World) (hn : n ≤ 1048576) (hcode : CodeAt B w a n) (hcur : CurAt B w b a n c) (hBw : B ≤ w.heap.size) :
    Calls Try.prog 35 #[.pointer (some ⟨b, 0, none⟩)] w (DrewT B b a n c w) := by
  have HC := Lib.hid hcode
  have hblt := hcur.lt
  have hBb := hcur.1
  obtain ⟨i0, hi, hz0, hz1, hz2⟩ := info_parts infoU
  have HL : Hid (LieU b w.heap.size (w.heap.size + 1) (w.heap.size + 2)) := Lib.hid ⟨hblt, by omega, by omega⟩
  have HS0 : Hid (TS B b w.heap.size (w.heap.size + 1) (w.heap.size + 2) a n c w (((w.alloc (.cells #[.int .i64 1, .int .i64 12, .int .i64 144, .int .i64 10, .int .i64 1000, .int .i64 5] 3)).alloc (.cells #[.string { data := #[80, 67] }, .string { data := #[68, 79, 90] }, .string { data := #[71, 82, 79, 83] }, .string { data := #[66, 79, 88] }, .string { data := #[80, 65, 76] }, .string { data := #[75, 71] }] 9)).alloc (.cells #[] 79)) (.slice (some ⟨w.heap.size + 2, 0, none⟩) 0 0) []) := Lib.hid (by
    have hz : ((w.alloc (.cells #[.int .i64 1, .int .i64 12, .int .i64 144, .int .i64 10, .int .i64 1000, .int .i64 5] 3)).alloc (.cells #[.string { data := #[80, 67] }, .string { data := #[68, 79, 90] }, .string { data := #[71, 82, 79, 83] }, .string { data := #[66, 79, 88] }, .string { data := #[80, 65, 76] }, .string { data := #[75, 71] }] 9)).heap.size = w.heap.size + 2 := by simp
    refine ⟨((hcur.alloc _).alloc _).alloc _, ((World.grownBy_alloc _ _ _).trans (World.grownBy_alloc _ _ _)).trans (World.grownBy_alloc _ _ _), ?_, ?_, ?_, fun r hr => by simp at hr, by simp⟩
    · have h0 := ints_new w 3 [1, 12, 144, 10, 1000, 5] (by intro z hz; simp only [List.mem_cons, List.mem_nil_iff, or_false] at hz; omega)
      exact ints_grown (ints_grown h0 (World.grownBy_alloc _ _ none) (by simp)) (World.grownBy_alloc _ _ none) (by simp)
    · have h0 := texts_new (w.alloc (.cells #[.int .i64 1, .int .i64 12, .int .i64 144, .int .i64 10, .int .i64 1000, .int .i64 5] 3)) 9 [{ data := #[80, 67] }, { data := #[68, 79, 90] }, { data := #[71, 82, 79, 83] }, { data := #[66, 79, 88] }, { data := #[80, 65, 76] }, { data := #[75, 71] }] (by intro z hz; simp only [List.mem_cons, List.mem_nil_iff, or_false] at hz; rcases hz with rfl | rfl | rfl | rfl | rfl | rfl <;> decide)
      rw [show (w.alloc (.cells #[.int .i64 1, .int .i64 12, .int .i64 144, .int .i64 10, .int .i64 1000, .int .i64 5] 3)).heap.size = w.heap.size + 1 from by simp] at h0
      exact texts_grown h0 (World.grownBy_alloc _ _ none) (by simp)
    · have h0 := World.ownsRow_lit (base := w.heap.size + 2) (e := 79) (size := 4) ((w.alloc (.cells #[.int .i64 1, .int .i64 12, .int .i64 144, .int .i64 10, .int .i64 1000, .int .i64 5] 3)).alloc (.cells #[.string { data := #[80, 67] }, .string { data := #[68, 79, 90] }, .string { data := #[71, 82, 79, 83] }, .string { data := #[66, 79, 88] }, .string { data := #[80, 65, 76] }, .string { data := #[75, 71] }] 9)) #[] 0 (by rw [hz]; exact Nat.le_refl _) (Nat.zero_le _) rfl
      rw [hz] at h0
      exact h0)
  have hs0 : w.heap.size ≤ (((w.alloc (.cells #[.int .i64 1, .int .i64 12, .int .i64 144, .int .i64 10, .int .i64 1000, .int .i64 5] 3)).alloc (.cells #[.string { data := #[80, 67] }, .string { data := #[68, 79, 90] }, .string { data := #[71, 82, 79, 83] }, .string { data := #[66, 79, 88] }, .string { data := #[80, 65, 76] }, .string { data := #[75, 71] }] 9)).alloc (.cells #[] 79)).heap.size := by simp; omega
  clear hcode hcur
  go_enter Try.func35, Try.ntmps35
  go_wp2_with fail
  generalize (((w.alloc (.cells #[.int .i64 1, .int .i64 12, .int .i64 144, .int .i64 10, .int .i64 1000, .int .i64 5] 3)).alloc (.cells #[.string { data := #[80, 67] }, .string { data := #[68, 79, 90] }, .string { data := #[71, 82, 79, 83] }, .string { data := #[66, 79, 88] }, .string { data := #[80, 65, 76] }, .string { data := #[75, 71] }] 9)).alloc (.cells #[] 79)) = w0 at *
  refine (l1_below B b a n c 6 _ hn (HC.out.below (belowU HS0.out.gr hBb hBw)) HS0.out.cur (by omega) (by omega) (by omega)).mono ?_
  rintro e w1 ⟨m0, rfl, hm0, hm1, hd⟩
  obtain ⟨m0, rfl⟩ : ∃ k : Nat, m0 = (k : Int) := ⟨m0.toNat, by omega⟩
  have HS1 := Lib.hid (HS0.out.drawn HL.out hd)
  clear hd HS0
  go_wp2_with fail
  go_loopw [5, 6] (fun l y wr => ∃ (m : Nat) (px : Option Addr) (qx : Nat) (rs : List UR), l = .slice px rs.length qx ∧ y = .int .i64 m ∧ rs.length + m ≤ 5 ∧ Hid (TS B b w.heap.size (w.heap.size + 1) (w.heap.size + 2) a n c w wr (.slice px rs.length qx) rs)) (fun _ y _ => (intOf y).toNat)
  case atStart => exact ⟨m0, _, 0, [], rfl, rfl, by simp; omega, HS1⟩
  case round =>
    obtain ⟨m, px, qx, rs, rfl, rfl, hle, HS⟩ := hrel
    clear HS1
    have hwr := HS.out.E
    have HCr := Lib.hid (HC.out.below (belowU HS.out.gr hBb hBw))
    by_cases hm : 0 < m
    · go_wp2_with fail
      refine (l1_below B b a n c 6 _ hn HCr.out HS.out.cur (by omega) (by omega) (by omega)).mono ?_
      rintro e w2 ⟨x, rfl, hx0, hx1, hd⟩
      have HS2 := Lib.hid (HS.out.drawn HL.out hd)
      have hw2 := HS2.out.E
      clear hd HS HCr
      have HC2 := Lib.hid (HC.out.below (belowU HS2.out.gr hBb hBw))
      go_wp2_with fail
      refine (l1_below B b a n c 6 _ hn HC2.out HS2.out.cur (by omega) (by omega) (by omega)).mono ?_
      rintro e w3 ⟨y, rfl, hy0, hy1, hd⟩
      have HS3 := Lib.hid (HS2.out.drawn HL.out hd)
      have hw3 := HS3.out.E
      clear hd HS2 HC2
      obtain ⟨x, rfl⟩ : ∃ k : Nat, x = (k : Int) := ⟨x.toNat, by omega⟩
      obtain ⟨y, rfl⟩ : ∃ k : Nat, y = (k : Int) := ⟨y.toNat, by omega⟩
      by_cases hxy : x = y
      · subst hxy
        go_wp2_with fail
        go_roundw
        case rel => exact ⟨m - 1, px, qx, rs, rfl, congrArg (Value.int .i64) (by omega), by omega, HS3⟩
        case measure => simp [intOf]; omega
      · have hxy' : (x : Int) ≠ (y : Int) := by omega
        have hb : ((x : Int) == (y : Int)) = false := beq_eq_false_iff_ne.2 hxy'
        obtain ⟨s1, hs1, hc1⟩ := HS3.out.na x (by omega)
        obtain ⟨s2, hs2, hc2⟩ := HS3.out.na y (by omega)
        obtain ⟨d1, hd10, hd11, hc3⟩ := HS3.out.wo x (by omega)
        obtain ⟨d2, hd20, hd21, hc4⟩ := HS3.out.wo y (by omega)
        have hx6 : (x : Int) < 6 := by omega
        have hy6 : (y : Int) < 6 := by omega
        go_upto_region 10 with fail
        have hnb : ∀ k, k < w.heap.size + 2 → (Value.slice px rs.length qx).ownBlock ≠ some k := fun k hk e => by have := (HS3.out.row.lt k e).1; omega
        go_region_held3 (fun W' => W'.cell? ⟨w.heap.size + 1, x, none⟩ = some (.string s1) ∧ W'.cell? ⟨w.heap.size + 1, y, none⟩ = some (.string s2) ∧ W'.cell? ⟨w.heap.size, x, none⟩ = some (.int .i64 d1) ∧ W'.cell? ⟨w.heap.size, y, none⟩ = some (.int .i64 d2))
          (first | assumption | exact ⟨hc1, hc2, hc3, hc4⟩ | exact ⟨k1, k2, k3, k4⟩ | exact ⟨cellU_grown k1 (World.grownBy_alloc _ _ none) (by simp), cellU_grown k2 (World.grownBy_alloc _ _ none) (by simp), cellU_grown k3 (World.grownBy_alloc _ _ none) (by simp), cellU_grown k4 (World.grownBy_alloc _ _ none) (by simp)⟩ | exact ⟨q1, q2, q3, q4⟩)
          (first | (refine step_append_mine rfl (.tmp 25) (.tmp 44) 24 rfl (w.heap.size + 2) 79 i0 (.agg #[.string ByteArray.empty, .string ByteArray.empty, .int .i64 0, .int .i64 0]) 4 48 Try.underlying24 hi hz0 hz1 hz2 rfl (by decide) (.slice px rs.length qx) rs.length (cellsU rs) (by simp [Act.eval]) (HS4.out.row.alloc _) ⟨w4.heap.size, 0, none⟩ 1 1 [.string s1, .string s2, .int .i64 nu, .int .i64 de] (by simp [Act.eval]) rfl (four_new _ _ _ _ _ _) (by intro u hu; simp at hu; rcases hu with rfl | rfl | rfl | rfl <;> rfl) (by unfold maxLen; omega) (by omega) (by simp; omega) ?_; intro v' w5 hown hgrow; obtain ⟨py, qy, rfl⟩ := own_sl hown; have HS5 := Lib.hid (TS.push (r := ⟨s1, s2, nu, de⟩) (HS4.out.below ((Below.refl _ _).alloc (Nat.le_refl _) _)) HL.out (by omega) rfl hown hgrow hs1 hs2); have q1 := cellU_grown (cellU_grown k1 (World.grownBy_alloc _ _ none) (by simp)) hgrow (hnb _ (by simp)); have q2 := cellU_grown (cellU_grown k2 (World.grownBy_alloc _ _ none) (by simp)) hgrow (hnb _ (by simp)); have q3 := cellU_grown (cellU_grown k3 (World.grownBy_alloc _ _ none) (by simp)) hgrow (hnb _ (by simp)); have q4 := cellU_grown (cellU_grown k4 (World.grownBy_alloc _ _ none) (by simp)) hgrow (hnb _ (by simp)); clear hown hgrow) | (go_at_call 43; refine (rat.spec_make _ _ _).mono ?_; rintro e w4 ⟨nu, de, rfl, HP, hb4⟩; have HS4 : Hid (TS B b w.heap.size (w.heap.size + 1) (w.heap.size + 2) a n c w w4 (.slice px rs.length qx) rs) := Lib.hid (TS.below HS3.out.drew hb4); have hw4 := HS4.out.E; have k1 : w4.cell? ⟨w.heap.size + 1, x, none⟩ = some (.string s1) := (hb4.cell (p := ⟨w.heap.size + 1, x, none⟩) (show w.heap.size + 1 < w3.heap.size by omega)).trans hc1; have k2 : w4.cell? ⟨w.heap.size + 1, y, none⟩ = some (.string s2) := (hb4.cell (p := ⟨w.heap.size + 1, y, none⟩) (show w.heap.size + 1 < w3.heap.size by omega)).trans hc2; have k3 : w4.cell? ⟨w.heap.size, x, none⟩ = some (.int .i64 d1) := (hb4.cell (p := ⟨w.heap.size, x, none⟩) (show w.heap.size < w3.heap.size by omega)).trans hc3; have k4 : w4.cell? ⟨w.heap.size, y, none⟩ = some (.int .i64 d2) := (hb4.cell (p := ⟨w.heap.size, y, none⟩) (show w.heap.size < w3.heap.size by omega)).trans hc4; clear hb4 HP))
        all_goals
          go_wp2_with fail
          go_roundw
          case rel => exact ⟨m - 1, py, qy, rs ++ [⟨s1, s2, nu, de⟩], by simp, congrArg (Value.int .i64) (by omega), by simp; omega, by simpa using HS5⟩
          case measure => simp [intOf]; omega
    · obtain rfl : m = 0 := by omega
      go_upto_region 11 with fail
      go_cut [52] (fun t wx => ∃ bb : Bool, t = .bool bb ∧ (bb = true → 0 < rs.length) ∧ Hid (TS B b w.heap.size (w.heap.size + 1) (w.heap.size + 2) a n c w wx (.slice px rs.length qx) rs))
      case first =>
        go_wp2_with fail
        refine (l1_once B b a n c 10 _ hn HCr.out HS.out.cur (by omega) (by omega) (by omega)).mono ?_
        rintro e w2 ⟨x, rfl, hd⟩
        have HS2 := Lib.hid (HS.out.drawn HL.out hd)
        clear hd HS HCr
        cases x with
        | false =>
          go_wp2_with fail
          go_meet
          exact ⟨false, rfl, (by simp), HS2⟩
        | true =>
          go_wp2_with fail
          go_meet
          exact ⟨_, rfl, (by intro h0; simpa using h0), HS2⟩
      case rest =>
        obtain ⟨bb, rfl, hb0, HS2⟩ := hcut
        clear HS HCr
        go_upto_if 52 with fail
        go_cut [] (fun wx => ∃ (rz : List UR), rz.length = rs.length ∧ Hid (TS B b w.heap.size (w.heap.size + 1) (w.heap.size + 2) a n c w wx (.slice px rz.length qx) rz))
        case first =>
          cases bb with
          | false =>
            go_wp2_with fail
            go_meet
            exact ⟨rs, rfl, HS2⟩
          | true =>
            have h0 := hb0 rfl
            clear hb0
            obtain ⟨r, rs', rfl⟩ : ∃ r rs', rs = r :: rs' := by
              cases rs with
              | nil => simp at h0
              | cons r rs' => exact ⟨r, rs', rfl⟩
            have hwc := HS2.out.E
            have HCc := Lib.hid (HC.out.below (belowU HS2.out.gr hBb hBw))
            go_wp2_with fail
            refine (l1_below B b a n c 3 _ hn HCc.out HS2.out.cur (by omega) (by omega) (by omega)).mono ?_
            rintro e w3 ⟨x, rfl, hx0, hx1, hd⟩
            have HS3 := Lib.hid (HS2.out.drawn HL.out hd)
            have hw3 := HS3.out.E
            clear hd HS2 HCc
            have HC3 := Lib.hid (HC.out.below (belowU HS3.out.gr hBb hBw))
            go_wp2_with fail
            refine (l1_below B b a n c 3 _ hn HC3.out HS3.out.cur (by omega) (by omega) (by omega)).mono ?_
            rintro e w4 ⟨y, rfl, hy0, hy1, hd⟩
            have HS4 := Lib.hid (HS3.out.drawn HL.out hd)
            have hw4 := HS4.out.E
            clear hd HS3 HC3
            go_wp2_with fail
            refine (rat.spec_make _ _ _).mono ?_
            rintro e w5 ⟨nu, de, rfl, HP, hb5⟩
            have HS5 := Lib.hid (HS4.out.below hb5)
            clear HS4 hb5 HP
            obtain ⟨g, cap, hv, hs2, hs3, hc2, hc3, hf2, hf3⟩ := HS5.out.head
            cases hv
            have HS6 := Lib.hid (TS.factor HS5.out HL.out (by omega) nu de)
            clear HS5
            go_wp2_with fail
            go_meet
            exact ⟨{ r with num := nu, den := de } :: rs', rfl, HS6⟩
        case rest =>
          obtain ⟨rs2, hl2, HS3⟩ := hcut
          rename_i w3
          clear HS2 hb0
          generalize rs.length = L at *
          subst hl2
          have hw3 := HS3.out.E
          have HC3 := Lib.hid (HC.out.below (belowU HS3.out.gr hBb hBw))
          go_upto_region 13 with fail
          go_cut [69] (fun t wx => ∃ bb : Bool, t = .bool bb ∧ (bb = true → 0 < rs2.length) ∧ Hid (TS B b w.heap.size (w.heap.size + 1) (w.heap.size + 2) a n c w wx (.slice px rs2.length qx) rs2))
          case first =>
            go_wp2_with fail
            refine (l1_once B b a n c 16 _ hn HC3.out HS3.out.cur (by omega) (by omega) (by omega)).mono ?_
            rintro e w4 ⟨x, rfl, hd⟩
            have HS4 := Lib.hid (HS3.out.drawn HL.out hd)
            clear hd HS3 HC3
            cases x with
            | false =>
              go_wp2_with fail
              go_meet
              exact ⟨false, rfl, (by simp), HS4⟩
            | true =>
              go_wp2_with fail
              go_meet
              exact ⟨_, rfl, (by intro h0; simpa using h0), HS4⟩
          case rest =>
            obtain ⟨bb, rfl, hb0, HS4⟩ := hcut
            rename_i w4
            clear HS3 HC3
            cases bb with
            | false =>
              go_wp2_with fail
              go_ret
              exact ⟨_, _, rs2, rfl, by omega, HS4.out.sz, ownU_base HS4.out.row (by omega), ⟨HS4.out.cur, HS4.out.gr⟩⟩
            | true =>
              have h0 := hb0 rfl
              clear hb0
              obtain ⟨r, rs', rfl⟩ : ∃ r rs', rs2 = r :: rs' := by
                cases rs2 with
                | nil => simp at h0
                | cons r rs' => exact ⟨r, rs', rfl⟩
              have hw4 := HS4.out.E
              have HC4 := Lib.hid (HC.out.below (belowU HS4.out.gr hBb hBw))
              go_wp2_with fail
              refine (rat.l2_any B b a n c _ hn HC4.out HS4.out.cur (by omega)).mono ?_
              rintro e w5 ⟨nu, de, rfl, _, _, hd⟩
              have HS5 := Lib.hid (HS4.out.drawn HL.out hd)
              clear HS4 HC4 hd
              obtain ⟨g, cap, hv, hs2, hs3, hc2, hc3, hf2, hf3⟩ := HS5.out.head
              cases hv
              have HS6 := Lib.hid (TS.factor HS5.out HL.out (by omega) nu de)
              clear HS5
              go_wp2_with fail
              go_ret
              exact ⟨_, _, { r with num := nu, den := de } :: rs', rfl, by simp at hle ⊢; omega, HS6.out.sz, ownU_base HS6.out.row (by omega), ⟨HS6.out.cur, HS6.out.gr⟩⟩
end Go.Proofs.Ytaomjggamamckaa
