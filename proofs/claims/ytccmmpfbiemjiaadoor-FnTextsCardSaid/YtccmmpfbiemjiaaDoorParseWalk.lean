/-
  The walks of ParseInt, the model's and the program's: both answer parseV.
-/
import Derived.Test.YtccmmpfbiemjiaaDoorRows
import Derived.Test.YtccmmpfbiemjiaaDoorShelf
import Derived.Test.YtccmmpfbiemjiaaDoorParseLib
import Derived.Test.YtccmmpfbiemjiaaDoorFmtWalk
import Derived.Test.YtccmmpfbiemjiaaDoorDoorKit
import Derived.Test.YtccmmpfbiemjiaaDoorErrKit
import Derived.WalkKit
import Derived.WalkSpells
import Derived.BigQuiet
import Derived.Deep.QuietTactic
import Derived.Lib.Hide
namespace Go.Proofs.YtccmmpfbiemjiaaDoor
open Go.RowKit

/-- The pair that ParseInt returns. -/
noncomputable def parseR (s : ByteArray) : Value := .tuple #[.int .i64 (parseV s.data.toList).1, .bool (parseV s.data.toList).2]

theorem ret_parse {s : ByteArray} {n : Int} {b : Bool} (h : parseV s.data.toList = (n, b)) : Ending.returned (.tuple #[.int .i64 n, .bool b]) = .returned (parseR s) := by unfold parseR; rw [h]

theorem at_byte (s : ByteArray) (k : Nat) (h : k < s.size) : s.data.toList[k]? = some (s[k]'h) := by
  rw [List.getElem?_eq_getElem (by simpa using h)]
  rfl

theorem len_bytes (s : ByteArray) : s.data.toList.length = s.size := by rw [Array.length_toList]; rfl

set_option maxRecDepth 100000 in
set_option maxHeartbeats 400000 in
theorem spec_parse (s : ByteArray) (w : World) (hs : s.size ≤ 1048576) :
    Calls Tryd.prog 19 #[.string s] w fun e w' => e = .returned (parseR s) ∧ Below w.heap.size w w' := by
  have hsg := sgn_le s.data.toList
  go_enter Tryd.func19, Tryd.ntmps19
  go_wp2
  go_loopw [4, 5, 6] (fun n d i wr => ∃ (k N D : Nat), k ≤ s.size ∧ D ≤ 14 ∧ N < 100000000000000 ∧ (k = 0 ∨ sgn s.data.toList ≤ k) ∧ D = k - sgn s.data.toList ∧ i = .int .i64 k ∧ n = .int .i64 N ∧ d = .int .i64 D ∧
      Hid (Lib.decFrom 0 ((s.data.toList.drop (sgn s.data.toList)).take (k - sgn s.data.toList)) = some N) ∧ Below w.heap.size w wr) (fun _ _ i _ => s.size - (intOf i).toNat)
  case atStart => exact ⟨0, 0, 0, Nat.zero_le _, by omega, by omega, Or.inl rfl, by omega, rfl, rfl, rfl, Lib.hid (by simp [Lib.decFrom]), Below.refl _ _⟩
  case round =>
    obtain ⟨k, N, D, hk, hD, hN, hk0, hDk, rfl, rfl, rfl, hdec, hb⟩ := hrel
    by_cases hlt : k < s.size ∧ D < 14
    · obtain ⟨hlt, hd14⟩ := hlt
      have hbt := at_byte s k hlt
      have HDk := Lib.hid hDk
      have HBT := Lib.hid hbt
      clear hDk hbt
      by_cases h45 : k = 0 ∧ (s[k]'hlt).toNat = 45
      · obtain ⟨hz, h45⟩ := h45
        have HS : Hid (sgn s.data.toList = 1) := Lib.hid (sgn_one (by rw [show (0 : Nat) = k from hz.symm, HBT.out]; exact congrArg some (UInt8.toNat_inj.1 h45)))
        have e0 : ((k : Int) == 0) = true := beq_iff_eq.2 (by omega)
        have e1 : (((s[k]'hlt).toNat : Int) == 45) = true := beq_iff_eq.2 (by omega)
        have HZ := Lib.hid hz
        clear hz h45
        go_wp2
        go_roundw
        case rel => exact ⟨k + 1, N, D, by omega, hD, hN, Or.inr (by rw [HS.out]; omega), by rw [HDk.out, HS.out, HZ.out], by go_num, rfl, rfl, Lib.hid (by have := hdec.out; rw [HZ.out, HS.out] at this ⊢; exact this), hb⟩
        case measure => simp [intOf]; omega
      · have hsk : sgn s.data.toList ≤ k := by
          rcases hk0 with h | h
          · have : sgn s.data.toList = 0 := sgn_zero (by
              rw [show (0 : Nat) = k from h.symm, HBT.out]
              intro e
              exact h45 ⟨h, by rw [Option.some.inj e]; rfl⟩)
            omega
          · exact h
        have hbl : (s[k]'hlt).toNat ≤ 255 := by have := (s[k]'hlt).toNat_lt; omega
        by_cases hdig : 48 ≤ (s[k]'hlt).toNat ∧ (s[k]'hlt).toNat ≤ 57
        · obtain ⟨hd1, hd2⟩ := hdig
          have HN := Lib.hid (decFrom_step hdec.out hsk HBT.out hd1 hd2)
          have e1 : (((s[k]'hlt).toNat : Int) == 45) = false := beq_eq_false_iff_ne.2 (by omega)
          have hnb := decFrom_bound HN.out (by rw [HDk.out] at hd14; omega)
          clear hk0 h45
          by_cases hz : k = 0
          · have e0 : ((k : Int) == 0) = true := beq_iff_eq.2 (by omega)
            have HZ := Lib.hid hz
            clear hz
            go_wp2
            go_roundw
            case rel => exact ⟨k + 1, N * 10 + ((s[k]'hlt).toNat - 48), D + 1, by omega, by omega, hnb, Or.inr (by omega), by rw [HDk.out]; omega, by go_num, by go_num, by go_num, HN, hb⟩
            case measure => simp [intOf]; omega
          · have e0 : ((k : Int) == 0) = false := beq_eq_false_iff_ne.2 (by omega)
            clear hz
            go_wp2
            go_roundw
            case rel => exact ⟨k + 1, N * 10 + ((s[k]'hlt).toNat - 48), D + 1, by omega, by omega, hnb, Or.inr (by omega), by rw [HDk.out]; omega, by go_num, by go_num, by go_num, HN, hb⟩
            case measure => simp [intOf]; omega
        · have HP := Lib.hid (parseV_no (no_other HBT.out hsk (by omega)))
          have hk1 : ¬ (k = 0 ∧ (s[k]'hlt).toNat = 45) := h45
          have hcase : (((k : Int) == 0) = true ∧ (((s[k]'hlt).toNat : Int) == 45) = false) ∨ ((k : Int) == 0) = false := by
            by_cases hz : k = 0
            · exact Or.inl ⟨beq_iff_eq.2 (by omega), beq_eq_false_iff_ne.2 (by omega)⟩
            · exact Or.inr (beq_eq_false_iff_ne.2 (by omega))
          have hc2 : (s[k]'hlt).toNat < 48 ∨ 57 < (s[k]'hlt).toNat := by omega
          clear hk0 h45 hk1 hdig hsk
          rcases hcase with ⟨e0, e1⟩ | e0 <;> rcases hc2 with hc2 | hc2
          all_goals
            go_wp2
            go_ret2
            exact ⟨ret_parse HP.out, hb⟩
    · have hend : k = s.size ∨ D = 14 := by omega
      by_cases hd0 : D = 0
      · have HP := Lib.hid (parseV_no (no_length (l := s.data.toList) (Or.inl (by rw [len_bytes]; omega))))
        have hd : D < 1 := by omega
        have hks : ¬ k < s.size := by omega
        clear hk0 hDk hlt hend hd0 hdec
        go_wp2
        go_ret2
        exact ⟨ret_parse HP.out, hb⟩
      · have hpos : 0 < s.size := by omega
        have hsk : sgn s.data.toList ≤ k := by omega
        have hbt := at_byte s 0 hpos
        have h45 : (((s[0]'hpos).toNat : Int) == 45) = true ∧ Hid (sgn s.data.toList = 1) ∨ (((s[0]'hpos).toNat : Int) == 45) = false ∧ Hid (sgn s.data.toList = 0) := by
          by_cases h : (s[0]'hpos).toNat = 45
          · exact Or.inl ⟨beq_iff_eq.2 (by omega), Lib.hid (sgn_one (by rw [hbt]; exact congrArg some (UInt8.toNat_inj.1 h)))⟩
          · exact Or.inr ⟨beq_eq_false_iff_ne.2 (by omega), Lib.hid (sgn_zero (by rw [hbt]; intro e; exact h (by rw [Option.some.inj e]; rfl)))⟩
        by_cases hd12 : 12 < D
        · have HP := Lib.hid (parseV_no (no_length (l := s.data.toList) (Or.inr (by rw [len_bytes]; omega))))
          have hd1 : 0 < D := by omega
          have hkd : k < s.size ∧ 14 ≤ D ∨ ¬ k < s.size := by omega
          clear hk0 hDk hlt hend hd0 hdec hsk hbt
          rcases h45 with ⟨e1, HS⟩ | ⟨e1, HS⟩ <;> rcases hkd with ⟨hk1, hk2⟩ | hk1
          all_goals
            go_wp2
            go_ret2
            exact ⟨ret_parse HP.out, hb⟩
        · have hke : k = s.size := by omega
          have hks : ¬ k < s.size := by omega
          have HV : Hid (Lib.decFrom 0 (s.data.toList.drop (sgn s.data.toList)) = some N) := Lib.hid (by
            have := hdec.out
            rw [List.take_of_length_le (by rw [List.length_drop, len_bytes]; omega)] at this
            exact this)
          have HL : Hid (s.data.toList.length ≤ sgn s.data.toList + 12) := Lib.hid (by rw [len_bytes]; omega)
          have hd1 : 0 < D := by omega
          have hd2 : D ≤ 12 := by omega
          clear hk0 hDk hlt hend hd0 hdec hsk hbt hke hd12
          rcases h45 with ⟨e1, HS⟩ | ⟨e1, HS⟩
          · have HSB : Hid (signedBy s.data.toList N = -(N : Int)) := Lib.hid (by unfold signedBy; rw [HS.out, if_pos rfl])
            go_wp2_with fail
            refine (spec_format (-(N : Int)) (by omega) (by omega) _).mono ?_
            rintro e w1 ⟨rfl, rfl⟩
            by_cases he : Lib.itoa (-(N : Int)) = s.data.toList
            · have HP := Lib.hid (parse_end_yes HV.out HL.out (by rw [HSB.out]; exact he))
              have HP2 : Hid (parseV s.data.toList = (-(N : Int), true)) := Lib.hid (by have := HP.out; rw [HSB.out] at this; exact this)
              have ec : (Lib.itoa (-(N : Int)) == s.toList) = true := by rw [ByteArray.toList_eq]; exact beq_iff_eq.2 he
              clear he HP
              go_wp2_with fail
              go_ret2
              exact ⟨ret_parse HP2.out, hb⟩
            · have HP := Lib.hid (parse_end_no HV.out (by rw [HSB.out]; exact he))
              have ec : (Lib.itoa (-(N : Int)) == s.toList) = false := by rw [ByteArray.toList_eq]; exact beq_eq_false_iff_ne.2 he
              clear he
              go_wp2_with fail
              go_ret2
              exact ⟨ret_parse HP.out, hb⟩
          · have HSB : Hid (signedBy s.data.toList N = (N : Int)) := Lib.hid (by unfold signedBy; rw [HS.out, if_neg (by decide)])
            go_wp2_with fail
            refine (spec_format ((N : Int)) (by omega) (by omega) _).mono ?_
            rintro e w1 ⟨rfl, rfl⟩
            by_cases he : Lib.itoa ((N : Int)) = s.data.toList
            · have HP := Lib.hid (parse_end_yes HV.out HL.out (by rw [HSB.out]; exact he))
              have HP2 : Hid (parseV s.data.toList = ((N : Int), true)) := Lib.hid (by have := HP.out; rw [HSB.out] at this; exact this)
              have ec : (Lib.itoa ((N : Int)) == s.toList) = true := by rw [ByteArray.toList_eq]; exact beq_iff_eq.2 he
              clear he HP
              go_wp2_with fail
              go_ret2
              exact ⟨ret_parse HP2.out, hb⟩
            · have HP := Lib.hid (parse_end_no HV.out (by rw [HSB.out]; exact he))
              have ec : (Lib.itoa ((N : Int)) == s.toList) = false := by rw [ByteArray.toList_eq]; exact beq_eq_false_iff_ne.2 he
              clear he
              go_wp2_with fail
              go_ret2
              exact ⟨ret_parse HP.out, hb⟩

theorem numEnd_cases (e : Lib.NumEnd Int) : (∃ v, e = Lib.NumEnd.ok v) ∨ e = Lib.NumEnd.syntax ∨ e = Lib.NumEnd.range := by
  cases e
  · exact Or.inl ⟨_, rfl⟩
  · exact Or.inr (Or.inl rfl)
  · exact Or.inr (Or.inr rfl)

set_option maxRecDepth 100000 in
set_option maxHeartbeats 400000 in
/-- The program's, in a world in which the library's table and its two errors lie. -/
theorem impl_parse (s : ByteArray) (w : World) (hs : s.size ≤ 1048576) (htab : Lib.TabIs Tryd.prog w "internal/strconv.uint64pow10" .u64 Lib.pow10Tab) (hg : 2 < w.heap.size) (herr : Errs w) :
    Calls Tryd.prog 10 #[.string s] w fun e w' => e = .returned (parseR s) ∧ Below w.heap.size w w' := by
  have H := Lib.hid htab
  obtain ⟨⟨tp, p, hsyn⟩, tq, q, hran⟩ := herr
  have HSY := Lib.hid hsyn
  have HRA := Lib.hid hran
  have HG := Lib.hid hg
  clear htab hsyn hran hg
  rcases numEnd_cases (Lib.atoiAll s.data.toList) with ⟨v, ha⟩ | ha | ha
  · have hbd := Lib.atoiAll_bounds ha
    have HA := Lib.hid ha
    clear ha
    obtain ⟨hv0, hv1⟩ := hbd
    go_enter Tryd.func10, Tryd.ntmps10
    go_wp2_with fail
    refine (Tryd.strconv_Atoi_ok s (by omega) v HA.out _).mono ?_
    rintro e w1 ⟨rfl, hw1⟩
    have hb1 : Below w.heap.size w w1 := by
      rcases hw1 with rfl | ⟨t, rfl⟩
      · exact Below.refl _ _
      · exact Lib.bytesWorld_below _ _ _
    clear hw1
    by_cases hin : -999999999999 ≤ v ∧ v ≤ 999999999999
    · obtain ⟨hi0, hi1⟩ := hin
      go_wp2_with fail
      refine (impl_format v hv0 hv1 _ (pow_below H.out hb1 HG.out)).mono ?_
      rintro e w2 ⟨rfl, hb2⟩
      have hb3 : Below w.heap.size w w2 := hb1.trans (hb2.mono hb1.size)
      clear hb1 hb2
      by_cases he : Lib.itoa v = s.data.toList
      · have HP : Hid (parseV s.data.toList = (v, true)) := Lib.hid (parseV_yes ⟨by omega, by omega, he⟩)
        have ec : (Lib.itoa v == s.toList) = true := by rw [ByteArray.toList_eq]; exact beq_iff_eq.2 he
        clear he
        go_wp2_with fail
        go_ret2
        exact ⟨ret_parse HP.out, hb3⟩
      · have HP : Hid (parseV s.data.toList = (0, false)) := Lib.hid (parseV_no fun ⟨n, hn⟩ => he (by
          have e := atoi_of_num hn
          rw [HA.out] at e
          rw [Lib.NumEnd.ok.inj e]
          exact hn.2.2))
        have ec : (Lib.itoa v == s.toList) = false := by rw [ByteArray.toList_eq]; exact beq_eq_false_iff_ne.2 he
        clear he
        go_wp2_with fail
        go_ret2
        exact ⟨ret_parse HP.out, hb3⟩
    · have HP : Hid (parseV s.data.toList = (0, false)) := Lib.hid (parseV_no fun ⟨n, hn⟩ => hin (by
        have e := atoi_of_num hn
        rw [HA.out] at e
        rw [Lib.NumEnd.ok.inj e]
        exact ⟨by have := hn.1; omega, by have := hn.2.1; omega⟩))
      have hcase : v < -999999999999 ∨ 999999999999 < v := by omega
      clear hin
      rcases hcase with hc | hc
      all_goals
        go_wp2_with fail
        go_ret2
        exact ⟨ret_parse HP.out, hb1⟩
  · have HA := Lib.hid ha
    have HP : Hid (parseV s.data.toList = (0, false)) := Lib.hid (parseV_no fun ⟨n, hn⟩ => by have e := atoi_of_num hn; rw [HA.out] at e; cases e)
    clear ha
    go_enter Tryd.func10, Tryd.ntmps10
    go_wp2_with fail
    refine (Tryd.strconv_Atoi_syntax_var s (by omega) HA.out tp p _ HSY.out).mono ?_
    rintro e w1 ⟨N, rfl, hN, hcell, hb1⟩
    clear hcell
    go_wp2_with fail
    go_ret2
    exact ⟨ret_parse HP.out, hb1⟩
  · have HA := Lib.hid ha
    have HP : Hid (parseV s.data.toList = (0, false)) := Lib.hid (parseV_no fun ⟨n, hn⟩ => by have e := atoi_of_num hn; rw [HA.out] at e; cases e)
    clear ha
    go_enter Tryd.func10, Tryd.ntmps10
    go_wp2_with fail
    refine (Tryd.strconv_Atoi_range_var s (by omega) HA.out tq q _ HRA.out).mono ?_
    rintro e w1 ⟨N, rfl, hN, hcell, hb1⟩
    clear hcell
    go_wp2_with fail
    go_ret2
    exact ⟨ret_parse HP.out, hb1⟩
end Go.Proofs.YtccmmpfbiemjiaaDoor
