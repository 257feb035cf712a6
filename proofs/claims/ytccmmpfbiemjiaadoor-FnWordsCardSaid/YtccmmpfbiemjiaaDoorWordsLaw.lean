/-
  The walk of the law FnWords.
-/
import Derived.Test.YtccmmpfbiemjiaaDoorRows
import Derived.Test.YtccmmpfbiemjiaaDoorStrs
import Derived.Test.YtccmmpfbiemjiaaDoorSameTexts
import Derived.Test.YtccmmpfbiemjiaaDoorJoinLib
import Derived.Test.YtccmmpfbiemjiaaDoorJoinImpl
import Derived.Test.YtccmmpfbiemjiaaDoorSplitSpec
import Derived.Test.YtccmmpfbiemjiaaDoorSplitImpl
import Derived.Test.YtccmmpfbiemjiaaDoorWordsDraw
import Derived.Test.YtccmmpfbiemjiaaDoorWordsPure
import Derived.Test.YtccmmpfbiemjiaaDoorCodeKit
import Derived.WalkKit
import Derived.WalkSpells
import Derived.Lib.Hide
namespace Go.Proofs.YtccmmpfbiemjiaaDoor.words
open Go.RowKit

/-- The first k bytes of s are no spaces, and s is not empty. -/
def partB (s : ByteArray) (k : Nat) : Bool := !s.data.toList.isEmpty && (s.data.toList.take k).all (fun c => c != 32)
def allG (ss : List ByteArray) (j : Nat) : Bool := (ss.take j).all goodB

theorem partB_all (s : ByteArray) {k : Nat} (h : s.size ≤ k) : partB s k = goodB s := by
  unfold partB goodB
  rw [List.take_of_length_le (by rw [Array.length_toList]; exact h)]
theorem partB_succ (s : ByteArray) (k : Nat) (h : k < s.size) : partB s (k + 1) = (partB s k && ((s[k]'h) != 32)) := by
  unfold partB
  have e : s.data.toList[k]? = some (s[k]'h) := by
    rw [List.getElem?_eq_getElem (by rw [Array.length_toList]; exact h)]; rfl
  rw [List.take_add_one, e, List.all_append, Bool.and_assoc]
  simp
theorem partB_zero (s : ByteArray) : partB s 0 = !s.data.toList.isEmpty := by unfold partB; simp
theorem allG_succ (ss : List ByteArray) (j : Nat) (h : j < ss.length) : allG ss (j + 1) = (allG ss j && goodB (ss[j]'h)) := by
  unfold allG
  rw [List.take_succ_eq_append_getElem h, List.all_append]
  simp
theorem allG_all {ss : List ByteArray} {j : Nat} (h : ss.length ≤ j) (ht : allG ss j = true) : ∀ s ∈ ss, goodB s = true := by
  unfold allG at ht
  rw [List.take_of_length_le h, List.all_eq_true] at ht
  exact ht

set_option maxRecDepth 100000 in
set_option maxHeartbeats 1000000 in
theorem law_walk (a : Option Addr) (n c : Nat) (w : World) (hm : n ≤ maxLen) (hcode : CodeAt w.heap.size w a n) (hml : MaxLenAt w) :
    Calls Tryd.prog 4 #[.slice a n c] w fun e w' => e = .returned (.bool true) ∧ Below w.heap.size w w' := by
  have hm2 := hm
  unfold maxLen at hm2
  have HC := Lib.hid hcode
  have HML := Lib.hid hml
  clear hcode hml
  by_cases hbig : 1048576 < n
  · go_enter Tryd.func4, Tryd.ntmps4
    go_wp2
    go_ret
    exact ⟨rfl, Below.refl _ _⟩
  · have hn : n ≤ 1048576 := by omega
    go_enter Tryd.func4, Tryd.ntmps4
    go_wp2_with (first | (go_at_call 8; go_in) | fail)
    refine (draw_joinWords a n c _ hn HC.out).mono ?_
    rintro e w1 ⟨v, ss, rfl, hstr, hlen, hsz, hb⟩
    have B1 := Lib.hid hb
    have HS := Lib.hid hstr
    have HZ := Lib.hid hsz
    clear hb hsz
    have HJ : Hid (ss.length + bytesOf ss ≤ 1048576) := Lib.hid (by have := bytes_bound HZ.out; omega)
    have HJS : Hid ((joinS ss).size ≤ 1048576) := Lib.hid (Nat.le_trans (joinS_size ss) HJ.out)
    rcases hstr with ⟨rfl, a2, c2, rfl⟩ | ⟨hne, g, o, cap, rfl, hcap, hcell⟩
    · have hgood : Hid (∀ s ∈ ([] : List ByteArray), goodB s = true) := Lib.hid (fun s h => by cases h)
      go_wp2_with fail
      go_loop [4, 5] (fun f i => i = .int .i64 0 ∧ f = .bool true) (fun _ _ => 0)
      case atStart => exact ⟨rfl, rfl⟩
      case round =>
        obtain ⟨rfl, rfl⟩ := hrel
        go_wp2_with fail
        refine (impl_join _ ([] : List ByteArray) _ HS.out HJ.out).mono ?_
        rintro e w2 ⟨rfl, hb⟩
        have B2 := Lib.hid (B1.out.trans (hb.mono B1.out.size))
        have HS2 := Lib.hid (HS.out.below hb)
        clear hb
        go_wp2_with fail
        refine (impl_split (joinS ([] : List ByteArray)) _ HJS.out (HML.out.below B2.out)).mono ?_
        rintro e w3 ⟨v3, rfl, ho3, hb⟩
        have B3 := Lib.hid (B2.out.trans (hb.mono B2.out.size))
        have HS3 := Lib.hid (HS2.out.below hb)
        have HT3 := Lib.hid (strs_of_row rfl ho3)
        clear hb ho3
        have hsp := split_join hgood.out
        have hrb : (splitR (joinS ([] : List ByteArray)).data.toList).2 = true := congrArg Prod.snd hsp
        have hrs : (splitR (joinS ([] : List ByteArray)).data.toList).1 = ([] : List ByteArray) := congrArg Prod.fst hsp
        have HSM : Hid (Strs w3 v3 ([] : List ByteArray)) := Lib.hid (by have := HT3.out; rw [hrs] at this; exact this)
        rw [hrb]
        clear hsp hrb hrs
        go_wp2_with fail
        refine (same_texts v3 _ ([] : List ByteArray) _ HSM.out HS3.out (by omega)).mono ?_
        rintro e w4 ⟨rfl, hb⟩
        have B4 := Lib.hid (B3.out.trans (hb.mono B3.out.size))
        clear hb
        go_wp2_with fail
        refine (draw_splitWords a n c _ hn ((HC.out.below B4.out).mono B4.out.size)).mono ?_
        rintro e w6 ⟨s, rfl, hs6, hb⟩
        have B6 := Lib.hid (B4.out.trans (hb.mono B4.out.size))
        clear hb
        go_wp2_with fail
        refine (impl_split s _ (by omega) (HML.out.below B6.out)).mono ?_
        rintro e w7 ⟨v7, rfl, ho7, hb⟩
        have B7 := Lib.hid (B6.out.trans (hb.mono B6.out.size))
        have HT7 := Lib.hid (strs_of_row rfl ho7)
        clear hb ho7
        obtain ⟨qs, hqs⟩ : ∃ qs, (splitR s.data.toList).1 = qs := ⟨_, rfl⟩
        obtain ⟨qb, hqb⟩ : ∃ qb, (splitR s.data.toList).2 = qb := ⟨_, rfl⟩
        rw [hqb]
        have HQ : Hid (splitR s.data.toList = (qs, qb)) := Lib.hid (by rw [← hqs, ← hqb])
        have HT8 := Lib.hid (hqs ▸ HT7.out)
        clear hqs hqb
        cases qb
        · go_wp2_with fail
          go_ret
          exact ⟨rfl, B7.out⟩
        · have HJ2 := Lib.hid (join_split HQ.out)
          have HJ3 := Lib.hid (join_bound HQ.out hs6)
          go_wp2_with fail
          refine (impl_join v7 qs _ HT8.out HJ3.out).mono ?_
          rintro e w8 ⟨rfl, hb⟩
          have B8 := Lib.hid (B7.out.trans (hb.mono B7.out.size))
          clear hb
          rw [show joinS qs = s from by unfold joinS; rw [HJ2.out]]
          go_wp2_with fail
          go_ret
          exact ⟨rfl, B8.out⟩
    · have HCE := Lib.hid hcell
      clear hcell hne
      go_wp2_with fail
      go_loop [4, 5, 6] (fun f i _ => ∃ (j : Nat) (fb : Bool), j ≤ ss.length ∧ i = .int .i64 j ∧ f = .bool fb ∧ Hid (fb = allG ss j)) (fun _ i _ => ss.length - (intOf i).toNat)
      case atStart => exact ⟨0, true, Nat.zero_le _, rfl, rfl, Lib.hid rfl⟩
      case round =>
        obtain ⟨j, fb, hj, rfl, rfl, hfb⟩ := hrel
        by_cases hlt : j < ss.length
        · have hck := HCE.out.at j hlt
          obtain ⟨s, hsj⟩ : ∃ s, ss[j]'hlt = s := ⟨_, rfl⟩
          rw [hsj] at hck
          have hs1 : s.size ≤ 1000 := by rw [← hsj]; exact HZ.out _ (List.getElem_mem hlt)
          have HG : Hid (allG ss (j + 1) = (allG ss j && goodB s)) := Lib.hid (by rw [allG_succ ss j hlt, hsj])
          clear hsj
          have hcase : (s.size = 0 ∧ s.toList.isEmpty = true) ∨ (0 < s.size ∧ s.toList.isEmpty = false) := by
            by_cases h : s.size = 0
            · exact Or.inl ⟨h, empty_yes h⟩
            · exact Or.inr ⟨by omega, empty_no (by omega)⟩
          rcases hcase with ⟨hs0, he⟩ | ⟨hs0, he⟩ <;> cases fb
          all_goals
            go_wp2_with fail
            go_loop [4, 6] (fun f q => ∃ (k : Nat) (fb : Bool), k ≤ s.size ∧ q = .int .i64 k ∧ f = .bool fb ∧ Hid (fb = (allG ss j && partB s k))) (fun _ q => s.size - (intOf q).toNat)
            case atStart => exact ⟨0, _, Nat.zero_le _, rfl, rfl, Lib.hid (by rw [← hfb.out, partB_zero, ← ByteArray.toList_eq, he]; rfl)⟩
            case round =>
              obtain ⟨k, fb, hk, rfl, rfl, hfk⟩ := hrel
              by_cases hkl : k < s.size
              · try (exfalso; omega)
                all_goals
                  have HP := Lib.hid (partB_succ s k hkl)
                  by_cases hsp : (s[k]'hkl).toNat = 32
                  · have e1 : (((s[k]'hkl).toNat : Int) != 32) = false := by rw [bne_eq_false_iff_eq]; omega
                    have HB : Hid (((s[k]'hkl) != 32) = false) := Lib.hid (by rw [bne_eq_false_iff_eq]; exact UInt8.toNat_inj.1 hsp)
                    clear hsp
                    cases fb
                    all_goals
                      go_wp2_with fail
                      go_round
                      case rel => exact ⟨k + 1, false, by omega, by go_num, rfl, Lib.hid (by rw [HP.out, HB.out, Bool.and_false, Bool.and_false])⟩
                      case measure => simp [intOf] <;> omega
                  · have e1 : (((s[k]'hkl).toNat : Int) != 32) = true := by rw [bne_iff_ne]; omega
                    have HB : Hid (((s[k]'hkl) != 32) = true) := Lib.hid (by rw [bne_iff_ne]; intro e; exact hsp (by rw [e]; rfl))
                    clear hsp
                    cases fb
                    all_goals
                      go_wp2_with fail
                      go_round
                      case rel => exact ⟨k + 1, _, by omega, by go_num, rfl, Lib.hid (by rw [HP.out, HB.out, Bool.and_true, ← hfk.out])⟩
                      case measure => simp [intOf] <;> omega
              · have HP := Lib.hid (partB_all s (k := k) (by omega))
                go_wp2_with fail
                go_round
                case rel => exact ⟨j + 1, fb, by omega, by go_num, rfl, Lib.hid (by rw [HG.out, hfk.out, HP.out])⟩
                case measure => simp [intOf] <;> omega
        · have hgood0 : Hid (fb = true → ∀ s ∈ ss, goodB s = true) := Lib.hid (fun h => allG_all (j := j) (by omega) (by rw [← hfb.out]; exact h))
          clear hfb
          go_wp2_with fail
          refine (impl_join _ ss _ HS.out HJ.out).mono ?_
          rintro e w2 ⟨rfl, hb⟩
          have B2 := Lib.hid (B1.out.trans (hb.mono B1.out.size))
          have HS2 := Lib.hid (HS.out.below hb)
          clear hb
          go_wp2_with fail
          refine (impl_split (joinS ss) _ HJS.out (HML.out.below B2.out)).mono ?_
          rintro e w3 ⟨v3, rfl, ho3, hb⟩
          have B3 := Lib.hid (B2.out.trans (hb.mono B2.out.size))
          have HS3 := Lib.hid (HS2.out.below hb)
          have HT3 := Lib.hid (strs_of_row rfl ho3)
          clear hb ho3
          cases fb
          · clear hgood0
            generalize (splitR (joinS ss).data.toList).2 = rb
            go_wp2_with fail
            refine (draw_splitWords a n c _ hn ((HC.out.below B3.out).mono B3.out.size)).mono ?_
            rintro e w6 ⟨s, rfl, hs6, hb⟩
            have B6 := Lib.hid (B3.out.trans (hb.mono B3.out.size))
            clear hb
            go_wp2_with fail
            refine (impl_split s _ (by omega) (HML.out.below B6.out)).mono ?_
            rintro e w7 ⟨v7, rfl, ho7, hb⟩
            have B7 := Lib.hid (B6.out.trans (hb.mono B6.out.size))
            have HT7 := Lib.hid (strs_of_row rfl ho7)
            clear hb ho7
            obtain ⟨qs, hqs⟩ : ∃ qs, (splitR s.data.toList).1 = qs := ⟨_, rfl⟩
            obtain ⟨qb, hqb⟩ : ∃ qb, (splitR s.data.toList).2 = qb := ⟨_, rfl⟩
            rw [hqb]
            have HQ : Hid (splitR s.data.toList = (qs, qb)) := Lib.hid (by rw [← hqs, ← hqb])
            have HT8 := Lib.hid (hqs ▸ HT7.out)
            clear hqs hqb
            cases qb
            · go_wp2_with fail
              go_ret
              exact ⟨rfl, B7.out⟩
            · have HJ2 := Lib.hid (join_split HQ.out)
              have HJ3 := Lib.hid (join_bound HQ.out hs6)
              go_wp2_with fail
              refine (impl_join v7 qs _ HT8.out HJ3.out).mono ?_
              rintro e w8 ⟨rfl, hb⟩
              have B8 := Lib.hid (B7.out.trans (hb.mono B7.out.size))
              clear hb
              rw [show joinS qs = s from by unfold joinS; rw [HJ2.out]]
              go_wp2_with fail
              go_ret
              exact ⟨rfl, B8.out⟩
          · have hgood : Hid (∀ s ∈ ss, goodB s = true) := Lib.hid (hgood0.out rfl)
            clear hgood0
            have hsp := split_join hgood.out
            have hrb : (splitR (joinS ss).data.toList).2 = true := congrArg Prod.snd hsp
            have hrs : (splitR (joinS ss).data.toList).1 = ss := congrArg Prod.fst hsp
            have HSM : Hid (Strs w3 v3 ss) := Lib.hid (by have := HT3.out; rw [hrs] at this; exact this)
            rw [hrb]
            clear hsp hrb hrs
            go_wp2_with fail
            refine (same_texts v3 _ ss _ HSM.out HS3.out (by omega)).mono ?_
            rintro e w4 ⟨rfl, hb⟩
            have B4 := Lib.hid (B3.out.trans (hb.mono B3.out.size))
            clear hb
            go_wp2_with fail
            refine (draw_splitWords a n c _ hn ((HC.out.below B4.out).mono B4.out.size)).mono ?_
            rintro e w6 ⟨s, rfl, hs6, hb⟩
            have B6 := Lib.hid (B4.out.trans (hb.mono B4.out.size))
            clear hb
            go_wp2_with fail
            refine (impl_split s _ (by omega) (HML.out.below B6.out)).mono ?_
            rintro e w7 ⟨v7, rfl, ho7, hb⟩
            have B7 := Lib.hid (B6.out.trans (hb.mono B6.out.size))
            have HT7 := Lib.hid (strs_of_row rfl ho7)
            clear hb ho7
            obtain ⟨qs, hqs⟩ : ∃ qs, (splitR s.data.toList).1 = qs := ⟨_, rfl⟩
            obtain ⟨qb, hqb⟩ : ∃ qb, (splitR s.data.toList).2 = qb := ⟨_, rfl⟩
            rw [hqb]
            have HQ : Hid (splitR s.data.toList = (qs, qb)) := Lib.hid (by rw [← hqs, ← hqb])
            have HT8 := Lib.hid (hqs ▸ HT7.out)
            clear hqs hqb
            cases qb
            · go_wp2_with fail
              go_ret
              exact ⟨rfl, B7.out⟩
            · have HJ2 := Lib.hid (join_split HQ.out)
              have HJ3 := Lib.hid (join_bound HQ.out hs6)
              go_wp2_with fail
              refine (impl_join v7 qs _ HT8.out HJ3.out).mono ?_
              rintro e w8 ⟨rfl, hb⟩
              have B8 := Lib.hid (B7.out.trans (hb.mono B7.out.size))
              clear hb
              rw [show joinS qs = s from by unfold joinS; rw [HJ2.out]]
              go_wp2_with fail
              go_ret
              exact ⟨rfl, B8.out⟩
end Go.Proofs.YtccmmpfbiemjiaaDoor.words
