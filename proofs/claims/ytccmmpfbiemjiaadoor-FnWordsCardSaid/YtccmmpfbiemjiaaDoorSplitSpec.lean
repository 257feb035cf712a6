/-
  The walk of the model's SplitWords: it answers splitR.
-/
import Derived.Test.YtccmmpfbiemjiaaDoorRows
import Derived.Test.YtccmmpfbiemjiaaDoorStrs
import Derived.Test.YtccmmpfbiemjiaaDoorWordsLib
import Derived.WalkKit
import Derived.WalkSpells
import Derived.WalkSmall
import Derived.Lib.Hide
namespace Go.Proofs.YtccmmpfbiemjiaaDoor
open Go.RowKit

theorem infoStr : (Tryd.prog.info? 9).map (fun i => (i.zero, i.size, i.bytes)) = some (some (.string ⟨#[]⟩), 1, 16) := by kernel_rfl

/-- An owned row of strings reads as these strings. -/
theorem strs_of_row {w : World} {base e : Nat} {v : Value} {n : Nat} {ss : List ByteArray} (hn : n = ss.length) (h : w.ownsRow base e 1 v n (ss.map Value.string)) : Strs w v ss := by
  subst hn
  rcases h.2 with ⟨rfl, hx⟩ | ⟨g, cap, cur, rfl, hb, hg, hnc, hcm, hcs, htake⟩
  · exact Or.inl ⟨List.eq_nil_of_length_eq_zero hx, _, _, rfl⟩
  · by_cases h0 : ss = []
    · subst h0
      exact Or.inl ⟨rfl, _, _, rfl⟩
    · refine Or.inr ⟨h0, g, 0, cap, rfl, hnc, (h.lt g rfl).2, fun j x hx => ?_⟩
      have hj : j < ss.length := (List.getElem?_eq_some_iff.1 hx).1
      rw [Nat.zero_add, h.cellAt j (by omega), List.getElem?_map, hx]
      rfl

theorem cut_length {l : List UInt8} {k f : Nat} {out : List ByteArray} (h : Cut l k f out) : out.length ≤ l.length := by
  have h1 := congrArg List.length h.whole
  have h2 := wordsL_length l
  have h3 : 0 < (wordsL (l.drop f)).length := List.length_pos_iff.2 (wordsL_ne _)
  rw [List.length_append, List.length_map] at h1
  omega

/-- What SplitWords leaves: the pair, and its words in memory. -/
def SplitsTo (s : ByteArray) (w : World) (e : Ending) (w' : World) : Prop :=
  ∃ v, e = .returned (.tuple #[v, .bool (splitR s.data.toList).2]) ∧ Strs w' v (splitR s.data.toList).1 ∧ Below w.heap.size w w'

theorem ret_split {s : ByteArray} {w w' : World} {v : Value} {ss : List ByteArray} {b : Bool} (h : splitR s.data.toList = (ss, b)) (hs : Strs w' v ss) (hb : Below w.heap.size w w') :
    SplitsTo s w (.returned (.tuple #[v, .bool b])) w' := ⟨v, by rw [h], by rw [h]; exact hs, hb⟩

theorem strs_none (w : World) (a : Option Addr) (c : Nat) : Strs w (.slice a 0 c) [] := Or.inl ⟨rfl, _, _, rfl⟩

theorem empty_no {s : ByteArray} (h : 0 < s.size) : s.toList.isEmpty = false := by
  rw [ByteArray.toList_eq, List.isEmpty_eq_false_iff]
  intro e
  have h1 : s.data.toList.length = 0 := by rw [e]; rfl
  rw [Array.length_toList] at h1
  have h2 : s.data.size = s.size := rfl
  omega
theorem empty_yes {s : ByteArray} (h : s.size = 0) : s.toList.isEmpty = true := by
  rw [ByteArray.toList_eq, List.isEmpty_iff]
  apply List.eq_nil_of_length_eq_zero
  rw [Array.length_toList]
  exact h
theorem list_no {s : ByteArray} (h : 0 < s.size) : s.data.toList ≠ [] := by
  intro e
  have h1 : s.data.toList.length = 0 := by rw [e]; rfl
  rw [Array.length_toList] at h1
  have h2 : s.data.size = s.size := rfl
  omega
theorem list_yes {s : ByteArray} (h : s.size = 0) : s.data.toList = [] := by
  apply List.eq_nil_of_length_eq_zero
  rw [Array.length_toList]
  exact h

/-- The state of the loop. -/
def Going (l : List UInt8) (k f : Nat) (out : List ByteArray) : Prop :=
  Cut l k f out ∨ (k = l.length + 1 ∧ l ≠ [] ∧ out.map (·.data.toList) = wordsL l ∧ ∀ x ∈ out, x.data.toList ≠ [])

set_option maxRecDepth 100000 in
set_option maxHeartbeats 1000000 in
theorem spec_split (s : ByteArray) (w : World) (hs : s.size ≤ 1048576) :
    Calls Tryd.prog 20 #[.string s] w (SplitsTo s w) := by
  obtain ⟨i0, hi, hz0, hz1, hz2⟩ := info_parts infoStr
  have hln : s.data.toList.length = s.size := by rw [Array.length_toList]; rfl
  have HLN := Lib.hid hln
  clear hln
  go_enter Tryd.func20, Tryd.ntmps20
  go_wp2
  have hown0 : (w.alloc (.cells #[] 9)).ownsRow w.heap.size 9 1 (.slice (some ⟨w.heap.size, 0, none⟩) 0 0) 0 (([] : List ByteArray).map Value.string) := World.ownsRow_lit w #[] 0 (Nat.le_refl _) (Nat.zero_le _) rfl
  go_loopw [4, 5, 6] (fun o f i wr => ∃ (k m : Nat) (out : List ByteArray), k ≤ s.size + 1 ∧ m ≤ k ∧ i = .int .i64 k ∧ f = .int .i64 m ∧ out.length ≤ s.size + 1 ∧ Hid (Going s.data.toList k m out) ∧
      Hid (wr.ownsRow w.heap.size 9 1 o out.length (out.map Value.string)) ∧ Below w.heap.size w wr) (fun _ _ i _ => s.size + 1 - (intOf i).toNat)
  case atStart => exact ⟨0, 0, [], Nat.zero_le _, Nat.le_refl _, rfl, rfl, Nat.zero_le _, Lib.hid (Or.inl (cut_zero _)), Lib.hid hown0, (Below.refl _ _).alloc (Nat.le_refl _) _⟩
  case round =>
    obtain ⟨k, m, out, hk, hmk, rfl, rfl, hol, hgo, hown, hb⟩ := hrel
    by_cases hend : k = s.size + 1
    · have hgt : s.size < k := by omega
      have HP : Hid (splitR s.data.toList = (out, true)) := Lib.hid (by
        rcases hgo.out with h | ⟨_, h0, h1, h2⟩
        · have := h.top; have := HLN.out; omega
        · exact splitR_done h0 h1 h2)
      clear hend hgo
      go_wp2
      go_ret2
      exact ret_split HP.out (strs_of_row rfl hown.out) hb
    · have hle : k ≤ s.size := by omega
      have HC : Hid (Cut s.data.toList k m out) := Lib.hid (by
        rcases hgo.out with h | ⟨h, _⟩
        · exact h
        · exact absurd (h.trans (by rw [HLN.out])) hend)
      clear hend hgo
      by_cases hin : k < s.size
      · have HBT : Hid (s.data.toList[k]? = some (s[k]'hin)) := Lib.hid (by rw [List.getElem?_eq_getElem (by rw [HLN.out]; exact hin)]; rfl)
        by_cases hsp : (s[k]'hin).toNat = 32
        · have e1 : (((s[k]'hin).toNat : Int) != 32) = false := by rw [bne_eq_false_iff_eq]; omega
          have HSP : Hid (s.data.toList[k]? = some 32) := Lib.hid (by rw [HBT.out]; exact congrArg some (UInt8.toNat_inj.1 hsp))
          clear hsp
          by_cases hkm : m < k
          · have e2 : ((k : Int) == (m : Int)) = false := beq_eq_false_iff_ne.2 (by omega)
            have HN := Lib.hid (cut_word (p := s.extract m k) HC.out HSP.out hkm (Lib.extract_data s m k))
            have HL : Hid ((out ++ [s.extract m k]).length ≤ s.size + 1) := Lib.hid (by have := cut_length HC.out; have := HLN.out; simp; omega)
            go_wp2_with (at_builtin; refine wpList_append_own _ rfl _ _ 29 rfl w.heap.size 9 i0 (.string ⟨#[]⟩) 1 16 Tryd.underlying29 hi hz0 hz1 hz2 rfl (by decide) _ out.length (out.map Value.string) rfl (hown.out.alloc _) ⟨wr.heap.size, 0, none⟩ 1 1 [.string (s.extract m k)] rfl rfl ?c1 ?c2 ?c3 ?c4 ?c5 ?_)
            case c1 => intro j u hu; match j, hu with | 0, hu => simp at hu; subst hu; simp [Addr.add]
            case c2 => intro u hu; simp at hu; subst hu; rfl
            case c3 => unfold maxLen; omega
            case c4 => omega
            case c5 => have := hb.size; simp; omega
            intro v2 w2 hown2 hgrow2 _
            have HO := Lib.hid hown2
            have HB2 : Hid (Below w.heap.size w w2) := Lib.hid ((hb.alloc hb.size _).grown hgrow2 (by have := hb.size; simp; omega) (fun j hj => by
              rcases hown.out.2 with ⟨h1, _⟩ | ⟨g, cap, cur, h1, hbg, _⟩
              · rw [h1] at hj; cases hj
              · rw [h1] at hj; cases hj; exact hbg))
            clear hown2 hgrow2
            go_wp2
            go_roundw
            case rel => exact ⟨k + 1, k + 1, out ++ [s.extract m k], by omega, by omega, by go_num, by go_num, HL.out, Lib.hid (Or.inl HN.out), Lib.hid (by rw [List.length_append, List.map_append]; exact HO.out), HB2.out⟩
            case measure => simp [intOf]; omega
          · have e2 : ((k : Int) == (m : Int)) = true := beq_iff_eq.2 (by omega)
            have hne := empty_no (s := s) (by omega)
            have HP := Lib.hid (splitR_no (list_no (s := s) (by omega)) (cut_empty (k := k) (by have := HC.out; rw [show m = k from by omega] at this; exact this) (Or.inl HSP.out)))
            go_wp2
            go_ret2
            exact ret_split HP.out (strs_none _ _ _) ((hb.alloc hb.size _))
        · have e1 : (((s[k]'hin).toNat : Int) != 32) = true := by rw [bne_iff_ne]; omega
          have HN := Lib.hid (cut_next HC.out HBT.out (fun e => hsp (by rw [e]; rfl)))
          clear hsp
          go_wp2
          go_roundw
          case rel => exact ⟨k + 1, m, out, by omega, by omega, by go_num, rfl, hol, Lib.hid (Or.inl HN.out), hown, hb⟩
          case measure => simp [intOf]; omega
      · have hke : k = s.size := by omega
        by_cases hkm : m < k
        · have e2 : ((k : Int) == (m : Int)) = false := beq_eq_false_iff_ne.2 (by omega)
          have HL : Hid ((out ++ [s.extract m k]).length ≤ s.size + 1) := Lib.hid (by have := cut_length HC.out; have := HLN.out; simp; omega)
          have HN := Lib.hid (cut_last (p := s.extract m k) (by have := HC.out; rw [hke, ← HLN.out] at this; exact this) (by rw [HLN.out]; omega) (by rw [Lib.extract_data, hke, HLN.out]))
          have HKE : Hid (k + 1 = s.data.toList.length + 1) := Lib.hid (by rw [HLN.out, hke])
          have HNE := Lib.hid (list_no (s := s) (by omega))
          clear hke
          go_wp2_with (at_builtin; refine wpList_append_own _ rfl _ _ 29 rfl w.heap.size 9 i0 (.string ⟨#[]⟩) 1 16 Tryd.underlying29 hi hz0 hz1 hz2 rfl (by decide) _ out.length (out.map Value.string) rfl (hown.out.alloc _) ⟨wr.heap.size, 0, none⟩ 1 1 [.string (s.extract m k)] rfl rfl ?c1 ?c2 ?c3 ?c4 ?c5 ?_)
          case c1 => intro j u hu; match j, hu with | 0, hu => simp at hu; subst hu; simp [Addr.add]
          case c2 => intro u hu; simp at hu; subst hu; rfl
          case c3 => unfold maxLen; omega
          case c4 => omega
          case c5 => have := hb.size; simp; omega
          intro v2 w2 hown2 hgrow2 _
          have HO := Lib.hid hown2
          have HB2 : Hid (Below w.heap.size w w2) := Lib.hid ((hb.alloc hb.size _).grown hgrow2 (by have := hb.size; simp; omega) (fun j hj => by
            rcases hown.out.2 with ⟨h1, _⟩ | ⟨g, cap, cur, h1, hbg, _⟩
            · rw [h1] at hj; cases hj
            · rw [h1] at hj; cases hj; exact hbg))
          clear hown2 hgrow2
          go_wp2
          go_roundw
          case rel => exact ⟨k + 1, k + 1, out ++ [s.extract m k], by omega, by omega, by go_num, by go_num, HL.out, Lib.hid (Or.inr ⟨HKE.out, HNE.out, HN.out.1, HN.out.2⟩), Lib.hid (by rw [List.length_append, List.map_append]; exact HO.out), HB2.out⟩
          case measure => simp [intOf]; omega
        · have e2 : ((k : Int) == (m : Int)) = true := beq_iff_eq.2 (by omega)
          by_cases hs0 : s.size = 0
          · have hne := empty_yes hs0
            have HP : Hid (splitR s.data.toList = ([], true)) := Lib.hid (by rw [list_yes hs0]; rfl)
            clear hke hs0
            go_wp2
            go_ret2
            exact ret_split HP.out (strs_none _ _ _) (hb.alloc hb.size _)
          · have hne := empty_no (s := s) (by omega)
            have HP := Lib.hid (splitR_no (list_no (s := s) (by omega)) (cut_empty (k := k) (by have := HC.out; rw [show m = k from by omega] at this; exact this) (Or.inr (by rw [hke, HLN.out]))))
            clear hke hs0
            go_wp2
            go_ret2
            exact ret_split HP.out (strs_none _ _ _) (hb.alloc hb.size _)
end Go.Proofs.YtccmmpfbiemjiaaDoor
