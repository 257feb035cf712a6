/-
  The program's reader in memory: readLeaf.
-/
import Derived.Test.YtghofgjlmfdnpaaCondRd2
import Derived.WalkKit
import Derived.WalkSpells
import Derived.WalkSmall
import Derived.BigQuiet
import Derived.Deep.QuietTactic
import Derived.Deep.DeepCutAuto
import Derived.Lib.Hide
namespace Go.Proofs.Ytghofgjlmfdnpaa
open Go.RowKit

theorem any_lt (chars : List UInt8) : ∀ l : List UInt8, Lib.indexAny l chars < (l.length : Int)
  | [] => by show (-1 : Int) < 0; decide
  | b :: l => by
    have ih := any_lt chars l
    unfold Lib.indexAny
    split
    · simp only [List.length_cons]; omega
    · split
      · simp only [List.length_cons]; omega
      · simp only [List.length_cons]; omega
theorem pEnd_le (q : ByteArray) : pEnd q ≤ q.size := by
  have h1 := any_lt [32, 41] q.data.toList
  have h2 : q.data.toList.length = q.size := by simp
  unfold pEnd
  split
  · exact Nat.le_refl _
  · omega
theorem cut_size (s : ByteArray) : (pCut s).1.size ≤ s.size ∧ (pCut s).2.size ≤ s.size := by
  unfold pCut
  split
  · simp only [ByteArray.size_extract]; omega
  · exact ⟨Nat.le_refl _, Nat.zero_le _⟩

set_option maxRecDepth 100000 in
set_option maxHeartbeats 4000000 in
theorem rd_leaf (b : Nat) (q : ByteArray) (dp : Int) (l : List CN) (w : World) (h : RdI b q dp l w) (hq : q.size ≤ 1048576) (hl : l.length ≤ 30) :
    Calls Try.prog 87 #[.pointer (some ⟨b, 0, none⟩)] w (PRes (pLeaf (q, l)) b dp w) := by
  have H := Lib.hid h
  have hbw := h.lt
  have HI := Lib.hid (idx_stop q w hq)
  have hz1 := Lib.indexAny_ge [32, 41] q.data.toList
  have hz2 := any_lt [32, 41] q.data.toList
  have hz3 : q.data.toList.length = q.size := by simp
  rw [hz3] at hz2
  have hkle := pEnd_le q
  have HK : Hid (pEnd q = if Lib.indexAny q.data.toList [32, 41] < 0 then q.size else (Lib.indexAny q.data.toList [32, 41]).toNat) := Lib.hid rfl
  generalize Lib.indexAny q.data.toList [32, 41] = z at *
  have HLF : Hid (pLeaf (q, l) = if q.extract 0 (pEnd q) = tTrue then pAdd nTrue (q.extract (pEnd q) q.size, l) else if (isCode.codeB (pCut (q.extract 0 (pEnd q))).1 && isCode.codeB (pCut (q.extract 0 (pEnd q))).2) = true then pAdd ⟨1, (pCut (q.extract 0 (pEnd q))).1, (pCut (q.extract 0 (pEnd q))).2⟩ (q.extract (pEnd q) q.size, l) else none) := Lib.hid rfl
  generalize pEnd q = k at *
  obtain ⟨wd, hwd⟩ : ∃ wd, q.extract 0 k = wd := ⟨_, rfl⟩
  have hws : wd.size ≤ q.size := by rw [← hwd, ByteArray.size_extract]; omega
  rw [hwd] at HLF
  have HWD := Lib.hid hwd
  clear hwd hz3
  obtain ⟨a0, c0, HG0, _, _⟩ := h
  have g0 := cell_of_row _ _ 0 _ _ _ HG0
  have hk0 : (k : Int) ≤ (q.size : Int) := by omega
  go_enter Try.func87, Try.ntmps87
  go_wp2_with fail
  refine HI.out.mono ?_
  rintro e w1 ⟨rfl, hb⟩
  have H1 := Lib.hid (H.out.below hb)
  have HB1 := Lib.hid (hb.mono (show b ≤ w.heap.size by omega))
  clear hb g0 HG0 HI
  obtain ⟨a1, c1, HG1, _, hb1⟩ := H1.out
  have g0 := cell_of_row _ _ 0 _ _ _ HG1
  have f0 := frozen_of_row _ _ 0 _ _ HG1
  go_upto_region 1 with fail
  go_upto_if 14 with fail
  go_cut [2] from 13 to 19 (fun x wx => x = .int .i64 (k : Int) ∧ wx = w1)
  case first =>
    by_cases hz : z < 0
    · have HKZ : Hid (k = q.size) := Lib.hid (by rw [HK.out, if_pos hz])
      have hd : decide (z < 0) = true := decide_eq_true hz
      go_wp2_with fail
      go_meet
      exact ⟨by rw [HKZ.out], rfl⟩
    · have HKZ : Hid (z = (k : Int)) := Lib.hid (by rw [HK.out, if_neg hz]; omega)
      have hd : decide (z < 0) = false := decide_eq_false hz
      go_wp2_with fail
      go_meet
      exact ⟨by rw [HKZ.out], rfl⟩
  case rest =>
    obtain ⟨rfl, rfl⟩ := hcut
    have hk1 : (0 : Int) ≤ (k : Int) := by omega
    have HR2 := Lib.hid (H1.out.rest (q' := q.extract k q.size))
    have HB2 := Lib.hid (HB1.out.setCell (p := ⟨b, 0, none⟩) (Nat.le_refl _) (.string (q.extract k q.size)))
    go_upto_region 5 with fail
    generalize wc.setCell ⟨b, 0, none⟩ (.string (q.extract k q.size)) = w2 at *
    rw [HWD.out]
    clear HG1 g0 f0 H1 HB1 HK HWD hz1 hz2 hk0 hk1
    by_cases htt : wd = tTrue
    · have HL2 : Hid (pLeaf (q, l) = pAdd nTrue (q.extract k q.size, l)) := Lib.hid (by rw [HLF.out, if_pos htt])
      have bt : wd.toList = [84, 82, 85, 69] := by rw [htt]; simp
      have HA := Lib.hid (rd_add b (q.extract k q.size) dp l nTrue w2 HR2.out hl)
      unfold CN.val nTrue at HA
      clear htt HLF
      go_wp2_with fail
      refine HA.out.mono ?_
      rintro e w3 (⟨r, ho, rfl, hR, hb⟩ | ⟨ho, rfl, hb⟩)
      · have HO := Lib.hid ho
        have HR3 := Lib.hid hR
        have HB3 := Lib.hid (HB2.out.trans hb)
        clear ho hR hb
        go_wp2_with fail
        (try simp only [Exit.inBlock, Exit.then])
        refine bodyPost_ret (results_none rfl _ _ _) rfl ?_
        exact Or.inl ⟨r, HL2.out.trans HO.out, rfl, HR3.out, HB3.out⟩
      · exact ⟨rfl, Or.inr ⟨HL2.out.trans ho, rfl, HB2.out.trans hb⟩⟩
    · have bt0 : ¬wd.toList = [84, 82, 85, 69] := fun e => by
        have h1 := str_ne htt
        rw [e] at h1
        simp at h1
      have bt : (wd.toList == [84, 82, 85, 69]) = false := beq_eq_false_iff_ne.2 bt0
      have HL2 := Lib.hid (HLF.out.trans (if_neg htt))
      have hcs := cut_size wd
      have HC := Lib.hid (lib_cut wd w2 (by omega))
      have hbw2 := HR2.out.lt
      clear htt HLF bt0
      go_wp2_with fail
      refine HC.out.mono ?_
      rintro e w3 ⟨rfl, hb⟩
      have HR3 := Lib.hid (HR2.out.below hb)
      have HB3 := Lib.hid (HB2.out.trans (hb.mono (show b ≤ w2.heap.size by omega)))
      have hbw3 := HR3.out.lt
      clear hb HC HR2 HB2
      generalize pCut wd = cv at *
      obtain ⟨o, v⟩ := cv
      simp only at hcs HL2
      generalize decide (0 ≤ Lib.indexByte wd.data.toList 61) = yc at *
      have HX := heap_alloc_new w3 (.cells #[.int .i64 1, .string o, .string v] 43)
      have HBX : Below w3.heap.size w3 (w3.alloc (.cells #[.int .i64 1, .string o, .string v] 43)) := (Below.refl _ _).alloc (Nat.le_refl _) _
      have HR4 := Lib.hid (HR3.out.below HBX)
      have HB4 := Lib.hid (HB3.out.trans (HBX.mono (show b ≤ w3.heap.size by omega)))
      go_upto_region 9 with fail
      generalize w3.alloc (.cells #[.int .i64 1, .string o, .string v] 43) = w4 at *
      have x0 := cell_of_row _ _ 0 _ _ _ HX
      have x1 := cell_of_row _ _ 1 _ _ _ HX
      have x2 := cell_of_row _ _ 2 _ _ _ HX
      have HS := Lib.hid (im_sound ⟨1, o, v⟩ w4 (by unfold CN.Sz maxLen; simp only; omega))
      rw [sound_is rfl] at HS
      unfold CN.val at HS
      simp only at HS
      have hw4 := HR4.out.lt
      go_wp2_with fail
      refine HS.out.mono ?_
      rintro e w5 ⟨rfl, hb⟩
      have HX5 := blk_below HX hb
      have HR5 := Lib.hid (HR4.out.below hb)
      have HB5 := Lib.hid (HB4.out.trans (hb.mono (show b ≤ w4.heap.size by omega)))
      clear hb x0 x1 x2 HX HR4 HB4 HS HBX
      generalize (isCode.codeB o && isCode.codeB v) = yb at *
      cases yb with
      | false =>
        go_wp2_with fail
        refine (rd_nope _ _ _ rfl).mono ?_
        rintro e w6 ⟨rfl, rfl⟩
        exact ⟨rfl, Or.inr ⟨HL2.out, rfl, HB5.out⟩⟩
      | true =>
        have x0 := cell_of_row _ _ 0 _ _ _ HX5
        have x1 := cell_of_row _ _ 1 _ _ _ HX5
        have x2 := cell_of_row _ _ 2 _ _ _ HX5
        go_wp2_with fail
        refine (rd_yes _ _ _ rfl).mono ?_
        rintro e w6 ⟨rfl, rfl⟩
        have HA := Lib.hid (rd_add b (q.extract k q.size) dp l ⟨1, o, v⟩ w5 HR5.out hl)
        unfold CN.val at HA
        simp only at HA
        go_wp2_with fail
        refine HA.out.mono ?_
        rintro e w7 (⟨r, ho, rfl, hR, hb⟩ | ⟨ho, rfl, hb⟩)
        · have HO := Lib.hid ho
          have HR7 := Lib.hid hR
          have HB7 := Lib.hid (HB5.out.trans hb)
          clear ho hR hb
          go_wp2_with fail
          first | go_end0 | go_ret
          exact Or.inl ⟨r, HL2.out.trans HO.out, rfl, HR7.out, HB7.out⟩
        · exact ⟨rfl, Or.inr ⟨HL2.out.trans ho, rfl, HB5.out.trans hb⟩⟩
end Go.Proofs.Ytghofgjlmfdnpaa
