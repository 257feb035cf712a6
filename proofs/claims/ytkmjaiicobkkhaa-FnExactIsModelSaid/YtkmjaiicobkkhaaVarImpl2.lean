/-
  The program's IsModel.
-/
import Derived.Test.YtkmjaiicobkkhaaVarImpl
import Derived.WalkKit
import Derived.WalkSpells
import Derived.WalkSmall
import Derived.Laws.AppendOwn
import Derived.OwnWalk
import Derived.BigQuiet
import Derived.Deep.QuietTactic
import Derived.Deep.DeepCutAuto
import Derived.Lib.Hide
namespace Go.Proofs.Ytkmjaiicobkkhaa
open Go.RowKit

theorem own_shape {w : World} {base e size n : Nat} {v : Value} {xs : List Value} (h : w.ownsRow base e size v n xs) : ∃ (a : Option Addr) (c : Nat), v = .slice a n c := by
  rcases h.2 with ⟨h1, h2⟩ | ⟨g, cap, cur, h1, _⟩
  · exact ⟨none, 0, by rw [h1, h2]⟩
  · exact ⟨_, cap, h1⟩
theorem blk_grownN {w w' : World} {g : Nat} {x : Obj} {o : Option Nat} (h : w.heap[g]? = some x) (hg : w.grownBy w' o) (hne : ∀ k, o = some k → g < k) : w'.heap[g]? = some x :=
  (hg.block g (lt_of_heap h) (fun e => by have := hne g e.symm; omega)).trans h

set_option maxRecDepth 100000 in
set_option maxHeartbeats 4000000 in
theorem im_isModel (v : Value) (m : MD) (lo hi : Nat) (w : World) (h : MD.Is lo hi w v m) (hm : MD.Sm m) (hs : MD.Sz m) :
    Calls Try.prog 33 #[v] w (BoolRes (modelB m) w) := by
  obtain ⟨i0, hif, hz0, hz1, hz2⟩ := info_parts infoS
  obtain ⟨u0, u1, rfl, h0, h1⟩ := h
  obtain ⟨⟨hm0, hm1⟩, hm2, hm3⟩ := hm
  obtain ⟨⟨_, hs1⟩, _, hs3⟩ := hs
  have HM1 := Lib.hid hm1
  have HM3 := Lib.hid hm3
  have HS1 := Lib.hid hs1
  have HS3 := Lib.hid hs3
  obtain ⟨a, c, rfl⟩ := h0.slice
  obtain ⟨a', c', rfl⟩ := h1.slice
  have HX := Lib.hid h0
  have HY := Lib.hid h1
  have HG0 := heap_alloc_new w (.cells #[.slice a m.opts.length c, .slice a' m.rules.length c'] 27)
  have HB0 : Below w.heap.size w (w.alloc (.cells #[.slice a m.opts.length c, .slice a' m.rules.length c'] 27)) := (Below.refl _ _).alloc (Nat.le_refl _) _
  clear h0 h1 hm1 hm3 hs1 hs3
  by_cases hl : m.opts.length ≤ 4
  rotate_left
  · have HN : Hid (modelB m = false) := Lib.hid (modelB_no (fun h => hl h.1))
    go_enter Try.func33, Try.ntmps33
    go_wp2_with fail
    go_ret
    exact ⟨by rw [HN.out]; rfl, HB0⟩
  by_cases hl6 : m.rules.length ≤ 6
  rotate_left
  · have HN : Hid (modelB m = false) := Lib.hid (modelB_no (fun h => hl6 h.2.1))
    go_enter Try.func33, Try.ntmps33
    go_wp2_with fail
    go_ret
    exact ⟨by rw [HN.out]; rfl, HB0⟩
  go_enter Try.func33, Try.ntmps33
  go_wp2_with fail
  generalize w.alloc (.cells #[.slice a m.opts.length c, .slice a' m.rules.length c'] 27) = w0 at *
  go_loopw [3, 21] (fun x i wr => ∃ (k : Nat) (a2 : Option Addr) (c2 : Nat), k ≤ m.opts.length ∧ i = .int .i64 k ∧ x = .slice a2 k c2 ∧ Hid (wr.ownsRow (w.heap.size + 1) 9 1 (.slice a2 k c2) k (((namesOf m).take k).map Value.string)) ∧ Hid (∀ j (hj : j < m.opts.length), j < k → OpOk (m.opts[j]'hj)) ∧ Hid (wr.heap[w.heap.size]? = some (.cells #[.slice a m.opts.length c, .slice a' m.rules.length c'] 27)) ∧ Hid (Below w.heap.size w wr)) (fun _ i _ => m.opts.length - (intOf i).toNat)
  case atStart => exact ⟨0, none, 0, Nat.zero_le _, rfl, rfl, Lib.hid (World.ownsRow_nil _ _ _ _), Lib.hid (fun j _ h => by omega), Lib.hid HG0, Lib.hid HB0⟩
  case round =>
    obtain ⟨k, a2, c2, hk, rfl, rfl, HNM, HOK, HG, HB⟩ := hrel
    clear HG0 HB0
    by_cases hlt : k < m.opts.length
    · have HLT := Lib.hid hlt
      have HSZ := Lib.hid (HS1.out _ (List.getElem_mem hlt))
      have HSM := Lib.hid (HM1.out _ (List.getElem_mem hlt))
      have HXK := Lib.hid (HX.out.below OPN.kept HB.out)
      obtain ⟨b2, o2, c3, cs, hv2, hc2, _, _, hr, hcell⟩ := SlN.get HXK.out k hlt
      simp only [Value.slice.injEq] at hv2
      obtain ⟨rfl, _, rfl⟩ := hv2
      obtain ⟨u1, rfl, r1⟩ := hr
      have e0 := hcell 0 (by omega)
      have e1 := hcell 1 (by omega)
      simp only [List.getElem?_cons_zero, List.getElem?_cons_succ, Nat.add_zero] at e0 e1
      clear hcell
      obtain ⟨av, cv, rfl⟩ := r1.slice
      have R1 := Lib.hid r1
      clear r1
      have HVALS : Hid (¬OpOk (m.opts[k]'hlt) → modelB m = false) := Lib.hid (fun h => modelB_no (fun h2 => h (h2.2.2.1 _ (List.getElem_mem hlt))))
      have HSUC : Hid (OpOk (m.opts[k]'hlt) → ∀ j (hj : j < m.opts.length), j < k + 1 → OpOk (m.opts[j]'hj)) := Lib.hid (fun h j hj hjk => by
        by_cases e : j = k
        · subst e; exact h
        · exact HOK.out j hj (by omega))
      have HTK : Hid (((namesOf m).take (k + 1)).map Value.string = ((namesOf m).take k).map Value.string ++ [.string (m.opts[k]'hlt).name]) := Lib.hid (by
        rw [List.take_succ_eq_append_getElem (by rw [namesOf_length]; exact hlt), List.map_append, namesOf_at m k hlt]
        rfl)
      generalize m.opts[k]'hlt = x at *
      have g0 := cell_of_row _ _ 0 _ _ _ HG.out
      obtain ⟨W1, hW1⟩ : ∃ W, wr.alloc (.cells #[.string x.name, .slice av x.vals.length cv] 73) = W := ⟨_, rfl⟩
      have HA : Hid (W1.heap[wr.heap.size]? = some (.cells #[.string x.name, .slice av x.vals.length cv] 73)) := Lib.hid (by rw [← hW1]; exact heap_alloc_new _ _)
      have HB1 : Below wr.heap.size wr W1 := by rw [← hW1]; exact (Below.refl _ _).alloc (Nat.le_refl _) _
      have HW1 := Lib.hid hW1
      clear hW1
      by_cases hn1 : x.vals.length < 1
      · have HN := Lib.hid (HVALS.out (fun h => by have := h.1; omega))
        go_wp2_with fail
        go_ret
        exact ⟨by rw [HN.out]; rfl, HB.out.alloc HB.out.size _⟩
      by_cases hn4 : (4 : Int) < (x.vals.length : Int)
      · have HN := Lib.hid (HVALS.out (fun h => by have := h.2.1; omega))
        go_wp2_with fail
        go_ret
        exact ⟨by rw [HN.out]; rfl, HB.out.alloc HB.out.size _⟩
      have HCK := Lib.hid (im_codes _ x.vals _ _ W1 (R1.out.below TxN.kept HB1) HSM.out HSZ.out.2)
      have HG1 := Lib.hid (blk_below HG.out HB1)
      have HN1 := Lib.hid (own_keepL HNM.out HB1)
      have HBW := Lib.hid (HB.out.trans (HB1.mono HB.out.size))
      clear R1 HXK HB1
      go_wp2_with fail
      rw [HW1.out]
      refine HCK.out.mono ?_
      rintro e w2 ⟨rfl, hb⟩
      have HG2 := Lib.hid (blk_below HG1.out hb)
      have HA2 := blk_below HA.out hb
      have HN2 := Lib.hid (own_keepL HN1.out hb)
      have hB2 := HBW.out.trans (hb.mono HBW.out.size)
      have HB2 := Lib.hid hB2
      have hs2 := hB2.size
      have hlt2 := lt_of_heap HA2
      have hlg := lt_of_heap HG2.out
      clear hb g0 HG HNM HB HG1 HN1 HBW HCK HA hB2
      rcases Bool.eq_false_or_eq_true (codesB x.vals) with hcv | hcv
      rotate_left
      · have HN := Lib.hid (HVALS.out (fun h => by rw [codesB_yes h.2.2] at hcv; cases hcv))
        rw [hcv]
        go_wp2_with fail
        go_ret
        exact ⟨by rw [HN.out]; rfl, HB2.out⟩
      have HS2 := Lib.hid (HSUC.out ⟨by omega, by omega, codesB_iff.1 hcv⟩)
      rw [hcv]
      have q0 := cell_of_row _ _ 0 _ _ _ HA2
      have q1 := cell_of_row _ _ 1 _ _ _ HA2
      clear hcv
      go_wp2_with (at_builtin; refine wpList_append_own _ rfl _ _ 39 rfl (w.heap.size + 1) 9 i0 (.string ByteArray.empty) 1 16 Try.underlying39 hif hz0 hz1 hz2 rfl (by decide) _ k (((namesOf m).take k).map Value.string) rfl (HN2.out.alloc _) ⟨w2.heap.size, 0, none⟩ 1 1 [.string x.name] rfl rfl (newL1 _ _ _) (by intro u hu; simp at hu; subst hu; rfl) (by unfold maxLen; omega) (by omega) (by simp; omega) ?_)
      intro v3 w3 ho hg _
      obtain ⟨g3, c4, rfl⟩ := own_someL ho
      have HN3 : Hid (w3.ownsRow (w.heap.size + 1) 9 1 (.slice (some ⟨g3, 0, none⟩) (k + 1) c4) (k + 1) (((namesOf m).take (k + 1)).map Value.string)) := Lib.hid (by rw [HTK.out, List.map_take]; exact ho)
      have HG3 := Lib.hid (blk_grownN (blk_alloc HG2.out _) hg (fun j hj => (HN2.out.lt j hj).1))
      have HB3 := Lib.hid ((HB2.out.alloc hs2 (.cells #[.string x.name] 9)).grown hg (by simp; omega) (fun j hj => by have := (HN2.out.lt j hj).1; omega))
      clear ho hg q0 q1 HA2
      go_wp2_with fail
      go_roundw
      case rel => exact ⟨k + 1, _, _, by have := HLT.out; omega, by go_num, rfl, HN3, HS2, HG3, HB3⟩
      case measure => have := HLT.out; simp [intOf]; omega
    · have hkl : k = m.opts.length := by omega
      have HOP : Hid (∀ o, o ∈ m.opts → OpOk o) := Lib.hid (fun o ho => by
        obtain ⟨j, hj, rfl⟩ := List.getElem_of_mem ho
        exact HOK.out j hj (by omega))
      have HNA : Hid (∀ W, Below wr.heap.size wr W → TX (w.heap.size + 1) wr.heap.size W (.slice a2 k c2) (namesOf m)) := Lib.hid (fun W hW => by
        have h9 := HNM.out
        rw [hkl, show (namesOf m).take m.opts.length = namesOf m from List.take_of_length_le (by rw [namesOf_length]; exact Nat.le_refl _)] at h9
        have hl : (namesOf m).length = m.opts.length := namesOf_length m
        rw [hkl]
        rw [← hl] at h9 ⊢
        exact SlN.below TxN.kept (TX.of_row h9) hW)
      clear hkl
      have g1 := cell_of_row _ _ 1 _ _ _ HG.out
      go_wp2_with fail
      clear g1
      go_loopw [50] (fun i wq => ∃ q : Nat, q ≤ m.rules.length ∧ i = .int .i64 q ∧ Hid (∀ i (hi : i < m.rules.length), i < q → condB (m.rules[i]'hi) = true) ∧ Hid (Below wr.heap.size wr wq)) (fun i _ => m.rules.length - (intOf i).toNat)
      case atStart => exact ⟨0, Nat.zero_le _, rfl, Lib.hid (fun i hi h => by omega), Lib.hid (Below.refl _ _)⟩
      case round =>
        obtain ⟨q, hq, rfl, HD, HBq⟩ := hrel
        have HBw := Lib.hid (HB.out.trans (HBq.out.mono HB.out.size))
        by_cases hql : q < m.rules.length
        · have HQL := Lib.hid hql
          have HSZ := Lib.hid (HS3.out _ (List.getElem_mem hql))
          obtain ⟨b3, o3, c3, cs, hv3, hc3, _, _, hr, hcell⟩ := SlN.get (HY.out.below RXN.kept HBw.out) q hql
          simp only [Value.slice.injEq] at hv3
          obtain ⟨rfl, _, rfl⟩ := hv3
          obtain ⟨u2, rfl, r2⟩ := hr
          have e0 := hcell 0 (by omega)
          simp only [List.getElem?_cons_zero, Nat.mul_one, Nat.add_zero] at e0
          clear hcell
          have HNO : Hid (condB (m.rules[q]'hql) = false → modelB m = false) := Lib.hid (fun h => modelB_no (fun h2 => by rw [h2.2.2.2.2 _ (List.getElem_mem hql)] at h; cases h))
          have HDS : Hid (condB (m.rules[q]'hql) = true → ∀ i (hi : i < m.rules.length), i < q + 1 → condB (m.rules[i]'hi) = true) := Lib.hid (fun h i hi hiq => by
            by_cases e : i = q
            · subst e; exact h
            · exact HD.out i hi (by omega))
          generalize (m.rules[q]'hql) = z at *
          have HCK := Lib.hid (im_isCondC u2 z wr (CX.is r2) HSZ.out.2 HSZ.out.1)
          clear r2
          go_wp2_with fail
          refine HCK.out.mono ?_
          rintro e w3 ⟨rfl, hb⟩
          have HB3 := Lib.hid (HBq.out.trans (hb.mono HBq.out.size))
          have HB4 := Lib.hid (HBw.out.trans (hb.mono HBw.out.size))
          clear hb e0
          rcases Bool.eq_false_or_eq_true (condB z) with hcz | hcz
          · have HS2 := Lib.hid (HDS.out hcz)
            rw [hcz]
            clear hcz
            go_wp2_with fail
            go_roundw
            case rel => exact ⟨q + 1, by have := HQL.out; omega, by go_num, HS2, HB3⟩
            case measure => have := HQL.out; simp [intOf]; omega
          · have HN := Lib.hid (HNO.out hcz)
            rw [hcz]
            clear hcz
            go_wp2_with fail
            go_ret
            exact ⟨by rw [HN.out]; rfl, HB4.out⟩
        · have HN : Hid (modelB m = codesB (namesOf m)) := Lib.hid (by
            rcases Bool.eq_false_or_eq_true (codesB (namesOf m)) with hc | hc
            · rw [hc]
              exact modelB_yes ⟨hl, hl6, HOP.out, codesB_iff.1 hc, fun r hr => by
                obtain ⟨j, hj, rfl⟩ := List.getElem_of_mem hr
                exact HD.out j hj (by omega)⟩
            · rw [hc]
              exact modelB_no (fun h => by rw [codesB_yes h.2.2.2.1] at hc; cases hc))
          have HNZ : Hid (TX.Sm (namesOf m) ∧ TX.Sz (namesOf m)) := Lib.hid ⟨by unfold TX.Sm; rw [namesOf_length]; omega, by rw [namesOf_length]; unfold maxLen; omega, fun s hs => by
            unfold namesOf at hs
            obtain ⟨o, ho, rfl⟩ := List.mem_map.1 hs
            exact (HS1.out o ho).1⟩
          have HCK := Lib.hid (im_codes _ (namesOf m) _ _ _ (HNA.out _ HBq.out) HNZ.out.1 HNZ.out.2)
          go_wp2_with fail
          refine HCK.out.mono ?_
          rintro e w3 ⟨rfl, hb⟩
          have HB4 := Lib.hid (HBw.out.trans (hb.mono HBw.out.size))
          clear hb
          obtain ⟨y, hy⟩ : ∃ y, codesB (namesOf m) = y := ⟨_, rfl⟩
          rw [hy]
          have HYY := Lib.hid hy
          clear hy
          go_wp2_with fail
          go_ret
          exact ⟨by rw [HN.out, HYY.out]; rfl, HB4.out⟩
end Go.Proofs.Ytkmjaiicobkkhaa
