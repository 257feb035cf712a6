/-
  The model's IsModel.
-/
import Derived.Test.YtkmjaiicobkkhaaVarSpec
import Derived.WalkKit
import Derived.WalkSpells
import Derived.WalkSmall
import Derived.BigQuiet
import Derived.Deep.QuietTactic
import Derived.Deep.DeepCutAuto
import Derived.Lib.Hide
namespace Go.Proofs.Ytkmjaiicobkkhaa
open Go.RowKit

/-- The first k options are as they should be. -/
def OptsTo (m : MD) (k : Nat) : Prop := CodesTo (namesOf m) k ∧ ∀ j (hj : j < m.opts.length), j < k → OpOk (m.opts[j]'hj)
theorem OptsTo.zero (m : MD) : OptsTo m 0 := ⟨CodesTo.zero _, fun j _ h => by omega⟩
theorem OptsTo.succ {m : MD} {k : Nat} (h : OptsTo m k) (hk : k < m.opts.length) (h1 : isCode.codeB (m.opts[k]'hk).name = true) (h2 : OpOk (m.opts[k]'hk)) (h3 : ∀ i (hi : i < k), (m.opts[i]'(Nat.lt_trans hi hk)).name ≠ (m.opts[k]'hk).name) : OptsTo m (k + 1) :=
  ⟨h.1.succ (by rw [namesOf_length]; exact hk) (by rw [namesOf_at m k hk]; exact h1) (fun i hi => by rw [namesOf_at m k hk, namesOf_at m i (by omega)]; exact h3 i hi), fun j hj hjk => by
    by_cases e : j = k
    · subst e; exact h2
    · exact h.2 j hj (by omega)⟩
theorem OptsTo.all {m : MD} (h : OptsTo m m.opts.length) : (∀ o, o ∈ m.opts → OpOk o) ∧ CodesOk (namesOf m) := by
  refine ⟨fun o ho => ?_, ?_⟩
  · obtain ⟨j, hj, rfl⟩ := List.getElem_of_mem ho
    exact h.2 j hj hj
  · have := h.1
    unfold CodesOk
    rwa [namesOf_length]
theorem MdOk.code {m : MD} (h : MdOk m) {k : Nat} (hk : k < m.opts.length) : isCode.codeB (m.opts[k]'hk).name = true := by
  have := (h.2.2.2.1 k (by rw [namesOf_length]; exact hk) (by rw [namesOf_length]; exact hk)).1
  rwa [namesOf_at m k hk] at this
theorem MdOk.diff {m : MD} (h : MdOk m) {k i : Nat} (hk : k < m.opts.length) (hi : i < k) : (m.opts[i]'(Nat.lt_trans hi hk)).name ≠ (m.opts[k]'hk).name := by
  have := (h.2.2.2.1 k (by rw [namesOf_length]; exact hk) (by rw [namesOf_length]; exact hk)).2 i hi
  rwa [namesOf_at m k hk, namesOf_at m i (by omega)] at this
theorem codesMost_ok {o : OP} : codesMostB o.vals 4 = true ↔ OpOk o := by
  unfold codesMostB OpOk
  simp only [Bool.and_eq_true, decide_eq_true_eq]
  constructor
  · rintro ⟨h1, h2, h3⟩
    exact ⟨h2, by omega, codesB_iff.1 h1⟩
  · rintro ⟨h1, h2, h3⟩
    exact ⟨codesB_yes h3, h1, by omega⟩

set_option maxRecDepth 100000 in
set_option maxHeartbeats 4000000 in
theorem spec_isModel (v : Value) (m : MD) (lo hi : Nat) (w : World) (h : MD.Is lo hi w v m) (hm : MD.Sm m) (hs : MD.Sz m) :
    Calls Try.prog 16 #[v] w (BoolRes (modelB m) w) := by
  obtain ⟨u0, u1, rfl, h0, h1⟩ := h
  obtain ⟨⟨hm0, hm1⟩, hm2, hm3⟩ := hm
  obtain ⟨⟨_, hs1⟩, _, hs3⟩ := hs
  have HM1 := Lib.hid hm1
  have HM3 := Lib.hid hm3
  have HS1 := Lib.hid hs1
  have HS3 := Lib.hid hs3
  obtain ⟨a, c, rfl⟩ := h0.slice
  obtain ⟨a', c', rfl⟩ := h1.slice
  have HX := Lib.hid h0
  have HY := Lib.hid h1
  have HG0 := heap_alloc_new w (.cells #[.slice a m.opts.length c, .slice a' m.rules.length c'] 27)
  have HB0 : Below w.heap.size w (w.alloc (.cells #[.slice a m.opts.length c, .slice a' m.rules.length c'] 27)) := (Below.refl _ _).alloc (Nat.le_refl _) _
  clear h0 h1 hm1 hm3 hs1 hs3
  by_cases hl : m.opts.length ≤ 4
  rotate_left
  · have HN : Hid (modelB m = false) := Lib.hid (modelB_no (fun h => hl h.1))
    go_enter Try.func16, Try.ntmps16
    go_wp2_with fail
    go_ret
    exact ⟨by rw [HN.out]; rfl, HB0⟩
  by_cases hl6 : m.rules.length ≤ 6
  rotate_left
  · have HN : Hid (modelB m = false) := Lib.hid (modelB_no (fun h => hl6 h.2.1))
    go_enter Try.func16, Try.ntmps16
    go_wp2_with fail
    go_ret
    exact ⟨by rw [HN.out]; rfl, HB0⟩
  go_enter Try.func16, Try.ntmps16
  go_wp2_with fail
  generalize w.alloc (.cells #[.slice a m.opts.length c, .slice a' m.rules.length c'] 27) = w0 at *
  go_loopw [3] (fun i wr => ∃ k : Nat, k ≤ m.opts.length ∧ i = .int .i64 k ∧ Hid (OptsTo m k) ∧ Hid (wr.heap[w.heap.size]? = some (.cells #[.slice a m.opts.length c, .slice a' m.rules.length c'] 27)) ∧ Hid (Below w.heap.size w wr)) (fun i _ => m.opts.length - (intOf i).toNat)
  case atStart => exact ⟨0, Nat.zero_le _, rfl, Lib.hid (OptsTo.zero m), Lib.hid HG0, Lib.hid HB0⟩
  case round =>
    obtain ⟨k, hk, rfl, HC, HG, HB⟩ := hrel
    clear HG0 HB0
    by_cases hlt : k < m.opts.length
    · have HLT := Lib.hid hlt
      have HSZ := Lib.hid (HS1.out _ (List.getElem_mem hlt))
      have HSM := Lib.hid (HM1.out _ (List.getElem_mem hlt))
      have HXK := Lib.hid (HX.out.below OPN.kept HB.out)
      obtain ⟨b2, o2, c2, cs, hv2, hc2, _, _, hr, hcell⟩ := SlN.get HXK.out k hlt
      simp only [Value.slice.injEq] at hv2
      obtain ⟨rfl, _, rfl⟩ := hv2
      obtain ⟨u1, rfl, r1⟩ := hr
      have e0 := hcell 0 (by omega)
      have e1 := hcell 1 (by omega)
      simp only [List.getElem?_cons_zero, List.getElem?_cons_succ, Nat.add_zero] at e0 e1
      clear hcell
      have R1 := Lib.hid r1
      clear r1
      have HCODE : Hid (isCode.codeB (m.opts[k]'hlt).name = false → modelB m = false) := Lib.hid (fun h => modelB_no (fun h2 => by rw [h2.code hlt] at h; cases h))
      have HVALS : Hid (codesMostB (m.opts[k]'hlt).vals 4 = false → modelB m = false) := Lib.hid (fun h => modelB_no (fun h2 => by rw [codesMost_ok.2 (h2.2.2.1 _ (List.getElem_mem hlt))] at h; cases h))
      have HDIF : Hid (∀ i (hi : i < k), (m.opts[i]'(Nat.lt_trans hi hlt)).name = (m.opts[k]'hlt).name → modelB m = false) := Lib.hid (fun i hi e => modelB_no (fun h2 => h2.diff hlt hi e))
      have HSUC : Hid (isCode.codeB (m.opts[k]'hlt).name = true → codesMostB (m.opts[k]'hlt).vals 4 = true → (∀ i (hi : i < k), (m.opts[i]'(Nat.lt_trans hi hlt)).name ≠ (m.opts[k]'hlt).name) → OptsTo m (k + 1)) := Lib.hid (fun x1 x2 x3 => HC.out.succ hlt x1 (codesMost_ok.1 x2) x3)
      obtain ⟨x, hx⟩ : ∃ x, m.opts[k]'hlt = x := ⟨_, rfl⟩
      have HXE := Lib.hid hx
      rw [hx] at e0 HSZ HSM R1 HCODE HVALS
      have g0 := cell_of_row _ _ 0 _ _ _ HG.out
      have g1 := cell_of_row _ _ 1 _ _ _ HG.out
      have HCK := Lib.hid (spec_codes u1 x.vals _ _ wr R1.out HSM.out HSZ.out.2)
      clear hx
      go_wp2_with fail
      refine (isCode.spec_walk x.name _ HSZ.out.1).mono ?_
      rintro e w2 ⟨rfl, hw2⟩
      obtain rfl := hw2
      rcases Bool.eq_false_or_eq_true (isCode.codeB x.name) with hcx | hcx
      rotate_left
      · have HN := Lib.hid (HCODE.out hcx)
        rw [hcx]
        go_wp2_with fail
        go_ret
        exact ⟨by rw [HN.out]; rfl, HB.out⟩
      have HCX : Hid (isCode.codeB x.name = true) := Lib.hid hcx
      rw [hcx]
      clear hcx
      go_wp2_with fail
      refine HCK.out.mono ?_
      rintro e w3 ⟨rfl, hb⟩
      rcases Bool.eq_false_or_eq_true (codesMostB x.vals 4) with hcv | hcv
      rotate_left
      · have HN := Lib.hid (HVALS.out hcv)
        rw [hcv]
        have HB3 := Lib.hid (HB.out.trans (hb.mono HB.out.size))
        clear hb hcv
        go_wp2_with fail
        go_ret
        exact ⟨by rw [HN.out]; rfl, HB3.out⟩
      have HCV : Hid (codesMostB x.vals 4 = true) := Lib.hid hcv
      rw [hcv]
      have HG3 := Lib.hid (blk_below HG.out hb)
      have HB3 := Lib.hid (HB.out.trans (hb.mono HB.out.size))
      clear hcv hb e0 e1 g0 g1 HXK HCK R1
      go_wp2_with fail
      go_loopw [4] (fun i wr => ∃ q : Nat, q ≤ k ∧ i = .int .i64 q ∧ Hid (∀ i (hi : i < k), i < q → (m.opts[i]'(Nat.lt_trans hi HLT.out)).name ≠ x.name) ∧ Hid (wr.heap[w.heap.size]? = some (.cells #[.slice (some ⟨b2, o2, none⟩) m.opts.length c, .slice a' m.rules.length c'] 27)) ∧ Hid (Below w.heap.size w wr)) (fun i _ => k - (intOf i).toNat)
      case atStart => exact ⟨0, Nat.zero_le _, rfl, Lib.hid (fun i hi h => by omega), HG3, HB3⟩
      case round =>
        obtain ⟨q, hq, rfl, HD, HGq, HBq⟩ := hrel
        clear HG3 HB3
        by_cases hqk : q < k
        · have HQK := Lib.hid hqk
          have hql : q < m.opts.length := by omega
          have HXQ := Lib.hid (HX.out.below OPN.kept HBq.out)
          obtain ⟨b3, o3, c3, cs, hv3, hc3, _, _, hr, hcell⟩ := SlN.get HXQ.out q hql
          simp only [Value.slice.injEq, Option.some.injEq, Addr.mk.injEq] at hv3
          obtain ⟨⟨rfl, rfl, _⟩, _, rfl⟩ := hv3
          obtain ⟨u2, rfl, _⟩ := hr
          have e0 := hcell 0 (by omega)
          clear hcell
          obtain ⟨b4, o4, c4, cs, hv4, hc4, _, _, hr, hcell⟩ := SlN.get HXQ.out k HLT.out
          simp only [Value.slice.injEq, Option.some.injEq, Addr.mk.injEq] at hv4
          obtain ⟨⟨rfl, rfl, _⟩, _, rfl⟩ := hv4
          obtain ⟨u3, rfl, _⟩ := hr
          have e1 := hcell 0 (by omega)
          clear hcell HXQ
          simp only [List.getElem?_cons_zero, Nat.add_zero] at e0 e1
          rw [HXE.out] at e1
          have HDQ : Hid ((m.opts[q]'hql).name = x.name → modelB m = false) := Lib.hid (fun e => HDIF.out q hqk (by rw [HXE.out]; exact e))
          have HDS : Hid ((m.opts[q]'hql).name ≠ x.name → ∀ i (hi : i < k), i < q + 1 → (m.opts[i]'(Nat.lt_trans hi HLT.out)).name ≠ x.name) := Lib.hid (fun h i hi hiq => by
            by_cases e : i = q
            · subst e; exact h
            · exact HD.out i hi (by omega))
          generalize (m.opts[q]'hql) = z at *
          have g0 := cell_of_row _ _ 0 _ _ _ HGq.out
          have n1 : (q : Int) < (m.opts.length : Int) := by omega
          have n2 : (k : Int) < (m.opts.length : Int) := by omega
          have n3 : (0 : Int) ≤ (q : Int) := by omega
          have n4 : (0 : Int) ≤ (k : Int) := by omega
          by_cases he : z.name = x.name
          · have HN := Lib.hid (HDQ.out he)
            have hbq := str_eq he
            clear he
            go_wp2_with fail
            go_quiet (fail)
            go_wp2_with fail
            go_ret
            exact ⟨by rw [HN.out]; rfl, below_drewN HBq.out _⟩
          · have HS2 := Lib.hid (HDS.out he)
            have hbq := str_ne he
            clear he
            go_wp2_with fail
            go_quiet (fail)
            go_wp2_with fail
            go_roundw
            case rel => exact ⟨q + 1, by have := HQK.out; omega, by go_num, HS2, Lib.hid HGq.out, Lib.hid (below_drewN HBq.out _)⟩
            case measure => have := HQK.out; simp [intOf]; omega
        · have HO := Lib.hid (HSUC.out (by rw [HXE.out]; exact HCX.out) (by rw [HXE.out]; exact HCV.out) (fun i hi => by rw [HXE.out]; exact HD.out i hi (by omega)))
          go_wp2_with fail
          go_roundw
          case rel => exact ⟨k + 1, by have := HLT.out; omega, by go_num, HO, HGq, HBq⟩
          case measure => have := HLT.out; simp [intOf]; omega
    · have hkl : k = m.opts.length := by omega
      have HALL : Hid ((∀ o, o ∈ m.opts → OpOk o) ∧ CodesOk (namesOf m)) := Lib.hid (OptsTo.all (by have := HC.out; rwa [hkl] at this))
      clear hkl
      have g0 := cell_of_row _ _ 0 _ _ _ HG.out
      go_wp2_with fail
      clear g0
      go_loopw [5] (fun i wr => ∃ q : Nat, q ≤ m.rules.length ∧ i = .int .i64 q ∧ Hid (∀ i (hi : i < m.rules.length), i < q → condB (m.rules[i]'hi) = true) ∧ Hid (wr.heap[w.heap.size]? = some (.cells #[.slice a m.opts.length c, .slice a' m.rules.length c'] 27)) ∧ Hid (Below w.heap.size w wr)) (fun i _ => m.rules.length - (intOf i).toNat)
      case atStart => exact ⟨0, Nat.zero_le _, rfl, Lib.hid (fun i hi h => by omega), HG, HB⟩
      case round =>
        obtain ⟨q, hq, rfl, HD, HGq, HBq⟩ := hrel
        clear HG HB
        have g1 := cell_of_row _ _ 1 _ _ _ HGq.out
        by_cases hql : q < m.rules.length
        · have HQL := Lib.hid hql
          have HSZ := Lib.hid (HS3.out _ (List.getElem_mem hql))
          obtain ⟨b3, o3, c3, cs, hv3, hc3, _, _, hr, hcell⟩ := SlN.get (HY.out.below RXN.kept HBq.out) q hql
          simp only [Value.slice.injEq] at hv3
          obtain ⟨rfl, _, rfl⟩ := hv3
          obtain ⟨u2, rfl, r2⟩ := hr
          have e0 := hcell 0 (by omega)
          simp only [List.getElem?_cons_zero, Nat.mul_one, Nat.add_zero] at e0
          clear hcell
          have HNO : Hid (condB (m.rules[q]'hql) = false → modelB m = false) := Lib.hid (fun h => modelB_no (fun h2 => by rw [h2.2.2.2.2 _ (List.getElem_mem hql)] at h; cases h))
          have HDS : Hid (condB (m.rules[q]'hql) = true → ∀ i (hi : i < m.rules.length), i < q + 1 → condB (m.rules[i]'hi) = true) := Lib.hid (fun h i hi hiq => by
            by_cases e : i = q
            · subst e; exact h
            · exact HD.out i hi (by omega))
          generalize (m.rules[q]'hql) = z at *
          have HCK := Lib.hid (spec_isCond u2 z wr (CX.is r2) HSZ.out.2 HSZ.out.1)
          clear r2
          go_wp2_with fail
          refine HCK.out.mono ?_
          rintro e w3 ⟨rfl, hb⟩
          have HG3 := Lib.hid (blk_below HGq.out hb)
          have HB3 := Lib.hid (HBq.out.trans (hb.mono HBq.out.size))
          clear hb g1 e0
          rcases Bool.eq_false_or_eq_true (condB z) with hcz | hcz
          · have HS2 := Lib.hid (HDS.out hcz)
            rw [hcz]
            clear hcz
            go_wp2_with fail
            go_roundw
            case rel => exact ⟨q + 1, by have := HQL.out; omega, by go_num, HS2, HG3, HB3⟩
            case measure => have := HQL.out; simp [intOf]; omega
          · have HN := Lib.hid (HNO.out hcz)
            rw [hcz]
            clear hcz
            go_wp2_with fail
            go_ret
            exact ⟨by rw [HN.out]; rfl, HB3.out⟩
        · have HN : Hid (modelB m = true) := Lib.hid (modelB_yes ⟨hl, hl6, HALL.out.1, HALL.out.2, fun r hr => by
            obtain ⟨j, hj, rfl⟩ := List.getElem_of_mem hr
            exact HD.out j hj (by omega)⟩)
          go_wp2_with fail
          go_ret
          exact ⟨by rw [HN.out]; rfl, HBq.out⟩
end Go.Proofs.Ytkmjaiicobkkhaa
