/-
  The model's l7Option and IsPartial.
-/
import Derived.Test.YtkmjaiicobkkhaaVarSpec2
import Derived.Test.YtkmjaiicobkkhaaPKRec
import Derived.Test.YtkmjaiicobkkhaaFindQ
import Derived.WalkKit
import Derived.WalkSpells
import Derived.WalkSmall
import Derived.BigQuiet
import Derived.Deep.QuietTactic
import Derived.Deep.DeepCutAuto
import Derived.Deep.RegionHeld3
import Derived.Lib.Hide
namespace Go.Proofs.Ytkmjaiicobkkhaa
open Go.RowKit

/-- Where an option stands, -1 for nowhere. -/
def OptAt (m : MD) (s : ByteArray) (r : Int) : Prop := (∃ k, ∃ hk : k < m.opts.length, r = (k : Int) ∧ (m.opts[k]'hk).name = s ∧ ∀ j (hj : j < k), (m.opts[j]'(Nat.lt_trans hj hk)).name ≠ s) ∨ (r = -1 ∧ ∀ j (hj : j < m.opts.length), (m.opts[j]'hj).name ≠ s)
def OptRes (m : MD) (s : ByteArray) (w : World) (e : Ending) (w' : World) : Prop := ∃ r : Int, e = .returned (.int .i64 r) ∧ OptAt m s r ∧ Below w.heap.size w w'

set_option maxRecDepth 100000 in
set_option maxHeartbeats 2000000 in
theorem spec_option (u0 u1 : Value) (m : MD) (s : ByteArray) (lo hi : Nat) (w : World) (h0 : OX lo hi w u0 m.opts) (hm : m.opts.length ≤ 1048576) :
    Calls Try.prog 65 #[.agg #[u0, u1], .string s] w (OptRes m s w) := by
  obtain ⟨a, c, rfl⟩ := h0.slice
  have HX := Lib.hid h0
  have HG0 := heap_alloc_new w (.cells #[.slice a m.opts.length c, u1] 27)
  have HB0 : Below w.heap.size w (w.alloc (.cells #[.slice a m.opts.length c, u1] 27)) := (Below.refl _ _).alloc (Nat.le_refl _) _
  clear h0
  go_enter Try.func65, Try.ntmps65
  go_wp2_with fail
  generalize w.alloc (.cells #[.slice a m.opts.length c, u1] 27) = w0 at *
  go_loopw [5] (fun i wr => ∃ k : Nat, k ≤ m.opts.length ∧ i = .int .i64 k ∧ Hid (∀ j (hj : j < m.opts.length), j < k → (m.opts[j]'hj).name ≠ s) ∧ wr = w0) (fun i _ => m.opts.length - (intOf i).toNat)
  case atStart => exact ⟨0, Nat.zero_le _, rfl, Lib.hid (fun j _ h => by omega), rfl⟩
  case round =>
    obtain ⟨k, hk, rfl, HN, rfl⟩ := hrel
    have g0 := cell_of_row _ _ 0 _ _ _ HG0
    by_cases hlt : k < m.opts.length
    · have HLT := Lib.hid hlt
      obtain ⟨b2, o2, c2, cs, hv2, hc2, _, _, hr, hcell⟩ := SlN.get (HX.out.below OPN.kept HB0) k hlt
      simp only [Value.slice.injEq] at hv2
      obtain ⟨rfl, _, rfl⟩ := hv2
      obtain ⟨u2, rfl, _⟩ := hr
      have e0 := hcell 0 (by omega)
      simp only [List.getElem?_cons_zero, Nat.add_zero] at e0
      clear hcell
      have HAT : Hid ((m.opts[k]'hlt).name = s → OptAt m s (k : Int)) := Lib.hid (fun h => Or.inl ⟨k, hlt, rfl, h, fun j hj => HN.out j (by omega) hj⟩)
      have HS : Hid ((m.opts[k]'hlt).name ≠ s → ∀ j (hj : j < m.opts.length), j < k + 1 → (m.opts[j]'hj).name ≠ s) := Lib.hid (fun h j hj hjk => by
        by_cases e : j = k
        · subst e; exact h
        · exact HN.out j hj (by omega))
      generalize m.opts[k]'hlt = x at *
      by_cases he : x.name = s
      · have HR := Lib.hid (HAT.out he)
        have hbq := str_eq he
        clear he
        go_wp2_with fail
        go_ret
        exact ⟨_, rfl, HR.out, HB0⟩
      · have HS2 := Lib.hid (HS.out he)
        have hbq := str_ne he
        clear he
        go_wp2_with fail
        go_roundw
        case rel => exact ⟨k + 1, by have := HLT.out; omega, by go_num, HS2, (by first | trivial | rfl)⟩
        case measure => have := HLT.out; simp [intOf]; omega
    · have HR : Hid (OptAt m s (-1)) := Lib.hid (Or.inr ⟨rfl, fun j hj => HN.out j hj (by omega)⟩)
      go_wp2_with fail
      go_ret
      exact ⟨-1, rfl, HR.out, HB0⟩

set_option maxRecDepth 100000 in
set_option maxHeartbeats 4000000 in
theorem spec_isPartial (v v2 : Value) (m : MD) (ps : List PK) (lo hi : Nat) (w : World) (h : MD.Is lo hi w v m) (hm : MD.Sm m) (hs : MD.Sz m) (h2 : PK.Is w v2 ps) (hm2 : ps.length ≤ 1048576) :
    Calls Try.prog 24 #[v, v2] w (BoolRes (partB m ps) w) := by
  obtain ⟨u0, u1, rfl, h0, h1⟩ := h
  obtain ⟨a, c, rfl⟩ := h0.slice
  obtain ⟨a', c', rfl⟩ := h2.slice
  have HX := Lib.hid h0
  have HX1 := Lib.hid h1
  have HY := Lib.hid h2
  have HM := Lib.hid hm
  have HS := Lib.hid hs
  have hm0 := hm.1.1
  have HG0 := heap_alloc_new w (.cells #[.slice a m.opts.length c, u1] 27)
  have HB0 : Below w.heap.size w (w.alloc (.cells #[.slice a m.opts.length c, u1] 27)) := (Below.refl _ _).alloc (Nat.le_refl _) _
  obtain ⟨a1, c1, rfl⟩ := h1.slice
  clear h0 h1 h2 hm hs
  go_enter Try.func24, Try.ntmps24
  go_wp2_with fail
  generalize w.alloc (.cells #[.slice a m.opts.length c, .slice a1 m.rules.length c1] 27) = w0 at *
  go_loopw [5] (fun i wr => ∃ k : Nat, k ≤ ps.length ∧ i = .int .i64 k ∧ Hid (PicksTo m ps k) ∧ Hid (wr.heap[w.heap.size]? = some (.cells #[.slice a m.opts.length c, .slice a1 m.rules.length c1] 27)) ∧ Hid (Below w.heap.size w wr)) (fun i _ => ps.length - (intOf i).toNat)
  case atStart => exact ⟨0, Nat.zero_le _, rfl, Lib.hid (PicksTo.zero m ps), Lib.hid HG0, Lib.hid HB0⟩
  case round =>
    obtain ⟨k, hk, rfl, HP, HG, HB⟩ := hrel
    clear HG0 HB0
    have g0 := cell_of_row _ _ 0 _ _ _ HG.out
    have g1 := cell_of_row _ _ 1 _ _ _ HG.out
    by_cases hlt : k < ps.length
    rotate_left
    · have hkl : k = ps.length := by omega
      have HN : Hid (modelB m = partB m ps) := Lib.hid (by
        have hp := HP.out
        rw [hkl] at hp
        rcases Bool.eq_false_or_eq_true (modelB m) with hb | hb
        · rw [hb]; exact (partB_yes ⟨modelB_iff.1 hb, hp⟩).symm
        · rw [hb]; exact (partB_no (fun h => by rw [modelB_yes h.1] at hb; cases hb)).symm)
      have HCK := Lib.hid (spec_isModel (.agg #[.slice a m.opts.length c, .slice a1 m.rules.length c1]) m lo hi wr ⟨_, _, rfl, HX.out.below OPN.kept HB.out, HX1.out.below RXN.kept HB.out⟩ HM.out HS.out)
      clear hkl
      go_wp2_with fail
      refine HCK.out.mono ?_
      rintro e w3 ⟨rfl, hb⟩
      have HB3 := Lib.hid (HB.out.trans (hb.mono HB.out.size))
      clear hb
      rw [HN.out]
      obtain ⟨y, hy⟩ : ∃ y, partB m ps = y := ⟨_, rfl⟩
      rw [hy]
      have HYY := Lib.hid hy
      clear hy
      go_wp2_with fail
      go_ret
      exact ⟨by rw [HYY.out]; rfl, HB3.out⟩
    have HLT := Lib.hid hlt
    obtain ⟨b2, o2, c2, hv2, hc2, hcell2⟩ := HY.out.some (by omega)
    simp only [Value.slice.injEq] at hv2
    obtain ⟨rfl, _, rfl⟩ := hv2
    have HCL := Lib.hid hcell2
    obtain ⟨e0, e1⟩ := (hcell2.below HB.out).at k hlt
    clear hcell2 hc2
    have HSUC : Hid ((ps[k]'hlt).vl ∈ valsFor m (ps[k]'hlt).opt → (∀ i (hi : i < k), (ps[i]'(Nat.lt_trans hi hlt)).opt ≠ (ps[k]'hlt).opt) → PicksTo m ps (k + 1)) := Lib.hid (fun x1 x2 => HP.out.succ hlt x1 x2)
    have HVAL : Hid ((ps[k]'hlt).vl ∉ valsFor m (ps[k]'hlt).opt → partB m ps = false) := Lib.hid (fun h => partB_no (fun h2 => h (h2.2 k hlt hlt).1))
    have HDIF : Hid (∀ i (hi : i < k), (ps[i]'(Nat.lt_trans hi hlt)).opt = (ps[k]'hlt).opt → partB m ps = false) := Lib.hid (fun i hi e => partB_no (fun h2 => (h2.2 k hlt hlt).2 i hi e))
    obtain ⟨x, hx⟩ : ∃ x, ps[k]'hlt = x := ⟨_, rfl⟩
    have HXE := Lib.hid hx
    rw [hx] at e0 e1 HVAL HSUC HDIF
    clear hx
    have HOP : Hid (∀ W, Below wr.heap.size wr W → Calls Try.prog 65 #[.agg #[.slice a m.opts.length c, .slice a1 m.rules.length c1], .string x.opt] W (OptRes m x.opt W)) := Lib.hid (fun W hW => spec_option _ _ m x.opt lo hi W (HX.out.below OPN.kept (HB.out.trans (hW.mono HB.out.size))) (by omega))
    go_upto_region 4 with fail
    go_region_held3 (fun W' => Hid (Below wr.heap.size wr W') ∧ W'.cell? ⟨w.heap.size, 0, none⟩ = some (.slice a m.opts.length c) ∧ W'.cell? ⟨w.heap.size, 1, none⟩ = some (.slice a1 m.rules.length c1) ∧ W'.cell? ⟨b2, o2 + k * 2, none⟩ = some (.string x.opt))
      (first | assumption | exact hold3 g0 g1 e0 (hold_call (by assumption) (by assumption)) | exact hold3 g0 g1 e0 (Below.refl _ _).drew)
      (first | (go_at_call 65; refine (HOP.out _ (by first | exact (by assumption : Hid (Below wr.heap.size wr _) ∧ _).1.out | exact Below.refl _ _ | exact (Below.refl _ _).drew)).mono ?_; rintro e w' ⟨r, rfl, hopt, hb⟩; have hle := hold_le (by assumption) hb))
    have hS := (by assumption : Hid (Below wr.heap.size wr w') ∧ _)
    have HB2 := Lib.hid (HB.out.trans (hS.1.out.mono HB.out.size))
    have HG2 := Lib.hid (blk_below HG.out hS.1.out)
    have HS1 := Lib.hid hS.1.out
    clear hb hS hle g0 g1 e0 e1 HOP
    rename_i hSS
    clear hSS
    rcases hopt with ⟨q, hq, rfl, hqn, hqb⟩ | ⟨rfl, hno⟩
    rotate_left
    · have HN := Lib.hid (HVAL.out (by rw [valsFor_none hno]; simp))
      have hneg : decide ((-1 : Int) < 0) = true := by decide
      clear hno
      go_wp2_with fail
      go_quiet (fail)
      go_wp2_with fail
      go_ret
      exact ⟨by rw [HN.out]; rfl, below_drewN HB2.out _⟩
    have HQL := Lib.hid hq
    have HVQ := Lib.hid (valsFor_at hq hqn hqb)
    have HSMQ := Lib.hid (HM.out.1.2 _ (List.getElem_mem hq))
    obtain ⟨b3, o3, c3, cs, hv3, hc3, _, _, hr, hcell⟩ := SlN.get (HX.out.below OPN.kept HB2.out) q hq
    simp only [Value.slice.injEq] at hv3
    obtain ⟨rfl, _, rfl⟩ := hv3
    obtain ⟨u3, rfl, r3⟩ := hr
    have d1 := hcell 1 (by omega)
    simp only [List.getElem?_cons_zero, List.getElem?_cons_succ] at d1
    clear hcell hqn hqb
    have HF : Hid (∀ n, Calls Try.prog 66 #[u3, .string x.vl] (w'.drewN n) fun e w'' => e = .returned (.int .i64 (fndI (m.opts[q]'hq).vals x.vl)) ∧ w'' = w'.drewN n) := Lib.hid (fun n => spec_findQ u3 (m.opts[q]'hq).vals x.vl (w'.drewN n) (TX.strs r3) (by have := HSMQ.out; unfold OP.Sm TX.Sm at this; omega))
    clear r3
    rw [HVQ.out] at HSUC HVAL
    have hql : decide ((q : Int) < 0) = false := decide_eq_false (by omega)
    have n1 : (q : Int) < (m.opts.length : Int) := by omega
    have n2 : (k : Int) < (ps.length : Int) := by omega
    have n3 : (0 : Int) ≤ (q : Int) := by omega
    have n4 : (0 : Int) ≤ (k : Int) := by omega
    have g0 := cell_of_row _ _ 0 _ _ _ HG2.out
    have p1 := ((HCL.out.below HB2.out).at k HLT.out).2
    rw [HXE.out] at p1
    by_cases hin : x.vl ∈ (m.opts[q]'hq).vals
    rotate_left
    · have HN := Lib.hid (HVAL.out hin)
      have hneg : decide (fndI (m.opts[q]'hq).vals x.vl < 0) = true := decide_eq_true (fnd_neg.2 hin)
      obtain ⟨f, hf⟩ : ∃ f, fndI (m.opts[q]'hq).vals x.vl = f := ⟨_, rfl⟩
      rw [hf] at HF hneg
      clear hf hin
      go_wp2_with fail
      go_quiet (first | (go_at_call 66; with_reducible exact Calls.quiet_of_same (HF.out _)))
      go_wp2_with fail
      go_ret
      exact ⟨by rw [HN.out]; rfl, below_drewN HB2.out _⟩
    have HSU := Lib.hid (HSUC.out hin)
    have hneg : decide (fndI (m.opts[q]'hq).vals x.vl < 0) = false := decide_eq_false (fun h => fnd_neg.1 h hin)
    obtain ⟨f, hf⟩ : ∃ f, fndI (m.opts[q]'hq).vals x.vl = f := ⟨_, rfl⟩
    rw [hf] at HF hneg
    clear hf hin
    go_wp2_with fail
    go_quiet (first | (go_at_call 66; with_reducible exact Calls.quiet_of_same (HF.out _)))
    clear g0 p1 d1
    go_wp2_with fail
    go_loopw [7] (fun i wr => ∃ j : Nat, j ≤ k ∧ i = .int .i64 j ∧ Hid (∀ i (hi : i < k), i < j → (ps[i]'(Nat.lt_trans hi HLT.out)).opt ≠ x.opt) ∧ Hid (wr.heap[w.heap.size]? = some (.cells #[.slice (some ⟨b3, o3, none⟩) m.opts.length c, .slice a1 m.rules.length c1] 27)) ∧ Hid (Below w.heap.size w wr)) (fun i _ => k - (intOf i).toNat)
    case atStart => exact ⟨0, Nat.zero_le _, rfl, Lib.hid (fun i hi h => by omega), Lib.hid HG2.out, Lib.hid (below_drewN HB2.out _)⟩
    case round =>
      obtain ⟨j, hj, rfl, HD, HGq, HBq⟩ := hrel
      by_cases hjk : j < k
      · have HJK := Lib.hid hjk
        have hjl : j < ps.length := Nat.lt_trans hjk HLT.out
        have p0 := ((HCL.out.below HBq.out).at j hjl).1
        have p1 := ((HCL.out.below HBq.out).at k HLT.out).1
        rw [HXE.out] at p1
        have HDQ : Hid ((ps[j]'hjl).opt = x.opt → partB m ps = false) := Lib.hid (fun e => HDIF.out j hjk e)
        have HDS : Hid ((ps[j]'hjl).opt ≠ x.opt → ∀ i (hi : i < k), i < j + 1 → (ps[i]'(Nat.lt_trans hi HLT.out)).opt ≠ x.opt) := Lib.hid (fun h i hi hiq => by
          by_cases e : i = j
          · subst e; exact h
          · exact HD.out i hi (by omega))
        generalize (ps[j]'hjl) = z at *
        have n5 : (j : Int) < (ps.length : Int) := by omega
        have n6 : (0 : Int) ≤ (j : Int) := by omega
        by_cases he : z.opt = x.opt
        · have HN := Lib.hid (HDQ.out he)
          have hbq := str_eq he
          clear he
          go_wp2_with fail
          go_quiet (fail)
          go_wp2_with fail
          go_ret
          exact ⟨by rw [HN.out]; rfl, below_drewN HBq.out _⟩
        · have HS2 := Lib.hid (HDS.out he)
          have hbq := str_ne he
          clear he
          go_wp2_with fail
          go_quiet (fail)
          go_wp2_with fail
          go_roundw
          case rel => exact ⟨j + 1, by have := HJK.out; omega, by go_num, HS2, Lib.hid HGq.out, Lib.hid (below_drewN HBq.out _)⟩
          case measure => have := HJK.out; simp [intOf]; omega
      · have HP2 := Lib.hid (HSU.out (fun i hi => HD.out i hi (by omega)))
        go_wp2_with fail
        go_roundw
        case rel => exact ⟨k + 1, by have := HLT.out; omega, by go_num, HP2, HGq, HBq⟩
        case measure => have := HLT.out; simp [intOf]; omega
end Go.Proofs.Ytkmjaiicobkkhaa
