/-
  The model's ApplyChanges.
-/
import Derived.Test.YtdhldokpojghdaaSpecApChg
import Derived.WalkKit
import Derived.WalkSpells
import Derived.WalkSmall
import Derived.BigQuiet
import Derived.OneCell
import Derived.Deep.QuietTactic
import Derived.Deep.DeepCutAuto
import Derived.Laws.OwnMore
import Derived.Lib.Hide
namespace Go.Proofs.Ytdhldokpojghdaa
open Go.RowKit

theorem foldO_sz {l : List IT} : ∀ (cs : List CH) (ys zs : List BL), BillsOk l ys → BX.Sz ys → (∀ c, c ∈ cs → CH.Sz c) → foldO l cs ys = some zs → BX.Sz zs
  | [], ys, zs, _, h, _, e => by
    have : ys = zs := Option.some.inj e
    rw [← this]; exact h
  | x :: cs, ys, zs, hb, h, hc, e => by
    have e2 : (match apO l ys x with | some zs => foldO l cs zs | none => none) = some zs := e
    cases h1 : apO l ys x with
    | none => rw [h1] at e2; cases e2
    | some us =>
      rw [h1] at e2
      obtain ⟨h2, h3⟩ := apO_some h1
      subst h3
      exact foldO_sz cs _ zs h2.2.2 (chgL_sz (hc x (by simp)) h (by have := hb.1.2.1; unfold maxLen; omega)) (fun c hx => hc c (List.mem_cons_of_mem _ hx)) e2
theorem foldO_cut {l : List IT} {cs : List CH} {ys : List BL} (k : Nat) (h : foldO l (cs.take k) ys = none) : foldO l cs ys = none := foldO_none h

set_option maxRecDepth 100000 in
set_option maxHeartbeats 8000000 in
theorem spec_applyChanges (v v2 vc : Value) (l : List IT) (xs : List BL) (cs : List CH) (lo hi : Nat) (w : World) (h : IT.Is w v l) (h2 : BX lo hi w v2 xs) (h3 : CH.Is w vc cs) (hm : l.length ≤ maxLen) (hs : ∀ r, r ∈ l → IT.Sz r) (hs2 : BX.Sz xs) (hm3 : cs.length ≤ maxLen) (hs3 : ∀ r, r ∈ cs → CH.Sz r) :
    Calls Try.prog 23 #[v, v2, vc] w (ApOut (apsO l xs cs) w) := by
  obtain ⟨i0, hi0, hz0, hz1, hz2⟩ := info_parts infoBLc
  have HI := Lib.hid h
  have HX := Lib.hid h2
  have HC := Lib.hid h3
  have HS := Lib.hid hs
  have HS2 := Lib.hid hs2
  have HS3 := Lib.hid hs3
  have HM := Lib.hid hm
  unfold maxLen at hm hm3
  obtain ⟨a, c, rfl⟩ := h.slice
  obtain ⟨a2, c2, rfl⟩ := h2.slice
  obtain ⟨ac, cc, rfl⟩ := h3.slice
  have HN : Hid (¬(BillsOk l xs ∧ cs.length ≤ 8) → apsO l xs cs = none) := Lib.hid apsO_no
  have HYES : Hid (BillsOk l xs → cs.length ≤ 8 → apsO l xs cs = foldO l cs xs) := Lib.hid apsO_yes
  generalize apsO l xs cs = o at *
  have HCK := Lib.hid (spec_bills _ _ l xs lo hi w h h2 HM.out hs hs2)
  clear h h2 h3 hs hs2 hs3
  go_enter Try.func23, Try.ntmps23
  go_wp2_with fail
  refine HCK.out.mono ?_
  rintro e w1 ⟨rfl, hb⟩
  have HB1 := Lib.hid hb
  have hs1 := hb.size
  clear hb HCK
  rcases Bool.eq_false_or_eq_true (billsB l xs) with hc | hc
  rotate_left
  · have HE := Lib.hid (HN.out (fun h => by rw [billsB_yes h.1] at hc; cases hc))
    rw [hc]
    clear hc
    go_wp2_with fail
    go_ret2
    exact ⟨_, by rw [HE.out]; rfl, by rw [HE.out]; exact Lib.hid (BX.ownNil hs1), Lib.hid (HB1.out.alloc hs1 _)⟩
  have HBT := Lib.hid hc
  have h24 := (billsB_iff.1 hc).1.2.1
  rw [hc]
  clear hc
  by_cases h8 : cs.length ≤ 8
  rotate_left
  · have HE := Lib.hid (HN.out (fun h => h8 h.2))
    have hd : decide ((8 : Int) < (cs.length : Int)) = true := decide_eq_true (by omega)
    clear h8
    go_wp2_with fail
    go_ret2
    exact ⟨_, by rw [HE.out]; rfl, by rw [HE.out]; exact Lib.hid (BX.ownNil hs1), Lib.hid (HB1.out.alloc hs1 _)⟩
  have hd : decide ((8 : Int) < (cs.length : Int)) = false := decide_eq_false (by omega)
  have HOE := Lib.hid (HYES.out (billsB_iff.1 HBT.out) h8)
  clear HN HYES
  have HO0 : Hid (BX.Own w1.heap.size (w1.alloc (.cells #[] 36)).heap.size (w1.alloc (.cells #[] 36)) (.slice (some ⟨w1.heap.size, 0, none⟩) 0 0) []) := Lib.hid (BX.ownNil (Nat.le_refl _))
  have HBE : Hid (Below w1.heap.size w1 (w1.alloc (.cells #[] 36))) := Lib.hid ((Below.refl _ _).alloc (Nat.le_refl _) _)
  go_wp2_with fail
  generalize w1.alloc (.cells #[] 36) = w00 at *
  generalize w1 = w0 at *
  go_loopw [8, 9] (fun s i wr => ∃ (k : Nat) (ys : List BL) (p : Option Addr) (q : Nat), k ≤ xs.length ∧ i = .int .i64 k ∧ s = .slice p ys.length q ∧ ys.length = k ∧ Hid (ys = xs.take k) ∧ Hid (BX.Own w0.heap.size wr.heap.size wr (.slice p ys.length q) ys) ∧ Hid (Below w0.heap.size w0 wr)) (fun _ i _ => xs.length - (intOf i).toNat)
  case atStart => exact ⟨0, [], _, _, Nat.zero_le _, rfl, rfl, rfl, Lib.hid rfl, HO0, HBE⟩
  case round =>
    clear HO0 HBE
    obtain ⟨k, ys, p, q, hk, rfl, rfl, hyk, HY, HO, HB⟩ := hrel
    have hsr := HB.out.size
    have HBW := Lib.hid (HB1.out.trans (HB.out.mono HB1.out.size))
    have HYK := Lib.hid hyk
    clear hyk
    by_cases hlt : k < xs.length
    rotate_left
    · have HE2 : Hid (ys = xs) := Lib.hid (by
        have h1 := HY.out
        rw [List.take_of_length_le (by omega)] at h1
        exact h1)
      have HF0 : Hid (foldO l (cs.take 0) xs = some ys) := Lib.hid (by rw [HE2.out]; rfl)
      clear HYK HY
      go_wp2_with fail
      go_loopw [8, 10] (fun s i wt => ∃ (m : Nat) (zs : List BL) (p : Option Addr) (q : Nat), m ≤ cs.length ∧ i = .int .i64 m ∧ s = .slice p zs.length q ∧ Hid (foldO l (cs.take m) xs = some zs) ∧ Hid (BX.Own w0.heap.size wt.heap.size wt (.slice p zs.length q) zs) ∧ Hid (Below w0.heap.size w0 wt)) (fun _ i _ => cs.length - (intOf i).toNat)
      case atStart => exact ⟨0, ys, p, q, Nat.zero_le _, rfl, rfl, HF0, HO, HB⟩
      case round =>
        clear HF0 HO HB HBW hsr HE2 hlt
        obtain ⟨m, zs, p3, q3, hmk, rfl, rfl, HF, HO, HB⟩ := hrel
        have hst := HB.out.size
        have HBW := Lib.hid (HB1.out.trans (HB.out.mono HB1.out.size))
        by_cases hmt : m < cs.length
        rotate_left
        · have HE : Hid (o = some zs) := Lib.hid (by
            have h1 := HF.out
            rw [List.take_of_length_le (by omega)] at h1
            rw [HOE.out, h1])
          go_wp2_with fail
          go_ret2
          exact ⟨_, by rw [HE.out]; rfl, by rw [HE.out]; exact Lib.hid (HO.out.lower hs1), HBW⟩
        have HMT := Lib.hid hmt
        have HSZ : Hid (BX.Sz zs) := Lib.hid (foldO_sz _ _ _ (billsB_iff.1 HBT.out) HS2.out (fun c hc => HS3.out c (List.mem_of_mem_take hc)) HF.out)
        have HSC := Lib.hid (HS3.out _ (List.getElem_mem hmt))
        have HT := Lib.hid (foldO_take (l := l) (ys := xs) hmt)
        obtain ⟨bC, oC, kC, hvC, hcC, hatC⟩ := (HC.out.below HBW.out).some (by omega)
        simp only [Value.slice.injEq] at hvC
        obtain ⟨rfl, _, rfl⟩ := hvC
        obtain ⟨e0, e1, e2, e3, e4⟩ := hatC.at m hmt
        clear hatC hcC
        have HAP := Lib.hid (spec_applyChange _ _ l zs (cs[m]'hmt) w0.heap.size wr.heap.size wr (HI.out.below HBW.out) HO.out.sl HM.out HS.out HSZ.out HSC.out)
        unfold CH.val at HAP
        generalize cs[m]'hmt = x at *
        go_wp2_with fail
        refine HAP.out.mono ?_
        rintro e w5 ⟨v5, rfl, HO5, HB5⟩
        have HBF := Lib.hid (HB.out.trans (HB5.out.mono HB.out.size))
        have HBWF := Lib.hid (HB1.out.trans (HBF.out.mono HB1.out.size))
        have hs5 := HBWF.out.size
        clear HAP HO HB e0 e1 e2 e3 e4
        cases hap : apO l zs x with
        | none =>
          have HE : Hid (o = none) := Lib.hid (by rw [HOE.out]; exact foldO_cut (m + 1) (by rw [HT.out, HF.out]; exact hap))
          clear HO5
          go_wp2_with fail
          go_ret2
          exact ⟨_, by rw [HE.out]; rfl, by rw [HE.out]; exact Lib.hid (BX.ownNil hs5), Lib.hid (HBWF.out.alloc hs5 _)⟩
        | some us =>
          have HFN : Hid (foldO l (cs.take (m + 1)) xs = some us) := Lib.hid (by rw [HT.out, HF.out]; exact hap)
          rw [hap] at HO5
          obtain ⟨p4, q4, rfl⟩ := HO5.out.slice
          have HO6 := Lib.hid (HO5.out.lower hst)
          clear HO5
          go_wp2_with fail
          go_roundw
          case rel => exact ⟨m + 1, us, p4, q4, by have := HMT.out; omega, by go_num, rfl, HFN, HO6, HBF⟩
          case measure => have := HMT.out; simp [intOf]; omega
    have HLT := Lib.hid hlt
    have HCO := Lib.hid (billsB_cond HBT.out hlt)
    have HT : Hid (xs.take (k + 1) = xs.take k ++ [xs[k]'hlt]) := Lib.hid (List.take_succ_eq_append_getElem hlt)
    obtain ⟨b2, o2, c2', cl, hv2, hc2, hb2, hcl, hr5, hcell⟩ := (HX.out.below BLN.kept HBW.out).get k hlt
    simp only [Value.slice.injEq] at hv2
    obtain ⟨rfl, _, rfl⟩ := hv2
    obtain ⟨u5, rfl, h5⟩ := hr5
    obtain ⟨sa5, sc5, rfl⟩ := h5.slice
    have e0 := hcell 0 (by omega)
    have e1 := hcell 1 (by omega)
    have e2 := hcell 2 (by omega)
    have e3 := hcell 3 (by omega)
    have e4 := hcell 4 (by omega)
    have e5 := hcell 5 (by omega)
    simp only [List.getElem?_cons_zero, List.getElem?_cons_succ, Nat.add_zero] at e0 e1 e2 e3 e4 e5
    clear hcell hc2 hcl hb2
    generalize xs[k]'hlt = x at *
    have HLN := Lib.hid (spec_line x _ lo hi wr h5 HCO.out.1 HCO.out.2)
    clear h5
    go_wp2_with fail
    refine HLN.out.mono ?_
    rintro e w3 ⟨a3, c3, rfl, HOL, HBL⟩
    have hs3 := HBL.out.size
    clear HLN e0 e1 e2 e3 e4 e5
    obtain ⟨rs, hrec, hrl, hown⟩ := (HO.out.below HBL.out).recs
    have HREC := Lib.hid hrec
    have HRL := Lib.hid hrl
    have HOWN := Lib.hid hown
    have HB3 := Lib.hid (HB.out.trans (HBL.out.mono HB.out.size))
    clear hrec hrl hown
    have hy24 : ys.length ≤ 24 := by have := HYK.out; omega
    have HRW : Hid (w3.ownsRow w0.heap.size 36 6 (.slice p ys.length q) ys.length (flatN rs)) := Lib.hid (by have h1 := HOWN.out.row; rw [HRL.out] at h1; exact h1)
    go_wp2_with (at_builtin; refine wpList_append_own _ rfl _ _ 25 rfl w0.heap.size 36 i0 (.agg #[.string ByteArray.empty, .string ByteArray.empty, .int .i64 0, .int .i64 0, .int .i64 0, .slice none 0 0]) 6 80 Try.underlying25 hi0 hz0 hz1 hz2 rfl (by decide) _ ys.length (flatN rs) rfl (HRW.out.alloc _) ⟨w3.heap.size, 0, none⟩ 1 1 [.string x.par, .string x.prt, .int .i64 x.qty, .int .i64 x.fr, .int .i64 x.un, .slice a3 x.whn.length c3] rfl rfl (new_6 _ _ _ _ _ _ _ _) (by intro u hu; simp at hu; rcases hu with rfl | rfl | rfl | rfl | rfl | rfl <;> rfl) (by unfold maxLen; omega) (by omega) (by simp; omega) ?_)
    intro v4 w10 ho hg _
    obtain ⟨p2, q2, rfl⟩ := own_sliceN ho
    have HOF : Hid (BX.Own w0.heap.size w10.heap.size w10 (.slice p2 (ys.length + 1) q2) (ys ++ [x])) := Lib.hid ⟨_, HREC.out.push (x) _, BX.pushR (HOWN.out.below ((Below.refl _ _).alloc (Nat.le_refl _) _)) (HOL.out.alloc _) (RowsB.of HOWN.out) (by omega) (by rw [HRL.out]; exact ho) hg⟩
    have HBF := Lib.hid ((HB3.out.alloc HB3.out.size _).grown hg (by simp; omega) (fun g hg2 => (HRW.out.lt g hg2).1))
    clear ho hg
    go_wp2_with fail
    go_roundw
    case rel => exact ⟨k + 1, ys ++ [x], p2, q2, by have := HLT.out; omega, by go_num, by simp, by have := HYK.out; simp; omega, Lib.hid (by rw [HT.out, ← HY.out]), by simpa using HOF, HBF⟩
    case measure => have := HLT.out; simp [intOf]; omega
end Go.Proofs.Ytdhldokpojghdaa
