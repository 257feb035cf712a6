/-
  The model's OptionsIn.
-/
import Derived.Test.YtghofgjlmfdnpaaRows
import Derived.Test.YtghofgjlmfdnpaaRecLib
import Derived.Test.YtghofgjlmfdnpaaCondLib
import Derived.Test.YtghofgjlmfdnpaaCondSpec
import Derived.Test.YtghofgjlmfdnpaaStrs
import Derived.Test.YtghofgjlmfdnpaaFind
import Derived.Test.YtghofgjlmfdnpaaHold
import Derived.WalkKit
import Derived.WalkSpells
import Derived.WalkSmall
import Derived.Laws.AppendOwn
import Derived.BigQuiet
import Derived.Deep.QuietTactic
import Derived.Deep.DeepCutAuto
import Derived.Deep.RegionHeld3
import Derived.Lib.Hide
namespace Go.Proofs.Ytghofgjlmfdnpaa
open Go.RowKit

instance decTextC (x : ByteArray) (l : List ByteArray) : Decidable (x ∈ l) := decidable_of_iff (l.any (fun y => decide (y = x)) = true) (by simp)
/-- An option that a node asks for, behind those found. -/
def addO (out : List ByteArray) (x : CN) : List ByteArray := if x.kind = 1 ∧ x.opt ∉ out then out ++ [x.opt] else out
def optsL (l : List CN) : List ByteArray := l.foldl addO []
/-- The options that a condition asks for. -/
noncomputable def optsR (l : List CN) : List ByteArray := if condB l = true then optsL l else []
theorem optsL_take {l : List CN} {k : Nat} (hk : k < l.length) : optsL (l.take (k + 1)) = addO (optsL (l.take k)) (l[k]'hk) := by
  unfold optsL
  rw [List.take_succ_eq_append_getElem hk, List.foldl_append]
  rfl
theorem addO_len (out : List ByteArray) (x : CN) : (addO out x).length ≤ out.length + 1 := by
  unfold addO
  split
  · simp
  · omega
def cellsT (ns : List ByteArray) : List Value := ns.map Value.string
theorem cellsT_snoc (ns : List ByteArray) (x : ByteArray) : cellsT (ns ++ [x]) = cellsT ns ++ [.string x] := by simp [cellsT]
theorem strs_of_rowT {w : World} {base e : Nat} {v : Value} {n : Nat} {ns : List ByteArray} (hn : n = ns.length) (h : w.ownsRow base e 1 v n (cellsT ns)) : Strs w v ns := by
  subst hn
  rcases h.2 with ⟨rfl, hx⟩ | ⟨g, cap, cur, rfl, hb, hg, hnc, hcm, hcs, htake⟩
  · exact Or.inl ⟨List.eq_nil_of_length_eq_zero hx, _, _, rfl⟩
  · by_cases h0 : ns = []
    · subst h0
      exact Or.inl ⟨rfl, _, _, rfl⟩
    · refine Or.inr ⟨h0, g, 0, cap, rfl, hnc, (h.lt g rfl).2, fun j x hx => ?_⟩
      have hj : j < ns.length := (List.getElem?_eq_some_iff.1 hx).1
      rw [Nat.zero_add, h.cellAt j (by omega)]
      simp [cellsT, hx]
theorem infoT : (Try.prog.info? 9).map (fun i => (i.zero, i.size, i.bytes)) = some (some (.string ByteArray.empty), 1, 16) := by kernel_rfl
/-- Texts of the call's own are returned. -/
def OwnTexts (ns : List ByteArray) (w : World) (e : Ending) (w' : World) : Prop := ∃ g c, e = .returned (.slice (some ⟨g, 0, none⟩) ns.length c) ∧ w'.ownsRow w.heap.size 9 1 (.slice (some ⟨g, 0, none⟩) ns.length c) ns.length (cellsT ns) ∧ Below w.heap.size w w'

set_option maxRecDepth 100000 in
set_option maxHeartbeats 2000000 in
theorem spec_options (v : Value) (l : List CN) (w : World) (h : CN.Is w v l) (hs : ∀ r, r ∈ l → CN.Sz r) (hl : l.length ≤ maxLen) :
    Calls Try.prog 36 #[v] w (OwnTexts (optsR l) w) := by
  obtain ⟨i0, hi, hz0, hz1, hz2⟩ := info_parts infoT
  have HC : Hid (∀ W, Below w.heap.size w W → Calls Try.prog 15 #[v] W (BoolRes (condB l) W)) := Lib.hid (fun W hB => spec_isCond v l W (h.below hB) hs hl)
  have HX := Lib.hid h
  obtain ⟨a', c', rfl⟩ := h.slice
  unfold maxLen at hl
  clear h hs
  have HO0 : Hid ((w.alloc (.cells #[] 9)).ownsRow w.heap.size 9 1 (.slice (some ⟨w.heap.size, 0, none⟩) 0 0) 0 (cellsT [])) := Lib.hid (World.ownsRow_lit w #[] 0 (Nat.le_refl _) (Nat.zero_le _) rfl)
  rcases Bool.eq_false_or_eq_true (condB l) with hc | hc
  rotate_left
  · have HR : Hid (optsR l = []) := Lib.hid (by unfold optsR; rw [hc]; rfl)
    rw [hc] at HC
    clear hc
    go_enter Try.func36, Try.ntmps36
    go_wp2_with fail
    go_loopw [3, 4] (fun x i wr => x = .slice (some ⟨w.heap.size, 0, none⟩) 0 0 ∧ i = .int .i64 0 ∧ wr = w.alloc (.cells #[] 9)) (fun _ _ _ => 0)
    case atStart => exact ⟨rfl, rfl, rfl⟩
    case round =>
      obtain ⟨rfl, rfl, rfl⟩ := hrel
      by_cases h0 : 0 < l.length
      · go_wp2_with fail
        refine (HC.out _ ((Below.refl _ _).alloc (Nat.le_refl _) _)).mono ?_
        rintro e w1 ⟨rfl, hb⟩
        have HB := Lib.hid (((Below.refl w.heap.size w).alloc (Nat.le_refl _) (.cells #[] 9)).trans (hb.mono (by simp)))
        have HO := Lib.hid (own_keepL HO0.out hb)
        clear hb
        go_wp2_with fail
        go_ret
        exact ⟨_, _, by rw [HR.out]; rfl, by rw [HR.out]; exact HO.out, HB.out⟩
      · have hl0 : l.length = 0 := by omega
        go_wp2_with fail
        go_ret
        exact ⟨_, _, by rw [HR.out]; rfl, by rw [HR.out]; exact HO0.out, (Below.refl _ _).alloc (Nat.le_refl _) _⟩
  have HR : Hid (optsR l = optsL l) := Lib.hid (by unfold optsR; rw [hc]; rfl)
  have hl30 := (condB_iff.1 hc).1
  rw [hc] at HC
  clear hc
  go_enter Try.func36, Try.ntmps36
  go_wp2_with fail
  go_loopw [3, 4] (fun x i wr => ∃ (k : Nat) (ns : List ByteArray) (g c : Nat), i = .int .i64 k ∧ x = .slice (some ⟨g, 0, none⟩) ns.length c ∧ k ≤ l.length ∧ ns.length ≤ k ∧ Hid (ns = optsL (l.take k)) ∧ Hid (wr.ownsRow w.heap.size 9 1 (.slice (some ⟨g, 0, none⟩) ns.length c) ns.length (cellsT ns)) ∧ Hid (Below w.heap.size w wr)) (fun _ i _ => (l.length - (intOf i).toNat))
  case atStart => exact ⟨0, [], _, _, rfl, rfl, Nat.zero_le _, Nat.zero_le _, Lib.hid rfl, HO0, Lib.hid ((Below.refl _ _).alloc (Nat.le_refl _) _)⟩
  case round =>
    obtain ⟨k, ns, g, c, rfl, rfl, hk, hnk, HN, HO, HB⟩ := hrel
    clear HO0
    by_cases hlt : k < l.length
    rotate_left
    · have HE : Hid (ns = optsL l) := Lib.hid (by rw [HN.out, List.take_of_length_le (by omega)])
      go_wp2_with fail
      go_ret
      exact ⟨g, c, by rw [HR.out, ← HE.out]; rfl, by rw [HR.out, ← HE.out]; exact HO.out, HB.out⟩
    have HT := Lib.hid (optsL_take hlt)
    obtain ⟨b2, o2, c2, hv2, hc2, hcell2⟩ := HX.out.some (by omega)
    simp only [Value.slice.injEq] at hv2
    obtain ⟨rfl, _, rfl⟩ := hv2
    have HCL := Lib.hid hcell2
    clear hcell2 hc2
    go_wp2_with fail
    refine (HC.out _ HB.out).mono ?_
    rintro e w1 ⟨rfl, hb⟩
    have HO1 := Lib.hid (own_keepL HO.out hb)
    have HB1 := Lib.hid (HB.out.trans (hb.mono HB.out.size))
    clear hb HO HB
    obtain ⟨r0, r1, r2⟩ := (HCL.out.below HB1.out).at k hlt
    generalize l[k]'hlt = x at *
    by_cases hk1 : x.kind = 1
    rotate_left
    · have hb1 : (x.kind == 1) = false := beq_eq_false_iff_ne.2 hk1
      have HN2 : Hid (ns = optsL (l.take (k + 1))) := Lib.hid (by rw [HT.out, ← HN.out]; exact (if_neg (fun h => hk1 h.1)).symm)
      clear hk1
      go_wp2_with fail
      go_roundw
      case rel => exact ⟨k + 1, ns, g, c, by go_num, rfl, by omega, by omega, HN2, HO1, HB1⟩
      case measure => simp [intOf]; omega
    rw [hk1] at r0
    go_wp2_with fail
    refine (spec_find _ ns x.opt _ (strs_of_rowT rfl HO1.out) (by omega)).mono ?_
    rintro e w2 ⟨rfl, hb⟩
    have HO2 := Lib.hid (own_keepL HO1.out hb)
    have hB2 := HB1.out.trans (hb.mono HB1.out.size)
    have HB2 := Lib.hid hB2
    obtain ⟨q0, q1, q2⟩ := (show w2.cell? ⟨b2, o2 + k * 3, none⟩ = some (.int .i64 1) ∧ w2.cell? ⟨b2, o2 + k * 3 + 1, none⟩ = some (.string x.opt) ∧ w2.cell? ⟨b2, o2 + k * 3 + 2, none⟩ = some (.string x.vl) from
      ⟨(hb.cell (p := ⟨b2, o2 + k * 3, none⟩) (Nat.lt_of_lt_of_le HCL.out.1 HB1.out.size)).trans r0, (hb.cell (p := ⟨b2, o2 + k * 3 + 1, none⟩) (Nat.lt_of_lt_of_le HCL.out.1 HB1.out.size)).trans r1, (hb.cell (p := ⟨b2, o2 + k * 3 + 2, none⟩) (Nat.lt_of_lt_of_le HCL.out.1 HB1.out.size)).trans r2⟩)
    clear hb r0 r1 r2 hB2 HO1 HB1
    by_cases hin : x.opt ∈ ns
    · have hf : ¬fndI ns x.opt < 0 := fun h => fnd_neg.1 h hin
      have HN2 : Hid (ns = optsL (l.take (k + 1))) := Lib.hid (by rw [HT.out, ← HN.out]; exact (if_neg (fun h => h.2 hin)).symm)
      generalize fndI ns x.opt = f at *
      clear hin hk1
      go_wp2_with fail
      go_roundw
      case rel => exact ⟨k + 1, ns, g, c, by go_num, rfl, by omega, by omega, HN2, HO2, HB2⟩
      case measure => simp [intOf]; omega
    · have hf : fndI ns x.opt < 0 := fnd_neg.2 hin
      have HN2 : Hid (ns ++ [x.opt] = optsL (l.take (k + 1))) := Lib.hid (by rw [HT.out, ← HN.out]; exact (if_pos ⟨hk1, hin⟩).symm)
      generalize fndI ns x.opt = f at *
      clear hin hk1
      have hbs := HB2.out.size
      go_wp2_with (at_builtin; refine wpList_append_own _ rfl _ _ 36 rfl w.heap.size 9 i0 (.string ByteArray.empty) 1 16 Try.underlying36 hi hz0 hz1 hz2 rfl (by decide) _ ns.length (cellsT ns) rfl (HO2.out.alloc _) ⟨w2.heap.size, 0, none⟩ 1 1 [.string x.opt] rfl rfl (newL1 _ _ _) (by intro u hu; simp at hu; subst hu; rfl) (by unfold maxLen; omega) (by omega) (by simp; omega) ?_)
      intro v3 w3 ho hg _
      obtain ⟨g3, c3, rfl⟩ := own_someL ho
      have HO3 : Hid (w3.ownsRow w.heap.size 9 1 (.slice (some ⟨g3, 0, none⟩) (ns.length + 1) c3) (ns.length + 1) (cellsT (ns ++ [x.opt]))) := Lib.hid (by rw [cellsT_snoc]; exact ho)
      have HB3 := Lib.hid ((HB2.out.alloc hbs (.cells #[.string x.opt] 9)).grown hg (by simp; omega) (fun j hj => by cases hj; exact (HO2.out.lt g rfl).1))
      clear ho hg
      go_wp2_with fail
      go_roundw
      case rel => exact ⟨k + 1, ns ++ [x.opt], g3, c3, by go_num, by simp, by omega, by simp; omega, HN2, by simpa using HO3, HB3⟩
      case measure => simp [intOf]; omega
end Go.Proofs.Ytghofgjlmfdnpaa
