/-
  The model's l7Codes and IsModel.
-/
import Derived.Test.YtkmjaiicobkkhaaRows
import Derived.Test.YtkmjaiicobkkhaaVarLib
import Derived.Test.YtkmjaiicobkkhaaCondSpec
import Derived.Test.YtkmjaiicobkkhaaIsCodeWalkA
import Derived.Test.YtkmjaiicobkkhaaFind
import Derived.Test.YtkmjaiicobkkhaaHold
import Derived.WalkKit
import Derived.WalkSpells
import Derived.WalkSmall
import Derived.BigQuiet
import Derived.Deep.QuietTactic
import Derived.Deep.DeepCutAuto
import Derived.Lib.Hide
namespace Go.Proofs.Ytkmjaiicobkkhaa
open Go.RowKit

/-- What l7Codes answers. -/
noncomputable def codesMostB (l : List ByteArray) (most : Int) : Bool := codesB l && (decide (1 ≤ l.length) && decide ((l.length : Int) ≤ most))

set_option maxRecDepth 100000 in
set_option maxHeartbeats 2000000 in
theorem spec_codes (v : Value) (l : List ByteArray) (lo hi : Nat) (w : World) (h : TX lo hi w v l) (hm : TX.Sm l) (hs : TX.Sz l) :
    Calls Try.prog 55 #[v, .int .i64 4] w (BoolRes (codesMostB l 4) w) := by
  unfold TX.Sm at hm
  have HX := Lib.hid h
  have HS := Lib.hid hs.2
  obtain ⟨a, c, rfl⟩ := h.slice
  clear h hs
  go_enter Try.func55, Try.ntmps55
  go_wp2_with fail
  go_loopw [5] (fun i wr => ∃ k : Nat, k ≤ l.length ∧ i = .int .i64 k ∧ Hid (CodesTo l k) ∧ Hid (Below w.heap.size w wr)) (fun i _ => l.length - (intOf i).toNat)
  case atStart => exact ⟨0, Nat.zero_le _, rfl, Lib.hid (CodesTo.zero l), Lib.hid (Below.refl _ _)⟩
  case round =>
    obtain ⟨k, hk, rfl, HC, HB⟩ := hrel
    by_cases hlt : k < l.length
    rotate_left
    · have HY : Hid (codesMostB l 4 = (decide (1 ≤ l.length) && decide ((l.length : Int) ≤ 4))) := Lib.hid (by
        unfold codesMostB
        have hkl : k = l.length := by omega
        have := HC.out
        rw [hkl] at this
        rw [codesB_yes this]
        rfl)
      by_cases h1 : 1 ≤ l.length
      · have HD : Hid (decide (1 ≤ l.length) = true) := Lib.hid (decide_eq_true h1)
        obtain ⟨y, hy⟩ : ∃ y, decide ((l.length : Int) ≤ 4) = y := ⟨_, rfl⟩
        have HYY := Lib.hid hy
        go_wp2_with fail
        go_ret
        exact ⟨by rw [HY.out, HD.out, HYY.out]; rfl, HB.out⟩
      · have HD : Hid (decide (1 ≤ l.length) = false) := Lib.hid (decide_eq_false h1)
        go_wp2_with fail
        go_ret
        exact ⟨by rw [HY.out, HD.out]; rfl, HB.out⟩
    have HLT := Lib.hid hlt
    have HBAD : Hid (¬CodesOk l → codesMostB l 4 = false) := Lib.hid (fun h => by unfold codesMostB; rw [codesB_no h]; rfl)
    have HSZ := Lib.hid (HS.out _ (List.getElem_mem hlt))
    have HXK := Lib.hid (HX.out.below TxN.kept HB.out)
    obtain ⟨b2, o2, c2, cs, hv2, hc2, _, _, hr, hcell⟩ := HXK.out.get k hlt
    simp only [Value.slice.injEq] at hv2
    obtain ⟨rfl, _, rfl⟩ := hv2
    have e1 := hcell 0 (by omega)
    obtain rfl : cs = [.string (l[k]'hlt)] := hr
    simp only [List.getElem?_cons_zero, Nat.mul_one, Nat.add_zero] at e1
    clear hcell
    have H1 : Hid (isCode.codeB (l[k]'hlt) = true → (∀ i (hi : i < k), (l[i]'(Nat.lt_trans hi hlt)) ≠ (l[k]'hlt)) → CodesTo l (k + 1)) := Lib.hid (fun h1 h2 => HC.out.succ hlt h1 h2)
    have H2 : Hid (isCode.codeB (l[k]'hlt) = false → ¬CodesOk l) := Lib.hid (fun h1 h2 => by rw [(h2 k hlt hlt).1] at h1; cases h1)
    have H3 : Hid ((∀ i (hi : i < k), (l[i]'(Nat.lt_trans hi hlt)) ≠ (l[k]'hlt)) ∧ fndI l (l[k]'hlt) = (k : Int) ∨ ¬CodesOk l ∧ fndI l (l[k]'hlt) ≠ (k : Int)) := Lib.hid (by
      by_cases hd : ∀ i (hi : i < k), (l[i]'(Nat.lt_trans hi hlt)) ≠ (l[k]'hlt)
      · exact Or.inl ⟨hd, fnd_self hlt hd⟩
      · have hd2 : ∃ i, ∃ hi : i < k, (l[i]'(Nat.lt_trans hi hlt)) = (l[k]'hlt) := by
          apply Classical.byContradiction
          intro hn
          exact hd (fun i hi e => hn ⟨i, hi, e⟩)
        obtain ⟨i, hi, e⟩ := hd2
        exact Or.inr ⟨fun hc => (hc k hlt hlt).2 i hi e, fnd_dup hlt hi e⟩)
    have HF := Lib.hid (spec_find _ l (l[k]'hlt) wr (TX.strs HXK.out) (by omega))
    obtain ⟨x, hx⟩ : ∃ x, l[k]'hlt = x := ⟨_, rfl⟩
    have HXE := Lib.hid hx
    rw [hx] at e1 HSZ HF
    clear hx
    go_wp2_with fail
    refine (isCode.spec_walk x _ HSZ.out).mono ?_
    rintro e w2 ⟨rfl, hw2⟩
    obtain rfl := hw2
    rcases Bool.eq_false_or_eq_true (isCode.codeB x) with hcx | hcx
    rotate_left
    · have HN := Lib.hid (HBAD.out (H2.out (by rw [HXE.out]; exact hcx)))
      rw [hcx]
      go_wp2_with fail
      go_ret
      exact ⟨by rw [HN.out]; rfl, HB.out⟩
    have HCX : Hid (isCode.codeB x = true) := Lib.hid hcx
    rw [hcx]
    clear hcx
    go_wp2_with fail
    refine HF.out.mono ?_
    rintro e w3 ⟨rfl, hb⟩
    have HB3 := Lib.hid (HB.out.trans (hb.mono HB.out.size))
    clear hb
    rcases H3.out with ⟨hd, hf⟩ | ⟨hn, hf⟩
    · have HS1 := Lib.hid (H1.out (by rw [HXE.out]; exact HCX.out) hd)
      rw [HXE.out] at hf
      rw [hf]
      have hkk : ((k : Int) != (k : Int)) = false := by simp
      clear hd hf
      go_wp2_with fail
      go_roundw
      case rel => exact ⟨k + 1, by have := HLT.out; omega, by go_num, HS1, HB3⟩
      case measure => have := HLT.out; simp [intOf]; omega
    · have HN := Lib.hid (HBAD.out hn)
      rw [HXE.out] at hf
      have hkk : (fndI l x != (k : Int)) = true := by simpa using hf
      obtain ⟨z, hz⟩ : ∃ z, fndI l x = z := ⟨_, rfl⟩
      rw [hz] at hkk
      rw [hz]
      clear hf hz hn
      go_wp2_with fail
      go_ret
      exact ⟨by rw [HN.out]; rfl, HB3.out⟩
end Go.Proofs.Ytkmjaiicobkkhaa
