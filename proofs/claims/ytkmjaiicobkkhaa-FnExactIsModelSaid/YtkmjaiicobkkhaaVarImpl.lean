/-
  The program's areDifferentCodes, IsModel, valuesFor.
-/
import Derived.Test.YtkmjaiicobkkhaaVarSpec2
import Derived.Test.YtkmjaiicobkkhaaIsCondI
import Derived.Test.YtkmjaiicobkkhaaHasT
import Derived.WalkKit
import Derived.WalkSpells
import Derived.WalkSmall
import Derived.BigQuiet
import Derived.Deep.QuietTactic
import Derived.Deep.DeepCutAuto
import Derived.Lib.Hide
namespace Go.Proofs.Ytkmjaiicobkkhaa
open Go.RowKit

/-- The first k texts of a slice. -/
theorem TX.take {lo hi : Nat} {w : World} {a : Option Addr} {c : Nat} {l : List ByteArray} (h : TX lo hi w (.slice a l.length c) l) {k : Nat} (hk : k ≤ l.length) : TX lo hi w (.slice a k c) (l.take k) := by
  obtain ⟨a', c', hv, hc, h⟩ := h
  simp only [Value.slice.injEq] at hv
  obtain ⟨rfl, _, rfl⟩ := hv
  have hl : (l.take k).length = k := by rw [List.length_take]; omega
  refine ⟨a, c, by rw [hl], by omega, fun h0 => ?_⟩
  obtain ⟨b, o, rfl, hb, hb2, h⟩ := h (by omega)
  refine ⟨b, o, rfl, hb, hb2, fun j hj => ?_⟩
  obtain ⟨cs, h1, h2, h3⟩ := h j (by omega)
  exact ⟨cs, h1, by rw [List.getElem_take]; exact h2, h3⟩
theorem inB_take {l : List ByteArray} {k : Nat} (hk : k < l.length) : inB (l.take k) (l[k]'hk) = true ↔ ∃ i, ∃ hi : i < k, (l[i]'(Nat.lt_trans hi hk)) = (l[k]'hk) := by
  unfold inB
  rw [decide_eq_true_iff]
  constructor
  · intro h
    obtain ⟨i, hi, e⟩ := List.getElem_of_mem h
    rw [List.length_take] at hi
    refine ⟨i, by omega, ?_⟩
    rw [← e, List.getElem_take]
  · rintro ⟨i, hi, e⟩
    rw [← e]
    exact List.mem_take_iff_getElem.2 ⟨i, by omega, rfl⟩

set_option maxRecDepth 100000 in
set_option maxHeartbeats 2000000 in
theorem im_codes (v : Value) (l : List ByteArray) (lo hi : Nat) (w : World) (h : TX lo hi w v l) (hm : TX.Sm l) (hs : TX.Sz l) :
    Calls Try.prog 76 #[v] w (BoolRes (codesB l) w) := by
  unfold TX.Sm at hm
  have HX := Lib.hid h
  have HS := Lib.hid hs.2
  obtain ⟨a, c, rfl⟩ := h.slice
  have HC := Lib.hid (show l.length ≤ c by obtain ⟨a', c', hv, hc, _⟩ := h; simp only [Value.slice.injEq] at hv; omega)
  clear h hs
  go_enter Try.func76, Try.ntmps76
  go_wp2_with fail
  go_loopw [7] (fun i wr => ∃ k : Nat, k ≤ l.length ∧ i = .int .i64 k ∧ Hid (CodesTo l k) ∧ Hid (Below w.heap.size w wr)) (fun i _ => l.length - (intOf i).toNat)
  case atStart => exact ⟨0, Nat.zero_le _, rfl, Lib.hid (CodesTo.zero l), Lib.hid (Below.refl _ _)⟩
  case round =>
    obtain ⟨k, hk, rfl, HCT, HB⟩ := hrel
    by_cases hlt : k < l.length
    rotate_left
    · have hkl : k = l.length := by omega
      have HY : Hid (codesB l = true) := Lib.hid (codesB_yes (by have := HCT.out; rw [hkl] at this; exact this))
      clear hkl
      go_wp2_with fail
      go_ret
      exact ⟨by rw [HY.out]; rfl, HB.out⟩
    have HLT := Lib.hid hlt
    have HSZ := Lib.hid (HS.out _ (List.getElem_mem hlt))
    have HXK := Lib.hid (HX.out.below TxN.kept HB.out)
    obtain ⟨b2, o2, c2, cs, hv2, hc2, _, _, hr, hcell⟩ := SlN.get HXK.out k hlt
    simp only [Value.slice.injEq] at hv2
    obtain ⟨rfl, _, rfl⟩ := hv2
    have e1 := hcell 0 (by omega)
    obtain rfl : cs = [.string (l[k]'hlt)] := hr
    simp only [List.getElem?_cons_zero, Nat.mul_one, Nat.add_zero] at e1
    clear hcell
    have H1 : Hid (isCode.codeB (l[k]'hlt) = true → inB (l.take k) (l[k]'hlt) = false → CodesTo l (k + 1)) := Lib.hid (fun h1 h2 => HCT.out.succ hlt h1 (fun i hi e => by rw [(inB_take hlt).2 ⟨i, hi, e⟩] at h2; cases h2))
    have H2 : Hid (isCode.codeB (l[k]'hlt) = false → codesB l = false) := Lib.hid (fun h1 => codesB_no (fun h2 => by rw [(h2 k hlt hlt).1] at h1; cases h1))
    have H3 : Hid (inB (l.take k) (l[k]'hlt) = true → codesB l = false) := Lib.hid (fun h1 => codesB_no (fun h2 => by
      obtain ⟨i, hi, e⟩ := (inB_take hlt).1 h1
      exact (h2 k hlt hlt).2 i hi e))
    have HTK : Hid ((l.take k).length = k) := Lib.hid (by rw [List.length_take]; omega)
    have HF := Lib.hid (fun W (hW : Below wr.heap.size wr W) => im_hasT _ (l.take k) (l[k]'hlt) W (TX.strs ((TX.take HXK.out hk).below TxN.kept hW)) (by rw [HTK.out]; omega))
    obtain ⟨x, hx⟩ : ∃ x, l[k]'hlt = x := ⟨_, rfl⟩
    have HXE := Lib.hid hx
    rw [hx] at e1 HSZ HF H1 H2 H3
    obtain ⟨q, hq⟩ : ∃ q, l.take k = q := ⟨_, rfl⟩
    rw [hq] at HF H1 H3
    have hkc : (k : Int) ≤ (c : Int) := by have := HC.out; omega
    clear hx hq
    go_wp2_with fail
    refine (code_calls x _ HSZ.out).mono ?_
    rintro e w2 ⟨rfl, hb⟩
    have HF2 := Lib.hid (HF.out _ hb)
    have HB2 := Lib.hid (HB.out.trans (hb.mono HB.out.size))
    clear hb
    rcases Bool.eq_false_or_eq_true (isCode.codeB x) with hcx | hcx
    rotate_left
    · have HN := Lib.hid (H2.out hcx)
      rw [hcx]
      go_wp2_with fail
      go_ret
      exact ⟨by rw [HN.out]; rfl, HB2.out⟩
    have HCX : Hid (isCode.codeB x = true) := Lib.hid hcx
    rw [hcx]
    clear hcx
    go_wp2_with fail
    refine HF2.out.mono ?_
    rintro e w3 ⟨rfl, hb⟩
    have HB3 := Lib.hid (HB2.out.trans (hb.mono HB2.out.size))
    clear hb
    rcases Bool.eq_false_or_eq_true (inB q x) with hin | hin
    · have HN := Lib.hid (H3.out hin)
      rw [hin]
      clear hin
      go_wp2_with fail
      go_ret
      exact ⟨by rw [HN.out]; rfl, HB3.out⟩
    · have HS1 := Lib.hid (H1.out HCX.out hin)
      rw [hin]
      clear hin
      go_wp2_with fail
      go_roundw
      case rel => exact ⟨k + 1, by have := HLT.out; omega, by go_num, HS1, HB3⟩
      case measure => have := HLT.out; simp [intOf]; omega
end Go.Proofs.Ytkmjaiicobkkhaa
