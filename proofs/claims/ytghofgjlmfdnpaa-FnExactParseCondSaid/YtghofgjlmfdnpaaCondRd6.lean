/-
  The program's reader in memory: operands, by depth.
-/
import Derived.Test.YtghofgjlmfdnpaaCondRd5
import Derived.WalkKit
import Derived.WalkSpells
import Derived.WalkSmall
import Derived.BigQuiet
import Derived.Deep.QuietTactic
import Derived.Deep.DeepCutAuto
import Derived.Lib.Hide
namespace Go.Proofs.Ytghofgjlmfdnpaa
open Go.RowKit

set_option maxRecDepth 100000 in
set_option maxHeartbeats 2000000 in
theorem rd_op0 (b : Nat) : RdK 81 (pOp 0) b 30 := by
  intro q l w h hq hl
  have hmf := rd_mf
  have HE : Hid (pOp 0 (q, l) = if takes q tNot 0 = true then none else if takes q tOpen 0 = true then none else pLeaf (q, l)) := Lib.hid rfl
  obtain ⟨o, ho0⟩ : ∃ o, pOp 0 (q, l) = o := ⟨_, rfl⟩
  rw [ho0] at HE ⊢
  have HT := Lib.hid (rd_take b q tNot 30 l w h)
  obtain ⟨y, hy⟩ : ∃ y, takes q tNot 0 = y := ⟨_, rfl⟩
  rw [hy] at HT HE
  clear hy ho0
  cases y with
  | true =>
    go_enter Try.func81, Try.ntmps81
    go_wp2_with fail
    refine HT.out.mono ?_
    rintro e w1 ⟨rfl, hr, hb⟩
    have HD := Lib.hid (fun v => rd_deep v b _ l w1 hr)
    have HB := Lib.hid hb
    clear hr hb
    go_wp2_with fail
    refine (HD.out _).mono ?_
    rintro e w2 (⟨r, ho, rfl, hR, hb⟩ | ⟨ho, rfl, hb⟩)
    · cases ho
    · exact ⟨rfl, Or.inr ⟨HE.out, rfl, HB.out.trans hb⟩⟩
  | false =>
    have HE1 : Hid (o = if takes q tOpen 0 = true then none else pLeaf (q, l)) := Lib.hid HE.out
    obtain ⟨z, hz⟩ : ∃ z, takes q tOpen 0 = z := ⟨_, rfl⟩
    have HZ := Lib.hid hz
    rw [hz] at HE1
    clear hz HE
    go_enter Try.func81, Try.ntmps81
    go_wp2_with fail
    refine HT.out.mono ?_
    rintro e w1 ⟨rfl, hr, hb⟩
    have HR1 : Hid (RdI b q 30 l w1) := Lib.hid hr
    have HB := Lib.hid hb
    clear hr hb
    have HT2 := Lib.hid (rd_take b q tOpen 30 l w1 HR1.out)
    rw [HZ.out] at HT2
    go_wp2_with fail
    refine HT2.out.mono ?_
    rintro e w2 ⟨rfl, hr, hb⟩
    have HB2 := Lib.hid (HB.out.trans hb)
    have HR2 := Lib.hid hr
    clear hr hb HT HT2
    cases z with
    | true =>
      have HD := Lib.hid (fun v => rd_deep v b _ l w2 HR2.out)
      go_wp2_with fail
      refine (HD.out _).mono ?_
      rintro e w3 (⟨r, ho, rfl, hR, hb⟩ | ⟨ho, rfl, hb⟩)
      · cases ho
      · exact ⟨rfl, Or.inr ⟨HE1.out, rfl, HB2.out.trans hb⟩⟩
    | false =>
      have HR3 : Hid (RdI b q 30 l w2) := Lib.hid HR2.out
      have HE2 : Hid (o = pLeaf (q, l)) := Lib.hid HE1.out
      have HL := Lib.hid (rd_leaf b q 30 l w2 HR3.out hq hl)
      clear HE1
      go_wp2_with fail
      refine HL.out.mono ?_
      rintro e w3 (⟨r, ho, rfl, hR, hb⟩ | ⟨ho, rfl, hb⟩)
      · have HO := Lib.hid ho
        have HR4 := Lib.hid hR
        have HB4 := Lib.hid (HB2.out.trans hb)
        clear ho hR hb
        go_wp2_with fail
        first | go_end0 | go_ret
        exact Or.inl ⟨r, HE2.out.trans HO.out, rfl, HR4.out, HB4.out⟩
      · exact ⟨rfl, Or.inr ⟨HE2.out.trans ho, rfl, HB2.out.trans hb⟩⟩

set_option maxRecDepth 100000 in
set_option maxHeartbeats 4000000 in
theorem rd_opn (n : Nat) (b : Nat) (dp : Int) (hd0 : 0 ≤ dp) (hd1 : dp ≤ 29) (hK : RdK 81 (pOp n) b (dp + 1)) : RdK 81 (pOp (n + 1)) b dp := by
  intro q l w h hq hl
  have hmf := rd_mf
  have HI1 := Lib.hid (rd_inside _ (pOp n) b dp hd0 hd1 hK call_op)
  have HI2 := Lib.hid (rd_inside _ (pOr (pOp n)) b dp hd0 hd1 (rd_whole (pOp n) b (dp + 1) (shr_op n) hK) call_or)
  have HE : Hid (pOp (n + 1) (q, l) = if takes q tNot 0 = true then (pOp n (pRest q tNot, l)).bind (pAdd nNot) else if takes q tOpen 0 = true then (pOr (pOp n) (pRest q tOpen, l)).bind pShut else pLeaf (q, l)) := Lib.hid rfl
  clear hK
  obtain ⟨o, ho0⟩ : ∃ o, pOp (n + 1) (q, l) = o := ⟨_, rfl⟩
  rw [ho0] at HE ⊢
  have HT := Lib.hid (rd_take b q tNot dp l w h)
  obtain ⟨y, hy⟩ : ∃ y, takes q tNot 0 = y := ⟨_, rfl⟩
  rw [hy] at HT HE
  clear hy ho0 h
  cases y with
  | true =>
    have HE1 : Hid (o = (pOp n (pRest q tNot, l)).bind (pAdd nNot)) := Lib.hid HE.out
    have HSH := Lib.hid (fun r hr => shr_op n (pRest q tNot, l) r hr hl)
    have hps := pRest_size q tNot
    clear HE
    go_enter Try.func81, Try.ntmps81
    go_wp2_with fail
    refine HT.out.mono ?_
    rintro e w1 ⟨rfl, hr, hb⟩
    have HR1 : Hid (RdI b (pRest q tNot) dp l w1) := Lib.hid hr
    have HB := Lib.hid hb
    clear hr hb HT
    generalize pRest q tNot = q1 at *
    have HC := Lib.hid (HI1.out q1 l w1 HR1.out (by omega) hl)
    generalize pOp n (q1, l) = u at *
    go_wp2_with fail
    refine HC.out.mono ?_
    rintro e w2 (⟨r, ho, rfl, hR, hb⟩ | ⟨ho, rfl, hb⟩)
    rotate_left
    · exact ⟨rfl, Or.inr ⟨by rw [HE1.out, ho]; rfl, rfl, HB.out.trans hb⟩⟩
    have HE2 : Hid (o = pAdd nNot r) := Lib.hid (by rw [HE1.out, ho]; rfl)
    have HR2 := Lib.hid hR
    have HB2 := Lib.hid (HB.out.trans hb)
    have hl2 := (HSH.out r ho).2
    clear ho hR hb HC HE1 HSH
    obtain ⟨q2, l2⟩ := r
    simp only at hl2
    have HA := Lib.hid (rd_add b q2 dp l2 nNot w2 HR2.out hl2)
    unfold CN.val nNot at HA
    simp only at HA
    go_wp2_with fail
    refine HA.out.mono ?_
    rintro e w3 (⟨r, ho, rfl, hR, hb⟩ | ⟨ho, rfl, hb⟩)
    · have HO := Lib.hid ho
      have HR3 := Lib.hid hR
      have HB3 := Lib.hid (HB2.out.trans hb)
      clear ho hR hb
      go_wp2_with fail
      first | go_end0 | go_ret
      exact Or.inl ⟨r, HE2.out.trans HO.out, rfl, HR3.out, HB3.out⟩
    · exact ⟨rfl, Or.inr ⟨HE2.out.trans ho, rfl, HB2.out.trans hb⟩⟩
  | false =>
    have HE1 : Hid (o = if takes q tOpen 0 = true then (pOr (pOp n) (pRest q tOpen, l)).bind pShut else pLeaf (q, l)) := Lib.hid HE.out
    obtain ⟨z, hz⟩ : ∃ z, takes q tOpen 0 = z := ⟨_, rfl⟩
    have HZ := Lib.hid hz
    rw [hz] at HE1
    clear hz HE
    go_enter Try.func81, Try.ntmps81
    go_wp2_with fail
    refine HT.out.mono ?_
    rintro e w1 ⟨rfl, hr, hb⟩
    have HR1 : Hid (RdI b q dp l w1) := Lib.hid hr
    have HB := Lib.hid hb
    clear hr hb
    have HT2 := Lib.hid (rd_take b q tOpen dp l w1 HR1.out)
    rw [HZ.out] at HT2
    go_wp2_with fail
    refine HT2.out.mono ?_
    rintro e w2 ⟨rfl, hr, hb⟩
    have HB2 := Lib.hid (HB.out.trans hb)
    have HR2 := Lib.hid hr
    clear hr hb HT HT2
    cases z with
    | true =>
      have HE2 : Hid (o = (pOr (pOp n) (pRest q tOpen, l)).bind pShut) := Lib.hid HE1.out
      have HR3 : Hid (RdI b (pRest q tOpen) dp l w2) := Lib.hid HR2.out
      have hps := pRest_size q tOpen
      clear HE1
      generalize pRest q tOpen = q1 at *
      have HC := Lib.hid (HI2.out q1 l w2 HR3.out (by omega) hl)
      generalize pOr (pOp n) (q1, l) = u at *
      go_wp2_with fail
      refine HC.out.mono ?_
      rintro e w3 (⟨r, ho, rfl, hR, hb⟩ | ⟨ho, rfl, hb⟩)
      rotate_left
      · exact ⟨rfl, Or.inr ⟨by rw [HE2.out, ho]; rfl, rfl, HB2.out.trans hb⟩⟩
      have HE3 : Hid (o = pShut r) := Lib.hid (by rw [HE2.out, ho]; rfl)
      have HR4 := Lib.hid hR
      have HB4 := Lib.hid (HB2.out.trans hb)
      clear ho hR hb HC HE2
      obtain ⟨q2, l2⟩ := r
      have HE4 : Hid (o = if takes q2 tShut 0 = true then some (pRest q2 tShut, l2) else none) := Lib.hid HE3.out
      have HT3 := Lib.hid (rd_take b q2 tShut dp l2 w3 HR4.out)
      clear HE3
      obtain ⟨y3, hy3⟩ : ∃ y, takes q2 tShut 0 = y := ⟨_, rfl⟩
      rw [hy3] at HT3 HE4
      clear hy3
      go_wp2_with fail
      refine HT3.out.mono ?_
      rintro e w4 ⟨rfl, hr, hb⟩
      have HB5 := Lib.hid (HB4.out.trans hb)
      have HR5 := Lib.hid hr
      clear hr hb
      cases y3 with
      | false =>
        go_wp2_with fail
        refine (rd_nope _ _ _ rfl).mono ?_
        rintro e w6 ⟨rfl, rfl⟩
        exact ⟨rfl, Or.inr ⟨HE4.out, rfl, HB5.out⟩⟩
      | true =>
        go_wp2_with fail
        refine (rd_yes _ _ _ rfl).mono ?_
        rintro e w6 ⟨rfl, rfl⟩
        go_wp2_with fail
        first | go_end0 | go_ret
        exact Or.inl ⟨_, HE4.out, rfl, HR5.out, HB5.out⟩
    | false =>
      have HR3 : Hid (RdI b q dp l w2) := Lib.hid HR2.out
      have HE2 : Hid (o = pLeaf (q, l)) := Lib.hid HE1.out
      have HL := Lib.hid (rd_leaf b q dp l w2 HR3.out hq hl)
      clear HE1
      go_wp2_with fail
      refine HL.out.mono ?_
      rintro e w3 (⟨r, ho, rfl, hR, hb⟩ | ⟨ho, rfl, hb⟩)
      · have HO := Lib.hid ho
        have HR4 := Lib.hid hR
        have HB4 := Lib.hid (HB2.out.trans hb)
        clear ho hR hb
        go_wp2_with fail
        first | go_end0 | go_ret
        exact Or.inl ⟨r, HE2.out.trans HO.out, rfl, HR4.out, HB4.out⟩
      · exact ⟨rfl, Or.inr ⟨HE2.out.trans ho, rfl, HB2.out.trans hb⟩⟩

theorem rd_ops (b : Nat) : ∀ n : Nat, n ≤ 30 → RdK 81 (pOp n) b (30 - (n : Int))
  | 0, _ => rd_op0 b
  | n + 1, h => rd_opn n b (30 - ((n + 1 : Nat) : Int)) (by omega) (by omega) (by
      have e : (30 - ((n + 1 : Nat) : Int)) + 1 = 30 - (n : Int) := by omega
      rw [e]
      exact rd_ops b n (by omega))
theorem rd_all (b : Nat) : RdK 44 (pOr (pOp 30)) b 0 := rd_whole _ b 0 (shr_op 30) (rd_ops b 30 (Nat.le_refl _))
end Go.Proofs.Ytghofgjlmfdnpaa
