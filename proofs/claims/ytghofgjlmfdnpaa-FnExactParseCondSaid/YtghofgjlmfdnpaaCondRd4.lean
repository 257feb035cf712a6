/-
  The program's reader in memory: a chain of operands.
-/
import Derived.Test.YtghofgjlmfdnpaaCondRd3
import Derived.WalkKit
import Derived.WalkSpells
import Derived.WalkSmall
import Derived.BigQuiet
import Derived.Deep.QuietTactic
import Derived.Deep.DeepCutAuto
import Derived.Lib.Hide
namespace Go.Proofs.Ytghofgjlmfdnpaa
open Go.RowKit

/-- A part of the reader reads as S. -/
def RdK (F : FuncId) (S : PS → Option PS) (b : Nat) (dp : Int) : Prop :=
  ∀ (q : ByteArray) (l : List CN) (w : World), RdI b q dp l w → q.size ≤ 1048576 → l.length ≤ 30 → Calls Try.prog F #[.pointer (some ⟨b, 0, none⟩)] w (PRes (S (q, l)) b dp w)
/-- How much is left. -/
def restAt (b : Nat) (w : World) : Nat := match w.cell? ⟨b, 0, none⟩ with
  | some (.string q) => q.size
  | _ => 0
theorem RdI.left {b : Nat} {q : ByteArray} {dp : Int} {l : List CN} {w : World} (h : RdI b q dp l w) : restAt b w = q.size := by
  obtain ⟨a, c, h1, _⟩ := h
  unfold restAt
  rw [cell_of_row w b 0 _ _ _ h1]
  rfl

set_option maxRecDepth 100000 in
set_option maxHeartbeats 2000000 in
theorem rd_chain (F : FuncId) (t : ByteArray) (k : Int) (S : PS → Option PS) (b : Nat) (dp : Int) (ht : 1 ≤ t.size) (hS : Shr S) (hK : RdK F S b dp)
    (hca : ∀ (args : Array Value) (w : World), (callFunc F args).run Try.prog w = .ok (.enter F args) w)
    (q0 : ByteArray) (l0 : List CN) (w : World) (h : RdI b q0 dp l0 w) (hq0 : q0.size ≤ 1048576) (hl0 : l0.length ≤ 30) :
    Calls Try.prog 68 #[.pointer (some ⟨b, 0, none⟩), .func (.func F) #[.pointer (some ⟨b, 0, none⟩)] #[], .string t, .int .i64 k] w (PRes (pChain t ⟨k, eB, eB⟩ S (q0, l0)) b dp w) := by
  have H := Lib.hid h
  have HK := Lib.hid hK
  have HS := Lib.hid hS
  have hbw := h.lt
  clear h hK hS
  have HE : Hid (pChain t ⟨k, eB, eB⟩ S (q0, l0) = (S (q0, l0)).bind (pMore t ⟨k, eB, eB⟩ S)) := Lib.hid rfl
  obtain ⟨o, ho0⟩ : ∃ o, pChain t ⟨k, eB, eB⟩ S (q0, l0) = o := ⟨_, rfl⟩
  rw [ho0] at HE ⊢
  clear ho0
  have HC := Lib.hid (HK.out q0 l0 w H.out hq0 hl0)
  have HSH := Lib.hid (fun r hr => HS.out (q0, l0) r hr hl0)
  obtain ⟨u, hu⟩ : ∃ u, S (q0, l0) = u := ⟨_, rfl⟩
  rw [hu] at HC HE
  simp only [hu] at HSH
  clear hu
  go_enter Try.func68, Try.ntmps68
  go_wp2_with fail
  refine HC.out.mono ?_
  rintro e w1 (⟨r, ho, rfl, hR, hb⟩ | ⟨ho, rfl, hb⟩)
  rotate_left
  · exact ⟨rfl, Or.inr ⟨by rw [HE.out, ho]; rfl, rfl, hb⟩⟩
  subst ho
  have hr1 := (HSH.out r rfl).1
  have hr2 := (HSH.out r rfl).2
  have HR1 := Lib.hid hR
  have HB1 := Lib.hid hb
  have HE1 : Hid (o = pMore t ⟨k, eB, eB⟩ S r) := Lib.hid HE.out
  have hrs : r.1.size ≤ 1048576 := Nat.le_trans hr1 hq0
  clear hR hb H HC HSH HE hr1
  go_wp2_with fail
  go_loopw [] (fun wr => ∃ (q : ByteArray) (l : List CN), q.size ≤ 1048576 ∧ l.length ≤ 30 ∧ Hid (o = pMore t ⟨k, eB, eB⟩ S (q, l)) ∧ Hid (RdI b q dp l wr) ∧ Hid (Below b w wr)) (fun wr => restAt b wr)
  case atStart => exact ⟨r.1, r.2, hrs, hr2, HE1, HR1, HB1⟩
  case round =>
    obtain ⟨q, l, hq, hl, HL, HR, HB⟩ := hrel
    clear HR1 HB1
    have HP := Lib.hid HR.out.left
    go_wp2_with fail
    refine (rd_take b q t dp l _ HR.out).mono ?_
    rintro e w2 ⟨rfl, hr, hb⟩
    obtain ⟨y, hy⟩ : ∃ y, takes q t 0 = y := ⟨_, rfl⟩
    rw [hy] at hr
    rw [hy]
    have HY := Lib.hid hy
    have HB2 := Lib.hid (HB.out.trans hb)
    clear hy hb
    cases y with
    | false =>
      have HE2 : Hid (o = some (q, l)) := Lib.hid (HL.out.trans (more_off HY.out))
      have HR2 : Hid (RdI b q dp l w2) := Lib.hid hr
      clear hr
      go_wp2_with fail
      first | go_end0 | go_ret
      exact Or.inl ⟨_, HE2.out, rfl, HR2.out, HB2.out⟩
    | true =>
      have HR2 : Hid (RdI b (pRest q t) dp l w2) := Lib.hid hr
      have hle := (takes_yes HY.out).1
      have hps := pRest_size q t
      have HE2 : Hid (o = (S (pRest q t, l)).bind (fun r => (pAdd ⟨k, eB, eB⟩ r).bind (pMore t ⟨k, eB, eB⟩ S))) := Lib.hid (HL.out.trans (more_on HS.out ht hl HY.out))
      generalize pRest q t = q2 at *
      have hq2 : q2.size ≤ 1048576 := by omega
      have HC := Lib.hid (HK.out q2 l w2 HR2.out hq2 hl)
      have HSH := Lib.hid (fun r hr => HS.out (q2, l) r hr hl)
      obtain ⟨u, hu⟩ : ∃ u, S (q2, l) = u := ⟨_, rfl⟩
      rw [hu] at HC HE2
      simp only [hu] at HSH
      clear hu hr
      go_wp2_with fail
      refine HC.out.mono ?_
      rintro e w3 (⟨r3, ho, rfl, hR, hb⟩ | ⟨ho, rfl, hb⟩)
      rotate_left
      · exact ⟨rfl, Or.inr ⟨by rw [HE2.out, ho]; rfl, rfl, HB2.out.trans hb⟩⟩
      subst ho
      have hr1 := (HSH.out r3 rfl).1
      have hr2 := (HSH.out r3 rfl).2
      have HR3 := Lib.hid hR
      have HB3 := Lib.hid (HB2.out.trans hb)
      have HE3 : Hid (o = (pAdd ⟨k, eB, eB⟩ r3).bind (pMore t ⟨k, eB, eB⟩ S)) := Lib.hid HE2.out
      clear hR hb HC HSH HE2
      obtain ⟨q3, l3⟩ := r3
      simp only at hr1 hr2
      have HA := Lib.hid (rd_add b q3 dp l3 ⟨k, eB, eB⟩ w3 HR3.out hr2)
      unfold CN.val at HA
      simp only at HA
      go_wp2_with fail
      refine HA.out.mono ?_
      rintro e w4 (⟨r4, ho, rfl, hR, hb⟩ | ⟨ho, rfl, hb⟩)
      rotate_left
      · exact ⟨rfl, Or.inr ⟨by rw [HE3.out, ho]; rfl, rfl, HB3.out.trans hb⟩⟩
      have HB4 := Lib.hid (HB3.out.trans hb)
      have HE4 : Hid (o = pMore t ⟨k, eB, eB⟩ S r4) := Lib.hid (by rw [HE3.out, ho]; rfl)
      obtain ⟨e1, e2, e3⟩ := add_some ho
      have HR4 := Lib.hid hR
      have h41 : r4.1.size ≤ q3.size := by rw [e1]; exact Nat.le_refl _
      have h42 : r4.2.length ≤ 30 := by rw [e2, List.length_append, List.length_singleton]; have e4 : l3.length < 30 := e3; show l3.length + 1 ≤ 30; omega
      have HP4 := Lib.hid HR4.out.left
      clear ho hR hb e1 e2 e3
      go_wp2_with fail
      go_roundw
      case rel => exact ⟨r4.1, r4.2, by omega, h42, HE4, HR4, HB4⟩
      case measure => rw [HP4.out, HP.out]; omega
end Go.Proofs.Ytghofgjlmfdnpaa
