/-
  The program's reader in memory: operands, to the whole.
-/
import Derived.Test.YtghofgjlmfdnpaaCondRd4
import Derived.WalkKit
import Derived.WalkSpells
import Derived.WalkSmall
import Derived.BigQuiet
import Derived.Deep.QuietTactic
import Derived.Deep.DeepCutAuto
import Derived.Lib.Hide
namespace Go.Proofs.Ytghofgjlmfdnpaa
open Go.RowKit

theorem rd_mf : ∀ (fn : Fn) (first cap : Array Value) (w : World), (Instr.makeFunc fn first cap).run Try.prog w = .ok (.func fn first cap) w := fun _ _ _ _ => rfl
theorem call_op (args : Array Value) (w : World) : (callFunc 81 args).run Try.prog w = .ok (.enter 81 args) w := by kernel_rfl
theorem call_and (args : Array Value) (w : World) : (callFunc 69 args).run Try.prog w = .ok (.enter 69 args) w := by kernel_rfl
theorem call_or (args : Array Value) (w : World) : (callFunc 44 args).run Try.prog w = .ok (.enter 44 args) w := by kernel_rfl

set_option maxRecDepth 100000 in
set_option maxHeartbeats 1000000 in
theorem rd_and (S : PS → Option PS) (b : Nat) (dp : Int) (hS : Shr S) (hK : RdK 81 S b dp) : RdK 69 (pChain tAnd nAnd S) b dp := by
  intro q l w h hq hl
  have HC := Lib.hid (rd_chain _ tAnd 3 S b dp (by decide) hS hK call_op q l w h hq hl)
  have hmf := rd_mf
  clear h hK
  have HE : Hid (pChain tAnd nAnd S (q, l) = pChain tAnd ⟨3, eB, eB⟩ S (q, l)) := Lib.hid rfl
  rw [HE.out]
  clear HE
  go_enter Try.func69, Try.ntmps69
  go_wp2_with fail
  refine HC.out.mono ?_
  rintro e w1 (⟨r, ho, rfl, hR, hb⟩ | ⟨ho, rfl, hb⟩)
  · have HO := Lib.hid ho
    have HR := Lib.hid hR
    have HB := Lib.hid hb
    clear ho hR hb
    go_wp2_with fail
    first | go_end0 | go_ret
    exact Or.inl ⟨r, HO.out, rfl, HR.out, HB.out⟩
  · exact ⟨rfl, Or.inr ⟨ho, rfl, hb⟩⟩

set_option maxRecDepth 100000 in
set_option maxHeartbeats 1000000 in
theorem rd_or (S : PS → Option PS) (b : Nat) (dp : Int) (hS : Shr S) (hK : RdK 69 S b dp) : RdK 44 (pChain tOr nOr S) b dp := by
  intro q l w h hq hl
  have HC := Lib.hid (rd_chain _ tOr 4 S b dp (by decide) hS hK call_and q l w h hq hl)
  have hmf := rd_mf
  clear h hK
  have HE : Hid (pChain tOr nOr S (q, l) = pChain tOr ⟨4, eB, eB⟩ S (q, l)) := Lib.hid rfl
  rw [HE.out]
  clear HE
  go_enter Try.func44, Try.ntmps44
  go_wp2_with fail
  refine HC.out.mono ?_
  rintro e w1 (⟨r, ho, rfl, hR, hb⟩ | ⟨ho, rfl, hb⟩)
  · have HO := Lib.hid ho
    have HR := Lib.hid hR
    have HB := Lib.hid hb
    clear ho hR hb
    go_wp2_with fail
    first | go_end0 | go_ret
    exact Or.inl ⟨r, HO.out, rfl, HR.out, HB.out⟩
  · exact ⟨rfl, Or.inr ⟨ho, rfl, hb⟩⟩
theorem rd_whole (S : PS → Option PS) (b : Nat) (dp : Int) (hS : Shr S) (hK : RdK 81 S b dp) : RdK 44 (pOr S) b dp :=
  rd_or _ b dp (shr_chain hS) (rd_and S b dp hS hK)

set_option maxRecDepth 100000 in
set_option maxHeartbeats 1000000 in
theorem rd_inside (F : FuncId) (S : PS → Option PS) (b : Nat) (dp : Int) (hd0 : 0 ≤ dp) (hd1 : dp ≤ 29) (hK : RdK F S b (dp + 1))
    (hca : ∀ (args : Array Value) (w : World), (callFunc F args).run Try.prog w = .ok (.enter F args) w)
    (q : ByteArray) (l : List CN) (w : World) (h : RdI b q dp l w) (hq : q.size ≤ 1048576) (hl : l.length ≤ 30) :
    Calls Try.prog 86 #[.pointer (some ⟨b, 0, none⟩), .func (.func F) #[.pointer (some ⟨b, 0, none⟩)] #[]] w (PRes (S (q, l)) b dp w) := by
  obtain ⟨a, c, HG, _, hbw⟩ := id h
  have g1 := cell_of_row _ _ 1 _ _ _ HG
  have f1 := frozen_of_row _ _ 1 _ _ HG
  have HR1 := Lib.hid (h.deep (x := dp + 1) (dp' := dp + 1) rfl)
  have HB1 := Lib.hid ((Below.refl b w).setCell (p := ⟨b, 1, none⟩) (Nat.le_refl _) (.int .i64 (dp + 1)))
  have HC := Lib.hid (hK q l _ HR1.out hq hl)
  obtain ⟨o, ho0⟩ : ∃ o, S (q, l) = o := ⟨_, rfl⟩
  rw [ho0] at HC ⊢
  clear h hK ho0
  go_enter Try.func86, Try.ntmps86
  go_wp2_with fail
  refine (rd_yes _ _ _ (decide_eq_true (by omega))).mono ?_
  rintro e w1 ⟨rfl, rfl⟩
  go_wp2_with fail
  refine HC.out.mono ?_
  rintro e w1 (⟨r, ho, rfl, hR, hb⟩ | ⟨ho, rfl, hb⟩)
  rotate_left
  · exact ⟨rfl, Or.inr ⟨ho, rfl, HB1.out.trans hb⟩⟩
  have HO := Lib.hid ho
  have HR := Lib.hid hR
  have HB := Lib.hid (HB1.out.trans hb)
  clear HR1 HB1 g1 f1 HG ho hb HC
  obtain ⟨a, c, HG, _, hbw⟩ := id hR
  have g1 := cell_of_row _ _ 1 _ _ _ HG
  have f1 := frozen_of_row _ _ 1 _ _ HG
  have HR1 := Lib.hid (hR.deep (x := dp) (dp' := dp) rfl)
  have HB1 := Lib.hid (HB.out.setCell (p := ⟨b, 1, none⟩) (Nat.le_refl _) (.int .i64 dp))
  clear hR
  go_wp2_with fail
  first | go_end0 | go_ret
  exact Or.inl ⟨r, HO.out, rfl, HR1.out, HB1.out⟩

set_option maxRecDepth 100000 in
set_option maxHeartbeats 1000000 in
theorem rd_deep (v : Value) (b : Nat) (q : ByteArray) (l : List CN) (w : World) (h : RdI b q 30 l w) :
    Calls Try.prog 86 #[.pointer (some ⟨b, 0, none⟩), v] w (PRes none b 30 w) := by
  obtain ⟨a, c, HG, _, hbw⟩ := id h
  have g1 := cell_of_row _ _ 1 _ _ _ HG
  have f1 := frozen_of_row _ _ 1 _ _ HG
  have HB1 := Lib.hid ((Below.refl b w).setCell (p := ⟨b, 1, none⟩) (Nat.le_refl _) (.int .i64 31))
  clear h
  go_enter Try.func86, Try.ntmps86
  go_wp2_with fail
  refine (rd_nope _ _ _ rfl).mono ?_
  rintro e w1 ⟨rfl, rfl⟩
  exact ⟨rfl, Or.inr ⟨rfl, rfl, HB1.out⟩⟩
end Go.Proofs.Ytghofgjlmfdnpaa
