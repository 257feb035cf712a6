/-
  Slices of texts and of nodes within a span of blocks: copies, equality, size.
-/
import Derived.Test.YtkmjaiicobkkhaaRows
import Derived.Test.YtkmjaiicobkkhaaNest
import Derived.Test.YtkmjaiicobkkhaaStrsTo
import Derived.Test.YtkmjaiicobkkhaaStrsEq
import Derived.Test.YtkmjaiicobkkhaaStrsSz
import Derived.Test.YtkmjaiicobkkhaaCNTo
import Derived.Test.YtkmjaiicobkkhaaCNEq
import Derived.Test.YtkmjaiicobkkhaaCNKit
import Derived.Test.YtkmjaiicobkkhaaHold
import Derived.Test.YtkmjaiicobkkhaaHoldN
import Derived.WalkKit
import Derived.WalkSpells
import Derived.WalkSmall
import Derived.BigQuiet
import Derived.Deep.QuietTactic
import Derived.Lib.Hide
namespace Go.Proofs.Ytkmjaiicobkkhaa
open Go.RowKit

def TX.Sm (xs : List ByteArray) : Prop := xs.length ≤ 1048576
def TX.Sz (xs : List ByteArray) : Prop := xs.length ≤ maxLen ∧ ∀ s, s ∈ xs → s.size ≤ maxLen
def CX.Sm (xs : List CN) : Prop := xs.length ≤ 1048576
def CX.Sz (xs : List CN) : Prop := xs.length ≤ maxLen ∧ ∀ s, s ∈ xs → CN.Sz s
/-- A size is returned. -/
def SzRes (p : Prop) (w : World) (e : Ending) (w' : World) : Prop := ∃ r : Int, e = .returned (.int .i64 r) ∧ -1 ≤ r ∧ r ≤ 1048576 ∧ (0 ≤ r → p) ∧ Below w.heap.size w w'
/-- A copy within the call's own span is returned. -/
def CpRes {α : Type} (S : Nat → Nat → World → Value → List α → Prop) (xs : List α) (w : World) (e : Ending) (w' : World) : Prop := ∃ v, e = .returned v ∧ S w.heap.size w'.heap.size w' v xs ∧ Below w.heap.size w w'
/-- True is returned. -/
def YesRes (w : World) (e : Ending) (w' : World) : Prop := e = .returned (.bool true) ∧ Below w.heap.size w w'

set_option maxRecDepth 100000 in
set_option maxHeartbeats 1000000 in
theorem TX.to (v : Value) (xs : List ByteArray) (lo hi : Nat) (w : World) (_ : hi ≤ w.heap.size) (h : TX lo hi w v xs) (hm : TX.Sm xs) : Calls Try.prog 116 #[v] w (CpRes TX xs w) := by
  obtain ⟨i0, hi, hz0, hz1, hz2⟩ := info_parts infoS
  unfold TX.Sm at hm
  have HX := Lib.hid h
  obtain ⟨a, c, rfl⟩ := h.slice
  clear h
  go_enter Try.func116, Try.ntmps116
  go_wp2_with (at_make; refine wpList_make_full _ rfl _ _ 39 rfl w.heap.size 9 i0 (.string ⟨#[]⟩) 1 Try.underlying39 hi hz0 hz1 _ _ _ _ xs.length rfl rfl rfl rfl (by rw [hz2]; omega) (by unfold maxLen; omega) (Nat.le_refl _) ?_)
  intro w0 hown0 hgrow0
  have hb0 : Below w.heap.size w w0 := (Below.refl _ _).grown hgrow0 (Nat.le_refl _) (fun k h => by cases h)
  have hown1 := PartN.start TxN hown0
  clear hown0
  go_wp2
  go_loopw [4] (fun i wr => ∃ k : Nat, k ≤ xs.length ∧ i = .int .i64 k ∧ PartN 1 TxN 9 w.heap.size xs.length xs k wr ∧ Below w.heap.size w wr) (fun i _ => xs.length - (intOf i).toNat)
  case atStart => exact ⟨0, Nat.zero_le _, rfl, hown1, hb0⟩
  case round =>
    obtain ⟨k, hk, rfl, hown, hb⟩ := hrel
    have HO := Lib.hid hown
    clear hown hown1
    by_cases hlt : k < xs.length
    · obtain ⟨b2, o2, c2, cs, hv2, hc2, hb2, hl, hr, hcell⟩ := (HX.out.below TxN.kept hb).get k hlt
      simp only [Value.slice.injEq] at hv2
      obtain ⟨rfl, _, rfl⟩ := hv2
      obtain rfl : cs = [.string (xs[k]'hlt)] := hr
      have e1 := hcell 0 (by omega)
      rw [Nat.mul_one, Nat.add_zero] at e1
      have HN := Lib.hid (((HO.out.next hlt (cs := [.string (xs[k]'hlt)]) rfl hlt rfl).set TxN.kept (j := 0) rfl).all rfl)
      obtain ⟨⟨u0, hu0⟩, fz0⟩ := HO.out.cell k (by omega)
      clear hcell
      rw [Nat.mul_one, Nat.add_zero] at HN
      generalize xs[k]'hlt = x at *
      simp only [List.getElem?_cons_zero] at e1
      go_wp2_with fail
      go_roundw
      case rel => exact ⟨k + 1, by omega, by go_num, HN.out, hb.setCell (Nat.le_refl _) _⟩
      case measure => simp [intOf]; omega
    · have HE := Lib.hid (HO.out.done TxN.kept (by omega))
      go_wp2
      go_ret
      exact ⟨_, rfl, HE.out, hb⟩
theorem TX.eq (v v' : Value) (xs : List ByteArray) (lo hi lo' hi' : Nat) (w : World) (h : TX lo hi w v xs) (h' : TX lo' hi' w v' xs) (hm : TX.Sm xs) : Calls Try.prog 47 #[v, v'] w (YesRes w) :=
  eq_strs v v' xs w h.strs h'.strs (by unfold TX.Sm at hm; omega)
theorem TX.sz (v : Value) (xs : List ByteArray) (left : Int) (lo hi : Nat) (w : World) (h : TX lo hi w v xs) (h0 : 0 ≤ left) (h1 : left ≤ 1048576) (hz : TX.Sz xs) : Calls Try.prog 114 #[v, .int .i64 left] w (SzRes (TX.Sm xs) w) :=
  (sz_strs v xs left w h.strs h0 h1 hz.1 hz.2).mono fun _ _ ⟨r, h2, h3, h4, h5, h6⟩ => ⟨r, h2, h3, h4, fun h => by have := h5 h; unfold TX.Sm; omega, h6 ▸ Below.refl _ _⟩
theorem CX.to (v : Value) (xs : List CN) (lo hi : Nat) (w : World) (_ : hi ≤ w.heap.size) (h : CX lo hi w v xs) (hm : CX.Sm xs) : Calls Try.prog 102 #[v] w (CpRes CX xs w) :=
  (CN.to_all v xs w h.is hm).mono fun _ _ ⟨v, h1, h2, h3⟩ => ⟨v, h1, CX.of_row h2, h3⟩
theorem CX.eq (v v' : Value) (xs : List CN) (lo hi lo' hi' : Nat) (w : World) (h : CX lo hi w v xs) (h' : CX lo' hi' w v' xs) (hm : CX.Sm xs) : Calls Try.prog 106 #[v, v'] w (YesRes w) :=
  CN.eq_all v v' xs w h.is h'.is (by unfold CX.Sm at hm; omega)
theorem CX.sz (v : Value) (xs : List CN) (left : Int) (lo hi : Nat) (w : World) (h : CX lo hi w v xs) (h0 : 0 ≤ left) (h1 : left ≤ 1048576) (hz : CX.Sz xs) : Calls Try.prog 100 #[v, .int .i64 left] w (SzRes (CX.Sm xs) w) :=
  (CN.sz_all v xs left w h.is h0 h1 hz.1 hz.2).mono fun _ _ ⟨r, h2, h3, h4, h5, h6⟩ => ⟨r, h2, h3, h4, fun h => by have := h5 h; unfold CX.Sm; omega, h6⟩
section
open Go.ChangeShapes Go.WideShapes Go.ChangeAt Go.Joins
theorem TX.opened {H : Type} {enc : TypeId × Value → H} {W : World} {fuel : Nat} {v : Value} {y : DataW H × List MemPlace} (hf : DataW.trod enc Try.prog W 0 (fun _ => true) true fuel 39 [v] = some y) :
    ∃ xs : List ByteArray, TX 0 W.heap.size W v xs ∧ TX.Sz xs := by
  refine slN_open (Q := fun s : ByteArray => s.size ≤ maxLen) Try.underlying39 (by kernel_rfl) (by decide) (fun n cs z h hl => ?_) hf
  match cs, hl with
  | [v0], _ =>
    obtain ⟨s1, e1, _, z1⟩ := DataW.trod_string Try.underlying9 h
    simp at e1
    exact ⟨s1, by rw [e1]; rfl, z1⟩
theorem CX.opened {H : Type} {enc : TypeId × Value → H} {W : World} {fuel : Nat} {v : Value} {y : DataW H × List MemPlace} (hf : DataW.trod enc Try.prog W 0 (fun _ => true) true fuel 119 [v] = some y) :
    ∃ xs : List CN, CX 0 W.heap.size W v xs ∧ CX.Sz xs := by
  refine slN_open (Q := CN.Sz) Try.underlying119 CN.cellsOf (by decide) (fun n cs z h _ => ?_) hf
  obtain ⟨r, rfl, hz⟩ := CN.opened h
  exact ⟨r, rfl, hz⟩
end
end Go.Proofs.Ytkmjaiicobkkhaa
