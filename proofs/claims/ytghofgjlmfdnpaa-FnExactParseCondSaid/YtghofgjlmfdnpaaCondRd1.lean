/-
  The program's reader in memory: take, add, require, readLeaf.
-/
import Derived.Test.YtghofgjlmfdnpaaCondPure
import Derived.Test.YtghofgjlmfdnpaaCondLibr
import Derived.Test.YtghofgjlmfdnpaaCondImA
import Derived.Test.YtghofgjlmfdnpaaCondNeg
import Derived.Test.YtghofgjlmfdnpaaCNTo
import Derived.WalkKit
import Derived.WalkSpells
import Derived.WalkSmall
import Derived.Laws.AppendOwn
import Derived.BigQuiet
import Derived.Deep.QuietTactic
import Derived.Deep.DeepCutAuto
import Derived.Deep.RegionLaw
import Derived.Lib.Hide
namespace Go.Proofs.Ytghofgjlmfdnpaa
open Go.RowKit

/-- The reader at block b: the rest, the depth, the nodes in memory of its own. -/
def RdI (b : Nat) (q : ByteArray) (dp : Int) (l : List CN) (w : World) : Prop :=
  ∃ (a : Option Addr) (c : Nat), w.heap[b]? = some (.cells #[.string q, .int .i64 dp, .slice a l.length c] 66 (0, 0)) ∧ w.ownsRow (b + 1) 43 3 (.slice a l.length c) l.length (CN.cells l) ∧ b < w.heap.size
theorem RdI.lt {b : Nat} {q : ByteArray} {dp : Int} {l : List CN} {w : World} (h : RdI b q dp l w) : b < w.heap.size := by
  obtain ⟨_, _, _, _, h⟩ := h
  exact h
theorem RdI.below {b : Nat} {q : ByteArray} {dp : Int} {l : List CN} {w w' : World} (h : RdI b q dp l w) (hb : Below w.heap.size w w') : RdI b q dp l w' := by
  obtain ⟨a, c, h1, h2, h3⟩ := h
  exact ⟨a, c, (hb.block b h3).trans h1, own_keepL h2 hb, Nat.lt_of_lt_of_le h3 hb.size⟩
theorem own_setI {w : World} {base e size n g j : Nat} {v : Value} {xs : List Value} (h : w.ownsRow base e size v n xs) (hg : g < base) (u : Value) : (w.setCell ⟨g, j, none⟩ u).ownsRow base e size v n xs :=
  h.kept (row := some g) ⟨rfl, rfl, rfl, by simp, fun k _ hk => heap_setCell_other w ⟨g, j, none⟩ k u (fun e => hk (by simp [e]))⟩ (by
    cases hv : v.ownBlock with
    | none => exact Or.inl rfl
    | some k => exact Or.inr (fun e => by have := (h.lt k hv).1; cases e; omega))
theorem RdI.rest {b : Nat} {q q' : ByteArray} {dp : Int} {l : List CN} {w : World} (h : RdI b q dp l w) : RdI b q' dp l (w.setCell ⟨b, 0, none⟩ (.string q')) := by
  obtain ⟨a, c, h1, h2, h3⟩ := h
  exact ⟨a, c, heap_setCell_same w b 0 _ _ _ h1, own_setI h2 (by omega) _, by simpa using h3⟩
theorem RdI.deep {b : Nat} {q : ByteArray} {dp dp' x : Int} {l : List CN} {w : World} (h : RdI b q dp l w) (hx : x = dp') : RdI b q dp' l (w.setCell ⟨b, 1, none⟩ (.int .i64 x)) := by
  subst hx
  obtain ⟨a, c, h1, h2, h3⟩ := h
  exact ⟨a, c, heap_setCell_same w b 1 _ _ _ h1, own_setI h2 (by omega) _, by simpa using h3⟩
/-- What the reader panics with. -/
def panV : Value := .iface 9 (.string ⟨#[110, 111, 32, 116, 101, 120, 116, 32, 111, 102, 32, 97, 32, 99, 111, 110, 100, 105, 116, 105, 111, 110]⟩)
/-- A part of the reader ends so. -/
def PRes (o : Option PS) (b : Nat) (dp : Int) (w : World) (e : Ending) (w' : World) : Prop :=
  (∃ r, o = some r ∧ e = .returned (.tuple #[]) ∧ RdI b r.1 dp r.2 w' ∧ Below b w w') ∨ (o = none ∧ e = .panicked [{ v := panV, recovered := false }] ∧ Below b w w')

set_option maxRecDepth 100000 in
set_option maxHeartbeats 1000000 in
theorem rd_require (p : Option Addr) (y : Bool) (w : World) : Calls Try.prog 45 #[.pointer p, .bool y] w fun e w' => e = (if y = true then .returned (.tuple #[]) else .panicked [{ v := panV, recovered := false }]) ∧ w = w' := by
  cases y with
  | true =>
    go_enter Try.func45, Try.ntmps45
    go_wp2_with fail
    first | go_end0 | go_ret
    exact ⟨rfl, rfl⟩
  | false =>
    go_enter Try.func45, Try.ntmps45
    go_wp2_with fail
    exact ⟨rfl, rfl, rfl⟩

set_option maxRecDepth 100000 in
set_option maxHeartbeats 1000000 in
theorem lib_hasPrefix (s p : ByteArray) (w : World) : Calls Try.prog 92 #[.string s, .string p] w fun e w' => e = .returned (.bool (takes s p 0)) ∧ w = w' := by
  by_cases h1 : p.size ≤ s.size
  · have hd : decide ((p.size : Int) ≤ (s.size : Int)) = true := decide_eq_true (by omega)
    by_cases h2 : s.extract 0 p.size = p
    · have HY : Hid (takes s p 0 = true) := Lib.hid (decide_eq_true ⟨by omega, by rw [Nat.zero_add]; exact h2⟩)
      have b2 := str_eq h2
      clear h2
      go_enter Try.func92, Try.ntmps92
      go_wp2_with fail
      go_ret
      exact ⟨by rw [HY.out]; rfl, rfl⟩
    · have HY : Hid (takes s p 0 = false) := Lib.hid (decide_eq_false (fun h => h2 (by have := h.2; rwa [Nat.zero_add] at this)))
      have b2 := str_ne h2
      clear h2
      go_enter Try.func92, Try.ntmps92
      go_wp2_with fail
      go_ret
      exact ⟨by rw [HY.out]; rfl, rfl⟩
  · have hd : decide ((p.size : Int) ≤ (s.size : Int)) = false := decide_eq_false (by omega)
    have HY : Hid (takes s p 0 = false) := Lib.hid (decide_eq_false (fun h => h1 (by omega)))
    go_enter Try.func92, Try.ntmps92
    go_wp2_with fail
    go_ret
    exact ⟨by rw [HY.out]; rfl, rfl⟩

set_option maxRecDepth 100000 in
set_option maxHeartbeats 1000000 in
theorem lib_cutPrefix (s p : ByteArray) (w : World) : Calls Try.prog 85 #[.string s, .string p] w fun e w' => e = .returned (.tuple #[.string (if takes s p 0 = true then pRest s p else s), .bool (takes s p 0)]) ∧ w = w' := by
  have HH := Lib.hid (lib_hasPrefix s p)
  obtain ⟨y, hy⟩ : ∃ y, takes s p 0 = y := ⟨_, rfl⟩
  rw [hy] at HH ⊢
  cases y with
  | true =>
    have hle := (takes_yes hy).1
    rw [Nat.zero_add] at hle
    have hle' : (p.size : Int) ≤ (s.size : Int) := by omega
    have h0 : (0 : Int) ≤ (p.size : Int) := by omega
    clear hy
    go_enter Try.func85, Try.ntmps85
    go_wp2_with (go_at_call 89; go_in)
    refine (HH.out _).mono ?_
    rintro e w1 ⟨rfl, rfl⟩
    go_wp2_with fail
    go_ret2
    exact ⟨rfl, rfl⟩
  | false =>
    clear hy
    go_enter Try.func85, Try.ntmps85
    go_wp2_with (go_at_call 89; go_in)
    refine (HH.out _).mono ?_
    rintro e w1 ⟨rfl, rfl⟩
    go_wp2_with fail
    go_ret2
    exact ⟨rfl, rfl⟩
end Go.Proofs.Ytghofgjlmfdnpaa
