/-
  A number drawn from a list.
-/
import Derived.Test.YtfcgdhedaefonaaRows
import Derived.Test.YtfcgdhedaefonaaDraw
import Derived.WalkKit
import Derived.WalkSpells
import Derived.Lib.Hide
namespace Go.Proofs.Ytfcgdhedaefonaa
open Go.RowKit

/-- The numbers of a list that a draw picks from: its cells at block g. -/
def IntsAt (w : World) (g : Nat) (N : Nat) : Prop := ∀ j, j < N → ∃ z : Int, -9223372036854775808 ≤ z ∧ z ≤ 9223372036854775807 ∧ w.cell? ⟨g, j, none⟩ = some (.int .i64 z)
/-- The cells of a list of numbers that has just been laid. -/
theorem ints_new (w : World) (T : TypeId) (zs : List Int) (h : ∀ z ∈ zs, -9223372036854775808 ≤ z ∧ z ≤ 9223372036854775807) : IntsAt (w.alloc (.cells (zs.map (Value.int .i64)).toArray T)) w.heap.size zs.length := by
  intro j hj
  refine ⟨zs[j]'hj, (h _ (List.getElem_mem hj)).1, (h _ (List.getElem_mem hj)).2, ?_⟩
  rw [cell_of_row _ _ j _ _ _ (heap_new _ _)]
  simp [hj]
set_option maxRecDepth 100000 in
set_option maxHeartbeats 400000 in
theorem l1_pickInt (B b g N : Nat) (a : Option Addr) (n c : Nat) (w : World) (hn : n ≤ 1048576) (hcode : CodeAt B w a n) (hcur : CurAt B w b a n c) (hN0 : 0 < N) (hN1 : N ≤ 256) (hBw : B ≤ w.heap.size) (hgb : g ≠ b) (hints : IntsAt w g N) :
    Calls Try.prog 69 #[.pointer (some ⟨b, 0, none⟩), .slice (some ⟨g, 0, none⟩) N N] w (Draws B b a n c (-9223372036854775808) 9223372036854775807 w) := by
  have HI := Lib.hid hints
  have HG : Hid (g ≠ b) := Lib.hid hgb
  clear hints hgb
  go_enter Try.func69, Try.ntmps69
  go_wp2_with fail
  refine (l1_below B b a n c N _ hn hcode hcur (by omega) (by omega) hBw).mono ?_
  rintro e w1 ⟨x, rfl, hx0, hx1, hd⟩
  obtain ⟨k, rfl⟩ := Int.eq_ofNat_of_zero_le hx0
  obtain ⟨z, hz0, hz1, hz⟩ := HI.out k (by omega)
  have hz2 := hd.grown.cell hz (by intro e; exact HG.out (Option.some.inj e))
  have HD := Lib.hid hd
  clear hd hcur hcode hz
  go_wp2
  go_ret
  exact ⟨z, rfl, hz0, hz1, HD.out⟩

end Go.Proofs.Ytfcgdhedaefonaa
