/-
  A text drawn from a list.
-/
import Derived.Test.YtfcgdhedaefonaaRows
import Derived.Test.YtfcgdhedaefonaaDraw
import Derived.WalkKit
import Derived.WalkSpells
import Derived.Lib.Hide
namespace Go.Proofs.Ytfcgdhedaefonaa
open Go.RowKit

def TextsAt (w : World) (g : Nat) (N : Nat) : Prop := ∀ j, j < N → ∃ z : ByteArray, z.size ≤ 1000 ∧ w.cell? ⟨g, j, none⟩ = some (.string z)

theorem texts_new (w : World) (T : TypeId) (zs : List ByteArray) (h : ∀ z ∈ zs, z.size ≤ 1000) : TextsAt (w.alloc (.cells (zs.map Value.string).toArray T)) w.heap.size zs.length := by
  intro j hj
  refine ⟨zs[j]'hj, h _ (List.getElem_mem hj), ?_⟩
  rw [cell_of_row _ _ j _ _ _ (heap_new _ _)]
  simp [hj]

/-- What a draw of a text leaves. -/
def DrawsS (B b : Nat) (a : Option Addr) (n c : Nat) (w : World) (e : Ending) (w' : World) : Prop := ∃ x : ByteArray, e = .returned (.string x) ∧ x.size ≤ 1000 ∧ Drawn B b a n c w w'

set_option maxRecDepth 100000 in
set_option maxHeartbeats 400000 in
theorem l1_pick (B b g N : Nat) (a : Option Addr) (n c : Nat) (w : World) (hn : n ≤ 1048576) (hcode : CodeAt B w a n) (hcur : CurAt B w b a n c) (hN0 : 0 < N) (hN1 : N ≤ 256) (hBw : B ≤ w.heap.size) (hgb : g ≠ b) (htexts : TextsAt w g N) :
    Calls Try.prog 72 #[.pointer (some ⟨b, 0, none⟩), .slice (some ⟨g, 0, none⟩) N N] w (DrawsS B b a n c w) := by
  have HI := Lib.hid htexts
  have HG : Hid (g ≠ b) := Lib.hid hgb
  clear htexts hgb
  go_enter Try.func72, Try.ntmps72
  go_wp2_with fail
  refine (l1_below B b a n c N _ hn hcode hcur (by omega) (by omega) hBw).mono ?_
  rintro e w1 ⟨x, rfl, hx0, hx1, hd⟩
  obtain ⟨k, rfl⟩ := Int.eq_ofNat_of_zero_le hx0
  obtain ⟨z, hz0, hz⟩ := HI.out k (by omega)
  have hz2 := hd.grown.cell hz (by intro e; exact HG.out (Option.some.inj e))
  have HD := Lib.hid hd
  clear hd hcur hcode hz
  go_wp2
  go_ret
  exact ⟨z, rfl, hz0, HD.out⟩
end Go.Proofs.Ytfcgdhedaefonaa
