/-
  A number drawn from a list: it is one of them.
-/
import Derived.Test.YtfcgdhedaefonaaRows
import Derived.Test.YtfcgdhedaefonaaDraw
import Derived.WalkKit
import Derived.WalkSpells
import Derived.Lib.Hide
namespace Go.Proofs.Ytfcgdhedaefonaa
open Go.RowKit

/-- These numbers lie at block g. -/
def NumsAt (w : World) (g : Nat) (zs : List Int) : Prop := ∀ j (hj : j < zs.length), w.cell? ⟨g, j, none⟩ = some (.int .i64 (zs[j]'hj))
theorem nums_new (w : World) (T : TypeId) (zs : List Int) : NumsAt (w.alloc (.cells (zs.map (Value.int .i64)).toArray T)) w.heap.size zs := by
  intro j hj
  rw [cell_of_row _ _ j _ _ _ (heap_new _ _)]
  simp [hj]
/-- One of them, drawn. -/
def DrawsOf (B b : Nat) (a : Option Addr) (n c : Nat) (zs : List Int) (w : World) (e : Ending) (w' : World) : Prop := ∃ z : Int, e = .returned (.int .i64 z) ∧ z ∈ zs ∧ Drawn B b a n c w w'
set_option maxRecDepth 100000 in
set_option maxHeartbeats 400000 in
theorem l1_pickOf (B b g : Nat) (zs : List Int) (a : Option Addr) (n c : Nat) (w : World) (hn : n ≤ 1048576) (hcode : CodeAt B w a n) (hcur : CurAt B w b a n c) (hN0 : 0 < zs.length) (hN1 : zs.length ≤ 256) (hBw : B ≤ w.heap.size) (hgb : g ≠ b) (hints : NumsAt w g zs) :
    Calls Try.prog 69 #[.pointer (some ⟨b, 0, none⟩), .slice (some ⟨g, 0, none⟩) zs.length zs.length] w (DrawsOf B b a n c zs w) := by
  have HI := Lib.hid hints
  have HG : Hid (g ≠ b) := Lib.hid hgb
  obtain ⟨N, hN⟩ : ∃ N, zs.length = N := ⟨_, rfl⟩
  rw [hN] at hN0 hN1 ⊢
  have HN := Lib.hid hN
  clear hints hgb hN
  go_enter Try.func69, Try.ntmps69
  go_wp2_with fail
  refine (l1_below B b a n c N _ hn hcode hcur (by omega) (by omega) hBw).mono ?_
  rintro e w1 ⟨x, rfl, hx0, hx1, hd⟩
  obtain ⟨k, rfl⟩ := Int.eq_ofNat_of_zero_le hx0
  have hk : k < zs.length := by rw [HN.out]; omega
  have hz := HI.out k hk
  have HM := Lib.hid (List.getElem_mem hk)
  have hz2 := hd.grown.cell hz (by intro e; exact HG.out (Option.some.inj e))
  have HD := Lib.hid hd
  generalize zs[k]'hk = z at *
  clear hd hcur hcode hz hk
  go_wp2
  go_ret
  exact ⟨z, rfl, HM.out, HD.out⟩
end Go.Proofs.Ytfcgdhedaefonaa
