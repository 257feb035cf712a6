/-
  A drawn bool.
-/
import Derived.Test.YtfcgdhedaefonaaRows
import Derived.Test.YtfcgdhedaefonaaDraw
import Derived.WalkKit
import Derived.WalkSpells
import Derived.Lib.Hide
namespace Go.Proofs.Ytfcgdhedaefonaa
open Go.RowKit

/-- What a draw of a bool leaves. -/
def DrawsB (B b : Nat) (a : Option Addr) (n c : Nat) (w : World) (e : Ending) (w' : World) : Prop := ∃ x : Bool, e = .returned (.bool x) ∧ Drawn B b a n c w w'

theorem l1_once (B b : Nat) (a : Option Addr) (n c : Nat) (m : Int) (w : World) (hn : n ≤ 1048576) (hcode : CodeAt B w a n) (hcur : CurAt B w b a n c) (hm0 : 0 < m) (hm1 : m ≤ 1000000000) (hBw : B ≤ w.heap.size) :
    Calls Try.prog 68 #[.pointer (some ⟨b, 0, none⟩), .int .i64 m] w (DrawsB B b a n c w) := by
  go_enter Try.func68, Try.ntmps68
  go_wp2_with fail
  refine (l1_below B b a n c m _ hn hcode hcur hm0 hm1 hBw).mono ?_
  rintro e w1 ⟨x, rfl, hx0, hx1, hd⟩
  have HD := Lib.hid hd
  clear hd hcur hcode
  go_wp2
  go_ret
  exact ⟨_, rfl, HD.out⟩

end Go.Proofs.Ytfcgdhedaefonaa
