/-
  What the laws on sharing draw: a total and weights.
-/
import Derived.Test.YtgdoahdkidlndaaRows
import Derived.Test.YtgdoahdkidlndaaDraw
import Derived.Test.YtgdoahdkidlndaaDrawOnce
import Derived.Test.YtgdoahdkidlndaaDrawInt
import Derived.Test.YtgdoahdkidlndaaDrawMore
import Derived.Test.YtgdoahdkidlndaaInts
import Derived.Test.YtgdoahdkidlndaaShareDraw
import Derived.Test.YtgdoahdkidlndaaHold
import Derived.WalkKit
import Derived.WalkSpells
import Derived.WalkSmall
import Derived.Lib.Hide
namespace Go.Proofs.Ytgdoahdkidlndaa
open Go.RowKit

/-- A total and weights, drawn. -/
def DrewTW (w : World) (e : Ending) (w' : World) : Prop := ∃ (t : Int) (v : Value) (xs : List Int), e = .returned (.tuple #[.int .i64 t, v]) ∧ -9223372036854775808 ≤ t ∧ t ≤ 9223372036854775807 ∧ xs.length ≤ 8 ∧ Ints w' v xs ∧ Below w.heap.size w w'

set_option maxRecDepth 100000 in
set_option maxHeartbeats 400000 in
theorem draw_app (a : Option Addr) (n c : Nat) (w : World) (hn : n ≤ 1048576) (hcode : CodeAt w.heap.size w a n) :
    Calls Try.prog 11 #[.slice a n c] w (DrewTW w) := by
  have HC := Lib.hid hcode
  clear hcode
  go_enter Try.func11, Try.ntmps11
  go_wp2_with fail
  refine (l1_new a n c _ hn HC.out).mono ?_
  rintro e w1 ⟨b, rfl, hcur, hb1⟩
  have HU := Lib.hid hcur
  have B1 := Lib.hid hb1
  clear hcur hb1
  go_wp2_with fail
  refine (l3_total w.heap.size b a n c _ hn (HC.out.below B1.out) HU.out B1.out.size).mono ?_
  rintro e w2 ⟨t, rfl, ht0, ht1, hd⟩
  have HU2 := Lib.hid hd.cur
  have B2 := Lib.hid (B1.out.trans (hd.below B1.out.size))
  clear hd
  go_wp2_with fail
  refine (l3_weights w.heap.size b a n c _ hn (HC.out.below B2.out) HU2.out B2.out.size).mono ?_
  rintro e w3 ⟨v, xs, rfl, hx, ho, hd⟩
  have B3 := Lib.hid (B2.out.trans (hd.below B2.out.size))
  have HI := Lib.hid (ints_of_row rfl ho)
  clear hd ho
  go_wp2
  go_ret2
  exact ⟨_, _, xs, rfl, ht0, ht1, hx, HI.out, B3.out⟩

set_option maxRecDepth 100000 in
set_option maxHeartbeats 400000 in
theorem draw_lr (a : Option Addr) (n c : Nat) (w : World) (hn : n ≤ 1048576) (hcode : CodeAt w.heap.size w a n) :
    Calls Try.prog 19 #[.slice a n c] w (DrewTW w) := by
  have HC := Lib.hid hcode
  clear hcode
  go_enter Try.func19, Try.ntmps19
  go_wp2_with fail
  refine (l1_new a n c _ hn HC.out).mono ?_
  rintro e w1 ⟨b, rfl, hcur, hb1⟩
  have HU := Lib.hid hcur
  have B1 := Lib.hid hb1
  clear hcur hb1
  go_wp2_with fail
  refine (l3_total w.heap.size b a n c _ hn (HC.out.below B1.out) HU.out B1.out.size).mono ?_
  rintro e w2 ⟨t, rfl, ht0, ht1, hd⟩
  have HU2 := Lib.hid hd.cur
  have B2 := Lib.hid (B1.out.trans (hd.below B1.out.size))
  clear hd
  go_wp2_with fail
  refine (l3_weights w.heap.size b a n c _ hn (HC.out.below B2.out) HU2.out B2.out.size).mono ?_
  rintro e w3 ⟨v, xs, rfl, hx, ho, hd⟩
  have B3 := Lib.hid (B2.out.trans (hd.below B2.out.size))
  have HI := Lib.hid (ints_of_row rfl ho)
  clear hd ho
  go_wp2
  go_ret2
  exact ⟨_, _, xs, rfl, ht0, ht1, hx, HI.out, B3.out⟩

set_option maxRecDepth 100000 in
theorem laws_big (a : Option Addr) (n c : Nat) (w : World) : Calls Try.prog 10 #[.slice a n c] w fun e w' => e = .returned (.bool (decide (1048576 < (n : Int)))) ∧ w' = w := by
  go_enter Try.func10, Try.ntmps10
  go_wp2
  go_ret
  exact ⟨rfl, rfl⟩
end Go.Proofs.Ytgdoahdkidlndaa
