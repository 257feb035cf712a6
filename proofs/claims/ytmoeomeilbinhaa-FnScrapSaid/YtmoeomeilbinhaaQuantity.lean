/-
  The draw of a quantity.
-/
import Derived.Test.YtmoeomeilbinhaaDraw
import Derived.Test.YtmoeomeilbinhaaDrawOnce
import Derived.Test.YtmoeomeilbinhaaDrawInt
import Derived.WalkKit
import Derived.WalkSpells
import Derived.WalkSmall
import Derived.BigQuiet
import Derived.Deep.QuietTactic
import Derived.Lib.Hide
namespace Go.Proofs.Ytmoeomeilbinhaa
open Go.RowKit

set_option maxRecDepth 100000 in
set_option maxHeartbeats 1000000 in
theorem l5_quantity (B b : Nat) (a : Option Addr) (n c : Nat) (w : World) (hn : n ≤ 1048576) (hcode : CodeAt B w a n) (hcur : CurAt B w b a n c) (hBw : B ≤ w.heap.size) :
    Calls Try.prog 30 #[.pointer (some ⟨b, 0, none⟩)] w (Draws B b a n c (-9223372036854775808) 9223372036854775807 w) := by
  have HC := Lib.hid hcode
  have HU := Lib.hid hcur
  have hBb := hcur.1
  clear hcode hcur
  go_enter Try.func30, Try.ntmps30
  go_wp2_with fail
  refine (l1_once B b a n c 12 _ hn HC.out HU.out (by omega) (by omega) hBw).mono ?_
  rintro e w1 ⟨x, rfl, hd⟩
  have HD := Lib.hid hd
  have hs := hd.grown.size
  have HC1 := Lib.hid (HC.out.below (hd.below hBw))
  clear hd
  cases x with
  | true =>
    go_wp2_with fail
    refine (l1_odd B b a n c _ hn HC1.out HD.out.cur (by omega)).mono ?_
    rintro e w2 ⟨y, rfl, hy0, hy1, hd⟩
    have HD2 := Lib.hid (HD.out.trans hd)
    clear hd
    go_wp2_with fail
    go_ret
    exact ⟨y, rfl, hy0, hy1, HD2.out⟩
  | false =>
    go_wp2_with fail
    refine (l1_below B b a n c 500 _ hn HC1.out HD.out.cur (by omega) (by omega) (by omega)).mono ?_
    rintro e w2 ⟨y, rfl, hy0, hy1, hd⟩
    have HD2 := Lib.hid (HD.out.trans hd)
    clear hd
    go_wp2_with fail
    go_ret
    exact ⟨y, rfl, by omega, by omega, HD2.out⟩

end Go.Proofs.Ytmoeomeilbinhaa
