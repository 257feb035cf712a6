/-
  The draw of a quantity: l10Quantity.
-/
import Derived.Test.YtfcgdhedaefonaaRows
import Derived.Test.YtfcgdhedaefonaaDraw
import Derived.Test.YtfcgdhedaefonaaDrawOnce
import Derived.Test.YtfcgdhedaefonaaDrawInt
import Derived.Test.YtfcgdhedaefonaaDrawMore
import Derived.Test.YtfcgdhedaefonaaDrawKeep
import Derived.Test.YtfcgdhedaefonaaHold
import Derived.WalkKit
import Derived.WalkSpells
import Derived.WalkSmall
import Derived.BigQuiet
import Derived.Deep.QuietTactic
import Derived.Deep.DeepCutAuto
import Derived.Deep.RegionHeld3
import Derived.Lib.Hide
namespace Go.Proofs.Ytfcgdhedaefonaa
open Go.RowKit

set_option maxRecDepth 100000 in
set_option maxHeartbeats 1000000 in
theorem l10_quantity (B b : Nat) (a : Option Addr) (n c : Nat) (w : World) (hn : n ≤ 1048576) (hcode : CodeAt B w a n) (hcur : CurAt B w b a n c) (hBw : B ≤ w.heap.size) :
    Calls Try.prog 62 #[.pointer (some ⟨b, 0, none⟩)] w (Draws B b a n c (-9223372036854775808) 9223372036854775807 w) := by
  have HC := Lib.hid hcode
  have HU := Lib.hid hcur
  have hBb := hcur.1
  have hlt := hcur.lt
  clear hcode hcur
  go_enter Try.func62, Try.ntmps62
  go_wp2_with fail
  refine (l1_once B b a n c 12 _ hn HC.out HU.out (by omega) (by omega) hBw).mono ?_
  rintro e w1 ⟨x, rfl, hd⟩
  have HD := Lib.hid hd
  have hs := hd.grown.size
  have HC1 := Lib.hid (HC.out.below (hd.below hBw))
  clear hd
  cases x with
  | true =>
    have HX : Hid (w1.heap.size ≠ b) := Lib.hid (by omega)
    have HDA := Lib.hid (HD.out.al hlt (.cells #[.int .i64 (-1), .int .i64 0, .int .i64 100000, .int .i64 100001] 3))
    have HCA := Lib.hid (HC.out.below (HDA.out.below hBw))
    have HIA : Hid (IntsAt (w1.alloc (.cells #[.int .i64 (-1), .int .i64 0, .int .i64 100000, .int .i64 100001] 3)) w1.heap.size 4) := Lib.hid (fun j hj => by
      match j, hj with
      | 0, _ => exact ⟨-1, by omega, by omega, cell_of_row _ _ 0 _ _ _ (heap_alloc_new _ _)⟩
      | 1, _ => exact ⟨0, by omega, by omega, cell_of_row _ _ 1 _ _ _ (heap_alloc_new _ _)⟩
      | 2, _ => exact ⟨100000, by omega, by omega, cell_of_row _ _ 2 _ _ _ (heap_alloc_new _ _)⟩
      | 3, _ => exact ⟨100001, by omega, by omega, cell_of_row _ _ 3 _ _ _ (heap_alloc_new _ _)⟩)
    go_wp2_with fail
    refine (l1_pickInt B b w1.heap.size 4 a n c _ hn HCA.out HDA.out.cur (by omega) (by omega) (by simp; omega) HX.out HIA.out).mono ?_
    rintro e w2 ⟨y, rfl, hy0, hy1, hd⟩
    have HD2 := Lib.hid (HDA.out.trans hd)
    clear hd
    go_wp2_with fail
    go_ret
    exact ⟨y, rfl, hy0, hy1, HD2.out⟩
  | false =>
    go_wp2_with fail
    refine (l1_below B b a n c 20 _ hn HC1.out HD.out.cur (by omega) (by omega) (by omega)).mono ?_
    rintro e w2 ⟨y, rfl, hy0, hy1, hd⟩
    have HD2 := Lib.hid (HD.out.trans hd)
    clear hd
    go_wp2_with fail
    go_ret
    exact ⟨1 + y, by go_num, by omega, by omega, HD2.out⟩
end Go.Proofs.Ytfcgdhedaefonaa
