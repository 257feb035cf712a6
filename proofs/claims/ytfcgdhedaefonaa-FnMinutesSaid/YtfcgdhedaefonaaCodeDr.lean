/-
  The draw of a code: l1Code.
-/
import Derived.Test.YtfcgdhedaefonaaRows
import Derived.Test.YtfcgdhedaefonaaDraw
import Derived.Test.YtfcgdhedaefonaaDrawText
import Derived.Test.YtfcgdhedaefonaaDrawOnce
import Derived.Test.YtfcgdhedaefonaaDrawInt
import Derived.Test.YtfcgdhedaefonaaDrawMore
import Derived.Test.YtfcgdhedaefonaaDrawKeep
import Derived.Test.YtfcgdhedaefonaaHold
import Derived.WalkKit
import Derived.WalkSpells
import Derived.WalkSmall
import Derived.BigQuiet
import Derived.Deep.QuietTactic
import Derived.Deep.DeepCutAuto
import Derived.Deep.RegionHeld3
import Derived.Lib.Hide
namespace Go.Proofs.Ytfcgdhedaefonaa
open Go.RowKit

set_option maxRecDepth 100000 in
set_option maxHeartbeats 1000000 in
theorem l1_code (B b : Nat) (a : Option Addr) (n c : Nat) (w : World) (hn : n ≤ 1048576) (hcode : CodeAt B w a n) (hcur : CurAt B w b a n c) (hBw : B ≤ w.heap.size) :
    Calls Try.prog 73 #[.pointer (some ⟨b, 0, none⟩)] w (DrawsS B b a n c w) := by
  have hlt := hcur.lt
  have HC0 := Lib.hid hcode
  have HU0 := Lib.hid hcur
  clear hcode hcur
  go_enter Try.func73, Try.ntmps73
  go_wp2_with fail
  refine (l1_once B b a n c 25 _ hn HC0.out HU0.out (by omega) (by omega) hBw).mono ?_
  rintro e w1 ⟨y, rfl, hd⟩
  have HD := Lib.hid hd
  have hs1 := hd.grown.size
  have HC1 := Lib.hid (HC0.out.below (hd.below hBw))
  clear hd
  cases y with
  | true =>
    have htx : TextsAt (w1.alloc (.cells #[.string { data := #[] }, .string { data := #[112] }, .string { data := #[49, 65] }, .string { data := #[84, 79, 79, 45, 76, 79, 78, 71, 45] }, .string { data := #[65, 32, 66] }] 9)) w1.heap.size 5 := texts_new w1 9 [{ data := #[] }, { data := #[112] }, { data := #[49, 65] }, { data := #[84, 79, 79, 45, 76, 79, 78, 71, 45] }, { data := #[65, 32, 66] }] (by intro z hz; simp only [List.mem_cons, List.mem_nil_iff, or_false] at hz; rcases hz with rfl | rfl | rfl | rfl | rfl <;> exact Nat.le_of_ble_eq_true rfl)
    go_wp2_with fail
    refine (l1_pick B b w1.heap.size 5 a n c _ hn (HC1.out.alloc (by omega) _) (HD.out.cur.alloc _) (by omega) (by omega) (by simp; omega) (by omega) htx).mono ?_
    rintro e w2 ⟨z, rfl, hz, hd⟩
    have HD2 := Lib.hid (HD.out.trans hd.ofAlloc)
    clear hd htx
    go_wp2_with fail
    go_ret
    exact ⟨z, rfl, hz, HD2.out⟩
  | false =>
    have htx : TextsAt (w1.alloc (.cells #[.string { data := #[65] }, .string { data := #[66] }, .string { data := #[67] }, .string { data := #[68] }, .string { data := #[69] }, .string { data := #[70] }] 9)) w1.heap.size 6 := texts_new w1 9 [{ data := #[65] }, { data := #[66] }, { data := #[67] }, { data := #[68] }, { data := #[69] }, { data := #[70] }] (by intro z hz; simp only [List.mem_cons, List.mem_nil_iff, or_false] at hz; rcases hz with rfl | rfl | rfl | rfl | rfl | rfl <;> exact Nat.le_of_ble_eq_true rfl)
    go_wp2_with fail
    refine (l1_pick B b w1.heap.size 6 a n c _ hn (HC1.out.alloc (by omega) _) (HD.out.cur.alloc _) (by omega) (by omega) (by simp; omega) (by omega) htx).mono ?_
    rintro e w2 ⟨z, rfl, hz, hd⟩
    have HD2 := Lib.hid (HD.out.trans hd.ofAlloc)
    clear hd htx
    go_wp2_with fail
    go_ret
    exact ⟨z, rfl, hz, HD2.out⟩
end Go.Proofs.Ytfcgdhedaefonaa
