/-
 The draw of a day: l4Day.
-/
import Derived.Test.YtmnncinpepeocaaGreatRows
import Derived.Test.YtmnncinpepeocaaGreatBuDr
import Derived.Test.YtmnncinpepeocaaGreatBuA
import Derived.WalkKit
import Derived.WalkSpells
import Derived.WalkSmall
import Derived.BigQuiet
import Derived.Deep.DeepCutAuto
import Derived.Deep.QuietTactic
import Derived.Deep.RegionHeld3
import Derived.IntWalk
import Derived.Lib.Hide
namespace Go.Proofs.YtmnncinpepeocaaGreat
open Go.RowKit

set_option maxRecDepth 100000 in
set_option maxHeartbeats 400000 in
theorem l4_day (B b : Nat) (a : Option Addr) (n c : Nat) (w : World) (hn : n ≤ 1048576) (hcode : CodeAt B w a n) (hcur : CurAt B w b a n c) (hBw : B ≤ w.heap.size) :
 Calls Tryz.prog 42 #[.pointer (some ⟨b, 0, none⟩)] w (Draws B b a n c (-9223372036854775808) 9223372036854775807 w) := by
 have HC := Lib.hid hcode
 have HU := Lib.hid hcur
 clear hcode hcur
 go_enter Tryz.func42, Tryz.ntmps42
 go_wp2_with fail
 refine (l1_once B b a n c 12 _ hn HC.out HU.out (by omega) (by omega) hBw).mono ?_
 rintro e w1 ⟨x, rfl, hd⟩
 have HD := Lib.hid hd
 have hB1 : B ≤ w1.heap.size := Nat.le_trans hBw hd.grown.size
 have HC1 := Lib.hid (HC.out.below (hd.below hBw))
 have hblt := hd.cur.lt
 clear hd
 cases x
 · go_wp2_with fail
   refine (l1_below B b a n c 40 _ hn HC1.out HD.out.cur (by omega) (by omega) hB1).mono ?_
   rintro e w2 ⟨y, rfl, hy0, hy1, hd⟩
   have HD2 := Lib.hid (HD.out.trans hd)
   clear hd
   go_wp2
   go_ret
   exact ⟨_, rfl, by omega, by omega, HD2.out⟩
 · go_wp2_with fail
   have hints := ints_new w1 3 [-1, 999, 1000, 998, -9223372036854775808, 9223372036854775807] (by intro z hz; simp only [List.mem_cons, List.mem_nil_iff, or_false] at hz; omega)
   refine (l1_pickInt B b w1.heap.size 6 a n c _ hn (HC1.out.alloc hB1 _) (HD.out.cur.alloc _) (by omega) (by omega) (by simp; omega) (by omega) hints).mono ?_
   rintro e w2 ⟨y, rfl, hy0, hy1, hd⟩
   have HD2 := Lib.hid (HD.out.trans hd.ofAlloc)
   clear hd hints
   go_wp2
   go_ret
   exact ⟨_, rfl, hy0, hy1, HD2.out⟩

end Go.Proofs.YtmnncinpepeocaaGreat
