/-
  The walk of the program's JoinWords.
-/
import Derived.Test.YtccmmpfbiemjiaaDoorRows
import Derived.Test.YtccmmpfbiemjiaaDoorStrs
import Derived.Test.YtccmmpfbiemjiaaDoorJoinLib
import Derived.Test.YtccmmpfbiemjiaaDoorShelf
import Derived.WalkKit
import Derived.WalkSpells
import Derived.Lib.Hide
namespace Go.Proofs.YtccmmpfbiemjiaaDoor
open Go.RowKit

theorem impl_join (v : Value) (ss : List ByteArray) (w : World) (h : Strs w v ss) (hm : ss.length + bytesOf ss ≤ 1048576) :
    Calls Tryd.prog 15 #[v] w fun e w' => e = .returned (.string (joinS ss)) ∧ Below w.heap.size w w' := by
  rcases h with ⟨rfl, a, c, rfl⟩ | ⟨hne, b, o, c, rfl, hc, hcell⟩
  · go_enter Tryd.func15, Tryd.ntmps15
    go_wp2_with fail
    refine (Tryd.strings_Join_none a c _ _).mono ?_
    rintro e w1 ⟨rfl, rfl⟩
    go_wp2
    go_ret
    exact ⟨rfl, Below.refl _ _⟩
  · have hl := joinS_size ss
    rw [← ba_length] at hl
    have hl2 : (Lib.join (ss.map (·.data.toList)) [32]).length ≤ 1048576 := Nat.le_trans hl hm
    have HL := Lib.hid hl2
    clear hl hl2
    go_enter Tryd.func15, Tryd.ntmps15
    go_wp2_with fail
    refine (Tryd.strings_Join b o c ss _ _ hcell.2 hcell.1 (by omega) hc (Nat.le_trans HL.out (by omega))).mono ?_
    rintro e w1 ⟨rfl, hb⟩
    go_wp2
    go_ret
    exact ⟨rfl, hb⟩

end Go.Proofs.YtccmmpfbiemjiaaDoor
