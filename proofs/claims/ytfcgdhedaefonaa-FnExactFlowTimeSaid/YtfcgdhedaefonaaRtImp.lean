/-
  What the program owes: the answers of chapter 12.
-/
import Derived.Test.YtfcgdhedaefonaaRtLib
import Derived.Test.YtfcgdhedaefonaaBoolRes
import Derived.WalkKit
import Derived.WalkSpells
import Derived.WalkSmall
import Derived.Deep.DeepCutAuto
import Derived.Deep.RegionHeld3
import Derived.Lib.Hide
namespace Go.Proofs.Ytfcgdhedaefonaa
open Go.RowKit

def ImplIsStep : Prop := ∀ (x : ST) (w : World), ST.Sz x → Calls Try.prog 24 #[ST.val x] w (BoolRes (stB x) w)
def ImplIsRouting : Prop := ∀ (r : RT) (u : Value) (lo hi : Nat) (w : World), SX lo hi w u r.steps → RT.Sz r → Calls Try.prog 28 #[.agg #[.string r.item, u]] w (BoolRes (rtB r) w)
def ImplAreRoutings : Prop := ∀ (v : Value) (l : List RT) (lo hi : Nat) (w : World), RU lo hi w v l → RU.Sz l → Calls Try.prog 33 #[v] w (BoolRes (rtsB l) w)
def ImplFindRouting : Prop := ∀ (v : Value) (l : List RT) (s : ByteArray) (lo hi : Nat) (w : World), RU lo hi w v l → RU.Sz l → Calls Try.prog 36 #[v, .string s] w (IntR (fiR l s) w)
def ImplStepTime : Prop := ∀ (x : ST) (q : Int) (w : World), ST.Sz x → Calls Try.prog 17 #[ST.val x, .int .i64 q] w (NumR (stO x q) w)
def ImplRoutingTime : Prop := ∀ (r : RT) (u : Value) (q : Int) (lo hi : Nat) (w : World), SX lo hi w u r.steps → RT.Sz r → Calls Try.prog 15 #[.agg #[.string r.item, u], .int .i64 q] w (NumR (rtO r q) w)
def ImplSlowestStep : Prop := ∀ (r : RT) (u : Value) (q : Int) (lo hi : Nat) (w : World), SX lo hi w u r.steps → RT.Sz r → Calls Try.prog 16 #[.agg #[.string r.item, u], .int .i64 q] w (IntR (slowI r q) w)
def ImplFlowTime : Prop := ∀ (r : RT) (u : Value) (q : Int) (lo hi : Nat) (w : World), SX lo hi w u r.steps → RT.Sz r → Calls Try.prog 19 #[.agg #[.string r.item, u], .int .i64 q] w (NumR (flO r q) w)
end Go.Proofs.Ytfcgdhedaefonaa
