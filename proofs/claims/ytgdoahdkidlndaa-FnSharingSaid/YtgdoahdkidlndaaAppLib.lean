/-
  The shares by sums: arithmetic. No program is named here, but a contract said at another number.
-/
import Derived.Test.YtgdoahdkidlndaaRows
import Derived.Test.YtgdoahdkidlndaaShareLib
import Derived.Test.YtgdoahdkidlndaaUpToLib
import Derived.Test.YtgdoahdkidlndaaUpTo
import Derived.Test.YtgdoahdkidlndaaInts
import Derived.WalkKit
import Derived.Lib.Hide
namespace Go.Proofs.Ytgdoahdkidlndaa
open Go.RowKit

/-- The shares by sums. -/
def appL (t : Int) (ws : List Int) : List Int := (List.range ws.length).map fun k => share t ws (k + 1) - share t ws k

theorem appL_length (t : Int) (ws : List Int) : (appL t ws).length = ws.length := by simp [appL]
theorem appL_at {t : Int} {ws : List Int} {k : Nat} (h : k < ws.length) : (appL t ws)[k]? = some (share t ws (k + 1) - share t ws k) := by simp [appL, h]
theorem appL_take {t : Int} {ws : List Int} {k : Nat} (h : k < ws.length) : (appL t ws).take (k + 1) = (appL t ws).take k ++ [share t ws (k + 1) - share t ws k] := by
  rw [List.take_add_one, appL_at h]
  rfl
theorem sumL_app (t : Int) (ws : List Int) (k : Nat) (hk : k ≤ ws.length) : sumL ((appL t ws).take k) = share t ws k := by
  induction k with
  | zero => simp [sumL, share_zero]
  | succ k ih =>
    rw [appL_take (by omega), sumL_append, ih (by omega)]
    simp only [sumL]
    omega
theorem upTo_at (t : Int) (v : Value) (xs : List Int) (k : Nat) (z : Int) (w : World) (hz : z = ((k + 1 : Nat) : Int)) (h : Ints w v xs) (hc : CanS t xs) (hk : k + 1 ≤ xs.length) :
    Calls Try.prog 24 #[.int .i64 t, v, .int .i64 z] w (PairRes (share t xs (k + 1)) true w) := by
  subst hz
  exact spec_upTo_yes t v xs (k + 1) w h hc hk
/-- What is owned is a slice of that length. -/
theorem own_slice {w : World} {base e : Nat} {v : Value} {n : Nat} {xs : List Value} (h : w.ownsRow base e 1 v n xs) : ∃ (a : Option Addr) (c : Nat), v = .slice a n c := by
  have h1 := h.1
  rcases h.2 with ⟨rfl, hx⟩ | ⟨g, cap, cur, rfl, _⟩
  · exact ⟨none, 0, by simp_all⟩
  · exact ⟨_, _, rfl⟩
end Go.Proofs.Ytgdoahdkidlndaa
