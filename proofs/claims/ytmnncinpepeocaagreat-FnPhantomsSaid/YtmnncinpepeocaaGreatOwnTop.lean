/-
 Lines of the call's own: as a slice, up to any top.
-/
import Derived.Test.YtmnncinpepeocaaGreatBLOwn
import Derived.WalkKit
import Derived.Lib.Hide
namespace Go.Proofs.YtmnncinpepeocaaGreat
open Go.RowKit

theorem BX.Own.slice {base top : Nat} {w : World} {v : Value} {xs : List BL} (h : BX.Own base top w v xs) : ∃ (a : Option Addr) (c : Nat), v = .slice a xs.length c := h.sl.slice
theorem BX.Own.topw {base top top' : Nat} {w : World} {v : Value} {xs : List BL} (h : BX.Own base top w v xs) (ht : top ≤ top') : BX.Own base top' w v xs := by
 obtain ⟨rs, a, b⟩ := h; exact ⟨rs, a, b.top ht⟩
end Go.Proofs.YtmnncinpepeocaaGreat
