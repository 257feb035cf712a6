/-
 Sizes of what is drawn.
-/
import Derived.Test.YtmnncinpepeocaaGreatBillDraw
import Derived.Test.YtmnncinpepeocaaGreatBLOwn
import Derived.WalkKit
import Derived.Lib.Hide
namespace Go.Proofs.YtmnncinpepeocaaGreat
open Go.RowKit

theorem sz_items {l : List IT} (h : ∀ r, r ∈ l → r.code.size ≤ 1000 ∧ r.unt.size ≤ 1000) : ∀ r, r ∈ l → IT.Sz r := fun r hr => by
 have := h r hr
 unfold IT.Sz maxLen
 omega
theorem sz_lines {ls : List BL} (h : ∀ x, x ∈ ls → BLS x) (hl : ls.length ≤ 9) : BX.Sz ls := by
 refine ⟨by unfold maxLen; omega, fun x hx => ?_⟩
 obtain ⟨h1, h2, h3, h4⟩ := h x hx
 refine ⟨by unfold maxLen; omega, by unfold maxLen; omega, by unfold maxLen; omega, fun r hr => ?_⟩
 have := h4 r hr
 unfold CN.Sz maxLen
 omega
end Go.Proofs.YtmnncinpepeocaaGreat
