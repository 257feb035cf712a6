/-
  Texts compared for equality, as the machine does it. No program is named here.
-/
import Derived.WalkKit
namespace Go.Proofs.Ytfcgdhedaefonaa

theorem str_ne {x y : ByteArray} (h : x ≠ y) : (x.toList == y.toList) = false := beq_eq_false_iff_ne.2 (fun e => h (by
  rw [ByteArray.toList_eq, ByteArray.toList_eq] at e
  cases x; cases y
  simpa [Array.toList_inj] using e))
theorem str_eq {x y : ByteArray} (h : x = y) : (x.toList == y.toList) = true := by rw [h]; exact beq_self_eq_true _
end Go.Proofs.Ytfcgdhedaefonaa
