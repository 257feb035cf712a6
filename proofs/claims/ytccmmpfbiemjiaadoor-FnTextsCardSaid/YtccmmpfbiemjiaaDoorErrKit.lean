/-
  The two errors of strconv, as the rows of this seat list them.
-/
import Derived.Test.YtccmmpfbiemjiaaDoorRows
import Derived.Test.YtccmmpfbiemjiaaDoorDoorKit
import Derived.WalkKit
import Derived.ProofKit
import Derived.WalkSmall
import Derived.Stop.LaidErr
namespace Go.Proofs.YtccmmpfbiemjiaaDoor
open Go.RowKit

theorem gSyn : Tryd.prog.globalNamed "strconv.ErrSyntax" = some 0 := by kernel_rfl
theorem gSynType : (Tryd.prog.globals[0]?).map (·.type) = some 44 := by kernel_rfl
theorem gRan : Tryd.prog.globalNamed "strconv.ErrRange" = some 1 := by kernel_rfl
theorem gRanType : (Tryd.prog.globals[1]?).map (·.type) = some 44 := by kernel_rfl
theorem cellsErr : Tryd.prog.cellsOf 96 = 1 := by kernel_rfl
theorem cellsStr : Tryd.prog.cellsOf 9 = 1 := by kernel_rfl
theorem errStar : "*" ++ "errors.errorString" = "*errors.errorString" := by decide
theorem errRow (u : TypeId) (h : Tryd.prog.typeName? 3 u = some "*errors.errorString") : u = 94 :=
  typeName_ptr_named (nm := "errors.errorString") (by rw [errStar]; kernel_rfl) (by kernel_rfl) (by decide) u (by rw [errStar]; exact h)

/-- The library's two errors lie in their variables. -/
def Errs (w : World) : Prop := (∃ tp p, w.var? Tryd.prog "strconv.ErrSyntax" = some #[.iface tp p]) ∧ ∃ tq q, w.var? Tryd.prog "strconv.ErrRange" = some #[.iface tq q]

theorem Errs.below {W W' : World} (h : Errs W) (hb : Below W.heap.size W W') : Errs W' := by
  obtain ⟨⟨tp, p, h1⟩, tq, q, h2⟩ := h
  exact ⟨⟨tp, p, var?_below hb gSyn (block_of_var gSyn h1) h1⟩, tq, q, var?_below hb gRan (block_of_var gRan h2) h2⟩

theorem errs_of {W : World} {rest : List (String × DataW Unit)} (h : laidMet Tryd.prog (("strconv.ErrRange", Rows.laid_strconv_ErrRange) :: ("strconv.ErrSyntax", Rows.laid_strconv_ErrSyntax) :: rest) W) : Errs W := by
  obtain ⟨a0, s0, h0, -, -, -⟩ := laid_sentinel h gRan gRanType Tryd.underlying44 errRow Tryd.underlying94 Tryd.underlying96 rfl rfl Tryd.underlying9 cellsErr cellsStr
  obtain ⟨a1, s1, h1, -, -, -⟩ := laid_sentinel h.tail gSyn gSynType Tryd.underlying44 errRow Tryd.underlying94 Tryd.underlying96 rfl rfl Tryd.underlying9 cellsErr cellsStr
  exact ⟨⟨_, _, h1⟩, _, _, h0⟩
end Go.Proofs.YtccmmpfbiemjiaaDoor
