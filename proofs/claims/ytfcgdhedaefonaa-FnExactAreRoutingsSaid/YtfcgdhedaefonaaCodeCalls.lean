/-
  The program's IsCode, as a contract that leaves older memory alone.
-/
import Derived.Test.YtfcgdhedaefonaaBoolRes
import Derived.Test.YtfcgdhedaefonaaIsCodeWalkB
namespace Go.Proofs.Ytfcgdhedaefonaa
open Go.RowKit

theorem code_calls (s : ByteArray) (w : World) (hs : s.size ≤ maxLen) : Calls Try.prog 51 #[.string s] w (BoolRes (isCode.codeB s) w) :=
  (isCode.impl_walk s w hs).mono (fun e w' h => by
    obtain ⟨rfl, h⟩ := h
    refine ⟨rfl, ?_⟩
    rcases h with rfl | ⟨pos, rfl⟩
    · exact Below.refl _ _
    · exact (Below.refl _ _).alloc (Nat.le_refl _) _)
end Go.Proofs.Ytfcgdhedaefonaa
