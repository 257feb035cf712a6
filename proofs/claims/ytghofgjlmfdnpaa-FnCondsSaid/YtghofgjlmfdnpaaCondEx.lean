/-
  The walks of the exact laws on conditions, where the program's functions keep their contracts.
-/
import Derived.Test.YtghofgjlmfdnpaaRows
import Derived.Test.YtghofgjlmfdnpaaRecLib
import Derived.Test.YtghofgjlmfdnpaaCNTo
import Derived.Test.YtghofgjlmfdnpaaCNEq
import Derived.Test.YtghofgjlmfdnpaaCNMark
import Derived.Test.YtghofgjlmfdnpaaPKTo
import Derived.Test.YtghofgjlmfdnpaaPKEq
import Derived.Test.YtghofgjlmfdnpaaCondSpec
import Derived.Test.YtghofgjlmfdnpaaCondHolds
import Derived.Test.YtghofgjlmfdnpaaCondFmt
import Derived.Test.YtghofgjlmfdnpaaCondNeg
import Derived.Test.YtghofgjlmfdnpaaCondOpts
import Derived.Test.YtghofgjlmfdnpaaStrsEq
import Derived.Test.YtghofgjlmfdnpaaMarks
import Derived.Test.YtghofgjlmfdnpaaHold
import Derived.WalkKit
import Derived.WalkSpells
import Derived.WalkSmall
import Derived.Lib.Hide
namespace Go.Proofs.Ytghofgjlmfdnpaa
open Go.RowKit

/-- Nodes of the call's own are returned, and whether there are any. -/
def NodesAny (r : List CN × Bool) (w : World) (e : Ending) (w' : World) : Prop := ∃ v, e = .returned (.tuple #[v, .bool r.2]) ∧ w'.ownsRow w.heap.size 43 3 v r.1.length (CN.cells r.1) ∧ Below w.heap.size w w'
theorem NodesRes.any {r : List CN × Bool} {w : World} {e : Ending} {w' : World} (h : NodesRes r w e w') : NodesAny r w e w' := by
  obtain ⟨g, c, h1, h2, h3⟩ := h
  exact ⟨_, h1, h2, h3⟩
/-- Texts of the call's own are returned. -/
def TextsAny (ns : List ByteArray) (w : World) (e : Ending) (w' : World) : Prop := ∃ v, e = .returned v ∧ w'.ownsRow w.heap.size 9 1 v ns.length (cellsT ns) ∧ Below w.heap.size w w'
theorem OwnTexts.any {r : List ByteArray} {w : World} {e : Ending} {w' : World} (h : OwnTexts r w e w') : TextsAny r w e w' := by
  obtain ⟨g, c, h1, h2, h3⟩ := h
  exact ⟨_, h1, h2, h3⟩
/-- The program's IsCond answers as the model. -/
def ImplIsCond : Prop := ∀ (v : Value) (l : List CN) (w : World), CN.Is w v l → (∀ r, r ∈ l → CN.Sz r) → l.length ≤ maxLen → Calls Try.prog 26 #[v] w (BoolRes (condB l) w)
/-- The program's Holds answers as the model. -/
def ImplHolds : Prop := ∀ (v v2 : Value) (l : List CN) (ps : List PK) (w : World), CN.Is w v l → (∀ r, r ∈ l → CN.Sz r) → l.length ≤ maxLen → PK.Is w v2 ps → (∀ r, r ∈ ps → PK.Sz r) → ps.length ≤ maxLen → Calls Try.prog 23 #[v, v2] w (BoolRes (holdsB l ps) w)
/-- The program's FormatCond answers as the model. -/
def ImplFormatCond : Prop := ∀ (v : Value) (l : List CN) (w : World), CN.Is w v l → (∀ r, r ∈ l → CN.Sz r) → l.length ≤ maxLen → Calls Try.prog 13 #[v] w (TextRes (fmtB l) w)
/-- The program's NegateCond answers as the model, in memory of its own. -/
def ImplNegateCond : Prop := ∀ (v : Value) (l : List CN) (w : World), CN.Is w v l → (∀ r, r ∈ l → CN.Sz r) → l.length ≤ maxLen → Calls Try.prog 19 #[v] w (NodesAny (negR l) w)
/-- The program's OptionsIn answers as the model, in memory of its own. -/
def ImplOptionsIn : Prop := ∀ (v : Value) (l : List CN) (w : World), CN.Is w v l → (∀ r, r ∈ l → CN.Sz r) → l.length ≤ maxLen → Calls Try.prog 21 #[v] w (TextsAny (optsR l) w)
theorem len_max {n : Nat} (h : n ≤ 1048576) : n ≤ maxLen := by unfold maxLen; omega
theorem negR_len (l : List CN) : (negR l).1.length ≤ 30 := by
  unfold negR
  split
  · split
    · rename_i h; exact h.2
    · simp
  · simp
theorem optsL_len (l : List CN) : ∀ out : List ByteArray, (l.foldl addO out).length ≤ out.length + l.length := by
  induction l with
  | nil => intro out; simp
  | cons x l ih =>
    intro out
    have h1 := ih (addO out x)
    have h2 := addO_len out x
    simp only [List.foldl_cons, List.length_cons]
    omega
theorem optsR_len (l : List CN) : (optsR l).length ≤ 30 := by
  unfold optsR
  split
  · rename_i h
    have h1 := (condB_iff.1 h).1
    have h2 := optsL_len l []
    simp only [List.length_nil] at h2
    show (l.foldl addO []).length ≤ 30
    omega
  · simp
theorem markT1 (base : Nat) (v : Value) (x : Int) (n : Nat) (xs : List Value) (w : World) (hx : x = 1) (hown : w.ownsRow base 9 1 v n xs) (hn : n ≤ 1048577) :
    Calls Try.prog 38 #[v, .int .i64 x] w (Marked base v 1 n w) := by
  subst hx
  exact mark_strs base v 1 n xs w hown hn (by decide) (by decide)
theorem heldT1 (base : Nat) (v : Value) (x : Int) (n : Nat) (w : World) (hx : x = 1) (hown : w.ownsRow base 9 1 v n (marksFrom 1 n)) (hn : n ≤ 1048577) :
    Calls Try.prog 39 #[v, .int .i64 x] w fun e w' => e = .returned (.int .i64 ((1 + n : Nat) : Int)) ∧ Below w.heap.size w w' := by
  subst hx
  exact held_strs base v 1 n w hown hn (by decide) (by decide)

set_option maxRecDepth 100000 in
set_option maxHeartbeats 4000000 in
theorem ex_IsCond (IM : ImplIsCond) (v : Value) (xs : List CN) (w : World) (h : CN.Is w v xs) (hm : xs.length ≤ maxLen) (hs : ∀ r, r ∈ xs → CN.Sz r) :
    Calls Try.prog 5 #[v] w fun e w' => e = .returned (.bool true) ∧ Below w.heap.size w w' := by
  have HI := Lib.hid IM
  clear IM
  have HX := Lib.hid h
  have HS := Lib.hid hs
  have HSZ := Lib.hid (CN.sz_all v xs 1048576 w h (by omega) (by omega) hm hs)
  obtain ⟨a1, c1, rfl⟩ := h.slice
  clear h hs hm
  go_enter Try.func5, Try.ntmps5
  go_wp2_with fail
  refine (HSZ.out).mono ?_
  rintro e w1 ⟨z, rfl, hz0, hz1, hz2, hb⟩
  have HZ2 := Lib.hid hz2
  clear hz2
  have B_1 := Lib.hid ((Lib.hid (Below.refl w.heap.size w)).out.trans (hb.mono (Lib.hid (Below.refl w.heap.size w)).out.size))
  have hs_1 := hb.size
  have hsw_1 := hs_1
  clear hb
  by_cases hzn : z < 0
  · go_wp2_with fail
    go_ret
    exact ⟨rfl, B_1.out⟩
  have hlen : xs.length ≤ 1048576 := by have := HZ2.out (by omega); omega
  have HL := Lib.hid hlen
  clear HZ2 HSZ
  obtain ⟨y, hy⟩ : ∃ y, condB xs = y := ⟨_, rfl⟩
  have HY := Lib.hid hy
  clear hy
  have hnn : (y != y) = false := by simp
  go_wp2_with fail
  refine (CN.to_all _ xs _ (HX.out.below B_1.out) HL.out).mono ?_
  rintro e w2 ⟨vA, rfl, ho, hb⟩
  have B_2 := Lib.hid (B_1.out.trans (hb.mono B_1.out.size))
  clear B_1
  have hs_2 := hb.size
  have OA_2 := Lib.hid ho
  have LA : Hid (∀ k, vA.ownBlock = some k → w1.heap.size ≤ k ∧ k < w2.heap.size) := Lib.hid (OA_2.out.lt)
  clear hb
  clear ho
  go_wp2_with fail
  refine (spec_isCond _ xs _ (CN.is_of_row OA_2.out) HS.out (len_max HL.out)).mono ?_
  rintro e w3 ⟨rfl, hb⟩
  rw [HY.out]
  have OA_3 := Lib.hid (own_keepL OA_2.out hb)
  clear OA_2
  have B_3 := Lib.hid (B_2.out.trans (hb.mono B_2.out.size))
  clear B_2
  have hs_3 := hb.size
  clear hb
  go_wp2_with fail
  refine (CN.to_all _ xs _ (HX.out.below B_3.out) HL.out).mono ?_
  rintro e w4 ⟨vX, rfl, ho, hb⟩
  have OA_4 := Lib.hid (own_keepL OA_3.out hb)
  clear OA_3
  have B_4 := Lib.hid (B_3.out.trans (hb.mono B_3.out.size))
  clear B_3
  have hs_4 := hb.size
  have OX_4 := Lib.hid ho
  have LX : Hid (∀ k, vX.ownBlock = some k → w3.heap.size ≤ k ∧ k < w4.heap.size) := Lib.hid (OX_4.out.lt)
  clear hb
  clear ho
  go_wp2_with fail
  refine (HI.out _ xs _ (CN.is_of_row OX_4.out) HS.out (len_max HL.out)).mono ?_
  rintro e w5 ⟨rfl, hb⟩
  rw [HY.out]
  have OA_5 := Lib.hid (own_keepL OA_4.out hb)
  clear OA_4
  have OX_5 := Lib.hid (own_keepL OX_4.out hb)
  clear OX_4
  have B_5 := Lib.hid (B_4.out.trans (hb.mono B_4.out.size))
  clear B_4
  have hs_5 := hb.size
  clear hb
  go_wp2_with fail
  refine (CN.to_all _ xs _ (HX.out.below B_5.out) HL.out).mono ?_
  rintro e w6 ⟨vC, rfl, ho, hb⟩
  have OA_6 := Lib.hid (own_keepL OA_5.out hb)
  clear OA_5
  have OX_6 := Lib.hid (own_keepL OX_5.out hb)
  clear OX_5
  have B_6 := Lib.hid (B_5.out.trans (hb.mono B_5.out.size))
  clear B_5
  have hs_6 := hb.size
  have OC_6 := Lib.hid ho
  have LC : Hid (∀ k, vC.ownBlock = some k → w5.heap.size ≤ k ∧ k < w6.heap.size) := Lib.hid (OC_6.out.lt)
  clear hb
  clear ho
  go_wp2_with fail
  refine (CN.eq_all _ _ xs _ (CN.is_of_row OX_6.out) (CN.is_of_row OC_6.out) (by have := HL.out; omega)).mono ?_
  rintro e w7 ⟨rfl, hb⟩
  have OA_7 := Lib.hid (own_keepL OA_6.out hb)
  clear OA_6
  have OX_7 := Lib.hid (own_keepL OX_6.out hb)
  clear OX_6
  have OC_7 := Lib.hid (own_keepL OC_6.out hb)
  clear OC_6
  have B_7 := Lib.hid (B_6.out.trans (hb.mono B_6.out.size))
  clear B_6
  have hs_7 := hb.size
  clear hb
  go_wp2_with fail
  go_ret
  exact ⟨rfl, B_7.out⟩

set_option maxRecDepth 100000 in
set_option maxHeartbeats 4000000 in
theorem ex_FormatCond (IM : ImplFormatCond) (v : Value) (xs : List CN) (w : World) (h : CN.Is w v xs) (hm : xs.length ≤ maxLen) (hs : ∀ r, r ∈ xs → CN.Sz r) :
    Calls Try.prog 7 #[v] w fun e w' => e = .returned (.bool true) ∧ Below w.heap.size w w' := by
  have HI := Lib.hid IM
  clear IM
  have HX := Lib.hid h
  have HS := Lib.hid hs
  have HSZ := Lib.hid (CN.sz_all v xs 1048576 w h (by omega) (by omega) hm hs)
  obtain ⟨a1, c1, rfl⟩ := h.slice
  clear h hs hm
  go_enter Try.func7, Try.ntmps7
  go_wp2_with fail
  refine (HSZ.out).mono ?_
  rintro e w1 ⟨z, rfl, hz0, hz1, hz2, hb⟩
  have HZ2 := Lib.hid hz2
  clear hz2
  have B_1 := Lib.hid ((Lib.hid (Below.refl w.heap.size w)).out.trans (hb.mono (Lib.hid (Below.refl w.heap.size w)).out.size))
  have hs_1 := hb.size
  have hsw_1 := hs_1
  clear hb
  by_cases hzn : z < 0
  · go_wp2_with fail
    go_ret
    exact ⟨rfl, B_1.out⟩
  have hlen : xs.length ≤ 1048576 := by have := HZ2.out (by omega); omega
  have HL := Lib.hid hlen
  clear HZ2 HSZ
  obtain ⟨y, hy⟩ : ∃ y, fmtB xs = y := ⟨_, rfl⟩
  have HY := Lib.hid hy
  clear hy
  have hnn := str_eq (rfl : y = y)
  go_wp2_with fail
  refine (CN.to_all _ xs _ (HX.out.below B_1.out) HL.out).mono ?_
  rintro e w2 ⟨vA, rfl, ho, hb⟩
  have B_2 := Lib.hid (B_1.out.trans (hb.mono B_1.out.size))
  clear B_1
  have hs_2 := hb.size
  have OA_2 := Lib.hid ho
  have LA : Hid (∀ k, vA.ownBlock = some k → w1.heap.size ≤ k ∧ k < w2.heap.size) := Lib.hid (OA_2.out.lt)
  clear hb
  clear ho
  go_wp2_with fail
  refine (spec_formatCond _ xs _ (CN.is_of_row OA_2.out) HS.out (len_max HL.out)).mono ?_
  rintro e w3 ⟨rfl, hb⟩
  rw [HY.out]
  have OA_3 := Lib.hid (own_keepL OA_2.out hb)
  clear OA_2
  have B_3 := Lib.hid (B_2.out.trans (hb.mono B_2.out.size))
  clear B_2
  have hs_3 := hb.size
  clear hb
  go_wp2_with fail
  refine (CN.to_all _ xs _ (HX.out.below B_3.out) HL.out).mono ?_
  rintro e w4 ⟨vX, rfl, ho, hb⟩
  have OA_4 := Lib.hid (own_keepL OA_3.out hb)
  clear OA_3
  have B_4 := Lib.hid (B_3.out.trans (hb.mono B_3.out.size))
  clear B_3
  have hs_4 := hb.size
  have OX_4 := Lib.hid ho
  have LX : Hid (∀ k, vX.ownBlock = some k → w3.heap.size ≤ k ∧ k < w4.heap.size) := Lib.hid (OX_4.out.lt)
  clear hb
  clear ho
  go_wp2_with fail
  refine (HI.out _ xs _ (CN.is_of_row OX_4.out) HS.out (len_max HL.out)).mono ?_
  rintro e w5 ⟨rfl, hb⟩
  rw [HY.out]
  have OA_5 := Lib.hid (own_keepL OA_4.out hb)
  clear OA_4
  have OX_5 := Lib.hid (own_keepL OX_4.out hb)
  clear OX_4
  have B_5 := Lib.hid (B_4.out.trans (hb.mono B_4.out.size))
  clear B_4
  have hs_5 := hb.size
  clear hb
  go_wp2_with fail
  refine (CN.to_all _ xs _ (HX.out.below B_5.out) HL.out).mono ?_
  rintro e w6 ⟨vC, rfl, ho, hb⟩
  have OA_6 := Lib.hid (own_keepL OA_5.out hb)
  clear OA_5
  have OX_6 := Lib.hid (own_keepL OX_5.out hb)
  clear OX_5
  have B_6 := Lib.hid (B_5.out.trans (hb.mono B_5.out.size))
  clear B_5
  have hs_6 := hb.size
  have OC_6 := Lib.hid ho
  have LC : Hid (∀ k, vC.ownBlock = some k → w5.heap.size ≤ k ∧ k < w6.heap.size) := Lib.hid (OC_6.out.lt)
  clear hb
  clear ho
  go_wp2_with fail
  refine (CN.eq_all _ _ xs _ (CN.is_of_row OX_6.out) (CN.is_of_row OC_6.out) (by have := HL.out; omega)).mono ?_
  rintro e w7 ⟨rfl, hb⟩
  have OA_7 := Lib.hid (own_keepL OA_6.out hb)
  clear OA_6
  have OX_7 := Lib.hid (own_keepL OX_6.out hb)
  clear OX_6
  have OC_7 := Lib.hid (own_keepL OC_6.out hb)
  clear OC_6
  have B_7 := Lib.hid (B_6.out.trans (hb.mono B_6.out.size))
  clear B_6
  have hs_7 := hb.size
  clear hb
  go_wp2_with fail
  go_ret
  exact ⟨rfl, B_7.out⟩

set_option maxRecDepth 100000 in
set_option maxHeartbeats 4000000 in
theorem ex_Holds (IM : ImplHolds) (v : Value) (xs : List CN) (v2 : Value) (ps : List PK) (w : World) (h : CN.Is w v xs) (hm : xs.length ≤ maxLen) (hs : ∀ r, r ∈ xs → CN.Sz r) (h2 : PK.Is w v2 ps) (hm2 : ps.length ≤ maxLen) (hs2 : ∀ r, r ∈ ps → PK.Sz r) :
    Calls Try.prog 6 #[v, v2] w fun e w' => e = .returned (.bool true) ∧ Below w.heap.size w w' := by
  have HI := Lib.hid IM
  clear IM
  have HX := Lib.hid h
  have HS := Lib.hid hs
  have HSZ := Lib.hid (CN.sz_all v xs 1048576 w h (by omega) (by omega) hm hs)
  obtain ⟨a1, c1, rfl⟩ := h.slice
  have HY := Lib.hid h2
  have HS2 := Lib.hid hs2
  have HM2 := Lib.hid hm2
  obtain ⟨a2, c2, rfl⟩ := h2.slice
  clear h2 hs2 hm2
  clear h hs hm
  go_enter Try.func6, Try.ntmps6
  go_wp2_with fail
  refine (HSZ.out).mono ?_
  rintro e w1 ⟨z, rfl, hz0, hz1, hz2, hb⟩
  have HZ2 := Lib.hid hz2
  clear hz2
  have B_1 := Lib.hid ((Lib.hid (Below.refl w.heap.size w)).out.trans (hb.mono (Lib.hid (Below.refl w.heap.size w)).out.size))
  have hs_1 := hb.size
  have hsw_1 := hs_1
  clear hb
  by_cases hzn : z < 0
  · go_wp2_with fail
    go_ret
    exact ⟨rfl, B_1.out⟩
  have hlen : xs.length ≤ 1048576 := by have := HZ2.out (by omega); omega
  have HL := Lib.hid hlen
  clear HZ2 HSZ
  go_wp2_with fail
  refine (PK.sz_all _ ps z _ (HY.out.below B_1.out) (by omega) (by omega) HM2.out HS2.out).mono ?_
  rintro e w2 ⟨z2, rfl, hy0, hy1, hy2, hb⟩
  have HZ3 := Lib.hid hy2
  clear hy2
  have B_2 := Lib.hid (B_1.out.trans (hb.mono B_1.out.size))
  clear B_1
  have hs_2 := hb.size
  clear hb
  by_cases hzm : z2 < 0
  · go_wp2_with fail
    go_ret
    exact ⟨rfl, B_2.out⟩
  have hlen2 : ps.length ≤ 1048576 := by have := HZ3.out (by omega); omega
  have HL2 := Lib.hid hlen2
  clear HZ3
  obtain ⟨y, hy⟩ : ∃ y, holdsB xs ps = y := ⟨_, rfl⟩
  have HYY := Lib.hid hy
  clear hy
  have hnn : (y != y) = false := by simp
  go_wp2_with fail
  refine (CN.to_all _ xs _ (HX.out.below B_2.out) HL.out).mono ?_
  rintro e w3 ⟨vA, rfl, ho, hb⟩
  have B_3 := Lib.hid (B_2.out.trans (hb.mono B_2.out.size))
  clear B_2
  have hs_3 := hb.size
  have OA_3 := Lib.hid ho
  have LA : Hid (∀ k, vA.ownBlock = some k → w2.heap.size ≤ k ∧ k < w3.heap.size) := Lib.hid (OA_3.out.lt)
  clear hb
  clear ho
  go_wp2_with fail
  refine (PK.to_all _ ps _ (HY.out.below B_3.out) HL2.out).mono ?_
  rintro e w4 ⟨vB, rfl, ho, hb⟩
  have OA_4 := Lib.hid (own_keepL OA_3.out hb)
  clear OA_3
  have B_4 := Lib.hid (B_3.out.trans (hb.mono B_3.out.size))
  clear B_3
  have hs_4 := hb.size
  have OB_4 := Lib.hid ho
  have LB : Hid (∀ k, vB.ownBlock = some k → w3.heap.size ≤ k ∧ k < w4.heap.size) := Lib.hid (OB_4.out.lt)
  clear hb
  clear ho
  go_wp2_with fail
  refine (spec_holds _ _ xs ps _ (CN.is_of_row OA_4.out) HS.out (len_max HL.out) (PK.is_of_row OB_4.out) (len_max HL2.out)).mono ?_
  rintro e w5 ⟨rfl, hb⟩
  rw [HYY.out]
  have OA_5 := Lib.hid (own_keepL OA_4.out hb)
  clear OA_4
  have OB_5 := Lib.hid (own_keepL OB_4.out hb)
  clear OB_4
  have B_5 := Lib.hid (B_4.out.trans (hb.mono B_4.out.size))
  clear B_4
  have hs_5 := hb.size
  clear hb
  go_wp2_with fail
  refine (CN.to_all _ xs _ (HX.out.below B_5.out) HL.out).mono ?_
  rintro e w6 ⟨vX, rfl, ho, hb⟩
  have OA_6 := Lib.hid (own_keepL OA_5.out hb)
  clear OA_5
  have OB_6 := Lib.hid (own_keepL OB_5.out hb)
  clear OB_5
  have B_6 := Lib.hid (B_5.out.trans (hb.mono B_5.out.size))
  clear B_5
  have hs_6 := hb.size
  have OX_6 := Lib.hid ho
  have LX : Hid (∀ k, vX.ownBlock = some k → w5.heap.size ≤ k ∧ k < w6.heap.size) := Lib.hid (OX_6.out.lt)
  clear hb
  clear ho
  go_wp2_with fail
  refine (PK.to_all _ ps _ (HY.out.below B_6.out) HL2.out).mono ?_
  rintro e w7 ⟨vY, rfl, ho, hb⟩
  have OA_7 := Lib.hid (own_keepL OA_6.out hb)
  clear OA_6
  have OB_7 := Lib.hid (own_keepL OB_6.out hb)
  clear OB_6
  have OX_7 := Lib.hid (own_keepL OX_6.out hb)
  clear OX_6
  have B_7 := Lib.hid (B_6.out.trans (hb.mono B_6.out.size))
  clear B_6
  have hs_7 := hb.size
  have OY_7 := Lib.hid ho
  have LY : Hid (∀ k, vY.ownBlock = some k → w6.heap.size ≤ k ∧ k < w7.heap.size) := Lib.hid (OY_7.out.lt)
  clear hb
  clear ho
  go_wp2_with fail
  refine (HI.out _ _ xs ps _ (CN.is_of_row OX_7.out) HS.out (len_max HL.out) (PK.is_of_row OY_7.out) HS2.out (len_max HL2.out)).mono ?_
  rintro e w8 ⟨rfl, hb⟩
  rw [HYY.out]
  have OA_8 := Lib.hid (own_keepL OA_7.out hb)
  clear OA_7
  have OB_8 := Lib.hid (own_keepL OB_7.out hb)
  clear OB_7
  have OX_8 := Lib.hid (own_keepL OX_7.out hb)
  clear OX_7
  have OY_8 := Lib.hid (own_keepL OY_7.out hb)
  clear OY_7
  have B_8 := Lib.hid (B_7.out.trans (hb.mono B_7.out.size))
  clear B_7
  have hs_8 := hb.size
  clear hb
  go_wp2_with fail
  refine (CN.to_all _ xs _ (HX.out.below B_8.out) HL.out).mono ?_
  rintro e w9 ⟨vC, rfl, ho, hb⟩
  have OA_9 := Lib.hid (own_keepL OA_8.out hb)
  clear OA_8
  have OB_9 := Lib.hid (own_keepL OB_8.out hb)
  clear OB_8
  have OX_9 := Lib.hid (own_keepL OX_8.out hb)
  clear OX_8
  have OY_9 := Lib.hid (own_keepL OY_8.out hb)
  clear OY_8
  have B_9 := Lib.hid (B_8.out.trans (hb.mono B_8.out.size))
  clear B_8
  have hs_9 := hb.size
  have OC_9 := Lib.hid ho
  have LC : Hid (∀ k, vC.ownBlock = some k → w8.heap.size ≤ k ∧ k < w9.heap.size) := Lib.hid (OC_9.out.lt)
  clear hb
  clear ho
  go_wp2_with fail
  refine (CN.eq_all _ _ xs _ (CN.is_of_row OX_9.out) (CN.is_of_row OC_9.out) (by have := HL.out; omega)).mono ?_
  rintro e w10 ⟨rfl, hb⟩
  have OA_10 := Lib.hid (own_keepL OA_9.out hb)
  clear OA_9
  have OB_10 := Lib.hid (own_keepL OB_9.out hb)
  clear OB_9
  have OX_10 := Lib.hid (own_keepL OX_9.out hb)
  clear OX_9
  have OY_10 := Lib.hid (own_keepL OY_9.out hb)
  clear OY_9
  have OC_10 := Lib.hid (own_keepL OC_9.out hb)
  clear OC_9
  have B_10 := Lib.hid (B_9.out.trans (hb.mono B_9.out.size))
  clear B_9
  have hs_10 := hb.size
  clear hb
  go_wp2_with fail
  refine (PK.to_all _ ps _ (HY.out.below B_10.out) HL2.out).mono ?_
  rintro e w11 ⟨vD, rfl, ho, hb⟩
  have OA_11 := Lib.hid (own_keepL OA_10.out hb)
  clear OA_10
  have OB_11 := Lib.hid (own_keepL OB_10.out hb)
  clear OB_10
  have OX_11 := Lib.hid (own_keepL OX_10.out hb)
  clear OX_10
  have OY_11 := Lib.hid (own_keepL OY_10.out hb)
  clear OY_10
  have OC_11 := Lib.hid (own_keepL OC_10.out hb)
  clear OC_10
  have B_11 := Lib.hid (B_10.out.trans (hb.mono B_10.out.size))
  clear B_10
  have hs_11 := hb.size
  have OD_11 := Lib.hid ho
  have LD : Hid (∀ k, vD.ownBlock = some k → w10.heap.size ≤ k ∧ k < w11.heap.size) := Lib.hid (OD_11.out.lt)
  clear hb
  clear ho
  go_wp2_with fail
  refine (PK.eq_all _ _ ps _ (PK.is_of_row OY_11.out) (PK.is_of_row OD_11.out) (by have := HL2.out; omega)).mono ?_
  rintro e w12 ⟨rfl, hb⟩
  have OA_12 := Lib.hid (own_keepL OA_11.out hb)
  clear OA_11
  have OB_12 := Lib.hid (own_keepL OB_11.out hb)
  clear OB_11
  have OX_12 := Lib.hid (own_keepL OX_11.out hb)
  clear OX_11
  have OY_12 := Lib.hid (own_keepL OY_11.out hb)
  clear OY_11
  have OC_12 := Lib.hid (own_keepL OC_11.out hb)
  clear OC_11
  have OD_12 := Lib.hid (own_keepL OD_11.out hb)
  clear OD_11
  have B_12 := Lib.hid (B_11.out.trans (hb.mono B_11.out.size))
  clear B_11
  have hs_12 := hb.size
  clear hb
  go_wp2_with fail
  go_ret
  exact ⟨rfl, B_12.out⟩

set_option maxRecDepth 100000 in
set_option maxHeartbeats 4000000 in
theorem ex_NegateCond (IM : ImplNegateCond) (v : Value) (xs : List CN) (w : World) (h : CN.Is w v xs) (hm : xs.length ≤ maxLen) (hs : ∀ r, r ∈ xs → CN.Sz r) :
    Calls Try.prog 9 #[v] w fun e w' => e = .returned (.bool true) ∧ Below w.heap.size w w' := by
  have HI := Lib.hid IM
  clear IM
  have HX := Lib.hid h
  have HS := Lib.hid hs
  have HSZ := Lib.hid (CN.sz_all v xs 1048576 w h (by omega) (by omega) hm hs)
  obtain ⟨a1, c1, rfl⟩ := h.slice
  clear h hs hm
  go_enter Try.func9, Try.ntmps9
  go_wp2_with fail
  refine (HSZ.out).mono ?_
  rintro e w1 ⟨z, rfl, hz0, hz1, hz2, hb⟩
  have HZ2 := Lib.hid hz2
  clear hz2
  have B_1 := Lib.hid ((Lib.hid (Below.refl w.heap.size w)).out.trans (hb.mono (Lib.hid (Below.refl w.heap.size w)).out.size))
  have hs_1 := hb.size
  have hsw_1 := hs_1
  clear hb
  by_cases hzn : z < 0
  · go_wp2_with fail
    go_ret
    exact ⟨rfl, B_1.out⟩
  have hlen : xs.length ≤ 1048576 := by have := HZ2.out (by omega); omega
  have HL := Lib.hid hlen
  clear HZ2 HSZ
  obtain ⟨ns, y, hy⟩ : ∃ ns y, negR xs = (ns, y) := ⟨_, _, rfl⟩
  have hnl := negR_len xs
  rw [hy] at hnl
  simp only at hnl
  have hnn : (y != y) = false := by simp
  have HY := Lib.hid hy
  clear hy
  go_wp2_with fail
  refine (CN.to_all _ xs _ (HX.out.below B_1.out) HL.out).mono ?_
  rintro e w2 ⟨vA, rfl, ho, hb⟩
  have B_2 := Lib.hid (B_1.out.trans (hb.mono B_1.out.size))
  clear B_1
  have hs_2 := hb.size
  have OA_2 := Lib.hid ho
  have LA : Hid (∀ k, vA.ownBlock = some k → w1.heap.size ≤ k ∧ k < w2.heap.size) := Lib.hid (OA_2.out.lt)
  clear hb
  clear ho
  go_wp2_with fail
  refine (((spec_negateCond _ xs _ (CN.is_of_row OA_2.out) HS.out (len_max HL.out)).mono (fun _ _ h => h.any))).mono ?_
  rintro e w3 ⟨vS, he, ho, hb⟩
  rw [HY.out] at he ho
  subst he
  have OA_3 := Lib.hid (own_keepL OA_2.out hb)
  clear OA_2
  have B_3 := Lib.hid (B_2.out.trans (hb.mono B_2.out.size))
  clear B_2
  have hs_3 := hb.size
  have OS_3 := Lib.hid ho
  have LS : Hid (∀ k, vS.ownBlock = some k → w2.heap.size ≤ k ∧ k < w3.heap.size) := Lib.hid (OS_3.out.lt)
  clear hb
  clear ho
  go_wp2_with fail
  refine (CN.to_all _ xs _ (HX.out.below B_3.out) HL.out).mono ?_
  rintro e w4 ⟨vX, rfl, ho, hb⟩
  have OA_4 := Lib.hid (own_keepL OA_3.out hb)
  clear OA_3
  have OS_4 := Lib.hid (own_keepL OS_3.out hb)
  clear OS_3
  have B_4 := Lib.hid (B_3.out.trans (hb.mono B_3.out.size))
  clear B_3
  have hs_4 := hb.size
  have OX_4 := Lib.hid ho
  have LX : Hid (∀ k, vX.ownBlock = some k → w3.heap.size ≤ k ∧ k < w4.heap.size) := Lib.hid (OX_4.out.lt)
  clear hb
  clear ho
  go_wp2_with fail
  refine (HI.out _ xs _ (CN.is_of_row OX_4.out) HS.out (len_max HL.out)).mono ?_
  rintro e w5 ⟨vG, he, ho, hb⟩
  rw [HY.out] at he ho
  subst he
  have OA_5 := Lib.hid (own_keepL OA_4.out hb)
  clear OA_4
  have OS_5 := Lib.hid (own_keepL OS_4.out hb)
  clear OS_4
  have OX_5 := Lib.hid (own_keepL OX_4.out hb)
  clear OX_4
  have B_5 := Lib.hid (B_4.out.trans (hb.mono B_4.out.size))
  clear B_4
  have hs_5 := hb.size
  have OG_5 := Lib.hid ho
  have LG : Hid (∀ k, vG.ownBlock = some k → w4.heap.size ≤ k ∧ k < w5.heap.size) := Lib.hid (OG_5.out.lt)
  clear hb
  clear ho
  go_wp2_with fail
  refine (CN.eq_all _ _ ns _ (CN.is_of_row OG_5.out) (CN.is_of_row OS_5.out) (by omega)).mono ?_
  rintro e w6 ⟨rfl, hb⟩
  have OA_6 := Lib.hid (own_keepL OA_5.out hb)
  clear OA_5
  have OS_6 := Lib.hid (own_keepL OS_5.out hb)
  clear OS_5
  have OX_6 := Lib.hid (own_keepL OX_5.out hb)
  clear OX_5
  have OG_6 := Lib.hid (own_keepL OG_5.out hb)
  clear OG_5
  have B_6 := Lib.hid (B_5.out.trans (hb.mono B_5.out.size))
  clear B_5
  have hs_6 := hb.size
  clear hb
  go_wp2_with fail
  refine (CN.to_all _ xs _ (HX.out.below B_6.out) HL.out).mono ?_
  rintro e w7 ⟨vC, rfl, ho, hb⟩
  have OA_7 := Lib.hid (own_keepL OA_6.out hb)
  clear OA_6
  have OS_7 := Lib.hid (own_keepL OS_6.out hb)
  clear OS_6
  have OX_7 := Lib.hid (own_keepL OX_6.out hb)
  clear OX_6
  have OG_7 := Lib.hid (own_keepL OG_6.out hb)
  clear OG_6
  have B_7 := Lib.hid (B_6.out.trans (hb.mono B_6.out.size))
  clear B_6
  have hs_7 := hb.size
  have OC_7 := Lib.hid ho
  have LC : Hid (∀ k, vC.ownBlock = some k → w6.heap.size ≤ k ∧ k < w7.heap.size) := Lib.hid (OC_7.out.lt)
  clear hb
  clear ho
  go_wp2_with fail
  refine (CN.eq_all _ _ xs _ (CN.is_of_row OX_7.out) (CN.is_of_row OC_7.out) (by have := HL.out; omega)).mono ?_
  rintro e w8 ⟨rfl, hb⟩
  have OA_8 := Lib.hid (own_keepL OA_7.out hb)
  clear OA_7
  have OS_8 := Lib.hid (own_keepL OS_7.out hb)
  clear OS_7
  have OX_8 := Lib.hid (own_keepL OX_7.out hb)
  clear OX_7
  have OG_8 := Lib.hid (own_keepL OG_7.out hb)
  clear OG_7
  have OC_8 := Lib.hid (own_keepL OC_7.out hb)
  clear OC_7
  have B_8 := Lib.hid (B_7.out.trans (hb.mono B_7.out.size))
  clear B_7
  have hs_8 := hb.size
  clear hb
  have hk1 : ((1 : Int) + 3 * (xs.length : Int) < 0) = False := by simp; omega
  go_wp2_with fail
  refine (CN.mark1 _ _ _ xs.length _ _ rfl OX_8.out (by have := HL.out; omega)).mono ?_
  rintro e w9 ⟨rfl, ho, hg⟩
  have OA_9 := Lib.hid (OA_8.out.kept hg (by
    cases hv : vA.ownBlock with
    | none => exact Or.inl rfl
    | some k => exact Or.inr (fun e => by have h1 := LA.out k hv; have h2 := LX.out k e.symm; omega)))
  clear OA_8
  have OS_9 := Lib.hid (OS_8.out.kept hg (by
    cases hv : vS.ownBlock with
    | none => exact Or.inl rfl
    | some k => exact Or.inr (fun e => by have h1 := LS.out k hv; have h2 := LX.out k e.symm; omega)))
  clear OS_8
  have OX_9 := Lib.hid ho
  clear OX_8
  have OG_9 := Lib.hid (OG_8.out.kept hg (by
    cases hv : vG.ownBlock with
    | none => exact Or.inl rfl
    | some k => exact Or.inr (fun e => by have h1 := LG.out k hv; have h2 := LX.out k e.symm; omega)))
  clear OG_8
  have OC_9 := Lib.hid (OC_8.out.kept hg (by
    cases hv : vC.ownBlock with
    | none => exact Or.inl rfl
    | some k => exact Or.inr (fun e => by have h1 := LC.out k hv; have h2 := LX.out k e.symm; omega)))
  clear OC_8
  have B_9 := Lib.hid (B_8.out.grown hg B_8.out.size (fun k hk => by have h2 := LX.out k hk; have h3 := B_8.out.size; omega))
  clear B_8
  have hs_9 := hg.size
  clear hg ho
  go_wp2_with fail
  refine (CN.eq_all _ _ ns _ (CN.is_of_row OG_9.out) (CN.is_of_row OS_9.out) (by omega)).mono ?_
  rintro e w10 ⟨rfl, hb⟩
  have OA_10 := Lib.hid (own_keepL OA_9.out hb)
  clear OA_9
  have OS_10 := Lib.hid (own_keepL OS_9.out hb)
  clear OS_9
  have OX_10 := Lib.hid (own_keepL OX_9.out hb)
  clear OX_9
  have OG_10 := Lib.hid (own_keepL OG_9.out hb)
  clear OG_9
  have OC_10 := Lib.hid (own_keepL OC_9.out hb)
  clear OC_9
  have B_10 := Lib.hid (B_9.out.trans (hb.mono B_9.out.size))
  clear B_9
  have hs_10 := hb.size
  clear hb
  go_wp2_with fail
  refine (CN.mark1 _ _ _ ns.length _ _ rfl OG_10.out (by omega)).mono ?_
  rintro e w11 ⟨rfl, ho, hg⟩
  have OA_11 := Lib.hid (OA_10.out.kept hg (by
    cases hv : vA.ownBlock with
    | none => exact Or.inl rfl
    | some k => exact Or.inr (fun e => by have h1 := LA.out k hv; have h2 := LG.out k e.symm; omega)))
  clear OA_10
  have OS_11 := Lib.hid (OS_10.out.kept hg (by
    cases hv : vS.ownBlock with
    | none => exact Or.inl rfl
    | some k => exact Or.inr (fun e => by have h1 := LS.out k hv; have h2 := LG.out k e.symm; omega)))
  clear OS_10
  have OX_11 := Lib.hid (OX_10.out.kept hg (by
    cases hv : vX.ownBlock with
    | none => exact Or.inl rfl
    | some k => exact Or.inr (fun e => by have h1 := LX.out k hv; have h2 := LG.out k e.symm; omega)))
  clear OX_10
  have OG_11 := Lib.hid ho
  clear OG_10
  have OC_11 := Lib.hid (OC_10.out.kept hg (by
    cases hv : vC.ownBlock with
    | none => exact Or.inl rfl
    | some k => exact Or.inr (fun e => by have h1 := LC.out k hv; have h2 := LG.out k e.symm; omega)))
  clear OC_10
  have B_11 := Lib.hid (B_10.out.grown hg B_10.out.size (fun k hk => by have h2 := LG.out k hk; have h3 := B_10.out.size; omega))
  clear B_10
  have hs_11 := hg.size
  clear hg ho
  have hqq : ((1 + 3 * (ns.length : Int)) != 1 + 3 * (ns.length : Int)) = false := by simp
  go_wp2_with fail
  refine (CN.held1 _ _ _ ns.length _ rfl OG_11.out (by omega)).mono ?_
  rintro e w12 ⟨rfl, hb⟩
  have OA_12 := Lib.hid (own_keepL OA_11.out hb)
  clear OA_11
  have OS_12 := Lib.hid (own_keepL OS_11.out hb)
  clear OS_11
  have OX_12 := Lib.hid (own_keepL OX_11.out hb)
  clear OX_11
  have OG_12 := Lib.hid (own_keepL OG_11.out hb)
  clear OG_11
  have OC_12 := Lib.hid (own_keepL OC_11.out hb)
  clear OC_11
  have B_12 := Lib.hid (B_11.out.trans (hb.mono B_11.out.size))
  clear B_11
  have hs_12 := hb.size
  clear hb
  go_wp2_with fail
  refine (CN.to_all _ xs _ (HX.out.below B_12.out) HL.out).mono ?_
  rintro e w13 ⟨vE, rfl, ho, hb⟩
  have OA_13 := Lib.hid (own_keepL OA_12.out hb)
  clear OA_12
  have OS_13 := Lib.hid (own_keepL OS_12.out hb)
  clear OS_12
  have OX_13 := Lib.hid (own_keepL OX_12.out hb)
  clear OX_12
  have OG_13 := Lib.hid (own_keepL OG_12.out hb)
  clear OG_12
  have OC_13 := Lib.hid (own_keepL OC_12.out hb)
  clear OC_12
  have B_13 := Lib.hid (B_12.out.trans (hb.mono B_12.out.size))
  clear B_12
  have hs_13 := hb.size
  have OE_13 := Lib.hid ho
  have LE : Hid (∀ k, vE.ownBlock = some k → w12.heap.size ≤ k ∧ k < w13.heap.size) := Lib.hid (OE_13.out.lt)
  clear hb
  clear ho
  go_wp2_with fail
  refine (HI.out _ xs _ (CN.is_of_row OE_13.out) HS.out (len_max HL.out)).mono ?_
  rintro e w14 ⟨vH, he, ho, hb⟩
  rw [HY.out] at he ho
  subst he
  have OA_14 := Lib.hid (own_keepL OA_13.out hb)
  clear OA_13
  have OS_14 := Lib.hid (own_keepL OS_13.out hb)
  clear OS_13
  have OX_14 := Lib.hid (own_keepL OX_13.out hb)
  clear OX_13
  have OG_14 := Lib.hid (own_keepL OG_13.out hb)
  clear OG_13
  have OC_14 := Lib.hid (own_keepL OC_13.out hb)
  clear OC_13
  have OE_14 := Lib.hid (own_keepL OE_13.out hb)
  clear OE_13
  have B_14 := Lib.hid (B_13.out.trans (hb.mono B_13.out.size))
  clear B_13
  have hs_14 := hb.size
  have OH_14 := Lib.hid ho
  have LH : Hid (∀ k, vH.ownBlock = some k → w13.heap.size ≤ k ∧ k < w14.heap.size) := Lib.hid (OH_14.out.lt)
  clear hb
  clear ho
  go_wp2_with fail
  refine (CN.eq_all _ _ ns _ (CN.is_of_row OH_14.out) (CN.is_of_row OS_14.out) (by omega)).mono ?_
  rintro e w15 ⟨rfl, hb⟩
  have OA_15 := Lib.hid (own_keepL OA_14.out hb)
  clear OA_14
  have OS_15 := Lib.hid (own_keepL OS_14.out hb)
  clear OS_14
  have OX_15 := Lib.hid (own_keepL OX_14.out hb)
  clear OX_14
  have OG_15 := Lib.hid (own_keepL OG_14.out hb)
  clear OG_14
  have OC_15 := Lib.hid (own_keepL OC_14.out hb)
  clear OC_14
  have OE_15 := Lib.hid (own_keepL OE_14.out hb)
  clear OE_14
  have OH_15 := Lib.hid (own_keepL OH_14.out hb)
  clear OH_14
  have B_15 := Lib.hid (B_14.out.trans (hb.mono B_14.out.size))
  clear B_14
  have hs_15 := hb.size
  clear hb
  go_wp2_with fail
  refine (CN.held1 _ _ _ ns.length _ rfl OG_15.out (by omega)).mono ?_
  rintro e w16 ⟨rfl, hb⟩
  have OA_16 := Lib.hid (own_keepL OA_15.out hb)
  clear OA_15
  have OS_16 := Lib.hid (own_keepL OS_15.out hb)
  clear OS_15
  have OX_16 := Lib.hid (own_keepL OX_15.out hb)
  clear OX_15
  have OG_16 := Lib.hid (own_keepL OG_15.out hb)
  clear OG_15
  have OC_16 := Lib.hid (own_keepL OC_15.out hb)
  clear OC_15
  have OE_16 := Lib.hid (own_keepL OE_15.out hb)
  clear OE_15
  have OH_16 := Lib.hid (own_keepL OH_15.out hb)
  clear OH_15
  have B_16 := Lib.hid (B_15.out.trans (hb.mono B_15.out.size))
  clear B_15
  have hs_16 := hb.size
  clear hb
  go_wp2_with fail
  go_ret
  exact ⟨rfl, B_16.out⟩

set_option maxRecDepth 100000 in
set_option maxHeartbeats 4000000 in
theorem ex_OptionsIn (IM : ImplOptionsIn) (v : Value) (xs : List CN) (w : World) (h : CN.Is w v xs) (hm : xs.length ≤ maxLen) (hs : ∀ r, r ∈ xs → CN.Sz r) :
    Calls Try.prog 10 #[v] w fun e w' => e = .returned (.bool true) ∧ Below w.heap.size w w' := by
  have HI := Lib.hid IM
  clear IM
  have HX := Lib.hid h
  have HS := Lib.hid hs
  have HSZ := Lib.hid (CN.sz_all v xs 1048576 w h (by omega) (by omega) hm hs)
  obtain ⟨a1, c1, rfl⟩ := h.slice
  clear h hs hm
  go_enter Try.func10, Try.ntmps10
  go_wp2_with fail
  refine (HSZ.out).mono ?_
  rintro e w1 ⟨z, rfl, hz0, hz1, hz2, hb⟩
  have HZ2 := Lib.hid hz2
  clear hz2
  have B_1 := Lib.hid ((Lib.hid (Below.refl w.heap.size w)).out.trans (hb.mono (Lib.hid (Below.refl w.heap.size w)).out.size))
  have hs_1 := hb.size
  have hsw_1 := hs_1
  clear hb
  by_cases hzn : z < 0
  · go_wp2_with fail
    go_ret
    exact ⟨rfl, B_1.out⟩
  have hlen : xs.length ≤ 1048576 := by have := HZ2.out (by omega); omega
  have HL := Lib.hid hlen
  clear HZ2 HSZ
  obtain ⟨ns, hy⟩ : ∃ ns, optsR xs = ns := ⟨_, rfl⟩
  have hnl := optsR_len xs
  rw [hy] at hnl
  have HY := Lib.hid hy
  clear hy
  go_wp2_with fail
  refine (CN.to_all _ xs _ (HX.out.below B_1.out) HL.out).mono ?_
  rintro e w2 ⟨vA, rfl, ho, hb⟩
  have B_2 := Lib.hid (B_1.out.trans (hb.mono B_1.out.size))
  clear B_1
  have hs_2 := hb.size
  have OA_2 := Lib.hid ho
  have LA : Hid (∀ k, vA.ownBlock = some k → w1.heap.size ≤ k ∧ k < w2.heap.size) := Lib.hid (OA_2.out.lt)
  clear hb
  clear ho
  go_wp2_with fail
  refine (((spec_options _ xs _ (CN.is_of_row OA_2.out) HS.out (len_max HL.out)).mono (fun _ _ h => h.any))).mono ?_
  rintro e w3 ⟨vS, he, ho, hb⟩
  rw [HY.out] at ho
  subst he
  have OA_3 := Lib.hid (own_keepL OA_2.out hb)
  clear OA_2
  have B_3 := Lib.hid (B_2.out.trans (hb.mono B_2.out.size))
  clear B_2
  have hs_3 := hb.size
  have OS_3 := Lib.hid ho
  have LS : Hid (∀ k, vS.ownBlock = some k → w2.heap.size ≤ k ∧ k < w3.heap.size) := Lib.hid (OS_3.out.lt)
  clear hb
  clear ho
  go_wp2_with fail
  refine (CN.to_all _ xs _ (HX.out.below B_3.out) HL.out).mono ?_
  rintro e w4 ⟨vX, rfl, ho, hb⟩
  have OA_4 := Lib.hid (own_keepL OA_3.out hb)
  clear OA_3
  have OS_4 := Lib.hid (own_keepL OS_3.out hb)
  clear OS_3
  have B_4 := Lib.hid (B_3.out.trans (hb.mono B_3.out.size))
  clear B_3
  have hs_4 := hb.size
  have OX_4 := Lib.hid ho
  have LX : Hid (∀ k, vX.ownBlock = some k → w3.heap.size ≤ k ∧ k < w4.heap.size) := Lib.hid (OX_4.out.lt)
  clear hb
  clear ho
  go_wp2_with fail
  refine (HI.out _ xs _ (CN.is_of_row OX_4.out) HS.out (len_max HL.out)).mono ?_
  rintro e w5 ⟨vG, he, ho, hb⟩
  rw [HY.out] at ho
  subst he
  have OA_5 := Lib.hid (own_keepL OA_4.out hb)
  clear OA_4
  have OS_5 := Lib.hid (own_keepL OS_4.out hb)
  clear OS_4
  have OX_5 := Lib.hid (own_keepL OX_4.out hb)
  clear OX_4
  have B_5 := Lib.hid (B_4.out.trans (hb.mono B_4.out.size))
  clear B_4
  have hs_5 := hb.size
  have OG_5 := Lib.hid ho
  have LG : Hid (∀ k, vG.ownBlock = some k → w4.heap.size ≤ k ∧ k < w5.heap.size) := Lib.hid (OG_5.out.lt)
  clear hb
  clear ho
  go_wp2_with fail
  refine (eq_strs _ _ ns _ (strs_of_rowT rfl OG_5.out) (strs_of_rowT rfl OS_5.out) (by omega)).mono ?_
  rintro e w6 ⟨rfl, hb⟩
  have OA_6 := Lib.hid (own_keepL OA_5.out hb)
  clear OA_5
  have OS_6 := Lib.hid (own_keepL OS_5.out hb)
  clear OS_5
  have OX_6 := Lib.hid (own_keepL OX_5.out hb)
  clear OX_5
  have OG_6 := Lib.hid (own_keepL OG_5.out hb)
  clear OG_5
  have B_6 := Lib.hid (B_5.out.trans (hb.mono B_5.out.size))
  clear B_5
  have hs_6 := hb.size
  clear hb
  go_wp2_with fail
  refine (CN.to_all _ xs _ (HX.out.below B_6.out) HL.out).mono ?_
  rintro e w7 ⟨vC, rfl, ho, hb⟩
  have OA_7 := Lib.hid (own_keepL OA_6.out hb)
  clear OA_6
  have OS_7 := Lib.hid (own_keepL OS_6.out hb)
  clear OS_6
  have OX_7 := Lib.hid (own_keepL OX_6.out hb)
  clear OX_6
  have OG_7 := Lib.hid (own_keepL OG_6.out hb)
  clear OG_6
  have B_7 := Lib.hid (B_6.out.trans (hb.mono B_6.out.size))
  clear B_6
  have hs_7 := hb.size
  have OC_7 := Lib.hid ho
  have LC : Hid (∀ k, vC.ownBlock = some k → w6.heap.size ≤ k ∧ k < w7.heap.size) := Lib.hid (OC_7.out.lt)
  clear hb
  clear ho
  go_wp2_with fail
  refine (CN.eq_all _ _ xs _ (CN.is_of_row OX_7.out) (CN.is_of_row OC_7.out) (by have := HL.out; omega)).mono ?_
  rintro e w8 ⟨rfl, hb⟩
  have OA_8 := Lib.hid (own_keepL OA_7.out hb)
  clear OA_7
  have OS_8 := Lib.hid (own_keepL OS_7.out hb)
  clear OS_7
  have OX_8 := Lib.hid (own_keepL OX_7.out hb)
  clear OX_7
  have OG_8 := Lib.hid (own_keepL OG_7.out hb)
  clear OG_7
  have OC_8 := Lib.hid (own_keepL OC_7.out hb)
  clear OC_7
  have B_8 := Lib.hid (B_7.out.trans (hb.mono B_7.out.size))
  clear B_7
  have hs_8 := hb.size
  clear hb
  have hk1 : ((1 : Int) + 3 * (xs.length : Int) < 0) = False := by simp; omega
  go_wp2_with fail
  refine (CN.mark1 _ _ _ xs.length _ _ rfl OX_8.out (by have := HL.out; omega)).mono ?_
  rintro e w9 ⟨rfl, ho, hg⟩
  have OA_9 := Lib.hid (OA_8.out.kept hg (by
    cases hv : vA.ownBlock with
    | none => exact Or.inl rfl
    | some k => exact Or.inr (fun e => by have h1 := LA.out k hv; have h2 := LX.out k e.symm; omega)))
  clear OA_8
  have OS_9 := Lib.hid (OS_8.out.kept hg (by
    cases hv : vS.ownBlock with
    | none => exact Or.inl rfl
    | some k => exact Or.inr (fun e => by have h1 := LS.out k hv; have h2 := LX.out k e.symm; omega)))
  clear OS_8
  have OX_9 := Lib.hid ho
  clear OX_8
  have OG_9 := Lib.hid (OG_8.out.kept hg (by
    cases hv : vG.ownBlock with
    | none => exact Or.inl rfl
    | some k => exact Or.inr (fun e => by have h1 := LG.out k hv; have h2 := LX.out k e.symm; omega)))
  clear OG_8
  have OC_9 := Lib.hid (OC_8.out.kept hg (by
    cases hv : vC.ownBlock with
    | none => exact Or.inl rfl
    | some k => exact Or.inr (fun e => by have h1 := LC.out k hv; have h2 := LX.out k e.symm; omega)))
  clear OC_8
  have B_9 := Lib.hid (B_8.out.grown hg B_8.out.size (fun k hk => by have h2 := LX.out k hk; have h3 := B_8.out.size; omega))
  clear B_8
  have hs_9 := hg.size
  clear hg ho
  go_wp2_with fail
  refine (eq_strs _ _ ns _ (strs_of_rowT rfl OG_9.out) (strs_of_rowT rfl OS_9.out) (by omega)).mono ?_
  rintro e w10 ⟨rfl, hb⟩
  have OA_10 := Lib.hid (own_keepL OA_9.out hb)
  clear OA_9
  have OS_10 := Lib.hid (own_keepL OS_9.out hb)
  clear OS_9
  have OX_10 := Lib.hid (own_keepL OX_9.out hb)
  clear OX_9
  have OG_10 := Lib.hid (own_keepL OG_9.out hb)
  clear OG_9
  have OC_10 := Lib.hid (own_keepL OC_9.out hb)
  clear OC_9
  have B_10 := Lib.hid (B_9.out.trans (hb.mono B_9.out.size))
  clear B_9
  have hs_10 := hb.size
  clear hb
  go_wp2_with fail
  refine (markT1 _ _ _ ns.length _ _ rfl OG_10.out (by omega)).mono ?_
  rintro e w11 ⟨rfl, ho, hg⟩
  have OA_11 := Lib.hid (OA_10.out.kept hg (by
    cases hv : vA.ownBlock with
    | none => exact Or.inl rfl
    | some k => exact Or.inr (fun e => by have h1 := LA.out k hv; have h2 := LG.out k e.symm; omega)))
  clear OA_10
  have OS_11 := Lib.hid (OS_10.out.kept hg (by
    cases hv : vS.ownBlock with
    | none => exact Or.inl rfl
    | some k => exact Or.inr (fun e => by have h1 := LS.out k hv; have h2 := LG.out k e.symm; omega)))
  clear OS_10
  have OX_11 := Lib.hid (OX_10.out.kept hg (by
    cases hv : vX.ownBlock with
    | none => exact Or.inl rfl
    | some k => exact Or.inr (fun e => by have h1 := LX.out k hv; have h2 := LG.out k e.symm; omega)))
  clear OX_10
  have OG_11 := Lib.hid ho
  clear OG_10
  have OC_11 := Lib.hid (OC_10.out.kept hg (by
    cases hv : vC.ownBlock with
    | none => exact Or.inl rfl
    | some k => exact Or.inr (fun e => by have h1 := LC.out k hv; have h2 := LG.out k e.symm; omega)))
  clear OC_10
  have B_11 := Lib.hid (B_10.out.grown hg B_10.out.size (fun k hk => by have h2 := LG.out k hk; have h3 := B_10.out.size; omega))
  clear B_10
  have hs_11 := hg.size
  clear hg ho
  have hqq : ((1 + (ns.length : Int)) != 1 + (ns.length : Int)) = false := by simp
  go_wp2_with fail
  refine (heldT1 _ _ _ ns.length _ rfl OG_11.out (by omega)).mono ?_
  rintro e w12 ⟨rfl, hb⟩
  have OA_12 := Lib.hid (own_keepL OA_11.out hb)
  clear OA_11
  have OS_12 := Lib.hid (own_keepL OS_11.out hb)
  clear OS_11
  have OX_12 := Lib.hid (own_keepL OX_11.out hb)
  clear OX_11
  have OG_12 := Lib.hid (own_keepL OG_11.out hb)
  clear OG_11
  have OC_12 := Lib.hid (own_keepL OC_11.out hb)
  clear OC_11
  have B_12 := Lib.hid (B_11.out.trans (hb.mono B_11.out.size))
  clear B_11
  have hs_12 := hb.size
  clear hb
  go_wp2_with fail
  refine (CN.to_all _ xs _ (HX.out.below B_12.out) HL.out).mono ?_
  rintro e w13 ⟨vE, rfl, ho, hb⟩
  have OA_13 := Lib.hid (own_keepL OA_12.out hb)
  clear OA_12
  have OS_13 := Lib.hid (own_keepL OS_12.out hb)
  clear OS_12
  have OX_13 := Lib.hid (own_keepL OX_12.out hb)
  clear OX_12
  have OG_13 := Lib.hid (own_keepL OG_12.out hb)
  clear OG_12
  have OC_13 := Lib.hid (own_keepL OC_12.out hb)
  clear OC_12
  have B_13 := Lib.hid (B_12.out.trans (hb.mono B_12.out.size))
  clear B_12
  have hs_13 := hb.size
  have OE_13 := Lib.hid ho
  have LE : Hid (∀ k, vE.ownBlock = some k → w12.heap.size ≤ k ∧ k < w13.heap.size) := Lib.hid (OE_13.out.lt)
  clear hb
  clear ho
  go_wp2_with fail
  refine (HI.out _ xs _ (CN.is_of_row OE_13.out) HS.out (len_max HL.out)).mono ?_
  rintro e w14 ⟨vH, he, ho, hb⟩
  rw [HY.out] at ho
  subst he
  have OA_14 := Lib.hid (own_keepL OA_13.out hb)
  clear OA_13
  have OS_14 := Lib.hid (own_keepL OS_13.out hb)
  clear OS_13
  have OX_14 := Lib.hid (own_keepL OX_13.out hb)
  clear OX_13
  have OG_14 := Lib.hid (own_keepL OG_13.out hb)
  clear OG_13
  have OC_14 := Lib.hid (own_keepL OC_13.out hb)
  clear OC_13
  have OE_14 := Lib.hid (own_keepL OE_13.out hb)
  clear OE_13
  have B_14 := Lib.hid (B_13.out.trans (hb.mono B_13.out.size))
  clear B_13
  have hs_14 := hb.size
  have OH_14 := Lib.hid ho
  have LH : Hid (∀ k, vH.ownBlock = some k → w13.heap.size ≤ k ∧ k < w14.heap.size) := Lib.hid (OH_14.out.lt)
  clear hb
  clear ho
  go_wp2_with fail
  refine (eq_strs _ _ ns _ (strs_of_rowT rfl OH_14.out) (strs_of_rowT rfl OS_14.out) (by omega)).mono ?_
  rintro e w15 ⟨rfl, hb⟩
  have OA_15 := Lib.hid (own_keepL OA_14.out hb)
  clear OA_14
  have OS_15 := Lib.hid (own_keepL OS_14.out hb)
  clear OS_14
  have OX_15 := Lib.hid (own_keepL OX_14.out hb)
  clear OX_14
  have OG_15 := Lib.hid (own_keepL OG_14.out hb)
  clear OG_14
  have OC_15 := Lib.hid (own_keepL OC_14.out hb)
  clear OC_14
  have OE_15 := Lib.hid (own_keepL OE_14.out hb)
  clear OE_14
  have OH_15 := Lib.hid (own_keepL OH_14.out hb)
  clear OH_14
  have B_15 := Lib.hid (B_14.out.trans (hb.mono B_14.out.size))
  clear B_14
  have hs_15 := hb.size
  clear hb
  go_wp2_with fail
  refine (heldT1 _ _ _ ns.length _ rfl OG_15.out (by omega)).mono ?_
  rintro e w16 ⟨rfl, hb⟩
  have OA_16 := Lib.hid (own_keepL OA_15.out hb)
  clear OA_15
  have OS_16 := Lib.hid (own_keepL OS_15.out hb)
  clear OS_15
  have OX_16 := Lib.hid (own_keepL OX_15.out hb)
  clear OX_15
  have OG_16 := Lib.hid (own_keepL OG_15.out hb)
  clear OG_15
  have OC_16 := Lib.hid (own_keepL OC_15.out hb)
  clear OC_15
  have OE_16 := Lib.hid (own_keepL OE_15.out hb)
  clear OE_15
  have OH_16 := Lib.hid (own_keepL OH_15.out hb)
  clear OH_15
  have B_16 := Lib.hid (B_15.out.trans (hb.mono B_15.out.size))
  clear B_15
  have hs_16 := hb.size
  clear hb
  go_wp2_with fail
  go_ret
  exact ⟨rfl, B_16.out⟩

end Go.Proofs.Ytghofgjlmfdnpaa
