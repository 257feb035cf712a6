/-
  The walk of the exact law of ParseCond, where the program's function keeps its contract.
-/
import Derived.Test.YtghofgjlmfdnpaaCondParse3
import Derived.Test.YtghofgjlmfdnpaaCondEx
import Derived.WalkKit
import Derived.WalkSpells
import Derived.WalkSmall
import Derived.Lib.Hide
namespace Go.Proofs.Ytghofgjlmfdnpaa
open Go.RowKit

/-- The program's ParseCond answers as the model, in memory of its own. -/
def ImplParseCond : Prop := ∀ (s : ByteArray) (w : World), s.size ≤ 1048576 → Calls Try.prog 14 #[.string s] w (NodesAny (parR s) w)
theorem parR_len (s : ByteArray) : (parR s).1.length ≤ 30 := by
  unfold parR
  split
  · rename_i h
    exact (condB_iff.1 h.2.2).1
  · exact Nat.zero_le _

set_option maxRecDepth 100000 in
set_option maxHeartbeats 4000000 in
theorem ex_ParseCond (IM : ImplParseCond) (s : ByteArray) (w : World) (hz : s.size ≤ maxLen) :
    Calls Try.prog 8 #[.string s] w fun e w' => e = .returned (.bool true) ∧ Below w.heap.size w w' := by
  have HI := Lib.hid IM
  clear IM
  unfold maxLen at hz
  by_cases hbig : 1048576 < s.size
  · have hd : decide ((1048576 : Int) < (s.size : Int)) = true := decide_eq_true (by omega)
    go_enter Try.func8, Try.ntmps8
    go_wp2_with fail
    go_ret
    exact ⟨rfl, Below.refl _ _⟩
  have hd : decide ((1048576 : Int) < (s.size : Int)) = false := decide_eq_false (by omega)
  have hs : s.size ≤ 1048576 := by omega
  have HS := Lib.hid hs
  clear hs hbig hz
  go_enter Try.func8, Try.ntmps8
  obtain ⟨ns, y, hy⟩ : ∃ ns y, parR s = (ns, y) := ⟨_, _, rfl⟩
  have hnl := parR_len s
  rw [hy] at hnl
  simp only at hnl
  have hnn : (y != y) = false := by simp
  have HY := Lib.hid hy
  clear hy
  go_wp2_with fail
  refine (spec_parseCond s _ HS.out).mono ?_
  rintro e w1 ⟨vS, he, ho, hb⟩
  rw [HY.out] at he ho
  subst he
  have B_1 := Lib.hid ((Lib.hid (Below.refl w.heap.size w)).out.trans (hb.mono (Lib.hid (Below.refl w.heap.size w)).out.size))
  have hs_1 := hb.size
  have hsw_1 := hs_1
  have OS_1 := Lib.hid ho
  have LS : Hid (∀ k, vS.ownBlock = some k → w.heap.size ≤ k ∧ k < w1.heap.size) := Lib.hid (OS_1.out.lt)
  clear hb
  clear ho
  go_wp2_with fail
  refine (HI.out s _ HS.out).mono ?_
  rintro e w2 ⟨vG, he, ho, hb⟩
  rw [HY.out] at he ho
  subst he
  have OS_2 := Lib.hid (own_keepL OS_1.out hb)
  clear OS_1
  have B_2 := Lib.hid (B_1.out.trans (hb.mono B_1.out.size))
  clear B_1
  have hs_2 := hb.size
  have OG_2 := Lib.hid ho
  have LG : Hid (∀ k, vG.ownBlock = some k → w1.heap.size ≤ k ∧ k < w2.heap.size) := Lib.hid (OG_2.out.lt)
  clear hb
  clear ho
  go_wp2_with fail
  refine (CN.eq_all _ _ ns _ (CN.is_of_row OG_2.out) (CN.is_of_row OS_2.out) (by omega)).mono ?_
  rintro e w3 ⟨rfl, hb⟩
  have OS_3 := Lib.hid (own_keepL OS_2.out hb)
  clear OS_2
  have OG_3 := Lib.hid (own_keepL OG_2.out hb)
  clear OG_2
  have B_3 := Lib.hid (B_2.out.trans (hb.mono B_2.out.size))
  clear B_2
  have hs_3 := hb.size
  clear hb
  go_wp2_with fail
  refine (CN.mark1 _ _ _ ns.length _ _ rfl OG_3.out (by omega)).mono ?_
  rintro e w4 ⟨rfl, ho, hg⟩
  have OS_4 := Lib.hid (OS_3.out.kept hg (by
    cases hv : vS.ownBlock with
    | none => exact Or.inl rfl
    | some k => exact Or.inr (fun e => by have h1 := LS.out k hv; have h2 := LG.out k e.symm; omega)))
  clear OS_3
  have OG_4 := Lib.hid ho
  clear OG_3
  have B_4 := Lib.hid (B_3.out.grown hg B_3.out.size (fun k hk => by have h2 := LG.out k hk; have h3 := B_3.out.size; omega))
  clear B_3
  have hs_4 := hg.size
  clear hg ho
  have hqq : ((1 + 3 * (ns.length : Int)) != 1 + 3 * (ns.length : Int)) = false := by simp
  go_wp2_with fail
  refine (CN.held1 _ _ _ ns.length _ rfl OG_4.out (by omega)).mono ?_
  rintro e w5 ⟨rfl, hb⟩
  have OS_5 := Lib.hid (own_keepL OS_4.out hb)
  clear OS_4
  have OG_5 := Lib.hid (own_keepL OG_4.out hb)
  clear OG_4
  have B_5 := Lib.hid (B_4.out.trans (hb.mono B_4.out.size))
  clear B_4
  have hs_5 := hb.size
  clear hb
  go_wp2_with fail
  refine (HI.out s _ HS.out).mono ?_
  rintro e w6 ⟨vH, he, ho, hb⟩
  rw [HY.out] at he ho
  subst he
  have OS_6 := Lib.hid (own_keepL OS_5.out hb)
  clear OS_5
  have OG_6 := Lib.hid (own_keepL OG_5.out hb)
  clear OG_5
  have B_6 := Lib.hid (B_5.out.trans (hb.mono B_5.out.size))
  clear B_5
  have hs_6 := hb.size
  have OH_6 := Lib.hid ho
  have LH : Hid (∀ k, vH.ownBlock = some k → w5.heap.size ≤ k ∧ k < w6.heap.size) := Lib.hid (OH_6.out.lt)
  clear hb
  clear ho
  go_wp2_with fail
  refine (CN.eq_all _ _ ns _ (CN.is_of_row OH_6.out) (CN.is_of_row OS_6.out) (by omega)).mono ?_
  rintro e w7 ⟨rfl, hb⟩
  have OS_7 := Lib.hid (own_keepL OS_6.out hb)
  clear OS_6
  have OG_7 := Lib.hid (own_keepL OG_6.out hb)
  clear OG_6
  have OH_7 := Lib.hid (own_keepL OH_6.out hb)
  clear OH_6
  have B_7 := Lib.hid (B_6.out.trans (hb.mono B_6.out.size))
  clear B_6
  have hs_7 := hb.size
  clear hb
  go_wp2_with fail
  refine (CN.held1 _ _ _ ns.length _ rfl OG_7.out (by omega)).mono ?_
  rintro e w8 ⟨rfl, hb⟩
  have OS_8 := Lib.hid (own_keepL OS_7.out hb)
  clear OS_7
  have OG_8 := Lib.hid (own_keepL OG_7.out hb)
  clear OG_7
  have OH_8 := Lib.hid (own_keepL OH_7.out hb)
  clear OH_7
  have B_8 := Lib.hid (B_7.out.trans (hb.mono B_7.out.size))
  clear B_7
  have hs_8 := hb.size
  clear hb
  go_wp2_with fail
  go_ret
  exact ⟨rfl, B_8.out⟩
end Go.Proofs.Ytghofgjlmfdnpaa
