/-
  What the exact walks and the laws on changes share.
-/
import Derived.Test.YtdhldokpojghdaaBuIm
import Derived.Test.YtdhldokpojghdaaBuChg
import Derived.Test.YtdhldokpojghdaaSpecApChg
import Derived.Test.YtdhldokpojghdaaBuOwn
import Derived.Test.YtdhldokpojghdaaSpecBillsOn
import Derived.Test.YtdhldokpojghdaaBuBk
import Derived.Test.YtdhldokpojghdaaBuRec
import Derived.Test.YtdhldokpojghdaaBuRec2
import Derived.Test.YtdhldokpojghdaaBuA
import Derived.WalkKit
import Derived.WalkSpells
import Derived.WalkSmall
import Derived.Deep.DeepCutAuto
import Derived.Deep.RegionHeld3
import Derived.Lib.Hide
namespace Go.Proofs.Ytdhldokpojghdaa
open Go.RowKit

theorem len_maxC {n : Nat} (h : n ≤ 1048576) : n ≤ maxLen := by unfold maxLen; omega
/-- Few lines with small conditions. -/
def Few (zs : List BL) : Prop := zs.length ≤ 24 ∧ ∀ y, y ∈ zs → y.whn.length ≤ 30
theorem Few.nil : Few [] := ⟨by simp, fun _ h => by cases h⟩
/-- The world of which it is said. -/
def worldOf {w W : World} {p : Prop} (_ : Hid (Below w.heap.size w W) ∧ p) : World := W
theorem Few.sm {zs : List BL} (h : Few zs) : BX.Sm zs := ⟨by have := h.1; omega, fun y hy => by
  have := h.2 y hy
  show y.whn.length ≤ 1048576
  omega⟩
theorem few_tot : ∀ zs : List BL, (∀ y, y ∈ zs → y.whn.length ≤ 30) → BX.tot zs ≤ 30 * zs.length
  | [], _ => by simp [BX.tot]
  | y :: zs, h => by
    have h1 := few_tot zs (fun z hz => h z (List.mem_cons_of_mem _ hz))
    have h2 := h y (by simp)
    unfold BX.tot at h1 ⊢
    simp only [List.map_cons, List.sum_cons, List.length_cons]
    omega
theorem Few.tot {zs : List BL} (h : Few zs) : zs.length + BX.tot zs ≤ 800 := by
  have h1 := few_tot zs h.2
  have := h.1
  omega
theorem whn30 {l : List IT} {y : BL} (h : LineOk l y) : y.whn.length ≤ 30 := by
  obtain ⟨t, _, h3, h4⟩ := cond_tree (condB_iff.1 h.2.2.2.2.2.2.2.2)
  rw [h3]; exact h4
theorem few_bills {l : List IT} {zs : List BL} (h : BillsOk l zs) : Few zs := ⟨h.1.2.1, fun _ hy => whn30 (mem_bills h hy)⟩
theorem few_ap (l : List IT) (ls : List BL) (x : CH) : Few ((apO l ls x).getD []) := by
  cases h : apO l ls x with
  | none => exact Few.nil
  | some zs =>
    obtain ⟨h1, h2⟩ := apO_some h
    subst h2
    exact few_bills h1.2.2
theorem few_aps (l : List IT) (ls : List BL) (cs : List CH) : Few ((apsO l ls cs).getD []) := by
  by_cases h : BillsOk l ls ∧ cs.length ≤ 8
  · rw [apsO_yes h.1 h.2]
    cases h1 : foldO l cs ls with
    | none => exact Few.nil
    | some zs => exact few_bills (foldO_bills l cs ls zs h.1 h1)
  · rw [apsO_no h]; exact Few.nil
theorem few_on (l : List IT) (ls : List BL) (d : Int) : Few (billsOnR l ls d) := by
  cases h : billsB l ls with
  | false => rw [billsOnR_no h]; exact Few.nil
  | true =>
    rw [billsOnR_yes h]
    have h1 := few_bills (billsB_iff.1 h)
    exact ⟨Nat.le_trans (onD_len _ _) h1.1, fun z hz => by
      obtain ⟨y, hy, rfl⟩ := onD_mem hz
      exact h1.2 y hy⟩
theorem few_tidy (l : List IT) (ls : List BL) : Few (tidyR l ls) := by
  cases h : billsB l ls with
  | false => rw [tidyR_no h]; exact Few.nil
  | true => rw [tidyR_yes h]; exact few_bills (tidy_bills (billsB_iff.1 h))
/-- The contracts of a single change, with the cells written out. -/
theorem ch_szo (x : CH) (left : Int) (W : World) (h0 : 0 ≤ left) (h1 : left ≤ 1048576) (hs : CH.Sz x) : Calls Try.prog 25 #[.agg #[.int .i64 x.dy, .string x.pa, .string x.ou, .string x.inn, .int .i64 x.qy], .int .i64 left] W fun e w' => e = .returned (.int .i64 (CH.left x left)) ∧ Below W.heap.size W w' := CH.sz_one x left W h0 h1 hs
theorem ch_to (x : CH) (W : World) : Calls Try.prog 28 #[.agg #[.int .i64 x.dy, .string x.pa, .string x.ou, .string x.inn, .int .i64 x.qy]] W fun e w' => e = .returned (.agg #[.int .i64 x.dy, .string x.pa, .string x.ou, .string x.inn, .int .i64 x.qy]) ∧ Below W.heap.size W w' := CH.to_one x W
theorem toI_at (v : Value) (xs : List IT) (W : World) (h : IT.Is W v xs) (hl : xs.length ≤ 1048576) : Calls Try.prog 27 #[v] W fun e w9 => ∃ v9, e = .returned v9 ∧ IT.Is w9 v9 xs ∧ Below W.heap.size W w9 := by
  refine (IT.to_all v xs W h hl).mono ?_
  rintro e w9 ⟨v9, h1, h2, h3⟩
  exact ⟨v9, h1, IT.is_of_row h2, h3⟩
theorem toB_at (v : Value) (xs : List BL) (lo hi : Nat) (W : World) (hhi : hi ≤ W.heap.size) (h : BX lo hi W v xs) (hm : BX.Sm xs) : Calls Try.prog 32 #[v] W fun e w9 => ∃ v9, e = .returned v9 ∧ (∃ lo hi, BX lo hi w9 v9 xs) ∧ Below W.heap.size W w9 := by
  refine (BX.toO v xs lo hi W hhi h hm).mono ?_
  rintro e w9 ⟨v9, h1, h2, h3⟩
  exact ⟨v9, h1, ⟨_, _, h2.out.sl⟩, h3.out⟩
theorem bool_at {fn : FuncId} {args : Array Value} {W : World} {b y : Bool} (h : Calls Try.prog fn args W (BoolRes b W)) (hy : b = y) : Calls Try.prog fn args W fun e w9 => e = .returned (.bool y) ∧ Below W.heap.size W w9 := by
  subst hy; exact h
theorem apOut_at {fn : FuncId} {args : Array Value} {W : World} {o o' : Option (List BL)} {y : Bool} {zs : List BL} {B : Nat} (h : Calls Try.prog fn args W (ApOut o' W)) (ho : o' = o) (hy : o.isSome = y) (hz : o.getD [] = zs) (hB : B ≤ W.heap.size) : Calls Try.prog fn args W fun e w9 => ∃ v9, e = .returned (.tuple #[v9, .bool y]) ∧ BX.Own B w9.heap.size w9 v9 zs ∧ Below W.heap.size W w9 := by
  subst ho; subst hy; subst hz
  refine h.mono ?_
  rintro e w9 ⟨v9, h1, h2, h3⟩
  exact ⟨v9, h1, h2.out.lower hB, h3.out⟩
theorem BX.heldI (base top : Nat) (v : Value) (x : Int) (k : Nat) (rs rs' : List NR) (w : World) (hx : x = (k : Int)) (hmk : BX.IsMk k rs rs') (h : OwnN 6 5 3 36 110 (base) (top) w v rs') (hsm : ∀ j (hj : j < rs.length), (rs[j]'hj).n ≤ 1048577) (hn : rs.length ≤ 1048577) (hk0 : 0 < k) (hk1 : BX.pos k rs rs.length ≤ 1000000000) :
    Calls Try.prog 36 #[v, .int .i64 x] w fun e w' => e = .returned (.int .i64 ((BX.pos k rs rs.length : Nat) : Int)) ∧ Below w.heap.size w w' := by
  subst hx
  exact BX.heldO base top v k rs rs' w hmk h hsm hn hk0 hk1
theorem CH.mark_allI (base : Nat) (v : Value) (x : Int) (k n : Nat) (xs : List Value) (w : World) (hx : x = (k : Int)) (hown : w.ownsRow base 27 5 v n xs) (hn : n ≤ 1048577) (hk0 : 0 < k) (hk1 : k ≤ 1000000000) :
    Calls Try.prog 40 #[v, .int .i64 x] w fun e w' => e = .returned (.int .i64 ((k + 5 * n : Nat) : Int)) ∧ w'.ownsRow base 27 5 v n (CH.marks k n) ∧ w.grownBy w' v.ownBlock := by
  subst hx
  exact CH.mark_all base v k n xs w hown hn hk0 hk1

end Go.Proofs.Ytdhldokpojghdaa
