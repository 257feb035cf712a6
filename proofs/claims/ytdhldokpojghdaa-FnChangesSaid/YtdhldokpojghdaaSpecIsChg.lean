/-
  The model's IsChange.
-/
import Derived.Test.YtdhldokpojghdaaBuChg
import Derived.Test.YtdhldokpojghdaaBuCat
import Derived.Test.YtdhldokpojghdaaCondSpec
import Derived.Test.YtdhldokpojghdaaBuA
import Derived.WalkKit
import Derived.WalkSpells
import Derived.WalkSmall
import Derived.BigQuiet
import Derived.OneCell
import Derived.Deep.QuietTactic
import Derived.Deep.DeepCutAuto
import Derived.Lib.Hide
namespace Go.Proofs.Ytdhldokpojghdaa
open Go.RowKit

theorem fi_empty {l : List IT} (hc : CatOk l) : fiI l ByteArray.empty = -1 := by
  rcases fi_cases l ByteArray.empty with ⟨k, hk, e⟩ | e
  · exact absurd rfl (cat_code hc (s := ByteArray.empty) (by omega))
  · exact e

set_option maxRecDepth 100000 in
set_option maxHeartbeats 4000000 in
theorem spec_isChange (v : Value) (l : List IT) (x : CH) (w : World) (h : IT.Is w v l) (hm : l.length ≤ maxLen) (hs : ∀ r, r ∈ l → IT.Sz r) :
    Calls Try.prog 26 #[v, CH.val x] w (BoolRes (chB l x) w) := by
  obtain ⟨dy, pa, ou, inn, qy⟩ := x
  unfold CH.val
  have HN : Hid (¬ChOk l ⟨dy, pa, ou, inn, qy⟩ → chB l ⟨dy, pa, ou, inn, qy⟩ = false) := Lib.hid chB_no
  have HYS : Hid (ChOk l ⟨dy, pa, ou, inn, qy⟩ → chB l ⟨dy, pa, ou, inn, qy⟩ = true) := Lib.hid chB_yes
  have HM := Lib.hid hm
  have HB0 : Hid (Below w.heap.size w (w.alloc (.cells #[.int .i64 dy, .string pa, .string ou, .string inn, .int .i64 qy] 27))) := Lib.hid ((Below.refl _ _).alloc (Nat.le_refl _) _)
  have HR0 := Lib.hid (heap_alloc_new w (.cells #[.int .i64 dy, .string pa, .string ou, .string inn, .int .i64 qy] 27))
  have HCT := Lib.hid (spec_catalog v l _ (h.below HB0.out) hm hs)
  have HI0 := Lib.hid (h.below HB0.out)
  clear h hs hm
  generalize hch : chB l ⟨dy, pa, ou, inn, qy⟩ = z at *
  go_enter Try.func26, Try.ntmps26
  go_upto_region 1 with fail
  generalize w.alloc (.cells #[.int .i64 dy, .string pa, .string ou, .string inn, .int .i64 qy] 27) = w0 at *
  go_wp2_with fail
  refine HCT.out.mono ?_
  rintro e w1 ⟨rfl, hb⟩
  have HR := blk_below HR0.out hb
  have HI := Lib.hid (HI0.out.below hb)
  have HB := Lib.hid (HB0.out.trans (hb.mono HB0.out.size))
  clear hb HCT HR0 HI0 HB0
  have c0 := cell_of_row _ _ 0 _ _ _ HR
  have c1 := cell_of_row _ _ 1 _ _ _ HR
  have c2 := cell_of_row _ _ 2 _ _ _ HR
  have c3 := cell_of_row _ _ 3 _ _ _ HR
  have c4 := cell_of_row _ _ 4 _ _ _ HR
  clear HR
  rcases Bool.eq_false_or_eq_true (catB l) with hc | hc
  rotate_left
  · have HY := Lib.hid (HN.out (fun h => by rw [catB_yes h.1] at hc; cases hc))
    rw [hc]
    go_wp2_with fail
    go_ret
    exact ⟨by rw [HY.out]; rfl, HB.out⟩
  have HCK := Lib.hid (catB_iff.1 hc)
  rw [hc]
  clear hc
  by_cases hd : 0 ≤ dy ∧ dy ≤ 999
  rotate_left
  · have HY := Lib.hid (HN.out (fun h => hd h.2.1))
    go_wp2_with fail
    refine (spec_in_is dy 0 999 false _ (inB_no (by omega))).mono ?_
    rintro e w2 ⟨rfl, rfl⟩
    go_wp2_with fail
    go_ret
    exact ⟨by rw [HY.out]; rfl, HB.out⟩
  have HDY := Lib.hid hd
  go_wp2_with fail
  refine (spec_in_is dy 0 999 true _ (inB_yes hd.1 hd.2)).mono ?_
  rintro e w2 ⟨rfl, rfl⟩
  clear hd
  go_wp2_with fail
  refine (spec_findItem v l pa _ HI.out HM.out).mono ?_
  rintro e w2 ⟨rfl, rfl⟩
  by_cases hp : 0 ≤ fiI l pa
  rotate_left
  · have HY := Lib.hid (HN.out (fun h => hp h.2.2.1))
    have hq : decide (0 ≤ fiI l pa) = false := decide_eq_false hp
    clear hp
    go_wp2_with fail
    go_ret
    exact ⟨by rw [HY.out]; rfl, HB.out⟩
  have HPA := Lib.hid hp
  have hq : decide (0 ≤ fiI l pa) = true := decide_eq_true hp
  clear hp
  go_wp2_with fail
  refine (spec_findItem v l ou _ HI.out HM.out).mono ?_
  rintro e w2 ⟨rfl, rfl⟩
  by_cases hp : 0 ≤ fiI l ou
  rotate_left
  · have HY := Lib.hid (HN.out (fun h => hp h.2.2.2.1))
    have hq2 : decide (0 ≤ fiI l ou) = false := decide_eq_false hp
    clear hp
    go_wp2_with fail
    go_ret
    exact ⟨by rw [HY.out]; rfl, HB.out⟩
  have HOU := Lib.hid hp
  have hq2 : decide (0 ≤ fiI l ou) = true := decide_eq_true hp
  clear hp
  have HIN := Lib.hid (spec_findItem v l inn _ HI.out HM.out)
  have HL : Hid ((inn = ByteArray.empty ∧ qy = 0) ∨ (0 ≤ fiI l inn ∧ 0 ≤ qy ∧ qy ≤ 1000) → z = true) := Lib.hid (fun h => HYS.out ⟨HCK.out, HDY.out, HPA.out, HOU.out, h⟩)
  have HL2 : Hid (¬((inn = ByteArray.empty ∧ qy = 0) ∨ (0 ≤ fiI l inn ∧ 0 ≤ qy ∧ qy ≤ 1000)) → z = false) := Lib.hid (fun h => HN.out (fun h2 => h h2.2.2.2.2))
  have HFE : Hid (fiI l ByteArray.empty = -1) := Lib.hid (fi_empty HCK.out)
  clear HN HYS HPA HOU HDY HCK
  by_cases he : inn = ByteArray.empty
  · have he1 : inn.toList.isEmpty = true := by rw [he, ByteArray.toList_eq]; rfl
    have he2 : fiI l inn = -1 := by rw [he]; exact HFE.out
    have HEM := Lib.hid he
    clear he
    by_cases h0 : qy = 0
    · have HY := Lib.hid (HL.out (Or.inl ⟨HEM.out, h0⟩))
      have h1 : (qy == 0) = true := beq_iff_eq.2 h0
      clear h0
      go_wp2_with fail
      go_ret
      exact ⟨by rw [HY.out]; rfl, HB.out⟩
    · have HY := Lib.hid (HL2.out (fun h => by rcases h with h | h; exact h0 h.2; omega))
      have h1 : (qy == 0) = false := beq_eq_false_iff_ne.2 h0
      clear h0
      go_wp2_with fail
      refine HIN.out.mono ?_
      rintro e w2 ⟨rfl, rfl⟩
      have h2 : decide (0 ≤ fiI l inn) = false := decide_eq_false (by omega)
      clear he2
      go_wp2_with fail
      go_ret
      exact ⟨by rw [HY.out]; rfl, HB.out⟩
  have he1 := txt_ne he
  have HEM := Lib.hid he
  clear he
  go_wp2_with fail
  refine HIN.out.mono ?_
  rintro e w2 ⟨rfl, rfl⟩
  by_cases hp : 0 ≤ fiI l inn
  rotate_left
  · have HY := Lib.hid (HL2.out (fun h => by rcases h with h | h; exact HEM.out h.1; exact hp h.1))
    have hq3 : decide (0 ≤ fiI l inn) = false := decide_eq_false hp
    clear hp
    go_wp2_with fail
    go_ret
    exact ⟨by rw [HY.out]; rfl, HB.out⟩
  have HP3 := Lib.hid hp
  have hq3 : decide (0 ≤ fiI l inn) = true := decide_eq_true hp
  clear hp
  go_wp2_with fail
  by_cases h0 : 0 ≤ qy ∧ qy ≤ 1000
  · have HY := Lib.hid (HL.out (Or.inr ⟨HP3.out, h0⟩))
    refine (spec_in_is qy 0 1000 true _ (inB_yes h0.1 h0.2)).mono ?_
    rintro e w2 ⟨rfl, rfl⟩
    clear h0
    go_wp2_with fail
    go_ret
    exact ⟨by rw [HY.out]; rfl, HB.out⟩
  · have HY := Lib.hid (HL2.out (fun h => by rcases h with h | h; exact HEM.out h.1; exact h0 h.2))
    refine (spec_in_is qy 0 1000 false _ (inB_no (by omega))).mono ?_
    rintro e w2 ⟨rfl, rfl⟩
    clear h0
    go_wp2_with fail
    go_ret
    exact ⟨by rw [HY.out]; rfl, HB.out⟩
end Go.Proofs.Ytdhldokpojghdaa
