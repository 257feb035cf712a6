/-
 The model's l10Times, l10Plus and l10Order.
-/
import Derived.Test.YtmnncinpepeocaaGreatBuWay
import Derived.Test.YtmnncinpepeocaaGreatLevSpec
import Derived.Test.YtmnncinpepeocaaGreatBuA
import Derived.WalkKit
import Derived.WalkSpells
import Derived.WalkSmall
import Derived.BigQuiet
import Derived.OneCell
import Derived.Deep.QuietTactic
import Derived.Deep.DeepCutAuto
import Derived.Laws.OwnMore
import Derived.Lib.Hide
namespace Go.Proofs.YtmnncinpepeocaaGreat
open Go.RowKit

set_option maxRecDepth 100000 in
set_option maxHeartbeats 1000000 in
theorem spec_times (n : Nat) (q : Int) (w : World) (hq : 1 ≤ q) (hq2 : q ≤ 1000) : Calls Tryz.prog 64 #[.int .i64 (capI n), .int .i64 q] w fun e w' => e = .returned (.int .i64 (capI (n * q.toNat))) ∧ w' = w := by
 obtain ⟨k, rfl⟩ : ∃ k : Nat, q = (k : Int) := ⟨q.toNat, by omega⟩
 rw [Int.toNat_natCast]
 have hk : 1 ≤ k := by omega
 have dq : decide ((k : Int) < 0) = false := decide_eq_false (by omega)
 by_cases hn : n ≤ 1000000000
 rotate_left
 · have h2 : ¬n * k ≤ 1000000000 := fun h => hn (Nat.le_trans (Nat.le_mul_of_pos_right n hk) h)
   rw [capI_no hn, capI_no h2]
   go_enter Tryz.func64, Tryz.ntmps64
   go_wp2_with fail
   go_ret
   exact ⟨rfl, rfl⟩
 rw [capI_yes hn]
 have dn : decide ((n : Int) < 0) = false := decide_eq_false (by omega)
 by_cases h0 : n = 0
 · subst h0
   rw [Nat.zero_mul, capI_yes (by omega)]
   go_enter Tryz.func64, Tryz.ntmps64
   go_wp2_with fail
   go_ret
   exact ⟨by simp, rfl⟩
 have dp : decide (0 < n) = true := decide_eq_true (by omega)
 have hdiv : (1000000000 : Int).tdiv (n : Int) = ((1000000000 / n : Nat) : Int) := by
  rw [Int.tdiv_eq_ediv_of_nonneg (by omega)]; rfl
 have hdl : 1000000000 / n ≤ 1000000000 := Nat.div_le_self _ _
 have hiff : 1000000000 / n < k ↔ ¬n * k ≤ 1000000000 := by
  rw [Nat.div_lt_iff_lt_mul (by omega), Nat.mul_comm k n]; omega
 have hdiv2 : (1000000000 : Int) / (n : Int) = ((1000000000 / n : Nat) : Int) := rfl
 generalize 1000000000 / n = d at *
 by_cases h2 : n * k ≤ 1000000000
 · have hd : decide (d < k) = false := decide_eq_false (fun h => hiff.1 h h2)
   have hd2 : decide ((d : Int) < (k : Int)) = false := decide_eq_false (fun h => hiff.1 (by omega) h2)
   rw [capI_yes h2]
   have hb : 0 ≤ (n : Int) * (k : Int) ∧ (n : Int) * (k : Int) ≤ 1000000000 := by rw [← Int.natCast_mul]; omega
   rw [Int.natCast_mul]
   go_enter Tryz.func64, Tryz.ntmps64
   go_wp2_with fail
   go_ret
   exact ⟨rfl, rfl⟩
 · have hd : decide (d < k) = true := decide_eq_true (hiff.2 h2)
   have hd2 : decide ((d : Int) < (k : Int)) = true := decide_eq_true (by have := hiff.2 h2; omega)
   rw [capI_no h2]
   go_enter Tryz.func64, Tryz.ntmps64
   go_wp2_with fail
   go_ret
   exact ⟨rfl, rfl⟩

set_option maxRecDepth 100000 in
set_option maxHeartbeats 1000000 in
theorem spec_plus (m n : Nat) (w : World) : Calls Tryz.prog 63 #[.int .i64 (capI m), .int .i64 (capI n)] w fun e w' => e = .returned (.int .i64 (capI (m + n))) ∧ w' = w := by
 by_cases hm : m ≤ 1000000000
 rotate_left
 · rw [capI_no hm, capI_no (show ¬m + n ≤ 1000000000 by omega)]
   go_enter Tryz.func63, Tryz.ntmps63
   go_wp2_with fail
   go_ret
   exact ⟨rfl, rfl⟩
 have d0 : decide ((m : Int) < 0) = false := decide_eq_false (by omega)
 by_cases hn : n ≤ 1000000000
 rotate_left
 · rw [capI_yes hm, capI_no hn, capI_no (show ¬m + n ≤ 1000000000 by omega)]
   go_enter Tryz.func63, Tryz.ntmps63
   go_wp2_with fail
   go_ret
   exact ⟨rfl, rfl⟩
 have d1 : decide ((n : Int) < 0) = false := decide_eq_false (by omega)
 rw [capI_yes hm, capI_yes hn]
 by_cases h2 : m + n ≤ 1000000000
 · have d2 : decide (1000000000 < (m : Int) + (n : Int)) = false := decide_eq_false (by omega)
   rw [capI_yes h2]
   go_enter Tryz.func63, Tryz.ntmps63
   go_wp2_with fail
   go_ret
   exact ⟨by simp, rfl⟩
 · have d2 : decide (1000000000 < (m : Int) + (n : Int)) = true := decide_eq_true (by omega)
   rw [capI_no h2]
   go_enter Tryz.func63, Tryz.ntmps63
   go_wp2_with fail
   go_ret
   exact ⟨rfl, rfl⟩

theorem cellsLv_snoc (xs : List Nat) (x : Nat) : cellsLv xs ++ [.int .i64 (x : Int)] = cellsLv (xs ++ [x]) := by unfold cellsLv; simp
/-- What l10Order gives. -/
def OrdRes (vs : List Nat) (n : Nat) (w : World) (e : Ending) (w' : World) : Prop := ∃ v', e = .returned v' ∧ Hid (w'.ownsRow w.heap.size 3 1 v' (ordL vs n n).length (cellsLv (ordL vs n n))) ∧ Hid (Below w.heap.size w w')

set_option maxRecDepth 100000 in
set_option maxHeartbeats 2000000 in
theorem spec_order (base : Nat) (v : Value) (vs : List Nat) (w : World) (h : w.ownsRow base 3 1 v vs.length (cellsLv vs)) (hn : vs.length ≤ 12) :
 Calls Tryz.prog 60 #[v] w (OrdRes vs vs.length w) := by
 obtain ⟨i0, hif, hz0, hz1, hz2⟩ := info_parts infoN
 have HV := Lib.hid h
 obtain ⟨a, c, rfl⟩ := own_sliceN h
 have HW0 : Hid ((w.alloc (.cells #[] 3)).ownsRow w.heap.size 3 1 (.slice (some ⟨w.heap.size, 0, none⟩) 0 0) 0 []) := Lib.hid (own_empty (Nat.le_refl _))
 have HB0 : Hid (Below w.heap.size w (w.alloc (.cells #[] 3))) := Lib.hid ((Below.refl _ _).alloc (Nat.le_refl _) _)
 clear h
 go_enter Tryz.func60, Tryz.ntmps60
 go_wp2_with fail
 go_loopw [3, 4] (fun x i wr => ∃ (k : Nat) (a' : Option Addr) (c' : Nat), k ≤ vs.length ∧ i = .int .i64 k ∧ x = .slice a' (ordL vs vs.length k).length c' ∧ Hid (wr.ownsRow w.heap.size 3 1 (.slice a' (ordL vs vs.length k).length c') (ordL vs vs.length k).length (cellsLv (ordL vs vs.length k))) ∧ Hid (Below w.heap.size w wr)) (fun _ i _ => vs.length - (intOf i).toNat)
 case atStart => exact ⟨0, _, _, Nat.zero_le _, rfl, rfl, HW0, HB0⟩
 case round =>
  clear HW0 HB0
  obtain ⟨k, a', c', hk, rfl, rfl, HO, HB⟩ := hrel
  by_cases hlt : k < vs.length
  rotate_left
  · have hke : k = vs.length := by omega
    subst hke
    go_wp2_with fail
    go_ret
    exact ⟨_, rfl, HO, HB⟩
  have HLT := Lib.hid hlt
  have HP0 : Hid (ordP vs vs.length k 0 = ordL vs vs.length k) := Lib.hid (ordP_zero _ _ _)
  go_wp2_with fail
  go_loopw [3, 5] (fun x i wr => ∃ (j : Nat) (a' : Option Addr) (c' : Nat), j ≤ vs.length ∧ i = .int .i64 j ∧ x = .slice a' (ordP vs vs.length k j).length c' ∧ Hid (wr.ownsRow w.heap.size 3 1 (.slice a' (ordP vs vs.length k j).length c') (ordP vs vs.length k j).length (cellsLv (ordP vs vs.length k j))) ∧ Hid (Below w.heap.size w wr)) (fun _ i _ => vs.length - (intOf i).toNat)
  case atStart => exact ⟨0, a', c', Nat.zero_le _, rfl, by rw [HP0.out], by rw [HP0.out]; exact HO, HB⟩
  case round =>
   clear HO HB HP0
   obtain ⟨j, a', c', hj, rfl, rfl, HO, HB⟩ := hrel
   by_cases hjl : j < vs.length
   rotate_left
   · have hje : j = vs.length := by omega
     subst hje
     have HE : Hid (ordP vs vs.length k vs.length = ordL vs vs.length (k + 1)) := Lib.hid (ordP_all _ _ _)
     rw [HE.out] at HO ⊢
     go_wp2_with fail
     go_roundw
     case rel => exact ⟨k + 1, _, _, HLT.out, by go_num, rfl, HO, HB⟩
     case measure => have := HLT.out; simp [intOf]; omega
   have HJL := Lib.hid hjl
   obtain ⟨g, cg, hvg, hg1, hg2⟩ := own_pos (own_keepL HV.out HB.out) (show 0 < vs.length by omega)
   simp only [Value.slice.injEq] at hvg
   obtain ⟨rfl, _, rfl⟩ := hvg
   have hcell : wr.cell? ⟨g, j, none⟩ = some (.int .i64 ((lv vs j : Nat) : Int)) := by
    rw [(own_keepL HV.out HB.out).cellAt j (by omega)]
    exact cellsLv_get hjl
   have hlen := ordP_len vs (n := vs.length) (v := k) (i := j) (by omega) (by omega) hn
   by_cases he : lv vs j = k
   rotate_left
   · have HE : Hid (ordP vs vs.length k (j + 1) = ordP vs vs.length k j) := Lib.hid (ordP_no he)
     have hd : (((lv vs j : Nat) : Int) == (k : Int)) = false := beq_eq_false_iff_ne.2 (fun e => he (by omega))
     go_wp2_with fail
     go_roundw
     case rel => exact ⟨j + 1, _, _, HJL.out, by go_num, by rw [HE.out], by rw [HE.out]; exact HO, HB⟩
     case measure => have := HJL.out; simp [intOf]; omega
   have HE : Hid (ordP vs vs.length k (j + 1) = ordP vs vs.length k j ++ [j]) := Lib.hid (ordP_yes he)
   rw [he] at hcell
   clear he
   have hbw := HB.out.size
   go_wp2_with (at_builtin; refine wpList_append_own _ rfl _ _ 37 rfl w.heap.size 3 i0 (.int .i64 0) 1 8 Tryz.underlying37 hif hz0 hz1 hz2 rfl (by decide) (.slice a' (ordP vs vs.length k j).length c') (ordP vs vs.length k j).length (cellsLv (ordP vs vs.length k j)) rfl (own_keepL HO.out ((Below.refl _ _).alloc (Nat.le_refl _) _)) ⟨wr.heap.size, 0, none⟩ 1 1 [.int .i64 (j : Int)] rfl rfl (new_1 _ _ _) (by intro u hu; simp at hu; rcases hu with rfl; rfl) (by unfold maxLen; omega) (by omega) (by simp; omega) ?_)
   intro v5 w5 ho hg _
   rw [cellsLv_snoc, ← HE.out] at ho
   have hln : (ordP vs vs.length k j).length + 1 = (ordP vs vs.length k (j + 1)).length := by rw [HE.out, List.length_append]; rfl
   rw [hln] at ho
   obtain ⟨a5, c5, rfl⟩ := own_sliceN ho
   have hba : Below wr.heap.size wr (wr.alloc (.cells #[.int .i64 (j : Int)] 3)) := (Below.refl _ _).alloc (Nat.le_refl _) _
   have HB5 : Hid (Below w.heap.size w w5) := Lib.hid ((HB.out.trans (hba.mono HB.out.size)).grown hg (HB.out.trans (hba.mono HB.out.size)).size (fun b hb => (HO.out.lt b hb).1))
   have HO5 := Lib.hid ho
   clear ho hg hba hcell hln
   go_wp2_with fail
   go_roundw
   case rel => exact ⟨j + 1, _, _, HJL.out, by go_num, rfl, HO5, HB5⟩
   case measure => have := HJL.out; simp [intOf]; omega
end Go.Proofs.YtmnncinpepeocaaGreat
