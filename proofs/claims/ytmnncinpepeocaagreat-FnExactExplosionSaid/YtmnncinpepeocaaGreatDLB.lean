/-
 slices.IndexFunc and slices.DeleteFunc over a slice of BillLine of the call's own.
-/
import Derived.Test.YtmnncinpepeocaaGreatRows
import Derived.Test.YtmnncinpepeocaaGreatOwnN
import Derived.Test.YtmnncinpepeocaaGreatBuWay
import Derived.Test.YtmnncinpepeocaaGreatBuA
import Derived.WalkKit
import Derived.WalkSpells
import Derived.WalkSmall
import Derived.BigQuiet
import Derived.OneCell
import Derived.Deep.QuietTactic
import Derived.Deep.DeepCutAuto
import Derived.Laws.OwnMore
import Derived.Lib.Hide
namespace Go.Proofs.YtmnncinpepeocaaGreat
open Go.RowKit

/-- What a record is. -/
def DLB.Ty (r : NR) : Prop := ∃ (s0 : ByteArray) (s1 : ByteArray) (z2 : Int) (z3 : Int) (z4 : Int) (a5 : Option Addr) (n5 k5 : Nat), r.cs = [.string s0, .string s1, .int .i64 z2, .int .i64 z3, .int .i64 z4, .slice a5 n5 k5]
theorem DLB.Ty.len {r : NR} (h : DLB.Ty r) : r.cs.length = 6 := by
 obtain ⟨s0, s1, z2, z3, z4, a5, n5, k5, h⟩ := h
 rw [h]; rfl
/-- The test, at each record. -/
def DLB.Test (es : List NR) (ps : Nat → Bool) (g : Nat) (b0 b1 : Nat) (w : World) : Prop := ∀ (j : Nat) (hj : j < es.length) (w' : World), w.grownBy w' (some g) → Calls Tryz.prog 87 #[.agg (es[j]'hj).cs.toArray, .pointer (some ⟨b0, 0, none⟩), .pointer (some ⟨b1, 0, none⟩)] w' (BoolRes (ps j) w')

set_option maxRecDepth 100000 in
set_option maxHeartbeats 1000000 in
theorem DLB.idx (base g cap b0 b1 : Nat) (es : List NR) (ps : Nat → Bool) (w : World) (hty : ∀ r, r ∈ es → DLB.Ty r) (hown : w.ownsRow base 94 6 (.slice (some ⟨g, 0, none⟩) es.length cap) es.length (flatN es)) (hm : es.length ≤ maxLen) (hp : DLB.Test es ps g b0 b1 w) :
 Calls Tryz.prog 112 #[.slice (some ⟨g, 0, none⟩) es.length cap, .func (.func 87) #[] #[.pointer (some ⟨b0, 0, none⟩), .pointer (some ⟨b1, 0, none⟩)]] w (IdxR es.length ps w) := by
 have HO := Lib.hid hown
 have HT := Lib.hid hty
 have hlen : ∀ r, r ∈ es → r.cs.length = 6 := fun r hr => (hty r hr).len
 have HL := Lib.hid hlen
 have hm2 : es.length ≤ 9223372036854775807 := hm
 have HP := Lib.hid hp
 clear hown hlen hp hty
 go_enter Tryz.func112, Tryz.ntmps112
 go_wp2_with fail
 go_loopw [8] (fun i wr => ∃ j : Nat, j ≤ es.length ∧ i = .int .i64 j ∧ Hid (∀ t, t < j → ps t = false) ∧ Hid (Below w.heap.size w wr)) (fun i _ => es.length - (intOf i).toNat)
 case atStart => exact ⟨0, Nat.zero_le _, rfl, Lib.hid (fun t ht => by omega), Lib.hid (Below.refl _ _)⟩
 case round =>
  obtain ⟨j, hj, rfl, HF, HB⟩ := hrel
  by_cases hlt : j < es.length
  · have HJ := Lib.hid hlt
    have HC := Lib.hid (HP.out j hlt wr (grown_of_belowL HB.out _))
    have HOW := Lib.hid (own_keepL HO.out HB.out)
    obtain ⟨s0, s1, z2, z3, z4, a5, n5, k5, he⟩ := HT.out _ (List.getElem_mem hlt)
    have HE := Lib.hid he
    rw [he] at HC
    have h0 := flatN_get HL.out j hlt 0 (by omega)
    rw [Nat.add_zero] at h0
    have q0 : wr.cell? ⟨g, j * 6, none⟩ = some (.string s0) := by rw [HOW.out.cellAt (j * 6) (by omega), h0, he]; rfl
    clear h0
    have h1 := flatN_get HL.out j hlt 1 (by omega)
    have q1 : wr.cell? ⟨g, j * 6 + 1, none⟩ = some (.string s1) := by rw [HOW.out.cellAt (j * 6 + 1) (by omega), h1, he]; rfl
    clear h1
    have h2 := flatN_get HL.out j hlt 2 (by omega)
    have q2 : wr.cell? ⟨g, j * 6 + 2, none⟩ = some (.int .i64 z2) := by rw [HOW.out.cellAt (j * 6 + 2) (by omega), h2, he]; rfl
    clear h2
    have h3 := flatN_get HL.out j hlt 3 (by omega)
    have q3 : wr.cell? ⟨g, j * 6 + 3, none⟩ = some (.int .i64 z3) := by rw [HOW.out.cellAt (j * 6 + 3) (by omega), h3, he]; rfl
    clear h3
    have h4 := flatN_get HL.out j hlt 4 (by omega)
    have q4 : wr.cell? ⟨g, j * 6 + 4, none⟩ = some (.int .i64 z4) := by rw [HOW.out.cellAt (j * 6 + 4) (by omega), h4, he]; rfl
    clear h4
    have h5 := flatN_get HL.out j hlt 5 (by omega)
    have q5 : wr.cell? ⟨g, j * 6 + 5, none⟩ = some (.slice a5 n5 k5) := by rw [HOW.out.cellAt (j * 6 + 5) (by omega), h5, he]; rfl
    clear h5
    clear he
    go_wp2_with fail
    refine HC.out.mono ?_
    rintro e w1 ⟨rfl, hb⟩
    have HB1 := Lib.hid (HB.out.trans (hb.mono HB.out.size))
    clear hb HC
    obtain ⟨y, hy⟩ : ∃ y, ps j = y := ⟨_, rfl⟩
    have HY := Lib.hid hy
    rw [hy]
    clear hy
    cases y with
    | true =>
     go_wp2_with fail
     go_ret
     exact ⟨_, rfl, Or.inr ⟨j, HJ.out, rfl, HY.out, HF.out⟩, HB1⟩
    | false =>
     go_wp2_with fail
     go_roundw
     case rel => exact ⟨j + 1, HJ.out, by go_num, Lib.hid (fun t ht => by
      rcases Nat.lt_or_ge t j with h1 | h1
      · exact HF.out t h1
      · obtain rfl : t = j := by omega
        exact HY.out), HB1⟩
     case measure => have := HJ.out; simp [intOf]; omega
  · have HN := Lib.hid hlt
    go_wp2_with fail
    go_ret
    exact ⟨_, rfl, Or.inl ⟨rfl, fun t ht => HF.out t (by have := HN.out; omega)⟩, HB⟩

/-- An empty slice. -/
theorem DLB.idx0 (a : Option Addr) (c b0 b1 : Nat) (w : World) :
 Calls Tryz.prog 112 #[.slice a 0 c, .func (.func 87) #[] #[.pointer (some ⟨b0, 0, none⟩), .pointer (some ⟨b1, 0, none⟩)]] w fun e w' => e = .returned (.int .i64 (-1)) ∧ Hid (Below w.heap.size w w') := by
 go_enter Tryz.func112, Tryz.ntmps112
 go_wp2_with fail
 go_loopw [8] (fun i wr => i = .int .i64 0 ∧ Hid (Below w.heap.size w wr)) (fun _ _ => 0)
 case atStart => exact ⟨rfl, Lib.hid (Below.refl _ _)⟩
 case round =>
  obtain ⟨rfl, HB⟩ := hrel
  go_wp2_with fail
  go_ret
  exact ⟨rfl, HB⟩
theorem DLB.del0 (a : Option Addr) (c b0 b1 : Nat) (w : World) :
 Calls Tryz.prog 89 #[.slice a 0 c, .func (.func 87) #[] #[.pointer (some ⟨b0, 0, none⟩), .pointer (some ⟨b1, 0, none⟩)]] w fun e w' => e = .returned (.slice a 0 c) ∧ Hid (Below w.heap.size w w') := by
 go_enter Tryz.func89, Tryz.ntmps89
 go_wp2_with fail
 refine (DLB.idx0 a c b0 b1 _).mono ?_
 rintro e w1 ⟨rfl, HB⟩
 go_wp2_with fail
 go_ret
 exact ⟨rfl, HB⟩
/-- What is left over. -/
def DLB.Left (base g cap : Nat) (es : List NR) (ps : Nat → Bool) (w : World) (e : Ending) (w' : World) : Prop :=
 e = .returned (.slice (some ⟨g, 0, none⟩) (keptN es ps es.length).length cap) ∧ Hid (w'.ownsRow base 94 6 (.slice (some ⟨g, 0, none⟩) (keptN es ps es.length).length cap) (keptN es ps es.length).length (flatN (keptN es ps es.length))) ∧ Hid (w.grownBy w' (some g))
theorem DLB.zval (w : World) : (zeroValue 94).run Tryz.prog w = .ok (.agg #[.string ByteArray.empty, .string ByteArray.empty, .int .i64 0, .int .i64 0, .int .i64 0, .slice none 0 0]) w := by kernel_rfl
theorem DLB.zinfo : ∃ z, (∀ w, (zeroValue 94).run Tryz.prog w = .ok z w) ∧ z.cells.size = 6 ∧ 0 < 6 ∧ ∀ v ∈ z.cells.toList, v.oneCell' = true := ⟨_, DLB.zval, by kernel_rfl, by decide, by simp [Value.cells, Value.oneCell']⟩

set_option maxRecDepth 100000 in
set_option maxHeartbeats 2000000 in
theorem DLB.del (base g cap b0 b1 : Nat) (es : List NR) (ps : Nat → Bool) (w : World) (hty : ∀ r, r ∈ es → DLB.Ty r) (hown : w.ownsRow base 94 6 (.slice (some ⟨g, 0, none⟩) es.length cap) es.length (flatN es)) (hm : es.length ≤ maxLen) (hp : DLB.Test es ps g b0 b1 w) :
 Calls Tryz.prog 89 #[.slice (some ⟨g, 0, none⟩) es.length cap, .func (.func 87) #[] #[.pointer (some ⟨b0, 0, none⟩), .pointer (some ⟨b1, 0, none⟩)]] w (DLB.Left base g cap es ps w) := by
 have HO := Lib.hid hown
 have HT := Lib.hid hty
 have hlen : ∀ r, r ∈ es → r.cs.length = 6 := fun r hr => (hty r hr).len
 have HL := Lib.hid hlen
 have hm2 : es.length ≤ 9223372036854775807 := hm
 have HP := Lib.hid hp
 have HI := Lib.hid (DLB.idx base g cap b0 b1 es ps w hty hown hm hp)
 have hgw := (hown.lt g rfl).2
 have hcap : es.length ≤ cap ∧ cap ≤ maxLen := own_cap hown
 clear hown hlen hp hty
 go_enter Tryz.func89, Tryz.ntmps89
 go_wp2_with fail
 refine HI.out.mono ?_
 rintro e w1 ⟨r, rfl, hr, HB1⟩
 clear HI
 rcases hr with ⟨rfl, hr⟩ | ⟨k, hk, rfl, hkp, hkn⟩
 · have HE := Lib.hid (keptN_none es ps es.length (Nat.le_refl _) hr)
   go_wp2_with fail
   go_ret
   unfold DLB.Left
   rw [HE.out, List.take_length]
   exact ⟨rfl, Lib.hid (own_keepL HO.out HB1.out), Lib.hid (grown_of_belowL HB1.out _)⟩
 have HS0 : Hid (DelSt 6 es ps (k + 1) k (flatN es)) := Lib.hid (DelSt.start HL.out hk hkp hkn)
 have HO1 := Lib.hid (own_keepL HO.out HB1.out)
 have HG1 : Hid (w.grownBy w1 (some g)) := Lib.hid (grown_of_belowL HB1.out _)
 have HK := Lib.hid hk
 clear hkp hkn HB1 HO
 have hkb : ((k : Int) == -1) = false := beq_eq_false_iff_ne.2 (by omega)
 go_wp2_with fail
 go_loopw [5, 6] (fun i j wr => ∃ (m q : Nat) (L : List Value), m < q ∧ q ≤ es.length ∧ i = .int .i64 m ∧ j = .int .i64 q ∧ Hid (DelSt 6 es ps q m L) ∧ Hid (wr.ownsRow base 94 6 (.slice (some ⟨g, 0, none⟩) es.length cap) es.length L) ∧ Hid (w.grownBy wr (some g))) (fun _ j _ => es.length - (intOf j).toNat)
 case atStart => exact ⟨k, k + 1, _, by omega, hk, rfl, by go_num, HS0, HO1, HG1⟩
 case round =>
  obtain ⟨m, j, L, hmj, hj, rfl, rfl, HS, HO, HG⟩ := hrel
  clear HS0 HO1 HG1
  by_cases hlt : j < es.length
  · have HJ := Lib.hid hlt
    have hgr : g < wr.heap.size := (HO.out.lt g rfl).2
    obtain ⟨s0, s1, z2, z3, z4, a5, n5, k5, he⟩ := HT.out _ (List.getElem_mem hlt)
    have HE := Lib.hid he
    have h0 := flatN_get HL.out j hlt 0 (by omega)
    rw [Nat.add_zero] at h0
    have q0 : wr.cell? ⟨g, j * 6, none⟩ = some (.string s0) := by rw [HO.out.cellAt (j * 6) (by omega), HS.out.rest (j * 6) (by omega), h0, he]; rfl
    clear h0
    have h1 := flatN_get HL.out j hlt 1 (by omega)
    have q1 : wr.cell? ⟨g, j * 6 + 1, none⟩ = some (.string s1) := by rw [HO.out.cellAt (j * 6 + 1) (by omega), HS.out.rest (j * 6 + 1) (by omega), h1, he]; rfl
    clear h1
    have h2 := flatN_get HL.out j hlt 2 (by omega)
    have q2 : wr.cell? ⟨g, j * 6 + 2, none⟩ = some (.int .i64 z2) := by rw [HO.out.cellAt (j * 6 + 2) (by omega), HS.out.rest (j * 6 + 2) (by omega), h2, he]; rfl
    clear h2
    have h3 := flatN_get HL.out j hlt 3 (by omega)
    have q3 : wr.cell? ⟨g, j * 6 + 3, none⟩ = some (.int .i64 z3) := by rw [HO.out.cellAt (j * 6 + 3) (by omega), HS.out.rest (j * 6 + 3) (by omega), h3, he]; rfl
    clear h3
    have h4 := flatN_get HL.out j hlt 4 (by omega)
    have q4 : wr.cell? ⟨g, j * 6 + 4, none⟩ = some (.int .i64 z4) := by rw [HO.out.cellAt (j * 6 + 4) (by omega), HS.out.rest (j * 6 + 4) (by omega), h4, he]; rfl
    clear h4
    have h5 := flatN_get HL.out j hlt 5 (by omega)
    have q5 : wr.cell? ⟨g, j * 6 + 5, none⟩ = some (.slice a5 n5 k5) := by rw [HO.out.cellAt (j * 6 + 5) (by omega), HS.out.rest (j * 6 + 5) (by omega), h5, he]; rfl
    clear h5
    clear he
    have HA : Hid ((wr.alloc (.cells #[.string s0, .string s1, .int .i64 z2, .int .i64 z3, .int .i64 z4, .slice a5 n5 k5] 94)).heap[wr.heap.size]? = some (.cells #[.string s0, .string s1, .int .i64 z2, .int .i64 z3, .int .i64 z4, .slice a5 n5 k5] 94)) := Lib.hid (heap_alloc_new _ _)
    have HBA : Hid (Below wr.heap.size wr (wr.alloc (.cells #[.string s0, .string s1, .int .i64 z2, .int .i64 z3, .int .i64 z4, .slice a5 n5 k5] 94))) := Lib.hid ((Below.refl _ _).alloc (Nat.le_refl _) _)
    have HGA : Hid (w.grownBy (wr.alloc (.cells #[.string s0, .string s1, .int .i64 z2, .int .i64 z3, .int .i64 z4, .slice a5 n5 k5] 94)) (some g)) := Lib.hid (World.grownBy.trans HG.out (grown_of_belowL HBA.out _))
    have HC := Lib.hid (HP.out j hlt _ HGA.out)
    have HOA := Lib.hid (own_keepL HO.out HBA.out)
    rw [HE.out] at HC
    go_upto_region 8 with fail
    generalize wr.alloc (.cells #[.string s0, .string s1, .int .i64 z2, .int .i64 z3, .int .i64 z4, .slice a5 n5 k5] 94) = wa at *
    clear q0 q1 q2 q3 q4 q5 HO HG HBA
    have p0 := cell_of_row _ _ 0 _ _ _ HA.out
    have p1 := cell_of_row _ _ 1 _ _ _ HA.out
    have p2 := cell_of_row _ _ 2 _ _ _ HA.out
    have p3 := cell_of_row _ _ 3 _ _ _ HA.out
    have p4 := cell_of_row _ _ 4 _ _ _ HA.out
    have p5 := cell_of_row _ _ 5 _ _ _ HA.out
    go_wp2_with fail
    refine HC.out.mono ?_
    rintro e w2 ⟨rfl, hb⟩
    have HA2 := Lib.hid (blk_below HA.out hb)
    have HO2 := Lib.hid (own_keepL HOA.out hb)
    have HG2 : Hid (w.grownBy w2 (some g)) := Lib.hid (World.grownBy.trans HGA.out (grown_of_belowL hb _))
    clear hb HC HA HOA HGA p0 p1 p2 p3 p4 p5
    obtain ⟨y, hy⟩ : ∃ y, ps j = y := ⟨_, rfl⟩
    have HY := Lib.hid hy
    rw [hy]
    clear hy
    cases y with
    | true =>
     have HS2 := Lib.hid (HS.out.skip HY.out)
     go_wp2_with fail
     go_roundw
     case rel => exact ⟨m, j + 1, L, by omega, HJ.out, rfl, by go_num, HS2, HO2, HG2⟩
     case measure => have := HJ.out; simp [intOf]; omega
    | false =>
     have HS2 := Lib.hid (HS.out.keep HL.out HJ.out hmj HY.out)
     have HO3 := Lib.hid (own_putC (g := g) (es[j]'HJ.out).cs (m * 6) HO2.out)
     have HG3 : Hid (w.grownBy (putC w2 g (m * 6) (es[j]'HJ.out).cs) (some g)) := Lib.hid (World.grownBy.trans HG2.out (putC_grown g _ _ _))
     rw [HE.out] at HS2 HO3 HG3
     have p0 := cell_of_row _ _ 0 _ _ _ HA2.out
     have p1 := cell_of_row _ _ 1 _ _ _ HA2.out
     have p2 := cell_of_row _ _ 2 _ _ _ HA2.out
     have p3 := cell_of_row _ _ 3 _ _ _ HA2.out
     have p4 := cell_of_row _ _ 4 _ _ _ HA2.out
     have p5 := cell_of_row _ _ 5 _ _ _ HA2.out
     obtain ⟨⟨z0, y0⟩, f0⟩ := own_cellw HO2.out (m * 6) (by omega)
     obtain ⟨⟨z1, y1⟩, f1⟩ := own_cellw HO2.out (m * 6 + 1) (by omega)
     obtain ⟨⟨z2, y2⟩, f2⟩ := own_cellw HO2.out (m * 6 + 2) (by omega)
     obtain ⟨⟨z3, y3⟩, f3⟩ := own_cellw HO2.out (m * 6 + 3) (by omega)
     obtain ⟨⟨z4, y4⟩, f4⟩ := own_cellw HO2.out (m * 6 + 4) (by omega)
     obtain ⟨⟨z5, y5⟩, f5⟩ := own_cellw HO2.out (m * 6 + 5) (by omega)
     have hm0 : (0 : Int) ≤ (m : Int) := by omega
     have hm1 : (m : Int) < (es.length : Int) := by omega
     go_wp2_with fail
     go_roundw
     case rel => exact ⟨m + 1, j + 1, _, by omega, HJ.out, by go_num, by go_num, HS2, HO3, HG3⟩
     case measure => have := HJ.out; simp [intOf]; omega
  · obtain rfl : j = es.length := by omega
    obtain ⟨zs, hzl, hcl⟩ := run_clear_row Tryz.prog wr 25 94 g (m * 6) (es.length - m) (cap - m) 6 Tryz.underlying25 DLB.zinfo (by omega) (fun t ht => (own_cellw HO.out (m * 6 + t) (by omega)))
    have HO3 := Lib.hid (own_putC (g := g) zs (m * 6) HO.out)
    have HG3 : Hid (w.grownBy (putC wr g (m * 6) zs) (some g)) := Lib.hid (World.grownBy.trans HG.out (putC_grown g _ _ _))
    have HF := Lib.hid (HS.out.fin HL.out zs)
    have HM := Lib.hid HS.out.cnt
    have hmc : m ≤ cap := by omega
    go_wp2_with (simp only [hcl])
    go_ret
    unfold DLB.Left
    rw [← HM.out]
    refine ⟨rfl, Lib.hid ?_, HG3⟩
    have := own_cut HO3.out (m := m) (by omega)
    rw [HF.out] at this
    exact this
end Go.Proofs.YtmnncinpepeocaaGreat
