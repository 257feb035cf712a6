/-
  The model's l6Simple, l6And, l6Or and ParseCond.
-/
import Derived.Test.YtghofgjlmfdnpaaCondTake
import Derived.Test.YtghofgjlmfdnpaaCNTo
import Derived.Test.YtghofgjlmfdnpaaCondNeg
import Derived.WalkKit
import Derived.WalkSpells
import Derived.WalkSmall
import Derived.Laws.AppendOwn
import Derived.BigQuiet
import Derived.Deep.QuietTactic
import Derived.Deep.DeepCutAuto
import Derived.Deep.RegionHeld3
import Derived.Lib.Hide
namespace Go.Proofs.Ytghofgjlmfdnpaa
open Go.RowKit

/-- A part of the reader, in memory. -/
def RunsAs (f : FuncId) (S : RS → RS) (b : Nat) (s : ByteArray) (dp : Int) : Prop := ∀ (r : RS) (w : World), RdS b s r dp w → r.i ≤ s.size → r.out.length ≤ r.i →
  Calls Try.prog f #[.pointer (some ⟨b, 0, none⟩)] w fun e w' => e = .returned (.tuple #[]) ∧ RdS b s (S r) dp w' ∧ Below b w w'
/-- A node put behind. -/
theorem pushed {b : Nat} {s : ByteArray} {r : RS} {dp : Int} {w w4 : World} {v v4 : Value} {o : Obj} {x : CN} (HG : w.heap[b]? = some (.cells #[.string s, .int .i64 r.i, v, .bool r.bad, .int .i64 dp] 87 (0, 0)))
    (HO : w.ownsRow (b + 1) 43 3 v r.out.length (CN.cells r.out)) (ho : w4.ownsRow (b + 1) 43 3 v4 (r.out.length + 1) (CN.cells r.out ++ [.int .i64 x.kind, .string x.opt, .string x.vl])) (hg : (w.alloc o).grownBy w4 v.ownBlock) :
    RdS b s (r.push x) dp (w4.setCell ⟨b, 2, none⟩ v4) ∧ Below b w (w4.setCell ⟨b, 2, none⟩ v4) := by
  have hb := lt_of_heap HG
  have hv : ∀ k, v.ownBlock = some k → b + 1 ≤ k := fun k hk => (HO.lt k hk).1
  have HG4 := blk_grownL (blk_alloc HG o) hg (fun e => by have := hv b e.symm; omega)
  have hs := hg.size
  have hsz : b < w4.heap.size := by have : w.heap.size + 1 ≤ w4.heap.size := by simpa using hs
                                    omega
  refine ⟨⟨v4, heap_setCell_same w4 b 2 _ _ v4 HG4, ?_, by simpa using hsz⟩, ?_⟩
  · have h2 := own_setL (g := b) (j := 2) ho (by omega) v4
    have e : (r.push x).out = r.out ++ [x] := rfl
    rw [e, ← CN.cells_push, List.length_append, List.length_singleton]
    exact h2
  · have h1 : Below b w w4 := (((Below.refl b w).alloc (by omega) o)).grown hg (by simp; omega) (fun j hj => by have := hv j hj; omega)
    exact h1.setCell (Nat.le_refl _) _

set_option maxRecDepth 100000 in
set_option maxHeartbeats 1000000 in
theorem parse_and (S : RS → RS) (b : Nat) (s : ByteArray) (dp : Int) (hS : Goes s S) (hA : RunsAs 82 S b s dp) (hs : s.size ≤ 1048576) :
    RunsAs 76 (fun r => rdAnd s S r) b s dp := by
  obtain ⟨i0, hi0, hz0, hz1, hz2⟩ := info_parts CN.info
  intro r w h hi ho
  have H := Lib.hid h
  have HA := Lib.hid hA
  have HGO := Lib.hid hS
  have HBW := Lib.hid h.lt
  clear h hA hS
  have HE0 : Hid ((rdAnd s S r) = rdLoop s tAnd nAnd S s.size (S r)) := Lib.hid rfl
  simp only
  rw [HE0.out]
  have HG0 := Lib.hid (HGO.out r hi)
  go_enter Try.func76, Try.ntmps76
  go_wp2_with fail
  refine (HA.out r _ H.out hi ho).mono ?_
  rintro e w1 ⟨rfl, hr, hb⟩
  have HR1 := Lib.hid hr
  have HB1 := Lib.hid hb
  clear hr hb H
  go_wp2_with fail
  go_loopw [] (fun wr => ∃ q : RS, q.i ≤ s.size ∧ q.out.length ≤ q.i + 1 ∧ Hid (rdLoop s tAnd nAnd S s.size q = rdLoop s tAnd nAnd S s.size (S r)) ∧ Hid (RdS b s q dp wr) ∧ Hid (Below b w wr)) (fun wr => s.size - placeAt b wr)
  case atStart => exact ⟨S r, HG0.out.2.1, by have := HG0.out; omega, Lib.hid rfl, HR1, HB1⟩
  case round =>
    obtain ⟨q, hq, hql, HL, HR, HB⟩ := hrel
    clear HR1 HB1
    have HP := Lib.hid HR.out.place
    obtain ⟨v, HG, HO, hbr⟩ := HR.out
    have HO := Lib.hid HO
    have g3 := cell_of_row _ _ 3 _ _ _ HG
    have hbw := HBW.out
    by_cases hbad : q.bad = true
    · rw [hbad] at g3
      have HE : Hid (rdLoop s tAnd nAnd S s.size (S r) = q) := Lib.hid (by rw [← HL.out]; exact rdLoop_off (fun h => by rw [hbad] at h; cases h.1) _)
      clear hbad
      go_wp2_with fail
      first | go_ret | go_end0
      exact ⟨rfl, by rw [HE.out]; exact HR.out, HB.out⟩
    · have hbf : q.bad = false := by simpa using hbad
      have HBF := Lib.hid hbf
      rw [hbf] at g3
      clear hbad hbf
      go_wp2_with fail
      refine (spec_take b s tAnd q dp _ HR.out hq hs (by decide)).mono ?_
      rintro e w2 ⟨rfl, hr, hb⟩
      obtain ⟨y, hy⟩ : ∃ y, takes s tAnd q.i = y := ⟨_, rfl⟩
      rw [hy] at hr
      rw [hy]
      have HY := Lib.hid hy
      have HB2 := Lib.hid (HB.out.trans hb)
      clear hy hb HG g3 HO
      cases y with
      | false =>
        have HE : Hid (rdLoop s tAnd nAnd S s.size (S r) = q) := Lib.hid (by rw [← HL.out]; exact rdLoop_off (fun h => by rw [HY.out] at h; cases h.2) _)
        have HR2 : Hid (RdS b s q dp w2) := Lib.hid hr
        clear hr
        go_wp2_with fail
        first | go_ret | go_end0
        exact ⟨rfl, by rw [HE.out]; exact HR2.out, HB2.out⟩
      | true =>
        have HR2 : Hid (RdS b s (q.on (ByteArray.size tAnd)) dp w2) := Lib.hid hr
        have hle := (takes_yes HY.out).1
        have h3 : ByteArray.size tAnd = 3 := rfl
        have hoi : (q.on (ByteArray.size tAnd)).i = q.i + 3 := rfl
        have hoo : (q.on (ByteArray.size tAnd)).out = q.out := rfl
        have HG2 := Lib.hid (HGO.out (q.on (ByteArray.size tAnd)) (by rw [hoi]; omega))
        have HL2 : Hid (rdLoop s tAnd nAnd S s.size ((S (q.on (ByteArray.size tAnd))).push nAnd) = rdLoop s tAnd nAnd S s.size (S r)) := Lib.hid (by rw [← HL.out]; exact (rdLoop_on HGO.out (by decide) hq HBF.out HY.out).symm)
        clear hr
        go_wp2_with fail
        refine (HA.out (q.on (ByteArray.size tAnd)) _ HR2.out (by rw [hoi]; omega) (by rw [hoi, hoo]; omega)).mono ?_
        rintro e w3 ⟨rfl, hr, hb⟩
        have HR3 := Lib.hid hr
        have HB3 := Lib.hid (HB2.out.trans hb)
        have hg2 := HG2.out
        rw [hoi, hoo] at hg2
        clear hr hb
        generalize S (q.on (ByteArray.size tAnd)) = q3 at *
        obtain ⟨v3, HG3, HO3, hb3⟩ := HR3.out
        have HG3 := Lib.hid HG3
        have HO3 := Lib.hid HO3
        have g2 := cell_of_row _ _ 2 _ _ _ HG3.out
        have f2 := frozen_of_row _ _ 2 _ _ HG3.out
        go_wp2_with (at_builtin; refine wpList_append_own _ rfl _ _ 24 rfl (b + 1) 43 i0 (.agg #[.int .i64 0, .string ByteArray.empty, .string ByteArray.empty]) 3 40 Try.underlying24 hi0 hz0 hz1 hz2 rfl (by decide) v3 q3.out.length (CN.cells q3.out) rfl (HO3.out.alloc _) ⟨w3.heap.size, 0, none⟩ 1 1 [.int .i64 3, .string eB, .string eB] rfl rfl (newL3 _ _ _ _ _) (by intro u hu; simp at hu; rcases hu with rfl | rfl | rfl <;> rfl) (by unfold maxLen; omega) (by omega) (by simp; omega) ?_)
        intro v4 w4 ho4 hg4 _
        obtain ⟨g4, c4, rfl⟩ := own_someL ho4
        have HPS := Lib.hid (pushed (x := nAnd) HG3.out HO3.out ho4 hg4)
        have HG4 := blk_grownL (blk_alloc HG3.out (.cells #[.int .i64 3, .string eB, .string eB] 43)) hg4 (fun e => by have := (HO3.out.lt b e.symm).1; omega)
        have q2 := cell_of_row _ _ 2 _ _ _ HG4
        have qf2 := frozen_of_row _ _ 2 _ _ HG4
        have HP4 := Lib.hid HPS.out.1.place
        clear ho4 hg4 g2 f2
        go_wp2_with fail
        go_roundw
        case rel => exact ⟨q3.push nAnd, by show q3.i ≤ _; omega, by show (q3.out ++ [nAnd]).length ≤ q3.i + 1; rw [List.length_append, List.length_singleton]; omega, HL2, Lib.hid HPS.out.1, Lib.hid (HB3.out.trans HPS.out.2)⟩
        case measure => rw [HP4.out, HP.out]; show s.size - q3.i < s.size - q.i; omega

set_option maxRecDepth 100000 in
set_option maxHeartbeats 1000000 in
theorem parse_or (S : RS → RS) (b : Nat) (s : ByteArray) (dp : Int) (hS : Goes s S) (hA : RunsAs 76 S b s dp) (hs : s.size ≤ 1048576) :
    RunsAs 62 (fun r => rdLoop s tOr nOr S s.size (S r)) b s dp := by
  obtain ⟨i0, hi0, hz0, hz1, hz2⟩ := info_parts CN.info
  intro r w h hi ho
  have H := Lib.hid h
  have HA := Lib.hid hA
  have HGO := Lib.hid hS
  have HBW := Lib.hid h.lt
  clear h hA hS
  have HE0 : Hid ((rdLoop s tOr nOr S s.size (S r)) = rdLoop s tOr nOr S s.size (S r)) := Lib.hid rfl
  simp only
  rw [HE0.out]
  have HG0 := Lib.hid (HGO.out r hi)
  go_enter Try.func62, Try.ntmps62
  go_wp2_with fail
  refine (HA.out r _ H.out hi ho).mono ?_
  rintro e w1 ⟨rfl, hr, hb⟩
  have HR1 := Lib.hid hr
  have HB1 := Lib.hid hb
  clear hr hb H
  go_wp2_with fail
  go_loopw [] (fun wr => ∃ q : RS, q.i ≤ s.size ∧ q.out.length ≤ q.i + 1 ∧ Hid (rdLoop s tOr nOr S s.size q = rdLoop s tOr nOr S s.size (S r)) ∧ Hid (RdS b s q dp wr) ∧ Hid (Below b w wr)) (fun wr => s.size - placeAt b wr)
  case atStart => exact ⟨S r, HG0.out.2.1, by have := HG0.out; omega, Lib.hid rfl, HR1, HB1⟩
  case round =>
    obtain ⟨q, hq, hql, HL, HR, HB⟩ := hrel
    clear HR1 HB1
    have HP := Lib.hid HR.out.place
    obtain ⟨v, HG, HO, hbr⟩ := HR.out
    have HO := Lib.hid HO
    have g3 := cell_of_row _ _ 3 _ _ _ HG
    have hbw := HBW.out
    by_cases hbad : q.bad = true
    · rw [hbad] at g3
      have HE : Hid (rdLoop s tOr nOr S s.size (S r) = q) := Lib.hid (by rw [← HL.out]; exact rdLoop_off (fun h => by rw [hbad] at h; cases h.1) _)
      clear hbad
      go_wp2_with fail
      first | go_ret | go_end0
      exact ⟨rfl, by rw [HE.out]; exact HR.out, HB.out⟩
    · have hbf : q.bad = false := by simpa using hbad
      have HBF := Lib.hid hbf
      rw [hbf] at g3
      clear hbad hbf
      go_wp2_with fail
      refine (spec_take b s tOr q dp _ HR.out hq hs (by decide)).mono ?_
      rintro e w2 ⟨rfl, hr, hb⟩
      obtain ⟨y, hy⟩ : ∃ y, takes s tOr q.i = y := ⟨_, rfl⟩
      rw [hy] at hr
      rw [hy]
      have HY := Lib.hid hy
      have HB2 := Lib.hid (HB.out.trans hb)
      clear hy hb HG g3 HO
      cases y with
      | false =>
        have HE : Hid (rdLoop s tOr nOr S s.size (S r) = q) := Lib.hid (by rw [← HL.out]; exact rdLoop_off (fun h => by rw [HY.out] at h; cases h.2) _)
        have HR2 : Hid (RdS b s q dp w2) := Lib.hid hr
        clear hr
        go_wp2_with fail
        first | go_ret | go_end0
        exact ⟨rfl, by rw [HE.out]; exact HR2.out, HB2.out⟩
      | true =>
        have HR2 : Hid (RdS b s (q.on (ByteArray.size tOr)) dp w2) := Lib.hid hr
        have hle := (takes_yes HY.out).1
        have h3 : ByteArray.size tOr = 3 := rfl
        have hoi : (q.on (ByteArray.size tOr)).i = q.i + 3 := rfl
        have hoo : (q.on (ByteArray.size tOr)).out = q.out := rfl
        have HG2 := Lib.hid (HGO.out (q.on (ByteArray.size tOr)) (by rw [hoi]; omega))
        have HL2 : Hid (rdLoop s tOr nOr S s.size ((S (q.on (ByteArray.size tOr))).push nOr) = rdLoop s tOr nOr S s.size (S r)) := Lib.hid (by rw [← HL.out]; exact (rdLoop_on HGO.out (by decide) hq HBF.out HY.out).symm)
        clear hr
        go_wp2_with fail
        refine (HA.out (q.on (ByteArray.size tOr)) _ HR2.out (by rw [hoi]; omega) (by rw [hoi, hoo]; omega)).mono ?_
        rintro e w3 ⟨rfl, hr, hb⟩
        have HR3 := Lib.hid hr
        have HB3 := Lib.hid (HB2.out.trans hb)
        have hg2 := HG2.out
        rw [hoi, hoo] at hg2
        clear hr hb
        generalize S (q.on (ByteArray.size tOr)) = q3 at *
        obtain ⟨v3, HG3, HO3, hb3⟩ := HR3.out
        have HG3 := Lib.hid HG3
        have HO3 := Lib.hid HO3
        have g2 := cell_of_row _ _ 2 _ _ _ HG3.out
        have f2 := frozen_of_row _ _ 2 _ _ HG3.out
        go_wp2_with (at_builtin; refine wpList_append_own _ rfl _ _ 24 rfl (b + 1) 43 i0 (.agg #[.int .i64 0, .string ByteArray.empty, .string ByteArray.empty]) 3 40 Try.underlying24 hi0 hz0 hz1 hz2 rfl (by decide) v3 q3.out.length (CN.cells q3.out) rfl (HO3.out.alloc _) ⟨w3.heap.size, 0, none⟩ 1 1 [.int .i64 4, .string eB, .string eB] rfl rfl (newL3 _ _ _ _ _) (by intro u hu; simp at hu; rcases hu with rfl | rfl | rfl <;> rfl) (by unfold maxLen; omega) (by omega) (by simp; omega) ?_)
        intro v4 w4 ho4 hg4 _
        obtain ⟨g4, c4, rfl⟩ := own_someL ho4
        have HPS := Lib.hid (pushed (x := nOr) HG3.out HO3.out ho4 hg4)
        have HG4 := blk_grownL (blk_alloc HG3.out (.cells #[.int .i64 4, .string eB, .string eB] 43)) hg4 (fun e => by have := (HO3.out.lt b e.symm).1; omega)
        have q2 := cell_of_row _ _ 2 _ _ _ HG4
        have qf2 := frozen_of_row _ _ 2 _ _ HG4
        have HP4 := Lib.hid HPS.out.1.place
        clear ho4 hg4 g2 f2
        go_wp2_with fail
        go_roundw
        case rel => exact ⟨q3.push nOr, by show q3.i ≤ _; omega, by show (q3.out ++ [nOr]).length ≤ q3.i + 1; rw [List.length_append, List.length_singleton]; omega, HL2, Lib.hid HPS.out.1, Lib.hid (HB3.out.trans HPS.out.2)⟩
        case measure => rw [HP4.out, HP.out]; show s.size - q3.i < s.size - q.i; omega
end Go.Proofs.Ytghofgjlmfdnpaa
