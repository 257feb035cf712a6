/-
  The draws of the laws on routings: DrawRoutingTime, DrawFlowTime.
-/
import Derived.Test.YtfcgdhedaefonaaRtDr
import Derived.Test.YtfcgdhedaefonaaRTI
import Derived.Test.YtfcgdhedaefonaaNestSX
import Derived.Test.YtfcgdhedaefonaaQtyDr
import Derived.Test.YtfcgdhedaefonaaResKit
import Derived.Test.YtfcgdhedaefonaaCodeKit
import Derived.Test.YtfcgdhedaefonaaOwnN
import Derived.Test.YtfcgdhedaefonaaHold
import Derived.WalkKit
import Derived.WalkSpells
import Derived.WalkSmall
import Derived.BigQuiet
import Derived.OneCell
import Derived.Deep.QuietTactic
import Derived.Deep.DeepCutAuto
import Derived.Deep.RegionHeld3
import Derived.Laws.OwnMore
import Derived.Lib.Hide
namespace Go.Proofs.Ytfcgdhedaefonaa
open Go.RowKit

theorem cc_upR {B B' : Nat} {w : World} {a : Option Addr} {n : Nat} (h : CodeAt B w a n) (hle : B ≤ B') : CodeAt B' w a n := by
  rcases h with h | ⟨b, o, ha, hlt, hc⟩
  · exact Or.inl h
  · exact Or.inr ⟨b, o, ha, by omega, hc⟩
/-- A routing and a quantity, drawn. -/
def DrewRQ (w : World) (e : Ending) (w' : World) : Prop := ∃ (r : RT) (p : Option Addr) (k : Nat) (q : Int), e = .returned (.tuple #[.agg #[.string r.item, .slice p r.steps.length k], .int .i64 q]) ∧ (-9223372036854775808 ≤ q ∧ q ≤ 9223372036854775807) ∧ Hid (RT.Sz r) ∧ Hid (r.steps.length ≤ 7) ∧ Hid (∃ base, w.heap.size < base ∧ w'.ownsRow base 34 3 (.slice p r.steps.length k) r.steps.length (ST.cells r.steps)) ∧ Hid (Below w.heap.size w w')
theorem rt_sz7 {l : List ST} (h : ∀ r, r ∈ l → r.cen.size ≤ 1000) (hl : l.length ≤ 7) : RT.Sz ⟨{ data := #[65] }, l⟩ := by
  refine ⟨show (1 : Nat) ≤ maxLen by decide, show l.length ≤ maxLen by unfold maxLen; omega, fun s hs => ?_⟩
  have := h s hs
  unfold ST.Sz maxLen
  omega

set_option maxRecDepth 100000 in
set_option maxHeartbeats 4000000 in
theorem l12_two (a : Option Addr) (n c : Nat) (w : World) (hn : n ≤ 1048576) (hcode : CodeAt w.heap.size w a n) :
    Calls Try.prog 40 #[.slice a n c] w (DrewRQ w) := by
  have HB0 : Hid (Below w.heap.size w (w.alloc (.cells #[.string { data := #[] }, .slice none 0 0] 26))) := Lib.hid ((Below.refl _ _).alloc (Nat.le_refl _) _)
  have HR0 := Lib.hid (heap_alloc_new w (.cells #[.string { data := #[] }, .slice none 0 0] 26))
  have hs0 : w.heap.size < (w.alloc (.cells #[.string { data := #[] }, .slice none 0 0] 26)).heap.size := by simp
  have HC0 := Lib.hid (cc_upR (hcode.below HB0.out) (show w.heap.size ≤ (w.alloc (.cells #[.string { data := #[] }, .slice none 0 0] 26)).heap.size by omega))
  clear hcode
  go_enter Try.func40, Try.ntmps40
  go_upto_region 1 with fail
  generalize w.alloc (.cells #[.string { data := #[] }, .slice none 0 0] 26) = w0 at *
  go_wp2_with fail
  refine (l1_new a n c _ hn HC0.out).mono ?_
  rintro e w1 ⟨b, rfl, hcur, hb⟩
  have HC1 := Lib.hid (HC0.out.below hb)
  have HB1 := Lib.hid (HB0.out.trans (hb.mono HB0.out.size))
  have HR1 := Lib.hid (blk_below HR0.out hb)
  have HU := Lib.hid hcur
  have hs1 := hb.size
  have hlt := hcur.lt
  have hbw := hcur.1
  clear hb hcur HC0 HB0 HR0
  go_upto_region 2 with fail
  go_wp2_with fail
  refine (l12_routing w0.heap.size b a n c _ w1 hn HC1.out HU.out hs1).mono ?_
  rintro e w2 ⟨p, q, l, rfl, hl7, HZ, HO, hD⟩
  have HD := Lib.hid hD
  clear hD
  have HC2 := Lib.hid (HC1.out.below (HD.out.below hs1))
  have hs2 := HD.out.grown.size
  go_wp2_with fail
  refine (l10_quantity w0.heap.size b a n c w2 hn HC2.out HD.out.cur (by omega)).mono ?_
  rintro e w3 ⟨z, rfl, hz0, hz1, hd⟩
  have HO3 := Lib.hid (own_hdC HO.out hd.grown hlt)
  have HD3 := Lib.hid (HD.out.trans hd)
  have HR3 := Lib.hid (HD3.out.blk HR1.out (by omega))
  have hs3 := hd.grown.size
  clear HO HD HC2 hd
  have r0 := cell_of_row _ _ 0 _ _ _ HR3.out
  have rf0 := frozen_of_row _ _ 0 _ _ HR3.out
  have r1 := cell_of_row _ _ 1 _ _ _ HR3.out
  have rf1 := frozen_of_row _ _ 1 _ _ HR3.out
  go_wp2_with fail
  have HCH : ChgIn w.heap.size (w.heap.size + 1) w3 ((w3.setCell ⟨w.heap.size, 0, none⟩ (.string { data := #[65] })).setCell ⟨w.heap.size, 1, none⟩ (.slice p l.length q)) := (ChgIn.set (Nat.le_refl _) (Nat.lt_succ_self _)).trans (ChgIn.set (Nat.le_refl _) (Nat.lt_succ_self _))
  refine bodyPost_ret (v := .tuple #[.agg #[.string { data := #[65] }, .slice p l.length q], .int .i64 z]) (results_cell_row_slot rfl _ _ w.heap.size _ #[.string { data := #[65] }, .slice p l.length q] (0, 0) _ _ rfl rfl (heap_setCell_same _ _ 1 _ _ _ (heap_setCell_same _ _ 0 _ _ _ HR3.out)) Try.underlying26 rfl (by kernel_rfl)) rfl ⟨⟨{ data := #[65] }, l⟩, p, q, z, rfl, ⟨hz0, hz1⟩, Lib.hid (rt_sz7 HZ.out hl7), Lib.hid hl7, Lib.hid ⟨_, by omega, ChgIn.row HO3.out HCH (fun b hb => by have := (HO3.out.lt b hb).1; omega)⟩, Lib.hid (ChgIn.below (HB1.out.trans ((HD3.out.below hs1).mono (by omega))) HCH (Nat.le_refl _))⟩

set_option maxRecDepth 100000 in
set_option maxHeartbeats 4000000 in
theorem draw_routingTime (a : Option Addr) (n c : Nat) (w : World) (hn : n ≤ 1048576) (hcode : CodeAt w.heap.size w a n) :
    Calls Try.prog 14 #[.slice a n c] w (DrewRQ w) := by
  have HB0 : Hid (Below w.heap.size w (w.alloc (.cells #[.string { data := #[] }, .slice none 0 0] 26))) := Lib.hid ((Below.refl _ _).alloc (Nat.le_refl _) _)
  have HR0 := Lib.hid (heap_alloc_new w (.cells #[.string { data := #[] }, .slice none 0 0] 26))
  have hs0 : w.heap.size < (w.alloc (.cells #[.string { data := #[] }, .slice none 0 0] 26)).heap.size := by simp
  have HC0 := Lib.hid (cc_upR (hcode.below HB0.out) (show w.heap.size ≤ (w.alloc (.cells #[.string { data := #[] }, .slice none 0 0] 26)).heap.size by omega))
  clear hcode
  go_enter Try.func14, Try.ntmps14
  go_upto_region 1 with fail
  generalize w.alloc (.cells #[.string { data := #[] }, .slice none 0 0] 26) = w0 at *
  go_wp2_with fail
  refine (l12_two a n c _ hn HC0.out).mono ?_
  rintro e w3 ⟨⟨s, l⟩, p, k, z, rfl, hz, HZ, H7, HS, HB⟩
  have HR3 := Lib.hid (blk_below HR0.out HB.out)
  have HB3 := Lib.hid (HB0.out.trans (HB.out.mono HB0.out.size))
  have hs3 := HB.out.size
  clear HC0 HB0 HR0
  have r0 := cell_of_row _ _ 0 _ _ _ HR3.out
  have rf0 := frozen_of_row _ _ 0 _ _ HR3.out
  have r1 := cell_of_row _ _ 1 _ _ _ HR3.out
  have rf1 := frozen_of_row _ _ 1 _ _ HR3.out
  obtain ⟨base, hbase, ho⟩ := HS.out
  have HO := Lib.hid ho
  clear ho HS
  go_wp2_with fail
  have HCH : ChgIn w.heap.size (w.heap.size + 1) w3 ((w3.setCell ⟨w.heap.size, 0, none⟩ (.string s)).setCell ⟨w.heap.size, 1, none⟩ (.slice p l.length k)) := (ChgIn.set (Nat.le_refl _) (Nat.lt_succ_self _)).trans (ChgIn.set (Nat.le_refl _) (Nat.lt_succ_self _))
  refine bodyPost_ret (v := .tuple #[.agg #[.string s, .slice p l.length k], .int .i64 z]) (results_cell_row_slot rfl _ _ w.heap.size _ #[.string s, .slice p l.length k] (0, 0) _ _ rfl rfl (heap_setCell_same _ _ 1 _ _ _ (heap_setCell_same _ _ 0 _ _ _ HR3.out)) Try.underlying26 rfl (by kernel_rfl)) rfl ⟨⟨s, l⟩, p, k, z, rfl, hz, HZ, H7, Lib.hid ⟨base, by omega, ChgIn.row HO.out HCH (fun b hb => by have := (HO.out.lt b hb).1; omega)⟩, Lib.hid (ChgIn.below HB3.out HCH (Nat.le_refl _))⟩

set_option maxRecDepth 100000 in
set_option maxHeartbeats 4000000 in
theorem draw_flowTime (a : Option Addr) (n c : Nat) (w : World) (hn : n ≤ 1048576) (hcode : CodeAt w.heap.size w a n) :
    Calls Try.prog 18 #[.slice a n c] w (DrewRQ w) := by
  have HB0 : Hid (Below w.heap.size w (w.alloc (.cells #[.string { data := #[] }, .slice none 0 0] 26))) := Lib.hid ((Below.refl _ _).alloc (Nat.le_refl _) _)
  have HR0 := Lib.hid (heap_alloc_new w (.cells #[.string { data := #[] }, .slice none 0 0] 26))
  have hs0 : w.heap.size < (w.alloc (.cells #[.string { data := #[] }, .slice none 0 0] 26)).heap.size := by simp
  have HC0 := Lib.hid (cc_upR (hcode.below HB0.out) (show w.heap.size ≤ (w.alloc (.cells #[.string { data := #[] }, .slice none 0 0] 26)).heap.size by omega))
  clear hcode
  go_enter Try.func18, Try.ntmps18
  go_upto_region 1 with fail
  generalize w.alloc (.cells #[.string { data := #[] }, .slice none 0 0] 26) = w0 at *
  go_wp2_with fail
  refine (l12_two a n c _ hn HC0.out).mono ?_
  rintro e w3 ⟨⟨s, l⟩, p, k, z, rfl, hz, HZ, H7, HS, HB⟩
  have HR3 := Lib.hid (blk_below HR0.out HB.out)
  have HB3 := Lib.hid (HB0.out.trans (HB.out.mono HB0.out.size))
  have hs3 := HB.out.size
  clear HC0 HB0 HR0
  have r0 := cell_of_row _ _ 0 _ _ _ HR3.out
  have rf0 := frozen_of_row _ _ 0 _ _ HR3.out
  have r1 := cell_of_row _ _ 1 _ _ _ HR3.out
  have rf1 := frozen_of_row _ _ 1 _ _ HR3.out
  obtain ⟨base, hbase, ho⟩ := HS.out
  have HO := Lib.hid ho
  clear ho HS
  go_wp2_with fail
  have HCH : ChgIn w.heap.size (w.heap.size + 1) w3 ((w3.setCell ⟨w.heap.size, 0, none⟩ (.string s)).setCell ⟨w.heap.size, 1, none⟩ (.slice p l.length k)) := (ChgIn.set (Nat.le_refl _) (Nat.lt_succ_self _)).trans (ChgIn.set (Nat.le_refl _) (Nat.lt_succ_self _))
  refine bodyPost_ret (v := .tuple #[.agg #[.string s, .slice p l.length k], .int .i64 z]) (results_cell_row_slot rfl _ _ w.heap.size _ #[.string s, .slice p l.length k] (0, 0) _ _ rfl rfl (heap_setCell_same _ _ 1 _ _ _ (heap_setCell_same _ _ 0 _ _ _ HR3.out)) Try.underlying26 rfl (by kernel_rfl)) rfl ⟨⟨s, l⟩, p, k, z, rfl, hz, HZ, H7, Lib.hid ⟨base, by omega, ChgIn.row HO.out HCH (fun b hb => by have := (HO.out.lt b hb).1; omega)⟩, Lib.hid (ChgIn.below HB3.out HCH (Nat.le_refl _))⟩
end Go.Proofs.Ytfcgdhedaefonaa
