/-
  The program's largestFirst: the places of the numbers, from the largest number to the smallest, earlier ones first.
-/
import Derived.Test.YtgdoahdkidlndaaRows
import Derived.Test.YtgdoahdkidlndaaInts
import Derived.Test.YtgdoahdkidlndaaIntsTo
import Derived.Test.YtgdoahdkidlndaaIsShLib
import Derived.Test.YtgdoahdkidlndaaIsSh
import Derived.Test.YtgdoahdkidlndaaAppSpec
import Derived.Test.YtgdoahdkidlndaaAppImpl
import Derived.Test.YtgdoahdkidlndaaHold
import Derived.Test.YtgdoahdkidlndaaSortLib
import Derived.Test.YtgdoahdkidlndaaSortRow
import Derived.Test.YtgdoahdkidlndaaSortIns
import Derived.Test.YtgdoahdkidlndaaSortStable
import Derived.WalkKit
import Derived.WalkSpells
import Derived.WalkSmall
import Derived.BigQuiet
import Derived.OneCell
import Derived.Deep.QuietTactic
import Derived.Lib.Hide
namespace Go.Proofs.Ytgdoahdkidlndaa.srt
open Go.RowKit

/-- The number at a place. -/
def keyOf (cs : List Int) (x : Int) : Int := cs.getD x.toNat 0

set_option maxRecDepth 100000 in
set_option maxHeartbeats 400000 in
theorem clo_call (cs : List Int) (bl b o c : Nat) (i j : Nat) (W : World) (hbl : W.heap[bl]? = some (.cells #[.slice (some ⟨b, o, none⟩) cs.length c] 24 (0, 0))) (hc : CellsI W b o cs) (hi : i < cs.length) (hj : j < cs.length) :
    Calls Try.prog 47 #[.int .i64 i, .int .i64 j, .pointer (some ⟨bl, 0, none⟩)] W fun e W' => e = .returned (.int .i64 (cmpI (cs[j]'hj) (cs[i]'hi))) ∧ ∃ m, W' = W.drewN m := by
  have c0 := cell_of_one hbl
  have c1 := hc.at i hi
  have c2 := hc.at j hj
  clear hc hbl
  have HCM : Hid (∀ w, Calls Try.prog 34 #[.int .i64 (cs[j]'hj), .int .i64 (cs[i]'hi)] w fun e w' => e = .returned (.int .i64 (cmpI (cs[j]'hj) (cs[i]'hi))) ∧ w' = w) := Lib.hid (fun w => cmp_int _ _ w)
  generalize cs[j]'hj = x1 at *
  generalize cs[i]'hi = x2 at *
  go_enter Try.func47, Try.ntmps47
  go_wp2
  go_quiet (first | (go_at_call 34; with_reducible exact Calls.quiet_of_same (HCM.out _)))
  go_wp2
  go_ret
  exact ⟨rfl, _, rfl⟩

theorem cell_same {w W : World} {b o : Nat} (h : W.heap[b]? = w.heap[b]?) : W.cell? ⟨b, o, none⟩ = w.cell? ⟨b, o, none⟩ := by simp [World.cell?, h]

theorem cmp_ok (cs : List Int) (bl b o c g : Nat) (w : World) (hbl : w.heap[bl]? = some (.cells #[.slice (some ⟨b, o, none⟩) cs.length c] 24 (0, 0))) (hc : CellsI w b o cs) (h1 : bl < g) (h2 : b < g) :
    CmpOk w g cs.length (keyOf cs) (.pointer (some ⟨bl, 0, none⟩)) := by
  intro W hg x y hx0 hx1 hy0 hy1
  obtain ⟨i, rfl⟩ : ∃ i : Nat, x = (i : Int) := ⟨x.toNat, by omega⟩
  obtain ⟨j, rfl⟩ : ∃ j : Nat, y = (j : Int) := ⟨y.toNat, by omega⟩
  have hi : i < cs.length := by omega
  have hj : j < cs.length := by omega
  have hsz := lt_of_heap hbl
  have k1 : W.heap[bl]? = w.heap[bl]? := hg.block bl hsz (by simp; omega)
  have k2 : W.heap[b]? = w.heap[b]? := hg.block b hc.1 (by simp; omega)
  have hcW : CellsI W b o cs := ⟨Nat.lt_of_lt_of_le hc.1 hg.size, fun q z hz => (cell_same k2).trans (hc.2 q z hz)⟩
  have := clo_call cs bl b o c i j W (k1.trans hbl) hcW hi hj
  have e1 : keyOf cs (j : Int) = cs[j]'hj := by simp [keyOf, List.getD, hj]
  have e2 : keyOf cs (i : Int) = cs[i]'hi := by simp [keyOf, List.getD, hi]
  rw [e1, e2]
  exact this

/-- The places in order. -/
def ids (n : Nat) : List Int := (List.range n).map fun (i : Nat) => (i : Int)
theorem ids_length (n : Nat) : (ids n).length = n := by simp [ids]
theorem ids_at {n k : Nat} (h : k < (ids n).length) : (ids n)[k]'h = (k : Int) := by simp [ids]
theorem ids_step {n k : Nat} (h : k < n) : (halfI (ids n) k).set k (.int .i64 (k : Int)) = halfI (ids n) (k + 1) := by
  have h' : k < (ids n).length := by rw [ids_length]; exact h
  rw [← halfI_succ (ids n) h', ids_at]
theorem ids_row (n : Nat) : halfI (ids n) n = rowV n (fun i => (i : Int)) := by
  rw [halfI_all (ids n) (by rw [ids_length]; exact Nat.le_refl _)]
  simp [ids, rowV]
theorem own_up {W : World} {base e g n c : Nat} {xs : List Value} (h : W.ownsRow 0 e 1 (.slice (some ⟨g, 0, none⟩) n c) n xs) (hb : base ≤ g) : W.ownsRow base e 1 (.slice (some ⟨g, 0, none⟩) n c) n xs := by
  refine ⟨h.1, ?_⟩
  rcases h.2 with ⟨h1, _⟩ | ⟨g', cap, cur, hv, hb', r⟩
  · cases h1
  · cases hv
    exact Or.inr ⟨g, c, cur, rfl, hb, r⟩

/-- What largestFirst leaves. -/
def First (cs : List Int) (w : World) (e : Ending) (w' : World) : Prop :=
  ∃ (g : Nat) (f : Nat → Int), e = .returned (.slice (some ⟨g, 0, none⟩) cs.length cs.length) ∧ w'.ownsRow w.heap.size 3 1 (.slice (some ⟨g, 0, none⟩) cs.length cs.length) cs.length (rowV cs.length f) ∧ Into (fun i => (i : Int)) f 0 cs.length ∧ Srtd (keyOf cs) f 0 cs.length ∧ Below w.heap.size w w'

set_option maxRecDepth 100000 in
set_option maxHeartbeats 1000000 in
theorem largest_first (v : Value) (cs : List Int) (w : World) (h : Ints w v cs) (h0 : 0 < cs.length) (hn : cs.length ≤ 40) : Calls Try.prog 35 #[v] w (First cs w) := by
  obtain ⟨i0, hi, hz0, hz1, hz2⟩ := info_parts infoInt
  obtain ⟨b, o, c, rfl, hlc, hcell⟩ := ints_some h h0
  have HC := Lib.hid hcell
  clear h hcell
  have hb0 := heap_alloc_new w (.cells #[.slice (some ⟨b, o, none⟩) cs.length c] 24)
  have B0 := Lib.hid ((Below.refl w.heap.size w).alloc (Nat.le_refl _) (.cells #[.slice (some ⟨b, o, none⟩) cs.length c] 24))
  have hz : (w.alloc (.cells #[.slice (some ⟨b, o, none⟩) cs.length c] 24)).heap.size = w.heap.size + 1 := by simp
  have hbw := HC.out.1
  go_enter Try.func35, Try.ntmps35
  go_upto_region 1 with fail
  have c0 := cell_of_one hb0
  have HB := Lib.hid hb0
  clear hb0
  generalize w.alloc (.cells #[.slice (some ⟨b, o, none⟩) cs.length c] 24) = w1 at *
  go_wp2_with (at_make; refine wpList_make_full _ rfl _ _ 24 rfl w1.heap.size 3 i0 (.int .i64 0) 1 Try.underlying24 hi hz0 hz1 _ _ _ _ cs.length rfl rfl rfl rfl (by rw [hz2]; omega) (by unfold maxLen; omega) (Nat.le_refl _) ?_)
  intro w2 hown0 hgrow0
  have HB2 : Hid (Below w1.heap.size w1 w2) := Lib.hid ((Below.refl _ _).grown hgrow0 (Nat.le_refl _) (fun k h => by cases h))
  have HO2 : Hid (w2.ownsRow 0 3 1 (.slice (some ⟨w.heap.size + 1, 0, none⟩) cs.length cs.length) cs.length (halfI (ids cs.length) 0)) := Lib.hid (by
    rw [halfI_zero, ids_length]; exact own_rebase (by simpa [toList_madeCells_one, Value.cells, hz] using hown0) (Nat.zero_le _))
  have B2 := Lib.hid (B0.out.trans (HB2.out.mono B0.out.size))
  have HBL := Lib.hid (blk_below HB.out HB2.out)
  clear hown0 hgrow0 HB B0 c0 HB2
  go_wp2
  go_loopw [10] (fun x wr => ∃ k : Nat, k ≤ cs.length ∧ x = .int .i64 k ∧ Hid (wr.ownsRow 0 3 1 (.slice (some ⟨w.heap.size + 1, 0, none⟩) cs.length cs.length) cs.length (halfI (ids cs.length) k)) ∧ Hid (w2.grownBy wr (some (w.heap.size + 1)))) (fun x _ => cs.length - (intOf x).toNat)
  case atStart => exact ⟨0, Nat.zero_le _, rfl, HO2, Lib.hid (World.grownBy.refl _ _)⟩
  case round =>
    obtain ⟨k, hk, rfl, hown, hgr⟩ := hrel
    by_cases hlt : k < cs.length
    · have HN := Lib.hid (ids_step hlt)
      have hfz := hown.out.frozenAt k
      have hcl : ∃ u, wr.cell? ⟨w.heap.size + 1, k, none⟩ = some u := by
        rw [hown.out.cellAt k (by omega)]
        exact ⟨_, List.getElem?_eq_getElem (by simp [halfI, ids_length]; omega)⟩
      obtain ⟨u, hu⟩ := hcl
      have hst := hown.out.stored k (.int .i64 (k : Int))
      rw [HN.out] at hst
      have HST := Lib.hid hst
      have HGR := Lib.hid (hgr.out.trans hst.2)
      clear hst
      go_wp2
      go_roundw
      case rel => exact ⟨k + 1, by omega, by go_num, Lib.hid HST.out.1, HGR⟩
      case measure => simp [intOf]; omega
    · obtain rfl : k = cs.length := by omega
      have HR : Hid (Rw wr wr (w.heap.size + 1) cs.length (fun i => (i : Int))) := Lib.hid ⟨by rw [← ids_row]; exact hown.out, World.grownBy.refl _ _⟩
      have B3 := Lib.hid (B2.out.grown hgr.out B2.out.size (fun j hj => by cases hj; omega))
      have HBL3 : Hid (wr.heap[w.heap.size]? = some (.cells #[.slice (some ⟨b, o, none⟩) cs.length c] 24 (0, 0))) := Lib.hid ((hgr.out.block w.heap.size (lt_of_heap HBL.out) (by simp)).trans HBL.out)
      have HCM := Lib.hid (cmp_ok cs w.heap.size b o c (w.heap.size + 1) wr HBL3.out (HC.out.below B3.out) (by omega) (by omega))
      go_wp2_with fail
      refine (sort_stable (keyOf cs) _ cs.length (w.heap.size + 1) _ wr _ HR.out HCM.out (fun i hi => ⟨by omega, by omega⟩) (fun i j h1 _ => by omega) h0 hn).mono ?_
      rintro e w4 ⟨rfl, f, hr4, hi4, hs4⟩
      have HR4 := Lib.hid hr4
      have HQ := Lib.hid (And.intro hi4 hs4)
      have B4 := Lib.hid (B3.out.grown hr4.grow B3.out.size (fun j hj => by cases hj; omega))
      clear hr4 hi4 hs4
      go_wp2
      go_ret
      exact ⟨_, f, rfl, own_up HR4.out.own (by omega), HQ.out.1, HQ.out.2, B4.out⟩
end Go.Proofs.Ytgdoahdkidlndaa.srt
