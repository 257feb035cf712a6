/-
 The program's linksOf and raisedLevels.
-/
import Derived.Test.YtmnncinpepeocaaGreatLevSpec
import Derived.Test.YtmnncinpepeocaaGreatBillSpec
import Derived.Test.YtmnncinpepeocaaGreatBuCat
import Derived.Test.YtmnncinpepeocaaGreatBuA
import Derived.WalkKit
import Derived.WalkSpells
import Derived.WalkSmall
import Derived.BigQuiet
import Derived.OneCell
import Derived.Deep.QuietTactic
import Derived.Deep.DeepCutAuto
import Derived.Deep.RegionHeld3
import Derived.Lib.Hide
namespace Go.Proofs.YtmnncinpepeocaaGreat
open Go.RowKit

theorem infoLk : (Tryz.prog.info? 173).map (fun i => (i.zero, i.size, i.bytes)) = some (some (.agg #[.int .i64 0, .int .i64 0]), 2, 16) := by kernel_rfl
/-- Links, as the cells of a row. -/
def encK (p : Lk) : List Value := [.int .i64 ((p.1 : Nat) : Int), .int .i64 ((p.2 : Nat) : Int)]
def cellsK (ps : List Lk) : List Value := ps.flatMap encK
theorem cellsK_push (ps : List Lk) (p : Lk) : cellsK ps ++ encK p = cellsK (ps ++ [p]) := by simp [cellsK]
theorem cellsK_length (ps : List Lk) : (cellsK ps).length = ps.length * 2 := by
 induction ps with
 | nil => rfl
 | cons p ps ih => simp only [cellsK, List.flatMap_cons, List.length_append, encK, List.length_cons, List.length_nil] at ih ⊢; omega
theorem cellsK_get : ∀ (ps : List Lk) (k : Nat) (hk : k < ps.length), (cellsK ps)[k * 2]? = some (.int .i64 (((ps[k]'hk).1 : Nat) : Int)) ∧ (cellsK ps)[k * 2 + 1]? = some (.int .i64 (((ps[k]'hk).2 : Nat) : Int)) := by
 intro ps
 induction ps with
 | nil => intro k hk; simp at hk
 | cons p ps ih =>
  intro k hk
  cases k with
  | zero => exact ⟨rfl, rfl⟩
  | succ k =>
   have h := ih k (by simpa using hk)
   have e : cellsK (p :: ps) = .int .i64 ((p.1 : Nat) : Int) :: .int .i64 ((p.2 : Nat) : Int) :: cellsK ps := rfl
   rw [e, show (k + 1) * 2 = k * 2 + 1 + 1 by omega, show k * 2 + 1 + 1 + 1 = (k * 2 + 1) + 1 + 1 by omega]
   simpa using h
theorem own_read {w : World} {base e K : Nat} {v : Value} {n : Nat} {xs : List Value} (h : w.ownsRow base e K v n xs) (h0 : 0 < n) : ∃ g cap : Nat, v = .slice (some ⟨g, 0, none⟩) n cap ∧ g < w.heap.size := by
 rcases h.2 with ⟨rfl, rfl⟩ | ⟨g, cap, cur, rfl, -⟩
 · omega
 · exact ⟨g, cap, rfl, (h.lt g rfl).2⟩

set_option maxRecDepth 100000 in
set_option maxHeartbeats 2000000 in
theorem im_links (v v2 : Value) (l : List IT) (xs : List BL) (lo hi : Nat) (w : World) (h : IT.Is w v l) (h2 : BX lo hi w v2 xs) (hm : l.length ≤ maxLen) (hx : xs.length ≤ 24) (hok : LinesTo l xs xs.length) :
 Calls Tryz.prog 125 #[v, v2] w fun e w' => ∃ v', e = .returned v' ∧ Hid (w'.ownsRow w.heap.size 173 2 v' xs.length (cellsK (pairs l xs))) ∧ Hid (Below w.heap.size w w') := by
 obtain ⟨i0, hif, hz0, hz1, hz2⟩ := info_parts infoLk
 have HI := Lib.hid h
 have HX := Lib.hid h2
 have HOK := Lib.hid hok
 have HM := Lib.hid hm
 obtain ⟨a, c, rfl⟩ := h.slice
 obtain ⟨a2, c2, rfl⟩ := h2.slice
 clear h h2 hok hm
 have HFI : Hid (∀ W s, IT.Is W (.slice a l.length c) l → Calls Tryz.prog 86 #[.slice a l.length c, .string s] W (IntRes (fiI l s) W)) := Lib.hid (fun W s hW => im_findItem _ l s W hW HM.out)
 go_enter Tryz.func125, Tryz.ntmps125
 go_wp2_with fail
 go_loopw [5, 10] (fun s i wr => ∃ (k : Nat) (p : Option Addr) (q : Nat), k ≤ xs.length ∧ i = .int .i64 k ∧ s = .slice p k q ∧ Hid (wr.ownsRow w.heap.size 173 2 (.slice p k q) k (cellsK ((pairs l xs).take k))) ∧ Hid (Below w.heap.size w wr)) (fun _ i _ => xs.length - (intOf i).toNat)
 case atStart => exact ⟨0, none, 0, Nat.zero_le _, rfl, rfl, Lib.hid ⟨rfl, Or.inl ⟨rfl, rfl⟩⟩, Lib.hid (Below.refl _ _)⟩
 case round =>
  obtain ⟨k, p, q, hk, rfl, rfl, HO, HB⟩ := hrel
  by_cases hlt : k < xs.length
  rotate_left
  · have hkn : k = xs.length := by omega
    have HE : Hid (wr.ownsRow w.heap.size 173 2 (.slice p k q) xs.length (cellsK (pairs l xs))) := Lib.hid (by
     have h := HO.out
     rw [List.take_of_length_le (by rw [pairs_length]; omega)] at h
     rw [hkn] at h ⊢
     exact h)
    go_wp2_with fail
    go_ret
    exact ⟨_, rfl, HE, HB⟩
  have HLT := Lib.hid hlt
  have hkp : k < (pairs l xs).length := by rw [pairs_length]; exact hlt
  have HTK : Hid (cellsK ((pairs l xs).take (k + 1)) = cellsK ((pairs l xs).take k) ++ encK (pairOf l (xs[k]'hlt))) := Lib.hid (by
   rw [List.take_succ_eq_append_getElem hkp, ← cellsK_push, pairs_get hlt])
  have hfi := (HOK.out k hlt hlt).fi
  obtain ⟨b2, o2, c2', cs, hv2, hc2, hb2, hcl, hr5, hcell⟩ := (HX.out.below BLN.kept HB.out).get k hlt
  simp only [Value.slice.injEq] at hv2
  obtain ⟨rfl, _, rfl⟩ := hv2
  obtain ⟨u5, rfl, h5⟩ := hr5
  obtain ⟨sa5, sc5, rfl⟩ := h5.slice
  have e0 := hcell 0 (by omega)
  have e1 := hcell 1 (by omega)
  have e2 := hcell 2 (by omega)
  have e3 := hcell 3 (by omega)
  have e4 := hcell 4 (by omega)
  have e5 := hcell 5 (by omega)
  simp only [List.getElem?_cons_zero, List.getElem?_cons_succ, Nat.add_zero] at e0 e1 e2 e3 e4 e5
  clear hcell h5 hc2 hb2 hcl hkp
  generalize xs[k]'hlt = x at *
  generalize hpp : pairOf l x = pp at *
  obtain ⟨pa, pb⟩ := pp
  obtain ⟨hf1, hf2⟩ := hfi
  simp only at hf1 hf2
  clear hpp
  obtain ⟨W1, hW1⟩ : ∃ W, wr.alloc (.cells #[.string x.par, .string x.prt, .int .i64 x.qty, .int .i64 x.fr, .int .i64 x.un, .slice sa5 x.whn.length sc5] 94) = W := ⟨_, rfl⟩
  have HW1 := Lib.hid hW1
  have HA : Hid (W1.heap[wr.heap.size]? = some (.cells #[.string x.par, .string x.prt, .int .i64 x.qty, .int .i64 x.fr, .int .i64 x.un, .slice sa5 x.whn.length sc5] 94)) := Lib.hid (by rw [← hW1]; exact heap_alloc_new _ _)
  have hBA : Below wr.heap.size wr W1 := by rw [← hW1]; exact (Below.refl _ _).alloc (Nat.le_refl _) _
  have HBW := Lib.hid (HB.out.trans (hBA.mono HB.out.size))
  have HIW := Lib.hid (HI.out.below HBW.out)
  have HO1 := Lib.hid (own_keepL HO.out hBA)
  have HNB : Hid (∀ g, (Value.slice p k q).ownBlock = some g → g < wr.heap.size) := Lib.hid (fun g hg => (HO.out.lt g hg).2)
  have HF1 : Hid (∀ W, IT.Is W (.slice a l.length c) l → Calls Tryz.prog 86 #[.slice a l.length c, .string x.par] W (IntRes (pa : Int) W)) := Lib.hid (fun W hW => hf1 ▸ HFI.out W x.par hW)
  have HF2 : Hid (∀ W, IT.Is W (.slice a l.length c) l → Calls Tryz.prog 86 #[.slice a l.length c, .string x.prt] W (IntRes (pb : Int) W)) := Lib.hid (fun W hW => hf2 ▸ HFI.out W x.prt hW)
  clear hW1 hBA hf1 hf2 HO
  go_upto_region 5 with fail
  rw [HW1.out]
  clear HW1 e0 e1 e2 e3 e4 e5
  have HSA : Hid (∀ W' : World, W'.heap[wr.heap.size]? = some (.cells #[.string x.par, .string x.prt, .int .i64 x.qty, .int .i64 x.fr, .int .i64 x.un, .slice sa5 x.whn.length sc5] 94) → W'.cell? ⟨wr.heap.size, 0, none⟩ = some (.string x.par) ∧ W'.cell? ⟨wr.heap.size, 1, none⟩ = some (.string x.prt)) := Lib.hid (fun W' h => ⟨cell_of_row _ _ 0 _ _ _ h, cell_of_row _ _ 1 _ _ _ h⟩)
  go_region_held3 (fun W' => W'.cell? ⟨wr.heap.size, 0, none⟩ = some (.string x.par) ∧ W'.cell? ⟨wr.heap.size, 1, none⟩ = some (.string x.prt))
   (first | assumption | exact HSA.out _ HA.out | exact HSA.out _ (blk_alloc HA.out _))
   (first
    | (go_at_call 86; refine (HF1.out _ (by exact HIW.out)).mono ?_; rintro e w' ⟨rfl, hb⟩; have HA := Lib.hid (blk_below (by exact HA.out) hb); have HIW := Lib.hid (IT.Is.below (by exact HIW.out) hb); have HO1 := Lib.hid (own_keepL (by exact HO1.out) hb); have HBW := Lib.hid (Below.trans (by first | exact HBW.out | exact HBW.out.drew) (hb.mono (by first | exact HBW.out.size | exact HBW.out.drew.size))); clear hb)
    | (go_at_call 86; refine (HF2.out _ (by exact HIW.out)).mono ?_; rintro e w' ⟨rfl, hb⟩; have HA := Lib.hid (blk_below (by exact HA.out) hb); have HIW := Lib.hid (IT.Is.below (by exact HIW.out) hb); have HO1 := Lib.hid (own_keepL (by exact HO1.out) hb); have HBW := Lib.hid (Below.trans (by first | exact HBW.out | exact HBW.out.drew) (hb.mono (by first | exact HBW.out.size | exact HBW.out.drew.size))); clear hb)
    | (refine step_append_row rfl (.tmp 14) (.tmp 24) 163 rfl w.heap.size 173 i0 (.agg #[.int .i64 0, .int .i64 0]) 2 16 Tryz.underlying163 hif hz0 hz1 hz2 rfl (by decide) (.slice p k q) k (cellsK ((pairs l xs).take k)) (by simp [Act.eval]) (HO1.out.alloc _) ⟨w'.heap.size, 0, none⟩ 1 1 [.int .i64 (pa : Int), .int .i64 (pb : Int)] (by simp [Act.eval]) rfl (new_2 _ _ _ _) (by intro u hu; simp at hu; rcases hu with rfl | rfl <;> rfl) (by unfold maxLen; omega) (by omega) (by have := HBW.out.size; simp; omega) ?_; intro v' w5 hown hgrow; obtain ⟨p2, q2, rfl⟩ := own_slice hown; have HA := Lib.hid ((hgrow.block wr.heap.size (by have := lt_of_heap HA.out; simp; omega) (fun e => absurd (HNB.out _ e.symm) (Nat.lt_irrefl _))).trans (blk_alloc HA.out _)); have HO2 : Hid (w5.ownsRow w.heap.size 173 2 (.slice p2 (k + 1) q2) (k + 1) (cellsK ((pairs l xs).take (k + 1)))) := Lib.hid (HTK.out ▸ hown); have HBF := Lib.hid ((HBW.out.alloc HBW.out.size _).grown hgrow (by have := HBW.out.size; simp; omega) (fun g hg => (HO1.out.lt g hg).1)); clear hown hgrow))
  all_goals
   go_wp2_with fail
   go_roundw
   case rel => exact ⟨k + 1, p2, q2, by have := HLT.out; omega, by go_num, rfl, HO2, HBF⟩
   case measure => have := HLT.out; simp [intOf]; omega
end Go.Proofs.YtmnncinpepeocaaGreat
