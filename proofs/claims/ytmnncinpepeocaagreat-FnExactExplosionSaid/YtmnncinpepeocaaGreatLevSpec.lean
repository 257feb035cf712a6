/-
 The model's l9Levels: the least labelling, found in rounds.
-/
import Derived.Test.YtmnncinpepeocaaGreatBillLib
import Derived.Test.YtmnncinpepeocaaGreatBuCat
import Derived.Test.YtmnncinpepeocaaGreatBuA
import Derived.WalkKit
import Derived.WalkSpells
import Derived.WalkSmall
import Derived.BigQuiet
import Derived.OneCell
import Derived.Deep.QuietTactic
import Derived.Deep.DeepCutAuto
import Derived.Lib.Hide
namespace Go.Proofs.YtmnncinpepeocaaGreat
open Go.RowKit

theorem infoN : (Tryz.prog.info? 3).map (fun i => (i.zero, i.size, i.bytes)) = some (some (.int .i64 0), 1, 8) := by kernel_rfl
/-- An empty list made of nothing. -/
theorem own_empty {base : Nat} {e : TypeId} {K : Nat} {w : World} (h : base ≤ w.heap.size) : (w.alloc (.cells #[] e (0, 0))).ownsRow base e K (.slice (some ⟨w.heap.size, 0, none⟩) 0 0) 0 [] :=
 ⟨by simp, Or.inr ⟨_, 0, #[], rfl, h, heap_alloc_new _ _, Nat.le_refl _, by unfold maxLen; omega, by simp, by simp⟩⟩
/-- What l9Levels gives. -/
def LevRes (n : Nat) (ps : List Lk) (w : World) (e : Ending) (w' : World) : Prop := ∃ (v' : Value) (vs : List Nat), e = .returned v' ∧ Hid (LevOk n ps vs ∨ ((¬∃ u, Sol ps u) ∧ vs = [])) ∧ Hid (w'.ownsRow w.heap.size 3 1 v' vs.length (cellsLv vs)) ∧ Hid (Below w.heap.size w w')

set_option maxRecDepth 100000 in
set_option maxHeartbeats 2000000 in
theorem spec_levels (v v2 : Value) (l : List IT) (xs : List BL) (lo hi : Nat) (w : World) (h : IT.Is w v l) (h2 : BX lo hi w v2 xs) (hl : l.length ≤ 12) (hx : xs.length ≤ 24) (hok : LinesTo l xs xs.length) (hin : Inb l.length (pairs l xs)) :
 Calls Tryz.prog 61 #[v, v2] w (LevRes l.length (pairs l xs) w) := by
 obtain ⟨i0, hif, hz0, hz1, hz2⟩ := info_parts infoN
 have HI := Lib.hid h
 have HX := Lib.hid h2
 have HOK := Lib.hid hok
 have HIN := Lib.hid hin
 have HPL := Lib.hid (pairs_length l xs)
 obtain ⟨a, c, rfl⟩ := h.slice
 obtain ⟨a2, c2, rfl⟩ := h2.slice
 clear h h2 hok hin
 go_enter Tryz.func61, Tryz.ntmps61
 go_wp2_with (at_make; refine wpList_make_full _ rfl _ _ 37 rfl w.heap.size 3 i0 (.int .i64 0) 1 Tryz.underlying37 hif hz0 hz1 _ _ _ _ l.length rfl rfl rfl rfl (by rw [hz2]; omega) (by unfold maxLen; omega) (Nat.le_refl _) ?_)
 intro w0 hown0 hgrow0
 have hb0 := Lib.hid ((Below.refl _ _).grown hgrow0 (Nat.le_refl _) (fun k h => by cases h))
 have HO0 : Hid (w0.ownsRow w.heap.size 3 1 (.slice (some ⟨w.heap.size, 0, none⟩) l.length l.length) l.length (cellsLv (List.replicate l.length 0))) := Lib.hid (by
  have h := hown0
  rw [← cellsLv_zeros]
  simpa [toList_madeCells_one, Value.cells] using h)
 clear hown0 hgrow0
 go_wp2_with fail
 go_loopw [6] (fun i wr => ∃ (r : Nat) (vs : List Nat), r ≤ l.length + 1 ∧ i = .int .i64 r ∧ Hid (HState l.length r (pairs l xs) vs) ∧ Hid (wr.ownsRow w.heap.size 3 1 (.slice (some ⟨w.heap.size, 0, none⟩) l.length l.length) l.length (cellsLv vs)) ∧ Hid (Below w.heap.size w wr)) (fun i _ => l.length + 1 - (intOf i).toNat)
 case atStart => exact ⟨0, _, by omega, rfl, Lib.hid (HState.start _ _), HO0, hb0⟩
 case round =>
  clear HO0 hb0
  obtain ⟨r, vs, hr, rfl, HH, HO, HB⟩ := hrel
  by_cases hlt : r ≤ l.length
  rotate_left
  · have HN := Lib.hid (HH.out.none (by omega) HIN.out)
    go_wp2_with fail
    go_ret
    exact ⟨_, [], rfl, Lib.hid (Or.inr ⟨HN.out, rfl⟩), Lib.hid (own_empty HB.out.size), Lib.hid (HB.out.alloc HB.out.size _)⟩
  go_wp2_with fail
  go_loopw [7, 8] (fun cc i wx => ∃ (k : Nat) (c1 : Bool) (vs : List Nat), k ≤ xs.length ∧ i = .int .i64 k ∧ cc = .bool c1 ∧ Hid (RState l.length r k (pairs l xs) vs c1) ∧ Hid (wx.ownsRow w.heap.size 3 1 (.slice (some ⟨w.heap.size, 0, none⟩) l.length l.length) l.length (cellsLv vs)) ∧ Hid (Below w.heap.size w wx)) (fun _ i _ => xs.length - (intOf i).toNat)
  case atStart => exact ⟨0, false, vs, Nat.zero_le _, rfl, rfl, Lib.hid HH.out.round, HO, HB⟩
  case round =>
   clear HH HO HB
   obtain ⟨k, c1, vs, hk, rfl, rfl, HR, HO, HB⟩ := hrel
   by_cases hkx : k < xs.length
   rotate_left
   · have hkn : k = (pairs l xs).length := by rw [HPL.out]; omega
     rw [hkn] at HR
     cases c1 with
     | false =>
      have HL := Lib.hid HR.out.still
      have HLN := Lib.hid HL.out.1
      go_wp2_with fail
      go_ret
      exact ⟨_, vs, rfl, Lib.hid (Or.inl HL.out), by rw [HLN.out]; exact HO, HB⟩
     | true =>
      have HS := Lib.hid (HR.out.again (by rw [HPL.out]; exact hx))
      go_wp2_with fail
      go_roundw
      case rel => exact ⟨r + 1, vs, by omega, by go_num, HS, HO, HB⟩
      case measure => simp [intOf]; omega
   obtain ⟨b2, o2, c2, cs, hv2, hc2, hb2, hcl, hr5, hcell⟩ := (HX.out.below BLN.kept HB.out).get k hkx
   simp only [Value.slice.injEq] at hv2
   obtain ⟨rfl, _, rfl⟩ := hv2
   obtain ⟨u5, rfl, h5⟩ := hr5
   have e0 := hcell 0 (by omega)
   have e1 := hcell 1 (by omega)
   simp only [List.getElem?_cons_zero, List.getElem?_cons_succ, Nat.add_zero] at e0 e1
   obtain ⟨hf1, hf2⟩ := (HOK.out k hkx hkx).fi
   obtain ⟨hi1, hi2⟩ := (HOK.out k hkx hkx).inb
   have hpk := pairs_get (l := l) hkx
   have hkp : k < (pairs l xs).length := by rw [HPL.out]; exact hkx
   have HK := Lib.hid (fun hd => HR.out.keep hkp hd)
   have HZ := Lib.hid (fun hd => HR.out.raise hkp hd (by rw [hpk]; exact hi2))
   rw [hpk] at HK HZ
   have HLE := Lib.hid HR.out.2.2.2.2
   have hlen := HR.out.1
   clear hcell h5 hc2 hb2 hcl hpk hkp HR
   generalize xs[k]'hkx = x at *
   generalize hpp : pairOf l x = pp at *
   obtain ⟨pa, pb⟩ := pp
   simp only at hf1 hf2 hi1 hi2 HK HZ
   have qa := (HO.out.cellAt pa (by omega)).trans (cellsLv_get (v := vs) (by omega))
   have qb := (HO.out.cellAt pb (by omega)).trans (cellsLv_get (v := vs) (by omega))
   have fb := HO.out.frozenAt pb
   have hla := HLE.out pa
   have HST := Lib.hid ((HO.out.stored pb (.int .i64 ((lv vs pa + 1 : Nat) : Int))).1)
   rw [cellsLv_set] at HST
   have HKX := Lib.hid hkx
   have hp0 : (0 : Int) ≤ (pa : Int) := by omega
   have hp1 : (pa : Int) < (l.length : Int) := by omega
   have hp2 : (0 : Int) ≤ (pb : Int) := by omega
   have hp3 : (pb : Int) < (l.length : Int) := by omega
   have HFA := Lib.hid (spec_findItem _ l x.par wr (HI.out.below HB.out) (by unfold maxLen; omega))
   have HFB := Lib.hid (spec_findItem _ l x.prt wr (HI.out.below HB.out) (by unfold maxLen; omega))
   rw [hf1] at HFA
   rw [hf2] at HFB
   clear hf1 hf2 hpp HLE hlen
   go_wp2_with fail
   refine HFA.out.mono ?_
   rintro e w1 ⟨rfl, rfl⟩
   go_wp2_with fail
   refine HFB.out.mono ?_
   rintro e w1 ⟨rfl, rfl⟩
   clear HFA HFB e0 e1
   by_cases hd : lv vs pa + 1 ≤ lv vs pb
   · have HN := Lib.hid (HK.out hd)
     have hwa : IntKind.i64.wrap (((lv vs pa : Nat) : Int) + 1) = ((lv vs pa : Nat) : Int) + 1 := (IntKind.wrap_i64 _).trans (by omega)
     have hdd : decide (((lv vs pb : Nat) : Int) < ((lv vs pa : Nat) : Int) + 1) = false := decide_eq_false (by omega)
     clear hd hla
     generalize lv vs pa = xa at *
     generalize lv vs pb = xb at *
     go_upto_region 11 with fail
     go_region
     all_goals
      go_wp2_with fail
      go_roundw
      case rel => exact ⟨k + 1, c1, vs, HKX.out, by go_num, rfl, HN, HO, Lib.hid HB.out.drew⟩
      case measure => have := HKX.out; simp [intOf]; omega
   · have HN := Lib.hid (HZ.out hd)
     have hwa : IntKind.i64.wrap (((lv vs pa : Nat) : Int) + 1) = ((lv vs pa : Nat) : Int) + 1 := (IntKind.wrap_i64 _).trans (by omega)
     have hdd : decide (((lv vs pb : Nat) : Int) < ((lv vs pa : Nat) : Int) + 1) = true := decide_eq_true (by omega)
     have hcast : ((lv vs pa + 1 : Nat) : Int) = ((lv vs pa : Nat) : Int) + 1 := by omega
     have HO2 := Lib.hid (((show wr.drew.ownsRow w.heap.size 3 1 (.slice (some ⟨w.heap.size, 0, none⟩) l.length l.length) l.length (cellsLv vs) from HO.out).stored pb (.int .i64 ((lv vs pa + 1 : Nat) : Int))).1)
     rw [cellsLv_set, hcast] at HO2
     clear hd hla HST hcast
     generalize vs.set pb (lv vs pa + 1) = vs2 at *
     generalize lv vs pa = xa at *
     generalize lv vs pb = xb at *
     go_upto_region 11 with fail
     go_region
     all_goals
      have qa2 : wr.drew.cell? ⟨w.heap.size, pa, none⟩ = some (.int .i64 (xa : Int)) := qa
      have fb2 : wr.drew.frozen? ⟨w.heap.size, pb, none⟩ = false := fb
      go_wp2_with fail
      go_roundw
      case rel => exact ⟨k + 1, true, vs2, HKX.out, by go_num, rfl, HN, HO2, Lib.hid (HB.out.drew.setCell (Nat.le_refl _) _)⟩
      case measure => have := HKX.out; simp [intOf]; omega
end Go.Proofs.YtmnncinpepeocaaGreat
