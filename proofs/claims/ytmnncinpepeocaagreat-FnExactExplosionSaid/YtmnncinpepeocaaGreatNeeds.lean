/-
 The program's needsOf, and whether an item is gone through.
-/
import Derived.Test.YtmnncinpepeocaaGreatBuMem
import Derived.Test.YtmnncinpepeocaaGreatBuWay
import Derived.WalkKit
import Derived.WalkSpells
import Derived.WalkSmall
import Derived.BigQuiet
import Derived.OneCell
import Derived.Deep.QuietTactic
import Derived.Deep.DeepCutAuto
import Derived.Deep.RegionHeld3
import Derived.StillTailTactics
import Derived.Laws.EntriesVeiled
import Derived.Laws.OwnMore
import Derived.Lib.Hide
namespace Go.Proofs.YtmnncinpepeocaaGreat
open Go.RowKit

set_option maxRecDepth 100000 in
/-- All items are gone through. -/
theorem im_any (l : List IT) (s : ByteArray) (w : World) : Calls Tryz.prog 47 #[.string s] w (BoolRes (betw l false s) w) := by
 go_enter Tryz.func47, Tryz.ntmps47
 go_wp2_with fail
 go_ret
 exact ⟨rfl, Below.refl _ _⟩


theorem infoNE : (Tryz.prog.info? 42).map (fun i => (i.zero, i.size, i.bytes)) = some (some (.agg #[.string ByteArray.empty, .int .i64 0]), 2, 24) := by kernel_rfl
/-- .. under a change of a row laid later. -/
theorem MC.St.far {m : MC} {w w' : World} {L : ByteArray → Option Int} {o : Option Nat} {base : Nat} (h : m.St w L) (hg : w.grownBy w' o) (ho : ∀ b, o = some b → base ≤ b) (h0 : m.w0.heap.size ≤ base) (h1 : m.bm < base ∧ m.bk < base ∧ m.br < base ∧ m.ba < base) : m.St w' L := by
 have hne : ∀ x, x < base → some x ≠ o := fun x hx e => by have := ho x e.symm; omega
 have hk : ∀ {g : Nat} {x : Obj}, w.heap[g]? = some x → g < base → w'.heap[g]? = some x := fun {g x} hx hlt => (hg.block g (lt_of_heap hx) (hne g hlt)).trans hx
 exact ⟨h.bl.grown hg h.bl.size (fun k hk => by have := ho k hk; omega), h.mp.kept hg (hne _ h1.1), h.dom, h.good, h.has, hk h.k1 h1.2.1, hk h.r1 h1.2.2.1, hk h.a1 h1.2.2.2⟩
theorem own_keptM {w w' : World} {base e K n b : Nat} {v : Value} {xs : List Value} (h : w.ownsRow base e K v n xs) (hg : w.grownBy w' (some b)) (hb : b < base) : w'.ownsRow base e K v n xs :=
 h.kept hg (by
  cases hv : v.ownBlock with
  | none => exact Or.inl rfl
  | some g => exact Or.inr (fun e2 => by have := (h.lt g hv).1; cases e2; omega))
/-- What needsOf gives. -/
def NdRes (l : List IT) (V : ByteArray → Nat) (c : ByteArray) (w : World) (e : Ending) (w' : World) : Prop :=
 (¬FitL l V ∧ e = .returned (.tuple #[.slice none 0 0, .bool false]) ∧ Hid (Below w.heap.size w w')) ∨
 (FitL l V ∧ ∃ v', e = .returned (.tuple #[v', .bool true]) ∧ Hid (w'.ownsRow w.heap.size 42 2 v' (needL l c V).length (NE.cells (needL l c V))) ∧ Hid (Below w.heap.size w w'))

set_option maxRecDepth 100000 in
set_option maxHeartbeats 4000000 in
theorem im_needs (v1 v2 : Value) (l : List IT) (ys : List BL) (lo hi : Nat) (c : ByteArray) (p : ByteArray → Bool) (q : Nat) (F : FuncId) (fs : Array Value) (lv : ByteArray → Nat) (w : World) (h1 : IT.Is w v1 l) (h : BX lo hi w v2 ys) (hcat : CatOk l) (hsz : ∀ r, r ∈ l → IT.Sz r)
 (hlen : ys.length ≤ 24) (hqt : ∀ x, x ∈ ys → 1 ≤ x.qty ∧ x.qty ≤ 1000) (hpar : ∀ x, x ∈ ys → x.par ∈ l.map IT.code) (hlvl : Lvl (ys.map edOf) lv) (hlv12 : ∀ s, lv s < 12) (hc : c ∈ l.map IT.code) (hq : q ≤ 1000000001)
 (hp : ∀ s, s ∈ l.map IT.code → ∀ w', Below w.heap.size w w' → Calls Tryz.prog F (fs.push (.string s)) w' (BoolRes (p s) w')) (hca : ∀ (args : Array Value) (w : World), (callFunc F args).run Tryz.prog w = .ok (.enter F args) w) :
 Calls Tryz.prog 46 #[.agg #[v1, v2], .string c, .int .i64 (q : Int), .func (.func F) fs #[]] w (NdRes l (pv ys c p q) c w) := by
 obtain ⟨i0, hi0, hz0, hz1, hz2⟩ := info_parts infoNE
 have h12 := hcat.2
 obtain ⟨a1, k1, rfl⟩ := h1.slice
 obtain ⟨a2, k2, rfl⟩ := h.slice
 obtain ⟨W1, hW1⟩ : ∃ W, w.alloc (.cells #[.slice a1 l.length k1, .slice a2 ys.length k2] 71) = W := ⟨_, rfl⟩
 have HBX : Hid (W1.heap[w.heap.size]? = some (.cells #[.slice a1 l.length k1, .slice a2 ys.length k2] 71)) := Lib.hid (by rw [← hW1]; exact heap_alloc_new _ _)
 have HB : Hid (Below w.heap.size w W1) := Lib.hid (by rw [← hW1]; exact (Below.refl _ _).alloc (Nat.le_refl _) _)
 have HW1 := Lib.hid hW1
 have HI := Lib.hid h1
 have HPC := Lib.hid (im_pieces (.slice a1 l.length k1) (.slice a2 ys.length k2) ys lo hi c p q F fs (l.map IT.code) lv W1 (h.below BLN.kept HB.out) ⟨_, _, _, rfl⟩ hlen hqt hpar hlvl hlv12 hc hq (fun s hs w' hw => hp s hs w' (HB.out.trans (hw.mono HB.out.size))) hca (cat_codes hcat) (by rw [List.length_map]; exact h12) (fun s hs => by
  obtain ⟨r, hr, rfl⟩ := List.mem_map.1 hs
  exact (hsz r hr).1))
 have c0 := cell_of_row _ _ 0 _ _ _ HBX.out
 have c1 := cell_of_row _ _ 1 _ _ _ HBX.out
 clear h1 h hW1 hp hca hsz hqt hpar hc
 go_enter Tryz.func46, Tryz.ntmps46
 go_upto_region 1 with fail
 rw [HW1.out]
 clear HW1
 go_wp2_with fail
 refine HPC.out.mono ?_
 rintro e w2 ⟨m, L, rfl, HOK, ⟨hm1, hm2, hm3, hm4, hm5, hm6⟩, HS, HB2, hbm⟩
 clear HPC c0 c1
 have HV : Hid (∀ s, m.V s = pv ys c p q s) := Lib.hid (fun s => by unfold MC.V; rw [hm1, hm2, hm3, hm4])
 have HKS : Hid (m.ks = l.map IT.code) := Lib.hid hm5
 have HL12 : Hid (∀ s, m.lv s < 12) := Lib.hid (by rw [hm6]; exact hlv12)
 have HBX2 := Lib.hid (blk_below HBX.out HB2.out)
 have HBW := Lib.hid (HB.out.trans (HB2.out.mono HB.out.size))
 have c0 := cell_of_row _ _ 0 _ _ _ HBX2.out
 have HLT4 : Hid (m.bm < w2.heap.size ∧ m.bk < w2.heap.size ∧ m.br < w2.heap.size ∧ m.ba < w2.heap.size) := Lib.hid ⟨HS.out.mp.lt, lt_of_heap HS.out.k1, lt_of_heap HS.out.r1, lt_of_heap HS.out.a1⟩
 have HB1S := Lib.hid HB2.out.size
 have hz1' : w.heap.size < W1.heap.size := lt_of_heap HBX.out
 have HZ1 := Lib.hid hz1'
 generalize pv ys c p q = V at *
 clear hm1 hm2 hm3 hm4 hm5 hm6 HBX HBX2 HB2 hlvl hlv12 hz1'
 unfold MC.askV
 go_wp2_with fail
 go_loopw [11, 23] (fun nd i wr => ∃ (k : Nat) (a' : Option Addr) (c' : Nat) (L' : ByteArray → Option Int), k ≤ l.length ∧ i = .int .i64 k ∧ nd = .slice a' (needL (l.take k) c V).length c' ∧ Hid (∀ j (hj : j < l.length), j < k → V (l[j]'hj).code ≤ 1000000000) ∧ Hid (m.St wr L') ∧ Hid (wr.ownsRow w2.heap.size 42 2 (.slice a' (needL (l.take k) c V).length c') (needL (l.take k) c V).length (NE.cells (needL (l.take k) c V))) ∧ Hid (Below w.heap.size w wr) ∧ Hid (w2.heap.size ≤ wr.heap.size)) (fun _ i _ => l.length - (intOf i).toNat)
 case atStart => exact ⟨0, none, 0, L, Nat.zero_le _, rfl, rfl, Lib.hid (fun j hj h => by omega), HS, Lib.hid (World.ownsRow_nil _ _ _ _), HBW, Lib.hid (Nat.le_refl _)⟩
 case round =>
  clear HS c0
  obtain ⟨k, a', c', L', hk, rfl, rfl, HF, HS, HO, HBr, HZr⟩ := hrel
  by_cases hlt : k < l.length
  rotate_left
  · have hkn : k = l.length := by omega
    subst hkn
    rw [List.take_length] at HO
    rw [List.take_length]
    have HFIT : Hid (FitL l V) := Lib.hid (fun j hj => HF.out j hj hj)
    go_wp2_with fail
    go_ret2
    exact Or.inr ⟨HFIT.out, _, rfl, Lib.hid (own_lower HO.out HBW.out.size), HBr⟩
  have HLT := Lib.hid hlt
  obtain ⟨b2, o2, c2', hv2, hc2, hat⟩ := (HI.out.below HBr.out).some (by omega)
  simp only [Value.slice.injEq] at hv2
  obtain ⟨rfl, _, rfl⟩ := hv2
  obtain ⟨e0, e1, e2, e3, e4, e5, e6, e7⟩ := hat.at k hlt
  have HMEM : Hid ((l[k]'hlt).code ∈ m.ks) := Lib.hid (by rw [HKS.out]; exact List.mem_map.2 ⟨_, List.getElem_mem hlt, rfl⟩)
  have HST := Lib.hid (needL_succ (c := c) (V := V) hlt)
  have HF2 : Hid (V (l[k]'hlt).code ≤ 1000000000 → ∀ j (hj : j < l.length), j < k + 1 → V (l[j]'hj).code ≤ 1000000000) := Lib.hid (fun h j hj hjk => by
   by_cases e : j = k
   · subst e; exact h
   · exact HF.out j hj (by omega))
  have HNF : Hid (¬V (l[k]'hlt).code ≤ 1000000000 → ¬FitL l V) := Lib.hid (fun h hf => h (hf k hlt))
  have hle := needL_le (l.take k) c V
  rw [List.length_take, Nat.min_eq_left (by omega)] at hle
  clear hat hc2 HF
  generalize l[k]'hlt = r at *
  obtain ⟨W3, hW3⟩ : ∃ W, wr.alloc (.cells #[.string r.code, .string r.unt, .int .i64 r.kind, .int .i64 r.lead, .int .i64 r.rule, .int .i64 r.lsz, .int .i64 r.safe, .int .i64 r.scr] 33) = W := ⟨_, rfl⟩
  have HW3 := Lib.hid hW3
  have HA : Hid (W3.heap[wr.heap.size]? = some (.cells #[.string r.code, .string r.unt, .int .i64 r.kind, .int .i64 r.lead, .int .i64 r.rule, .int .i64 r.lsz, .int .i64 r.safe, .int .i64 r.scr] 33)) := Lib.hid (by rw [← hW3]; exact heap_alloc_new _ _)
  have hBA : Below wr.heap.size wr W3 := by rw [← hW3]; exact (Below.refl _ _).alloc (Nat.le_refl _) _
  have HS3 := Lib.hid (HS.out.keep hBA)
  have HO3 := Lib.hid (own_keepL HO.out hBA)
  have HB3 := Lib.hid (HBr.out.trans (hBA.mono HBr.out.size))
  have HZ3 : Hid (w2.heap.size ≤ W3.heap.size) := Lib.hid (Nat.le_trans HZr.out hBA.size)
  have HZW := Lib.hid HZr.out
  clear hW3 hBA HS HO HBr HZr
  go_upto_region 6 with fail
  rw [HW3.out]
  clear HW3 e0 e1 e2 e3 e4 e5 e6 e7
  have p0 := cell_of_row _ _ 0 _ _ _ HA.out
  go_wp2_with fail
  refine (im_askAll m HOK.out 12 r.code _ L' HMEM.out (HL12.out _) HS3.out).mono ?_
  rintro e w4 ⟨rfl, L4, HS4, HU4, HG4⟩
  have HB4 : Hid (Below w.heap.size w w4) := Lib.hid (HB3.out.grown HG4.out HB3.out.size (fun b hb => by cases hb; have := HZ1.out; omega))
  have HO4 := Lib.hid (own_keptM HO3.out HG4.out HLT4.out.1)
  have HA4 := Lib.hid (blk_grownM HA.out HG4.out (by have := HLT4.out.1; have := HZW.out; omega))
  have HZ4 : Hid (w2.heap.size ≤ w4.heap.size) := Lib.hid (Nat.le_trans HZ3.out HG4.out.size)
  clear p0 HA HS3 HO3 HB3 HZ3 HU4 HG4
  rw [HV.out r.code]
  have p0 := cell_of_row _ _ 0 _ _ _ HA4.out
  by_cases hfit : V r.code ≤ 1000000000
  rotate_left
  · have hgt := capT_big.2 hfit
    have HN := Lib.hid (HNF.out hfit)
    have hd : decide (1000000000 < capT (V r.code)) = true := decide_eq_true hgt
    clear hfit
    go_wp2_with fail
    go_ret2
    exact Or.inl ⟨HN.out, rfl, HB4⟩
  rw [capT_small hfit]
  have HF3 := Lib.hid (HF2.out hfit)
  have hd1 : decide ((1000000000 : Int) < (V r.code : Int)) = false := decide_eq_false (by omega)
  by_cases hpos : 0 < V r.code
  rotate_left
  · have HE : Hid (needL (l.take (k + 1)) c V = needL (l.take k) c V) := Lib.hid (by rw [HST.out, if_neg (fun h => hpos h.1), List.append_nil])
    have hv0 : V r.code = 0 := by omega
    rw [hv0, show ((0 : Nat) : Int) = 0 from rfl]
    clear hfit hpos hd1 hv0
    go_wp2_with fail
    go_roundw
    case rel => exact ⟨k + 1, _, _, L4, HLT.out, by go_num, by rw [HE.out], HF3, HS4, by rw [HE.out]; exact HO4, HB4, HZ4⟩
    case measure => have := HLT.out; simp [intOf]; omega
  have hd2 : decide (0 < V r.code) = true := decide_eq_true hpos
  by_cases hcc : r.code = c
  · have HE : Hid (needL (l.take (k + 1)) c V = needL (l.take k) c V) := Lib.hid (by rw [HST.out, if_neg (fun h => h.2 hcc), List.append_nil])
    rw [hcc] at p0
    clear hfit hcc
    go_wp2_with fail
    go_roundw
    case rel => exact ⟨k + 1, _, _, L4, HLT.out, by go_num, by rw [HE.out], HF3, HS4, by rw [HE.out]; exact HO4, HB4, HZ4⟩
    case measure => have := HLT.out; simp [intOf]; omega
  have HE : Hid (needL (l.take (k + 1)) c V = needL (l.take k) c V ++ [⟨r.code, (V r.code : Nat)⟩]) := Lib.hid (by rw [HST.out, if_pos ⟨hpos, hcc⟩])
  have hy := str_ne hcc
  have hyn : (!(r.code.toList == c.toList)) = true := by rw [hy]; rfl
  clear hfit hcc
  have p9 := HZ4.out
  go_wp2_with (at_builtin; refine wpList_append_own _ rfl _ _ 29 rfl w2.heap.size 42 i0 (.agg #[.string ByteArray.empty, .int .i64 0]) 2 24 Tryz.underlying29 hi0 hz0 hz1 hz2 rfl (by decide) (.slice a' (needL (l.take k) c V).length c') (needL (l.take k) c V).length (NE.cells (needL (l.take k) c V)) rfl (own_keepL HO4.out ((Below.refl _ _).alloc (Nat.le_refl _) _)) ⟨w4.heap.size, 0, none⟩ 1 1 [.string r.code, .int .i64 (V r.code : Int)] rfl rfl (new_2 _ _ _ _) (by intro u hu; simp at hu; rcases hu with rfl | rfl <;> rfl) (by unfold maxLen; omega) (by omega) (by simp; omega) ?_)
  intro v5 w5 ho hg _
  rw [show NE.cells (needL (l.take k) c V) ++ [Value.string r.code, Value.int .i64 (V r.code : Int)] = NE.cells (needL (l.take k) c V ++ [⟨r.code, (V r.code : Nat)⟩]) from (NE.cells_snoc (needL (l.take k) c V) ⟨r.code, (V r.code : Nat)⟩).symm] at ho
  have HLN : Hid ((needL (l.take k) c V).length + 1 = (needL (l.take (k + 1)) c V).length) := Lib.hid (by rw [HE.out, List.length_append]; rfl)
  rw [← HE.out, HLN.out] at ho
  obtain ⟨a5, c5, rfl⟩ := own_sliceN ho
  have hba : Below w4.heap.size w4 (w4.alloc (.cells #[.string r.code, .int .i64 (V r.code : Int)] 42)) := (Below.refl _ _).alloc (Nat.le_refl _) _
  have hob : ∀ b, (Value.slice a' (needL (l.take k) c V).length c').ownBlock = some b → w2.heap.size ≤ b := fun b hb => (HO4.out.lt b hb).1
  have HS5 := Lib.hid ((HS4.out.keep hba).far hg hob (by have := HOK.out.low; have := HLT4.out.1; omega) HLT4.out)
  have HB5 : Hid (Below w.heap.size w w5) := Lib.hid ((HB4.out.trans (hba.mono HB4.out.size)).grown hg (HB4.out.trans (hba.mono HB4.out.size)).size (fun b hb => by have := hob b hb; have := HBW.out.size; omega))
  have HZ5 : Hid (w2.heap.size ≤ w5.heap.size) := Lib.hid (by have := hg.size; simp at this; omega)
  have HO5 := Lib.hid ho
  clear ho hg hba hob
  go_wp2_with fail
  go_roundw
  case rel => exact ⟨k + 1, _, _, _, HLT.out, by go_num, rfl, HF3, HS5, HO5, HB5, HZ5⟩
  case measure => have := HLT.out; simp [intOf]; omega
end Go.Proofs.YtmnncinpepeocaaGreat
