/-
  The program's valuesFor and IsPartial.
-/
import Derived.Test.YtkmjaiicobkkhaaVarImpl2
import Derived.Test.YtkmjaiicobkkhaaPKRec
import Derived.WalkKit
import Derived.WalkSpells
import Derived.WalkSmall
import Derived.BigQuiet
import Derived.Deep.QuietTactic
import Derived.Deep.DeepCutAuto
import Derived.Deep.RegionHeld3
import Derived.Lib.Hide
namespace Go.Proofs.Ytkmjaiicobkkhaa
open Go.RowKit

/-- Values of an option are returned, in memory that was there. -/
def ValsRes (m : MD) (s : ByteArray) (lo hi : Nat) (w : World) (e : Ending) (w' : World) : Prop := ∃ u, e = .returned u ∧ TX lo hi w' u (valsFor m s) ∧ Below w.heap.size w w'

set_option maxRecDepth 100000 in
set_option maxHeartbeats 2000000 in
theorem im_valuesFor (u0 u1 : Value) (m : MD) (s : ByteArray) (lo hi : Nat) (w : World) (h0 : OX lo hi w u0 m.opts) (hm : m.opts.length ≤ 1048576) :
    Calls Try.prog 63 #[.agg #[u0, u1], .string s] w (ValsRes m s lo hi w) := by
  obtain ⟨a, c, rfl⟩ := h0.slice
  have HX := Lib.hid h0
  have HG0 := heap_alloc_new w (.cells #[.slice a m.opts.length c, u1] 27)
  have HB0 : Below w.heap.size w (w.alloc (.cells #[.slice a m.opts.length c, u1] 27)) := (Below.refl _ _).alloc (Nat.le_refl _) _
  clear h0
  go_enter Try.func63, Try.ntmps63
  go_wp2_with fail
  generalize w.alloc (.cells #[.slice a m.opts.length c, u1] 27) = w0 at *
  go_loopw [10] (fun i wr => ∃ k : Nat, k ≤ m.opts.length ∧ i = .int .i64 k ∧ Hid (∀ j (hj : j < m.opts.length), j < k → (m.opts[j]'hj).name ≠ s) ∧ Hid (Below w.heap.size w wr)) (fun i _ => m.opts.length - (intOf i).toNat)
  case atStart => exact ⟨0, Nat.zero_le _, rfl, Lib.hid (fun j _ h => by omega), Lib.hid HB0⟩
  case round =>
    obtain ⟨k, hk, rfl, HN, HB⟩ := hrel
    by_cases hlt : k < m.opts.length
    · have HLT := Lib.hid hlt
      obtain ⟨b2, o2, c2, cs, hv2, hc2, _, _, hr, hcell⟩ := SlN.get (HX.out.below OPN.kept HB.out) k hlt
      simp only [Value.slice.injEq] at hv2
      obtain ⟨rfl, _, rfl⟩ := hv2
      obtain ⟨u2, rfl, r2⟩ := hr
      obtain ⟨av, cv, rfl⟩ := r2.slice
      have e0 := hcell 0 (by omega)
      have e1 := hcell 1 (by omega)
      simp only [List.getElem?_cons_zero, List.getElem?_cons_succ, Nat.add_zero] at e0 e1
      clear hcell
      have HAT : Hid ((m.opts[k]'hlt).name = s → valsFor m s = (m.opts[k]'hlt).vals) := Lib.hid (fun h => valsFor_at hlt h (fun j hj => HN.out j (by omega) hj))
      have HS : Hid ((m.opts[k]'hlt).name ≠ s → ∀ j (hj : j < m.opts.length), j < k + 1 → (m.opts[j]'hj).name ≠ s) := Lib.hid (fun h j hj hjk => by
        by_cases e : j = k
        · subst e; exact h
        · exact HN.out j hj (by omega))
      have R2 := Lib.hid r2
      clear r2
      generalize m.opts[k]'hlt = x at *
      have HB1 : Hid (Below wr.heap.size wr (wr.alloc (.cells #[.string x.name, .slice av x.vals.length cv] 73))) := Lib.hid ((Below.refl _ _).alloc (Nat.le_refl _) _)
      by_cases he : x.name = s
      · have HR := Lib.hid (HAT.out he)
        have hbq := str_eq he
        clear he
        go_wp2_with fail
        go_ret
        exact ⟨_, rfl, by rw [HR.out]; exact R2.out.below TxN.kept HB1.out, HB.out.trans (HB1.out.mono HB.out.size)⟩
      · have HS2 := Lib.hid (HS.out he)
        have hbq := str_ne he
        clear he
        go_wp2_with fail
        go_roundw
        case rel => exact ⟨k + 1, by have := HLT.out; omega, by go_num, HS2, Lib.hid (HB.out.trans (HB1.out.mono HB.out.size))⟩
        case measure => have := HLT.out; simp [intOf]; omega
    · have HR : Hid (valsFor m s = []) := Lib.hid (valsFor_none (fun j hj => HN.out j hj (by omega)))
      go_wp2_with fail
      go_ret
      exact ⟨.slice none 0 0, rfl, by rw [HR.out]; exact SlN.nil _ _ _ _ _ _ _, HB.out⟩

/-- The function literal of IsPartial over the pick in block g. -/
def sameV (g : Nat) : Value := .func (.func 82) #[] #[.pointer (some ⟨g, 0, none⟩)]
def optEq (x y : ByteArray) : Bool := x.toList == y.toList

set_option maxRecDepth 100000 in
set_option maxHeartbeats 1000000 in
theorem im_same (p : PK) (o u : ByteArray) (g : Nat) (w : World) (h : w.heap[g]? = some (.cells #[.string o, .string u] 44)) :
    Calls Try.prog 82 #[.agg #[.string p.opt, .string p.vl], .pointer (some ⟨g, 0, none⟩)] w (BoolRes (optEq p.opt o) w) := by
  have HB : Below w.heap.size w (w.alloc (.cells #[.string p.opt, .string p.vl] 44)) := (Below.refl _ _).alloc (Nat.le_refl _) _
  have HG := blk_alloc h (.cells #[.string p.opt, .string p.vl] 44)
  have g0 := cell_of_row _ _ 0 _ _ _ HG
  obtain ⟨y, hy⟩ : ∃ y, optEq p.opt o = y := ⟨_, rfl⟩
  have hy2 : (p.opt.toList == o.toList) = y := hy
  rw [hy]
  clear hy h
  go_enter Try.func82, Try.ntmps82
  go_wp2_with fail
  go_ret
  exact ⟨rfl, HB⟩

/-- One of the first picks has this option. -/
def anyOpt (ps : List PK) (o : ByteArray) : Bool := ps.any (fun p => optEq p.opt o)
theorem optEq_iff {x y : ByteArray} : optEq x y = true ↔ x = y := by
  constructor
  · intro h
    apply Classical.byContradiction
    intro hn
    have := str_ne hn
    unfold optEq at h
    rw [h] at this
    cases this
  · exact str_eq
theorem optEq_no {x y : ByteArray} (h : optEq x y = false) : x ≠ y := fun e => by rw [optEq_iff.2 e] at h; cases h
theorem anyOpt_yes {ps : List PK} {o : ByteArray} {k : Nat} (hk : k < ps.length) (h : optEq (ps[k]'hk).opt o = true) : anyOpt ps o = true := by
  unfold anyOpt
  rw [List.any_eq_true]
  exact ⟨_, List.getElem_mem hk, h⟩
theorem anyOpt_no {ps : List PK} {o : ByteArray} (h : ∀ k (hk : k < ps.length), optEq (ps[k]'hk).opt o = false) : anyOpt ps o = false := by
  unfold anyOpt
  rw [List.any_eq_false]
  intro p hp
  obtain ⟨k, hk, rfl⟩ := List.getElem_of_mem hp
  rw [h k hk]
  decide

set_option maxRecDepth 100000 in
set_option maxHeartbeats 1000000 in
theorem im_indexF (v : Value) (ps : List PK) (o u : ByteArray) (g : Nat) (w : World) (h : PK.Is w v ps) (hm : ps.length ≤ 1048576) (hg : w.heap[g]? = some (.cells #[.string o, .string u] 44)) :
    Calls Try.prog 98 #[v, sameV g] w (IdxRes (anyOpt ps o) w) := by
  have HX := Lib.hid h
  have HG := Lib.hid hg
  obtain ⟨a, c, rfl⟩ := h.slice
  unfold sameV
  clear h hg
  go_enter Try.func98, Try.ntmps98
  go_wp2_with fail
  go_loopw [8] (fun i wr => ∃ k : Nat, k ≤ ps.length ∧ i = .int .i64 k ∧ Hid (∀ j (hj : j < ps.length), j < k → optEq (ps[j]'hj).opt o = false) ∧ Hid (Below w.heap.size w wr)) (fun i _ => ps.length - (intOf i).toNat)
  case atStart => exact ⟨0, Nat.zero_le _, rfl, Lib.hid (fun j _ h => by omega), Lib.hid (Below.refl _ _)⟩
  case round =>
    obtain ⟨k, hk, rfl, HN, HB⟩ := hrel
    by_cases hlt : k < ps.length
    · have HLT := Lib.hid hlt
      obtain ⟨b2, o2, c2, hv2, hc2, hcell2⟩ := HX.out.some (by omega)
      simp only [Value.slice.injEq] at hv2
      obtain ⟨rfl, _, rfl⟩ := hv2
      obtain ⟨e0, e1⟩ := (hcell2.below HB.out).at k hlt
      clear hcell2 hc2
      have HY : Hid (optEq (ps[k]'hlt).opt o = true → anyOpt ps o = true) := Lib.hid (anyOpt_yes hlt)
      have HS : Hid (optEq (ps[k]'hlt).opt o = false → ∀ j (hj : j < ps.length), j < k + 1 → optEq (ps[j]'hj).opt o = false) := Lib.hid (fun h j hj hjk => by
        by_cases e : j = k
        · subst e; exact h
        · exact HN.out j hj (by omega))
      generalize ps[k]'hlt = x at *
      have HC := Lib.hid (im_same x o u g wr (blk_below HG.out HB.out))
      go_wp2_with fail
      refine HC.out.mono ?_
      rintro e w2 ⟨rfl, hb⟩
      have HB2 := Lib.hid (HB.out.trans (hb.mono HB.out.size))
      clear hb
      rcases Bool.eq_false_or_eq_true (optEq x.opt o) with he | he
      · have HR := Lib.hid (HY.out he)
        rw [he]
        clear he
        go_wp2_with fail
        go_ret
        exact ⟨k, rfl, fun _ => by omega, (fun h => by rw [HR.out] at h; cases h), HB2.out⟩
      · have HS2 := Lib.hid (HS.out he)
        rw [he]
        clear he
        go_wp2_with fail
        go_roundw
        case rel => exact ⟨k + 1, by have := HLT.out; omega, by go_num, HS2, HB2⟩
        case measure => have := HLT.out; simp [intOf]; omega
    · have HR : Hid (anyOpt ps o = false) := Lib.hid (anyOpt_no (fun j hj => HN.out j hj (by omega)))
      go_wp2_with fail
      go_ret
      exact ⟨-1, rfl, (fun h => by rw [HR.out] at h; cases h), fun _ => by decide, HB.out⟩

set_option maxRecDepth 100000 in
set_option maxHeartbeats 1000000 in
theorem im_hasF (v : Value) (ps : List PK) (o u : ByteArray) (g : Nat) (w : World) (h : PK.Is w v ps) (hm : ps.length ≤ 1048576) (hg : w.heap[g]? = some (.cells #[.string o, .string u] 44)) :
    Calls Try.prog 84 #[v, sameV g] w (BoolRes (anyOpt ps o) w) := by
  have HI := Lib.hid (im_indexF v ps o u g w h hm hg)
  unfold sameV at HI
  unfold sameV
  clear h hg
  go_enter Try.func84, Try.ntmps84
  go_wp2_with fail
  refine HI.out.mono ?_
  rintro e w1 ⟨z, rfl, h1, h2, hb⟩
  have HB := Lib.hid hb
  have H1 := Lib.hid h1
  have H2 := Lib.hid h2
  clear h1 h2 hb HI
  by_cases hz : 0 ≤ z
  · have HY : Hid (anyOpt ps o = true) := Lib.hid (by
      rcases Bool.eq_false_or_eq_true (anyOpt ps o) with h | h
      · exact h
      · have := H2.out h; omega)
    go_wp2_with fail
    go_ret
    exact ⟨by rw [HY.out]; rfl, HB.out⟩
  · have HY : Hid (anyOpt ps o = false) := Lib.hid (by
      rcases Bool.eq_false_or_eq_true (anyOpt ps o) with h | h
      · have := H1.out h; omega
      · exact h)
    have hd : decide (0 ≤ z) = false := decide_eq_false hz
    go_wp2_with fail
    go_ret
    exact ⟨by rw [HY.out]; rfl, HB.out⟩

theorem PK.Is.take {w : World} {a : Option Addr} {c : Nat} {l : List PK} (h : PK.Is w (.slice a l.length c) l) {k : Nat} (hk : k ≤ l.length) : PK.Is w (.slice a k c) (l.take k) := by
  have hl : (l.take k).length = k := by rw [List.length_take]; omega
  rcases h with ⟨h0, a', c', hv⟩ | ⟨h0, b, o, c', hv, hc, hcell⟩
  · subst h0
    simp at hk
    subst hk
    exact Or.inl ⟨rfl, _, _, rfl⟩
  · simp only [Value.slice.injEq] at hv
    obtain ⟨rfl, _, rfl⟩ := hv
    by_cases hk0 : k = 0
    · subst hk0
      exact Or.inl ⟨by simp, _, _, rfl⟩
    · refine Or.inr ⟨fun h => by rw [h] at hl; simp at hl; omega, b, o, c, by rw [hl], by omega, hcell.1, fun j x hx => ?_⟩
      have hj : j < k := by have := (List.getElem?_eq_some_iff.1 hx).1; omega
      rw [List.getElem?_take_of_lt hj] at hx
      exact hcell.2 j x hx
theorem anyOpt_take {l : List PK} {k : Nat} (hk : k < l.length) : anyOpt (l.take k) (l[k]'hk).opt = true ↔ ∃ i, ∃ hi : i < k, (l[i]'(Nat.lt_trans hi hk)).opt = (l[k]'hk).opt := by
  unfold anyOpt
  rw [List.any_eq_true]
  constructor
  · rintro ⟨p, hp, he⟩
    obtain ⟨i, hi, rfl⟩ := List.getElem_of_mem hp
    rw [List.length_take] at hi
    refine ⟨i, by omega, ?_⟩
    have := optEq_iff.1 he
    rwa [List.getElem_take] at this
  · rintro ⟨i, hi, e⟩
    exact ⟨l[i]'(Nat.lt_trans hi hk), List.mem_take_iff_getElem.2 ⟨i, by omega, rfl⟩, optEq_iff.2 e⟩
theorem hold_any {B W W' : World} {p : Prop} (h : Hid (Below B.heap.size B W) ∧ p) (hw : W' = W ∨ W' = W.drew) : Below B.heap.size B W' := by
  rcases hw with rfl | rfl
  · exact h.1.out
  · exact h.1.out.drew

set_option maxRecDepth 100000 in
set_option maxHeartbeats 4000000 in
theorem im_isPartial (v v2 : Value) (m : MD) (ps : List PK) (lo hi : Nat) (w : World) (h : MD.Is lo hi w v m) (hm : MD.Sm m) (hs : MD.Sz m) (h2 : PK.Is w v2 ps) (hm2 : ps.length ≤ 1048576) :
    Calls Try.prog 37 #[v, v2] w (BoolRes (partB m ps) w) := by
  obtain ⟨u0, u1, rfl, h0, h1⟩ := h
  obtain ⟨a, c, rfl⟩ := h0.slice
  obtain ⟨a1, c1, rfl⟩ := h1.slice
  obtain ⟨a', c', rfl⟩ := h2.slice
  have HX := Lib.hid h0
  have HX1 := Lib.hid h1
  have HY := Lib.hid h2
  have HM := Lib.hid hm
  have HS := Lib.hid hs
  have hm0 := hm.1.1
  have hcc : ps.length ≤ c' ∨ ps.length = 0 := by
    rcases h2 with ⟨h0, _⟩ | ⟨_, b, o, c', hv, hc, _⟩
    · exact Or.inr (by rw [h0]; rfl)
    · simp only [Value.slice.injEq] at hv; exact Or.inl (by omega)
  have HCC := Lib.hid hcc
  have HG0 := heap_alloc_new w (.cells #[.slice a m.opts.length c, .slice a1 m.rules.length c1] 27)
  have HB0 : Below w.heap.size w (w.alloc (.cells #[.slice a m.opts.length c, .slice a1 m.rules.length c1] 27)) := (Below.refl _ _).alloc (Nat.le_refl _) _
  have HMD : Hid (∀ W, Below w.heap.size w W → MD.Is lo hi W (.agg #[.slice a m.opts.length c, .slice a1 m.rules.length c1]) m) := Lib.hid (fun W hW => ⟨_, _, rfl, HX.out.below OPN.kept hW, HX1.out.below RXN.kept hW⟩)
  clear h0 h1 h2 hm hs hcc
  go_enter Try.func37, Try.ntmps37
  go_wp2_with fail
  generalize w.alloc (.cells #[.slice a m.opts.length c, .slice a1 m.rules.length c1] 27) = w0 at *
  refine (im_isModel _ m lo hi w0 (HMD.out _ HB0) HM.out HS.out).mono ?_
  rintro e w1 ⟨rfl, hb⟩
  have HG1 := blk_below HG0 hb
  have HB1 := Lib.hid (HB0.trans (hb.mono HB0.size))
  clear hb HG0 HB0
  rcases Bool.eq_false_or_eq_true (modelB m) with hmb | hmb
  rotate_left
  · have HN : Hid (partB m ps = false) := Lib.hid (partB_no (fun h => by rw [modelB_yes h.1] at hmb; cases hmb))
    rw [hmb]
    go_wp2_with fail
    go_ret
    exact ⟨by rw [HN.out]; rfl, HB1.out⟩
  have HMO := Lib.hid (modelB_iff.1 hmb)
  rw [hmb]
  clear hmb
  go_wp2_with fail
  go_loopw [13] (fun i wr => ∃ k : Nat, k ≤ ps.length ∧ i = .int .i64 k ∧ Hid (PicksTo m ps k) ∧ Hid (wr.heap[w.heap.size]? = some (.cells #[.slice a m.opts.length c, .slice a1 m.rules.length c1] 27)) ∧ Hid (Below w.heap.size w wr)) (fun i _ => ps.length - (intOf i).toNat)
  case atStart => exact ⟨0, Nat.zero_le _, rfl, Lib.hid (PicksTo.zero m ps), Lib.hid HG1, HB1⟩
  case round =>
    obtain ⟨k, hk, rfl, HP, HG, HB⟩ := hrel
    clear HG1 HB1
    by_cases hlt : k < ps.length
    rotate_left
    · have hkl : k = ps.length := by omega
      have HN : Hid (partB m ps = true) := Lib.hid (partB_yes ⟨HMO.out, by have hp := HP.out; rw [hkl] at hp; exact hp⟩)
      clear hkl
      go_wp2_with fail
      go_ret
      exact ⟨by rw [HN.out]; rfl, HB.out⟩
    have HLT := Lib.hid hlt
    obtain ⟨b2, o2, c2, hv2, hc2, hcell2⟩ := HY.out.some (by omega)
    simp only [Value.slice.injEq] at hv2
    obtain ⟨rfl, _, rfl⟩ := hv2
    obtain ⟨e0, e1⟩ := (hcell2.below HB.out).at k hlt
    clear hcell2
    have HSUC : Hid ((ps[k]'hlt).vl ∈ valsFor m (ps[k]'hlt).opt → anyOpt (ps.take k) (ps[k]'hlt).opt = false → PicksTo m ps (k + 1)) := Lib.hid (fun x1 x2 => HP.out.succ hlt x1 (fun i hi e => by rw [(anyOpt_take hlt).2 ⟨i, hi, e⟩] at x2; cases x2))
    have HVAL : Hid ((ps[k]'hlt).vl ∉ valsFor m (ps[k]'hlt).opt → partB m ps = false) := Lib.hid (fun h => partB_no (fun h2 => h (h2.2 k hlt hlt).1))
    have HDIF : Hid (anyOpt (ps.take k) (ps[k]'hlt).opt = true → partB m ps = false) := Lib.hid (fun h => partB_no (fun h2 => by
      obtain ⟨i, hi, e⟩ := (anyOpt_take hlt).1 h
      exact (h2.2 k hlt hlt).2 i hi e))
    have HTL : Hid ((ps.take k).length ≤ 1048576) := Lib.hid (by rw [List.length_take]; omega)
    have HTK : Hid (∀ W, Below wr.heap.size wr W → PK.Is W (.slice (some ⟨b2, o2, none⟩) k c') (ps.take k)) := Lib.hid (fun W hW => ((HY.out.below (HB.out.trans (hW.mono HB.out.size))).take hk))
    generalize ps[k]'hlt = x at *
    generalize ps.take k = tk at *
    have hkc : (k : Int) ≤ (c' : Int) := by have := HCC.out; omega
    have n0 : (0 : Int) ≤ (k : Int) := by omega
    obtain ⟨W1, hW1⟩ : ∃ W, wr.alloc (.cells #[.string x.opt, .string x.vl] 44) = W := ⟨_, rfl⟩
    have HW1 := Lib.hid hW1
    have HA : W1.heap[wr.heap.size]? = some (.cells #[.string x.opt, .string x.vl] 44) := by rw [← hW1]; exact heap_alloc_new _ _
    have HBA : Below wr.heap.size wr W1 := by rw [← hW1]; exact (Below.refl _ _).alloc (Nat.le_refl _) _
    have HGA := blk_below HG.out HBA
    clear hW1
    have g0 := cell_of_row _ _ 0 _ _ _ HGA
    have g1 := cell_of_row _ _ 1 _ _ _ HGA
    have q0 := cell_of_row _ _ 0 _ _ _ HA
    have q1 := cell_of_row _ _ 1 _ _ _ HA
    have HAH := Lib.hid HA
    have HBAH := Lib.hid HBA
    have HBW := Lib.hid (HB.out.trans (HBA.mono HB.out.size))
    have HGH := Lib.hid HGA
    have HVF : Hid (∀ W, Below W1.heap.size W1 W → Calls Try.prog 63 #[.agg #[.slice a m.opts.length c, .slice a1 m.rules.length c1], .string x.opt] W (ValsRes m x.opt lo hi W)) := Lib.hid (fun W hW => im_valuesFor _ _ m x.opt lo hi W (HX.out.below OPN.kept (HBW.out.trans (hW.mono HBW.out.size))) (by omega))
    have HVL : Hid ((valsFor m x.opt).length ≤ 1048577) := Lib.hid (by
      unfold valsFor
      cases e : optOf m x.opt with
      | none => simp
      | some o =>
        have ho : o ∈ m.opts := List.mem_of_find?_eq_some e
        have := HM.out.1.2 o ho
        unfold OP.Sm TX.Sm at this
        simp only
        omega)
    have HHT : Hid (∀ u W, TX lo hi W u (valsFor m x.opt) → Calls Try.prog 83 #[u, .string x.vl] W (BoolRes (inB (valsFor m x.opt) x.vl) W)) := Lib.hid (fun u W hu => im_hasT u _ x.vl W (TX.strs hu) HVL.out)
    have HHF : Hid (∀ W, Below W1.heap.size W1 W → Calls Try.prog 84 #[.slice (some ⟨b2, o2, none⟩) k c', .func (.func 82) #[] #[.pointer (some ⟨wr.heap.size, 0, none⟩)]] W (BoolRes (anyOpt tk x.opt) W)) := Lib.hid (fun W hW => im_hasF _ tk x.opt x.vl wr.heap.size W (HTK.out W (HBAH.out.trans (hW.mono HBAH.out.size))) HTL.out (blk_below HAH.out hW))
    clear HA HBA HGA
    rcases Bool.eq_false_or_eq_true (inB (valsFor m x.opt) x.vl) with hin | hin
    rotate_left
    · have HN := Lib.hid (HVAL.out (fun h => by unfold inB at hin; rw [decide_eq_true h] at hin; cases hin))
      rw [hin] at HHT
      clear hin
      go_upto_region 7 with fail
      rw [HW1.out]
      refine wp_region_held_drew (S := (fun W' => Hid (Below W1.heap.size W1 W') ∧ W'.cell? ⟨w.heap.size, 0, none⟩ = some (.slice a m.opts.length c) ∧ W'.cell? ⟨w.heap.size, 1, none⟩ = some (.slice a1 m.rules.length c1) ∧ W'.cell? ⟨wr.heap.size, 0, none⟩ = some (.string x.opt) ∧ W'.cell? ⟨wr.heap.size, 1, none⟩ = some (.string x.vl))) (by kernel_rfl) (hold4 g0 g1 q0 q1 (Below.refl _ _).drew) (fun hHeld => ?_)
      refine wpAnyH_take (i := 0) (oi := { dst := some 19, op := Op.load 27 (Operand.tmp 2), type := 27, pos := _, after := #[], guard := none }) (v := ?va1) rfl (by kernel_rfl) (by kernel_rfl) (by kernel_rfl) (fun _ _ _ h => h) (Or.inl ⟨by rfl, ?ya1⟩) (by assumption) ?ra1
      case ya1 => (intro w' hSw; (try dsimp only at hSw); go_simp; (try with_reducible rfl))
      (try simp only [Act.put, List.setIfInBounds_toArray, List.set_cons_zero, List.set_cons_succ])
      refine wpAnyH_take (i := 1) (oi := { dst := some 20, op := Op.fieldAddr 44 (Operand.tmp 6) 0, type := 0, pos := _, after := #[], guard := none }) (v := ?va2) rfl (by kernel_rfl) (by kernel_rfl) (by kernel_rfl) (fun _ _ _ h => h) (Or.inl ⟨by rfl, ?ya2⟩) (by assumption) ?ra2
      case ya2 => (intro w' hSw; (try dsimp only at hSw); go_simp; (try with_reducible rfl))
      (try simp only [Act.put, List.setIfInBounds_toArray, List.set_cons_zero, List.set_cons_succ])
      refine wpAnyH_take (i := 2) (oi := { dst := some 21, op := Op.load 9 (Operand.tmp 20), type := 9, pos := _, after := #[{ on := 1, ground := Ground.data }], guard := none }) (v := ?va3) rfl (by kernel_rfl) (by kernel_rfl) (by kernel_rfl) (fun _ _ _ h => h) (Or.inl ⟨by rfl, ?ya3⟩) (by assumption) ?ra3
      case ya3 => (intro w' hSw; (try dsimp only at hSw); go_simp; (try with_reducible rfl))
      (try simp only [Act.put, List.setIfInBounds_toArray, List.set_cons_zero, List.set_cons_succ])
      refine wpAnyH_take (i := 4) (oi := { dst := some 23, op := Op.fieldAddr 44 (Operand.tmp 6) 1, type := 0, pos := _, after := #[], guard := none }) (v := ?va4) rfl (by kernel_rfl) (by kernel_rfl) (by kernel_rfl) (fun _ _ _ h => h) (Or.inl ⟨by rfl, ?ya4⟩) (by assumption) ?ra4
      case ya4 => (intro w' hSw; (try dsimp only at hSw); go_simp; (try with_reducible rfl))
      (try simp only [Act.put, List.setIfInBounds_toArray, List.set_cons_zero, List.set_cons_succ])
      refine wpAnyH_take (i := 5) (oi := { dst := some 24, op := Op.load 9 (Operand.tmp 23), type := 9, pos := _, after := #[{ on := 4, ground := Ground.data }], guard := none }) (v := ?va5) rfl (by kernel_rfl) (by kernel_rfl) (by kernel_rfl) (fun _ _ _ h => h) (Or.inl ⟨by rfl, ?ya5⟩) (by assumption) ?ra5
      case ya5 => (intro w' hSw; (try dsimp only at hSw); go_simp; (try with_reducible rfl))
      (try simp only [Act.put, List.setIfInBounds_toArray, List.set_cons_zero, List.set_cons_succ])
      refine wpAnyH_ready (rs := [3]) (by kernel_rfl) (by simp) ?_
      refine AllReadyH.cons (o := { dst := some 22, op := Op.call { callee := Callee.value (Operand.func 63), args := #[Operand.tmp 19, Operand.tmp 21], argTypes := #[27, 9] }, type := 39, pos := _, after := #[{ on := 0, ground := Ground.data }, { on := 2, ground := Ground.data }], guard := none }) rfl (fun K hK => ?_) AllReadyH.nil
      go_simp
      refine (HVF.out _ (by first | exact (by assumption : Hid (Below W1.heap.size W1 _) ∧ _).1.out | exact Below.refl _ _ | exact (Below.refl _ _).drew)).mono ?_; rintro e w' ⟨uv, rfl, ht, hb⟩; have hle := hold_le (by assumption) hb
      (try go_wp2_with fail)
      refine hK.out _ _ ?_ (fun hHeld => ?_)
      · (try dsimp only); first | assumption | exact hold4 g0 g1 q0 q1 (hold_call (by assumption) (by assumption))
      clear hK K
      (try simp only [Act.put, List.setIfInBounds_toArray, List.set_cons_zero, List.set_cons_succ])
      refine wpAnyH_ready (rs := [6]) (by kernel_rfl) (by simp) ?_
      refine AllReadyH.cons (o := { dst := some 25, op := Op.call { callee := Callee.value (Operand.func 83), args := #[Operand.tmp 22, Operand.tmp 24], argTypes := #[39, 9] }, type := 4, pos := _, after := #[{ on := 3, ground := Ground.data }, { on := 5, ground := Ground.data }, { on := 3, ground := Ground.chain }], guard := none }) rfl (fun K hK => ?_) AllReadyH.nil
      go_simp
      refine (HHT.out _ _ (by first | exact ht | exact ht.below TxN.kept (Below.refl _ _).drew)).mono ?_; rintro e w' ⟨rfl, hb⟩; have hle := hold_le (by assumption) hb
      (try go_wp2_with fail)
      refine hK.out _ _ ?_ (fun hHeld => ?_)
      · (try dsimp only); first | assumption | exact hold4 g0 g1 q0 q1 (hold_call (by assumption) (by assumption))
      clear hK K
      (try simp only [Act.put, List.setIfInBounds_toArray, List.set_cons_zero, List.set_cons_succ])
      refine wpAnyH_take (i := 7) (oi := { dst := some 26, op := Op.unOp UnOp.not 4 (Operand.tmp 25), type := 4, pos := _, after := #[{ on := 6, ground := Ground.data }], guard := none }) (v := ?va6) rfl (by kernel_rfl) (by kernel_rfl) (by kernel_rfl) (fun _ _ _ h => h) (Or.inl ⟨by rfl, ?ya6⟩) (by assumption) ?ra6
      case ya6 => (intro w' hSw; (try dsimp only at hSw); go_simp; (try with_reducible rfl))
      (try simp only [Act.put, List.setIfInBounds_toArray, List.set_cons_zero, List.set_cons_succ])
      refine wpAnyH_take (i := 8) (oi := { dst := some 27, op := Op.move (Operand.tmp 26), type := 4, pos := _, after := #[{ on := 7, ground := Ground.data }, { on := 6, ground := Ground.chain }], guard := none }) (v := ?va7) rfl (by kernel_rfl) (by kernel_rfl) (by kernel_rfl) (fun _ _ _ h => h) (Or.inl ⟨by rfl, ?ya7⟩) (by assumption) ?ra7
      case ya7 => (intro w' hSw; (try dsimp only at hSw); go_simp; (try with_reducible rfl))
      (try simp only [Act.put, List.setIfInBounds_toArray, List.set_cons_zero, List.set_cons_succ])
      refine wpAnyH_take (i := 9) (oi := { dst := some 28, op := Op.move (Operand.tmp 1), type := 34, pos := _, after := #[{ on := 8, ground := Ground.guard }], guard := some (8, false) }) (v := undef) rfl (by kernel_rfl) (by kernel_rfl) (by kernel_rfl) (fun _ _ _ h => h) (Or.inr ⟨by rfl, rfl⟩) (by assumption) ?_
      (try simp only [Act.put, List.setIfInBounds_toArray, List.set_cons_zero, List.set_cons_succ])
      refine wpAnyH_take (i := 10) (oi := { dst := some 29, op := Op.move (Operand.tmp 5), type := 3, pos := _, after := #[{ on := 8, ground := Ground.guard }], guard := some (8, false) }) (v := undef) rfl (by kernel_rfl) (by kernel_rfl) (by kernel_rfl) (fun _ _ _ h => h) (Or.inr ⟨by rfl, rfl⟩) (by assumption) ?_
      (try simp only [Act.put, List.setIfInBounds_toArray, List.set_cons_zero, List.set_cons_succ])
      refine wpAnyH_take (i := 11) (oi := { dst := some 30, op := Op.slice 34 (Operand.tmp 28) none (some (Operand.tmp 29)) none, type := 34, pos := _, after := #[{ on := 9, ground := Ground.data }, { on := 10, ground := Ground.data }, { on := 8, ground := Ground.guard }], guard := some (8, false) }) (v := undef) rfl (by kernel_rfl) (by kernel_rfl) (by kernel_rfl) (fun _ _ _ h => h) (Or.inr ⟨by rfl, rfl⟩) (by assumption) ?_
      (try simp only [Act.put, List.setIfInBounds_toArray, List.set_cons_zero, List.set_cons_succ])
      refine wpAnyH_take (i := 12) (oi := { dst := some 31, op := Op.move (Operand.tmp 7), type := 86, pos := _, after := #[{ on := 8, ground := Ground.guard }], guard := some (8, false) }) (v := undef) rfl (by kernel_rfl) (by kernel_rfl) (by kernel_rfl) (fun _ _ _ h => h) (Or.inr ⟨by rfl, rfl⟩) (by assumption) ?_
      (try simp only [Act.put, List.setIfInBounds_toArray, List.set_cons_zero, List.set_cons_succ])
      refine wpAnyH_take (i := 13) (oi := { dst := some 32, op := Op.call { callee := Callee.value (Operand.func 84), args := #[Operand.tmp 30, Operand.tmp 31], argTypes := #[34, 86] }, type := 4, pos := _, after := #[{ on := 11, ground := Ground.data }, { on := 12, ground := Ground.data }, { on := 8, ground := Ground.chain }, { on := 8, ground := Ground.guard }], guard := some (8, false) }) (v := undef) rfl (by kernel_rfl) (by kernel_rfl) (by kernel_rfl) (fun _ _ _ h => h) (Or.inr ⟨by rfl, rfl⟩) (by assumption) ?_
      (try simp only [Act.put, List.setIfInBounds_toArray, List.set_cons_zero, List.set_cons_succ])
      refine wpAnyH_take (i := 14) (oi := { dst := some 33, op := Op.pick (Operand.tmp 27) (Operand.const (Value.bool true)) (Operand.tmp 32), type := 4, pos := _, after := #[{ on := 8, ground := Ground.data }, { on := 13, ground := Ground.data }], guard := none }) (v := ?va8) rfl (by kernel_rfl) (by kernel_rfl) (by kernel_rfl) (fun _ _ _ h => h) (Or.inl ⟨by rfl, ?ya8⟩) (by assumption) ?ra8
      case ya8 => (intro w' hSw; (try dsimp only at hSw); go_simp; (try with_reducible rfl))
      (try simp only [Act.put, List.setIfInBounds_toArray, List.set_cons_zero, List.set_cons_succ])
      refine wpAnyH_done (by kernel_rfl) ?_ _
      have hS := (by assumption : Hid (Below W1.heap.size W1 _) ∧ _)
      have HBF := Lib.hid (HBW.out.trans (hS.1.out.mono HBW.out.size))
      go_wp2_with fail
      go_ret
      exact ⟨by rw [HN.out]; rfl, HBF.out⟩
    have HIN : Hid (x.vl ∈ valsFor m x.opt) := Lib.hid (by unfold inB at hin; exact of_decide_eq_true hin)
    rw [hin] at HHT
    clear hin
    rcases Bool.eq_false_or_eq_true (anyOpt tk x.opt) with hao | hao
    · have HN := Lib.hid (HDIF.out hao)
      rw [hao] at HHF
      clear hao
      go_upto_region 7 with fail
      rw [HW1.out]
      go_region_held3 (fun W' => Hid (Below W1.heap.size W1 W') ∧ W'.cell? ⟨w.heap.size, 0, none⟩ = some (.slice a m.opts.length c) ∧ W'.cell? ⟨w.heap.size, 1, none⟩ = some (.slice a1 m.rules.length c1) ∧ W'.cell? ⟨wr.heap.size, 0, none⟩ = some (.string x.opt) ∧ W'.cell? ⟨wr.heap.size, 1, none⟩ = some (.string x.vl))
        (first | assumption | exact hold4 g0 g1 q0 q1 (hold_call (by assumption) (by assumption)) | exact hold4 g0 g1 q0 q1 (Below.refl _ _).drew)
        (first
          | (go_at_call 63; refine (HVF.out _ (by first | exact (by assumption : Hid (Below W1.heap.size W1 _) ∧ _).1.out | exact Below.refl _ _ | exact (Below.refl _ _).drew)).mono ?_; rintro e w' ⟨uv, rfl, ht, hb⟩; have hle := hold_le (by assumption) hb)
          | (go_at_call 83; refine (HHT.out _ _ (by first | exact ht | exact ht.below TxN.kept (Below.refl _ _).drew)).mono ?_; rintro e w' ⟨rfl, hb⟩; have hle := hold_le (by assumption) hb)
          | (go_at_call 84; refine (HHF.out _ (by first | exact (by assumption : Hid (Below W1.heap.size W1 _) ∧ _).1.out | exact Below.refl _ _ | exact (Below.refl _ _).drew)).mono ?_; rintro e w' ⟨rfl, hb⟩; have hle := hold_le (by assumption) hb))
      have hS := (by assumption : Hid (Below W1.heap.size W1 _) ∧ _)
      have HBF := Lib.hid (HBW.out.trans (hS.1.out.mono HBW.out.size))
      go_wp2_with fail
      go_ret
      exact ⟨by rw [HN.out]; rfl, HBF.out⟩
    · have HP2 := Lib.hid (HSUC.out HIN.out hao)
      rw [hao] at HHF
      clear hao
      go_upto_region 7 with fail
      rw [HW1.out]
      go_region_held3 (fun W' => Hid (Below W1.heap.size W1 W') ∧ W'.cell? ⟨w.heap.size, 0, none⟩ = some (.slice a m.opts.length c) ∧ W'.cell? ⟨w.heap.size, 1, none⟩ = some (.slice a1 m.rules.length c1) ∧ W'.cell? ⟨wr.heap.size, 0, none⟩ = some (.string x.opt) ∧ W'.cell? ⟨wr.heap.size, 1, none⟩ = some (.string x.vl))
        (first | assumption | exact hold4 g0 g1 q0 q1 (hold_call (by assumption) (by assumption)) | exact hold4 g0 g1 q0 q1 (Below.refl _ _).drew)
        (first
          | (go_at_call 63; refine (HVF.out _ (by first | exact (by assumption : Hid (Below W1.heap.size W1 _) ∧ _).1.out | exact Below.refl _ _ | exact (Below.refl _ _).drew)).mono ?_; rintro e w' ⟨uv, rfl, ht, hb⟩; have hle := hold_le (by assumption) hb)
          | (go_at_call 83; refine (HHT.out _ _ (by first | exact ht | exact ht.below TxN.kept (Below.refl _ _).drew)).mono ?_; rintro e w' ⟨rfl, hb⟩; have hle := hold_le (by assumption) hb)
          | (go_at_call 84; refine (HHF.out _ (by first | exact (by assumption : Hid (Below W1.heap.size W1 _) ∧ _).1.out | exact Below.refl _ _ | exact (Below.refl _ _).drew)).mono ?_; rintro e w' ⟨rfl, hb⟩; have hle := hold_le (by assumption) hb))
      have hS := (by assumption : Hid (Below W1.heap.size W1 _) ∧ _)
      have HBF := Lib.hid (HBW.out.trans (hS.1.out.mono HBW.out.size))
      have HGF := Lib.hid (blk_below HGH.out hS.1.out)
      go_wp2_with fail
      go_roundw
      case rel => exact ⟨k + 1, by have := HLT.out; omega, by go_num, HP2, HGF, HBF⟩
      case measure => have := HLT.out; simp [intOf]; omega
end Go.Proofs.Ytkmjaiicobkkhaa
