/-
 The model's WaysTo: the walk along all lines, and the list cut at what is too many.
-/
import Derived.Test.YtmnncinpepeocaaGreatWyLib
import Derived.Test.YtmnncinpepeocaaGreatSpecOrd
import Derived.Test.YtmnncinpepeocaaGreatBuWay
import Derived.Test.YtmnncinpepeocaaGreatBillOn
import Derived.Test.YtmnncinpepeocaaGreatBillSpec
import Derived.Test.YtmnncinpepeocaaGreatBuCat
import Derived.Test.YtmnncinpepeocaaGreatBuA
import Derived.Test.YtmnncinpepeocaaGreatOwnN
import Derived.WalkKit
import Derived.WalkSpells
import Derived.WalkSmall
import Derived.BigQuiet
import Derived.OneCell
import Derived.Deep.QuietTactic
import Derived.Deep.DeepCutAuto
import Derived.Deep.RegionHeld3
import Derived.Laws.OwnMore
import Derived.Lib.Hide
namespace Go.Proofs.YtmnncinpepeocaaGreat
open Go.RowKit

/-- A list made longer, cut at what is too many. -/
def ext (O Z : List Nat) : List Nat := (O ++ Z).take 201
theorem ext_len (O Z : List Nat) : (ext O Z).length ≤ 201 := by unfold ext; rw [List.length_take]; exact Nat.min_le_left _ _
theorem ext_nil {O : List Nat} (h : O.length ≤ 201) : ext O [] = O := by unfold ext; rw [List.append_nil]; exact List.take_of_length_le h
theorem ext_full {O Z : List Nat} (h : O.length = 201) : ext O Z = O := by
 unfold ext
 rw [List.take_append_of_le_length (by omega)]
 exact List.take_of_length_le (by omega)
theorem ext_one {O : List Nat} (h : O.length ≤ 200) (n : Nat) : ext O [n] = O ++ [n] := by
 unfold ext
 exact List.take_of_length_le (by rw [List.length_append]; simp; omega)
theorem ext_ext (O A B : List Nat) : ext (ext O A) B = ext O (A ++ B) := by
 unfold ext
 rw [← List.append_assoc]
 by_cases h : (O ++ A).length ≤ 201
 · rw [List.take_of_length_le h]
 · have h1 : 201 ≤ (O ++ A).length := by omega
   have h2 : ((O ++ A).take 201).length = 201 := by rw [List.length_take]; exact Nat.min_eq_left h1
   rw [List.take_append_of_le_length (by omega), List.take_append_of_le_length h1, List.take_of_length_le (by omega)]
theorem ext_short {Z : List Nat} (h : Z.length ≤ 200) : ext [] Z = Z := by
 unfold ext
 rw [List.nil_append]
 exact List.take_of_length_le (by omega)
theorem ext_long {Z : List Nat} (h : ¬Z.length ≤ 200) : (ext [] Z).length = 201 := by
 unfold ext
 rw [List.nil_append, List.length_take]
 exact Nat.min_eq_left (by omega)
theorem ext_mem {Z : List Nat} {m : Nat} (h : m ∈ ext [] Z) : m ∈ Z := by
 unfold ext at h
 rw [List.nil_append] at h
 exact List.mem_of_mem_take h
/-- What a line adds, if it is in force. -/
noncomputable def wS (xs : List BL) (t a : ByteArray) (day : Int) (ps : List PK) (x : BL) : List Nat := if x.par = a ∧ onB x day ps = true then (wW (onX xs day ps) t x.prt).map (fun m => x.qty.toNat * m) else []
noncomputable def sK (xs : List BL) (t a : ByteArray) (day : Int) (ps : List PK) (k : Nat) : List Nat := (xs.take k).flatMap (wS xs t a day ps)
theorem flat_filter {α β : Type} (p : α → Bool) (f : α → List β) : ∀ l : List α, (l.filter p).flatMap f = l.flatMap (fun x => if p x = true then f x else [])
 | [] => rfl
 | x :: l => by
  by_cases h : p x = true
  · rw [List.filter_cons_of_pos h, List.flatMap_cons, List.flatMap_cons, if_pos h, flat_filter p f l]
  · rw [List.filter_cons_of_neg h, List.flatMap_cons, if_neg h, List.nil_append, flat_filter p f l]
theorem flat_congr {α β : Type} {f g : α → List β} (h : ∀ x, f x = g x) (l : List α) : l.flatMap f = l.flatMap g := by
 rw [show f = g from funext h]
theorem sK_zero (xs : List BL) (t a : ByteArray) (day : Int) (ps : List PK) : sK xs t a day ps 0 = [] := rfl
theorem sK_succ {xs : List BL} {t a : ByteArray} {day : Int} {ps : List PK} {k : Nat} (hk : k < xs.length) : sK xs t a day ps (k + 1) = sK xs t a day ps k ++ wS xs t a day ps (xs[k]'hk) := by
 unfold sK
 rw [List.take_succ_eq_append_getElem hk, List.flatMap_append]
 simp
theorem sK_all {xs : List BL} {lv : ByteArray → Nat} {t a : ByteArray} {day : Int} {ps : List PK} (h : Lvl ((onX xs day ps).map edOf) lv) (h2 : ∀ s, lv s < 12) (hne : a ≠ t) : sK xs t a day ps xs.length = wW (onX xs day ps) t a := by
 unfold sK
 rw [List.take_length, wW_step h h2 hne]
 unfold onX
 rw [flat_filter]
 refine flat_congr (fun x => ?_) xs
 unfold wS wX onX
 by_cases h1 : x.par = a
 · by_cases h3 : onB x day ps = true
   · rw [if_pos ⟨h1, h3⟩, if_pos h3, if_pos h1]
   · rw [if_neg (fun h => h3 h.2), if_neg h3]
 · rw [if_neg (fun h => h1 h.1), if_neg h1, ite_self]
/-- The list after so many lines. -/
noncomputable def zK (xs : List BL) (t a : ByteArray) (day : Int) (ps : List PK) (P : Nat) (O : List Nat) (k : Nat) : List Nat := ext O ((sK xs t a day ps k).map (fun n => P * n))
theorem zK_no {xs : List BL} {t a : ByteArray} {day : Int} {ps : List PK} {P : Nat} {O : List Nat} {k : Nat} (hk : k < xs.length) (h : ¬((xs[k]'hk).par = a ∧ onB (xs[k]'hk) day ps = true)) : zK xs t a day ps P O (k + 1) = zK xs t a day ps P O k := by
 unfold zK
 rw [sK_succ hk]
 unfold wS
 rw [if_neg h, List.append_nil]
theorem zK_yes {xs : List BL} {t a : ByteArray} {day : Int} {ps : List PK} {P : Nat} {O : List Nat} {k : Nat} (hk : k < xs.length) (h : (xs[k]'hk).par = a ∧ onB (xs[k]'hk) day ps = true) :
 zK xs t a day ps P O (k + 1) = ext (zK xs t a day ps P O k) ((wW (onX xs day ps) t (xs[k]'hk).prt).map (fun n => P * (xs[k]'hk).qty.toNat * n)) := by
 unfold zK
 rw [ext_ext, sK_succ hk, List.map_append]
 unfold wS
 rw [if_pos h, List.map_map]
 congr 2
 refine List.map_congr_left (fun m _ => ?_)
 show P * ((xs[k]'hk).qty.toNat * m) = P * (xs[k]'hk).qty.toNat * m
 rw [Nat.mul_assoc]
theorem cellsCap_snoc (xs : List Nat) (x : Nat) : cellsCap xs ++ [.int .i64 (capI x)] = cellsCap (xs ++ [x]) := by unfold cellsCap; simp
/-- What the walk goes by. -/
structure WX where
 w0 : World
 v1 : Value
 v2 : Value
 vc : Value
 xs : List BL
 lo : Nat
 hi : Nat
 t : ByteArray
 day : Int
 ps : List PK
 lv : ByteArray → Nat
structure WX.Ok (m : WX) : Prop where
 h1 : ∃ (a : Option Addr) (n k : Nat), m.v1 = .slice a n k
 hx : BX m.lo m.hi m.w0 m.v2 m.xs
 hp : PK.Is m.w0 m.vc m.ps
 m3 : m.ps.length ≤ maxLen
 len : m.xs.length ≤ 24
 qty : ∀ x, x ∈ m.xs → 1 ≤ x.qty ∧ x.qty ≤ 1000
 cb : ∀ x, x ∈ m.xs → condB x.whn = true
 lvl : Lvl ((onX m.xs m.day m.ps).map edOf) m.lv
 lv12 : ∀ s, m.lv s < 12
def WX.R (m : WX) (Z : List Nat) (e : Ending) (w' : World) : Prop := ∃ v', e = .returned v' ∧ Hid (w'.ownsRow m.w0.heap.size 3 1 v' Z.length (cellsCap Z)) ∧ Hid (Below m.w0.heap.size m.w0 w')
def WX.C (m : WX) (d : Nat) : Prop := ∀ (a : ByteArray) (P : Nat) (O : List Nat) (vo : Value) (w : World), 12 ≤ d + m.lv a → O.length ≤ 201 → Below m.w0.heap.size m.w0 w → w.ownsRow m.w0.heap.size 3 1 vo O.length (cellsCap O) →
 Calls Tryz.prog 77 #[m.v1, m.v2, .string a, .string m.t, .int .i64 m.day, m.vc, .int .i64 (capI P), vo] w (m.R (ext O ((wW (onX m.xs m.day m.ps) m.t a).map (fun n => P * n))))

set_option maxRecDepth 100000 in
set_option maxHeartbeats 4000000 in
theorem spec_walk (m : WX) (ok : m.Ok) (d : Nat) (hr : m.C d) : m.C (d + 1) := by
 intro a P O vo w hd hol hbw hown
 obtain ⟨i0, hif, hz0, hz1, hz2⟩ := info_parts infoN
 have HOK := Lib.hid ok
 have HR := Lib.hid hr
 have HB := Lib.hid hbw
 have HO := Lib.hid hown
 have h24 := ok.len
 have hbsz := hbw.size
 obtain ⟨a1, n1, k1, e1⟩ := ok.h1
 obtain ⟨a2, c2, e2⟩ := ok.hx.slice
 obtain ⟨a3, c3, e3⟩ := ok.hp.slice
 obtain ⟨ao, co, rfl⟩ := own_sliceN hown
 rw [e1, e2, e3]
 by_cases hfull : O.length = 201
 · have HE := Lib.hid (ext_full (Z := (wW (onX m.xs m.day m.ps) m.t a).map (fun n => P * n)) hfull)
   have hd0 : decide ((200 : Int) < (O.length : Int)) = true := decide_eq_true (by omega)
   have hd1 : decide (200 < O.length) = true := decide_eq_true (by omega)
   clear hown hbw ok hr
   go_enter Tryz.func77, Tryz.ntmps77
   go_wp2_with fail
   go_ret
   exact ⟨_, rfl, Lib.hid (by rw [HE.out]; exact HO.out), HB⟩
 have hd0 : decide ((200 : Int) < (O.length : Int)) = false := decide_eq_false (by omega)
 have hd1 : decide (200 < O.length) = false := decide_eq_false (by omega)
 by_cases hat : a = m.t
 · have HE : Hid (ext O ((wW (onX m.xs m.day m.ps) m.t a).map (fun n => P * n)) = O ++ [P]) := Lib.hid (by
    rw [hat, wW_self]
    show ext O [P * 1] = _
    rw [Nat.mul_one, ext_one (by omega)])
   have hq := str_eq hat
   clear hown hbw ok hr hat
   go_enter Tryz.func77, Tryz.ntmps77
   go_wp2_with (at_builtin; refine wpList_append_own _ rfl _ _ 37 rfl m.w0.heap.size 3 i0 (.int .i64 0) 1 8 Tryz.underlying37 hif hz0 hz1 hz2 rfl (by decide) (.slice ao O.length co) O.length (cellsCap O) rfl (own_keepL HO.out ((Below.refl _ _).alloc (Nat.le_refl _) _)) ⟨w.heap.size, 0, none⟩ 1 1 [.int .i64 (capI P)] rfl rfl (new_1 _ _ _) (by intro u hu; simp at hu; rcases hu with rfl; rfl) (by unfold maxLen; omega) (by omega) (by simp; omega) ?_)
   intro v5 w5 ho hg _
   have hba : Below w.heap.size w (w.alloc (.cells #[.int .i64 (capI P)] 3)) := (Below.refl _ _).alloc (Nat.le_refl _) _
   have HB5 : Hid (Below m.w0.heap.size m.w0 w5) := Lib.hid ((HB.out.trans (hba.mono HB.out.size)).grown hg (HB.out.trans (hba.mono HB.out.size)).size (fun b hb => (HO.out.lt b hb).1))
   have HO5 : Hid (w5.ownsRow m.w0.heap.size 3 1 v5 (O ++ [P]).length (cellsCap (O ++ [P]))) := Lib.hid (by rw [← cellsCap_snoc, List.length_append]; exact ho)
   clear ho hg hba
   go_wp2_with fail
   go_ret
   exact ⟨_, rfl, Lib.hid (by rw [HE.out]; exact HO5.out), HB5⟩
 have hq := str_ne hat
 have HNE := Lib.hid hat
 have HZ0 : Hid (zK m.xs m.t a m.day m.ps P O 0 = O) := Lib.hid (by unfold zK; rw [sK_zero]; exact ext_nil (by omega))
 have HZL : Hid (∀ k, (zK m.xs m.t a m.day m.ps P O k).length ≤ 201) := Lib.hid (fun k => ext_len _ _)
 have HO0 : Hid (w.ownsRow m.w0.heap.size 3 1 (.slice ao (zK m.xs m.t a m.day m.ps P O 0).length co) (zK m.xs m.t a m.day m.ps P O 0).length (cellsCap (zK m.xs m.t a m.day m.ps P O 0))) := Lib.hid (by rw [HZ0.out]; exact HO.out)
 clear hown hbw ok hr hat HO
 go_enter Tryz.func77, Tryz.ntmps77
 go_wp2_with fail
 go_loopw [7, 17] (fun u i wr => ∃ (k : Nat) (a' : Option Addr) (c' : Nat), k ≤ m.xs.length ∧ i = .int .i64 k ∧ u = .slice a' (zK m.xs m.t a m.day m.ps P O k).length c' ∧ Hid (wr.ownsRow m.w0.heap.size 3 1 (.slice a' (zK m.xs m.t a m.day m.ps P O k).length c') (zK m.xs m.t a m.day m.ps P O k).length (cellsCap (zK m.xs m.t a m.day m.ps P O k))) ∧ Hid (Below m.w0.heap.size m.w0 wr)) (fun _ i _ => m.xs.length - (intOf i).toNat)
 case atStart => exact ⟨0, ao, co, Nat.zero_le _, rfl, by rw [HZ0.out], HO0, HB⟩
 case round =>
  clear HO0 HB HZ0
  obtain ⟨k, a', c', hk, rfl, rfl, HO, HB⟩ := hrel
  by_cases hlt : k < m.xs.length
  rotate_left
  · have hke : k = m.xs.length := by omega
    have HE : Hid (ext O ((wW (onX m.xs m.day m.ps) m.t a).map (fun n => P * n)) = zK m.xs m.t a m.day m.ps P O k) := Lib.hid (by unfold zK; rw [hke, sK_all HOK.out.lvl HOK.out.lv12 HNE.out])
    clear hke
    go_wp2_with fail
    go_ret
    exact ⟨_, rfl, Lib.hid (by rw [HE.out]; exact HO.out), HB⟩
  have HLT := Lib.hid hlt
  obtain ⟨b2, o2, c2', cs, hv2, hc2, hb2, hcl, hr5, hcell⟩ := HOK.out.hx.get k hlt
  rw [e2] at hv2
  simp only [Value.slice.injEq] at hv2
  obtain ⟨rfl, _, rfl⟩ := hv2
  obtain ⟨u5, rfl, h5⟩ := hr5
  obtain ⟨sa5, sc5, rfl⟩ := h5.slice
  have g0 := hcell 0 (by omega)
  have g1 := hcell 1 (by omega)
  have g2 := hcell 2 (by omega)
  have g3 := hcell 3 (by omega)
  have g4 := hcell 4 (by omega)
  have g5 := hcell 5 (by omega)
  simp only [List.getElem?_cons_zero, List.getElem?_cons_succ, Nat.add_zero] at g0 g1 g2 g3 g4 g5
  have e0 := (HB.out.cell (p := ⟨b2, o2 + k * 6, none⟩) hb2).trans g0
  have e1b := (HB.out.cell (p := ⟨b2, o2 + k * 6 + 1, none⟩) hb2).trans g1
  have e2b := (HB.out.cell (p := ⟨b2, o2 + k * 6 + 2, none⟩) hb2).trans g2
  have e3b := (HB.out.cell (p := ⟨b2, o2 + k * 6 + 3, none⟩) hb2).trans g3
  have e4b := (HB.out.cell (p := ⟨b2, o2 + k * 6 + 4, none⟩) hb2).trans g4
  have e5b := (HB.out.cell (p := ⟨b2, o2 + k * 6 + 5, none⟩) hb2).trans g5
  have HG1 := Lib.hid g1
  have HG2 := Lib.hid g2
  have HB2 := Lib.hid hb2
  have hqt := HOK.out.qty _ (List.getElem_mem hlt)
  have HNO : Hid (¬((m.xs[k]'hlt).par = a ∧ onB (m.xs[k]'hlt) m.day m.ps = true) → zK m.xs m.t a m.day m.ps P O (k + 1) = zK m.xs m.t a m.day m.ps P O k) := Lib.hid (fun h => zK_no hlt h)
  have HYES : Hid ((m.xs[k]'hlt).par = a ∧ onB (m.xs[k]'hlt) m.day m.ps = true → zK m.xs m.t a m.day m.ps P O (k + 1) = ext (zK m.xs m.t a m.day m.ps P O k) ((wW (onX m.xs m.day m.ps) m.t (m.xs[k]'hlt).prt).map (fun n => P * (m.xs[k]'hlt).qty.toNat * n)) ∧ m.lv a < m.lv (m.xs[k]'hlt).prt) := Lib.hid (fun h => ⟨zK_yes hlt h, by
   have h6 := HOK.out.lvl _ (List.mem_map.2 ⟨m.xs[k]'hlt, List.mem_filter.2 ⟨List.getElem_mem hlt, h.2⟩, rfl⟩)
   rw [← h.1]
   exact h6⟩)
  have HON : Hid (∀ W, Below m.w0.heap.size m.w0 W → Calls Tryz.prog 62 #[.agg #[.string (m.xs[k]'hlt).par, .string (m.xs[k]'hlt).prt, .int .i64 (m.xs[k]'hlt).qty, .int .i64 (m.xs[k]'hlt).fr, .int .i64 (m.xs[k]'hlt).un, .slice sa5 (m.xs[k]'hlt).whn.length sc5], .int .i64 m.day, .slice a3 m.ps.length c3] W (BoolRes (onB (m.xs[k]'hlt) m.day m.ps) W)) := Lib.hid (fun W hW => spec_on _ _ _ m.day m.ps m.lo m.hi W (h5.below CnN.kept hW) (HOK.out.cb _ (List.getElem_mem hlt)) (by rw [← e3]; exact HOK.out.hp.below hW) HOK.out.m3)
  have hzl := HZL.out k
  have hk0 : (0 : Int) ≤ (k : Int) := by omega
  have hk1 : (k : Int) < (m.xs.length : Int) := by omega
  clear hcell h5 hc2 hb2 hcl g0 g1 g2 g3 g4 g5
  generalize m.xs[k]'hlt = x at *
  generalize zK m.xs m.t a m.day m.ps P O k = Z at *
  by_cases hp1 : x.par = a
  rotate_left
  · have hn1 := str_ne hp1
    have HE := Lib.hid (HNO.out (fun h => hp1 h.1))
    clear hp1
    go_wp2_with fail
    go_roundw
    case rel => exact ⟨k + 1, a', c', HLT.out, by go_num, by rw [HE.out], by rw [HE.out]; exact HO, HB⟩
    case measure => have := HLT.out; simp [intOf]; omega
  have hy1 := str_eq hp1
  obtain ⟨y, hy⟩ : ∃ y, onB x m.day m.ps = y := ⟨_, rfl⟩
  rw [hy] at HON
  have HC := Lib.hid (HON.out wr HB.out)
  cases y with
  | false =>
   have HE := Lib.hid (HNO.out (fun h => by have := h.2; rw [hy] at this; cases this))
   clear hp1 hy
   go_wp2_with fail
   refine HC.out.mono ?_
   rintro e w2 ⟨rfl, hb⟩
   have HB9 := Lib.hid (HB.out.trans (hb.mono HB.out.size))
   have HO9 := Lib.hid (own_keepL HO.out hb)
   clear hb e0 e1b e2b e3b e4b e5b
   go_wp2_with fail
   go_roundw
   case rel => exact ⟨k + 1, a', c', HLT.out, by go_num, by rw [HE.out], by rw [HE.out]; exact HO9, HB9⟩
   case measure => have := HLT.out; simp [intOf]; omega
  | true =>
   have HE := Lib.hid (HYES.out ⟨hp1, hy⟩)
   clear hp1 hy
   go_wp2_with fail
   refine HC.out.mono ?_
   rintro e w2 ⟨rfl, hb⟩
   have HB9 := Lib.hid (HB.out.trans (hb.mono HB.out.size))
   have HO9 := Lib.hid (own_keepL HO.out hb)
   have c1 := hb.cell (p := ⟨b2, o2 + k * 6 + 1, none⟩) (Nat.lt_of_lt_of_le HB2.out HB.out.size) |>.trans e1b
   have c2b := hb.cell (p := ⟨b2, o2 + k * 6 + 2, none⟩) (Nat.lt_of_lt_of_le HB2.out HB.out.size) |>.trans e2b
   have HREC := Lib.hid (fun W hW hO => HR.out x.prt (P * x.qty.toNat) Z (.slice a' Z.length c') W (by have := HE.out.2; omega) hzl hW hO)
   rw [e1, e2, e3] at HREC
   clear hb e0 e1b e2b e3b e4b e5b
   go_upto_region 9 with fail
   refine wp_region_held_drew (S := (fun W' => Hid (Below m.w0.heap.size m.w0 W') ∧ W'.cell? ⟨b2, o2 + k * 6 + 1, none⟩ = some (.string x.prt) ∧ W'.cell? ⟨b2, o2 + k * 6 + 2, none⟩ = some (.int .i64 x.qty))) (by kernel_rfl) (⟨Lib.hid HB9.out.drew, c1, c2b⟩) (fun hHeld => ?_)
   refine wpAnyH_take (i := 0) (oi := { dst := some 51, op := Op.move (Operand.tmp 0), type := 24, pos := _, after := #[], guard := none }) (v := ?vr1x1) rfl (by kernel_rfl) (by kernel_rfl) (by kernel_rfl) (fun _ _ _ h => h) (Or.inl ⟨by rfl, ?yr1x1⟩) (by assumption) ?rr1x1
   case yr1x1 => (intro w' hSw; (try dsimp only at hSw); go_simp; (try with_reducible rfl))
   refine wpAnyH_take (i := 1) (oi := { dst := some 52, op := Op.move (Operand.tmp 1), type := 25, pos := _, after := #[], guard := none }) (v := ?vr1x2) rfl (by kernel_rfl) (by kernel_rfl) (by kernel_rfl) (fun _ _ _ h => h) (Or.inl ⟨by rfl, ?yr1x2⟩) (by assumption) ?rr1x2
   case yr1x2 => (intro w' hSw; (try dsimp only at hSw); go_simp; (try with_reducible rfl))
   refine wpAnyH_take (i := 2) (oi := { dst := some 53, op := Op.move (Operand.tmp 1), type := 25, pos := _, after := #[], guard := none }) (v := ?vr1x3) rfl (by kernel_rfl) (by kernel_rfl) (by kernel_rfl) (fun _ _ _ h => h) (Or.inl ⟨by rfl, ?yr1x3⟩) (by assumption) ?rr1x3
   case yr1x3 => (intro w' hSw; (try dsimp only at hSw); go_simp; (try with_reducible rfl))
   (try simp only [Act.put, List.setIfInBounds_toArray, List.set_cons_zero, List.set_cons_succ])
   refine wpAnyH_take (i := 3) (oi := { dst := some 54, op := Op.move (Operand.tmp 17), type := 3, pos := _, after := #[], guard := none }) (v := ?vr1x4) rfl (by kernel_rfl) (by kernel_rfl) (by kernel_rfl) (fun _ _ _ h => h) (Or.inl ⟨by rfl, ?yr1x4⟩) (by assumption) ?rr1x4
   case yr1x4 => (intro w' hSw; (try dsimp only at hSw); go_simp; (try with_reducible rfl))
   refine wpAnyH_take (i := 4) (oi := { dst := some 55, op := Op.indexAddr 25 (Operand.tmp 53) (Operand.tmp 54), type := 0, pos := _, after := #[{ on := 2, ground := Ground.data }, { on := 3, ground := Ground.data }], guard := none }) (v := ?vr1x5) rfl (by kernel_rfl) (by kernel_rfl) (by kernel_rfl) (fun _ _ _ h => h) (Or.inl ⟨by rfl, ?yr1x5⟩) (by assumption) ?rr1x5
   case yr1x5 => (intro w' hSw; (try dsimp only at hSw); go_simp; (try with_reducible rfl))
   refine wpAnyH_take (i := 5) (oi := { dst := some 56, op := Op.fieldAddr 94 (Operand.tmp 55) 1, type := 0, pos := _, after := #[{ on := 4, ground := Ground.data }], guard := none }) (v := ?vr1x6) rfl (by kernel_rfl) (by kernel_rfl) (by kernel_rfl) (fun _ _ _ h => h) (Or.inl ⟨by rfl, ?yr1x6⟩) (by assumption) ?rr1x6
   case yr1x6 => (intro w' hSw; (try dsimp only at hSw); go_simp; (try with_reducible rfl))
   (try simp only [Act.put, List.setIfInBounds_toArray, List.set_cons_zero, List.set_cons_succ])
   refine wpAnyH_take (i := 6) (oi := { dst := some 57, op := Op.load 9 (Operand.tmp 56), type := 9, pos := _, after := #[{ on := 5, ground := Ground.data }], guard := none }) (v := ?vr1x7) rfl (by kernel_rfl) (by kernel_rfl) (by kernel_rfl) (fun _ _ _ h => h) (Or.inl ⟨by rfl, ?yr1x7⟩) (by assumption) ?rr1x7
   case yr1x7 => (intro w' hSw; (try dsimp only at hSw); go_simp; (try with_reducible rfl))
   refine wpAnyH_take (i := 7) (oi := { dst := some 58, op := Op.move (Operand.tmp 3), type := 9, pos := _, after := #[], guard := none }) (v := ?vr1x8) rfl (by kernel_rfl) (by kernel_rfl) (by kernel_rfl) (fun _ _ _ h => h) (Or.inl ⟨by rfl, ?yr1x8⟩) (by assumption) ?rr1x8
   case yr1x8 => (intro w' hSw; (try dsimp only at hSw); go_simp; (try with_reducible rfl))
   refine wpAnyH_take (i := 8) (oi := { dst := some 59, op := Op.move (Operand.tmp 4), type := 3, pos := _, after := #[], guard := none }) (v := ?vr1x9) rfl (by kernel_rfl) (by kernel_rfl) (by kernel_rfl) (fun _ _ _ h => h) (Or.inl ⟨by rfl, ?yr1x9⟩) (by assumption) ?rr1x9
   case yr1x9 => (intro w' hSw; (try dsimp only at hSw); go_simp; (try with_reducible rfl))
   (try simp only [Act.put, List.setIfInBounds_toArray, List.set_cons_zero, List.set_cons_succ])
   refine wpAnyH_take (i := 9) (oi := { dst := some 60, op := Op.move (Operand.tmp 5), type := 26, pos := _, after := #[], guard := none }) (v := ?vr1x10) rfl (by kernel_rfl) (by kernel_rfl) (by kernel_rfl) (fun _ _ _ h => h) (Or.inl ⟨by rfl, ?yr1x10⟩) (by assumption) ?rr1x10
   case yr1x10 => (intro w' hSw; (try dsimp only at hSw); go_simp; (try with_reducible rfl))
   refine wpAnyH_take (i := 10) (oi := { dst := some 61, op := Op.move (Operand.tmp 6), type := 3, pos := _, after := #[], guard := none }) (v := ?vr1x11) rfl (by kernel_rfl) (by kernel_rfl) (by kernel_rfl) (fun _ _ _ h => h) (Or.inl ⟨by rfl, ?yr1x11⟩) (by assumption) ?rr1x11
   case yr1x11 => (intro w' hSw; (try dsimp only at hSw); go_simp; (try with_reducible rfl))
   refine wpAnyH_take (i := 11) (oi := { dst := some 62, op := Op.move (Operand.tmp 1), type := 25, pos := _, after := #[], guard := none }) (v := ?vr1x12) rfl (by kernel_rfl) (by kernel_rfl) (by kernel_rfl) (fun _ _ _ h => h) (Or.inl ⟨by rfl, ?yr1x12⟩) (by assumption) ?rr1x12
   case yr1x12 => (intro w' hSw; (try dsimp only at hSw); go_simp; (try with_reducible rfl))
   (try simp only [Act.put, List.setIfInBounds_toArray, List.set_cons_zero, List.set_cons_succ])
   refine wpAnyH_take (i := 12) (oi := { dst := some 63, op := Op.move (Operand.tmp 17), type := 3, pos := _, after := #[], guard := none }) (v := ?vr1x13) rfl (by kernel_rfl) (by kernel_rfl) (by kernel_rfl) (fun _ _ _ h => h) (Or.inl ⟨by rfl, ?yr1x13⟩) (by assumption) ?rr1x13
   case yr1x13 => (intro w' hSw; (try dsimp only at hSw); go_simp; (try with_reducible rfl))
   refine wpAnyH_take (i := 13) (oi := { dst := some 64, op := Op.indexAddr 25 (Operand.tmp 62) (Operand.tmp 63), type := 0, pos := _, after := #[{ on := 11, ground := Ground.data }, { on := 12, ground := Ground.data }], guard := none }) (v := ?vr1x14) rfl (by kernel_rfl) (by kernel_rfl) (by kernel_rfl) (fun _ _ _ h => h) (Or.inl ⟨by rfl, ?yr1x14⟩) (by assumption) ?rr1x14
   case yr1x14 => (intro w' hSw; (try dsimp only at hSw); go_simp; (try with_reducible rfl))
   refine wpAnyH_take (i := 14) (oi := { dst := some 65, op := Op.fieldAddr 94 (Operand.tmp 64) 2, type := 0, pos := _, after := #[{ on := 13, ground := Ground.data }], guard := none }) (v := ?vr1x15) rfl (by kernel_rfl) (by kernel_rfl) (by kernel_rfl) (fun _ _ _ h => h) (Or.inl ⟨by rfl, ?yr1x15⟩) (by assumption) ?rr1x15
   case yr1x15 => (intro w' hSw; (try dsimp only at hSw); go_simp; (try with_reducible rfl))
   (try simp only [Act.put, List.setIfInBounds_toArray, List.set_cons_zero, List.set_cons_succ])
   refine wpAnyH_take (i := 15) (oi := { dst := some 66, op := Op.load 3 (Operand.tmp 65), type := 3, pos := _, after := #[{ on := 14, ground := Ground.data }], guard := none }) (v := ?vr1x16) rfl (by kernel_rfl) (by kernel_rfl) (by kernel_rfl) (fun _ _ _ h => h) (Or.inl ⟨by rfl, ?yr1x16⟩) (by assumption) ?rr1x16
   case yr1x16 => (intro w' hSw; (try dsimp only at hSw); go_simp; (try with_reducible rfl))
   refine wpAnyH_take (i := 17) (oi := { dst := some 68, op := Op.move (Operand.tmp 7), type := 37, pos := _, after := #[], guard := none }) (v := ?vr1x17) rfl (by kernel_rfl) (by kernel_rfl) (by kernel_rfl) (fun _ _ _ h => h) (Or.inl ⟨by rfl, ?yr1x17⟩) (by assumption) ?rr1x17
   case yr1x17 => (intro w' hSw; (try dsimp only at hSw); go_simp; (try with_reducible rfl))
   (try simp only [Act.put, List.setIfInBounds_toArray, List.set_cons_zero, List.set_cons_succ])
   refine wpAnyH_ready (rs := [16]) (by kernel_rfl) (by simp) ?_
   refine AllReadyH.cons (o := { dst := some 67, op := Op.call { callee := Callee.value (Operand.func 64), args := #[Operand.tmp 61, Operand.tmp 66], argTypes := #[3, 3] }, type := 3, pos := _, after := #[{ on := 10, ground := Ground.data }, { on := 15, ground := Ground.data }], guard := none }) rfl (fun K hK => ?_) AllReadyH.nil
   go_simp
   refine (spec_times P x.qty _ hqt.1 hqt.2).mono ?_; rintro e w' ⟨rfl, rfl⟩
   (try go_wp2_with fail)
   refine hK.out _ _ ?_ (fun hHeld => ?_)
   · (try dsimp only); first | with_reducible assumption | assumption
   clear hK K
   (try simp only [Act.put, List.setIfInBounds_toArray, List.set_cons_zero, List.set_cons_succ])
   refine wpAnyH_ready (rs := [18]) (by kernel_rfl) (by simp) ?_
   refine AllReadyH.cons (o := { dst := some 69, op := Op.call { callee := Callee.value (Operand.func 77), args := #[Operand.tmp 51, Operand.tmp 52, Operand.tmp 57, Operand.tmp 58, Operand.tmp 59, Operand.tmp 60, Operand.tmp 67, Operand.tmp 68], argTypes := #[24, 25, 9, 9, 3, 26, 3, 37] }, type := 37, pos := _, after := #[{ on := 0, ground := Ground.data }, { on := 1, ground := Ground.data }, { on := 6, ground := Ground.data }, { on := 7, ground := Ground.data }, { on := 8, ground := Ground.data }, { on := 9, ground := Ground.data }, { on := 16, ground := Ground.data }, { on := 17, ground := Ground.data }, { on := 16, ground := Ground.chain }], guard := none }) rfl (fun K hK => ?_) AllReadyH.nil
   go_simp
   refine (HREC.out _ HB9.out.drew HO9.out).mono ?_; rintro e w' ⟨v', rfl, HOv, HBv⟩; have hS9 : Hid (Below m.w0.heap.size m.w0 w') ∧ w'.cell? ⟨b2, o2 + k * 6 + 1, none⟩ = some (.string x.prt) ∧ w'.cell? ⟨b2, o2 + k * 6 + 2, none⟩ = some (.int .i64 x.qty) := ⟨HBv, (HBv.out.cell (p := ⟨b2, o2 + k * 6 + 1, none⟩) HB2.out).trans HG1.out, (HBv.out.cell (p := ⟨b2, o2 + k * 6 + 2, none⟩) HB2.out).trans HG2.out⟩
   (try go_wp2_with fail)
   refine hK.out _ _ ?_ (fun hHeld => ?_)
   · (try dsimp only); first | with_reducible assumption | assumption
   clear hK K
   (try simp only [Act.put, List.setIfInBounds_toArray, List.set_cons_zero, List.set_cons_succ])
   refine wpAnyH_take (i := 19) (oi := { dst := some 7, op := Op.assign (Operand.tmp 69), type := 37, pos := _, after := #[{ on := 18, ground := Ground.data }, { on := 18, ground := Ground.chain }, { on := 0, ground := Ground.phase }, { on := 1, ground := Ground.phase }, { on := 2, ground := Ground.phase }, { on := 3, ground := Ground.phase }, { on := 4, ground := Ground.phase }, { on := 5, ground := Ground.phase }, { on := 6, ground := Ground.phase }, { on := 7, ground := Ground.phase }, { on := 8, ground := Ground.phase }, { on := 9, ground := Ground.phase }, { on := 10, ground := Ground.phase }, { on := 11, ground := Ground.phase }, { on := 12, ground := Ground.phase }, { on := 13, ground := Ground.phase }, { on := 14, ground := Ground.phase }, { on := 15, ground := Ground.phase }, { on := 16, ground := Ground.phase }, { on := 17, ground := Ground.phase }, { on := 18, ground := Ground.phase }], guard := none }) (v := ?vr1x18) rfl (by kernel_rfl) (by kernel_rfl) (by kernel_rfl) (fun _ _ _ h => h) (Or.inl ⟨by rfl, ?yr1x18⟩) (by assumption) ?rr1x18
   case yr1x18 => (intro w' hSw; (try dsimp only at hSw); go_simp; (try with_reducible rfl))
   (try simp only [Act.put, List.setIfInBounds_toArray, List.set_cons_zero, List.set_cons_succ])
   refine wpAnyH_done (by kernel_rfl) ?_ _
   obtain ⟨av, cv, rfl⟩ := own_sliceN HOv.out
   go_wp2_with fail
   go_roundw
   case rel => exact ⟨k + 1, av, cv, HLT.out, by go_num, by rw [HE.out.1], by rw [HE.out.1]; exact HOv, HBv⟩
   case measure => have := HLT.out; simp [intOf]; omega
theorem spec_walkAll (m : WX) (ok : m.Ok) : ∀ d, m.C d
 | 0 => fun a _ _ _ _ h => absurd h (by have := ok.lv12 a; omega)
 | d + 1 => spec_walk m ok d (spec_walkAll m ok d)

theorem cellsCap_small {zs : List Nat} (h : ∀ m, m ∈ zs → m ≤ 1000000000) : cellsCap zs = (zs.map (fun n => ((n : Nat) : Int))).map (Value.int .i64) := by
 unfold cellsCap
 rw [List.map_map]
 exact List.map_congr_left (fun m hm => by show Value.int .i64 (capI m) = Value.int .i64 (m : Int); rw [capI_yes (h m hm)])
theorem own_emptyI {base : Nat} {w : World} (h : base ≤ w.heap.size) : (w.alloc (.cells #[] 3 (0, 0))).ownsRow base 3 1 (.slice (some ⟨w.heap.size, 0, none⟩) 0 0) ([] : List Int).length (([] : List Int).map (Value.int .i64)) := own_empty h

set_option maxRecDepth 100000 in
set_option maxHeartbeats 4000000 in
theorem spec_waysTo (v v2 vc : Value) (l : List IT) (xs : List BL) (s t : ByteArray) (day : Int) (ps : List PK) (lo hi : Nat) (w : World) (h : IT.Is w v l) (h2 : BX lo hi w v2 xs) (h3 : PK.Is w vc ps)
 (hm : l.length ≤ maxLen) (hs : ∀ r, r ∈ l → IT.Sz r) (hs2 : BX.Sz xs) (hm3 : ps.length ≤ maxLen) :
 Calls Tryz.prog 35 #[v, v2, .string s, .string t, .int .i64 day, vc] w (WyOut (wyB l xs s t day ps) (wyZ l xs s t day ps) w) := by
 have HI := Lib.hid h
 have HX := Lib.hid h2
 have HPK := Lib.hid h3
 have HM3 := Lib.hid hm3
 have HFI : Hid (∀ u W, Below w.heap.size w W → Calls Tryz.prog 48 #[v, .string u] W fun e w' => e = .returned (.int .i64 (fiI l u)) ∧ W = w') := Lib.hid (fun u W hW => spec_findItem v l u W (h.below hW) hm)
 have HBI0 := Lib.hid (spec_bills v v2 l xs lo hi w h h2 hm hs hs2)
 have hxm := hs2.1
 obtain ⟨a, c, rfl⟩ := h.slice
 obtain ⟨a2, c2, rfl⟩ := h2.slice
 obtain ⟨a3, c3, rfl⟩ := h3.slice
 obtain ⟨yb, hyb⟩ : ∃ y, billsB l xs = y := ⟨_, rfl⟩
 have HYB := Lib.hid hyb
 rw [hyb] at HBI0
 clear h h2 h3 hs hs2 hyb hm3
 go_enter Tryz.func35, Tryz.ntmps35
 go_wp2_with fail
 refine HBI0.out.mono ?_
 rintro e wb ⟨rfl, hb⟩
 have HBb := Lib.hid hb
 clear hb HBI0
 cases yb with
 | false =>
  have HE := Lib.hid (wy_no (ps := ps) (day := day) (fun (h : WyYes l xs s t day ps) => by have := billsB_yes h.1.1; rw [HYB.out] at this; cases this))
  have HBF := Lib.hid (HBb.out.alloc HBb.out.size (.cells #[] 3 (0, 0)))
  go_wp2_with fail
  go_ret2
  exact ⟨_, by rw [HE.out.1]; rfl, Lib.hid (by rw [HE.out.2]; exact own_emptyI HBb.out.size), HBF⟩
 | true =>
 have hbo := billsB_iff.1 HYB.out
 have HOK := Lib.hid hbo
 have HF1 := Lib.hid (HFI.out s wb HBb.out)
 have HF2 := Lib.hid (HFI.out t wb HBb.out)
 by_cases hf : fiI l s < 0
 · have HE := Lib.hid (wy_no (ps := ps) (day := day) (fun (h : WyYes l xs s t day ps) => by have := h.1.2.1; omega))
   have HBF := Lib.hid (HBb.out.alloc HBb.out.size (.cells #[] 3 (0, 0)))
   have hd : decide (fiI l s < 0) = true := decide_eq_true hf
   clear hf
   go_wp2_with fail
   refine HF1.out.mono ?_
   rintro e w0 ⟨rfl, rfl⟩
   go_wp2_with fail
   go_ret2
   exact ⟨_, by rw [HE.out.1]; rfl, Lib.hid (by rw [HE.out.2]; exact own_emptyI HBb.out.size), HBF⟩
 have hd0 : decide (fiI l s < 0) = false := decide_eq_false hf
 by_cases hf2 : fiI l t < 0
 · have HE := Lib.hid (wy_no (ps := ps) (day := day) (fun (h : WyYes l xs s t day ps) => by have := h.1.2.2.1; omega))
   have HBF := Lib.hid (HBb.out.alloc HBb.out.size (.cells #[] 3 (0, 0)))
   have hd : decide (fiI l t < 0) = true := decide_eq_true hf2
   clear hf hf2
   go_wp2_with fail
   refine HF1.out.mono ?_
   rintro e w0 ⟨rfl, rfl⟩
   go_wp2_with fail
   refine HF2.out.mono ?_
   rintro e w0 ⟨rfl, rfl⟩
   go_wp2_with fail
   go_ret2
   exact ⟨_, by rw [HE.out.1]; rfl, Lib.hid (by rw [HE.out.2]; exact own_emptyI HBb.out.size), HBF⟩
 have hd2 : decide (fiI l t < 0) = false := decide_eq_false hf2
 have hx24 := hbo.1.2.1
 by_cases h12 : xs.length ≤ 12
 rotate_left
 · have HE := Lib.hid (wy_no (ps := ps) (day := day) (fun (h : WyYes l xs s t day ps) => h12 h.1.2.2.2))
   have HBF := Lib.hid (HBb.out.alloc HBb.out.size (.cells #[] 3 (0, 0)))
   have hd3 : decide ((12 : Int) < (xs.length : Int)) = true := decide_eq_true (by omega)
   have hd4 : decide (12 < xs.length) = true := decide_eq_true (by omega)
   clear hf hf2 hbo
   go_wp2_with fail
   refine HF1.out.mono ?_
   rintro e w0 ⟨rfl, rfl⟩
   go_wp2_with fail
   refine HF2.out.mono ?_
   rintro e w0 ⟨rfl, rfl⟩
   go_wp2_with fail
   go_ret2
   exact ⟨_, by rw [HE.out.1]; rfl, Lib.hid (by rw [HE.out.2]; exact own_emptyI HBb.out.size), HBF⟩
 have hd3 : decide ((12 : Int) < (xs.length : Int)) = false := decide_eq_false (by omega)
 have hd4 : decide (12 < xs.length) = false := decide_eq_false (by omega)
 have HWO : Hid (WyOk l xs s t) := Lib.hid ⟨hbo, by omega, by omega, h12⟩
 obtain ⟨lv, hl1, hl2⟩ := on_acy hbo day ps
 have HWC := Lib.hid (spec_walkAll ⟨wb, .slice a l.length c, .slice a2 xs.length c2, .slice a3 ps.length c3, xs, lo, hi, t, day, ps, lv⟩ ⟨⟨_, _, _, rfl⟩, HX.out.below BLN.kept HBb.out, HPK.out.below HBb.out, HM3.out, hx24, fun x hx => ⟨(hbo.1.mem hx).2.2.2.1, (hbo.1.mem hx).2.2.2.2.1⟩, fun x hx => (hbo.1.mem hx).2.2.2.2.2.2.2.2, hl1, hl2⟩ 12 s 1 [] (.slice (some ⟨wb.heap.size, 0, none⟩) 0 0) (wb.alloc (.cells #[] 3 (0, 0))) (by omega) (by simp) ((Below.refl _ _).alloc (Nat.le_refl _) _) (own_empty (Nat.le_refl _)))
 have hone : capI 1 = 1 := rfl
 have HYE : Hid (WyYes l xs s t day ps ↔ (wW (onX xs day ps) t s).length ≤ 200 ∧ ∀ m, m ∈ wW (onX xs day ps) t s → m ≤ 1000000000) := Lib.hid ⟨fun h => h.2, fun h => ⟨HWO.out, h⟩⟩
 have HMP : Hid ((wW (onX xs day ps) t s).map (fun n => 1 * n) = wW (onX xs day ps) t s) := Lib.hid (by simp)
 rw [HMP.out, hone] at HWC
 clear hf hf2 hbo hl1 hl2 HMP hone
 go_wp2_with fail
 refine HF1.out.mono ?_
 rintro e w0 ⟨rfl, rfl⟩
 go_wp2_with fail
 refine HF2.out.mono ?_
 rintro e w0 ⟨rfl, rfl⟩
 go_wp2_with fail
 refine HWC.out.mono ?_
 rintro e w3 ⟨v3, rfl, HO3, HB3⟩
 obtain ⟨a4, c4, rfl⟩ := own_sliceN HO3.out
 have HBW : Hid (Below w.heap.size w w3) := Lib.hid (HBb.out.trans (HB3.out.mono HBb.out.size))
 have HZE : Hid (∀ m, m ∈ ext [] (wW (onX xs day ps) t s) → m ∈ wW (onX xs day ps) t s) := Lib.hid (fun m hm => ext_mem hm)
 have HZS : Hid ((wW (onX xs day ps) t s).length ≤ 200 → ext [] (wW (onX xs day ps) t s) = wW (onX xs day ps) t s) := Lib.hid (fun h => ext_short h)
 have HZL : Hid (¬(wW (onX xs day ps) t s).length ≤ 200 → (ext [] (wW (onX xs day ps) t s)).length = 201) := Lib.hid (fun h => ext_long h)
 have HYZ : Hid (WyYes l xs s t day ps → wyB l xs s t day ps = true ∧ wyZ l xs s t day ps = (wW (onX xs day ps) t s).map (fun n => ((n : Nat) : Int))) := Lib.hid wy_yes
 have HOW : Hid (w3.ownsRow w.heap.size 3 1 (.slice a4 (ext [] (wW (onX xs day ps) t s)).length c4) (ext [] (wW (onX xs day ps) t s)).length (cellsCap (ext [] (wW (onX xs day ps) t s)))) := Lib.hid (own_lower HO3.out HBb.out.size)
 have hzz := ext_len [] (wW (onX xs day ps) t s)
 clear HWC HF1 HF2 HO3 HB3 HFI
 generalize wW (onX xs day ps) t s = ws at *
 generalize ext [] ws = Z at *
 go_wp2_with fail
 go_loopw [15] (fun i wr => ∃ k : Nat, k ≤ Z.length ∧ i = .int .i64 k ∧ Hid (∀ m, m ∈ Z.take k → m ≤ 1000000000) ∧ Hid (Below w3.heap.size w3 wr)) (fun i _ => Z.length - (intOf i).toNat)
 case atStart => exact ⟨0, Nat.zero_le _, rfl, Lib.hid (fun m hm => by simp at hm), Lib.hid (Below.refl _ _)⟩
 case round =>
  obtain ⟨k, hk, rfl, HN, HBr⟩ := hrel
  have HBF := Lib.hid (HBW.out.trans (HBr.out.mono HBW.out.size))
  by_cases hlt : k < Z.length
  rotate_left
  · have hke : k = Z.length := by omega
    have hall : ∀ m, m ∈ Z → m ≤ 1000000000 := fun m hm => HN.out m (by rw [hke, List.take_length]; exact hm)
    by_cases h200 : Z.length ≤ 200
    · have hws : ws.length ≤ 200 := Classical.byContradiction (fun h => by have := HZL.out h; omega)
      have hzw := HZS.out hws
      rw [hzw] at hall
      have HE := Lib.hid (HYZ.out (HYE.out.2 ⟨hws, hall⟩))
      have HALL := Lib.hid hall
      have HZW := Lib.hid hzw
      have hdk : decide ((200 : Int) < (Z.length : Int)) = false := decide_eq_false (by omega)
      have hdk2 : decide (200 < Z.length) = false := decide_eq_false (by omega)
      clear hws hzw hall hke
      go_wp2_with fail
      go_ret2
      exact ⟨_, by rw [HE.out.1]; rfl, Lib.hid (by rw [HE.out.2, List.length_map, ← cellsCap_small HALL.out, ← HZW.out]; exact own_keepL HOW.out HBr.out), HBF⟩
    · have HE := Lib.hid (wy_no (ps := ps) (day := day) (fun (h : WyYes l xs s t day ps) => h200 (by rw [HZS.out (HYE.out.1 h).1]; exact (HYE.out.1 h).1)))
      have hdk : decide ((200 : Int) < (Z.length : Int)) = true := decide_eq_true (by omega)
      have hdk2 : decide (200 < Z.length) = true := decide_eq_true (by omega)
      have HBG := Lib.hid (HBF.out.alloc HBF.out.size (.cells #[] 3 (0, 0)))
      clear hall hke
      go_wp2_with fail
      go_ret2
      exact ⟨_, by rw [HE.out.1]; rfl, Lib.hid (by rw [HE.out.2]; exact own_emptyI HBF.out.size), HBG⟩
  have HLT := Lib.hid hlt
  obtain ⟨g, cg, hv, hg1, hg2⟩ := own_pos (own_keepL HOW.out HBr.out) (show 0 < Z.length by omega)
  simp only [Value.slice.injEq] at hv
  obtain ⟨rfl, _, rfl⟩ := hv
  have hcell : wr.cell? ⟨g, k, none⟩ = some (.int .i64 (capI (Z[k]'hlt))) := by
   rw [(own_keepL HOW.out HBr.out).cellAt k (by omega)]
   have h := cellsCap_get (S := Z) hlt
   rw [lv_get hlt] at h
   exact h
  have HT : Hid (Z.take (k + 1) = Z.take k ++ [Z[k]'hlt]) := Lib.hid (List.take_succ_eq_append_getElem hlt)
  have HMEM := Lib.hid (List.getElem_mem hlt)
  have hcn := capI_neg (n := Z[k]'hlt)
  have hk0 : (0 : Int) ≤ (k : Int) := by omega
  have hk1 : (k : Int) < (Z.length : Int) := by omega
  generalize Z[k]'hlt = x at *
  by_cases hx : x ≤ 1000000000
  · have hdn : decide (capI x < 0) = false := decide_eq_false (fun h => hcn.1 h hx)
    clear hcn
    go_wp2_with fail
    go_roundw
    case rel => exact ⟨k + 1, HLT.out, by go_num, Lib.hid (fun m hm => by
     rw [HT.out] at hm
     rcases List.mem_append.1 hm with h | h
     · exact HN.out m h
     · rw [List.mem_singleton.1 h]; exact hx), HBr⟩
    case measure => have := HLT.out; simp [intOf]; omega
  · have hdn : decide (capI x < 0) = true := decide_eq_true (hcn.2 hx)
    have HE := Lib.hid (wy_no (ps := ps) (day := day) (fun (h : WyYes l xs s t day ps) => hx ((HYE.out.1 h).2 x (HZE.out x HMEM.out))))
    have HBG := Lib.hid (HBF.out.alloc HBF.out.size (.cells #[] 3 (0, 0)))
    clear hcn
    go_wp2_with fail
    go_ret2
    exact ⟨_, by rw [HE.out.1]; rfl, Lib.hid (by rw [HE.out.2]; exact own_emptyI HBF.out.size), HBG⟩
end Go.Proofs.YtmnncinpepeocaaGreat
