/-
 The program's productsTo (the closure, made), and WaysTo.
-/
import Derived.Test.YtmnncinpepeocaaGreatMemoW
import Derived.Test.YtmnncinpepeocaaGreatExpImpl
import Derived.Test.YtmnncinpepeocaaGreatBuA
import Derived.WalkKit
import Derived.WalkSpells
import Derived.WalkSmall
import Derived.BigQuiet
import Derived.OneCell
import Derived.Deep.QuietTactic
import Derived.Deep.DeepCutAuto
import Derived.Laws.EntriesVeiled
import Derived.Laws.OwnMore
import Derived.Lib.Hide
namespace Go.Proofs.YtmnncinpepeocaaGreat
open Go.RowKit

set_option maxRecDepth 100000 in
set_option maxHeartbeats 1000000 in
/-- Where the mark of too many stands. -/
theorem im_indexI (base : Nat) (v : Value) (zs : List Nat) (w : World) (h : w.ownsRow base 3 1 v zs.length (cellsT zs)) (hm : zs.length ≤ 8916100448256) :
 Calls Tryz.prog 97 #[v, .int .i64 1000000001] w fun e w' => ∃ r : Int, e = .returned (.int .i64 r) ∧ -1 ≤ r ∧ r ≤ 8916100448256 ∧ Hid (0 ≤ r ↔ ∃ m, m ∈ zs ∧ ¬m ≤ 1000000000) ∧ w' = w := by
 have HO := Lib.hid h
 obtain ⟨a, c, rfl⟩ := own_sliceN h
 clear h
 go_enter Tryz.func97, Tryz.ntmps97
 go_wp2_with fail
 go_loopw [8] (fun i wr => ∃ k : Nat, k ≤ zs.length ∧ i = .int .i64 k ∧ Hid (∀ m, m ∈ zs.take k → m ≤ 1000000000) ∧ wr = w) (fun i _ => zs.length - (intOf i).toNat)
 case atStart => exact ⟨0, Nat.zero_le _, rfl, Lib.hid (fun m hm => by simp at hm), rfl⟩
 case round =>
  obtain ⟨k, hk, rfl, HN, rfl⟩ := hrel
  by_cases hlt : k < zs.length
  rotate_left
  · have hke : k = zs.length := by omega
    subst hke
    go_wp2_with fail
    go_ret
    refine ⟨-1, rfl, by omega, by omega, Lib.hid ⟨fun h => by omega, fun ⟨m, h1, h2⟩ => ?_⟩, rfl⟩
    exact absurd (HN.out m (by rw [List.take_length]; exact h1)) h2
  have HLT := Lib.hid hlt
  obtain ⟨g, cg, hv, hg1, hg2⟩ := own_pos HO.out (show 0 < zs.length by omega)
  simp only [Value.slice.injEq] at hv
  obtain ⟨rfl, _, rfl⟩ := hv
  have hcell : wr.cell? ⟨g, k, none⟩ = some (.int .i64 (capT (zs[k]'hlt))) := by
   rw [HO.out.cellAt k (by omega)]
   exact cellsT_get hlt
  have HT : Hid (zs.take (k + 1) = zs.take k ++ [zs[k]'hlt]) := Lib.hid (List.take_succ_eq_append_getElem hlt)
  have HMEM := Lib.hid (List.getElem_mem hlt)
  have hcb := capT_big (n := zs[k]'hlt)
  have hcr := capT_range (zs[k]'hlt)
  have hk0 : (0 : Int) ≤ (k : Int) := by omega
  have hk1 : (k : Int) < (zs.length : Int) := by omega
  generalize zs[k]'hlt = x at *
  by_cases hx : x ≤ 1000000000
  · have hne : ((1000000001 : Int) == capT x) = false := beq_eq_false_iff_ne.2 (fun e => by
     have := hcb.1 (by omega)
     exact this hx)
    clear hcb
    go_wp2_with fail
    go_roundw
    case rel => exact ⟨k + 1, HLT.out, by go_num, Lib.hid (fun m hm => by
     rw [HT.out] at hm
     rcases List.mem_append.1 hm with h | h
     · exact HN.out m h
     · rw [List.mem_singleton.1 h]; exact hx), trivial⟩
    case measure => have := HLT.out; simp [intOf]; omega
  · have hbig := hcb.2 hx
    have heq : capT x = 1000000001 := by omega
    rw [heq] at hcell
    clear hcb hbig heq hcr
    go_wp2_with fail
    go_ret
    exact ⟨k, rfl, by omega, by omega, Lib.hid ⟨fun _ => ⟨x, HMEM.out, hx⟩, fun _ => hk0⟩, rfl⟩

set_option maxRecDepth 100000 in
theorem im_containsI (base : Nat) (v : Value) (zs : List Nat) (y : Bool) (w : World) (h : w.ownsRow base 3 1 v zs.length (cellsT zs)) (hm : zs.length ≤ 8916100448256) (hy : y = true ↔ ∃ m, m ∈ zs ∧ ¬m ≤ 1000000000) :
 Calls Tryz.prog 56 #[v, .int .i64 1000000001] w fun e w' => e = .returned (.bool y) ∧ w' = w := by
 have HI := Lib.hid (im_indexI base v zs w h hm)
 have HY := Lib.hid hy
 obtain ⟨a, c, rfl⟩ := own_sliceN h
 clear h hy
 go_enter Tryz.func56, Tryz.ntmps56
 go_wp2_with fail
 refine HI.out.mono ?_
 rintro e w1 ⟨r, rfl, hr0, hr1, HR, rfl⟩
 have hyr : decide (0 ≤ r) = y := by
  have h1 := HR.out
  have h2 := HY.out
  cases y with
  | true => exact decide_eq_true (h1.2 (h2.1 rfl))
  | false => exact decide_eq_false (fun h => by have := h2.2 (h1.1 h); cases this)
 go_wp2_with fail
 go_ret
 exact ⟨rfl, rfl⟩

set_option maxRecDepth 100000 in
set_option maxHeartbeats 1000000 in
/-- What memoized lays. -/
theorem im_memoizedW (bm b0 : Nat) (w : World) :
 Calls Tryz.prog 95 #[.map (some bm), .func (.func 96) #[] #[.pointer (some ⟨b0, 0, none⟩)]] w fun e w' =>
  e = .returned (.func (.func 116) #[] #[.pointer (some ⟨w.heap.size, 0, none⟩), .pointer (some ⟨w.heap.size + 1, 0, none⟩), .pointer (some ⟨w.heap.size + 1 + 1, 0, none⟩)]) ∧
  Hid (w'.heap[w.heap.size]? = some (.cells #[.map (some bm)] 137)) ∧ Hid (w'.heap[w.heap.size + 1]? = some (.cells #[.func (.func 96) #[] #[.pointer (some ⟨b0, 0, none⟩)]] 138)) ∧
  Hid (w'.heap[w.heap.size + 1 + 1]? = some (.cells #[.func (.func 116) #[] #[.pointer (some ⟨w.heap.size, 0, none⟩), .pointer (some ⟨w.heap.size + 1, 0, none⟩), .pointer (some ⟨w.heap.size + 1 + 1, 0, none⟩)]] 85)) ∧ Hid (Below w.heap.size w w') := by
 have hmf : ∀ (fn : Fn) (first cap : Array Value) (w : World), (Instr.makeFunc fn first cap).run Tryz.prog w = .ok (.func fn first cap) w := fun _ _ _ _ => rfl
 have hal := alloc3 w (.cells #[.map (some bm)] 137) (.cells #[.func (.func 96) #[] #[.pointer (some ⟨b0, 0, none⟩)]] 138) (.cells #[.nilFunc] 85)
 obtain ⟨W1, hW1⟩ : ∃ W, ((w.alloc (.cells #[.map (some bm)] 137)).alloc (.cells #[.func (.func 96) #[] #[.pointer (some ⟨b0, 0, none⟩)]] 138)).alloc (.cells #[.nilFunc] 85) = W := ⟨_, rfl⟩
 rw [hW1] at hal
 obtain ⟨hB, hz, h0, h1, h5⟩ := hal
 have HW1 := Lib.hid hW1
 have HB := Lib.hid hB
 have H0 := Lib.hid h0
 have H1 := Lib.hid h1
 have q0 := cell_of_row _ _ 0 _ _ _ h5
 have f0 := frozen_of_row _ _ 0 _ _ h5
 have H5 := Lib.hid h5
 clear hB h0 h1 h5 hW1
 go_enter Tryz.func95, Tryz.ntmps95
 go_upto_region 2 with fail
 rw [HW1.out]
 go_wp2_with fail
 go_ret
 exact ⟨rfl, Lib.hid (blk_other H0.out (by omega)), Lib.hid (blk_other H1.out (by omega)), Lib.hid (heap_setCell_same _ _ 0 _ _ _ H5.out), Lib.hid (HB.out.setCell (by simp; omega) _)⟩

/-- What productsTo gives. -/
def PrdRes (ys : List BL) (c : ByteArray) (ks : List ByteArray) (lv : ByteArray → Nat) (w : World) (e : Ending) (w' : World) : Prop :=
 ∃ (m : MW) (L : ByteArray → Option Sl3), e = .returned m.askV ∧ Hid m.Ok ∧ (m.ys = ys ∧ m.c = c ∧ m.ks = ks ∧ m.lv = lv) ∧ Hid (m.St w' L) ∧ Hid (Below w.heap.size w w') ∧ w.heap.size ≤ m.bm

set_option maxRecDepth 100000 in
set_option maxHeartbeats 1000000 in
theorem im_products (v1 v2 : Value) (ys : List BL) (lo hi : Nat) (c : ByteArray) (ks : List ByteArray) (lv : ByteArray → Nat) (w : World) (h : BX lo hi w v2 ys) (hv1 : ∃ (a : Option Addr) (n k : Nat), v1 = .slice a n k)
 (hlen : ys.length ≤ 12) (hqt : ∀ x, x ∈ ys → 1 ≤ x.qty ∧ x.qty ≤ 1000) (hprt : ∀ x, x ∈ ys → x.prt ∈ ks) (hlvl : Lvl (ys.map edOf) lv) (hlv12 : ∀ s, lv s < 12) (hc : c ∈ ks)
 (hnd : ks.Nodup) (hk12 : ks.length ≤ 12) (hksz : ∀ s, s ∈ ks → s.size ≤ maxLen) :
 Calls Tryz.prog 55 #[.agg #[v1, v2], .string c] w (PrdRes ys c ks lv w) := by
 have hmf : ∀ (fn : Fn) (first cap : Array Value) (w : World), (Instr.makeFunc fn first cap).run Tryz.prog w = .ok (.func fn first cap) w := fun _ _ _ _ => rfl
 obtain ⟨a1, n1, k1, rfl⟩ := hv1
 obtain ⟨a2, c2, rfl⟩ := h.slice
 obtain ⟨W1, hW1⟩ : ∃ W, w.alloc (.cells #[.slice a1 n1 k1, .slice a2 ys.length c2] 71) = W := ⟨_, rfl⟩
 have h0 : W1.heap[w.heap.size]? = some (.cells #[.slice a1 n1 k1, .slice a2 ys.length c2] 71) := by rw [← hW1]; exact heap_alloc_new _ _
 have hB : Below w.heap.size w W1 := by rw [← hW1]; exact (Below.refl _ _).alloc (Nat.le_refl _) _
 have HW1 := Lib.hid hW1
 have HB := Lib.hid hB
 have HSZ := Lib.hid (hksz c hc)
 have hz : w.heap.size < W1.heap.size := lt_of_heap h0
 let m : Nat → MW := fun n => ⟨W1, .slice a1 n1 k1, .slice a2 ys.length c2, ys, lo, hi, c, w.heap.size, W1.heap.size, n, n + 1, n + 1 + 1, n + 1 + 1 + 1, ks, lv⟩
 have HOK : Hid (∀ n, W1.heap.size < n → (m n).Ok) := Lib.hid (fun n hn => ⟨h.below BLN.kept hB, hlen, hqt, hprt, hlvl, hlv12, h0, hnd, hk12, hksz, Nat.le_refl _, show W1.heap.size < n + 1 + 1 + 1 by omega, show n < n + 1 + 1 + 1 by omega, show n + 1 < n + 1 + 1 + 1 by omega, show n + 1 + 1 < n + 1 + 1 + 1 by omega, show n ≠ W1.heap.size by omega, show n + 1 ≠ W1.heap.size by omega, show n + 1 + 1 ≠ W1.heap.size by omega⟩)
 have HC := Lib.hid (cntL_first hnd hc (⟨some (W1.heap.size + 1, 0), 1, 1⟩ : Sl3))
 have HM0 : Hid (MapG mSl Tryz.prog 9 ((W1.alloc (.map #[] 0)).alloc (.cells #[.int .i64 1] 3)) W1.heap.size 0 lookG0) := Lib.hid ((mapG_made mSl Tryz.prog 9 W1).alloc _)
 have HN0 : Hid (((W1.alloc (.map #[] 0)).alloc (.cells #[.int .i64 1] 3)).heap[W1.heap.size + 1]? = some (.cells #[.int .i64 1] 3)) := Lib.hid (by
  have h3 := heap_alloc_new (W1.alloc (.map #[] 0)) (.cells #[.int .i64 1] 3)
  have h4 : (W1.alloc (.map #[] 0)).heap.size = W1.heap.size + 1 := by simp
  rw [h4] at h3
  exact h3)
 have HB1 : Hid (Below W1.heap.size W1 ((W1.alloc (.map #[] 0)).alloc (.cells #[.int .i64 1] 3))) := Lib.hid (((Below.refl _ W1).alloc (Nat.le_refl _) (.map #[] 0)).alloc (by simp) _)
 have hmm := @run_makeMap Tryz.prog
 have HCM := Lib.hid hc
 clear h hW1 hB h0 hqt hprt hlvl hlv12 hnd hksz hc
 go_enter Tryz.func55, Tryz.ntmps55
 go_upto_region 1 with fail
 rw [HW1.out]
 go_wp2_with (refine wpList_insG mSl _ rfl _ _ _ 137 rfl 9 37 Tryz.underlying9 Tryz.underlying137 W1.heap.size 0 lookG0 rfl HM0.out (by unfold maxLen; omega) c HSZ.out rfl (⟨some (W1.heap.size + 1, 0), 1, 1⟩ : Sl3) rfl ?_)
 intro w2 hm2 hg2
 have HM2 := Lib.hid hm2
 have HB2 : Hid (Below W1.heap.size W1 w2) := Lib.hid (HB1.out.grown hg2 HB1.out.size (fun j hj => by cases hj; omega))
 have HN2 : Hid (w2.heap[W1.heap.size + 1]? = some (.cells #[.int .i64 1] 3)) := Lib.hid (blk_grownW HN0.out hg2 (fun e => by have := Option.some.inj e; omega))
 have hz2 : W1.heap.size + 1 < w2.heap.size := lt_of_heap HN2.out
 clear hm2 hg2 hmm HM0
 go_wp2_with fail
 refine (im_memoizedW _ _ w2).mono ?_
 rintro e w3 ⟨rfl, HK1, HR1, HA1, HB3⟩
 go_wp2_with fail
 go_ret
 have hbl : Below W1.heap.size W1 w3 := HB2.out.trans (HB3.out.mono HB2.out.size)
 have hn3 := blk_below HN2.out HB3.out
 refine ⟨m w2.heap.size, lookG1 lookG0 c ⟨some (W1.heap.size + 1, 0), 1, 1⟩, rfl, Lib.hid (HOK.out _ (by omega)), ⟨rfl, rfl, rfl, rfl⟩, Lib.hid ⟨hbl, lt_of_heap HA1.out, ?_, fun s hs => ?_, fun s v hv => ?_, ?_, HK1.out, HR1.out, HA1.out⟩, Lib.hid (HB.out.trans (hbl.mono HB.out.size)), HB.out.size⟩
 · show MapG mSl _ _ w3 W1.heap.size (cntL ks _) _
   rw [HC.out]
   exact HM2.out.below HB3.out
 · unfold lookG1 lookG0 at hs
   by_cases e : s = c
   · rw [e]; exact HCM.out
   · rw [if_neg e] at hs; exact absurd rfl hs
 · unfold lookG1 lookG0 at hv
   by_cases e : s = c
   · rw [if_pos e] at hv
     rw [e, ← Option.some.inj hv]
     show w3.ownsRow (W1.heap.size + 1) 3 1 (.slice (some ⟨W1.heap.size + 1, 0, none⟩) 1 1) (wW ys c c).length (cellsT (wW ys c c))
     rw [wW_self]
     exact ⟨rfl, Or.inr ⟨W1.heap.size + 1, 1, #[.int .i64 1], rfl, Nat.le_refl _, hn3, Nat.le_refl _, by unfold maxLen; omega, rfl, rfl⟩⟩
   · rw [if_neg e] at hv; cases hv
 · unfold lookG1
   show (if c = c then some _ else _) ≠ none
   rw [if_pos rfl]; simp

theorem own_nilI {base : Nat} (w : World) : w.ownsRow base 3 1 (.slice none 0 0) ([] : List Int).length (([] : List Int).map (Value.int .i64)) := World.ownsRow_nil _ _ _ _

set_option maxRecDepth 100000 in
set_option maxHeartbeats 2000000 in
theorem im_waysTo (v v2 vc : Value) (l : List IT) (xs : List BL) (s t : ByteArray) (day : Int) (ps : List PK) (lo hi : Nat) (w : World) (h : IT.Is w v l) (h2 : BX lo hi w v2 xs) (h3 : PK.Is w vc ps)
 (hm : l.length ≤ maxLen) (hs : ∀ r, r ∈ l → IT.Sz r) (hs2 : BX.Sz xs) (hm3 : ps.length ≤ maxLen) :
 Calls Tryz.prog 14 #[v, v2, .string s, .string t, .int .i64 day, vc] w (WyOut (wyB l xs s t day ps) (wyZ l xs s t day ps) w) := by
 have HI := Lib.hid h
 have HSZ := Lib.hid hs
 have HM2 := Lib.hid hs2.1
 have hb0 : Below w.heap.size w (w.alloc (.cells #[.string s, .string t] 9)) := (Below.refl _ _).alloc (Nat.le_refl _) _
 have HB0 := Lib.hid hb0
 have HST := Lib.hid (im_struc v v2 vc _ l xs day ps [s, t] lo hi _ (h.below hb0) (h2.below BLN.kept hb0) (h3.below hb0) (strs_two w s t) hm hs hs2 hm3 (by simp))
 obtain ⟨a1, k1, rfl⟩ := h.slice
 obtain ⟨a2, k2, rfl⟩ := h2.slice
 obtain ⟨a3, k3, rfl⟩ := h3.slice
 clear h h2 h3 hs hs2 hb0
 go_enter Tryz.func14, Tryz.ntmps14
 go_wp2_with fail
 refine HST.out.mono ?_
 clear HST
 rintro e w1 (⟨hno, rfl, HB1⟩ | ⟨hyes, v', rfl, HX, HB1⟩)
 · have HE := Lib.hid (wy_no (ps := ps) (day := day) (fun (h : WyYes l xs s t day ps) => hno (struc_two.2 ⟨h.1.1, h.1.2.1, h.1.2.2.1⟩)))
   have HBF := Lib.hid ((HB0.out.trans (HB1.out.mono HB0.out.size)).alloc (Nat.le_trans HB0.out.size HB1.out.size) (.cells #[.slice none 0 0, .slice none 0 0] 71))
   clear hno
   go_wp2_with fail
   go_ret2
   exact ⟨_, by rw [HE.out.1]; rfl, Lib.hid (by rw [HE.out.2]; exact own_nilI _), HBF⟩
 have hbi := struc_two.1 hyes
 obtain ⟨ad, cd, rfl⟩ := HX.out.slice
 have HBW : Hid (Below w.heap.size w w1) := Lib.hid (HB0.out.trans (HB1.out.mono HB0.out.size))
 have hal := (Below.refl w1.heap.size w1).alloc (Nat.le_refl _) (.cells #[.slice a1 l.length k1, .slice ad (onX xs day ps).length cd] 71)
 have hbx := heap_alloc_new w1 (.cells #[.slice a1 l.length k1, .slice ad (onX xs day ps).length cd] 71)
 clear hyes
 go_upto_region 2 with fail
 generalize w1.alloc (.cells #[.slice a1 l.length k1, .slice ad (onX xs day ps).length cd] 71) = w2 at *
 have HB2 := Lib.hid (HBW.out.trans (hal.mono HBW.out.size))
 have HX2 := Lib.hid (HX.out.below BLN.kept hal)
 have HBX := Lib.hid hbx
 clear hal hbx HX HB1 HBW
 have hxm := HM2.out
 by_cases h12 : xs.length ≤ 12
 rotate_left
 · have HE := Lib.hid (wy_no (ps := ps) (day := day) (fun (h : WyYes l xs s t day ps) => h12 h.1.2.2.2))
   have hd : decide ((12 : Int) < (xs.length : Int)) = true := decide_eq_true (by omega)
   have hd2 : decide (12 < xs.length) = true := decide_eq_true (by omega)
   clear hbi
   go_wp2_with fail
   go_ret2
   exact ⟨_, by rw [HE.out.1]; rfl, Lib.hid (by rw [HE.out.2]; exact own_nilI _), HB2⟩
 have hd : decide ((12 : Int) < (xs.length : Int)) = false := decide_eq_false (by omega)
 have hd2 : decide (12 < xs.length) = false := decide_eq_false (by omega)
 obtain ⟨lv, hon⟩ := on_ok hbi.1 day ps
 have hcat := hbi.1.1.1
 have hylen : (onX xs day ps).length ≤ 12 := Nat.le_trans (onX_len _ _ _) h12
 have HYL := Lib.hid hylen
 have HPC := Lib.hid (im_products (.slice a1 l.length k1) (.slice ad (onX xs day ps).length cd) (onX xs day ps) _ _ t (l.map IT.code) lv w2 HX2.out ⟨_, _, _, rfl⟩ hylen hon.qty (fun x hx => by
  have h4 := hbi.1.1.mem (onX_mem hx)
  rw [← h4.codes.2]
  exact code_mem h4.inb.2) hon.lvl hon.lv12 (fi_mem hbi.2.2).1 (cat_codes hcat) (by rw [List.length_map]; exact hcat.2) (fun s hs => by
  obtain ⟨r, hr, rfl⟩ := List.mem_map.1 hs
  exact (HSZ.out r hr).1))
 have HLV := Lib.hid hon.lv12
 have HT := Lib.hid (fi_mem hbi.2.1).1
 have HOK12 : Hid (WyOk l xs s t) := Lib.hid ⟨hbi.1, hbi.2.1, hbi.2.2, h12⟩
 have p0 := cell_of_row _ _ 0 _ _ _ HBX.out
 have p1 := cell_of_row _ _ 1 _ _ _ HBX.out
 clear hon hbi hcat hylen h12
 go_wp2_with fail
 refine HPC.out.mono ?_
 rintro e w3 ⟨m, L, rfl, HOK, ⟨hm1, hm2, hm5, hm6⟩, HS, HB3, hbm⟩
 have HV : Hid (m.V s = wW (onX xs day ps) t s) := Lib.hid (by unfold MW.V; rw [hm1, hm2])
 have HB4 := Lib.hid (HB2.out.trans (HB3.out.mono HB2.out.size))
 have hbmw : w.heap.size ≤ m.bm := Nat.le_trans HB2.out.size hbm
 have HASK := Lib.hid (im_askAllW m HOK.out 12 s w3 L (by rw [hm5]; exact HT.out) (by omega) HS.out)
 clear HPC p0 p1 hm1 hm2 hm5 hm6
 unfold MW.askV
 go_wp2_with fail
 refine HASK.out.mono ?_
 rintro e w4 ⟨sl, L4, rfl, hL4, HS4, HU4, HG4, HN4⟩
 have HBF : Hid (Below w.heap.size w w4) := Lib.hid (HB4.out.grown HG4.out HB4.out.size (fun k hk => by cases hk; exact hbmw))
 have hrow := HS4.out.good _ _ hL4
 obtain ⟨ap, cp, hsl⟩ := own_sliceN hrow
 have HROW : Hid (w4.ownsRow w.heap.size 3 1 (.slice ap (wW (onX xs day ps) t s).length cp) (wW (onX xs day ps) t s).length (cellsT (wW (onX xs day ps) t s))) := Lib.hid (by
  rw [← HV.out, ← hsl]
  exact own_lower hrow (by omega))
 rw [hsl, HV.out]
 have HZL := Lib.hid (wW_len HYL.out t s)
 have HCO := Lib.hid (fun y hy => im_containsI _ _ _ y w4 HROW.out HZL.out hy)
 have hzl := HZL.out
 have HYE : Hid (WyYes l xs s t day ps ↔ (wW (onX xs day ps) t s).length ≤ 200 ∧ ∀ m, m ∈ wW (onX xs day ps) t s → m ≤ 1000000000) := Lib.hid ⟨fun h => h.2, fun h => ⟨HOK12.out, h⟩⟩
 have HYZ : Hid (WyYes l xs s t day ps → wyB l xs s t day ps = true ∧ wyZ l xs s t day ps = (wW (onX xs day ps) t s).map (fun n => ((n : Nat) : Int))) := Lib.hid wy_yes
 clear HASK HS4 HU4 HG4 HN4 hrow hsl hL4 hd hd2
 generalize wW (onX xs day ps) t s = zs at *
 by_cases h200 : zs.length ≤ 200
 rotate_left
 · have HE := Lib.hid (wy_no (ps := ps) (day := day) (fun (h : WyYes l xs s t day ps) => h200 (HYE.out.1 h).1))
   have hd : decide ((200 : Int) < (zs.length : Int)) = true := decide_eq_true (by omega)
   have hd2 : decide (200 < zs.length) = true := decide_eq_true (by omega)
   go_wp2_with fail
   go_ret2
   exact ⟨_, by rw [HE.out.1]; rfl, Lib.hid (by rw [HE.out.2]; exact own_nilI _), HBF⟩
 have hd : decide ((200 : Int) < (zs.length : Int)) = false := decide_eq_false (by omega)
 have hd2 : decide (200 < zs.length) = false := decide_eq_false (by omega)
 by_cases hbig : ∃ m, m ∈ zs ∧ ¬m ≤ 1000000000
 · have HE := Lib.hid (wy_no (ps := ps) (day := day) (fun (h : WyYes l xs s t day ps) => by
    obtain ⟨m, h1, h2⟩ := hbig
    exact h2 ((HYE.out.1 h).2 m h1)))
   have HC1 := Lib.hid (HCO.out true ⟨fun _ => hbig, fun _ => rfl⟩)
   clear hbig
   go_wp2_with fail
   refine HC1.out.mono ?_
   rintro e w5 ⟨rfl, rfl⟩
   go_wp2_with fail
   go_ret2
   exact ⟨_, by rw [HE.out.1]; rfl, Lib.hid (by rw [HE.out.2]; exact own_nilI _), HBF⟩
 · have hall : ∀ m, m ∈ zs → m ≤ 1000000000 := fun m hm => Classical.byContradiction (fun h => hbig ⟨m, hm, h⟩)
   have HE := Lib.hid (HYZ.out (HYE.out.2 ⟨h200, hall⟩))
   have HC1 := Lib.hid (HCO.out false (Iff.intro (fun h => Bool.noConfusion h) (fun h => absurd h hbig)))
   have HALL := Lib.hid hall
   clear hbig hall
   go_wp2_with fail
   refine HC1.out.mono ?_
   rintro e w5 ⟨rfl, rfl⟩
   go_wp2_with fail
   go_ret2
   exact ⟨_, by rw [HE.out.1]; rfl, Lib.hid (by rw [HE.out.2, List.length_map, ← cellsT_small HALL.out]; exact HROW.out), HBF⟩
end Go.Proofs.YtmnncinpepeocaaGreat
