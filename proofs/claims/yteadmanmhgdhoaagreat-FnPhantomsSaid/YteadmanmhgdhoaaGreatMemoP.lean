/-
  The program's piecesFrom: the closure, made.
-/
import Derived.Test.YteadmanmhgdhoaaGreatMemoI
import Derived.WalkKit
import Derived.WalkSpells
import Derived.WalkSmall
import Derived.BigQuiet
import Derived.OneCell
import Derived.Deep.QuietTactic
import Derived.Deep.DeepCutAuto
import Derived.Laws.EntriesVeiled
import Derived.Laws.OwnMore
import Derived.Lib.Hide
namespace Go.Proofs.YteadmanmhgdhoaaGreat
open Go.RowKit

set_option maxRecDepth 100000 in
set_option maxHeartbeats 1000000 in
/-- What memoized lays. -/
theorem im_memoized (bm b0 b1 b2 : Nat) (w : World) :
    Calls Tryz.prog 93 #[.map (some bm), .func (.func 94) #[] #[.pointer (some ⟨b0, 0, none⟩), .pointer (some ⟨b1, 0, none⟩), .pointer (some ⟨b2, 0, none⟩)]] w fun e w' =>
      e = .returned (.func (.func 114) #[] #[.pointer (some ⟨w.heap.size, 0, none⟩), .pointer (some ⟨w.heap.size + 1, 0, none⟩), .pointer (some ⟨w.heap.size + 1 + 1, 0, none⟩)]) ∧
      Hid (w'.heap[w.heap.size]? = some (.cells #[.map (some bm)] 134)) ∧ Hid (w'.heap[w.heap.size + 1]? = some (.cells #[.func (.func 94) #[] #[.pointer (some ⟨b0, 0, none⟩), .pointer (some ⟨b1, 0, none⟩), .pointer (some ⟨b2, 0, none⟩)]] 135)) ∧
      Hid (w'.heap[w.heap.size + 1 + 1]? = some (.cells #[.func (.func 114) #[] #[.pointer (some ⟨w.heap.size, 0, none⟩), .pointer (some ⟨w.heap.size + 1, 0, none⟩), .pointer (some ⟨w.heap.size + 1 + 1, 0, none⟩)]] 83)) ∧ Hid (Below w.heap.size w w') := by
  have hmf : ∀ (fn : Fn) (first cap : Array Value) (w : World), (Instr.makeFunc fn first cap).run Tryz.prog w = .ok (.func fn first cap) w := fun _ _ _ _ => rfl
  have hal := alloc3 w (.cells #[.map (some bm)] 134) (.cells #[.func (.func 94) #[] #[.pointer (some ⟨b0, 0, none⟩), .pointer (some ⟨b1, 0, none⟩), .pointer (some ⟨b2, 0, none⟩)]] 135) (.cells #[.nilFunc] 83)
  obtain ⟨W1, hW1⟩ : ∃ W, ((w.alloc (.cells #[.map (some bm)] 134)).alloc (.cells #[.func (.func 94) #[] #[.pointer (some ⟨b0, 0, none⟩), .pointer (some ⟨b1, 0, none⟩), .pointer (some ⟨b2, 0, none⟩)]] 135)).alloc (.cells #[.nilFunc] 83) = W := ⟨_, rfl⟩
  rw [hW1] at hal
  obtain ⟨hB, hz, h0, h1, h5⟩ := hal
  have HW1 := Lib.hid hW1
  have HB := Lib.hid hB
  have H0 := Lib.hid h0
  have H1 := Lib.hid h1
  have q0 := cell_of_row _ _ 0 _ _ _ h5
  have f0 := frozen_of_row _ _ 0 _ _ h5
  have H5 := Lib.hid h5
  clear hB h0 h1 h5 hW1
  go_enter Tryz.func93, Tryz.ntmps93
  go_upto_region 2 with fail
  rw [HW1.out]
  go_wp2_with fail
  go_ret
  exact ⟨rfl, Lib.hid (blk_other H0.out (by omega)), Lib.hid (blk_other H1.out (by omega)), Lib.hid (heap_setCell_same _ _ 0 _ _ _ H5.out), Lib.hid (HB.out.setCell (by simp; omega) _)⟩

/-- What piecesFrom gives. -/
def PcsRes (ys : List BL) (c : ByteArray) (p : ByteArray → Bool) (q : Nat) (ks : List ByteArray) (lv : ByteArray → Nat) (w : World) (e : Ending) (w' : World) : Prop :=
  ∃ (m : MC) (L : ByteArray → Option Int), e = .returned m.askV ∧ Hid m.Ok ∧ (m.ys = ys ∧ m.c = c ∧ m.p = p ∧ m.q = q ∧ m.ks = ks ∧ m.lv = lv) ∧ Hid (m.St w' L) ∧ Hid (Below w.heap.size w w') ∧ w.heap.size ≤ m.bm

set_option maxRecDepth 100000 in
set_option maxHeartbeats 1000000 in
theorem im_pieces (v1 v2 : Value) (ys : List BL) (lo hi : Nat) (c : ByteArray) (p : ByteArray → Bool) (q : Nat) (F : FuncId) (fs : Array Value) (ks : List ByteArray) (lv : ByteArray → Nat) (w : World) (h : BX lo hi w v2 ys) (hv1 : ∃ (a : Option Addr) (n k : Nat), v1 = .slice a n k)
    (hlen : ys.length ≤ 24) (hqt : ∀ x, x ∈ ys → 1 ≤ x.qty ∧ x.qty ≤ 1000) (hpar : ∀ x, x ∈ ys → x.par ∈ ks) (hlvl : Lvl (ys.map edOf) lv) (hlv12 : ∀ s, lv s < 12) (hc : c ∈ ks) (hq : q ≤ 1000000001)
    (hp : ∀ s, s ∈ ks → ∀ w', Below w.heap.size w w' → Calls Tryz.prog F (fs.push (.string s)) w' (BoolRes (p s) w')) (hca : ∀ (args : Array Value) (w : World), (callFunc F args).run Tryz.prog w = .ok (.enter F args) w)
    (hnd : ks.Nodup) (hk12 : ks.length ≤ 12) (hksz : ∀ s, s ∈ ks → s.size ≤ maxLen) :
    Calls Tryz.prog 54 #[.agg #[v1, v2], .string c, .int .i64 (q : Int), .func (.func F) fs #[]] w (PcsRes ys c p q ks lv w) := by
  have hmf : ∀ (fn : Fn) (first cap : Array Value) (w : World), (Instr.makeFunc fn first cap).run Tryz.prog w = .ok (.func fn first cap) w := fun _ _ _ _ => rfl
  obtain ⟨a1, n1, k1, rfl⟩ := hv1
  obtain ⟨a2, c2, rfl⟩ := h.slice
  have hal := alloc3 w (.cells #[.slice a1 n1 k1, .slice a2 ys.length c2] 71) (.cells #[.string c] 9) (.cells #[.func (.func F) fs #[]] 76)
  obtain ⟨W1, hW1⟩ : ∃ W, ((w.alloc (.cells #[.slice a1 n1 k1, .slice a2 ys.length c2] 71)).alloc (.cells #[.string c] 9)).alloc (.cells #[.func (.func F) fs #[]] 76) = W := ⟨_, rfl⟩
  rw [hW1] at hal
  obtain ⟨hB, hz, h0, h1, h5⟩ := hal
  have HW1 := Lib.hid hW1
  have HB := Lib.hid hB
  have HSZ := Lib.hid (hksz c hc)
  have HZ := Lib.hid hz
  let m : Nat → MC := fun n => ⟨W1, .slice a1 n1 k1, .slice a2 ys.length c2, ys, lo, hi, c, p, q, F, fs, w.heap.size, w.heap.size + 1, w.heap.size + 1 + 1, W1.heap.size, n, n + 1, n + 1 + 1, ks, lv⟩
  have hacy : Acy (ys.map edOf) := ⟨lv, hlvl, hlv12⟩
  have HOK : Hid (∀ n, W1.heap.size < n → (m n).Ok) := Lib.hid (fun n hn => ⟨h.below BLN.kept hB, hlen, hqt, hpar, hlvl, hlv12, h0, h1, h5, fun s hs w' hw => hp s hs w' (hB.trans (hw.mono hB.size)), hca, hnd, hk12, hksz, Nat.le_refl _, hn, Nat.lt_succ_of_lt hn, Nat.lt_succ_of_lt (Nat.lt_succ_of_lt hn)⟩)
  have HG : Hid (((q : Nat) : Int) = capT (pv ys c p q c)) := Lib.hid (by rw [pv_start hacy]; unfold capT; omega)
  have HC := Lib.hid (cntL_first hnd hc ((q : Nat) : Int))
  have q1 : (W1.alloc (.map #[] 0)).cell? ⟨w.heap.size + 1, 0, none⟩ = some (.string c) := cell_of_row _ _ 0 _ _ _ (blk_alloc h1 _)
  have HM0 : Hid (MapG mInt Tryz.prog 9 (W1.alloc (.map #[] 0)) W1.heap.size 0 lookG0) := Lib.hid (mapG_made mInt Tryz.prog 9 W1)
  have hmm := @run_makeMap Tryz.prog
  have HCM := Lib.hid hc
  clear h hW1 hB hz h0 h1 h5 hp hacy hqt hpar hlvl hlv12 hnd hksz hc hca
  go_enter Tryz.func54, Tryz.ntmps54
  go_upto_region 1 with fail
  rw [HW1.out]
  go_wp2_with (refine wpList_insG mInt _ rfl _ _ _ 134 rfl 9 3 Tryz.underlying9 Tryz.underlying134 W1.heap.size 0 lookG0 rfl HM0.out (by unfold maxLen; omega) c HSZ.out rfl (q : Int) rfl ?_)
  intro w2 hm2 hg2
  have HM2 := Lib.hid hm2
  have HB2 : Hid (Below W1.heap.size W1 w2) := Lib.hid (((Below.refl _ W1).alloc (Nat.le_refl _) (.map #[] 0)).grown hg2 (by simp) (fun j hj => by cases hj; omega))
  have hz2 : W1.heap.size + 1 ≤ w2.heap.size := by have := hg2.size; simpa using this
  clear hm2 hg2 hmm q1 HM0
  go_wp2_with fail
  refine (im_memoized _ _ _ _ w2).mono ?_
  rintro e w3 ⟨rfl, HK1, HR1, HA1, HB3⟩
  go_wp2_with fail
  go_ret
  have hbl : Below W1.heap.size W1 w3 := HB2.out.trans (HB3.out.mono HB2.out.size)
  refine ⟨m w2.heap.size, lookG1 lookG0 c ((q : Nat) : Int), rfl, Lib.hid (HOK.out _ (by omega)), ⟨rfl, rfl, rfl, rfl, rfl, rfl⟩, Lib.hid ⟨hbl, ?_, fun s hs => ?_, fun s v hv => ?_, ?_, HK1.out, HR1.out, HA1.out⟩, Lib.hid (HB.out.trans (hbl.mono HB.out.size)), HB.out.size⟩
  · show MapG mInt _ _ w3 W1.heap.size (cntL ks _) _
    rw [HC.out]
    exact HM2.out.below HB3.out
  · unfold lookG1 lookG0 at hs
    by_cases e : s = c
    · rw [e]; exact HCM.out
    · rw [if_neg e] at hs; exact absurd rfl hs
  · unfold lookG1 lookG0 at hv
    by_cases e : s = c
    · rw [if_pos e] at hv; rw [e, ← Option.some.inj hv]; exact HG.out
    · rw [if_neg e] at hv; cases hv
  · unfold lookG1
    show (if c = c then some _ else _) ≠ none
    rw [if_pos rfl]; simp
end Go.Proofs.YteadmanmhgdhoaaGreat
