/-
  The program's minutesAt and timesOf, the library's Max and Index over numbers.
-/
import Derived.Test.YtfcgdhedaefonaaRtImA
import Derived.Test.YtfcgdhedaefonaaInts
import Derived.Test.YtfcgdhedaefonaaRecLib
import Derived.WalkKit
import Derived.WalkSpells
import Derived.WalkSmall
import Derived.BigQuiet
import Derived.OwnWalk
import Derived.Deep.QuietTactic
import Derived.Deep.DeepCutAuto
import Derived.Laws.OwnMore
import Derived.Laws.AppendOwn
import Derived.Lib.Hide
namespace Go.Proofs.Ytfcgdhedaefonaa
open Go.RowKit

theorem rtInfoInt : (Try.prog.info? 3).map (fun i => (i.zero, i.size, i.bytes)) = some (some (.int .i64 0), 1, 8) := by kernel_rfl
theorem own_sliceI {w : World} {base e : Nat} {v : Value} {n : Nat} {xs : List Value} (h : w.ownsRow base e 1 v n xs) : ∃ (a : Option Addr) (c : Nat), v = .slice a n c := by
  have h1 := h.1
  rcases h.2 with ⟨rfl, hx⟩ | ⟨g, cap, cur, rfl, _⟩
  · exact ⟨none, 0, by simp_all⟩
  · exact ⟨_, _, rfl⟩
/-- A slice of the call's own that reads as these numbers. -/
def TimesR (xs : List Int) (w : World) (e : Ending) (w' : World) : Prop := ∃ v, e = .returned v ∧ Ints w' v xs ∧ Below w.heap.size w w'

set_option maxRecDepth 100000 in
set_option maxHeartbeats 1000000 in
theorem rt_minutes (x : ST) (q : Int) (w : World) (h : StOk x) (hq : QOk q) : Calls Try.prog 46 #[.int .i64 q, ST.val x] w fun e w' => e = .returned (.int .i64 (stT x q)) ∧ Below w.heap.size w w' := by
  have hr := run_hi h hq
  have hst := h.2.1
  have hw1 : IntKind.i64.wrap (x.run * q) = x.run * q := (IntKind.wrap_i64 _).trans (by omega)
  have hw2 : IntKind.i64.wrap (x.stu + x.run * q) = x.stu + x.run * q := (IntKind.wrap_i64 _).trans (by omega)
  unfold ST.val stT
  clear h hr hst hq
  have HA0 := Lib.hid (heap_alloc_new w (.cells #[.string x.cen, .int .i64 x.stu, .int .i64 x.run] 34))
  have HB0 : Hid (Below w.heap.size w (w.alloc (.cells #[.string x.cen, .int .i64 x.stu, .int .i64 x.run] 34))) := Lib.hid ((Below.refl _ _).alloc (Nat.le_refl _) _)
  go_enter Try.func46, Try.ntmps46
  go_upto_region 1 with fail
  generalize w.alloc (.cells #[.string x.cen, .int .i64 x.stu, .int .i64 x.run] 34) = w1 at *
  have c1 := cell_of_row _ _ 1 _ _ _ HA0.out
  have c2 := cell_of_row _ _ 2 _ _ _ HA0.out
  go_wp2_with fail
  go_ret
  exact ⟨rfl, HB0.out⟩

set_option maxRecDepth 100000 in
set_option maxHeartbeats 1000000 in
theorem rt_runOf (x : ST) (w : World) : Calls Try.prog 48 #[ST.val x] w fun e w' => e = .returned (.int .i64 x.run) ∧ Below w.heap.size w w' := by
  unfold ST.val
  have HA0 := Lib.hid (heap_alloc_new w (.cells #[.string x.cen, .int .i64 x.stu, .int .i64 x.run] 34))
  have HB0 : Hid (Below w.heap.size w (w.alloc (.cells #[.string x.cen, .int .i64 x.stu, .int .i64 x.run] 34))) := Lib.hid ((Below.refl _ _).alloc (Nat.le_refl _) _)
  go_enter Try.func48, Try.ntmps48
  go_upto_region 1 with fail
  generalize w.alloc (.cells #[.string x.cen, .int .i64 x.stu, .int .i64 x.run] 34) = w1 at *
  have c2 := cell_of_row _ _ 2 _ _ _ HA0.out
  go_wp2_with fail
  go_ret
  exact ⟨rfl, HB0.out⟩

set_option maxRecDepth 100000 in
set_option maxHeartbeats 2000000 in
theorem rt_times (item : ByteArray) (xs : List ST) (u : Value) (q : Int) (w : World) (h : ST.Is w u xs) (hn : xs.length ≤ 6) (ho : StTo xs xs.length) (hq : QOk q) :
    Calls Try.prog 47 #[.agg #[.string item, u], .func (.func 46) #[.int .i64 q] #[]] w (TimesR (xs.map fun x => stT x q) w) := by
  obtain ⟨i0, hi, hz0, hz1, hz2⟩ := info_parts rtInfoInt
  obtain ⟨a, c, rfl⟩ := h.slice
  have HO := Lib.hid ho
  clear ho
  have HYL : Hid ((xs.map fun x => stT x q).length = xs.length) := Lib.hid (List.length_map _)
  have HNX : Hid (∀ k (hk : k < xs.length), (xs.map fun x => stT x q).take (k + 1) = (xs.map fun x => stT x q).take k ++ [(fun x : ST => stT x q) (xs[k]'hk)]) := Lib.hid (fun k hk => by rw [List.take_succ_eq_append_getElem (by rw [List.length_map]; exact hk), List.getElem_map])
  generalize (xs.map fun x => stT x q) = ys at *
  have HA0 := Lib.hid (heap_alloc_new w (.cells #[.string item, .slice a xs.length c] 26))
  have HB0 : Hid (Below w.heap.size w (w.alloc (.cells #[.string item, .slice a xs.length c] 26))) := Lib.hid ((Below.refl _ _).alloc (Nat.le_refl _) _)
  have HX := Lib.hid (h.below HB0.out)
  clear h
  go_enter Try.func47, Try.ntmps47
  go_upto_region 1 with fail
  generalize w.alloc (.cells #[.string item, .slice a xs.length c] 26) = w1 at *
  have c0 := cell_of_row _ _ 0 _ _ _ HA0.out
  have c1 := cell_of_row _ _ 1 _ _ _ HA0.out
  have hs1 := HB0.out.size
  go_wp2_with fail
  go_loopw [5, 11] (fun o i wr => ∃ k : Nat, k ≤ xs.length ∧ i = .int .i64 k ∧ Hid (wr.ownsRow w1.heap.size 3 1 o k ((ys.take k).map (Value.int .i64))) ∧ Hid (Below w1.heap.size w1 wr)) (fun _ i _ => xs.length - (intOf i).toNat)
  case atStart => exact ⟨0, Nat.zero_le _, rfl, Lib.hid (World.ownsRow_nil _ _ _ _), Lib.hid (Below.refl _ _)⟩
  case round =>
    obtain ⟨k, hk, rfl, HW, HB⟩ := hrel
    obtain ⟨oa, oc, rfl⟩ := own_sliceI HW.out
    by_cases hlt : k < xs.length
    rotate_left
    · have hkk : k = xs.length := by omega
      subst hkk
      have HR := Lib.hid (ints_of_row (xs := ys) (n := xs.length) HYL.out.symm (by have := HW.out; rwa [List.take_of_length_le (by rw [HYL.out]; exact Nat.le_refl _)] at this))
      have HBW := Lib.hid (HB0.out.trans (HB.out.mono HB0.out.size))
      go_wp2_with fail
      go_ret
      exact ⟨_, rfl, HR.out, HBW.out⟩
    have HLT := Lib.hid hlt
    obtain ⟨b2, o2, c2, hv2, hc2, hcell2⟩ := HX.out.some (by omega)
    simp only [Value.slice.injEq] at hv2
    obtain ⟨rfl, _, rfl⟩ := hv2
    obtain ⟨e0, e1, e2⟩ := (hcell2.below HB.out).at k hlt
    clear hcell2 hc2 c0 c1
    have HN := Lib.hid (HNX.out k hlt)
    have HSO := Lib.hid (HO.out k hlt hlt)
    generalize xs[k]'hlt = x at *
    replace HN : Hid (ys.take (k + 1) = ys.take k ++ [stT x q]) := HN
    obtain ⟨W2, hW2⟩ : ∃ W, wr.alloc (.cells #[.string x.cen, .int .i64 x.stu, .int .i64 x.run] 34) = W := ⟨_, rfl⟩
    have HW2 := Lib.hid hW2
    have HA2 : W2.heap[wr.heap.size]? = some (.cells #[.string x.cen, .int .i64 x.stu, .int .i64 x.run] 34) := by rw [← hW2]; exact heap_alloc_new _ _
    have HB2 : Below wr.heap.size wr W2 := by rw [← hW2]; exact (Below.refl _ _).alloc (Nat.le_refl _) _
    have HBW := Lib.hid (HB.out.trans (HB2.mono HB.out.size))
    have HWW := Lib.hid (kept_below HW.out HB2)
    clear hW2 HB2
    have q0 := cell_of_row _ _ 0 _ _ _ HA2
    have q1 := cell_of_row _ _ 1 _ _ _ HA2
    have q2 := cell_of_row _ _ 2 _ _ _ HA2
    clear HA2
    have HT := Lib.hid (fun W => rt_minutes x q W HSO.out hq)
    unfold ST.val at HT
    go_upto_region 5 with fail
    rw [HW2.out]
    go_wp2_with fail
    refine (HT.out _).mono ?_
    rintro e w3 ⟨rfl, hb⟩
    have HB3 := Lib.hid (HBW.out.trans (hb.mono HBW.out.size))
    have HO3 := Lib.hid (kept_below HWW.out hb)
    clear hb
    generalize stT x q = tx at *
    go_wp2_with (at_builtin; refine wpList_append_own _ rfl _ _ 59 rfl w1.heap.size 3 i0 (.int .i64 0) 1 8 Try.underlying59 hi hz0 hz1 hz2 rfl (by decide) _ k ((ys.take k).map (Value.int .i64)) rfl (HO3.out.alloc _) ⟨w3.heap.size, 0, none⟩ 1 1 [.int .i64 tx] rfl rfl ?c1 ?c2 ?c3 ?c4 ?c5 ?_)
    case c1 => intro j u hu; match j, hu with | 0, hu => simp at hu; subst hu; simp [Addr.add]
    case c2 => intro u hu; simp at hu; subst hu; rfl
    case c3 => unfold maxLen; omega
    case c4 => omega
    case c5 => have := HB3.out.size; simp; omega
    intro v2 w4 hown4 hgrow4 _
    have HO4 := Lib.hid hown4
    have HB4 : Hid (Below w1.heap.size w1 w4) := Lib.hid ((HB3.out.alloc HB3.out.size _).grown hgrow4 (by have := HB3.out.size; simp; omega) (fun j hj => by
      rcases HO3.out.2 with ⟨h1, _⟩ | ⟨g, cap, cur, h1, hbg, _⟩
      · rw [h1] at hj; cases hj
      · rw [h1] at hj; cases hj; exact hbg))
    clear hown4 hgrow4
    go_wp2_with fail
    go_roundw
    case rel => exact ⟨k + 1, by have := HLT.out; omega, by go_num, Lib.hid (by rw [HN.out, List.map_append, List.map_take]; exact HO4.out), HB4⟩
    case measure => have := HLT.out; simp [intOf]; omega

set_option maxRecDepth 100000 in
set_option maxHeartbeats 2000000 in
theorem rt_runs (item : ByteArray) (xs : List ST) (u : Value) (w : World) (h : ST.Is w u xs) (hn : xs.length ≤ 6) (ho : StTo xs xs.length) :
    Calls Try.prog 47 #[.agg #[.string item, u], .func (.func 48) #[] #[]] w (TimesR (xs.map fun x => x.run) w) := by
  obtain ⟨i0, hi, hz0, hz1, hz2⟩ := info_parts rtInfoInt
  obtain ⟨a, c, rfl⟩ := h.slice
  have HO := Lib.hid ho
  clear ho
  have HYL : Hid ((xs.map fun x => x.run).length = xs.length) := Lib.hid (List.length_map _)
  have HNX : Hid (∀ k (hk : k < xs.length), (xs.map fun x => x.run).take (k + 1) = (xs.map fun x => x.run).take k ++ [(fun x : ST => x.run) (xs[k]'hk)]) := Lib.hid (fun k hk => by rw [List.take_succ_eq_append_getElem (by rw [List.length_map]; exact hk), List.getElem_map])
  generalize (xs.map fun x => x.run) = ys at *
  have HA0 := Lib.hid (heap_alloc_new w (.cells #[.string item, .slice a xs.length c] 26))
  have HB0 : Hid (Below w.heap.size w (w.alloc (.cells #[.string item, .slice a xs.length c] 26))) := Lib.hid ((Below.refl _ _).alloc (Nat.le_refl _) _)
  have HX := Lib.hid (h.below HB0.out)
  clear h
  go_enter Try.func47, Try.ntmps47
  go_upto_region 1 with fail
  generalize w.alloc (.cells #[.string item, .slice a xs.length c] 26) = w1 at *
  have c0 := cell_of_row _ _ 0 _ _ _ HA0.out
  have c1 := cell_of_row _ _ 1 _ _ _ HA0.out
  have hs1 := HB0.out.size
  go_wp2_with fail
  go_loopw [5, 11] (fun o i wr => ∃ k : Nat, k ≤ xs.length ∧ i = .int .i64 k ∧ Hid (wr.ownsRow w1.heap.size 3 1 o k ((ys.take k).map (Value.int .i64))) ∧ Hid (Below w1.heap.size w1 wr)) (fun _ i _ => xs.length - (intOf i).toNat)
  case atStart => exact ⟨0, Nat.zero_le _, rfl, Lib.hid (World.ownsRow_nil _ _ _ _), Lib.hid (Below.refl _ _)⟩
  case round =>
    obtain ⟨k, hk, rfl, HW, HB⟩ := hrel
    obtain ⟨oa, oc, rfl⟩ := own_sliceI HW.out
    by_cases hlt : k < xs.length
    rotate_left
    · have hkk : k = xs.length := by omega
      subst hkk
      have HR := Lib.hid (ints_of_row (xs := ys) (n := xs.length) HYL.out.symm (by have := HW.out; rwa [List.take_of_length_le (by rw [HYL.out]; exact Nat.le_refl _)] at this))
      have HBW := Lib.hid (HB0.out.trans (HB.out.mono HB0.out.size))
      go_wp2_with fail
      go_ret
      exact ⟨_, rfl, HR.out, HBW.out⟩
    have HLT := Lib.hid hlt
    obtain ⟨b2, o2, c2, hv2, hc2, hcell2⟩ := HX.out.some (by omega)
    simp only [Value.slice.injEq] at hv2
    obtain ⟨rfl, _, rfl⟩ := hv2
    obtain ⟨e0, e1, e2⟩ := (hcell2.below HB.out).at k hlt
    clear hcell2 hc2 c0 c1
    have HN := Lib.hid (HNX.out k hlt)
    have HSO := Lib.hid (HO.out k hlt hlt)
    generalize xs[k]'hlt = x at *
    replace HN : Hid (ys.take (k + 1) = ys.take k ++ [x.run]) := HN
    obtain ⟨W2, hW2⟩ : ∃ W, wr.alloc (.cells #[.string x.cen, .int .i64 x.stu, .int .i64 x.run] 34) = W := ⟨_, rfl⟩
    have HW2 := Lib.hid hW2
    have HA2 : W2.heap[wr.heap.size]? = some (.cells #[.string x.cen, .int .i64 x.stu, .int .i64 x.run] 34) := by rw [← hW2]; exact heap_alloc_new _ _
    have HB2 : Below wr.heap.size wr W2 := by rw [← hW2]; exact (Below.refl _ _).alloc (Nat.le_refl _) _
    have HBW := Lib.hid (HB.out.trans (HB2.mono HB.out.size))
    have HWW := Lib.hid (kept_below HW.out HB2)
    clear hW2 HB2
    have q0 := cell_of_row _ _ 0 _ _ _ HA2
    have q1 := cell_of_row _ _ 1 _ _ _ HA2
    have q2 := cell_of_row _ _ 2 _ _ _ HA2
    clear HA2
    have HT := Lib.hid (fun W => rt_runOf x W)
    unfold ST.val at HT
    go_upto_region 5 with fail
    rw [HW2.out]
    go_wp2_with fail
    refine (HT.out _).mono ?_
    rintro e w3 ⟨rfl, hb⟩
    have HB3 := Lib.hid (HBW.out.trans (hb.mono HBW.out.size))
    have HO3 := Lib.hid (kept_below HWW.out hb)
    clear hb
    generalize x.run = tx at *
    go_wp2_with (at_builtin; refine wpList_append_own _ rfl _ _ 59 rfl w1.heap.size 3 i0 (.int .i64 0) 1 8 Try.underlying59 hi hz0 hz1 hz2 rfl (by decide) _ k ((ys.take k).map (Value.int .i64)) rfl (HO3.out.alloc _) ⟨w3.heap.size, 0, none⟩ 1 1 [.int .i64 tx] rfl rfl ?c1 ?c2 ?c3 ?c4 ?c5 ?_)
    case c1 => intro j u hu; match j, hu with | 0, hu => simp at hu; subst hu; simp [Addr.add]
    case c2 => intro u hu; simp at hu; subst hu; rfl
    case c3 => unfold maxLen; omega
    case c4 => omega
    case c5 => have := HB3.out.size; simp; omega
    intro v2 w4 hown4 hgrow4 _
    have HO4 := Lib.hid hown4
    have HB4 : Hid (Below w1.heap.size w1 w4) := Lib.hid ((HB3.out.alloc HB3.out.size _).grown hgrow4 (by have := HB3.out.size; simp; omega) (fun j hj => by
      rcases HO3.out.2 with ⟨h1, _⟩ | ⟨g, cap, cur, h1, hbg, _⟩
      · rw [h1] at hj; cases hj
      · rw [h1] at hj; cases hj; exact hbg))
    clear hown4 hgrow4
    go_wp2_with fail
    go_roundw
    case rel => exact ⟨k + 1, by have := HLT.out; omega, by go_num, Lib.hid (by rw [HN.out, List.map_append, List.map_take]; exact HO4.out), HB4⟩
    case measure => have := HLT.out; simp [intOf]; omega

/-- m is the largest of the first k. -/
def MaxTo (xs : List Int) (k : Nat) (m : Int) : Prop := (∀ i (hi : i < xs.length), i < k → xs[i]'hi ≤ m) ∧ ∃ i, ∃ hi : i < xs.length, i < k ∧ xs[i]'hi = m
theorem MaxTo.one {xs : List Int} (h : 0 < xs.length) : MaxTo xs 1 (xs[0]'h) :=
  ⟨fun i hi hlt => by have e : i = 0 := by omega
                      subst e; exact Int.le_refl _, 0, h, Nat.zero_lt_one, rfl⟩
theorem MaxTo.succ {xs : List Int} {k : Nat} {m : Int} (h : MaxTo xs k m) (hk : k < xs.length) : MaxTo xs (k + 1) (if m < xs[k]'hk then xs[k]'hk else m) := by
  refine ⟨fun i hi hlt => ?_, ?_⟩
  · by_cases e : i = k
    · subst e; split <;> omega
    · have := h.1 i hi (by omega); split <;> omega
  · obtain ⟨i, hi, hlt, e⟩ := h.2
    by_cases hc : m < xs[k]'hk
    · exact ⟨k, hk, Nat.lt_succ_self k, by rw [if_pos hc]⟩
    · exact ⟨i, hi, by omega, by rw [if_neg hc]; exact e⟩

set_option maxRecDepth 100000 in
set_option maxHeartbeats 1000000 in
theorem rt_max (v : Value) (xs : List Int) (w : World) (h : Ints w v xs) (h1 : 1 ≤ xs.length) (hm : xs.length ≤ 1000) :
    Calls Try.prog 44 #[v] w fun e w' => ∃ m, e = .returned (.int .i64 m) ∧ MaxTo xs xs.length m ∧ Below w.heap.size w w' := by
  rcases h with ⟨rfl, a, c, rfl⟩ | ⟨hne, b, o, c, rfl, hc, hcell⟩
  · simp at h1
  have H := Lib.hid hcell
  have c0 := hcell.at 0 (by omega)
  rw [Nat.add_zero] at c0
  have hd : decide ((xs.length : Int) < 1) = false := decide_eq_false (by omega)
  have hp : (0 : Int) < (xs.length : Int) := by omega
  clear hcell hne
  go_enter Try.func44, Try.ntmps44
  go_wp2_with fail
  go_loopw [3, 4] (fun s i wr => ∃ (k : Nat) (m : Int), 1 ≤ k ∧ k ≤ xs.length ∧ i = .int .i64 k ∧ s = .int .i64 m ∧ Hid (MaxTo xs k m) ∧ Hid (Below w.heap.size w wr)) (fun _ i _ => xs.length - (intOf i).toNat)
  case atStart => exact ⟨1, _, Nat.le_refl _, h1, rfl, rfl, Lib.hid (MaxTo.one (by omega)), Lib.hid (Below.refl _ _)⟩
  case round =>
    obtain ⟨k, m, hk1, hk, rfl, rfl, HM, HB⟩ := hrel
    clear c0
    by_cases hlt : k < xs.length
    rotate_left
    · have hkk : k = xs.length := by omega
      subst hkk
      go_wp2_with fail
      go_ret
      exact ⟨m, rfl, HM.out, HB.out⟩
    have HLT := Lib.hid hlt
    have hck := (H.out.below HB.out).at k hlt
    have HS := Lib.hid (HM.out.succ hlt)
    generalize xs[k]'hlt = x at *
    go_wp2_with fail
    go_roundw
    case rel => exact ⟨k + 1, _, by omega, by have := HLT.out; omega, by go_num, rfl, HS, HB⟩
    case measure => have := HLT.out; simp [intOf]; omega

set_option maxRecDepth 100000 in
set_option maxHeartbeats 1000000 in
theorem rt_index (v : Value) (xs : List Int) (n : Nat) (m : Int) (w : World) (h : Ints w v xs) (hm : xs.length ≤ 1000) (hn : n < xs.length) (he : xs[n]'hn = m) (hb : ∀ i (hi : i < xs.length), i < n → xs[i]'hi ≠ m) :
    Calls Try.prog 43 #[v, .int .i64 m] w fun e w' => e = .returned (.int .i64 n) ∧ Below w.heap.size w w' := by
  rcases h with ⟨rfl, a, c, rfl⟩ | ⟨hne, b, o, c, rfl, hc, hcell⟩
  · simp at hn
  have H := Lib.hid hcell
  have HE := Lib.hid he
  have HNO := Lib.hid hb
  clear hcell hne he hb
  go_enter Try.func43, Try.ntmps43
  go_wp2_with fail
  go_loopw [8] (fun i wr => ∃ k : Nat, k ≤ n ∧ i = .int .i64 k ∧ Hid (Below w.heap.size w wr)) (fun i _ => n - (intOf i).toNat)
  case atStart => exact ⟨0, Nat.zero_le _, rfl, Lib.hid (Below.refl _ _)⟩
  case round =>
    obtain ⟨k, hk, rfl, HB⟩ := hrel
    by_cases hlt : k < n
    rotate_left
    · have hkk : k = n := by omega
      subst hkk
      have hck := (H.out.below HB.out).at k hn
      rw [HE.out] at hck
      go_wp2_with fail
      go_ret
      exact ⟨rfl, HB.out⟩
    have HLT := Lib.hid hlt
    have hkl : k < xs.length := by omega
    have hck := (H.out.below HB.out).at k hkl
    have hne := HNO.out k hkl hlt
    generalize xs[k]'hkl = x at *
    have hbq : (m == x) = false := beq_eq_false_iff_ne.2 (fun e => hne e.symm)
    clear hne
    go_wp2_with fail
    go_roundw
    case rel => exact ⟨k + 1, by have := HLT.out; omega, by go_num, HB⟩
    case measure => have := HLT.out; simp [intOf]; omega
end Go.Proofs.Ytfcgdhedaefonaa
