/-
  Apportion: the model's.
-/
import Derived.Test.YtgdoahdkidlndaaRows
import Derived.Test.YtgdoahdkidlndaaInts
import Derived.Test.YtgdoahdkidlndaaIntsTo
import Derived.Test.YtgdoahdkidlndaaShareLib
import Derived.Test.YtgdoahdkidlndaaUpToLib
import Derived.Test.YtgdoahdkidlndaaUpTo
import Derived.Test.YtgdoahdkidlndaaAppLib
import Derived.WalkKit
import Derived.WalkSpells
import Derived.WalkSmall
import Derived.Lib.Hide
namespace Go.Proofs.Ytgdoahdkidlndaa
open Go.RowKit

/-- A list and a truth value. -/
def ListRes (ys : List Int) (y : Bool) (w : World) (e : Ending) (w' : World) : Prop := ∃ v, e = .returned (.tuple #[v, .bool y]) ∧ Ints w' v ys ∧ Below w.heap.size w w'
/-- .. and the list is the call's own. -/
def ListOwn (ys : List Int) (y : Bool) (w : World) (e : Ending) (w' : World) : Prop := ∃ v, e = .returned (.tuple #[v, .bool y]) ∧ w'.ownsRow w.heap.size 3 1 v ys.length (ys.map (Value.int .i64)) ∧ Below w.heap.size w w'

set_option maxRecDepth 100000 in
set_option maxHeartbeats 1000000 in
theorem spec_app_no (t : Int) (v : Value) (xs : List Int) (w : World) (h : Ints w v xs) (hm : xs.length ≤ 1048577) (hno : ¬CanS t xs) :
    Calls Try.prog 25 #[.int .i64 t, v] w (ListRes [] false w) := by
  have H := Lib.hid h
  obtain ⟨a, c, rfl⟩ := h.slice
  clear h
  go_enter Try.func25, Try.ntmps25
  go_wp2
  have B0 := Lib.hid ((Below.refl w.heap.size w).alloc (Nat.le_refl _) (.cells #[] 3))
  by_cases h0 : 0 < xs.length
  · refine wp_loop_rounds 1 ?_
    rw [rounds_succ]
    go_wp2_with fail
    refine (spec_upTo_no t _ xs 0 _ (H.out.below B0.out) hm (not_upOk_can hno)).mono ?_
    rintro e w1 ⟨rfl, hb⟩
    have B1 := Lib.hid (B0.out.trans (hb.mono B0.out.size))
    clear hb
    go_wp2
    go_ret2
    exact ⟨_, rfl, ints_none _ _ _, B1.out.alloc B1.out.size _⟩
  · refine wp_loop_rounds 1 ?_
    rw [rounds_succ]
    go_wp2
    go_ret2
    exact ⟨_, rfl, ints_none _ _ _, B0.out⟩

theorem infoInt : (Try.prog.info? 3).map (fun i => (i.zero, i.size, i.bytes)) = some (some (.int .i64 0), 1, 8) := by kernel_rfl

set_option maxRecDepth 100000 in
set_option maxHeartbeats 1000000 in
theorem spec_app_yes (t : Int) (v : Value) (xs : List Int) (w : World) (h : Ints w v xs) (hc : CanS t xs) :
    Calls Try.prog 25 #[.int .i64 t, v] w (ListRes (appL t xs) true w) := by
  obtain ⟨i0, hi, hz0, hz1, hz2⟩ := info_parts infoInt
  have h40 := hc.2.2.1
  have hpos := hc.2.2.pos
  have H := Lib.hid h
  have HC := Lib.hid hc
  obtain ⟨a, c, rfl⟩ := h.slice
  clear h hc
  go_enter Try.func25, Try.ntmps25
  go_wp2
  have hown0 : (w.alloc (.cells #[] 3)).ownsRow w.heap.size 3 1 (.slice (some ⟨w.heap.size, 0, none⟩) 0 0) 0 (((appL t xs).take 0).map (Value.int .i64)) := World.ownsRow_lit w #[] 0 (Nat.le_refl _) (Nat.zero_le _) rfl
  go_loopw [6, 7] (fun o i wr => ∃ k : Nat, k ≤ xs.length ∧ i = .int .i64 k ∧ Hid (wr.ownsRow w.heap.size 3 1 o k (((appL t xs).take k).map (Value.int .i64))) ∧ Below w.heap.size w wr) (fun _ i _ => xs.length - (intOf i).toNat)
  case atStart => exact ⟨0, Nat.zero_le _, rfl, Lib.hid hown0, (Below.refl _ _).alloc (Nat.le_refl _) _⟩
  case round =>
    obtain ⟨k, hk, rfl, hown, hb⟩ := hrel
    by_cases hlt : k < xs.length
    · have s0 := share_bound HC.out k
      have s1 := share_bound HC.out (k + 1)
      have HN := Lib.hid (appL_take (t := t) hlt)
      go_wp2_with fail
      refine (spec_upTo_yes t _ xs k _ (H.out.below hb) HC.out (by omega)).mono ?_
      rintro e w1 ⟨rfl, hb1⟩
      have B1 := Lib.hid (hb.trans (hb1.mono hb.size))
      have HO1 := Lib.hid (kept_below hown.out hb1)
      clear hb1 hb hown
      go_wp2_with fail
      refine (upTo_at t _ xs k _ _ (by omega) (H.out.below B1.out) HC.out (by omega)).mono ?_
      rintro e w2 ⟨rfl, hb2⟩
      have B2 := Lib.hid (B1.out.trans (hb2.mono B1.out.size))
      have HO2 := Lib.hid (kept_below HO1.out hb2)
      clear hb2 HO1
      generalize share t xs k = sk at *
      generalize share t xs (k + 1) = sk1 at *
      go_wp2_with (at_builtin; refine wpList_append_own _ rfl _ _ 24 rfl w.heap.size 3 i0 (.int .i64 0) 1 8 Try.underlying24 hi hz0 hz1 hz2 rfl (by decide) _ k (((appL t xs).take k).map (Value.int .i64)) rfl (HO2.out.alloc _) ⟨w2.heap.size, 0, none⟩ 1 1 [.int .i64 (sk1 - sk)] rfl rfl ?c1 ?c2 ?c3 ?c4 ?c5 ?_)
      case c1 => intro j u hu; match j, hu with | 0, hu => simp at hu; subst hu; simp [Addr.add]
      case c2 => intro u hu; simp at hu; subst hu; rfl
      case c3 => unfold maxLen; omega
      case c4 => omega
      case c5 => have := B2.out.size; simp; omega
      intro v2 w3 hown2 hgrow2 _
      have HO := Lib.hid hown2
      have HB2 : Hid (Below w.heap.size w w3) := Lib.hid ((B2.out.alloc B2.out.size _).grown hgrow2 (by have := B2.out.size; simp; omega) (fun j hj => by
        rcases HO2.out.2 with ⟨h1, _⟩ | ⟨g, cap, cur, h1, hbg, _⟩
        · rw [h1] at hj; cases hj
        · rw [h1] at hj; cases hj; exact hbg))
      clear hown2 hgrow2
      go_wp2
      go_roundw
      case rel => exact ⟨k + 1, by omega, by go_num, Lib.hid (by rw [HN.out, List.map_append, List.map_take]; exact HO.out), HB2.out⟩
      case measure => simp [intOf]; omega
    · obtain rfl : k = xs.length := by omega
      have HL := Lib.hid (appL_length t xs)
      obtain ⟨a2, c2, rfl⟩ := own_slice hown.out
      go_wp2
      go_ret2
      exact ⟨_, rfl, ints_of_row (by rw [HL.out]) (by have := hown.out; rwa [List.take_of_length_le (by rw [HL.out]; exact Nat.le_refl _)] at this), hb⟩
end Go.Proofs.Ytgdoahdkidlndaa
