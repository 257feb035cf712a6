/-
 The draw of a choice: l6Choice.
-/
import Derived.Test.YtmnncinpepeocaaGreatBuDr
import Derived.Test.YtmnncinpepeocaaGreatCondOwn
import Derived.Test.YtmnncinpepeocaaGreatBuA
import Derived.Test.YtmnncinpepeocaaGreatBuRec
import Derived.WalkKit
import Derived.WalkSpells
import Derived.WalkSmall
import Derived.BigQuiet
import Derived.Laws.AppendOwn
import Derived.Deep.QuietTactic
import Derived.Deep.DeepCutAuto
import Derived.Deep.RegionHeld3
import Derived.Lib.Hide
namespace Go.Proofs.YtmnncinpepeocaaGreat
open Go.RowKit

theorem texts_of_row {w : World} {g : Nat} {s0 s1 s2 : ByteArray} {T : TypeId} (h : w.heap[g]? = some (.cells #[.string s0, .string s1, .string s2] T (0, 0))) (h0 : s0.size ≤ 1000) (h1 : s1.size ≤ 1000) (h2 : s2.size ≤ 1000) : TextsAt w g 3 := fun j hj => by
 match j, hj with
 | 0, _ => exact ⟨s0, h0, cell_of_row _ _ 0 _ _ _ h⟩
 | 1, _ => exact ⟨s1, h1, cell_of_row _ _ 1 _ _ _ h⟩
 | 2, _ => exact ⟨s2, h2, cell_of_row _ _ 2 _ _ _ h⟩
theorem newL2 (W : World) (x y : Value) (t : TypeId) : ∀ j u, [x, y][j]? = some u → (W.alloc (.cells #[x, y] t)).cell? ((⟨W.heap.size, 0, none⟩ : Addr).add j) = some u := fun j u hu => by
 match j, hu with
 | 0, hu => simp at hu; subst hu; exact cell_of_row _ _ 0 _ _ _ (heap_alloc_new _ _)
 | 1, hu => simp at hu; subst hu; exact cell_of_row _ _ 1 _ _ _ (heap_alloc_new _ _)
theorem szp_push {l : List PK} {o u : ByteArray} (h : ∀ r, r ∈ l → r.opt.size ≤ 1000 ∧ r.vl.size ≤ 1000) (h1 : o.size ≤ 1000) (h2 : u.size ≤ 1000) : ∀ r, r ∈ l ++ [(⟨o, u⟩ : PK)] → r.opt.size ≤ 1000 ∧ r.vl.size ≤ 1000 := fun r hr => by
 rcases List.mem_append.1 hr with hr | hr
 · exact h r hr
 · obtain rfl := List.mem_singleton.1 hr
   exact ⟨h1, h2⟩
theorem Drawn.dr {B b : Nat} {a : Option Addr} {n c : Nat} {w w1 : World} (h : Drawn B b a n c w w1) (hb : b < w.heap.size) : Drawn B b a n c w w1.drew :=
 h.row (o := none) hb ⟨rfl, rfl, rfl, Nat.le_refl _, fun _ _ _ => rfl⟩ (fun k e => by cases e)
/-- Picks drawn, the call's own. -/
def DrewP (B b : Nat) (a : Option Addr) (n c K : Nat) (w : World) (e : Ending) (w' : World) : Prop :=
 ∃ (g q : Nat) (l : List PK), e = .returned (.slice (some ⟨g, 0, none⟩) l.length q) ∧ l.length ≤ K ∧ (∀ r, r ∈ l → r.opt.size ≤ 1000 ∧ r.vl.size ≤ 1000) ∧
  w'.ownsRow w.heap.size 108 2 (.slice (some ⟨g, 0, none⟩) l.length q) l.length (PK.cells l) ∧ Drawn B b a n c w w'

set_option linter.unusedSimpArgs false in
set_option linter.unusedVariables false in
set_option maxRecDepth 100000 in
set_option maxHeartbeats 8000000 in
theorem l6_choice (B b : Nat) (a : Option Addr) (n c : Nat) (w : World) (hn : n ≤ 1048576) (hcode : CodeAt B w a n) (hcur : CurAt B w b a n c) (hBw : B ≤ w.heap.size) :
 Calls Tryz.prog 43 #[.pointer (some ⟨b, 0, none⟩)] w (DrewP B b a n c 3 w) := by
 obtain ⟨i0, hi0, hz0, hz1, hz2⟩ := info_parts PK.info
 have hlt := hcur.lt
 have HC0 := Lib.hid hcode
 have HD0 : Hid (Drawn B b a n c w (w.alloc (.cells #[] 108))) := Lib.hid ((show Drawn B b a n c w w from ⟨hcur, ⟨rfl, rfl, rfl, Nat.le_refl _, fun _ _ _ => rfl⟩⟩).al hlt _)
 have HO0 : Hid ((w.alloc (.cells #[] 108)).ownsRow w.heap.size 108 2 (.slice (some ⟨w.heap.size, 0, none⟩) 0 0) 0 (PK.cells [])) := Lib.hid (World.ownsRow_lit w #[] 0 (Nat.le_refl _) (Nat.zero_le _) rfl (e := 108) (size := 2))
 clear hcode hcur
 go_enter Tryz.func43, Tryz.ntmps43
 go_wp2_with fail
 go_loopw [3, 4] (fun x i wr => ∃ (k : Nat) (ps : List PK) (g q : Nat), i = .int .i64 k ∧ x = .slice (some ⟨g, 0, none⟩) ps.length q ∧ k ≤ 3 ∧ ps.length ≤ k ∧ (∀ r, r ∈ ps → r.opt.size ≤ 1000 ∧ r.vl.size ≤ 1000) ∧ Hid (wr.ownsRow w.heap.size 108 2 (.slice (some ⟨g, 0, none⟩) ps.length q) ps.length (PK.cells ps)) ∧ Hid (Drawn B b a n c w wr)) (fun _ i _ => (3 - (intOf i).toNat))
 case atStart => exact ⟨0, [], _, 0, rfl, rfl, by decide, by decide, fun r hr => (by cases hr), HO0, HD0⟩
 case round =>
  obtain ⟨k, ps, g, q, rfl, rfl, hk, hpk, hz, HO, HD⟩ := hrel
  have HZ := Lib.hid hz
  clear hz HO0 HD0
  have hs0 := HD.out.grown.size
  have HCr := Lib.hid (HC0.out.below (HD.out.below hBw))
  by_cases hk3 : k < 3
  rotate_left
  · obtain rfl : k = 3 := by omega
    go_wp2_with fail
    go_ret
    exact ⟨g, q, ps, rfl, hpk, HZ.out, HO.out, HD.out⟩
  go_wp2_with fail
  refine (l1_once B b a n c 5 _ hn HCr.out HD.out.cur (by omega) (by omega) (by omega)).mono ?_
  rintro e w2 ⟨y, rfl, hd⟩
  have HO := Lib.hid (own_hdC HO.out hd.grown hlt)
  have HC := Lib.hid (HCr.out.below (hd.below (by omega)))
  have HD := Lib.hid (HD.out.trans hd)
  clear hd HCr
  cases y with
  | true =>
   go_wp2_with fail
   go_roundw
   case rel => exact ⟨k + 1, ps, g, q, by go_num, rfl, by omega, by omega, HZ.out, HO, HD⟩
   case measure => simp [intOf]; omega
  | false =>
   have hsx0 := HD.out.grown.size
   rcases (show k = 0 ∨ k = 1 ∨ k = 2 by omega) with rfl | rfl | rfl
   · go_upto_region 6 with fail
     have HD := Lib.hid (HD.out.dr hlt)
     have HO : Hid (w2.drew.ownsRow w.heap.size 108 2 (.slice (some ⟨g, 0, none⟩) ps.length q) ps.length (PK.cells ps)) := Lib.hid HO.out
     have HC : Hid (CodeAt B w2.drew a n) := Lib.hid HC.out
     refine wp_region_held_drew (S := fun _ => True) (by kernel_rfl) trivial (fun hHeld => ?_)
     generalize hy0 : w2.drew = x0 at *
     have hsx0 := HD.out.grown.size
     clear hy0
     refine wpAnyH_take (i := 0) (oi := { dst := some 13, op := Op.move (Operand.tmp 3), type := 26, pos := _, after := #[], guard := none }) (v := ?vk0_1) rfl (by kernel_rfl) (by kernel_rfl) (by kernel_rfl) (fun _ _ _ h => h) (Or.inl ⟨by rfl, ?yk0_1⟩) (by assumption) ?rk0_1
     case yk0_1 => (intro w' hSw; (try dsimp only at hSw); go_simp; (try with_reducible rfl))
     (try simp only [Act.put, List.setIfInBounds_toArray, List.set_cons_zero, List.set_cons_succ])
     refine wpAnyH_take (i := 2) (oi := { dst := some 15, op := Op.move (Operand.tmp 4), type := 3, pos := _, after := #[], guard := none }) (v := ?vk0_2) rfl (by kernel_rfl) (by kernel_rfl) (by kernel_rfl) (fun _ _ _ h => h) (Or.inl ⟨by rfl, ?yk0_2⟩) (by assumption) ?rk0_2
     case yk0_2 => (intro w' hSw; (try dsimp only at hSw); go_simp; (try with_reducible rfl))
     (try simp only [Act.put, List.setIfInBounds_toArray, List.set_cons_zero, List.set_cons_succ])
     refine wpAnyH_take (i := 5) (oi := { dst := some 18, op := Op.move (Operand.tmp 0), type := 64, pos := _, after := #[], guard := none }) (v := ?vk0_3) rfl (by kernel_rfl) (by kernel_rfl) (by kernel_rfl) (fun _ _ _ h => h) (Or.inl ⟨by rfl, ?yk0_3⟩) (by assumption) ?rk0_3
     case yk0_3 => (intro w' hSw; (try dsimp only at hSw); go_simp; (try with_reducible rfl))
     (try simp only [Act.put, List.setIfInBounds_toArray, List.set_cons_zero, List.set_cons_succ])
     refine wpAnyH_ready (rs := [1, 6]) (by kernel_rfl) (by simp) ?_
     refine AllReadyH.cons (o := { dst := some 14, op := Op.buildSlice 125 3 #[(0, Operand.const (Value.string { data := #[67, 79, 76, 79, 82] })), (1, Operand.const (Value.string { data := #[83, 73, 90, 69] })), (2, Operand.const (Value.string { data := #[76, 73, 68] }))], type := 125, pos := _, after := #[], guard := none }) rfl (fun K hK => ?_) ?_
     · skip
       go_simp
       refine hK.out _ _ ?_ (fun hHeld => ?_)
       · trivial
       clear hK K
       (try simp only [Act.put, List.setIfInBounds_toArray, List.set_cons_zero, List.set_cons_succ])
       have HD := Lib.hid (HD.out.al hlt (.cells #[.string { data := #[67, 79, 76, 79, 82] }, .string { data := #[83, 73, 90, 69] }, .string { data := #[76, 73, 68] }] 9))
       have HO := Lib.hid (HO.out.alloc (.cells #[.string { data := #[67, 79, 76, 79, 82] }, .string { data := #[83, 73, 90, 69] }, .string { data := #[76, 73, 68] }] 9))
       have HC := Lib.hid (HC.out.alloc (show B ≤ x0.heap.size by have := hsx0; omega) (.cells #[.string { data := #[67, 79, 76, 79, 82] }, .string { data := #[83, 73, 90, 69] }, .string { data := #[76, 73, 68] }] 9))
       have HN := heap_alloc_new x0 (.cells #[.string { data := #[67, 79, 76, 79, 82] }, .string { data := #[83, 73, 90, 69] }, .string { data := #[76, 73, 68] }] 9)
       have hsx0_4 := HD.out.grown.size
       generalize hyx0_4 : x0.alloc (.cells #[.string { data := #[67, 79, 76, 79, 82] }, .string { data := #[83, 73, 90, 69] }, .string { data := #[76, 73, 68] }] 9) = x0_4 at *
       clear hyx0_4
       refine wpAnyH_take (i := 3) (oi := { dst := some 16, op := Op.indexAddr 125 (Operand.tmp 14) (Operand.tmp 15), type := 0, pos := _, after := #[{ on := 1, ground := Ground.data }, { on := 2, ground := Ground.data }], guard := none }) (v := ?vk0_5) rfl (by kernel_rfl) (by kernel_rfl) (by kernel_rfl) (fun _ _ _ h => h) (Or.inl ⟨by rfl, ?yk0_5⟩) (by assumption) ?rk0_5
       case yk0_5 => (intro w' hSw; (try dsimp only at hSw); go_simp; (try with_reducible rfl))
       (try simp only [Act.put, List.setIfInBounds_toArray, List.set_cons_zero, List.set_cons_succ])
       refine wpAnyH_ready (rs := [4, 6]) (by kernel_rfl) (by simp) ?_
       refine AllReadyH.cons (o := { dst := some 17, op := Op.load 9 (Operand.tmp 16), type := 9, pos := _, after := #[{ on := 3, ground := Ground.data }], guard := none }) rfl (fun K hK => ?_) ?_
       · skip
         have hload := cell_of_row _ _ 0 _ _ _ HN
         go_simp
         refine hK.out _ _ ?_ (fun hHeld => ?_)
         · trivial
         clear hK K
         (try simp only [Act.put, List.setIfInBounds_toArray, List.set_cons_zero, List.set_cons_succ])
         clear hload
         refine wpAnyH_ready (rs := [6]) (by kernel_rfl) (by simp) ?_
         refine AllReadyH.cons (o := { dst := some 19, op := Op.buildSlice 125 3 #[(0, Operand.const (Value.string { data := #[88] })), (1, Operand.const (Value.string { data := #[89] })), (2, Operand.const (Value.string { data := #[90] }))], type := 125, pos := _, after := #[], guard := none }) rfl (fun K hK => ?_) AllReadyH.nil
         go_simp
         refine hK.out _ _ ?_ (fun hHeld => ?_)
         · trivial
         clear hK K
         (try simp only [Act.put, List.setIfInBounds_toArray, List.set_cons_zero, List.set_cons_succ])
         have HD := Lib.hid (HD.out.al hlt (.cells #[.string { data := #[88] }, .string { data := #[89] }, .string { data := #[90] }] 9))
         have HO := Lib.hid (HO.out.alloc (.cells #[.string { data := #[88] }, .string { data := #[89] }, .string { data := #[90] }] 9))
         have HC := Lib.hid (HC.out.alloc (show B ≤ x0_4.heap.size by have := hsx0_4; omega) (.cells #[.string { data := #[88] }, .string { data := #[89] }, .string { data := #[90] }] 9))
         have HN := blk_alloc HN (.cells #[.string { data := #[88] }, .string { data := #[89] }, .string { data := #[90] }] 9)
         have HV := heap_alloc_new x0_4 (.cells #[.string { data := #[88] }, .string { data := #[89] }, .string { data := #[90] }] 9)
         have hsx0_7 := HD.out.grown.size
         generalize hyx0_7 : x0_4.alloc (.cells #[.string { data := #[88] }, .string { data := #[89] }, .string { data := #[90] }] 9) = x0_7 at *
         clear hyx0_7
         refine wpAnyH_ready (rs := [7]) (by kernel_rfl) (by simp) ?_
         refine AllReadyH.cons (o := { dst := some 20, op := Op.call { callee := Callee.value (Operand.func 84), args := #[Operand.tmp 18, Operand.tmp 19], argTypes := #[64, 125] }, type := 9, pos := _, after := #[{ on := 5, ground := Ground.data }, { on := 6, ground := Ground.data }], guard := none }) rfl (fun K hK => ?_) AllReadyH.nil
         go_simp
         refine (l1_pick B b x0_4.heap.size 3 a n c _ hn HC.out HD.out.cur (by decide) (by decide) (by have := hsx0_7; omega) (by have := HD.out.grown.size; omega) (texts_of_row HV (by decide) (by decide) (by decide))).mono ?_
         rintro e x0_8 ⟨u, rfl, hu, hd⟩
         have HO := Lib.hid (own_hdC HO.out hd.grown hlt)
         have HC := Lib.hid (HC.out.below (hd.below (show B ≤ x0_7.heap.size by have := hsx0_7; omega)))
         have HD := Lib.hid (HD.out.trans hd)
         have hsx0_8 := HD.out.grown.size
         have HN := Drawn.blk hd HN (by omega)
         clear hd
         (try go_wp2_with fail)
         refine hK.out _ _ ?_ (fun hHeld => ?_)
         · trivial
         clear hK K
         (try simp only [Act.put, List.setIfInBounds_toArray, List.set_cons_zero, List.set_cons_succ])
         refine wpAnyH_take (i := 8) (oi := { dst := some 21, op := Op.build 108 #[(0, Operand.tmp 17), (1, Operand.tmp 20)], type := 108, pos := _, after := #[{ on := 4, ground := Ground.data }, { on := 7, ground := Ground.data }], guard := none }) (v := ?vk0_9) rfl (by kernel_rfl) (by kernel_rfl) (by kernel_rfl) (fun _ _ _ h => h) (Or.inl ⟨by rfl, ?yk0_9⟩) (by assumption) ?rk0_9
         case yk0_9 => (intro w' hSw; (try dsimp only at hSw); go_simp; (try with_reducible rfl))
         (try simp only [Act.put, List.setIfInBounds_toArray, List.set_cons_zero, List.set_cons_succ])
         refine wpAnyH_ready (rs := [9]) (by kernel_rfl) (by simp) ?_
         refine AllReadyH.cons (o := { dst := some 22, op := Op.buildSlice 26 1 #[(0, Operand.tmp 21)], type := 26, pos := _, after := #[{ on := 8, ground := Ground.data }], guard := none }) rfl (fun K hK => ?_) AllReadyH.nil
         go_simp
         refine hK.out _ _ ?_ (fun hHeld => ?_)
         · trivial
         clear hK K
         (try simp only [Act.put, List.setIfInBounds_toArray, List.set_cons_zero, List.set_cons_succ])
         refine wpAnyH_ready (rs := [10]) (by kernel_rfl) (by simp) ?_
         refine AllReadyH.cons (o := { dst := some 23, op := Op.call { callee := Callee.builtin Builtin.append, args := #[Operand.tmp 13, Operand.tmp 22], argTypes := #[26, 26] }, type := 26, pos := _, after := #[{ on := 0, ground := Ground.data }, { on := 9, ground := Ground.data }, { on := 7, ground := Ground.chain }], guard := none }) rfl (fun K hK => ?_) AllReadyH.nil
         refine step_append_ownL rfl (.tmp 13) (.tmp 22) 26 rfl w.heap.size 108 i0 (.agg #[.string ByteArray.empty, .string ByteArray.empty]) 2 32 Tryz.underlying26 hi0 hz0 hz1 hz2 rfl (by decide) (.slice (some ⟨g, 0, none⟩) ps.length q) ps.length (PK.cells ps) (by simp [Act.eval]) (HO.out.alloc _) ⟨x0_8.heap.size, 0, none⟩ 1 1 [.string { data := #[67, 79, 76, 79, 82] }, .string u] (by simp [Act.eval]) rfl (newL2 _ _ _ _) (by intro z hz; simp at hz; rcases hz with rfl | rfl <;> rfl) (by unfold maxLen; omega) (by omega) (by have := hsx0_8; simp; omega) ?_
         intro v6 w6 hown hgrow
         obtain ⟨g6, c6, rfl⟩ := own_someL hown
         have HDF := Lib.hid ((HD.out.al hlt (.cells #[.string { data := #[67, 79, 76, 79, 82] }, .string u] 108)).row hlt hgrow (fun j hj => (HO.out.lt j hj).1))
         have HOF : Hid (w6.ownsRow w.heap.size 108 2 (.slice (some ⟨g6, 0, none⟩) (ps.length + 1) c6) (ps.length + 1) (PK.cells (ps ++ [⟨{ data := #[67, 79, 76, 79, 82] }, u⟩]))) := Lib.hid (by rw [← PK.cells_push]; exact hown)
         clear hown hgrow
         refine hK.out _ _ ?_ (fun hHeld => ?_)
         · trivial
         clear hK K
         (try simp only [Act.put, List.setIfInBounds_toArray, List.set_cons_zero, List.set_cons_succ])
         refine wpAnyH_take (i := 11) (oi := { dst := some 3, op := Op.assign (Operand.tmp 23), type := 26, pos := _, after := #[{ on := 10, ground := Ground.data }, { on := 10, ground := Ground.chain }, { on := 0, ground := Ground.phase }, { on := 1, ground := Ground.phase }, { on := 2, ground := Ground.phase }, { on := 3, ground := Ground.phase }, { on := 4, ground := Ground.phase }, { on := 5, ground := Ground.phase }, { on := 6, ground := Ground.phase }, { on := 7, ground := Ground.phase }, { on := 8, ground := Ground.phase }, { on := 9, ground := Ground.phase }, { on := 10, ground := Ground.phase }], guard := none }) (v := ?vk0_12) rfl (by kernel_rfl) (by kernel_rfl) (by kernel_rfl) (fun _ _ _ h => h) (Or.inl ⟨by rfl, ?yk0_12⟩) (by assumption) ?rk0_12
         case yk0_12 => (intro w' hSw; (try dsimp only at hSw); go_simp; (try with_reducible rfl))
         (try simp only [Act.put, List.setIfInBounds_toArray, List.set_cons_zero, List.set_cons_succ])
         refine wpAnyH_done (by kernel_rfl) ?_ _
         go_wp2_with fail
         go_roundw
         case rel => exact ⟨1, ps ++ [⟨{ data := #[67, 79, 76, 79, 82] }, u⟩], g6, c6, rfl, by rw [List.length_append]; rfl, by decide, by rw [List.length_append, List.length_singleton]; omega, szp_push HZ.out (by decide) hu, by rw [List.length_append, List.length_singleton]; exact HOF, HDF⟩
         case measure => simp [intOf]
       refine AllReadyH.cons (o := { dst := some 19, op := Op.buildSlice 125 3 #[(0, Operand.const (Value.string { data := #[88] })), (1, Operand.const (Value.string { data := #[89] })), (2, Operand.const (Value.string { data := #[90] }))], type := 125, pos := _, after := #[], guard := none }) rfl (fun K hK => ?_) AllReadyH.nil
       go_simp
       refine hK.out _ _ ?_ (fun hHeld => ?_)
       · trivial
       clear hK K
       (try simp only [Act.put, List.setIfInBounds_toArray, List.set_cons_zero, List.set_cons_succ])
       have HD := Lib.hid (HD.out.al hlt (.cells #[.string { data := #[88] }, .string { data := #[89] }, .string { data := #[90] }] 9))
       have HO := Lib.hid (HO.out.alloc (.cells #[.string { data := #[88] }, .string { data := #[89] }, .string { data := #[90] }] 9))
       have HC := Lib.hid (HC.out.alloc (show B ≤ x0_4.heap.size by have := hsx0_4; omega) (.cells #[.string { data := #[88] }, .string { data := #[89] }, .string { data := #[90] }] 9))
       have HN := blk_alloc HN (.cells #[.string { data := #[88] }, .string { data := #[89] }, .string { data := #[90] }] 9)
       have HV := heap_alloc_new x0_4 (.cells #[.string { data := #[88] }, .string { data := #[89] }, .string { data := #[90] }] 9)
       have hsx0_13 := HD.out.grown.size
       generalize hyx0_13 : x0_4.alloc (.cells #[.string { data := #[88] }, .string { data := #[89] }, .string { data := #[90] }] 9) = x0_13 at *
       clear hyx0_13
       refine wpAnyH_ready (rs := [4, 7]) (by kernel_rfl) (by simp) ?_
       refine AllReadyH.cons (o := { dst := some 17, op := Op.load 9 (Operand.tmp 16), type := 9, pos := _, after := #[{ on := 3, ground := Ground.data }], guard := none }) rfl (fun K hK => ?_) ?_
       · skip
         have hload := cell_of_row _ _ 0 _ _ _ HN
         go_simp
         refine hK.out _ _ ?_ (fun hHeld => ?_)
         · trivial
         clear hK K
         (try simp only [Act.put, List.setIfInBounds_toArray, List.set_cons_zero, List.set_cons_succ])
         clear hload
         refine wpAnyH_ready (rs := [7]) (by kernel_rfl) (by simp) ?_
         refine AllReadyH.cons (o := { dst := some 20, op := Op.call { callee := Callee.value (Operand.func 84), args := #[Operand.tmp 18, Operand.tmp 19], argTypes := #[64, 125] }, type := 9, pos := _, after := #[{ on := 5, ground := Ground.data }, { on := 6, ground := Ground.data }], guard := none }) rfl (fun K hK => ?_) AllReadyH.nil
         go_simp
         refine (l1_pick B b x0_4.heap.size 3 a n c _ hn HC.out HD.out.cur (by decide) (by decide) (by have := hsx0_13; omega) (by have := HD.out.grown.size; omega) (texts_of_row HV (by decide) (by decide) (by decide))).mono ?_
         rintro e x0_15 ⟨u, rfl, hu, hd⟩
         have HO := Lib.hid (own_hdC HO.out hd.grown hlt)
         have HC := Lib.hid (HC.out.below (hd.below (show B ≤ x0_13.heap.size by have := hsx0_13; omega)))
         have HD := Lib.hid (HD.out.trans hd)
         have hsx0_15 := HD.out.grown.size
         have HN := Drawn.blk hd HN (by omega)
         clear hd
         (try go_wp2_with fail)
         refine hK.out _ _ ?_ (fun hHeld => ?_)
         · trivial
         clear hK K
         (try simp only [Act.put, List.setIfInBounds_toArray, List.set_cons_zero, List.set_cons_succ])
         refine wpAnyH_take (i := 8) (oi := { dst := some 21, op := Op.build 108 #[(0, Operand.tmp 17), (1, Operand.tmp 20)], type := 108, pos := _, after := #[{ on := 4, ground := Ground.data }, { on := 7, ground := Ground.data }], guard := none }) (v := ?vk0_16) rfl (by kernel_rfl) (by kernel_rfl) (by kernel_rfl) (fun _ _ _ h => h) (Or.inl ⟨by rfl, ?yk0_16⟩) (by assumption) ?rk0_16
         case yk0_16 => (intro w' hSw; (try dsimp only at hSw); go_simp; (try with_reducible rfl))
         (try simp only [Act.put, List.setIfInBounds_toArray, List.set_cons_zero, List.set_cons_succ])
         refine wpAnyH_ready (rs := [9]) (by kernel_rfl) (by simp) ?_
         refine AllReadyH.cons (o := { dst := some 22, op := Op.buildSlice 26 1 #[(0, Operand.tmp 21)], type := 26, pos := _, after := #[{ on := 8, ground := Ground.data }], guard := none }) rfl (fun K hK => ?_) AllReadyH.nil
         go_simp
         refine hK.out _ _ ?_ (fun hHeld => ?_)
         · trivial
         clear hK K
         (try simp only [Act.put, List.setIfInBounds_toArray, List.set_cons_zero, List.set_cons_succ])
         refine wpAnyH_ready (rs := [10]) (by kernel_rfl) (by simp) ?_
         refine AllReadyH.cons (o := { dst := some 23, op := Op.call { callee := Callee.builtin Builtin.append, args := #[Operand.tmp 13, Operand.tmp 22], argTypes := #[26, 26] }, type := 26, pos := _, after := #[{ on := 0, ground := Ground.data }, { on := 9, ground := Ground.data }, { on := 7, ground := Ground.chain }], guard := none }) rfl (fun K hK => ?_) AllReadyH.nil
         refine step_append_ownL rfl (.tmp 13) (.tmp 22) 26 rfl w.heap.size 108 i0 (.agg #[.string ByteArray.empty, .string ByteArray.empty]) 2 32 Tryz.underlying26 hi0 hz0 hz1 hz2 rfl (by decide) (.slice (some ⟨g, 0, none⟩) ps.length q) ps.length (PK.cells ps) (by simp [Act.eval]) (HO.out.alloc _) ⟨x0_15.heap.size, 0, none⟩ 1 1 [.string { data := #[67, 79, 76, 79, 82] }, .string u] (by simp [Act.eval]) rfl (newL2 _ _ _ _) (by intro z hz; simp at hz; rcases hz with rfl | rfl <;> rfl) (by unfold maxLen; omega) (by omega) (by have := hsx0_15; simp; omega) ?_
         intro v6 w6 hown hgrow
         obtain ⟨g6, c6, rfl⟩ := own_someL hown
         have HDF := Lib.hid ((HD.out.al hlt (.cells #[.string { data := #[67, 79, 76, 79, 82] }, .string u] 108)).row hlt hgrow (fun j hj => (HO.out.lt j hj).1))
         have HOF : Hid (w6.ownsRow w.heap.size 108 2 (.slice (some ⟨g6, 0, none⟩) (ps.length + 1) c6) (ps.length + 1) (PK.cells (ps ++ [⟨{ data := #[67, 79, 76, 79, 82] }, u⟩]))) := Lib.hid (by rw [← PK.cells_push]; exact hown)
         clear hown hgrow
         refine hK.out _ _ ?_ (fun hHeld => ?_)
         · trivial
         clear hK K
         (try simp only [Act.put, List.setIfInBounds_toArray, List.set_cons_zero, List.set_cons_succ])
         refine wpAnyH_take (i := 11) (oi := { dst := some 3, op := Op.assign (Operand.tmp 23), type := 26, pos := _, after := #[{ on := 10, ground := Ground.data }, { on := 10, ground := Ground.chain }, { on := 0, ground := Ground.phase }, { on := 1, ground := Ground.phase }, { on := 2, ground := Ground.phase }, { on := 3, ground := Ground.phase }, { on := 4, ground := Ground.phase }, { on := 5, ground := Ground.phase }, { on := 6, ground := Ground.phase }, { on := 7, ground := Ground.phase }, { on := 8, ground := Ground.phase }, { on := 9, ground := Ground.phase }, { on := 10, ground := Ground.phase }], guard := none }) (v := ?vk0_19) rfl (by kernel_rfl) (by kernel_rfl) (by kernel_rfl) (fun _ _ _ h => h) (Or.inl ⟨by rfl, ?yk0_19⟩) (by assumption) ?rk0_19
         case yk0_19 => (intro w' hSw; (try dsimp only at hSw); go_simp; (try with_reducible rfl))
         (try simp only [Act.put, List.setIfInBounds_toArray, List.set_cons_zero, List.set_cons_succ])
         refine wpAnyH_done (by kernel_rfl) ?_ _
         go_wp2_with fail
         go_roundw
         case rel => exact ⟨1, ps ++ [⟨{ data := #[67, 79, 76, 79, 82] }, u⟩], g6, c6, rfl, by rw [List.length_append]; rfl, by decide, by rw [List.length_append, List.length_singleton]; omega, szp_push HZ.out (by decide) hu, by rw [List.length_append, List.length_singleton]; exact HOF, HDF⟩
         case measure => simp [intOf]
       refine AllReadyH.cons (o := { dst := some 20, op := Op.call { callee := Callee.value (Operand.func 84), args := #[Operand.tmp 18, Operand.tmp 19], argTypes := #[64, 125] }, type := 9, pos := _, after := #[{ on := 5, ground := Ground.data }, { on := 6, ground := Ground.data }], guard := none }) rfl (fun K hK => ?_) AllReadyH.nil
       go_simp
       refine (l1_pick B b x0_4.heap.size 3 a n c _ hn HC.out HD.out.cur (by decide) (by decide) (by have := hsx0_13; omega) (by have := HD.out.grown.size; omega) (texts_of_row HV (by decide) (by decide) (by decide))).mono ?_
       rintro e x0_20 ⟨u, rfl, hu, hd⟩
       have HO := Lib.hid (own_hdC HO.out hd.grown hlt)
       have HC := Lib.hid (HC.out.below (hd.below (show B ≤ x0_13.heap.size by have := hsx0_13; omega)))
       have HD := Lib.hid (HD.out.trans hd)
       have hsx0_20 := HD.out.grown.size
       have HN := Drawn.blk hd HN (by omega)
       clear hd
       (try go_wp2_with fail)
       refine hK.out _ _ ?_ (fun hHeld => ?_)
       · trivial
       clear hK K
       (try simp only [Act.put, List.setIfInBounds_toArray, List.set_cons_zero, List.set_cons_succ])
       refine wpAnyH_ready (rs := [4]) (by kernel_rfl) (by simp) ?_
       refine AllReadyH.cons (o := { dst := some 17, op := Op.load 9 (Operand.tmp 16), type := 9, pos := _, after := #[{ on := 3, ground := Ground.data }], guard := none }) rfl (fun K hK => ?_) AllReadyH.nil
       have hload := cell_of_row _ _ 0 _ _ _ HN
       go_simp
       refine hK.out _ _ ?_ (fun hHeld => ?_)
       · trivial
       clear hK K
       (try simp only [Act.put, List.setIfInBounds_toArray, List.set_cons_zero, List.set_cons_succ])
       clear hload
       refine wpAnyH_take (i := 8) (oi := { dst := some 21, op := Op.build 108 #[(0, Operand.tmp 17), (1, Operand.tmp 20)], type := 108, pos := _, after := #[{ on := 4, ground := Ground.data }, { on := 7, ground := Ground.data }], guard := none }) (v := ?vk0_22) rfl (by kernel_rfl) (by kernel_rfl) (by kernel_rfl) (fun _ _ _ h => h) (Or.inl ⟨by rfl, ?yk0_22⟩) (by assumption) ?rk0_22
       case yk0_22 => (intro w' hSw; (try dsimp only at hSw); go_simp; (try with_reducible rfl))
       (try simp only [Act.put, List.setIfInBounds_toArray, List.set_cons_zero, List.set_cons_succ])
       refine wpAnyH_ready (rs := [9]) (by kernel_rfl) (by simp) ?_
       refine AllReadyH.cons (o := { dst := some 22, op := Op.buildSlice 26 1 #[(0, Operand.tmp 21)], type := 26, pos := _, after := #[{ on := 8, ground := Ground.data }], guard := none }) rfl (fun K hK => ?_) AllReadyH.nil
       go_simp
       refine hK.out _ _ ?_ (fun hHeld => ?_)
       · trivial
       clear hK K
       (try simp only [Act.put, List.setIfInBounds_toArray, List.set_cons_zero, List.set_cons_succ])
       refine wpAnyH_ready (rs := [10]) (by kernel_rfl) (by simp) ?_
       refine AllReadyH.cons (o := { dst := some 23, op := Op.call { callee := Callee.builtin Builtin.append, args := #[Operand.tmp 13, Operand.tmp 22], argTypes := #[26, 26] }, type := 26, pos := _, after := #[{ on := 0, ground := Ground.data }, { on := 9, ground := Ground.data }, { on := 7, ground := Ground.chain }], guard := none }) rfl (fun K hK => ?_) AllReadyH.nil
       refine step_append_ownL rfl (.tmp 13) (.tmp 22) 26 rfl w.heap.size 108 i0 (.agg #[.string ByteArray.empty, .string ByteArray.empty]) 2 32 Tryz.underlying26 hi0 hz0 hz1 hz2 rfl (by decide) (.slice (some ⟨g, 0, none⟩) ps.length q) ps.length (PK.cells ps) (by simp [Act.eval]) (HO.out.alloc _) ⟨x0_20.heap.size, 0, none⟩ 1 1 [.string { data := #[67, 79, 76, 79, 82] }, .string u] (by simp [Act.eval]) rfl (newL2 _ _ _ _) (by intro z hz; simp at hz; rcases hz with rfl | rfl <;> rfl) (by unfold maxLen; omega) (by omega) (by have := hsx0_20; simp; omega) ?_
       intro v6 w6 hown hgrow
       obtain ⟨g6, c6, rfl⟩ := own_someL hown
       have HDF := Lib.hid ((HD.out.al hlt (.cells #[.string { data := #[67, 79, 76, 79, 82] }, .string u] 108)).row hlt hgrow (fun j hj => (HO.out.lt j hj).1))
       have HOF : Hid (w6.ownsRow w.heap.size 108 2 (.slice (some ⟨g6, 0, none⟩) (ps.length + 1) c6) (ps.length + 1) (PK.cells (ps ++ [⟨{ data := #[67, 79, 76, 79, 82] }, u⟩]))) := Lib.hid (by rw [← PK.cells_push]; exact hown)
       clear hown hgrow
       refine hK.out _ _ ?_ (fun hHeld => ?_)
       · trivial
       clear hK K
       (try simp only [Act.put, List.setIfInBounds_toArray, List.set_cons_zero, List.set_cons_succ])
       refine wpAnyH_take (i := 11) (oi := { dst := some 3, op := Op.assign (Operand.tmp 23), type := 26, pos := _, after := #[{ on := 10, ground := Ground.data }, { on := 10, ground := Ground.chain }, { on := 0, ground := Ground.phase }, { on := 1, ground := Ground.phase }, { on := 2, ground := Ground.phase }, { on := 3, ground := Ground.phase }, { on := 4, ground := Ground.phase }, { on := 5, ground := Ground.phase }, { on := 6, ground := Ground.phase }, { on := 7, ground := Ground.phase }, { on := 8, ground := Ground.phase }, { on := 9, ground := Ground.phase }, { on := 10, ground := Ground.phase }], guard := none }) (v := ?vk0_25) rfl (by kernel_rfl) (by kernel_rfl) (by kernel_rfl) (fun _ _ _ h => h) (Or.inl ⟨by rfl, ?yk0_25⟩) (by assumption) ?rk0_25
       case yk0_25 => (intro w' hSw; (try dsimp only at hSw); go_simp; (try with_reducible rfl))
       (try simp only [Act.put, List.setIfInBounds_toArray, List.set_cons_zero, List.set_cons_succ])
       refine wpAnyH_done (by kernel_rfl) ?_ _
       go_wp2_with fail
       go_roundw
       case rel => exact ⟨1, ps ++ [⟨{ data := #[67, 79, 76, 79, 82] }, u⟩], g6, c6, rfl, by rw [List.length_append]; rfl, by decide, by rw [List.length_append, List.length_singleton]; omega, szp_push HZ.out (by decide) hu, by rw [List.length_append, List.length_singleton]; exact HOF, HDF⟩
       case measure => simp [intOf]
     refine AllReadyH.cons (o := { dst := some 19, op := Op.buildSlice 125 3 #[(0, Operand.const (Value.string { data := #[88] })), (1, Operand.const (Value.string { data := #[89] })), (2, Operand.const (Value.string { data := #[90] }))], type := 125, pos := _, after := #[], guard := none }) rfl (fun K hK => ?_) AllReadyH.nil
     go_simp
     refine hK.out _ _ ?_ (fun hHeld => ?_)
     · trivial
     clear hK K
     (try simp only [Act.put, List.setIfInBounds_toArray, List.set_cons_zero, List.set_cons_succ])
     have HD := Lib.hid (HD.out.al hlt (.cells #[.string { data := #[88] }, .string { data := #[89] }, .string { data := #[90] }] 9))
     have HO := Lib.hid (HO.out.alloc (.cells #[.string { data := #[88] }, .string { data := #[89] }, .string { data := #[90] }] 9))
     have HC := Lib.hid (HC.out.alloc (show B ≤ x0.heap.size by have := hsx0; omega) (.cells #[.string { data := #[88] }, .string { data := #[89] }, .string { data := #[90] }] 9))
     have HV := heap_alloc_new x0 (.cells #[.string { data := #[88] }, .string { data := #[89] }, .string { data := #[90] }] 9)
     have hsx0_26 := HD.out.grown.size
     generalize hyx0_26 : x0.alloc (.cells #[.string { data := #[88] }, .string { data := #[89] }, .string { data := #[90] }] 9) = x0_26 at *
     clear hyx0_26
     refine wpAnyH_ready (rs := [1, 7]) (by kernel_rfl) (by simp) ?_
     refine AllReadyH.cons (o := { dst := some 14, op := Op.buildSlice 125 3 #[(0, Operand.const (Value.string { data := #[67, 79, 76, 79, 82] })), (1, Operand.const (Value.string { data := #[83, 73, 90, 69] })), (2, Operand.const (Value.string { data := #[76, 73, 68] }))], type := 125, pos := _, after := #[], guard := none }) rfl (fun K hK => ?_) ?_
     · skip
       go_simp
       refine hK.out _ _ ?_ (fun hHeld => ?_)
       · trivial
       clear hK K
       (try simp only [Act.put, List.setIfInBounds_toArray, List.set_cons_zero, List.set_cons_succ])
       have HD := Lib.hid (HD.out.al hlt (.cells #[.string { data := #[67, 79, 76, 79, 82] }, .string { data := #[83, 73, 90, 69] }, .string { data := #[76, 73, 68] }] 9))
       have HO := Lib.hid (HO.out.alloc (.cells #[.string { data := #[67, 79, 76, 79, 82] }, .string { data := #[83, 73, 90, 69] }, .string { data := #[76, 73, 68] }] 9))
       have HC := Lib.hid (HC.out.alloc (show B ≤ x0_26.heap.size by have := hsx0_26; omega) (.cells #[.string { data := #[67, 79, 76, 79, 82] }, .string { data := #[83, 73, 90, 69] }, .string { data := #[76, 73, 68] }] 9))
       have HV := blk_alloc HV (.cells #[.string { data := #[67, 79, 76, 79, 82] }, .string { data := #[83, 73, 90, 69] }, .string { data := #[76, 73, 68] }] 9)
       have HN := heap_alloc_new x0_26 (.cells #[.string { data := #[67, 79, 76, 79, 82] }, .string { data := #[83, 73, 90, 69] }, .string { data := #[76, 73, 68] }] 9)
       have hsx0_27 := HD.out.grown.size
       generalize hyx0_27 : x0_26.alloc (.cells #[.string { data := #[67, 79, 76, 79, 82] }, .string { data := #[83, 73, 90, 69] }, .string { data := #[76, 73, 68] }] 9) = x0_27 at *
       clear hyx0_27
       refine wpAnyH_take (i := 3) (oi := { dst := some 16, op := Op.indexAddr 125 (Operand.tmp 14) (Operand.tmp 15), type := 0, pos := _, after := #[{ on := 1, ground := Ground.data }, { on := 2, ground := Ground.data }], guard := none }) (v := ?vk0_28) rfl (by kernel_rfl) (by kernel_rfl) (by kernel_rfl) (fun _ _ _ h => h) (Or.inl ⟨by rfl, ?yk0_28⟩) (by assumption) ?rk0_28
       case yk0_28 => (intro w' hSw; (try dsimp only at hSw); go_simp; (try with_reducible rfl))
       (try simp only [Act.put, List.setIfInBounds_toArray, List.set_cons_zero, List.set_cons_succ])
       refine wpAnyH_ready (rs := [4, 7]) (by kernel_rfl) (by simp) ?_
       refine AllReadyH.cons (o := { dst := some 17, op := Op.load 9 (Operand.tmp 16), type := 9, pos := _, after := #[{ on := 3, ground := Ground.data }], guard := none }) rfl (fun K hK => ?_) ?_
       · skip
         have hload := cell_of_row _ _ 0 _ _ _ HN
         go_simp
         refine hK.out _ _ ?_ (fun hHeld => ?_)
         · trivial
         clear hK K
         (try simp only [Act.put, List.setIfInBounds_toArray, List.set_cons_zero, List.set_cons_succ])
         clear hload
         refine wpAnyH_ready (rs := [7]) (by kernel_rfl) (by simp) ?_
         refine AllReadyH.cons (o := { dst := some 20, op := Op.call { callee := Callee.value (Operand.func 84), args := #[Operand.tmp 18, Operand.tmp 19], argTypes := #[64, 125] }, type := 9, pos := _, after := #[{ on := 5, ground := Ground.data }, { on := 6, ground := Ground.data }], guard := none }) rfl (fun K hK => ?_) AllReadyH.nil
         go_simp
         refine (l1_pick B b x0.heap.size 3 a n c _ hn HC.out HD.out.cur (by decide) (by decide) (by have := hsx0_27; omega) (by have := HD.out.grown.size; omega) (texts_of_row HV (by decide) (by decide) (by decide))).mono ?_
         rintro e x0_30 ⟨u, rfl, hu, hd⟩
         have HO := Lib.hid (own_hdC HO.out hd.grown hlt)
         have HC := Lib.hid (HC.out.below (hd.below (show B ≤ x0_27.heap.size by have := hsx0_27; omega)))
         have HD := Lib.hid (HD.out.trans hd)
         have hsx0_30 := HD.out.grown.size
         have HN := Drawn.blk hd HN (by omega)
         clear hd
         (try go_wp2_with fail)
         refine hK.out _ _ ?_ (fun hHeld => ?_)
         · trivial
         clear hK K
         (try simp only [Act.put, List.setIfInBounds_toArray, List.set_cons_zero, List.set_cons_succ])
         refine wpAnyH_take (i := 8) (oi := { dst := some 21, op := Op.build 108 #[(0, Operand.tmp 17), (1, Operand.tmp 20)], type := 108, pos := _, after := #[{ on := 4, ground := Ground.data }, { on := 7, ground := Ground.data }], guard := none }) (v := ?vk0_31) rfl (by kernel_rfl) (by kernel_rfl) (by kernel_rfl) (fun _ _ _ h => h) (Or.inl ⟨by rfl, ?yk0_31⟩) (by assumption) ?rk0_31
         case yk0_31 => (intro w' hSw; (try dsimp only at hSw); go_simp; (try with_reducible rfl))
         (try simp only [Act.put, List.setIfInBounds_toArray, List.set_cons_zero, List.set_cons_succ])
         refine wpAnyH_ready (rs := [9]) (by kernel_rfl) (by simp) ?_
         refine AllReadyH.cons (o := { dst := some 22, op := Op.buildSlice 26 1 #[(0, Operand.tmp 21)], type := 26, pos := _, after := #[{ on := 8, ground := Ground.data }], guard := none }) rfl (fun K hK => ?_) AllReadyH.nil
         go_simp
         refine hK.out _ _ ?_ (fun hHeld => ?_)
         · trivial
         clear hK K
         (try simp only [Act.put, List.setIfInBounds_toArray, List.set_cons_zero, List.set_cons_succ])
         refine wpAnyH_ready (rs := [10]) (by kernel_rfl) (by simp) ?_
         refine AllReadyH.cons (o := { dst := some 23, op := Op.call { callee := Callee.builtin Builtin.append, args := #[Operand.tmp 13, Operand.tmp 22], argTypes := #[26, 26] }, type := 26, pos := _, after := #[{ on := 0, ground := Ground.data }, { on := 9, ground := Ground.data }, { on := 7, ground := Ground.chain }], guard := none }) rfl (fun K hK => ?_) AllReadyH.nil
         refine step_append_ownL rfl (.tmp 13) (.tmp 22) 26 rfl w.heap.size 108 i0 (.agg #[.string ByteArray.empty, .string ByteArray.empty]) 2 32 Tryz.underlying26 hi0 hz0 hz1 hz2 rfl (by decide) (.slice (some ⟨g, 0, none⟩) ps.length q) ps.length (PK.cells ps) (by simp [Act.eval]) (HO.out.alloc _) ⟨x0_30.heap.size, 0, none⟩ 1 1 [.string { data := #[67, 79, 76, 79, 82] }, .string u] (by simp [Act.eval]) rfl (newL2 _ _ _ _) (by intro z hz; simp at hz; rcases hz with rfl | rfl <;> rfl) (by unfold maxLen; omega) (by omega) (by have := hsx0_30; simp; omega) ?_
         intro v6 w6 hown hgrow
         obtain ⟨g6, c6, rfl⟩ := own_someL hown
         have HDF := Lib.hid ((HD.out.al hlt (.cells #[.string { data := #[67, 79, 76, 79, 82] }, .string u] 108)).row hlt hgrow (fun j hj => (HO.out.lt j hj).1))
         have HOF : Hid (w6.ownsRow w.heap.size 108 2 (.slice (some ⟨g6, 0, none⟩) (ps.length + 1) c6) (ps.length + 1) (PK.cells (ps ++ [⟨{ data := #[67, 79, 76, 79, 82] }, u⟩]))) := Lib.hid (by rw [← PK.cells_push]; exact hown)
         clear hown hgrow
         refine hK.out _ _ ?_ (fun hHeld => ?_)
         · trivial
         clear hK K
         (try simp only [Act.put, List.setIfInBounds_toArray, List.set_cons_zero, List.set_cons_succ])
         refine wpAnyH_take (i := 11) (oi := { dst := some 3, op := Op.assign (Operand.tmp 23), type := 26, pos := _, after := #[{ on := 10, ground := Ground.data }, { on := 10, ground := Ground.chain }, { on := 0, ground := Ground.phase }, { on := 1, ground := Ground.phase }, { on := 2, ground := Ground.phase }, { on := 3, ground := Ground.phase }, { on := 4, ground := Ground.phase }, { on := 5, ground := Ground.phase }, { on := 6, ground := Ground.phase }, { on := 7, ground := Ground.phase }, { on := 8, ground := Ground.phase }, { on := 9, ground := Ground.phase }, { on := 10, ground := Ground.phase }], guard := none }) (v := ?vk0_34) rfl (by kernel_rfl) (by kernel_rfl) (by kernel_rfl) (fun _ _ _ h => h) (Or.inl ⟨by rfl, ?yk0_34⟩) (by assumption) ?rk0_34
         case yk0_34 => (intro w' hSw; (try dsimp only at hSw); go_simp; (try with_reducible rfl))
         (try simp only [Act.put, List.setIfInBounds_toArray, List.set_cons_zero, List.set_cons_succ])
         refine wpAnyH_done (by kernel_rfl) ?_ _
         go_wp2_with fail
         go_roundw
         case rel => exact ⟨1, ps ++ [⟨{ data := #[67, 79, 76, 79, 82] }, u⟩], g6, c6, rfl, by rw [List.length_append]; rfl, by decide, by rw [List.length_append, List.length_singleton]; omega, szp_push HZ.out (by decide) hu, by rw [List.length_append, List.length_singleton]; exact HOF, HDF⟩
         case measure => simp [intOf]
       refine AllReadyH.cons (o := { dst := some 20, op := Op.call { callee := Callee.value (Operand.func 84), args := #[Operand.tmp 18, Operand.tmp 19], argTypes := #[64, 125] }, type := 9, pos := _, after := #[{ on := 5, ground := Ground.data }, { on := 6, ground := Ground.data }], guard := none }) rfl (fun K hK => ?_) AllReadyH.nil
       go_simp
       refine (l1_pick B b x0.heap.size 3 a n c _ hn HC.out HD.out.cur (by decide) (by decide) (by have := hsx0_27; omega) (by have := HD.out.grown.size; omega) (texts_of_row HV (by decide) (by decide) (by decide))).mono ?_
       rintro e x0_35 ⟨u, rfl, hu, hd⟩
       have HO := Lib.hid (own_hdC HO.out hd.grown hlt)
       have HC := Lib.hid (HC.out.below (hd.below (show B ≤ x0_27.heap.size by have := hsx0_27; omega)))
       have HD := Lib.hid (HD.out.trans hd)
       have hsx0_35 := HD.out.grown.size
       have HN := Drawn.blk hd HN (by omega)
       clear hd
       (try go_wp2_with fail)
       refine hK.out _ _ ?_ (fun hHeld => ?_)
       · trivial
       clear hK K
       (try simp only [Act.put, List.setIfInBounds_toArray, List.set_cons_zero, List.set_cons_succ])
       refine wpAnyH_ready (rs := [4]) (by kernel_rfl) (by simp) ?_
       refine AllReadyH.cons (o := { dst := some 17, op := Op.load 9 (Operand.tmp 16), type := 9, pos := _, after := #[{ on := 3, ground := Ground.data }], guard := none }) rfl (fun K hK => ?_) AllReadyH.nil
       have hload := cell_of_row _ _ 0 _ _ _ HN
       go_simp
       refine hK.out _ _ ?_ (fun hHeld => ?_)
       · trivial
       clear hK K
       (try simp only [Act.put, List.setIfInBounds_toArray, List.set_cons_zero, List.set_cons_succ])
       clear hload
       refine wpAnyH_take (i := 8) (oi := { dst := some 21, op := Op.build 108 #[(0, Operand.tmp 17), (1, Operand.tmp 20)], type := 108, pos := _, after := #[{ on := 4, ground := Ground.data }, { on := 7, ground := Ground.data }], guard := none }) (v := ?vk0_37) rfl (by kernel_rfl) (by kernel_rfl) (by kernel_rfl) (fun _ _ _ h => h) (Or.inl ⟨by rfl, ?yk0_37⟩) (by assumption) ?rk0_37
       case yk0_37 => (intro w' hSw; (try dsimp only at hSw); go_simp; (try with_reducible rfl))
       (try simp only [Act.put, List.setIfInBounds_toArray, List.set_cons_zero, List.set_cons_succ])
       refine wpAnyH_ready (rs := [9]) (by kernel_rfl) (by simp) ?_
       refine AllReadyH.cons (o := { dst := some 22, op := Op.buildSlice 26 1 #[(0, Operand.tmp 21)], type := 26, pos := _, after := #[{ on := 8, ground := Ground.data }], guard := none }) rfl (fun K hK => ?_) AllReadyH.nil
       go_simp
       refine hK.out _ _ ?_ (fun hHeld => ?_)
       · trivial
       clear hK K
       (try simp only [Act.put, List.setIfInBounds_toArray, List.set_cons_zero, List.set_cons_succ])
       refine wpAnyH_ready (rs := [10]) (by kernel_rfl) (by simp) ?_
       refine AllReadyH.cons (o := { dst := some 23, op := Op.call { callee := Callee.builtin Builtin.append, args := #[Operand.tmp 13, Operand.tmp 22], argTypes := #[26, 26] }, type := 26, pos := _, after := #[{ on := 0, ground := Ground.data }, { on := 9, ground := Ground.data }, { on := 7, ground := Ground.chain }], guard := none }) rfl (fun K hK => ?_) AllReadyH.nil
       refine step_append_ownL rfl (.tmp 13) (.tmp 22) 26 rfl w.heap.size 108 i0 (.agg #[.string ByteArray.empty, .string ByteArray.empty]) 2 32 Tryz.underlying26 hi0 hz0 hz1 hz2 rfl (by decide) (.slice (some ⟨g, 0, none⟩) ps.length q) ps.length (PK.cells ps) (by simp [Act.eval]) (HO.out.alloc _) ⟨x0_35.heap.size, 0, none⟩ 1 1 [.string { data := #[67, 79, 76, 79, 82] }, .string u] (by simp [Act.eval]) rfl (newL2 _ _ _ _) (by intro z hz; simp at hz; rcases hz with rfl | rfl <;> rfl) (by unfold maxLen; omega) (by omega) (by have := hsx0_35; simp; omega) ?_
       intro v6 w6 hown hgrow
       obtain ⟨g6, c6, rfl⟩ := own_someL hown
       have HDF := Lib.hid ((HD.out.al hlt (.cells #[.string { data := #[67, 79, 76, 79, 82] }, .string u] 108)).row hlt hgrow (fun j hj => (HO.out.lt j hj).1))
       have HOF : Hid (w6.ownsRow w.heap.size 108 2 (.slice (some ⟨g6, 0, none⟩) (ps.length + 1) c6) (ps.length + 1) (PK.cells (ps ++ [⟨{ data := #[67, 79, 76, 79, 82] }, u⟩]))) := Lib.hid (by rw [← PK.cells_push]; exact hown)
       clear hown hgrow
       refine hK.out _ _ ?_ (fun hHeld => ?_)
       · trivial
       clear hK K
       (try simp only [Act.put, List.setIfInBounds_toArray, List.set_cons_zero, List.set_cons_succ])
       refine wpAnyH_take (i := 11) (oi := { dst := some 3, op := Op.assign (Operand.tmp 23), type := 26, pos := _, after := #[{ on := 10, ground := Ground.data }, { on := 10, ground := Ground.chain }, { on := 0, ground := Ground.phase }, { on := 1, ground := Ground.phase }, { on := 2, ground := Ground.phase }, { on := 3, ground := Ground.phase }, { on := 4, ground := Ground.phase }, { on := 5, ground := Ground.phase }, { on := 6, ground := Ground.phase }, { on := 7, ground := Ground.phase }, { on := 8, ground := Ground.phase }, { on := 9, ground := Ground.phase }, { on := 10, ground := Ground.phase }], guard := none }) (v := ?vk0_40) rfl (by kernel_rfl) (by kernel_rfl) (by kernel_rfl) (fun _ _ _ h => h) (Or.inl ⟨by rfl, ?yk0_40⟩) (by assumption) ?rk0_40
       case yk0_40 => (intro w' hSw; (try dsimp only at hSw); go_simp; (try with_reducible rfl))
       (try simp only [Act.put, List.setIfInBounds_toArray, List.set_cons_zero, List.set_cons_succ])
       refine wpAnyH_done (by kernel_rfl) ?_ _
       go_wp2_with fail
       go_roundw
       case rel => exact ⟨1, ps ++ [⟨{ data := #[67, 79, 76, 79, 82] }, u⟩], g6, c6, rfl, by rw [List.length_append]; rfl, by decide, by rw [List.length_append, List.length_singleton]; omega, szp_push HZ.out (by decide) hu, by rw [List.length_append, List.length_singleton]; exact HOF, HDF⟩
       case measure => simp [intOf]
     refine AllReadyH.cons (o := { dst := some 20, op := Op.call { callee := Callee.value (Operand.func 84), args := #[Operand.tmp 18, Operand.tmp 19], argTypes := #[64, 125] }, type := 9, pos := _, after := #[{ on := 5, ground := Ground.data }, { on := 6, ground := Ground.data }], guard := none }) rfl (fun K hK => ?_) AllReadyH.nil
     go_simp
     refine (l1_pick B b x0.heap.size 3 a n c _ hn HC.out HD.out.cur (by decide) (by decide) (by have := hsx0_26; omega) (by have := HD.out.grown.size; omega) (texts_of_row HV (by decide) (by decide) (by decide))).mono ?_
     rintro e x0_41 ⟨u, rfl, hu, hd⟩
     have HO := Lib.hid (own_hdC HO.out hd.grown hlt)
     have HC := Lib.hid (HC.out.below (hd.below (show B ≤ x0_26.heap.size by have := hsx0_26; omega)))
     have HD := Lib.hid (HD.out.trans hd)
     have hsx0_41 := HD.out.grown.size
     clear hd
     (try go_wp2_with fail)
     refine hK.out _ _ ?_ (fun hHeld => ?_)
     · trivial
     clear hK K
     (try simp only [Act.put, List.setIfInBounds_toArray, List.set_cons_zero, List.set_cons_succ])
     refine wpAnyH_ready (rs := [1]) (by kernel_rfl) (by simp) ?_
     refine AllReadyH.cons (o := { dst := some 14, op := Op.buildSlice 125 3 #[(0, Operand.const (Value.string { data := #[67, 79, 76, 79, 82] })), (1, Operand.const (Value.string { data := #[83, 73, 90, 69] })), (2, Operand.const (Value.string { data := #[76, 73, 68] }))], type := 125, pos := _, after := #[], guard := none }) rfl (fun K hK => ?_) AllReadyH.nil
     go_simp
     refine hK.out _ _ ?_ (fun hHeld => ?_)
     · trivial
     clear hK K
     (try simp only [Act.put, List.setIfInBounds_toArray, List.set_cons_zero, List.set_cons_succ])
     have HD := Lib.hid (HD.out.al hlt (.cells #[.string { data := #[67, 79, 76, 79, 82] }, .string { data := #[83, 73, 90, 69] }, .string { data := #[76, 73, 68] }] 9))
     have HO := Lib.hid (HO.out.alloc (.cells #[.string { data := #[67, 79, 76, 79, 82] }, .string { data := #[83, 73, 90, 69] }, .string { data := #[76, 73, 68] }] 9))
     have HC := Lib.hid (HC.out.alloc (show B ≤ x0_41.heap.size by have := hsx0_41; omega) (.cells #[.string { data := #[67, 79, 76, 79, 82] }, .string { data := #[83, 73, 90, 69] }, .string { data := #[76, 73, 68] }] 9))
     have HV := blk_alloc HV (.cells #[.string { data := #[67, 79, 76, 79, 82] }, .string { data := #[83, 73, 90, 69] }, .string { data := #[76, 73, 68] }] 9)
     have HN := heap_alloc_new x0_41 (.cells #[.string { data := #[67, 79, 76, 79, 82] }, .string { data := #[83, 73, 90, 69] }, .string { data := #[76, 73, 68] }] 9)
     have hsx0_42 := HD.out.grown.size
     generalize hyx0_42 : x0_41.alloc (.cells #[.string { data := #[67, 79, 76, 79, 82] }, .string { data := #[83, 73, 90, 69] }, .string { data := #[76, 73, 68] }] 9) = x0_42 at *
     clear hyx0_42
     refine wpAnyH_take (i := 3) (oi := { dst := some 16, op := Op.indexAddr 125 (Operand.tmp 14) (Operand.tmp 15), type := 0, pos := _, after := #[{ on := 1, ground := Ground.data }, { on := 2, ground := Ground.data }], guard := none }) (v := ?vk0_43) rfl (by kernel_rfl) (by kernel_rfl) (by kernel_rfl) (fun _ _ _ h => h) (Or.inl ⟨by rfl, ?yk0_43⟩) (by assumption) ?rk0_43
     case yk0_43 => (intro w' hSw; (try dsimp only at hSw); go_simp; (try with_reducible rfl))
     (try simp only [Act.put, List.setIfInBounds_toArray, List.set_cons_zero, List.set_cons_succ])
     refine wpAnyH_ready (rs := [4]) (by kernel_rfl) (by simp) ?_
     refine AllReadyH.cons (o := { dst := some 17, op := Op.load 9 (Operand.tmp 16), type := 9, pos := _, after := #[{ on := 3, ground := Ground.data }], guard := none }) rfl (fun K hK => ?_) AllReadyH.nil
     have hload := cell_of_row _ _ 0 _ _ _ HN
     go_simp
     refine hK.out _ _ ?_ (fun hHeld => ?_)
     · trivial
     clear hK K
     (try simp only [Act.put, List.setIfInBounds_toArray, List.set_cons_zero, List.set_cons_succ])
     clear hload
     refine wpAnyH_take (i := 8) (oi := { dst := some 21, op := Op.build 108 #[(0, Operand.tmp 17), (1, Operand.tmp 20)], type := 108, pos := _, after := #[{ on := 4, ground := Ground.data }, { on := 7, ground := Ground.data }], guard := none }) (v := ?vk0_45) rfl (by kernel_rfl) (by kernel_rfl) (by kernel_rfl) (fun _ _ _ h => h) (Or.inl ⟨by rfl, ?yk0_45⟩) (by assumption) ?rk0_45
     case yk0_45 => (intro w' hSw; (try dsimp only at hSw); go_simp; (try with_reducible rfl))
     (try simp only [Act.put, List.setIfInBounds_toArray, List.set_cons_zero, List.set_cons_succ])
     refine wpAnyH_ready (rs := [9]) (by kernel_rfl) (by simp) ?_
     refine AllReadyH.cons (o := { dst := some 22, op := Op.buildSlice 26 1 #[(0, Operand.tmp 21)], type := 26, pos := _, after := #[{ on := 8, ground := Ground.data }], guard := none }) rfl (fun K hK => ?_) AllReadyH.nil
     go_simp
     refine hK.out _ _ ?_ (fun hHeld => ?_)
     · trivial
     clear hK K
     (try simp only [Act.put, List.setIfInBounds_toArray, List.set_cons_zero, List.set_cons_succ])
     refine wpAnyH_ready (rs := [10]) (by kernel_rfl) (by simp) ?_
     refine AllReadyH.cons (o := { dst := some 23, op := Op.call { callee := Callee.builtin Builtin.append, args := #[Operand.tmp 13, Operand.tmp 22], argTypes := #[26, 26] }, type := 26, pos := _, after := #[{ on := 0, ground := Ground.data }, { on := 9, ground := Ground.data }, { on := 7, ground := Ground.chain }], guard := none }) rfl (fun K hK => ?_) AllReadyH.nil
     refine step_append_ownL rfl (.tmp 13) (.tmp 22) 26 rfl w.heap.size 108 i0 (.agg #[.string ByteArray.empty, .string ByteArray.empty]) 2 32 Tryz.underlying26 hi0 hz0 hz1 hz2 rfl (by decide) (.slice (some ⟨g, 0, none⟩) ps.length q) ps.length (PK.cells ps) (by simp [Act.eval]) (HO.out.alloc _) ⟨x0_42.heap.size, 0, none⟩ 1 1 [.string { data := #[67, 79, 76, 79, 82] }, .string u] (by simp [Act.eval]) rfl (newL2 _ _ _ _) (by intro z hz; simp at hz; rcases hz with rfl | rfl <;> rfl) (by unfold maxLen; omega) (by omega) (by have := hsx0_42; simp; omega) ?_
     intro v6 w6 hown hgrow
     obtain ⟨g6, c6, rfl⟩ := own_someL hown
     have HDF := Lib.hid ((HD.out.al hlt (.cells #[.string { data := #[67, 79, 76, 79, 82] }, .string u] 108)).row hlt hgrow (fun j hj => (HO.out.lt j hj).1))
     have HOF : Hid (w6.ownsRow w.heap.size 108 2 (.slice (some ⟨g6, 0, none⟩) (ps.length + 1) c6) (ps.length + 1) (PK.cells (ps ++ [⟨{ data := #[67, 79, 76, 79, 82] }, u⟩]))) := Lib.hid (by rw [← PK.cells_push]; exact hown)
     clear hown hgrow
     refine hK.out _ _ ?_ (fun hHeld => ?_)
     · trivial
     clear hK K
     (try simp only [Act.put, List.setIfInBounds_toArray, List.set_cons_zero, List.set_cons_succ])
     refine wpAnyH_take (i := 11) (oi := { dst := some 3, op := Op.assign (Operand.tmp 23), type := 26, pos := _, after := #[{ on := 10, ground := Ground.data }, { on := 10, ground := Ground.chain }, { on := 0, ground := Ground.phase }, { on := 1, ground := Ground.phase }, { on := 2, ground := Ground.phase }, { on := 3, ground := Ground.phase }, { on := 4, ground := Ground.phase }, { on := 5, ground := Ground.phase }, { on := 6, ground := Ground.phase }, { on := 7, ground := Ground.phase }, { on := 8, ground := Ground.phase }, { on := 9, ground := Ground.phase }, { on := 10, ground := Ground.phase }], guard := none }) (v := ?vk0_48) rfl (by kernel_rfl) (by kernel_rfl) (by kernel_rfl) (fun _ _ _ h => h) (Or.inl ⟨by rfl, ?yk0_48⟩) (by assumption) ?rk0_48
     case yk0_48 => (intro w' hSw; (try dsimp only at hSw); go_simp; (try with_reducible rfl))
     (try simp only [Act.put, List.setIfInBounds_toArray, List.set_cons_zero, List.set_cons_succ])
     refine wpAnyH_done (by kernel_rfl) ?_ _
     go_wp2_with fail
     go_roundw
     case rel => exact ⟨1, ps ++ [⟨{ data := #[67, 79, 76, 79, 82] }, u⟩], g6, c6, rfl, by rw [List.length_append]; rfl, by decide, by rw [List.length_append, List.length_singleton]; omega, szp_push HZ.out (by decide) hu, by rw [List.length_append, List.length_singleton]; exact HOF, HDF⟩
     case measure => simp [intOf]
   · go_upto_region 6 with fail
     have HD := Lib.hid (HD.out.dr hlt)
     have HO : Hid (w2.drew.ownsRow w.heap.size 108 2 (.slice (some ⟨g, 0, none⟩) ps.length q) ps.length (PK.cells ps)) := Lib.hid HO.out
     have HC : Hid (CodeAt B w2.drew a n) := Lib.hid HC.out
     refine wp_region_held_drew (S := fun _ => True) (by kernel_rfl) trivial (fun hHeld => ?_)
     generalize hy0 : w2.drew = x0 at *
     have hsx0 := HD.out.grown.size
     clear hy0
     refine wpAnyH_take (i := 0) (oi := { dst := some 13, op := Op.move (Operand.tmp 3), type := 26, pos := _, after := #[], guard := none }) (v := ?vk1_1) rfl (by kernel_rfl) (by kernel_rfl) (by kernel_rfl) (fun _ _ _ h => h) (Or.inl ⟨by rfl, ?yk1_1⟩) (by assumption) ?rk1_1
     case yk1_1 => (intro w' hSw; (try dsimp only at hSw); go_simp; (try with_reducible rfl))
     (try simp only [Act.put, List.setIfInBounds_toArray, List.set_cons_zero, List.set_cons_succ])
     refine wpAnyH_take (i := 2) (oi := { dst := some 15, op := Op.move (Operand.tmp 4), type := 3, pos := _, after := #[], guard := none }) (v := ?vk1_2) rfl (by kernel_rfl) (by kernel_rfl) (by kernel_rfl) (fun _ _ _ h => h) (Or.inl ⟨by rfl, ?yk1_2⟩) (by assumption) ?rk1_2
     case yk1_2 => (intro w' hSw; (try dsimp only at hSw); go_simp; (try with_reducible rfl))
     (try simp only [Act.put, List.setIfInBounds_toArray, List.set_cons_zero, List.set_cons_succ])
     refine wpAnyH_take (i := 5) (oi := { dst := some 18, op := Op.move (Operand.tmp 0), type := 64, pos := _, after := #[], guard := none }) (v := ?vk1_3) rfl (by kernel_rfl) (by kernel_rfl) (by kernel_rfl) (fun _ _ _ h => h) (Or.inl ⟨by rfl, ?yk1_3⟩) (by assumption) ?rk1_3
     case yk1_3 => (intro w' hSw; (try dsimp only at hSw); go_simp; (try with_reducible rfl))
     (try simp only [Act.put, List.setIfInBounds_toArray, List.set_cons_zero, List.set_cons_succ])
     refine wpAnyH_ready (rs := [1, 6]) (by kernel_rfl) (by simp) ?_
     refine AllReadyH.cons (o := { dst := some 14, op := Op.buildSlice 125 3 #[(0, Operand.const (Value.string { data := #[67, 79, 76, 79, 82] })), (1, Operand.const (Value.string { data := #[83, 73, 90, 69] })), (2, Operand.const (Value.string { data := #[76, 73, 68] }))], type := 125, pos := _, after := #[], guard := none }) rfl (fun K hK => ?_) ?_
     · skip
       go_simp
       refine hK.out _ _ ?_ (fun hHeld => ?_)
       · trivial
       clear hK K
       (try simp only [Act.put, List.setIfInBounds_toArray, List.set_cons_zero, List.set_cons_succ])
       have HD := Lib.hid (HD.out.al hlt (.cells #[.string { data := #[67, 79, 76, 79, 82] }, .string { data := #[83, 73, 90, 69] }, .string { data := #[76, 73, 68] }] 9))
       have HO := Lib.hid (HO.out.alloc (.cells #[.string { data := #[67, 79, 76, 79, 82] }, .string { data := #[83, 73, 90, 69] }, .string { data := #[76, 73, 68] }] 9))
       have HC := Lib.hid (HC.out.alloc (show B ≤ x0.heap.size by have := hsx0; omega) (.cells #[.string { data := #[67, 79, 76, 79, 82] }, .string { data := #[83, 73, 90, 69] }, .string { data := #[76, 73, 68] }] 9))
       have HN := heap_alloc_new x0 (.cells #[.string { data := #[67, 79, 76, 79, 82] }, .string { data := #[83, 73, 90, 69] }, .string { data := #[76, 73, 68] }] 9)
       have hsx1_4 := HD.out.grown.size
       generalize hyx1_4 : x0.alloc (.cells #[.string { data := #[67, 79, 76, 79, 82] }, .string { data := #[83, 73, 90, 69] }, .string { data := #[76, 73, 68] }] 9) = x1_4 at *
       clear hyx1_4
       refine wpAnyH_take (i := 3) (oi := { dst := some 16, op := Op.indexAddr 125 (Operand.tmp 14) (Operand.tmp 15), type := 0, pos := _, after := #[{ on := 1, ground := Ground.data }, { on := 2, ground := Ground.data }], guard := none }) (v := ?vk1_5) rfl (by kernel_rfl) (by kernel_rfl) (by kernel_rfl) (fun _ _ _ h => h) (Or.inl ⟨by rfl, ?yk1_5⟩) (by assumption) ?rk1_5
       case yk1_5 => (intro w' hSw; (try dsimp only at hSw); go_simp; (try with_reducible rfl))
       (try simp only [Act.put, List.setIfInBounds_toArray, List.set_cons_zero, List.set_cons_succ])
       refine wpAnyH_ready (rs := [4, 6]) (by kernel_rfl) (by simp) ?_
       refine AllReadyH.cons (o := { dst := some 17, op := Op.load 9 (Operand.tmp 16), type := 9, pos := _, after := #[{ on := 3, ground := Ground.data }], guard := none }) rfl (fun K hK => ?_) ?_
       · skip
         have hload := cell_of_row _ _ 1 _ _ _ HN
         go_simp
         refine hK.out _ _ ?_ (fun hHeld => ?_)
         · trivial
         clear hK K
         (try simp only [Act.put, List.setIfInBounds_toArray, List.set_cons_zero, List.set_cons_succ])
         clear hload
         refine wpAnyH_ready (rs := [6]) (by kernel_rfl) (by simp) ?_
         refine AllReadyH.cons (o := { dst := some 19, op := Op.buildSlice 125 3 #[(0, Operand.const (Value.string { data := #[88] })), (1, Operand.const (Value.string { data := #[89] })), (2, Operand.const (Value.string { data := #[90] }))], type := 125, pos := _, after := #[], guard := none }) rfl (fun K hK => ?_) AllReadyH.nil
         go_simp
         refine hK.out _ _ ?_ (fun hHeld => ?_)
         · trivial
         clear hK K
         (try simp only [Act.put, List.setIfInBounds_toArray, List.set_cons_zero, List.set_cons_succ])
         have HD := Lib.hid (HD.out.al hlt (.cells #[.string { data := #[88] }, .string { data := #[89] }, .string { data := #[90] }] 9))
         have HO := Lib.hid (HO.out.alloc (.cells #[.string { data := #[88] }, .string { data := #[89] }, .string { data := #[90] }] 9))
         have HC := Lib.hid (HC.out.alloc (show B ≤ x1_4.heap.size by have := hsx1_4; omega) (.cells #[.string { data := #[88] }, .string { data := #[89] }, .string { data := #[90] }] 9))
         have HN := blk_alloc HN (.cells #[.string { data := #[88] }, .string { data := #[89] }, .string { data := #[90] }] 9)
         have HV := heap_alloc_new x1_4 (.cells #[.string { data := #[88] }, .string { data := #[89] }, .string { data := #[90] }] 9)
         have hsx1_7 := HD.out.grown.size
         generalize hyx1_7 : x1_4.alloc (.cells #[.string { data := #[88] }, .string { data := #[89] }, .string { data := #[90] }] 9) = x1_7 at *
         clear hyx1_7
         refine wpAnyH_ready (rs := [7]) (by kernel_rfl) (by simp) ?_
         refine AllReadyH.cons (o := { dst := some 20, op := Op.call { callee := Callee.value (Operand.func 84), args := #[Operand.tmp 18, Operand.tmp 19], argTypes := #[64, 125] }, type := 9, pos := _, after := #[{ on := 5, ground := Ground.data }, { on := 6, ground := Ground.data }], guard := none }) rfl (fun K hK => ?_) AllReadyH.nil
         go_simp
         refine (l1_pick B b x1_4.heap.size 3 a n c _ hn HC.out HD.out.cur (by decide) (by decide) (by have := hsx1_7; omega) (by have := HD.out.grown.size; omega) (texts_of_row HV (by decide) (by decide) (by decide))).mono ?_
         rintro e x1_8 ⟨u, rfl, hu, hd⟩
         have HO := Lib.hid (own_hdC HO.out hd.grown hlt)
         have HC := Lib.hid (HC.out.below (hd.below (show B ≤ x1_7.heap.size by have := hsx1_7; omega)))
         have HD := Lib.hid (HD.out.trans hd)
         have hsx1_8 := HD.out.grown.size
         have HN := Drawn.blk hd HN (by omega)
         clear hd
         (try go_wp2_with fail)
         refine hK.out _ _ ?_ (fun hHeld => ?_)
         · trivial
         clear hK K
         (try simp only [Act.put, List.setIfInBounds_toArray, List.set_cons_zero, List.set_cons_succ])
         refine wpAnyH_take (i := 8) (oi := { dst := some 21, op := Op.build 108 #[(0, Operand.tmp 17), (1, Operand.tmp 20)], type := 108, pos := _, after := #[{ on := 4, ground := Ground.data }, { on := 7, ground := Ground.data }], guard := none }) (v := ?vk1_9) rfl (by kernel_rfl) (by kernel_rfl) (by kernel_rfl) (fun _ _ _ h => h) (Or.inl ⟨by rfl, ?yk1_9⟩) (by assumption) ?rk1_9
         case yk1_9 => (intro w' hSw; (try dsimp only at hSw); go_simp; (try with_reducible rfl))
         (try simp only [Act.put, List.setIfInBounds_toArray, List.set_cons_zero, List.set_cons_succ])
         refine wpAnyH_ready (rs := [9]) (by kernel_rfl) (by simp) ?_
         refine AllReadyH.cons (o := { dst := some 22, op := Op.buildSlice 26 1 #[(0, Operand.tmp 21)], type := 26, pos := _, after := #[{ on := 8, ground := Ground.data }], guard := none }) rfl (fun K hK => ?_) AllReadyH.nil
         go_simp
         refine hK.out _ _ ?_ (fun hHeld => ?_)
         · trivial
         clear hK K
         (try simp only [Act.put, List.setIfInBounds_toArray, List.set_cons_zero, List.set_cons_succ])
         refine wpAnyH_ready (rs := [10]) (by kernel_rfl) (by simp) ?_
         refine AllReadyH.cons (o := { dst := some 23, op := Op.call { callee := Callee.builtin Builtin.append, args := #[Operand.tmp 13, Operand.tmp 22], argTypes := #[26, 26] }, type := 26, pos := _, after := #[{ on := 0, ground := Ground.data }, { on := 9, ground := Ground.data }, { on := 7, ground := Ground.chain }], guard := none }) rfl (fun K hK => ?_) AllReadyH.nil
         refine step_append_ownL rfl (.tmp 13) (.tmp 22) 26 rfl w.heap.size 108 i0 (.agg #[.string ByteArray.empty, .string ByteArray.empty]) 2 32 Tryz.underlying26 hi0 hz0 hz1 hz2 rfl (by decide) (.slice (some ⟨g, 0, none⟩) ps.length q) ps.length (PK.cells ps) (by simp [Act.eval]) (HO.out.alloc _) ⟨x1_8.heap.size, 0, none⟩ 1 1 [.string { data := #[83, 73, 90, 69] }, .string u] (by simp [Act.eval]) rfl (newL2 _ _ _ _) (by intro z hz; simp at hz; rcases hz with rfl | rfl <;> rfl) (by unfold maxLen; omega) (by omega) (by have := hsx1_8; simp; omega) ?_
         intro v6 w6 hown hgrow
         obtain ⟨g6, c6, rfl⟩ := own_someL hown
         have HDF := Lib.hid ((HD.out.al hlt (.cells #[.string { data := #[83, 73, 90, 69] }, .string u] 108)).row hlt hgrow (fun j hj => (HO.out.lt j hj).1))
         have HOF : Hid (w6.ownsRow w.heap.size 108 2 (.slice (some ⟨g6, 0, none⟩) (ps.length + 1) c6) (ps.length + 1) (PK.cells (ps ++ [⟨{ data := #[83, 73, 90, 69] }, u⟩]))) := Lib.hid (by rw [← PK.cells_push]; exact hown)
         clear hown hgrow
         refine hK.out _ _ ?_ (fun hHeld => ?_)
         · trivial
         clear hK K
         (try simp only [Act.put, List.setIfInBounds_toArray, List.set_cons_zero, List.set_cons_succ])
         refine wpAnyH_take (i := 11) (oi := { dst := some 3, op := Op.assign (Operand.tmp 23), type := 26, pos := _, after := #[{ on := 10, ground := Ground.data }, { on := 10, ground := Ground.chain }, { on := 0, ground := Ground.phase }, { on := 1, ground := Ground.phase }, { on := 2, ground := Ground.phase }, { on := 3, ground := Ground.phase }, { on := 4, ground := Ground.phase }, { on := 5, ground := Ground.phase }, { on := 6, ground := Ground.phase }, { on := 7, ground := Ground.phase }, { on := 8, ground := Ground.phase }, { on := 9, ground := Ground.phase }, { on := 10, ground := Ground.phase }], guard := none }) (v := ?vk1_12) rfl (by kernel_rfl) (by kernel_rfl) (by kernel_rfl) (fun _ _ _ h => h) (Or.inl ⟨by rfl, ?yk1_12⟩) (by assumption) ?rk1_12
         case yk1_12 => (intro w' hSw; (try dsimp only at hSw); go_simp; (try with_reducible rfl))
         (try simp only [Act.put, List.setIfInBounds_toArray, List.set_cons_zero, List.set_cons_succ])
         refine wpAnyH_done (by kernel_rfl) ?_ _
         go_wp2_with fail
         go_roundw
         case rel => exact ⟨2, ps ++ [⟨{ data := #[83, 73, 90, 69] }, u⟩], g6, c6, rfl, by rw [List.length_append]; rfl, by decide, by rw [List.length_append, List.length_singleton]; omega, szp_push HZ.out (by decide) hu, by rw [List.length_append, List.length_singleton]; exact HOF, HDF⟩
         case measure => simp [intOf]
       refine AllReadyH.cons (o := { dst := some 19, op := Op.buildSlice 125 3 #[(0, Operand.const (Value.string { data := #[88] })), (1, Operand.const (Value.string { data := #[89] })), (2, Operand.const (Value.string { data := #[90] }))], type := 125, pos := _, after := #[], guard := none }) rfl (fun K hK => ?_) AllReadyH.nil
       go_simp
       refine hK.out _ _ ?_ (fun hHeld => ?_)
       · trivial
       clear hK K
       (try simp only [Act.put, List.setIfInBounds_toArray, List.set_cons_zero, List.set_cons_succ])
       have HD := Lib.hid (HD.out.al hlt (.cells #[.string { data := #[88] }, .string { data := #[89] }, .string { data := #[90] }] 9))
       have HO := Lib.hid (HO.out.alloc (.cells #[.string { data := #[88] }, .string { data := #[89] }, .string { data := #[90] }] 9))
       have HC := Lib.hid (HC.out.alloc (show B ≤ x1_4.heap.size by have := hsx1_4; omega) (.cells #[.string { data := #[88] }, .string { data := #[89] }, .string { data := #[90] }] 9))
       have HN := blk_alloc HN (.cells #[.string { data := #[88] }, .string { data := #[89] }, .string { data := #[90] }] 9)
       have HV := heap_alloc_new x1_4 (.cells #[.string { data := #[88] }, .string { data := #[89] }, .string { data := #[90] }] 9)
       have hsx1_13 := HD.out.grown.size
       generalize hyx1_13 : x1_4.alloc (.cells #[.string { data := #[88] }, .string { data := #[89] }, .string { data := #[90] }] 9) = x1_13 at *
       clear hyx1_13
       refine wpAnyH_ready (rs := [4, 7]) (by kernel_rfl) (by simp) ?_
       refine AllReadyH.cons (o := { dst := some 17, op := Op.load 9 (Operand.tmp 16), type := 9, pos := _, after := #[{ on := 3, ground := Ground.data }], guard := none }) rfl (fun K hK => ?_) ?_
       · skip
         have hload := cell_of_row _ _ 1 _ _ _ HN
         go_simp
         refine hK.out _ _ ?_ (fun hHeld => ?_)
         · trivial
         clear hK K
         (try simp only [Act.put, List.setIfInBounds_toArray, List.set_cons_zero, List.set_cons_succ])
         clear hload
         refine wpAnyH_ready (rs := [7]) (by kernel_rfl) (by simp) ?_
         refine AllReadyH.cons (o := { dst := some 20, op := Op.call { callee := Callee.value (Operand.func 84), args := #[Operand.tmp 18, Operand.tmp 19], argTypes := #[64, 125] }, type := 9, pos := _, after := #[{ on := 5, ground := Ground.data }, { on := 6, ground := Ground.data }], guard := none }) rfl (fun K hK => ?_) AllReadyH.nil
         go_simp
         refine (l1_pick B b x1_4.heap.size 3 a n c _ hn HC.out HD.out.cur (by decide) (by decide) (by have := hsx1_13; omega) (by have := HD.out.grown.size; omega) (texts_of_row HV (by decide) (by decide) (by decide))).mono ?_
         rintro e x1_15 ⟨u, rfl, hu, hd⟩
         have HO := Lib.hid (own_hdC HO.out hd.grown hlt)
         have HC := Lib.hid (HC.out.below (hd.below (show B ≤ x1_13.heap.size by have := hsx1_13; omega)))
         have HD := Lib.hid (HD.out.trans hd)
         have hsx1_15 := HD.out.grown.size
         have HN := Drawn.blk hd HN (by omega)
         clear hd
         (try go_wp2_with fail)
         refine hK.out _ _ ?_ (fun hHeld => ?_)
         · trivial
         clear hK K
         (try simp only [Act.put, List.setIfInBounds_toArray, List.set_cons_zero, List.set_cons_succ])
         refine wpAnyH_take (i := 8) (oi := { dst := some 21, op := Op.build 108 #[(0, Operand.tmp 17), (1, Operand.tmp 20)], type := 108, pos := _, after := #[{ on := 4, ground := Ground.data }, { on := 7, ground := Ground.data }], guard := none }) (v := ?vk1_16) rfl (by kernel_rfl) (by kernel_rfl) (by kernel_rfl) (fun _ _ _ h => h) (Or.inl ⟨by rfl, ?yk1_16⟩) (by assumption) ?rk1_16
         case yk1_16 => (intro w' hSw; (try dsimp only at hSw); go_simp; (try with_reducible rfl))
         (try simp only [Act.put, List.setIfInBounds_toArray, List.set_cons_zero, List.set_cons_succ])
         refine wpAnyH_ready (rs := [9]) (by kernel_rfl) (by simp) ?_
         refine AllReadyH.cons (o := { dst := some 22, op := Op.buildSlice 26 1 #[(0, Operand.tmp 21)], type := 26, pos := _, after := #[{ on := 8, ground := Ground.data }], guard := none }) rfl (fun K hK => ?_) AllReadyH.nil
         go_simp
         refine hK.out _ _ ?_ (fun hHeld => ?_)
         · trivial
         clear hK K
         (try simp only [Act.put, List.setIfInBounds_toArray, List.set_cons_zero, List.set_cons_succ])
         refine wpAnyH_ready (rs := [10]) (by kernel_rfl) (by simp) ?_
         refine AllReadyH.cons (o := { dst := some 23, op := Op.call { callee := Callee.builtin Builtin.append, args := #[Operand.tmp 13, Operand.tmp 22], argTypes := #[26, 26] }, type := 26, pos := _, after := #[{ on := 0, ground := Ground.data }, { on := 9, ground := Ground.data }, { on := 7, ground := Ground.chain }], guard := none }) rfl (fun K hK => ?_) AllReadyH.nil
         refine step_append_ownL rfl (.tmp 13) (.tmp 22) 26 rfl w.heap.size 108 i0 (.agg #[.string ByteArray.empty, .string ByteArray.empty]) 2 32 Tryz.underlying26 hi0 hz0 hz1 hz2 rfl (by decide) (.slice (some ⟨g, 0, none⟩) ps.length q) ps.length (PK.cells ps) (by simp [Act.eval]) (HO.out.alloc _) ⟨x1_15.heap.size, 0, none⟩ 1 1 [.string { data := #[83, 73, 90, 69] }, .string u] (by simp [Act.eval]) rfl (newL2 _ _ _ _) (by intro z hz; simp at hz; rcases hz with rfl | rfl <;> rfl) (by unfold maxLen; omega) (by omega) (by have := hsx1_15; simp; omega) ?_
         intro v6 w6 hown hgrow
         obtain ⟨g6, c6, rfl⟩ := own_someL hown
         have HDF := Lib.hid ((HD.out.al hlt (.cells #[.string { data := #[83, 73, 90, 69] }, .string u] 108)).row hlt hgrow (fun j hj => (HO.out.lt j hj).1))
         have HOF : Hid (w6.ownsRow w.heap.size 108 2 (.slice (some ⟨g6, 0, none⟩) (ps.length + 1) c6) (ps.length + 1) (PK.cells (ps ++ [⟨{ data := #[83, 73, 90, 69] }, u⟩]))) := Lib.hid (by rw [← PK.cells_push]; exact hown)
         clear hown hgrow
         refine hK.out _ _ ?_ (fun hHeld => ?_)
         · trivial
         clear hK K
         (try simp only [Act.put, List.setIfInBounds_toArray, List.set_cons_zero, List.set_cons_succ])
         refine wpAnyH_take (i := 11) (oi := { dst := some 3, op := Op.assign (Operand.tmp 23), type := 26, pos := _, after := #[{ on := 10, ground := Ground.data }, { on := 10, ground := Ground.chain }, { on := 0, ground := Ground.phase }, { on := 1, ground := Ground.phase }, { on := 2, ground := Ground.phase }, { on := 3, ground := Ground.phase }, { on := 4, ground := Ground.phase }, { on := 5, ground := Ground.phase }, { on := 6, ground := Ground.phase }, { on := 7, ground := Ground.phase }, { on := 8, ground := Ground.phase }, { on := 9, ground := Ground.phase }, { on := 10, ground := Ground.phase }], guard := none }) (v := ?vk1_19) rfl (by kernel_rfl) (by kernel_rfl) (by kernel_rfl) (fun _ _ _ h => h) (Or.inl ⟨by rfl, ?yk1_19⟩) (by assumption) ?rk1_19
         case yk1_19 => (intro w' hSw; (try dsimp only at hSw); go_simp; (try with_reducible rfl))
         (try simp only [Act.put, List.setIfInBounds_toArray, List.set_cons_zero, List.set_cons_succ])
         refine wpAnyH_done (by kernel_rfl) ?_ _
         go_wp2_with fail
         go_roundw
         case rel => exact ⟨2, ps ++ [⟨{ data := #[83, 73, 90, 69] }, u⟩], g6, c6, rfl, by rw [List.length_append]; rfl, by decide, by rw [List.length_append, List.length_singleton]; omega, szp_push HZ.out (by decide) hu, by rw [List.length_append, List.length_singleton]; exact HOF, HDF⟩
         case measure => simp [intOf]
       refine AllReadyH.cons (o := { dst := some 20, op := Op.call { callee := Callee.value (Operand.func 84), args := #[Operand.tmp 18, Operand.tmp 19], argTypes := #[64, 125] }, type := 9, pos := _, after := #[{ on := 5, ground := Ground.data }, { on := 6, ground := Ground.data }], guard := none }) rfl (fun K hK => ?_) AllReadyH.nil
       go_simp
       refine (l1_pick B b x1_4.heap.size 3 a n c _ hn HC.out HD.out.cur (by decide) (by decide) (by have := hsx1_13; omega) (by have := HD.out.grown.size; omega) (texts_of_row HV (by decide) (by decide) (by decide))).mono ?_
       rintro e x1_20 ⟨u, rfl, hu, hd⟩
       have HO := Lib.hid (own_hdC HO.out hd.grown hlt)
       have HC := Lib.hid (HC.out.below (hd.below (show B ≤ x1_13.heap.size by have := hsx1_13; omega)))
       have HD := Lib.hid (HD.out.trans hd)
       have hsx1_20 := HD.out.grown.size
       have HN := Drawn.blk hd HN (by omega)
       clear hd
       (try go_wp2_with fail)
       refine hK.out _ _ ?_ (fun hHeld => ?_)
       · trivial
       clear hK K
       (try simp only [Act.put, List.setIfInBounds_toArray, List.set_cons_zero, List.set_cons_succ])
       refine wpAnyH_ready (rs := [4]) (by kernel_rfl) (by simp) ?_
       refine AllReadyH.cons (o := { dst := some 17, op := Op.load 9 (Operand.tmp 16), type := 9, pos := _, after := #[{ on := 3, ground := Ground.data }], guard := none }) rfl (fun K hK => ?_) AllReadyH.nil
       have hload := cell_of_row _ _ 1 _ _ _ HN
       go_simp
       refine hK.out _ _ ?_ (fun hHeld => ?_)
       · trivial
       clear hK K
       (try simp only [Act.put, List.setIfInBounds_toArray, List.set_cons_zero, List.set_cons_succ])
       clear hload
       refine wpAnyH_take (i := 8) (oi := { dst := some 21, op := Op.build 108 #[(0, Operand.tmp 17), (1, Operand.tmp 20)], type := 108, pos := _, after := #[{ on := 4, ground := Ground.data }, { on := 7, ground := Ground.data }], guard := none }) (v := ?vk1_22) rfl (by kernel_rfl) (by kernel_rfl) (by kernel_rfl) (fun _ _ _ h => h) (Or.inl ⟨by rfl, ?yk1_22⟩) (by assumption) ?rk1_22
       case yk1_22 => (intro w' hSw; (try dsimp only at hSw); go_simp; (try with_reducible rfl))
       (try simp only [Act.put, List.setIfInBounds_toArray, List.set_cons_zero, List.set_cons_succ])
       refine wpAnyH_ready (rs := [9]) (by kernel_rfl) (by simp) ?_
       refine AllReadyH.cons (o := { dst := some 22, op := Op.buildSlice 26 1 #[(0, Operand.tmp 21)], type := 26, pos := _, after := #[{ on := 8, ground := Ground.data }], guard := none }) rfl (fun K hK => ?_) AllReadyH.nil
       go_simp
       refine hK.out _ _ ?_ (fun hHeld => ?_)
       · trivial
       clear hK K
       (try simp only [Act.put, List.setIfInBounds_toArray, List.set_cons_zero, List.set_cons_succ])
       refine wpAnyH_ready (rs := [10]) (by kernel_rfl) (by simp) ?_
       refine AllReadyH.cons (o := { dst := some 23, op := Op.call { callee := Callee.builtin Builtin.append, args := #[Operand.tmp 13, Operand.tmp 22], argTypes := #[26, 26] }, type := 26, pos := _, after := #[{ on := 0, ground := Ground.data }, { on := 9, ground := Ground.data }, { on := 7, ground := Ground.chain }], guard := none }) rfl (fun K hK => ?_) AllReadyH.nil
       refine step_append_ownL rfl (.tmp 13) (.tmp 22) 26 rfl w.heap.size 108 i0 (.agg #[.string ByteArray.empty, .string ByteArray.empty]) 2 32 Tryz.underlying26 hi0 hz0 hz1 hz2 rfl (by decide) (.slice (some ⟨g, 0, none⟩) ps.length q) ps.length (PK.cells ps) (by simp [Act.eval]) (HO.out.alloc _) ⟨x1_20.heap.size, 0, none⟩ 1 1 [.string { data := #[83, 73, 90, 69] }, .string u] (by simp [Act.eval]) rfl (newL2 _ _ _ _) (by intro z hz; simp at hz; rcases hz with rfl | rfl <;> rfl) (by unfold maxLen; omega) (by omega) (by have := hsx1_20; simp; omega) ?_
       intro v6 w6 hown hgrow
       obtain ⟨g6, c6, rfl⟩ := own_someL hown
       have HDF := Lib.hid ((HD.out.al hlt (.cells #[.string { data := #[83, 73, 90, 69] }, .string u] 108)).row hlt hgrow (fun j hj => (HO.out.lt j hj).1))
       have HOF : Hid (w6.ownsRow w.heap.size 108 2 (.slice (some ⟨g6, 0, none⟩) (ps.length + 1) c6) (ps.length + 1) (PK.cells (ps ++ [⟨{ data := #[83, 73, 90, 69] }, u⟩]))) := Lib.hid (by rw [← PK.cells_push]; exact hown)
       clear hown hgrow
       refine hK.out _ _ ?_ (fun hHeld => ?_)
       · trivial
       clear hK K
       (try simp only [Act.put, List.setIfInBounds_toArray, List.set_cons_zero, List.set_cons_succ])
       refine wpAnyH_take (i := 11) (oi := { dst := some 3, op := Op.assign (Operand.tmp 23), type := 26, pos := _, after := #[{ on := 10, ground := Ground.data }, { on := 10, ground := Ground.chain }, { on := 0, ground := Ground.phase }, { on := 1, ground := Ground.phase }, { on := 2, ground := Ground.phase }, { on := 3, ground := Ground.phase }, { on := 4, ground := Ground.phase }, { on := 5, ground := Ground.phase }, { on := 6, ground := Ground.phase }, { on := 7, ground := Ground.phase }, { on := 8, ground := Ground.phase }, { on := 9, ground := Ground.phase }, { on := 10, ground := Ground.phase }], guard := none }) (v := ?vk1_25) rfl (by kernel_rfl) (by kernel_rfl) (by kernel_rfl) (fun _ _ _ h => h) (Or.inl ⟨by rfl, ?yk1_25⟩) (by assumption) ?rk1_25
       case yk1_25 => (intro w' hSw; (try dsimp only at hSw); go_simp; (try with_reducible rfl))
       (try simp only [Act.put, List.setIfInBounds_toArray, List.set_cons_zero, List.set_cons_succ])
       refine wpAnyH_done (by kernel_rfl) ?_ _
       go_wp2_with fail
       go_roundw
       case rel => exact ⟨2, ps ++ [⟨{ data := #[83, 73, 90, 69] }, u⟩], g6, c6, rfl, by rw [List.length_append]; rfl, by decide, by rw [List.length_append, List.length_singleton]; omega, szp_push HZ.out (by decide) hu, by rw [List.length_append, List.length_singleton]; exact HOF, HDF⟩
       case measure => simp [intOf]
     refine AllReadyH.cons (o := { dst := some 19, op := Op.buildSlice 125 3 #[(0, Operand.const (Value.string { data := #[88] })), (1, Operand.const (Value.string { data := #[89] })), (2, Operand.const (Value.string { data := #[90] }))], type := 125, pos := _, after := #[], guard := none }) rfl (fun K hK => ?_) AllReadyH.nil
     go_simp
     refine hK.out _ _ ?_ (fun hHeld => ?_)
     · trivial
     clear hK K
     (try simp only [Act.put, List.setIfInBounds_toArray, List.set_cons_zero, List.set_cons_succ])
     have HD := Lib.hid (HD.out.al hlt (.cells #[.string { data := #[88] }, .string { data := #[89] }, .string { data := #[90] }] 9))
     have HO := Lib.hid (HO.out.alloc (.cells #[.string { data := #[88] }, .string { data := #[89] }, .string { data := #[90] }] 9))
     have HC := Lib.hid (HC.out.alloc (show B ≤ x0.heap.size by have := hsx0; omega) (.cells #[.string { data := #[88] }, .string { data := #[89] }, .string { data := #[90] }] 9))
     have HV := heap_alloc_new x0 (.cells #[.string { data := #[88] }, .string { data := #[89] }, .string { data := #[90] }] 9)
     have hsx1_26 := HD.out.grown.size
     generalize hyx1_26 : x0.alloc (.cells #[.string { data := #[88] }, .string { data := #[89] }, .string { data := #[90] }] 9) = x1_26 at *
     clear hyx1_26
     refine wpAnyH_ready (rs := [1, 7]) (by kernel_rfl) (by simp) ?_
     refine AllReadyH.cons (o := { dst := some 14, op := Op.buildSlice 125 3 #[(0, Operand.const (Value.string { data := #[67, 79, 76, 79, 82] })), (1, Operand.const (Value.string { data := #[83, 73, 90, 69] })), (2, Operand.const (Value.string { data := #[76, 73, 68] }))], type := 125, pos := _, after := #[], guard := none }) rfl (fun K hK => ?_) ?_
     · skip
       go_simp
       refine hK.out _ _ ?_ (fun hHeld => ?_)
       · trivial
       clear hK K
       (try simp only [Act.put, List.setIfInBounds_toArray, List.set_cons_zero, List.set_cons_succ])
       have HD := Lib.hid (HD.out.al hlt (.cells #[.string { data := #[67, 79, 76, 79, 82] }, .string { data := #[83, 73, 90, 69] }, .string { data := #[76, 73, 68] }] 9))
       have HO := Lib.hid (HO.out.alloc (.cells #[.string { data := #[67, 79, 76, 79, 82] }, .string { data := #[83, 73, 90, 69] }, .string { data := #[76, 73, 68] }] 9))
       have HC := Lib.hid (HC.out.alloc (show B ≤ x1_26.heap.size by have := hsx1_26; omega) (.cells #[.string { data := #[67, 79, 76, 79, 82] }, .string { data := #[83, 73, 90, 69] }, .string { data := #[76, 73, 68] }] 9))
       have HV := blk_alloc HV (.cells #[.string { data := #[67, 79, 76, 79, 82] }, .string { data := #[83, 73, 90, 69] }, .string { data := #[76, 73, 68] }] 9)
       have HN := heap_alloc_new x1_26 (.cells #[.string { data := #[67, 79, 76, 79, 82] }, .string { data := #[83, 73, 90, 69] }, .string { data := #[76, 73, 68] }] 9)
       have hsx1_27 := HD.out.grown.size
       generalize hyx1_27 : x1_26.alloc (.cells #[.string { data := #[67, 79, 76, 79, 82] }, .string { data := #[83, 73, 90, 69] }, .string { data := #[76, 73, 68] }] 9) = x1_27 at *
       clear hyx1_27
       refine wpAnyH_take (i := 3) (oi := { dst := some 16, op := Op.indexAddr 125 (Operand.tmp 14) (Operand.tmp 15), type := 0, pos := _, after := #[{ on := 1, ground := Ground.data }, { on := 2, ground := Ground.data }], guard := none }) (v := ?vk1_28) rfl (by kernel_rfl) (by kernel_rfl) (by kernel_rfl) (fun _ _ _ h => h) (Or.inl ⟨by rfl, ?yk1_28⟩) (by assumption) ?rk1_28
       case yk1_28 => (intro w' hSw; (try dsimp only at hSw); go_simp; (try with_reducible rfl))
       (try simp only [Act.put, List.setIfInBounds_toArray, List.set_cons_zero, List.set_cons_succ])
       refine wpAnyH_ready (rs := [4, 7]) (by kernel_rfl) (by simp) ?_
       refine AllReadyH.cons (o := { dst := some 17, op := Op.load 9 (Operand.tmp 16), type := 9, pos := _, after := #[{ on := 3, ground := Ground.data }], guard := none }) rfl (fun K hK => ?_) ?_
       · skip
         have hload := cell_of_row _ _ 1 _ _ _ HN
         go_simp
         refine hK.out _ _ ?_ (fun hHeld => ?_)
         · trivial
         clear hK K
         (try simp only [Act.put, List.setIfInBounds_toArray, List.set_cons_zero, List.set_cons_succ])
         clear hload
         refine wpAnyH_ready (rs := [7]) (by kernel_rfl) (by simp) ?_
         refine AllReadyH.cons (o := { dst := some 20, op := Op.call { callee := Callee.value (Operand.func 84), args := #[Operand.tmp 18, Operand.tmp 19], argTypes := #[64, 125] }, type := 9, pos := _, after := #[{ on := 5, ground := Ground.data }, { on := 6, ground := Ground.data }], guard := none }) rfl (fun K hK => ?_) AllReadyH.nil
         go_simp
         refine (l1_pick B b x0.heap.size 3 a n c _ hn HC.out HD.out.cur (by decide) (by decide) (by have := hsx1_27; omega) (by have := HD.out.grown.size; omega) (texts_of_row HV (by decide) (by decide) (by decide))).mono ?_
         rintro e x1_30 ⟨u, rfl, hu, hd⟩
         have HO := Lib.hid (own_hdC HO.out hd.grown hlt)
         have HC := Lib.hid (HC.out.below (hd.below (show B ≤ x1_27.heap.size by have := hsx1_27; omega)))
         have HD := Lib.hid (HD.out.trans hd)
         have hsx1_30 := HD.out.grown.size
         have HN := Drawn.blk hd HN (by omega)
         clear hd
         (try go_wp2_with fail)
         refine hK.out _ _ ?_ (fun hHeld => ?_)
         · trivial
         clear hK K
         (try simp only [Act.put, List.setIfInBounds_toArray, List.set_cons_zero, List.set_cons_succ])
         refine wpAnyH_take (i := 8) (oi := { dst := some 21, op := Op.build 108 #[(0, Operand.tmp 17), (1, Operand.tmp 20)], type := 108, pos := _, after := #[{ on := 4, ground := Ground.data }, { on := 7, ground := Ground.data }], guard := none }) (v := ?vk1_31) rfl (by kernel_rfl) (by kernel_rfl) (by kernel_rfl) (fun _ _ _ h => h) (Or.inl ⟨by rfl, ?yk1_31⟩) (by assumption) ?rk1_31
         case yk1_31 => (intro w' hSw; (try dsimp only at hSw); go_simp; (try with_reducible rfl))
         (try simp only [Act.put, List.setIfInBounds_toArray, List.set_cons_zero, List.set_cons_succ])
         refine wpAnyH_ready (rs := [9]) (by kernel_rfl) (by simp) ?_
         refine AllReadyH.cons (o := { dst := some 22, op := Op.buildSlice 26 1 #[(0, Operand.tmp 21)], type := 26, pos := _, after := #[{ on := 8, ground := Ground.data }], guard := none }) rfl (fun K hK => ?_) AllReadyH.nil
         go_simp
         refine hK.out _ _ ?_ (fun hHeld => ?_)
         · trivial
         clear hK K
         (try simp only [Act.put, List.setIfInBounds_toArray, List.set_cons_zero, List.set_cons_succ])
         refine wpAnyH_ready (rs := [10]) (by kernel_rfl) (by simp) ?_
         refine AllReadyH.cons (o := { dst := some 23, op := Op.call { callee := Callee.builtin Builtin.append, args := #[Operand.tmp 13, Operand.tmp 22], argTypes := #[26, 26] }, type := 26, pos := _, after := #[{ on := 0, ground := Ground.data }, { on := 9, ground := Ground.data }, { on := 7, ground := Ground.chain }], guard := none }) rfl (fun K hK => ?_) AllReadyH.nil
         refine step_append_ownL rfl (.tmp 13) (.tmp 22) 26 rfl w.heap.size 108 i0 (.agg #[.string ByteArray.empty, .string ByteArray.empty]) 2 32 Tryz.underlying26 hi0 hz0 hz1 hz2 rfl (by decide) (.slice (some ⟨g, 0, none⟩) ps.length q) ps.length (PK.cells ps) (by simp [Act.eval]) (HO.out.alloc _) ⟨x1_30.heap.size, 0, none⟩ 1 1 [.string { data := #[83, 73, 90, 69] }, .string u] (by simp [Act.eval]) rfl (newL2 _ _ _ _) (by intro z hz; simp at hz; rcases hz with rfl | rfl <;> rfl) (by unfold maxLen; omega) (by omega) (by have := hsx1_30; simp; omega) ?_
         intro v6 w6 hown hgrow
         obtain ⟨g6, c6, rfl⟩ := own_someL hown
         have HDF := Lib.hid ((HD.out.al hlt (.cells #[.string { data := #[83, 73, 90, 69] }, .string u] 108)).row hlt hgrow (fun j hj => (HO.out.lt j hj).1))
         have HOF : Hid (w6.ownsRow w.heap.size 108 2 (.slice (some ⟨g6, 0, none⟩) (ps.length + 1) c6) (ps.length + 1) (PK.cells (ps ++ [⟨{ data := #[83, 73, 90, 69] }, u⟩]))) := Lib.hid (by rw [← PK.cells_push]; exact hown)
         clear hown hgrow
         refine hK.out _ _ ?_ (fun hHeld => ?_)
         · trivial
         clear hK K
         (try simp only [Act.put, List.setIfInBounds_toArray, List.set_cons_zero, List.set_cons_succ])
         refine wpAnyH_take (i := 11) (oi := { dst := some 3, op := Op.assign (Operand.tmp 23), type := 26, pos := _, after := #[{ on := 10, ground := Ground.data }, { on := 10, ground := Ground.chain }, { on := 0, ground := Ground.phase }, { on := 1, ground := Ground.phase }, { on := 2, ground := Ground.phase }, { on := 3, ground := Ground.phase }, { on := 4, ground := Ground.phase }, { on := 5, ground := Ground.phase }, { on := 6, ground := Ground.phase }, { on := 7, ground := Ground.phase }, { on := 8, ground := Ground.phase }, { on := 9, ground := Ground.phase }, { on := 10, ground := Ground.phase }], guard := none }) (v := ?vk1_34) rfl (by kernel_rfl) (by kernel_rfl) (by kernel_rfl) (fun _ _ _ h => h) (Or.inl ⟨by rfl, ?yk1_34⟩) (by assumption) ?rk1_34
         case yk1_34 => (intro w' hSw; (try dsimp only at hSw); go_simp; (try with_reducible rfl))
         (try simp only [Act.put, List.setIfInBounds_toArray, List.set_cons_zero, List.set_cons_succ])
         refine wpAnyH_done (by kernel_rfl) ?_ _
         go_wp2_with fail
         go_roundw
         case rel => exact ⟨2, ps ++ [⟨{ data := #[83, 73, 90, 69] }, u⟩], g6, c6, rfl, by rw [List.length_append]; rfl, by decide, by rw [List.length_append, List.length_singleton]; omega, szp_push HZ.out (by decide) hu, by rw [List.length_append, List.length_singleton]; exact HOF, HDF⟩
         case measure => simp [intOf]
       refine AllReadyH.cons (o := { dst := some 20, op := Op.call { callee := Callee.value (Operand.func 84), args := #[Operand.tmp 18, Operand.tmp 19], argTypes := #[64, 125] }, type := 9, pos := _, after := #[{ on := 5, ground := Ground.data }, { on := 6, ground := Ground.data }], guard := none }) rfl (fun K hK => ?_) AllReadyH.nil
       go_simp
       refine (l1_pick B b x0.heap.size 3 a n c _ hn HC.out HD.out.cur (by decide) (by decide) (by have := hsx1_27; omega) (by have := HD.out.grown.size; omega) (texts_of_row HV (by decide) (by decide) (by decide))).mono ?_
       rintro e x1_35 ⟨u, rfl, hu, hd⟩
       have HO := Lib.hid (own_hdC HO.out hd.grown hlt)
       have HC := Lib.hid (HC.out.below (hd.below (show B ≤ x1_27.heap.size by have := hsx1_27; omega)))
       have HD := Lib.hid (HD.out.trans hd)
       have hsx1_35 := HD.out.grown.size
       have HN := Drawn.blk hd HN (by omega)
       clear hd
       (try go_wp2_with fail)
       refine hK.out _ _ ?_ (fun hHeld => ?_)
       · trivial
       clear hK K
       (try simp only [Act.put, List.setIfInBounds_toArray, List.set_cons_zero, List.set_cons_succ])
       refine wpAnyH_ready (rs := [4]) (by kernel_rfl) (by simp) ?_
       refine AllReadyH.cons (o := { dst := some 17, op := Op.load 9 (Operand.tmp 16), type := 9, pos := _, after := #[{ on := 3, ground := Ground.data }], guard := none }) rfl (fun K hK => ?_) AllReadyH.nil
       have hload := cell_of_row _ _ 1 _ _ _ HN
       go_simp
       refine hK.out _ _ ?_ (fun hHeld => ?_)
       · trivial
       clear hK K
       (try simp only [Act.put, List.setIfInBounds_toArray, List.set_cons_zero, List.set_cons_succ])
       clear hload
       refine wpAnyH_take (i := 8) (oi := { dst := some 21, op := Op.build 108 #[(0, Operand.tmp 17), (1, Operand.tmp 20)], type := 108, pos := _, after := #[{ on := 4, ground := Ground.data }, { on := 7, ground := Ground.data }], guard := none }) (v := ?vk1_37) rfl (by kernel_rfl) (by kernel_rfl) (by kernel_rfl) (fun _ _ _ h => h) (Or.inl ⟨by rfl, ?yk1_37⟩) (by assumption) ?rk1_37
       case yk1_37 => (intro w' hSw; (try dsimp only at hSw); go_simp; (try with_reducible rfl))
       (try simp only [Act.put, List.setIfInBounds_toArray, List.set_cons_zero, List.set_cons_succ])
       refine wpAnyH_ready (rs := [9]) (by kernel_rfl) (by simp) ?_
       refine AllReadyH.cons (o := { dst := some 22, op := Op.buildSlice 26 1 #[(0, Operand.tmp 21)], type := 26, pos := _, after := #[{ on := 8, ground := Ground.data }], guard := none }) rfl (fun K hK => ?_) AllReadyH.nil
       go_simp
       refine hK.out _ _ ?_ (fun hHeld => ?_)
       · trivial
       clear hK K
       (try simp only [Act.put, List.setIfInBounds_toArray, List.set_cons_zero, List.set_cons_succ])
       refine wpAnyH_ready (rs := [10]) (by kernel_rfl) (by simp) ?_
       refine AllReadyH.cons (o := { dst := some 23, op := Op.call { callee := Callee.builtin Builtin.append, args := #[Operand.tmp 13, Operand.tmp 22], argTypes := #[26, 26] }, type := 26, pos := _, after := #[{ on := 0, ground := Ground.data }, { on := 9, ground := Ground.data }, { on := 7, ground := Ground.chain }], guard := none }) rfl (fun K hK => ?_) AllReadyH.nil
       refine step_append_ownL rfl (.tmp 13) (.tmp 22) 26 rfl w.heap.size 108 i0 (.agg #[.string ByteArray.empty, .string ByteArray.empty]) 2 32 Tryz.underlying26 hi0 hz0 hz1 hz2 rfl (by decide) (.slice (some ⟨g, 0, none⟩) ps.length q) ps.length (PK.cells ps) (by simp [Act.eval]) (HO.out.alloc _) ⟨x1_35.heap.size, 0, none⟩ 1 1 [.string { data := #[83, 73, 90, 69] }, .string u] (by simp [Act.eval]) rfl (newL2 _ _ _ _) (by intro z hz; simp at hz; rcases hz with rfl | rfl <;> rfl) (by unfold maxLen; omega) (by omega) (by have := hsx1_35; simp; omega) ?_
       intro v6 w6 hown hgrow
       obtain ⟨g6, c6, rfl⟩ := own_someL hown
       have HDF := Lib.hid ((HD.out.al hlt (.cells #[.string { data := #[83, 73, 90, 69] }, .string u] 108)).row hlt hgrow (fun j hj => (HO.out.lt j hj).1))
       have HOF : Hid (w6.ownsRow w.heap.size 108 2 (.slice (some ⟨g6, 0, none⟩) (ps.length + 1) c6) (ps.length + 1) (PK.cells (ps ++ [⟨{ data := #[83, 73, 90, 69] }, u⟩]))) := Lib.hid (by rw [← PK.cells_push]; exact hown)
       clear hown hgrow
       refine hK.out _ _ ?_ (fun hHeld => ?_)
       · trivial
       clear hK K
       (try simp only [Act.put, List.setIfInBounds_toArray, List.set_cons_zero, List.set_cons_succ])
       refine wpAnyH_take (i := 11) (oi := { dst := some 3, op := Op.assign (Operand.tmp 23), type := 26, pos := _, after := #[{ on := 10, ground := Ground.data }, { on := 10, ground := Ground.chain }, { on := 0, ground := Ground.phase }, { on := 1, ground := Ground.phase }, { on := 2, ground := Ground.phase }, { on := 3, ground := Ground.phase }, { on := 4, ground := Ground.phase }, { on := 5, ground := Ground.phase }, { on := 6, ground := Ground.phase }, { on := 7, ground := Ground.phase }, { on := 8, ground := Ground.phase }, { on := 9, ground := Ground.phase }, { on := 10, ground := Ground.phase }], guard := none }) (v := ?vk1_40) rfl (by kernel_rfl) (by kernel_rfl) (by kernel_rfl) (fun _ _ _ h => h) (Or.inl ⟨by rfl, ?yk1_40⟩) (by assumption) ?rk1_40
       case yk1_40 => (intro w' hSw; (try dsimp only at hSw); go_simp; (try with_reducible rfl))
       (try simp only [Act.put, List.setIfInBounds_toArray, List.set_cons_zero, List.set_cons_succ])
       refine wpAnyH_done (by kernel_rfl) ?_ _
       go_wp2_with fail
       go_roundw
       case rel => exact ⟨2, ps ++ [⟨{ data := #[83, 73, 90, 69] }, u⟩], g6, c6, rfl, by rw [List.length_append]; rfl, by decide, by rw [List.length_append, List.length_singleton]; omega, szp_push HZ.out (by decide) hu, by rw [List.length_append, List.length_singleton]; exact HOF, HDF⟩
       case measure => simp [intOf]
     refine AllReadyH.cons (o := { dst := some 20, op := Op.call { callee := Callee.value (Operand.func 84), args := #[Operand.tmp 18, Operand.tmp 19], argTypes := #[64, 125] }, type := 9, pos := _, after := #[{ on := 5, ground := Ground.data }, { on := 6, ground := Ground.data }], guard := none }) rfl (fun K hK => ?_) AllReadyH.nil
     go_simp
     refine (l1_pick B b x0.heap.size 3 a n c _ hn HC.out HD.out.cur (by decide) (by decide) (by have := hsx1_26; omega) (by have := HD.out.grown.size; omega) (texts_of_row HV (by decide) (by decide) (by decide))).mono ?_
     rintro e x1_41 ⟨u, rfl, hu, hd⟩
     have HO := Lib.hid (own_hdC HO.out hd.grown hlt)
     have HC := Lib.hid (HC.out.below (hd.below (show B ≤ x1_26.heap.size by have := hsx1_26; omega)))
     have HD := Lib.hid (HD.out.trans hd)
     have hsx1_41 := HD.out.grown.size
     clear hd
     (try go_wp2_with fail)
     refine hK.out _ _ ?_ (fun hHeld => ?_)
     · trivial
     clear hK K
     (try simp only [Act.put, List.setIfInBounds_toArray, List.set_cons_zero, List.set_cons_succ])
     refine wpAnyH_ready (rs := [1]) (by kernel_rfl) (by simp) ?_
     refine AllReadyH.cons (o := { dst := some 14, op := Op.buildSlice 125 3 #[(0, Operand.const (Value.string { data := #[67, 79, 76, 79, 82] })), (1, Operand.const (Value.string { data := #[83, 73, 90, 69] })), (2, Operand.const (Value.string { data := #[76, 73, 68] }))], type := 125, pos := _, after := #[], guard := none }) rfl (fun K hK => ?_) AllReadyH.nil
     go_simp
     refine hK.out _ _ ?_ (fun hHeld => ?_)
     · trivial
     clear hK K
     (try simp only [Act.put, List.setIfInBounds_toArray, List.set_cons_zero, List.set_cons_succ])
     have HD := Lib.hid (HD.out.al hlt (.cells #[.string { data := #[67, 79, 76, 79, 82] }, .string { data := #[83, 73, 90, 69] }, .string { data := #[76, 73, 68] }] 9))
     have HO := Lib.hid (HO.out.alloc (.cells #[.string { data := #[67, 79, 76, 79, 82] }, .string { data := #[83, 73, 90, 69] }, .string { data := #[76, 73, 68] }] 9))
     have HC := Lib.hid (HC.out.alloc (show B ≤ x1_41.heap.size by have := hsx1_41; omega) (.cells #[.string { data := #[67, 79, 76, 79, 82] }, .string { data := #[83, 73, 90, 69] }, .string { data := #[76, 73, 68] }] 9))
     have HV := blk_alloc HV (.cells #[.string { data := #[67, 79, 76, 79, 82] }, .string { data := #[83, 73, 90, 69] }, .string { data := #[76, 73, 68] }] 9)
     have HN := heap_alloc_new x1_41 (.cells #[.string { data := #[67, 79, 76, 79, 82] }, .string { data := #[83, 73, 90, 69] }, .string { data := #[76, 73, 68] }] 9)
     have hsx1_42 := HD.out.grown.size
     generalize hyx1_42 : x1_41.alloc (.cells #[.string { data := #[67, 79, 76, 79, 82] }, .string { data := #[83, 73, 90, 69] }, .string { data := #[76, 73, 68] }] 9) = x1_42 at *
     clear hyx1_42
     refine wpAnyH_take (i := 3) (oi := { dst := some 16, op := Op.indexAddr 125 (Operand.tmp 14) (Operand.tmp 15), type := 0, pos := _, after := #[{ on := 1, ground := Ground.data }, { on := 2, ground := Ground.data }], guard := none }) (v := ?vk1_43) rfl (by kernel_rfl) (by kernel_rfl) (by kernel_rfl) (fun _ _ _ h => h) (Or.inl ⟨by rfl, ?yk1_43⟩) (by assumption) ?rk1_43
     case yk1_43 => (intro w' hSw; (try dsimp only at hSw); go_simp; (try with_reducible rfl))
     (try simp only [Act.put, List.setIfInBounds_toArray, List.set_cons_zero, List.set_cons_succ])
     refine wpAnyH_ready (rs := [4]) (by kernel_rfl) (by simp) ?_
     refine AllReadyH.cons (o := { dst := some 17, op := Op.load 9 (Operand.tmp 16), type := 9, pos := _, after := #[{ on := 3, ground := Ground.data }], guard := none }) rfl (fun K hK => ?_) AllReadyH.nil
     have hload := cell_of_row _ _ 1 _ _ _ HN
     go_simp
     refine hK.out _ _ ?_ (fun hHeld => ?_)
     · trivial
     clear hK K
     (try simp only [Act.put, List.setIfInBounds_toArray, List.set_cons_zero, List.set_cons_succ])
     clear hload
     refine wpAnyH_take (i := 8) (oi := { dst := some 21, op := Op.build 108 #[(0, Operand.tmp 17), (1, Operand.tmp 20)], type := 108, pos := _, after := #[{ on := 4, ground := Ground.data }, { on := 7, ground := Ground.data }], guard := none }) (v := ?vk1_45) rfl (by kernel_rfl) (by kernel_rfl) (by kernel_rfl) (fun _ _ _ h => h) (Or.inl ⟨by rfl, ?yk1_45⟩) (by assumption) ?rk1_45
     case yk1_45 => (intro w' hSw; (try dsimp only at hSw); go_simp; (try with_reducible rfl))
     (try simp only [Act.put, List.setIfInBounds_toArray, List.set_cons_zero, List.set_cons_succ])
     refine wpAnyH_ready (rs := [9]) (by kernel_rfl) (by simp) ?_
     refine AllReadyH.cons (o := { dst := some 22, op := Op.buildSlice 26 1 #[(0, Operand.tmp 21)], type := 26, pos := _, after := #[{ on := 8, ground := Ground.data }], guard := none }) rfl (fun K hK => ?_) AllReadyH.nil
     go_simp
     refine hK.out _ _ ?_ (fun hHeld => ?_)
     · trivial
     clear hK K
     (try simp only [Act.put, List.setIfInBounds_toArray, List.set_cons_zero, List.set_cons_succ])
     refine wpAnyH_ready (rs := [10]) (by kernel_rfl) (by simp) ?_
     refine AllReadyH.cons (o := { dst := some 23, op := Op.call { callee := Callee.builtin Builtin.append, args := #[Operand.tmp 13, Operand.tmp 22], argTypes := #[26, 26] }, type := 26, pos := _, after := #[{ on := 0, ground := Ground.data }, { on := 9, ground := Ground.data }, { on := 7, ground := Ground.chain }], guard := none }) rfl (fun K hK => ?_) AllReadyH.nil
     refine step_append_ownL rfl (.tmp 13) (.tmp 22) 26 rfl w.heap.size 108 i0 (.agg #[.string ByteArray.empty, .string ByteArray.empty]) 2 32 Tryz.underlying26 hi0 hz0 hz1 hz2 rfl (by decide) (.slice (some ⟨g, 0, none⟩) ps.length q) ps.length (PK.cells ps) (by simp [Act.eval]) (HO.out.alloc _) ⟨x1_42.heap.size, 0, none⟩ 1 1 [.string { data := #[83, 73, 90, 69] }, .string u] (by simp [Act.eval]) rfl (newL2 _ _ _ _) (by intro z hz; simp at hz; rcases hz with rfl | rfl <;> rfl) (by unfold maxLen; omega) (by omega) (by have := hsx1_42; simp; omega) ?_
     intro v6 w6 hown hgrow
     obtain ⟨g6, c6, rfl⟩ := own_someL hown
     have HDF := Lib.hid ((HD.out.al hlt (.cells #[.string { data := #[83, 73, 90, 69] }, .string u] 108)).row hlt hgrow (fun j hj => (HO.out.lt j hj).1))
     have HOF : Hid (w6.ownsRow w.heap.size 108 2 (.slice (some ⟨g6, 0, none⟩) (ps.length + 1) c6) (ps.length + 1) (PK.cells (ps ++ [⟨{ data := #[83, 73, 90, 69] }, u⟩]))) := Lib.hid (by rw [← PK.cells_push]; exact hown)
     clear hown hgrow
     refine hK.out _ _ ?_ (fun hHeld => ?_)
     · trivial
     clear hK K
     (try simp only [Act.put, List.setIfInBounds_toArray, List.set_cons_zero, List.set_cons_succ])
     refine wpAnyH_take (i := 11) (oi := { dst := some 3, op := Op.assign (Operand.tmp 23), type := 26, pos := _, after := #[{ on := 10, ground := Ground.data }, { on := 10, ground := Ground.chain }, { on := 0, ground := Ground.phase }, { on := 1, ground := Ground.phase }, { on := 2, ground := Ground.phase }, { on := 3, ground := Ground.phase }, { on := 4, ground := Ground.phase }, { on := 5, ground := Ground.phase }, { on := 6, ground := Ground.phase }, { on := 7, ground := Ground.phase }, { on := 8, ground := Ground.phase }, { on := 9, ground := Ground.phase }, { on := 10, ground := Ground.phase }], guard := none }) (v := ?vk1_48) rfl (by kernel_rfl) (by kernel_rfl) (by kernel_rfl) (fun _ _ _ h => h) (Or.inl ⟨by rfl, ?yk1_48⟩) (by assumption) ?rk1_48
     case yk1_48 => (intro w' hSw; (try dsimp only at hSw); go_simp; (try with_reducible rfl))
     (try simp only [Act.put, List.setIfInBounds_toArray, List.set_cons_zero, List.set_cons_succ])
     refine wpAnyH_done (by kernel_rfl) ?_ _
     go_wp2_with fail
     go_roundw
     case rel => exact ⟨2, ps ++ [⟨{ data := #[83, 73, 90, 69] }, u⟩], g6, c6, rfl, by rw [List.length_append]; rfl, by decide, by rw [List.length_append, List.length_singleton]; omega, szp_push HZ.out (by decide) hu, by rw [List.length_append, List.length_singleton]; exact HOF, HDF⟩
     case measure => simp [intOf]
   · go_upto_region 6 with fail
     have HD := Lib.hid (HD.out.dr hlt)
     have HO : Hid (w2.drew.ownsRow w.heap.size 108 2 (.slice (some ⟨g, 0, none⟩) ps.length q) ps.length (PK.cells ps)) := Lib.hid HO.out
     have HC : Hid (CodeAt B w2.drew a n) := Lib.hid HC.out
     refine wp_region_held_drew (S := fun _ => True) (by kernel_rfl) trivial (fun hHeld => ?_)
     generalize hy0 : w2.drew = x0 at *
     have hsx0 := HD.out.grown.size
     clear hy0
     refine wpAnyH_take (i := 0) (oi := { dst := some 13, op := Op.move (Operand.tmp 3), type := 26, pos := _, after := #[], guard := none }) (v := ?vk2_1) rfl (by kernel_rfl) (by kernel_rfl) (by kernel_rfl) (fun _ _ _ h => h) (Or.inl ⟨by rfl, ?yk2_1⟩) (by assumption) ?rk2_1
     case yk2_1 => (intro w' hSw; (try dsimp only at hSw); go_simp; (try with_reducible rfl))
     (try simp only [Act.put, List.setIfInBounds_toArray, List.set_cons_zero, List.set_cons_succ])
     refine wpAnyH_take (i := 2) (oi := { dst := some 15, op := Op.move (Operand.tmp 4), type := 3, pos := _, after := #[], guard := none }) (v := ?vk2_2) rfl (by kernel_rfl) (by kernel_rfl) (by kernel_rfl) (fun _ _ _ h => h) (Or.inl ⟨by rfl, ?yk2_2⟩) (by assumption) ?rk2_2
     case yk2_2 => (intro w' hSw; (try dsimp only at hSw); go_simp; (try with_reducible rfl))
     (try simp only [Act.put, List.setIfInBounds_toArray, List.set_cons_zero, List.set_cons_succ])
     refine wpAnyH_take (i := 5) (oi := { dst := some 18, op := Op.move (Operand.tmp 0), type := 64, pos := _, after := #[], guard := none }) (v := ?vk2_3) rfl (by kernel_rfl) (by kernel_rfl) (by kernel_rfl) (fun _ _ _ h => h) (Or.inl ⟨by rfl, ?yk2_3⟩) (by assumption) ?rk2_3
     case yk2_3 => (intro w' hSw; (try dsimp only at hSw); go_simp; (try with_reducible rfl))
     (try simp only [Act.put, List.setIfInBounds_toArray, List.set_cons_zero, List.set_cons_succ])
     refine wpAnyH_ready (rs := [1, 6]) (by kernel_rfl) (by simp) ?_
     refine AllReadyH.cons (o := { dst := some 14, op := Op.buildSlice 125 3 #[(0, Operand.const (Value.string { data := #[67, 79, 76, 79, 82] })), (1, Operand.const (Value.string { data := #[83, 73, 90, 69] })), (2, Operand.const (Value.string { data := #[76, 73, 68] }))], type := 125, pos := _, after := #[], guard := none }) rfl (fun K hK => ?_) ?_
     · skip
       go_simp
       refine hK.out _ _ ?_ (fun hHeld => ?_)
       · trivial
       clear hK K
       (try simp only [Act.put, List.setIfInBounds_toArray, List.set_cons_zero, List.set_cons_succ])
       have HD := Lib.hid (HD.out.al hlt (.cells #[.string { data := #[67, 79, 76, 79, 82] }, .string { data := #[83, 73, 90, 69] }, .string { data := #[76, 73, 68] }] 9))
       have HO := Lib.hid (HO.out.alloc (.cells #[.string { data := #[67, 79, 76, 79, 82] }, .string { data := #[83, 73, 90, 69] }, .string { data := #[76, 73, 68] }] 9))
       have HC := Lib.hid (HC.out.alloc (show B ≤ x0.heap.size by have := hsx0; omega) (.cells #[.string { data := #[67, 79, 76, 79, 82] }, .string { data := #[83, 73, 90, 69] }, .string { data := #[76, 73, 68] }] 9))
       have HN := heap_alloc_new x0 (.cells #[.string { data := #[67, 79, 76, 79, 82] }, .string { data := #[83, 73, 90, 69] }, .string { data := #[76, 73, 68] }] 9)
       have hsx2_4 := HD.out.grown.size
       generalize hyx2_4 : x0.alloc (.cells #[.string { data := #[67, 79, 76, 79, 82] }, .string { data := #[83, 73, 90, 69] }, .string { data := #[76, 73, 68] }] 9) = x2_4 at *
       clear hyx2_4
       refine wpAnyH_take (i := 3) (oi := { dst := some 16, op := Op.indexAddr 125 (Operand.tmp 14) (Operand.tmp 15), type := 0, pos := _, after := #[{ on := 1, ground := Ground.data }, { on := 2, ground := Ground.data }], guard := none }) (v := ?vk2_5) rfl (by kernel_rfl) (by kernel_rfl) (by kernel_rfl) (fun _ _ _ h => h) (Or.inl ⟨by rfl, ?yk2_5⟩) (by assumption) ?rk2_5
       case yk2_5 => (intro w' hSw; (try dsimp only at hSw); go_simp; (try with_reducible rfl))
       (try simp only [Act.put, List.setIfInBounds_toArray, List.set_cons_zero, List.set_cons_succ])
       refine wpAnyH_ready (rs := [4, 6]) (by kernel_rfl) (by simp) ?_
       refine AllReadyH.cons (o := { dst := some 17, op := Op.load 9 (Operand.tmp 16), type := 9, pos := _, after := #[{ on := 3, ground := Ground.data }], guard := none }) rfl (fun K hK => ?_) ?_
       · skip
         have hload := cell_of_row _ _ 2 _ _ _ HN
         go_simp
         refine hK.out _ _ ?_ (fun hHeld => ?_)
         · trivial
         clear hK K
         (try simp only [Act.put, List.setIfInBounds_toArray, List.set_cons_zero, List.set_cons_succ])
         clear hload
         refine wpAnyH_ready (rs := [6]) (by kernel_rfl) (by simp) ?_
         refine AllReadyH.cons (o := { dst := some 19, op := Op.buildSlice 125 3 #[(0, Operand.const (Value.string { data := #[88] })), (1, Operand.const (Value.string { data := #[89] })), (2, Operand.const (Value.string { data := #[90] }))], type := 125, pos := _, after := #[], guard := none }) rfl (fun K hK => ?_) AllReadyH.nil
         go_simp
         refine hK.out _ _ ?_ (fun hHeld => ?_)
         · trivial
         clear hK K
         (try simp only [Act.put, List.setIfInBounds_toArray, List.set_cons_zero, List.set_cons_succ])
         have HD := Lib.hid (HD.out.al hlt (.cells #[.string { data := #[88] }, .string { data := #[89] }, .string { data := #[90] }] 9))
         have HO := Lib.hid (HO.out.alloc (.cells #[.string { data := #[88] }, .string { data := #[89] }, .string { data := #[90] }] 9))
         have HC := Lib.hid (HC.out.alloc (show B ≤ x2_4.heap.size by have := hsx2_4; omega) (.cells #[.string { data := #[88] }, .string { data := #[89] }, .string { data := #[90] }] 9))
         have HN := blk_alloc HN (.cells #[.string { data := #[88] }, .string { data := #[89] }, .string { data := #[90] }] 9)
         have HV := heap_alloc_new x2_4 (.cells #[.string { data := #[88] }, .string { data := #[89] }, .string { data := #[90] }] 9)
         have hsx2_7 := HD.out.grown.size
         generalize hyx2_7 : x2_4.alloc (.cells #[.string { data := #[88] }, .string { data := #[89] }, .string { data := #[90] }] 9) = x2_7 at *
         clear hyx2_7
         refine wpAnyH_ready (rs := [7]) (by kernel_rfl) (by simp) ?_
         refine AllReadyH.cons (o := { dst := some 20, op := Op.call { callee := Callee.value (Operand.func 84), args := #[Operand.tmp 18, Operand.tmp 19], argTypes := #[64, 125] }, type := 9, pos := _, after := #[{ on := 5, ground := Ground.data }, { on := 6, ground := Ground.data }], guard := none }) rfl (fun K hK => ?_) AllReadyH.nil
         go_simp
         refine (l1_pick B b x2_4.heap.size 3 a n c _ hn HC.out HD.out.cur (by decide) (by decide) (by have := hsx2_7; omega) (by have := HD.out.grown.size; omega) (texts_of_row HV (by decide) (by decide) (by decide))).mono ?_
         rintro e x2_8 ⟨u, rfl, hu, hd⟩
         have HO := Lib.hid (own_hdC HO.out hd.grown hlt)
         have HC := Lib.hid (HC.out.below (hd.below (show B ≤ x2_7.heap.size by have := hsx2_7; omega)))
         have HD := Lib.hid (HD.out.trans hd)
         have hsx2_8 := HD.out.grown.size
         have HN := Drawn.blk hd HN (by omega)
         clear hd
         (try go_wp2_with fail)
         refine hK.out _ _ ?_ (fun hHeld => ?_)
         · trivial
         clear hK K
         (try simp only [Act.put, List.setIfInBounds_toArray, List.set_cons_zero, List.set_cons_succ])
         refine wpAnyH_take (i := 8) (oi := { dst := some 21, op := Op.build 108 #[(0, Operand.tmp 17), (1, Operand.tmp 20)], type := 108, pos := _, after := #[{ on := 4, ground := Ground.data }, { on := 7, ground := Ground.data }], guard := none }) (v := ?vk2_9) rfl (by kernel_rfl) (by kernel_rfl) (by kernel_rfl) (fun _ _ _ h => h) (Or.inl ⟨by rfl, ?yk2_9⟩) (by assumption) ?rk2_9
         case yk2_9 => (intro w' hSw; (try dsimp only at hSw); go_simp; (try with_reducible rfl))
         (try simp only [Act.put, List.setIfInBounds_toArray, List.set_cons_zero, List.set_cons_succ])
         refine wpAnyH_ready (rs := [9]) (by kernel_rfl) (by simp) ?_
         refine AllReadyH.cons (o := { dst := some 22, op := Op.buildSlice 26 1 #[(0, Operand.tmp 21)], type := 26, pos := _, after := #[{ on := 8, ground := Ground.data }], guard := none }) rfl (fun K hK => ?_) AllReadyH.nil
         go_simp
         refine hK.out _ _ ?_ (fun hHeld => ?_)
         · trivial
         clear hK K
         (try simp only [Act.put, List.setIfInBounds_toArray, List.set_cons_zero, List.set_cons_succ])
         refine wpAnyH_ready (rs := [10]) (by kernel_rfl) (by simp) ?_
         refine AllReadyH.cons (o := { dst := some 23, op := Op.call { callee := Callee.builtin Builtin.append, args := #[Operand.tmp 13, Operand.tmp 22], argTypes := #[26, 26] }, type := 26, pos := _, after := #[{ on := 0, ground := Ground.data }, { on := 9, ground := Ground.data }, { on := 7, ground := Ground.chain }], guard := none }) rfl (fun K hK => ?_) AllReadyH.nil
         refine step_append_ownL rfl (.tmp 13) (.tmp 22) 26 rfl w.heap.size 108 i0 (.agg #[.string ByteArray.empty, .string ByteArray.empty]) 2 32 Tryz.underlying26 hi0 hz0 hz1 hz2 rfl (by decide) (.slice (some ⟨g, 0, none⟩) ps.length q) ps.length (PK.cells ps) (by simp [Act.eval]) (HO.out.alloc _) ⟨x2_8.heap.size, 0, none⟩ 1 1 [.string { data := #[76, 73, 68] }, .string u] (by simp [Act.eval]) rfl (newL2 _ _ _ _) (by intro z hz; simp at hz; rcases hz with rfl | rfl <;> rfl) (by unfold maxLen; omega) (by omega) (by have := hsx2_8; simp; omega) ?_
         intro v6 w6 hown hgrow
         obtain ⟨g6, c6, rfl⟩ := own_someL hown
         have HDF := Lib.hid ((HD.out.al hlt (.cells #[.string { data := #[76, 73, 68] }, .string u] 108)).row hlt hgrow (fun j hj => (HO.out.lt j hj).1))
         have HOF : Hid (w6.ownsRow w.heap.size 108 2 (.slice (some ⟨g6, 0, none⟩) (ps.length + 1) c6) (ps.length + 1) (PK.cells (ps ++ [⟨{ data := #[76, 73, 68] }, u⟩]))) := Lib.hid (by rw [← PK.cells_push]; exact hown)
         clear hown hgrow
         refine hK.out _ _ ?_ (fun hHeld => ?_)
         · trivial
         clear hK K
         (try simp only [Act.put, List.setIfInBounds_toArray, List.set_cons_zero, List.set_cons_succ])
         refine wpAnyH_take (i := 11) (oi := { dst := some 3, op := Op.assign (Operand.tmp 23), type := 26, pos := _, after := #[{ on := 10, ground := Ground.data }, { on := 10, ground := Ground.chain }, { on := 0, ground := Ground.phase }, { on := 1, ground := Ground.phase }, { on := 2, ground := Ground.phase }, { on := 3, ground := Ground.phase }, { on := 4, ground := Ground.phase }, { on := 5, ground := Ground.phase }, { on := 6, ground := Ground.phase }, { on := 7, ground := Ground.phase }, { on := 8, ground := Ground.phase }, { on := 9, ground := Ground.phase }, { on := 10, ground := Ground.phase }], guard := none }) (v := ?vk2_12) rfl (by kernel_rfl) (by kernel_rfl) (by kernel_rfl) (fun _ _ _ h => h) (Or.inl ⟨by rfl, ?yk2_12⟩) (by assumption) ?rk2_12
         case yk2_12 => (intro w' hSw; (try dsimp only at hSw); go_simp; (try with_reducible rfl))
         (try simp only [Act.put, List.setIfInBounds_toArray, List.set_cons_zero, List.set_cons_succ])
         refine wpAnyH_done (by kernel_rfl) ?_ _
         go_wp2_with fail
         go_roundw
         case rel => exact ⟨3, ps ++ [⟨{ data := #[76, 73, 68] }, u⟩], g6, c6, rfl, by rw [List.length_append]; rfl, by decide, by rw [List.length_append, List.length_singleton]; omega, szp_push HZ.out (by decide) hu, by rw [List.length_append, List.length_singleton]; exact HOF, HDF⟩
         case measure => simp [intOf]
       refine AllReadyH.cons (o := { dst := some 19, op := Op.buildSlice 125 3 #[(0, Operand.const (Value.string { data := #[88] })), (1, Operand.const (Value.string { data := #[89] })), (2, Operand.const (Value.string { data := #[90] }))], type := 125, pos := _, after := #[], guard := none }) rfl (fun K hK => ?_) AllReadyH.nil
       go_simp
       refine hK.out _ _ ?_ (fun hHeld => ?_)
       · trivial
       clear hK K
       (try simp only [Act.put, List.setIfInBounds_toArray, List.set_cons_zero, List.set_cons_succ])
       have HD := Lib.hid (HD.out.al hlt (.cells #[.string { data := #[88] }, .string { data := #[89] }, .string { data := #[90] }] 9))
       have HO := Lib.hid (HO.out.alloc (.cells #[.string { data := #[88] }, .string { data := #[89] }, .string { data := #[90] }] 9))
       have HC := Lib.hid (HC.out.alloc (show B ≤ x2_4.heap.size by have := hsx2_4; omega) (.cells #[.string { data := #[88] }, .string { data := #[89] }, .string { data := #[90] }] 9))
       have HN := blk_alloc HN (.cells #[.string { data := #[88] }, .string { data := #[89] }, .string { data := #[90] }] 9)
       have HV := heap_alloc_new x2_4 (.cells #[.string { data := #[88] }, .string { data := #[89] }, .string { data := #[90] }] 9)
       have hsx2_13 := HD.out.grown.size
       generalize hyx2_13 : x2_4.alloc (.cells #[.string { data := #[88] }, .string { data := #[89] }, .string { data := #[90] }] 9) = x2_13 at *
       clear hyx2_13
       refine wpAnyH_ready (rs := [4, 7]) (by kernel_rfl) (by simp) ?_
       refine AllReadyH.cons (o := { dst := some 17, op := Op.load 9 (Operand.tmp 16), type := 9, pos := _, after := #[{ on := 3, ground := Ground.data }], guard := none }) rfl (fun K hK => ?_) ?_
       · skip
         have hload := cell_of_row _ _ 2 _ _ _ HN
         go_simp
         refine hK.out _ _ ?_ (fun hHeld => ?_)
         · trivial
         clear hK K
         (try simp only [Act.put, List.setIfInBounds_toArray, List.set_cons_zero, List.set_cons_succ])
         clear hload
         refine wpAnyH_ready (rs := [7]) (by kernel_rfl) (by simp) ?_
         refine AllReadyH.cons (o := { dst := some 20, op := Op.call { callee := Callee.value (Operand.func 84), args := #[Operand.tmp 18, Operand.tmp 19], argTypes := #[64, 125] }, type := 9, pos := _, after := #[{ on := 5, ground := Ground.data }, { on := 6, ground := Ground.data }], guard := none }) rfl (fun K hK => ?_) AllReadyH.nil
         go_simp
         refine (l1_pick B b x2_4.heap.size 3 a n c _ hn HC.out HD.out.cur (by decide) (by decide) (by have := hsx2_13; omega) (by have := HD.out.grown.size; omega) (texts_of_row HV (by decide) (by decide) (by decide))).mono ?_
         rintro e x2_15 ⟨u, rfl, hu, hd⟩
         have HO := Lib.hid (own_hdC HO.out hd.grown hlt)
         have HC := Lib.hid (HC.out.below (hd.below (show B ≤ x2_13.heap.size by have := hsx2_13; omega)))
         have HD := Lib.hid (HD.out.trans hd)
         have hsx2_15 := HD.out.grown.size
         have HN := Drawn.blk hd HN (by omega)
         clear hd
         (try go_wp2_with fail)
         refine hK.out _ _ ?_ (fun hHeld => ?_)
         · trivial
         clear hK K
         (try simp only [Act.put, List.setIfInBounds_toArray, List.set_cons_zero, List.set_cons_succ])
         refine wpAnyH_take (i := 8) (oi := { dst := some 21, op := Op.build 108 #[(0, Operand.tmp 17), (1, Operand.tmp 20)], type := 108, pos := _, after := #[{ on := 4, ground := Ground.data }, { on := 7, ground := Ground.data }], guard := none }) (v := ?vk2_16) rfl (by kernel_rfl) (by kernel_rfl) (by kernel_rfl) (fun _ _ _ h => h) (Or.inl ⟨by rfl, ?yk2_16⟩) (by assumption) ?rk2_16
         case yk2_16 => (intro w' hSw; (try dsimp only at hSw); go_simp; (try with_reducible rfl))
         (try simp only [Act.put, List.setIfInBounds_toArray, List.set_cons_zero, List.set_cons_succ])
         refine wpAnyH_ready (rs := [9]) (by kernel_rfl) (by simp) ?_
         refine AllReadyH.cons (o := { dst := some 22, op := Op.buildSlice 26 1 #[(0, Operand.tmp 21)], type := 26, pos := _, after := #[{ on := 8, ground := Ground.data }], guard := none }) rfl (fun K hK => ?_) AllReadyH.nil
         go_simp
         refine hK.out _ _ ?_ (fun hHeld => ?_)
         · trivial
         clear hK K
         (try simp only [Act.put, List.setIfInBounds_toArray, List.set_cons_zero, List.set_cons_succ])
         refine wpAnyH_ready (rs := [10]) (by kernel_rfl) (by simp) ?_
         refine AllReadyH.cons (o := { dst := some 23, op := Op.call { callee := Callee.builtin Builtin.append, args := #[Operand.tmp 13, Operand.tmp 22], argTypes := #[26, 26] }, type := 26, pos := _, after := #[{ on := 0, ground := Ground.data }, { on := 9, ground := Ground.data }, { on := 7, ground := Ground.chain }], guard := none }) rfl (fun K hK => ?_) AllReadyH.nil
         refine step_append_ownL rfl (.tmp 13) (.tmp 22) 26 rfl w.heap.size 108 i0 (.agg #[.string ByteArray.empty, .string ByteArray.empty]) 2 32 Tryz.underlying26 hi0 hz0 hz1 hz2 rfl (by decide) (.slice (some ⟨g, 0, none⟩) ps.length q) ps.length (PK.cells ps) (by simp [Act.eval]) (HO.out.alloc _) ⟨x2_15.heap.size, 0, none⟩ 1 1 [.string { data := #[76, 73, 68] }, .string u] (by simp [Act.eval]) rfl (newL2 _ _ _ _) (by intro z hz; simp at hz; rcases hz with rfl | rfl <;> rfl) (by unfold maxLen; omega) (by omega) (by have := hsx2_15; simp; omega) ?_
         intro v6 w6 hown hgrow
         obtain ⟨g6, c6, rfl⟩ := own_someL hown
         have HDF := Lib.hid ((HD.out.al hlt (.cells #[.string { data := #[76, 73, 68] }, .string u] 108)).row hlt hgrow (fun j hj => (HO.out.lt j hj).1))
         have HOF : Hid (w6.ownsRow w.heap.size 108 2 (.slice (some ⟨g6, 0, none⟩) (ps.length + 1) c6) (ps.length + 1) (PK.cells (ps ++ [⟨{ data := #[76, 73, 68] }, u⟩]))) := Lib.hid (by rw [← PK.cells_push]; exact hown)
         clear hown hgrow
         refine hK.out _ _ ?_ (fun hHeld => ?_)
         · trivial
         clear hK K
         (try simp only [Act.put, List.setIfInBounds_toArray, List.set_cons_zero, List.set_cons_succ])
         refine wpAnyH_take (i := 11) (oi := { dst := some 3, op := Op.assign (Operand.tmp 23), type := 26, pos := _, after := #[{ on := 10, ground := Ground.data }, { on := 10, ground := Ground.chain }, { on := 0, ground := Ground.phase }, { on := 1, ground := Ground.phase }, { on := 2, ground := Ground.phase }, { on := 3, ground := Ground.phase }, { on := 4, ground := Ground.phase }, { on := 5, ground := Ground.phase }, { on := 6, ground := Ground.phase }, { on := 7, ground := Ground.phase }, { on := 8, ground := Ground.phase }, { on := 9, ground := Ground.phase }, { on := 10, ground := Ground.phase }], guard := none }) (v := ?vk2_19) rfl (by kernel_rfl) (by kernel_rfl) (by kernel_rfl) (fun _ _ _ h => h) (Or.inl ⟨by rfl, ?yk2_19⟩) (by assumption) ?rk2_19
         case yk2_19 => (intro w' hSw; (try dsimp only at hSw); go_simp; (try with_reducible rfl))
         (try simp only [Act.put, List.setIfInBounds_toArray, List.set_cons_zero, List.set_cons_succ])
         refine wpAnyH_done (by kernel_rfl) ?_ _
         go_wp2_with fail
         go_roundw
         case rel => exact ⟨3, ps ++ [⟨{ data := #[76, 73, 68] }, u⟩], g6, c6, rfl, by rw [List.length_append]; rfl, by decide, by rw [List.length_append, List.length_singleton]; omega, szp_push HZ.out (by decide) hu, by rw [List.length_append, List.length_singleton]; exact HOF, HDF⟩
         case measure => simp [intOf]
       refine AllReadyH.cons (o := { dst := some 20, op := Op.call { callee := Callee.value (Operand.func 84), args := #[Operand.tmp 18, Operand.tmp 19], argTypes := #[64, 125] }, type := 9, pos := _, after := #[{ on := 5, ground := Ground.data }, { on := 6, ground := Ground.data }], guard := none }) rfl (fun K hK => ?_) AllReadyH.nil
       go_simp
       refine (l1_pick B b x2_4.heap.size 3 a n c _ hn HC.out HD.out.cur (by decide) (by decide) (by have := hsx2_13; omega) (by have := HD.out.grown.size; omega) (texts_of_row HV (by decide) (by decide) (by decide))).mono ?_
       rintro e x2_20 ⟨u, rfl, hu, hd⟩
       have HO := Lib.hid (own_hdC HO.out hd.grown hlt)
       have HC := Lib.hid (HC.out.below (hd.below (show B ≤ x2_13.heap.size by have := hsx2_13; omega)))
       have HD := Lib.hid (HD.out.trans hd)
       have hsx2_20 := HD.out.grown.size
       have HN := Drawn.blk hd HN (by omega)
       clear hd
       (try go_wp2_with fail)
       refine hK.out _ _ ?_ (fun hHeld => ?_)
       · trivial
       clear hK K
       (try simp only [Act.put, List.setIfInBounds_toArray, List.set_cons_zero, List.set_cons_succ])
       refine wpAnyH_ready (rs := [4]) (by kernel_rfl) (by simp) ?_
       refine AllReadyH.cons (o := { dst := some 17, op := Op.load 9 (Operand.tmp 16), type := 9, pos := _, after := #[{ on := 3, ground := Ground.data }], guard := none }) rfl (fun K hK => ?_) AllReadyH.nil
       have hload := cell_of_row _ _ 2 _ _ _ HN
       go_simp
       refine hK.out _ _ ?_ (fun hHeld => ?_)
       · trivial
       clear hK K
       (try simp only [Act.put, List.setIfInBounds_toArray, List.set_cons_zero, List.set_cons_succ])
       clear hload
       refine wpAnyH_take (i := 8) (oi := { dst := some 21, op := Op.build 108 #[(0, Operand.tmp 17), (1, Operand.tmp 20)], type := 108, pos := _, after := #[{ on := 4, ground := Ground.data }, { on := 7, ground := Ground.data }], guard := none }) (v := ?vk2_22) rfl (by kernel_rfl) (by kernel_rfl) (by kernel_rfl) (fun _ _ _ h => h) (Or.inl ⟨by rfl, ?yk2_22⟩) (by assumption) ?rk2_22
       case yk2_22 => (intro w' hSw; (try dsimp only at hSw); go_simp; (try with_reducible rfl))
       (try simp only [Act.put, List.setIfInBounds_toArray, List.set_cons_zero, List.set_cons_succ])
       refine wpAnyH_ready (rs := [9]) (by kernel_rfl) (by simp) ?_
       refine AllReadyH.cons (o := { dst := some 22, op := Op.buildSlice 26 1 #[(0, Operand.tmp 21)], type := 26, pos := _, after := #[{ on := 8, ground := Ground.data }], guard := none }) rfl (fun K hK => ?_) AllReadyH.nil
       go_simp
       refine hK.out _ _ ?_ (fun hHeld => ?_)
       · trivial
       clear hK K
       (try simp only [Act.put, List.setIfInBounds_toArray, List.set_cons_zero, List.set_cons_succ])
       refine wpAnyH_ready (rs := [10]) (by kernel_rfl) (by simp) ?_
       refine AllReadyH.cons (o := { dst := some 23, op := Op.call { callee := Callee.builtin Builtin.append, args := #[Operand.tmp 13, Operand.tmp 22], argTypes := #[26, 26] }, type := 26, pos := _, after := #[{ on := 0, ground := Ground.data }, { on := 9, ground := Ground.data }, { on := 7, ground := Ground.chain }], guard := none }) rfl (fun K hK => ?_) AllReadyH.nil
       refine step_append_ownL rfl (.tmp 13) (.tmp 22) 26 rfl w.heap.size 108 i0 (.agg #[.string ByteArray.empty, .string ByteArray.empty]) 2 32 Tryz.underlying26 hi0 hz0 hz1 hz2 rfl (by decide) (.slice (some ⟨g, 0, none⟩) ps.length q) ps.length (PK.cells ps) (by simp [Act.eval]) (HO.out.alloc _) ⟨x2_20.heap.size, 0, none⟩ 1 1 [.string { data := #[76, 73, 68] }, .string u] (by simp [Act.eval]) rfl (newL2 _ _ _ _) (by intro z hz; simp at hz; rcases hz with rfl | rfl <;> rfl) (by unfold maxLen; omega) (by omega) (by have := hsx2_20; simp; omega) ?_
       intro v6 w6 hown hgrow
       obtain ⟨g6, c6, rfl⟩ := own_someL hown
       have HDF := Lib.hid ((HD.out.al hlt (.cells #[.string { data := #[76, 73, 68] }, .string u] 108)).row hlt hgrow (fun j hj => (HO.out.lt j hj).1))
       have HOF : Hid (w6.ownsRow w.heap.size 108 2 (.slice (some ⟨g6, 0, none⟩) (ps.length + 1) c6) (ps.length + 1) (PK.cells (ps ++ [⟨{ data := #[76, 73, 68] }, u⟩]))) := Lib.hid (by rw [← PK.cells_push]; exact hown)
       clear hown hgrow
       refine hK.out _ _ ?_ (fun hHeld => ?_)
       · trivial
       clear hK K
       (try simp only [Act.put, List.setIfInBounds_toArray, List.set_cons_zero, List.set_cons_succ])
       refine wpAnyH_take (i := 11) (oi := { dst := some 3, op := Op.assign (Operand.tmp 23), type := 26, pos := _, after := #[{ on := 10, ground := Ground.data }, { on := 10, ground := Ground.chain }, { on := 0, ground := Ground.phase }, { on := 1, ground := Ground.phase }, { on := 2, ground := Ground.phase }, { on := 3, ground := Ground.phase }, { on := 4, ground := Ground.phase }, { on := 5, ground := Ground.phase }, { on := 6, ground := Ground.phase }, { on := 7, ground := Ground.phase }, { on := 8, ground := Ground.phase }, { on := 9, ground := Ground.phase }, { on := 10, ground := Ground.phase }], guard := none }) (v := ?vk2_25) rfl (by kernel_rfl) (by kernel_rfl) (by kernel_rfl) (fun _ _ _ h => h) (Or.inl ⟨by rfl, ?yk2_25⟩) (by assumption) ?rk2_25
       case yk2_25 => (intro w' hSw; (try dsimp only at hSw); go_simp; (try with_reducible rfl))
       (try simp only [Act.put, List.setIfInBounds_toArray, List.set_cons_zero, List.set_cons_succ])
       refine wpAnyH_done (by kernel_rfl) ?_ _
       go_wp2_with fail
       go_roundw
       case rel => exact ⟨3, ps ++ [⟨{ data := #[76, 73, 68] }, u⟩], g6, c6, rfl, by rw [List.length_append]; rfl, by decide, by rw [List.length_append, List.length_singleton]; omega, szp_push HZ.out (by decide) hu, by rw [List.length_append, List.length_singleton]; exact HOF, HDF⟩
       case measure => simp [intOf]
     refine AllReadyH.cons (o := { dst := some 19, op := Op.buildSlice 125 3 #[(0, Operand.const (Value.string { data := #[88] })), (1, Operand.const (Value.string { data := #[89] })), (2, Operand.const (Value.string { data := #[90] }))], type := 125, pos := _, after := #[], guard := none }) rfl (fun K hK => ?_) AllReadyH.nil
     go_simp
     refine hK.out _ _ ?_ (fun hHeld => ?_)
     · trivial
     clear hK K
     (try simp only [Act.put, List.setIfInBounds_toArray, List.set_cons_zero, List.set_cons_succ])
     have HD := Lib.hid (HD.out.al hlt (.cells #[.string { data := #[88] }, .string { data := #[89] }, .string { data := #[90] }] 9))
     have HO := Lib.hid (HO.out.alloc (.cells #[.string { data := #[88] }, .string { data := #[89] }, .string { data := #[90] }] 9))
     have HC := Lib.hid (HC.out.alloc (show B ≤ x0.heap.size by have := hsx0; omega) (.cells #[.string { data := #[88] }, .string { data := #[89] }, .string { data := #[90] }] 9))
     have HV := heap_alloc_new x0 (.cells #[.string { data := #[88] }, .string { data := #[89] }, .string { data := #[90] }] 9)
     have hsx2_26 := HD.out.grown.size
     generalize hyx2_26 : x0.alloc (.cells #[.string { data := #[88] }, .string { data := #[89] }, .string { data := #[90] }] 9) = x2_26 at *
     clear hyx2_26
     refine wpAnyH_ready (rs := [1, 7]) (by kernel_rfl) (by simp) ?_
     refine AllReadyH.cons (o := { dst := some 14, op := Op.buildSlice 125 3 #[(0, Operand.const (Value.string { data := #[67, 79, 76, 79, 82] })), (1, Operand.const (Value.string { data := #[83, 73, 90, 69] })), (2, Operand.const (Value.string { data := #[76, 73, 68] }))], type := 125, pos := _, after := #[], guard := none }) rfl (fun K hK => ?_) ?_
     · skip
       go_simp
       refine hK.out _ _ ?_ (fun hHeld => ?_)
       · trivial
       clear hK K
       (try simp only [Act.put, List.setIfInBounds_toArray, List.set_cons_zero, List.set_cons_succ])
       have HD := Lib.hid (HD.out.al hlt (.cells #[.string { data := #[67, 79, 76, 79, 82] }, .string { data := #[83, 73, 90, 69] }, .string { data := #[76, 73, 68] }] 9))
       have HO := Lib.hid (HO.out.alloc (.cells #[.string { data := #[67, 79, 76, 79, 82] }, .string { data := #[83, 73, 90, 69] }, .string { data := #[76, 73, 68] }] 9))
       have HC := Lib.hid (HC.out.alloc (show B ≤ x2_26.heap.size by have := hsx2_26; omega) (.cells #[.string { data := #[67, 79, 76, 79, 82] }, .string { data := #[83, 73, 90, 69] }, .string { data := #[76, 73, 68] }] 9))
       have HV := blk_alloc HV (.cells #[.string { data := #[67, 79, 76, 79, 82] }, .string { data := #[83, 73, 90, 69] }, .string { data := #[76, 73, 68] }] 9)
       have HN := heap_alloc_new x2_26 (.cells #[.string { data := #[67, 79, 76, 79, 82] }, .string { data := #[83, 73, 90, 69] }, .string { data := #[76, 73, 68] }] 9)
       have hsx2_27 := HD.out.grown.size
       generalize hyx2_27 : x2_26.alloc (.cells #[.string { data := #[67, 79, 76, 79, 82] }, .string { data := #[83, 73, 90, 69] }, .string { data := #[76, 73, 68] }] 9) = x2_27 at *
       clear hyx2_27
       refine wpAnyH_take (i := 3) (oi := { dst := some 16, op := Op.indexAddr 125 (Operand.tmp 14) (Operand.tmp 15), type := 0, pos := _, after := #[{ on := 1, ground := Ground.data }, { on := 2, ground := Ground.data }], guard := none }) (v := ?vk2_28) rfl (by kernel_rfl) (by kernel_rfl) (by kernel_rfl) (fun _ _ _ h => h) (Or.inl ⟨by rfl, ?yk2_28⟩) (by assumption) ?rk2_28
       case yk2_28 => (intro w' hSw; (try dsimp only at hSw); go_simp; (try with_reducible rfl))
       (try simp only [Act.put, List.setIfInBounds_toArray, List.set_cons_zero, List.set_cons_succ])
       refine wpAnyH_ready (rs := [4, 7]) (by kernel_rfl) (by simp) ?_
       refine AllReadyH.cons (o := { dst := some 17, op := Op.load 9 (Operand.tmp 16), type := 9, pos := _, after := #[{ on := 3, ground := Ground.data }], guard := none }) rfl (fun K hK => ?_) ?_
       · skip
         have hload := cell_of_row _ _ 2 _ _ _ HN
         go_simp
         refine hK.out _ _ ?_ (fun hHeld => ?_)
         · trivial
         clear hK K
         (try simp only [Act.put, List.setIfInBounds_toArray, List.set_cons_zero, List.set_cons_succ])
         clear hload
         refine wpAnyH_ready (rs := [7]) (by kernel_rfl) (by simp) ?_
         refine AllReadyH.cons (o := { dst := some 20, op := Op.call { callee := Callee.value (Operand.func 84), args := #[Operand.tmp 18, Operand.tmp 19], argTypes := #[64, 125] }, type := 9, pos := _, after := #[{ on := 5, ground := Ground.data }, { on := 6, ground := Ground.data }], guard := none }) rfl (fun K hK => ?_) AllReadyH.nil
         go_simp
         refine (l1_pick B b x0.heap.size 3 a n c _ hn HC.out HD.out.cur (by decide) (by decide) (by have := hsx2_27; omega) (by have := HD.out.grown.size; omega) (texts_of_row HV (by decide) (by decide) (by decide))).mono ?_
         rintro e x2_30 ⟨u, rfl, hu, hd⟩
         have HO := Lib.hid (own_hdC HO.out hd.grown hlt)
         have HC := Lib.hid (HC.out.below (hd.below (show B ≤ x2_27.heap.size by have := hsx2_27; omega)))
         have HD := Lib.hid (HD.out.trans hd)
         have hsx2_30 := HD.out.grown.size
         have HN := Drawn.blk hd HN (by omega)
         clear hd
         (try go_wp2_with fail)
         refine hK.out _ _ ?_ (fun hHeld => ?_)
         · trivial
         clear hK K
         (try simp only [Act.put, List.setIfInBounds_toArray, List.set_cons_zero, List.set_cons_succ])
         refine wpAnyH_take (i := 8) (oi := { dst := some 21, op := Op.build 108 #[(0, Operand.tmp 17), (1, Operand.tmp 20)], type := 108, pos := _, after := #[{ on := 4, ground := Ground.data }, { on := 7, ground := Ground.data }], guard := none }) (v := ?vk2_31) rfl (by kernel_rfl) (by kernel_rfl) (by kernel_rfl) (fun _ _ _ h => h) (Or.inl ⟨by rfl, ?yk2_31⟩) (by assumption) ?rk2_31
         case yk2_31 => (intro w' hSw; (try dsimp only at hSw); go_simp; (try with_reducible rfl))
         (try simp only [Act.put, List.setIfInBounds_toArray, List.set_cons_zero, List.set_cons_succ])
         refine wpAnyH_ready (rs := [9]) (by kernel_rfl) (by simp) ?_
         refine AllReadyH.cons (o := { dst := some 22, op := Op.buildSlice 26 1 #[(0, Operand.tmp 21)], type := 26, pos := _, after := #[{ on := 8, ground := Ground.data }], guard := none }) rfl (fun K hK => ?_) AllReadyH.nil
         go_simp
         refine hK.out _ _ ?_ (fun hHeld => ?_)
         · trivial
         clear hK K
         (try simp only [Act.put, List.setIfInBounds_toArray, List.set_cons_zero, List.set_cons_succ])
         refine wpAnyH_ready (rs := [10]) (by kernel_rfl) (by simp) ?_
         refine AllReadyH.cons (o := { dst := some 23, op := Op.call { callee := Callee.builtin Builtin.append, args := #[Operand.tmp 13, Operand.tmp 22], argTypes := #[26, 26] }, type := 26, pos := _, after := #[{ on := 0, ground := Ground.data }, { on := 9, ground := Ground.data }, { on := 7, ground := Ground.chain }], guard := none }) rfl (fun K hK => ?_) AllReadyH.nil
         refine step_append_ownL rfl (.tmp 13) (.tmp 22) 26 rfl w.heap.size 108 i0 (.agg #[.string ByteArray.empty, .string ByteArray.empty]) 2 32 Tryz.underlying26 hi0 hz0 hz1 hz2 rfl (by decide) (.slice (some ⟨g, 0, none⟩) ps.length q) ps.length (PK.cells ps) (by simp [Act.eval]) (HO.out.alloc _) ⟨x2_30.heap.size, 0, none⟩ 1 1 [.string { data := #[76, 73, 68] }, .string u] (by simp [Act.eval]) rfl (newL2 _ _ _ _) (by intro z hz; simp at hz; rcases hz with rfl | rfl <;> rfl) (by unfold maxLen; omega) (by omega) (by have := hsx2_30; simp; omega) ?_
         intro v6 w6 hown hgrow
         obtain ⟨g6, c6, rfl⟩ := own_someL hown
         have HDF := Lib.hid ((HD.out.al hlt (.cells #[.string { data := #[76, 73, 68] }, .string u] 108)).row hlt hgrow (fun j hj => (HO.out.lt j hj).1))
         have HOF : Hid (w6.ownsRow w.heap.size 108 2 (.slice (some ⟨g6, 0, none⟩) (ps.length + 1) c6) (ps.length + 1) (PK.cells (ps ++ [⟨{ data := #[76, 73, 68] }, u⟩]))) := Lib.hid (by rw [← PK.cells_push]; exact hown)
         clear hown hgrow
         refine hK.out _ _ ?_ (fun hHeld => ?_)
         · trivial
         clear hK K
         (try simp only [Act.put, List.setIfInBounds_toArray, List.set_cons_zero, List.set_cons_succ])
         refine wpAnyH_take (i := 11) (oi := { dst := some 3, op := Op.assign (Operand.tmp 23), type := 26, pos := _, after := #[{ on := 10, ground := Ground.data }, { on := 10, ground := Ground.chain }, { on := 0, ground := Ground.phase }, { on := 1, ground := Ground.phase }, { on := 2, ground := Ground.phase }, { on := 3, ground := Ground.phase }, { on := 4, ground := Ground.phase }, { on := 5, ground := Ground.phase }, { on := 6, ground := Ground.phase }, { on := 7, ground := Ground.phase }, { on := 8, ground := Ground.phase }, { on := 9, ground := Ground.phase }, { on := 10, ground := Ground.phase }], guard := none }) (v := ?vk2_34) rfl (by kernel_rfl) (by kernel_rfl) (by kernel_rfl) (fun _ _ _ h => h) (Or.inl ⟨by rfl, ?yk2_34⟩) (by assumption) ?rk2_34
         case yk2_34 => (intro w' hSw; (try dsimp only at hSw); go_simp; (try with_reducible rfl))
         (try simp only [Act.put, List.setIfInBounds_toArray, List.set_cons_zero, List.set_cons_succ])
         refine wpAnyH_done (by kernel_rfl) ?_ _
         go_wp2_with fail
         go_roundw
         case rel => exact ⟨3, ps ++ [⟨{ data := #[76, 73, 68] }, u⟩], g6, c6, rfl, by rw [List.length_append]; rfl, by decide, by rw [List.length_append, List.length_singleton]; omega, szp_push HZ.out (by decide) hu, by rw [List.length_append, List.length_singleton]; exact HOF, HDF⟩
         case measure => simp [intOf]
       refine AllReadyH.cons (o := { dst := some 20, op := Op.call { callee := Callee.value (Operand.func 84), args := #[Operand.tmp 18, Operand.tmp 19], argTypes := #[64, 125] }, type := 9, pos := _, after := #[{ on := 5, ground := Ground.data }, { on := 6, ground := Ground.data }], guard := none }) rfl (fun K hK => ?_) AllReadyH.nil
       go_simp
       refine (l1_pick B b x0.heap.size 3 a n c _ hn HC.out HD.out.cur (by decide) (by decide) (by have := hsx2_27; omega) (by have := HD.out.grown.size; omega) (texts_of_row HV (by decide) (by decide) (by decide))).mono ?_
       rintro e x2_35 ⟨u, rfl, hu, hd⟩
       have HO := Lib.hid (own_hdC HO.out hd.grown hlt)
       have HC := Lib.hid (HC.out.below (hd.below (show B ≤ x2_27.heap.size by have := hsx2_27; omega)))
       have HD := Lib.hid (HD.out.trans hd)
       have hsx2_35 := HD.out.grown.size
       have HN := Drawn.blk hd HN (by omega)
       clear hd
       (try go_wp2_with fail)
       refine hK.out _ _ ?_ (fun hHeld => ?_)
       · trivial
       clear hK K
       (try simp only [Act.put, List.setIfInBounds_toArray, List.set_cons_zero, List.set_cons_succ])
       refine wpAnyH_ready (rs := [4]) (by kernel_rfl) (by simp) ?_
       refine AllReadyH.cons (o := { dst := some 17, op := Op.load 9 (Operand.tmp 16), type := 9, pos := _, after := #[{ on := 3, ground := Ground.data }], guard := none }) rfl (fun K hK => ?_) AllReadyH.nil
       have hload := cell_of_row _ _ 2 _ _ _ HN
       go_simp
       refine hK.out _ _ ?_ (fun hHeld => ?_)
       · trivial
       clear hK K
       (try simp only [Act.put, List.setIfInBounds_toArray, List.set_cons_zero, List.set_cons_succ])
       clear hload
       refine wpAnyH_take (i := 8) (oi := { dst := some 21, op := Op.build 108 #[(0, Operand.tmp 17), (1, Operand.tmp 20)], type := 108, pos := _, after := #[{ on := 4, ground := Ground.data }, { on := 7, ground := Ground.data }], guard := none }) (v := ?vk2_37) rfl (by kernel_rfl) (by kernel_rfl) (by kernel_rfl) (fun _ _ _ h => h) (Or.inl ⟨by rfl, ?yk2_37⟩) (by assumption) ?rk2_37
       case yk2_37 => (intro w' hSw; (try dsimp only at hSw); go_simp; (try with_reducible rfl))
       (try simp only [Act.put, List.setIfInBounds_toArray, List.set_cons_zero, List.set_cons_succ])
       refine wpAnyH_ready (rs := [9]) (by kernel_rfl) (by simp) ?_
       refine AllReadyH.cons (o := { dst := some 22, op := Op.buildSlice 26 1 #[(0, Operand.tmp 21)], type := 26, pos := _, after := #[{ on := 8, ground := Ground.data }], guard := none }) rfl (fun K hK => ?_) AllReadyH.nil
       go_simp
       refine hK.out _ _ ?_ (fun hHeld => ?_)
       · trivial
       clear hK K
       (try simp only [Act.put, List.setIfInBounds_toArray, List.set_cons_zero, List.set_cons_succ])
       refine wpAnyH_ready (rs := [10]) (by kernel_rfl) (by simp) ?_
       refine AllReadyH.cons (o := { dst := some 23, op := Op.call { callee := Callee.builtin Builtin.append, args := #[Operand.tmp 13, Operand.tmp 22], argTypes := #[26, 26] }, type := 26, pos := _, after := #[{ on := 0, ground := Ground.data }, { on := 9, ground := Ground.data }, { on := 7, ground := Ground.chain }], guard := none }) rfl (fun K hK => ?_) AllReadyH.nil
       refine step_append_ownL rfl (.tmp 13) (.tmp 22) 26 rfl w.heap.size 108 i0 (.agg #[.string ByteArray.empty, .string ByteArray.empty]) 2 32 Tryz.underlying26 hi0 hz0 hz1 hz2 rfl (by decide) (.slice (some ⟨g, 0, none⟩) ps.length q) ps.length (PK.cells ps) (by simp [Act.eval]) (HO.out.alloc _) ⟨x2_35.heap.size, 0, none⟩ 1 1 [.string { data := #[76, 73, 68] }, .string u] (by simp [Act.eval]) rfl (newL2 _ _ _ _) (by intro z hz; simp at hz; rcases hz with rfl | rfl <;> rfl) (by unfold maxLen; omega) (by omega) (by have := hsx2_35; simp; omega) ?_
       intro v6 w6 hown hgrow
       obtain ⟨g6, c6, rfl⟩ := own_someL hown
       have HDF := Lib.hid ((HD.out.al hlt (.cells #[.string { data := #[76, 73, 68] }, .string u] 108)).row hlt hgrow (fun j hj => (HO.out.lt j hj).1))
       have HOF : Hid (w6.ownsRow w.heap.size 108 2 (.slice (some ⟨g6, 0, none⟩) (ps.length + 1) c6) (ps.length + 1) (PK.cells (ps ++ [⟨{ data := #[76, 73, 68] }, u⟩]))) := Lib.hid (by rw [← PK.cells_push]; exact hown)
       clear hown hgrow
       refine hK.out _ _ ?_ (fun hHeld => ?_)
       · trivial
       clear hK K
       (try simp only [Act.put, List.setIfInBounds_toArray, List.set_cons_zero, List.set_cons_succ])
       refine wpAnyH_take (i := 11) (oi := { dst := some 3, op := Op.assign (Operand.tmp 23), type := 26, pos := _, after := #[{ on := 10, ground := Ground.data }, { on := 10, ground := Ground.chain }, { on := 0, ground := Ground.phase }, { on := 1, ground := Ground.phase }, { on := 2, ground := Ground.phase }, { on := 3, ground := Ground.phase }, { on := 4, ground := Ground.phase }, { on := 5, ground := Ground.phase }, { on := 6, ground := Ground.phase }, { on := 7, ground := Ground.phase }, { on := 8, ground := Ground.phase }, { on := 9, ground := Ground.phase }, { on := 10, ground := Ground.phase }], guard := none }) (v := ?vk2_40) rfl (by kernel_rfl) (by kernel_rfl) (by kernel_rfl) (fun _ _ _ h => h) (Or.inl ⟨by rfl, ?yk2_40⟩) (by assumption) ?rk2_40
       case yk2_40 => (intro w' hSw; (try dsimp only at hSw); go_simp; (try with_reducible rfl))
       (try simp only [Act.put, List.setIfInBounds_toArray, List.set_cons_zero, List.set_cons_succ])
       refine wpAnyH_done (by kernel_rfl) ?_ _
       go_wp2_with fail
       go_roundw
       case rel => exact ⟨3, ps ++ [⟨{ data := #[76, 73, 68] }, u⟩], g6, c6, rfl, by rw [List.length_append]; rfl, by decide, by rw [List.length_append, List.length_singleton]; omega, szp_push HZ.out (by decide) hu, by rw [List.length_append, List.length_singleton]; exact HOF, HDF⟩
       case measure => simp [intOf]
     refine AllReadyH.cons (o := { dst := some 20, op := Op.call { callee := Callee.value (Operand.func 84), args := #[Operand.tmp 18, Operand.tmp 19], argTypes := #[64, 125] }, type := 9, pos := _, after := #[{ on := 5, ground := Ground.data }, { on := 6, ground := Ground.data }], guard := none }) rfl (fun K hK => ?_) AllReadyH.nil
     go_simp
     refine (l1_pick B b x0.heap.size 3 a n c _ hn HC.out HD.out.cur (by decide) (by decide) (by have := hsx2_26; omega) (by have := HD.out.grown.size; omega) (texts_of_row HV (by decide) (by decide) (by decide))).mono ?_
     rintro e x2_41 ⟨u, rfl, hu, hd⟩
     have HO := Lib.hid (own_hdC HO.out hd.grown hlt)
     have HC := Lib.hid (HC.out.below (hd.below (show B ≤ x2_26.heap.size by have := hsx2_26; omega)))
     have HD := Lib.hid (HD.out.trans hd)
     have hsx2_41 := HD.out.grown.size
     clear hd
     (try go_wp2_with fail)
     refine hK.out _ _ ?_ (fun hHeld => ?_)
     · trivial
     clear hK K
     (try simp only [Act.put, List.setIfInBounds_toArray, List.set_cons_zero, List.set_cons_succ])
     refine wpAnyH_ready (rs := [1]) (by kernel_rfl) (by simp) ?_
     refine AllReadyH.cons (o := { dst := some 14, op := Op.buildSlice 125 3 #[(0, Operand.const (Value.string { data := #[67, 79, 76, 79, 82] })), (1, Operand.const (Value.string { data := #[83, 73, 90, 69] })), (2, Operand.const (Value.string { data := #[76, 73, 68] }))], type := 125, pos := _, after := #[], guard := none }) rfl (fun K hK => ?_) AllReadyH.nil
     go_simp
     refine hK.out _ _ ?_ (fun hHeld => ?_)
     · trivial
     clear hK K
     (try simp only [Act.put, List.setIfInBounds_toArray, List.set_cons_zero, List.set_cons_succ])
     have HD := Lib.hid (HD.out.al hlt (.cells #[.string { data := #[67, 79, 76, 79, 82] }, .string { data := #[83, 73, 90, 69] }, .string { data := #[76, 73, 68] }] 9))
     have HO := Lib.hid (HO.out.alloc (.cells #[.string { data := #[67, 79, 76, 79, 82] }, .string { data := #[83, 73, 90, 69] }, .string { data := #[76, 73, 68] }] 9))
     have HC := Lib.hid (HC.out.alloc (show B ≤ x2_41.heap.size by have := hsx2_41; omega) (.cells #[.string { data := #[67, 79, 76, 79, 82] }, .string { data := #[83, 73, 90, 69] }, .string { data := #[76, 73, 68] }] 9))
     have HV := blk_alloc HV (.cells #[.string { data := #[67, 79, 76, 79, 82] }, .string { data := #[83, 73, 90, 69] }, .string { data := #[76, 73, 68] }] 9)
     have HN := heap_alloc_new x2_41 (.cells #[.string { data := #[67, 79, 76, 79, 82] }, .string { data := #[83, 73, 90, 69] }, .string { data := #[76, 73, 68] }] 9)
     have hsx2_42 := HD.out.grown.size
     generalize hyx2_42 : x2_41.alloc (.cells #[.string { data := #[67, 79, 76, 79, 82] }, .string { data := #[83, 73, 90, 69] }, .string { data := #[76, 73, 68] }] 9) = x2_42 at *
     clear hyx2_42
     refine wpAnyH_take (i := 3) (oi := { dst := some 16, op := Op.indexAddr 125 (Operand.tmp 14) (Operand.tmp 15), type := 0, pos := _, after := #[{ on := 1, ground := Ground.data }, { on := 2, ground := Ground.data }], guard := none }) (v := ?vk2_43) rfl (by kernel_rfl) (by kernel_rfl) (by kernel_rfl) (fun _ _ _ h => h) (Or.inl ⟨by rfl, ?yk2_43⟩) (by assumption) ?rk2_43
     case yk2_43 => (intro w' hSw; (try dsimp only at hSw); go_simp; (try with_reducible rfl))
     (try simp only [Act.put, List.setIfInBounds_toArray, List.set_cons_zero, List.set_cons_succ])
     refine wpAnyH_ready (rs := [4]) (by kernel_rfl) (by simp) ?_
     refine AllReadyH.cons (o := { dst := some 17, op := Op.load 9 (Operand.tmp 16), type := 9, pos := _, after := #[{ on := 3, ground := Ground.data }], guard := none }) rfl (fun K hK => ?_) AllReadyH.nil
     have hload := cell_of_row _ _ 2 _ _ _ HN
     go_simp
     refine hK.out _ _ ?_ (fun hHeld => ?_)
     · trivial
     clear hK K
     (try simp only [Act.put, List.setIfInBounds_toArray, List.set_cons_zero, List.set_cons_succ])
     clear hload
     refine wpAnyH_take (i := 8) (oi := { dst := some 21, op := Op.build 108 #[(0, Operand.tmp 17), (1, Operand.tmp 20)], type := 108, pos := _, after := #[{ on := 4, ground := Ground.data }, { on := 7, ground := Ground.data }], guard := none }) (v := ?vk2_45) rfl (by kernel_rfl) (by kernel_rfl) (by kernel_rfl) (fun _ _ _ h => h) (Or.inl ⟨by rfl, ?yk2_45⟩) (by assumption) ?rk2_45
     case yk2_45 => (intro w' hSw; (try dsimp only at hSw); go_simp; (try with_reducible rfl))
     (try simp only [Act.put, List.setIfInBounds_toArray, List.set_cons_zero, List.set_cons_succ])
     refine wpAnyH_ready (rs := [9]) (by kernel_rfl) (by simp) ?_
     refine AllReadyH.cons (o := { dst := some 22, op := Op.buildSlice 26 1 #[(0, Operand.tmp 21)], type := 26, pos := _, after := #[{ on := 8, ground := Ground.data }], guard := none }) rfl (fun K hK => ?_) AllReadyH.nil
     go_simp
     refine hK.out _ _ ?_ (fun hHeld => ?_)
     · trivial
     clear hK K
     (try simp only [Act.put, List.setIfInBounds_toArray, List.set_cons_zero, List.set_cons_succ])
     refine wpAnyH_ready (rs := [10]) (by kernel_rfl) (by simp) ?_
     refine AllReadyH.cons (o := { dst := some 23, op := Op.call { callee := Callee.builtin Builtin.append, args := #[Operand.tmp 13, Operand.tmp 22], argTypes := #[26, 26] }, type := 26, pos := _, after := #[{ on := 0, ground := Ground.data }, { on := 9, ground := Ground.data }, { on := 7, ground := Ground.chain }], guard := none }) rfl (fun K hK => ?_) AllReadyH.nil
     refine step_append_ownL rfl (.tmp 13) (.tmp 22) 26 rfl w.heap.size 108 i0 (.agg #[.string ByteArray.empty, .string ByteArray.empty]) 2 32 Tryz.underlying26 hi0 hz0 hz1 hz2 rfl (by decide) (.slice (some ⟨g, 0, none⟩) ps.length q) ps.length (PK.cells ps) (by simp [Act.eval]) (HO.out.alloc _) ⟨x2_42.heap.size, 0, none⟩ 1 1 [.string { data := #[76, 73, 68] }, .string u] (by simp [Act.eval]) rfl (newL2 _ _ _ _) (by intro z hz; simp at hz; rcases hz with rfl | rfl <;> rfl) (by unfold maxLen; omega) (by omega) (by have := hsx2_42; simp; omega) ?_
     intro v6 w6 hown hgrow
     obtain ⟨g6, c6, rfl⟩ := own_someL hown
     have HDF := Lib.hid ((HD.out.al hlt (.cells #[.string { data := #[76, 73, 68] }, .string u] 108)).row hlt hgrow (fun j hj => (HO.out.lt j hj).1))
     have HOF : Hid (w6.ownsRow w.heap.size 108 2 (.slice (some ⟨g6, 0, none⟩) (ps.length + 1) c6) (ps.length + 1) (PK.cells (ps ++ [⟨{ data := #[76, 73, 68] }, u⟩]))) := Lib.hid (by rw [← PK.cells_push]; exact hown)
     clear hown hgrow
     refine hK.out _ _ ?_ (fun hHeld => ?_)
     · trivial
     clear hK K
     (try simp only [Act.put, List.setIfInBounds_toArray, List.set_cons_zero, List.set_cons_succ])
     refine wpAnyH_take (i := 11) (oi := { dst := some 3, op := Op.assign (Operand.tmp 23), type := 26, pos := _, after := #[{ on := 10, ground := Ground.data }, { on := 10, ground := Ground.chain }, { on := 0, ground := Ground.phase }, { on := 1, ground := Ground.phase }, { on := 2, ground := Ground.phase }, { on := 3, ground := Ground.phase }, { on := 4, ground := Ground.phase }, { on := 5, ground := Ground.phase }, { on := 6, ground := Ground.phase }, { on := 7, ground := Ground.phase }, { on := 8, ground := Ground.phase }, { on := 9, ground := Ground.phase }, { on := 10, ground := Ground.phase }], guard := none }) (v := ?vk2_48) rfl (by kernel_rfl) (by kernel_rfl) (by kernel_rfl) (fun _ _ _ h => h) (Or.inl ⟨by rfl, ?yk2_48⟩) (by assumption) ?rk2_48
     case yk2_48 => (intro w' hSw; (try dsimp only at hSw); go_simp; (try with_reducible rfl))
     (try simp only [Act.put, List.setIfInBounds_toArray, List.set_cons_zero, List.set_cons_succ])
     refine wpAnyH_done (by kernel_rfl) ?_ _
     go_wp2_with fail
     go_roundw
     case rel => exact ⟨3, ps ++ [⟨{ data := #[76, 73, 68] }, u⟩], g6, c6, rfl, by rw [List.length_append]; rfl, by decide, by rw [List.length_append, List.length_singleton]; omega, szp_push HZ.out (by decide) hu, by rw [List.length_append, List.length_singleton]; exact HOF, HDF⟩
     case measure => simp [intOf]
end Go.Proofs.YtmnncinpepeocaaGreat
