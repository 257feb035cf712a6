/-
  The draw of a routing: l12Routing.
-/
import Derived.Test.YtfcgdhedaefonaaStDr
import Derived.Test.YtfcgdhedaefonaaPickOf
import Derived.Test.YtfcgdhedaefonaaRTN
import Derived.Test.YtfcgdhedaefonaaOwnN
import Derived.Test.YtfcgdhedaefonaaDrawKeep
import Derived.Test.YtfcgdhedaefonaaDrawOnce
import Derived.Test.YtfcgdhedaefonaaHold
import Derived.WalkKit
import Derived.WalkSpells
import Derived.WalkSmall
import Derived.BigQuiet
import Derived.OneCell
import Derived.Deep.QuietTactic
import Derived.Deep.DeepCutAuto
import Derived.Deep.RegionHeld3
import Derived.Laws.AppendOwn
import Derived.Laws.OwnMore
import Derived.Lib.Hide
namespace Go.Proofs.Ytfcgdhedaefonaa
open Go.RowKit

theorem infoSTd : (Try.prog.info? 34).map (fun i => (i.zero, i.size, i.bytes)) = some (some (.agg #[.string ByteArray.empty, .int .i64 0, .int .i64 0]), 3, 32) := by kernel_rfl
theorem drawn_drew {B b : Nat} {a : Option Addr} {n c : Nat} {w w1 : World} (h : Drawn B b a n c w w1) : Drawn B b a n c w w1.drew := ⟨h.cur, h.grown.trans ⟨rfl, rfl, rfl, Nat.le_refl _, fun _ _ _ => rfl⟩⟩
/-- A routing drawn. -/
def DrewR (B b : Nat) (a : Option Addr) (n c : Nat) (s : ByteArray) (w : World) (e : Ending) (w' : World) : Prop := ∃ (p : Option Addr) (q : Nat) (l : List ST), e = .returned (.agg #[.string s, .slice p l.length q]) ∧ l.length ≤ 7 ∧ Hid (∀ x, x ∈ l → x.cen.size ≤ 1000) ∧ Hid (w'.ownsRow w.heap.size 34 3 (.slice p l.length q) l.length (ST.cells l)) ∧ Drawn B b a n c w w'
theorem st_push {l : List ST} {x : ST} (h : ∀ r, r ∈ l → r.cen.size ≤ 1000) (hx : x.cen.size ≤ 1000) : ∀ r, r ∈ l ++ [x] → r.cen.size ≤ 1000 := fun r hr => by
  rcases List.mem_append.1 hr with hr | hr
  · exact h r hr
  · rw [List.mem_singleton.1 hr]; exact hx
theorem new_3s (W : World) (x0 x1 x2 : Value) (T : TypeId) : ∀ (j : Nat) (u : Value), [x0, x1, x2][j]? = some u → (W.alloc (.cells #[x0, x1, x2] T)).cell? ((⟨W.heap.size, 0, none⟩ : Addr).add j) = some u := by
  intro j u hu
  match j, hu with
  | 0, hu => simp at hu; subst hu; exact cell_of_row _ _ 0 _ _ _ (heap_alloc_new _ _)
  | 1, hu => simp at hu; subst hu; exact cell_of_row _ _ 1 _ _ _ (heap_alloc_new _ _)
  | 2, hu => simp at hu; subst hu; exact cell_of_row _ _ 2 _ _ _ (heap_alloc_new _ _)
theorem own_neR {w : World} {base e K n q g : Nat} {p : Option Addr} {xs : List Value} {o : Array Value} {t : TypeId} (h : w.ownsRow base e K (.slice p n q) n xs) (hb : w.heap[g]? = some (.cells o t (0, 0))) (hne : e ≠ t) : some g ≠ (Value.slice p n q).ownBlock := fun e2 => by
  rcases h.2 with ⟨e1, _⟩ | ⟨g2, cap, cur, e1, _, hg, _⟩
  · injection e1 with e1 _ _
    subst e1; cases e2
  · injection e1 with e1 _ _
    subst e1
    have : g = g2 := Option.some.inj e2
    subst this
    rw [hb] at hg
    injection hg with h1
    injection h1 with _ h2
    exact hne h2.symm
theorem own_setR {w : World} {base e K n q g i : Nat} {p : Option Addr} {xs : List Value} {o : Array Value} {t : TypeId} {y : Value} (h : w.ownsRow base e K (.slice p n q) n xs) (hb : w.heap[g]? = some (.cells o t (0, 0))) (hne : e ≠ t) : (w.setCell ⟨g, i, none⟩ y).ownsRow base e K (.slice p n q) n xs :=
  ownsRow_setCell_other h (fun e2 => own_neR h hb hne e2.symm) y

set_option maxRecDepth 100000 in
set_option maxHeartbeats 8000000 in
theorem l12_routing (B b : Nat) (a : Option Addr) (n c : Nat) (s : ByteArray) (w : World) (hn : n ≤ 1048576) (hcode : CodeAt B w a n) (hcur : CurAt B w b a n c) (hBw : B ≤ w.heap.size) :
    Calls Try.prog 61 #[.pointer (some ⟨b, 0, none⟩), .string s] w (DrewR B b a n c s w) := by
  obtain ⟨i0, hi0, hz0, hz1, hz2⟩ := info_parts infoSTd
  have hlt := hcur.lt
  have HC0 := Lib.hid hcode
  have HD0 : Hid (Drawn B b a n c w ((w.alloc (.cells #[.string { data := #[] }, .slice none 0 0] 26)).alloc (.cells #[.string s, .slice none 0 0] 26))) := Lib.hid (((show Drawn B b a n c w w from ⟨hcur, ⟨rfl, rfl, rfl, Nat.le_refl _, fun _ _ _ => rfl⟩⟩).al hlt _).al hlt _)
  have HR0 := Lib.hid (heap_alloc2_old w (.cells #[.string { data := #[] }, .slice none 0 0] 26) (.cells #[.string s, .slice none 0 0] 26))
  have HX0 := Lib.hid (heap_alloc2_new w (.cells #[.string { data := #[] }, .slice none 0 0] 26) (.cells #[.string s, .slice none 0 0] 26))
  have hs0 : ((w.alloc (.cells #[.string { data := #[] }, .slice none 0 0] 26)).alloc (.cells #[.string s, .slice none 0 0] 26)).heap.size = w.heap.size + 1 + 1 := by simp
  have HS0 := Lib.hid hs0
  clear hcode hcur hs0
  go_enter Try.func61, Try.ntmps61
  go_upto_region 2 with fail
  generalize (w.alloc (.cells #[.string { data := #[] }, .slice none 0 0] 26)).alloc (.cells #[.string s, .slice none 0 0] 26) = w0 at *
  have hsw0 : w.heap.size ≤ w0.heap.size := by rw [HS0.out]; omega
  go_wp2_with fail
  refine (l1_below B b a n c 4 _ hn (HC0.out.below (HD0.out.below hBw)) HD0.out.cur (by omega) (by omega) (by omega)).mono ?_
  rintro e w1 ⟨t, rfl, ht0, ht1, hd⟩
  have HD1 := Lib.hid (HD0.out.trans hd)
  have HR1 := Lib.hid (Drawn.blk hd HR0.out (by omega))
  have HX1 := Lib.hid (Drawn.blk hd HX0.out (by omega))
  have hs1 := HD1.out.grown.size
  have hwt : IntKind.i64.wrap (1 + t) = 1 + t := (IntKind.wrap_i64 _).trans (by omega)
  clear hd HD0 HR0 HX0 hsw0
  obtain ⟨m0, hm0⟩ : ∃ m : Nat, 1 + t = (m : Int) := ⟨(1 + t).toNat, by omega⟩
  have hm7 : m0 ≤ 7 := by omega
  go_upto_region 3 with fail
  clear hwt hm0
  go_upto_if 14 with (go_at_call 68; refine (l1_once B b a n c 20 _ hn (HC0.out.below (HD1.out.below hBw)) HD1.out.cur (by omega) (by omega) (by omega)).mono ?_; rintro e w2 ⟨y, rfl, hd⟩)
  have HD2 := Lib.hid (HD1.out.trans hd)
  have HR2 := Lib.hid (Drawn.blk hd HR1.out (by omega))
  have HX2 := Lib.hid (Drawn.blk hd HX1.out (by omega))
  have hs2 := HD2.out.grown.size
  clear hd HD1 HR1 HX1
  go_cut [6] (fun sv wx => ∃ m : Nat, sv = .int .i64 m ∧ m ≤ 7 ∧ Hid (wx.heap[w.heap.size]? = some (.cells #[.string { data := #[] }, .slice none 0 0] 26)) ∧ Hid (wx.heap[w.heap.size + 1]? = some (.cells #[.string s, .slice none 0 0] 26)) ∧ Hid (Drawn B b a n c w wx))
  case first =>
    cases y with
    | false =>
      go_wp2_with fail
      go_meet
      exact ⟨m0, rfl, hm7, HR2, HX2, HD2⟩
    | true =>
      have HZ : NumsAt (w2.alloc (.cells #[.int .i64 0, .int .i64 6, .int .i64 7] 3)) w2.heap.size [0, 6, 7] := nums_new w2 3 [0, 6, 7]
      have HDA := Lib.hid (HD2.out.al hlt (.cells #[.int .i64 0, .int .i64 6, .int .i64 7] 3))
      have HRA := Lib.hid (blk_alloc HR2.out (.cells #[.int .i64 0, .int .i64 6, .int .i64 7] 3))
      have HXA := Lib.hid (blk_alloc HX2.out (.cells #[.int .i64 0, .int .i64 6, .int .i64 7] 3))
      go_wp2_with fail
      refine (l1_pickOf B b w2.heap.size [0, 6, 7] a n c _ hn (HC0.out.below (HDA.out.below hBw)) HDA.out.cur (by decide) (by decide) (by simp; omega) (by omega) HZ).mono ?_
      rintro e w3 ⟨z, rfl, hz, hd⟩
      have HD3 := Lib.hid (HDA.out.trans hd)
      have HR3 := Lib.hid (Drawn.blk hd HRA.out (by omega))
      have HX3 := Lib.hid (Drawn.blk hd HXA.out (by omega))
      obtain ⟨m, rfl, hm⟩ : ∃ m : Nat, z = (m : Int) ∧ m ≤ 7 := by
        simp only [List.mem_cons, List.mem_nil_iff, or_false] at hz
        exact ⟨z.toNat, by omega, by omega⟩
      clear hd hz HZ HDA HRA HXA
      go_wp2_with fail
      go_meet
      exact ⟨m, rfl, hm, HR3, HX3, HD3⟩
  case rest =>
    clear HR2 HX2 HD2 hs2 hm7
    obtain ⟨m, rfl, hm, HR0, HX0, HD0⟩ := hcut
    have HO0 : Hid (wc.ownsRow w.heap.size 34 3 (.slice none 0 0) 0 (ST.cells [])) := Lib.hid (World.ownsRow_nil _ _ _ _)
    go_wp2_with fail
    go_loopw [7] (fun i wr => ∃ (k : Nat) (l : List ST) (p : Option Addr) (q : Nat), k ≤ m ∧ i = .int .i64 k ∧ Hid (l.length = k) ∧ Hid (∀ r, r ∈ l → r.cen.size ≤ 1000) ∧ Hid (wr.heap[w.heap.size]? = some (.cells #[.string { data := #[] }, .slice none 0 0] 26)) ∧ Hid (wr.heap[w.heap.size + 1]? = some (.cells #[.string s, .slice p l.length q] 26)) ∧ Hid (wr.ownsRow w.heap.size 34 3 (.slice p l.length q) l.length (ST.cells l)) ∧ Hid (Drawn B b a n c w wr)) (fun i _ => m - (intOf i).toNat)
    case atStart => exact ⟨0, [], none, 0, Nat.zero_le _, rfl, Lib.hid rfl, Lib.hid (fun r hr => by cases hr), HR0, HX0, HO0, HD0⟩
    case round =>
      clear HR0 HX0 HO0 HD0
      obtain ⟨k, l, p, q, hk, rfl, HLK, HZ, HR, HX, HO, HD⟩ := hrel
      have hsr := HD.out.grown.size
      by_cases hkm : k < m
      rotate_left
      · have hd : decide ((k : Int) < (m : Int)) = false := decide_eq_false (by omega)
        have hl7 : l.length ≤ 7 := by rw [HLK.out]; omega
        have q0 := cell_of_row _ _ 0 _ _ _ HX.out
        have q1 := cell_of_row _ _ 1 _ _ _ HX.out
        have r0 := cell_of_row _ _ 0 _ _ _ HR.out
        have r1 := cell_of_row _ _ 1 _ _ _ HR.out
        have z0 := frozen_of_row _ _ 0 _ _ HR.out
        have z1 := frozen_of_row _ _ 1 _ _ HR.out
        go_wp2_with fail
        refine bodyPost_ret (v := .agg #[.string s, .slice p l.length q]) (results_cell_row Try.results61 _ _ _ _ #[.string s, .slice p l.length q] (0, 0) _ rfl (heap_setCell_same _ _ 1 _ _ _ (heap_setCell_same _ _ 0 _ _ _ HR.out)) Try.underlying26 rfl (by kernel_rfl)) rfl ⟨p, q, l, rfl, hl7, HZ, Lib.hid (own_setR (own_setR HO.out HR.out (by decide)) (heap_setCell_same _ _ 0 _ _ _ HR.out) (by decide)), (HD.out.set1 hlt (Nat.le_refl _)).set1 hlt (Nat.le_refl _)⟩
      have HKM := Lib.hid hkm
      have hd : decide ((k : Int) < (m : Int)) = true := decide_eq_true (by omega)
      have hl7 : l.length ≤ 6 := by rw [HLK.out]; omega
      go_upto_region 8 with fail
      have HRx : Hid (wr.drew.heap[w.heap.size]? = some (.cells #[.string { data := #[] }, .slice none 0 0] 26)) := HR
      have HXx : Hid (wr.drew.heap[w.heap.size + 1]? = some (.cells #[.string s, .slice p l.length q] 26)) := HX
      have HOx : Hid (wr.drew.ownsRow w.heap.size 34 3 (.slice p l.length q) l.length (ST.cells l)) := HO
      have HDr := Lib.hid (drawn_drew HD.out)
      have HCx := Lib.hid (HC0.out.below (HDr.out.below hBw))
      clear HR HX HO HD
      refine wp_region_held_drew (S := (fun _ => 0 ≤ w.heap.size)) (by kernel_rfl) (Nat.zero_le _) (fun hHeld => ?_)
      refine wpAnyH_take (i := 0) (oi := { dst := some 23, op := Op.fieldAddr 26 (Operand.tmp 5) 1, type := 0, pos := _, after := #[], guard := none }) (v := ?vr1x1) rfl (by kernel_rfl) (by kernel_rfl) (by kernel_rfl) (fun _ _ _ h => h) (Or.inl ⟨by rfl, ?yr1x1⟩) (by assumption) ?rr1x1
      case yr1x1 => (intro w' hSw; (try dsimp only at hSw); go_simp; (try with_reducible rfl))
      refine wpAnyH_take (i := 2) (oi := { dst := some 25, op := Op.move (Operand.tmp 0), type := 75, pos := _, after := #[], guard := none }) (v := ?vr1x2) rfl (by kernel_rfl) (by kernel_rfl) (by kernel_rfl) (fun _ _ _ h => h) (Or.inl ⟨by rfl, ?yr1x2⟩) (by assumption) ?rr1x2
      case yr1x2 => (intro w' hSw; (try dsimp only at hSw); go_simp; (try with_reducible rfl))
      (try simp only [Act.put, List.setIfInBounds_toArray, List.set_cons_zero, List.set_cons_succ])
      refine wpAnyH_ready (rs := [1, 3]) (by kernel_rfl) (by simp) ?_
      refine AllReadyH.cons (o := { dst := some 24, op := Op.load 24 (Operand.tmp 23), type := 24, pos := _, after := #[{ on := 0, ground := Ground.data }], guard := none }) rfl (fun K hK => ?_) ?_
      · skip
        have q1 := cell_of_row _ _ 1 _ _ _ HXx.out
        go_simp
        (try go_wp2_with fail)
        refine hK.out _ _ ?_ (fun hHeld => ?_)
        · (try dsimp only); first | with_reducible assumption | exact Nat.zero_le _
        clear hK K
        (try simp only [Act.put, List.setIfInBounds_toArray, List.set_cons_zero, List.set_cons_succ])
        clear q1
        refine wpAnyH_ready (rs := [3]) (by kernel_rfl) (by simp) ?_
        refine AllReadyH.cons (o := { dst := some 26, op := Op.call { callee := Callee.value (Operand.func 70), args := #[Operand.tmp 25], argTypes := #[75] }, type := 34, pos := _, after := #[{ on := 2, ground := Ground.data }], guard := none }) rfl (fun K hK => ?_) AllReadyH.nil
        go_simp
        refine (l12_step B b a n c _ hn HCx.out HDr.out.cur (by have := HDr.out.grown.size; omega)).mono ?_; rintro e w' ⟨x, rfl, hx, hd⟩; have HZX := Lib.hid hx; have HOx := Lib.hid (own_hdC HOx.out hd.grown hlt); have HXx := Lib.hid (Drawn.blk hd HXx.out (by omega)); have HRx := Lib.hid (Drawn.blk hd HRx.out (by omega)); have HDr := Lib.hid (HDr.out.trans hd); have hsx := HDr.out.grown.size; clear hd hx; unfold ST.val
        (try go_wp2_with fail)
        refine hK.out _ _ ?_ (fun hHeld => ?_)
        · (try dsimp only); first | with_reducible assumption | exact Nat.zero_le _
        clear hK K
        (try simp only [Act.put, List.setIfInBounds_toArray, List.set_cons_zero, List.set_cons_succ])
        refine wpAnyH_ready (rs := [4]) (by kernel_rfl) (by simp) ?_
        refine AllReadyH.cons (o := { dst := some 27, op := Op.buildSlice 24 1 #[(0, Operand.tmp 26)], type := 24, pos := _, after := #[{ on := 3, ground := Ground.data }], guard := none }) rfl (fun K hK => ?_) AllReadyH.nil
        go_simp
        (try go_wp2_with fail)
        refine hK.out _ _ ?_ (fun hHeld => ?_)
        · (try dsimp only); first | with_reducible assumption | exact Nat.zero_le _
        clear hK K
        (try simp only [Act.put, List.setIfInBounds_toArray, List.set_cons_zero, List.set_cons_succ])
        have HXx := Lib.hid (blk_alloc HXx.out (.cells #[.string x.cen, .int .i64 x.stu, .int .i64 x.run] 34)); have HRx := Lib.hid (blk_alloc HRx.out (.cells #[.string x.cen, .int .i64 x.stu, .int .i64 x.run] 34)); have HOx := Lib.hid (HOx.out.alloc (.cells #[.string x.cen, .int .i64 x.stu, .int .i64 x.run] 34)); have HDr := Lib.hid (HDr.out.al hlt (.cells #[.string x.cen, .int .i64 x.stu, .int .i64 x.run] 34))
        refine wpAnyH_ready (rs := [5]) (by kernel_rfl) (by simp) ?_
        refine AllReadyH.cons (o := { dst := some 28, op := Op.call { callee := Callee.builtin Builtin.append, args := #[Operand.tmp 24, Operand.tmp 27], argTypes := #[24, 24] }, type := 24, pos := _, after := #[{ on := 1, ground := Ground.data }, { on := 4, ground := Ground.data }, { on := 3, ground := Ground.chain }], guard := none }) rfl (fun K hK => ?_) AllReadyH.nil
        refine step_append_ownL rfl (.tmp 24) (.tmp 27) 24 rfl w.heap.size 34 i0 (.agg #[.string ByteArray.empty, .int .i64 0, .int .i64 0]) 3 32 Try.underlying24 hi0 hz0 hz1 hz2 rfl (by decide) (.slice p l.length q) l.length (ST.cells l) (by simp [Act.eval]) HOx.out ⟨w'.heap.size, 0, none⟩ 1 1 [.string x.cen, .int .i64 x.stu, .int .i64 x.run] (by simp [Act.eval]) rfl (new_3s _ _ _ _ _) (by intro z hz; simp at hz; rcases hz with rfl | rfl | rfl <;> rfl) (by unfold maxLen; omega) (by omega) (by simp; omega) ?_; intro v6 w6 hown hgrow; obtain ⟨p6, q6, rfl⟩ := own_sliceN hown; have HX6 := Lib.hid ((hgrow.block (w.heap.size + 1) (lt_of_heap HXx.out) (own_neR HOx.out HXx.out (by decide))).trans HXx.out); have HR6 := Lib.hid ((hgrow.block w.heap.size (lt_of_heap HRx.out) (own_neR HOx.out HRx.out (by decide))).trans HRx.out); have HO6 : Hid (w6.ownsRow w.heap.size 34 3 (.slice p6 (l.length + 1) q6) (l.length + 1) (ST.cells (l ++ [x]))) := Lib.hid (by rw [← ST.cells_push]; exact hown); have HD6 := Lib.hid (HDr.out.row hlt hgrow (fun g hg2 => (HOx.out.lt g hg2).1)); clear hown hgrow
        refine hK.out _ _ ?_ (fun hHeld => ?_)
        · (try dsimp only); first | with_reducible assumption | exact Nat.zero_le _
        clear hK K
        (try simp only [Act.put, List.setIfInBounds_toArray, List.set_cons_zero, List.set_cons_succ])
        refine wpAnyH_take (i := 6) (oi := { dst := some 29, op := Op.fieldAddr 26 (Operand.tmp 5) 1, type := 0, pos := _, after := #[{ on := 0, ground := Ground.phase }, { on := 1, ground := Ground.phase }, { on := 2, ground := Ground.phase }, { on := 3, ground := Ground.phase }, { on := 4, ground := Ground.phase }, { on := 5, ground := Ground.phase }], guard := none }) (v := ?vr1x3) rfl (by kernel_rfl) (by kernel_rfl) (by kernel_rfl) (fun _ _ _ h => h) (Or.inl ⟨by rfl, ?yr1x3⟩) (by assumption) ?rr1x3
        case yr1x3 => (intro w' hSw; (try dsimp only at hSw); go_simp; (try with_reducible rfl))
        (try simp only [Act.put, List.setIfInBounds_toArray, List.set_cons_zero, List.set_cons_succ])
        refine wpAnyH_ready (rs := [7]) (by kernel_rfl) (by simp) ?_
        refine AllReadyH.cons (o := { dst := none, op := Op.store 24 (Operand.tmp 29) (Operand.tmp 28), type := 0, pos := _, after := #[{ on := 6, ground := Ground.data }, { on := 5, ground := Ground.data }, { on := 5, ground := Ground.chain }, { on := 0, ground := Ground.phase }, { on := 1, ground := Ground.phase }, { on := 2, ground := Ground.phase }, { on := 3, ground := Ground.phase }, { on := 4, ground := Ground.phase }, { on := 5, ground := Ground.phase }], guard := none }) rfl (fun K hK => ?_) AllReadyH.nil
        have q1 := cell_of_row _ _ 1 _ _ _ HX6.out; have f1 := frozen_of_row _ _ 1 _ _ HX6.out
        go_simp
        (try go_wp2_with fail)
        refine hK.out _ _ ?_ (fun hHeld => ?_)
        · (try dsimp only); first | with_reducible assumption | exact Nat.zero_le _
        clear hK K
        (try simp only [Act.put, List.setIfInBounds_toArray, List.set_cons_zero, List.set_cons_succ])
        refine wpAnyH_done (by kernel_rfl) ?_ _
        have HX7 := Lib.hid (show (w6.setCell ⟨w.heap.size + 1, 1, none⟩ (.slice p6 (l.length + 1) q6)).heap[w.heap.size + 1]? = some (.cells #[.string s, .slice p6 (l.length + 1) q6] 26) from heap_setCell_same _ _ 1 _ _ _ HX6.out)
        have HR7 := Lib.hid (show (w6.setCell ⟨w.heap.size + 1, 1, none⟩ (.slice p6 (l.length + 1) q6)).heap[w.heap.size]? = some (.cells #[.string { data := #[] }, .slice none 0 0] 26) from (heap_setCell_other _ _ _ _ (by simp)).trans HR6.out)
        have HO7 := Lib.hid (own_setR (i := 1) (y := .slice p6 (l.length + 1) q6) HO6.out HX6.out (by decide))
        have HD7 := Lib.hid (HD6.out.set1 (g := w.heap.size + 1) (i := 1) (x := .slice p6 (l.length + 1) q6) hlt (by omega))
        have HZ7 := Lib.hid (st_push HZ.out HZX.out)
        have HL7 : Hid ((l ++ [x]).length = l.length + 1) := Lib.hid (by simp)
        go_wp2_with fail
        go_roundw
        case rel => exact ⟨k + 1, l ++ [x], p6, q6, by have := HKM.out; omega, by go_num, Lib.hid (by rw [HL7.out, HLK.out]), HZ7, HR7, by rw [HL7.out]; exact HX7, by rw [HL7.out]; exact HO7, HD7⟩
        case measure => have := HKM.out; simp [intOf]; omega
      refine AllReadyH.cons (o := { dst := some 26, op := Op.call { callee := Callee.value (Operand.func 70), args := #[Operand.tmp 25], argTypes := #[75] }, type := 34, pos := _, after := #[{ on := 2, ground := Ground.data }], guard := none }) rfl (fun K hK => ?_) AllReadyH.nil
      go_simp
      refine (l12_step B b a n c _ hn HCx.out HDr.out.cur (by have := HDr.out.grown.size; omega)).mono ?_; rintro e w' ⟨x, rfl, hx, hd⟩; have HZX := Lib.hid hx; have HOx := Lib.hid (own_hdC HOx.out hd.grown hlt); have HXx := Lib.hid (Drawn.blk hd HXx.out (by omega)); have HRx := Lib.hid (Drawn.blk hd HRx.out (by omega)); have HDr := Lib.hid (HDr.out.trans hd); have hsx := HDr.out.grown.size; clear hd hx; unfold ST.val
      (try go_wp2_with fail)
      refine hK.out _ _ ?_ (fun hHeld => ?_)
      · (try dsimp only); first | with_reducible assumption | exact Nat.zero_le _
      clear hK K
      (try simp only [Act.put, List.setIfInBounds_toArray, List.set_cons_zero, List.set_cons_succ])
      refine wpAnyH_ready (rs := [1, 4]) (by kernel_rfl) (by simp) ?_
      refine AllReadyH.cons (o := { dst := some 24, op := Op.load 24 (Operand.tmp 23), type := 24, pos := _, after := #[{ on := 0, ground := Ground.data }], guard := none }) rfl (fun K hK => ?_) ?_
      · skip
        have q1 := cell_of_row _ _ 1 _ _ _ HXx.out
        go_simp
        (try go_wp2_with fail)
        refine hK.out _ _ ?_ (fun hHeld => ?_)
        · (try dsimp only); first | with_reducible assumption | exact Nat.zero_le _
        clear hK K
        (try simp only [Act.put, List.setIfInBounds_toArray, List.set_cons_zero, List.set_cons_succ])
        clear q1
        refine wpAnyH_ready (rs := [4]) (by kernel_rfl) (by simp) ?_
        refine AllReadyH.cons (o := { dst := some 27, op := Op.buildSlice 24 1 #[(0, Operand.tmp 26)], type := 24, pos := _, after := #[{ on := 3, ground := Ground.data }], guard := none }) rfl (fun K hK => ?_) AllReadyH.nil
        go_simp
        (try go_wp2_with fail)
        refine hK.out _ _ ?_ (fun hHeld => ?_)
        · (try dsimp only); first | with_reducible assumption | exact Nat.zero_le _
        clear hK K
        (try simp only [Act.put, List.setIfInBounds_toArray, List.set_cons_zero, List.set_cons_succ])
        have HXx := Lib.hid (blk_alloc HXx.out (.cells #[.string x.cen, .int .i64 x.stu, .int .i64 x.run] 34)); have HRx := Lib.hid (blk_alloc HRx.out (.cells #[.string x.cen, .int .i64 x.stu, .int .i64 x.run] 34)); have HOx := Lib.hid (HOx.out.alloc (.cells #[.string x.cen, .int .i64 x.stu, .int .i64 x.run] 34)); have HDr := Lib.hid (HDr.out.al hlt (.cells #[.string x.cen, .int .i64 x.stu, .int .i64 x.run] 34))
        refine wpAnyH_ready (rs := [5]) (by kernel_rfl) (by simp) ?_
        refine AllReadyH.cons (o := { dst := some 28, op := Op.call { callee := Callee.builtin Builtin.append, args := #[Operand.tmp 24, Operand.tmp 27], argTypes := #[24, 24] }, type := 24, pos := _, after := #[{ on := 1, ground := Ground.data }, { on := 4, ground := Ground.data }, { on := 3, ground := Ground.chain }], guard := none }) rfl (fun K hK => ?_) AllReadyH.nil
        refine step_append_ownL rfl (.tmp 24) (.tmp 27) 24 rfl w.heap.size 34 i0 (.agg #[.string ByteArray.empty, .int .i64 0, .int .i64 0]) 3 32 Try.underlying24 hi0 hz0 hz1 hz2 rfl (by decide) (.slice p l.length q) l.length (ST.cells l) (by simp [Act.eval]) HOx.out ⟨w'.heap.size, 0, none⟩ 1 1 [.string x.cen, .int .i64 x.stu, .int .i64 x.run] (by simp [Act.eval]) rfl (new_3s _ _ _ _ _) (by intro z hz; simp at hz; rcases hz with rfl | rfl | rfl <;> rfl) (by unfold maxLen; omega) (by omega) (by simp; omega) ?_; intro v6 w6 hown hgrow; obtain ⟨p6, q6, rfl⟩ := own_sliceN hown; have HX6 := Lib.hid ((hgrow.block (w.heap.size + 1) (lt_of_heap HXx.out) (own_neR HOx.out HXx.out (by decide))).trans HXx.out); have HR6 := Lib.hid ((hgrow.block w.heap.size (lt_of_heap HRx.out) (own_neR HOx.out HRx.out (by decide))).trans HRx.out); have HO6 : Hid (w6.ownsRow w.heap.size 34 3 (.slice p6 (l.length + 1) q6) (l.length + 1) (ST.cells (l ++ [x]))) := Lib.hid (by rw [← ST.cells_push]; exact hown); have HD6 := Lib.hid (HDr.out.row hlt hgrow (fun g hg2 => (HOx.out.lt g hg2).1)); clear hown hgrow
        refine hK.out _ _ ?_ (fun hHeld => ?_)
        · (try dsimp only); first | with_reducible assumption | exact Nat.zero_le _
        clear hK K
        (try simp only [Act.put, List.setIfInBounds_toArray, List.set_cons_zero, List.set_cons_succ])
        refine wpAnyH_take (i := 6) (oi := { dst := some 29, op := Op.fieldAddr 26 (Operand.tmp 5) 1, type := 0, pos := _, after := #[{ on := 0, ground := Ground.phase }, { on := 1, ground := Ground.phase }, { on := 2, ground := Ground.phase }, { on := 3, ground := Ground.phase }, { on := 4, ground := Ground.phase }, { on := 5, ground := Ground.phase }], guard := none }) (v := ?vr1x4) rfl (by kernel_rfl) (by kernel_rfl) (by kernel_rfl) (fun _ _ _ h => h) (Or.inl ⟨by rfl, ?yr1x4⟩) (by assumption) ?rr1x4
        case yr1x4 => (intro w' hSw; (try dsimp only at hSw); go_simp; (try with_reducible rfl))
        (try simp only [Act.put, List.setIfInBounds_toArray, List.set_cons_zero, List.set_cons_succ])
        refine wpAnyH_ready (rs := [7]) (by kernel_rfl) (by simp) ?_
        refine AllReadyH.cons (o := { dst := none, op := Op.store 24 (Operand.tmp 29) (Operand.tmp 28), type := 0, pos := _, after := #[{ on := 6, ground := Ground.data }, { on := 5, ground := Ground.data }, { on := 5, ground := Ground.chain }, { on := 0, ground := Ground.phase }, { on := 1, ground := Ground.phase }, { on := 2, ground := Ground.phase }, { on := 3, ground := Ground.phase }, { on := 4, ground := Ground.phase }, { on := 5, ground := Ground.phase }], guard := none }) rfl (fun K hK => ?_) AllReadyH.nil
        have q1 := cell_of_row _ _ 1 _ _ _ HX6.out; have f1 := frozen_of_row _ _ 1 _ _ HX6.out
        go_simp
        (try go_wp2_with fail)
        refine hK.out _ _ ?_ (fun hHeld => ?_)
        · (try dsimp only); first | with_reducible assumption | exact Nat.zero_le _
        clear hK K
        (try simp only [Act.put, List.setIfInBounds_toArray, List.set_cons_zero, List.set_cons_succ])
        refine wpAnyH_done (by kernel_rfl) ?_ _
        have HX7 := Lib.hid (show (w6.setCell ⟨w.heap.size + 1, 1, none⟩ (.slice p6 (l.length + 1) q6)).heap[w.heap.size + 1]? = some (.cells #[.string s, .slice p6 (l.length + 1) q6] 26) from heap_setCell_same _ _ 1 _ _ _ HX6.out)
        have HR7 := Lib.hid (show (w6.setCell ⟨w.heap.size + 1, 1, none⟩ (.slice p6 (l.length + 1) q6)).heap[w.heap.size]? = some (.cells #[.string { data := #[] }, .slice none 0 0] 26) from (heap_setCell_other _ _ _ _ (by simp)).trans HR6.out)
        have HO7 := Lib.hid (own_setR (i := 1) (y := .slice p6 (l.length + 1) q6) HO6.out HX6.out (by decide))
        have HD7 := Lib.hid (HD6.out.set1 (g := w.heap.size + 1) (i := 1) (x := .slice p6 (l.length + 1) q6) hlt (by omega))
        have HZ7 := Lib.hid (st_push HZ.out HZX.out)
        have HL7 : Hid ((l ++ [x]).length = l.length + 1) := Lib.hid (by simp)
        go_wp2_with fail
        go_roundw
        case rel => exact ⟨k + 1, l ++ [x], p6, q6, by have := HKM.out; omega, by go_num, Lib.hid (by rw [HL7.out, HLK.out]), HZ7, HR7, by rw [HL7.out]; exact HX7, by rw [HL7.out]; exact HO7, HD7⟩
        case measure => have := HKM.out; simp [intOf]; omega
      refine AllReadyH.cons (o := { dst := some 27, op := Op.buildSlice 24 1 #[(0, Operand.tmp 26)], type := 24, pos := _, after := #[{ on := 3, ground := Ground.data }], guard := none }) rfl (fun K hK => ?_) AllReadyH.nil
      go_simp
      (try go_wp2_with fail)
      refine hK.out _ _ ?_ (fun hHeld => ?_)
      · (try dsimp only); first | with_reducible assumption | exact Nat.zero_le _
      clear hK K
      (try simp only [Act.put, List.setIfInBounds_toArray, List.set_cons_zero, List.set_cons_succ])
      have HXx := Lib.hid (blk_alloc HXx.out (.cells #[.string x.cen, .int .i64 x.stu, .int .i64 x.run] 34)); have HRx := Lib.hid (blk_alloc HRx.out (.cells #[.string x.cen, .int .i64 x.stu, .int .i64 x.run] 34)); have HOx := Lib.hid (HOx.out.alloc (.cells #[.string x.cen, .int .i64 x.stu, .int .i64 x.run] 34)); have HDr := Lib.hid (HDr.out.al hlt (.cells #[.string x.cen, .int .i64 x.stu, .int .i64 x.run] 34))
      refine wpAnyH_ready (rs := [1]) (by kernel_rfl) (by simp) ?_
      refine AllReadyH.cons (o := { dst := some 24, op := Op.load 24 (Operand.tmp 23), type := 24, pos := _, after := #[{ on := 0, ground := Ground.data }], guard := none }) rfl (fun K hK => ?_) AllReadyH.nil
      have q1 := cell_of_row _ _ 1 _ _ _ HXx.out
      go_simp
      (try go_wp2_with fail)
      refine hK.out _ _ ?_ (fun hHeld => ?_)
      · (try dsimp only); first | with_reducible assumption | exact Nat.zero_le _
      clear hK K
      (try simp only [Act.put, List.setIfInBounds_toArray, List.set_cons_zero, List.set_cons_succ])
      clear q1
      refine wpAnyH_ready (rs := [5]) (by kernel_rfl) (by simp) ?_
      refine AllReadyH.cons (o := { dst := some 28, op := Op.call { callee := Callee.builtin Builtin.append, args := #[Operand.tmp 24, Operand.tmp 27], argTypes := #[24, 24] }, type := 24, pos := _, after := #[{ on := 1, ground := Ground.data }, { on := 4, ground := Ground.data }, { on := 3, ground := Ground.chain }], guard := none }) rfl (fun K hK => ?_) AllReadyH.nil
      refine step_append_ownL rfl (.tmp 24) (.tmp 27) 24 rfl w.heap.size 34 i0 (.agg #[.string ByteArray.empty, .int .i64 0, .int .i64 0]) 3 32 Try.underlying24 hi0 hz0 hz1 hz2 rfl (by decide) (.slice p l.length q) l.length (ST.cells l) (by simp [Act.eval]) HOx.out ⟨w'.heap.size, 0, none⟩ 1 1 [.string x.cen, .int .i64 x.stu, .int .i64 x.run] (by simp [Act.eval]) rfl (new_3s _ _ _ _ _) (by intro z hz; simp at hz; rcases hz with rfl | rfl | rfl <;> rfl) (by unfold maxLen; omega) (by omega) (by simp; omega) ?_; intro v6 w6 hown hgrow; obtain ⟨p6, q6, rfl⟩ := own_sliceN hown; have HX6 := Lib.hid ((hgrow.block (w.heap.size + 1) (lt_of_heap HXx.out) (own_neR HOx.out HXx.out (by decide))).trans HXx.out); have HR6 := Lib.hid ((hgrow.block w.heap.size (lt_of_heap HRx.out) (own_neR HOx.out HRx.out (by decide))).trans HRx.out); have HO6 : Hid (w6.ownsRow w.heap.size 34 3 (.slice p6 (l.length + 1) q6) (l.length + 1) (ST.cells (l ++ [x]))) := Lib.hid (by rw [← ST.cells_push]; exact hown); have HD6 := Lib.hid (HDr.out.row hlt hgrow (fun g hg2 => (HOx.out.lt g hg2).1)); clear hown hgrow
      refine hK.out _ _ ?_ (fun hHeld => ?_)
      · (try dsimp only); first | with_reducible assumption | exact Nat.zero_le _
      clear hK K
      (try simp only [Act.put, List.setIfInBounds_toArray, List.set_cons_zero, List.set_cons_succ])
      refine wpAnyH_take (i := 6) (oi := { dst := some 29, op := Op.fieldAddr 26 (Operand.tmp 5) 1, type := 0, pos := _, after := #[{ on := 0, ground := Ground.phase }, { on := 1, ground := Ground.phase }, { on := 2, ground := Ground.phase }, { on := 3, ground := Ground.phase }, { on := 4, ground := Ground.phase }, { on := 5, ground := Ground.phase }], guard := none }) (v := ?vr1x5) rfl (by kernel_rfl) (by kernel_rfl) (by kernel_rfl) (fun _ _ _ h => h) (Or.inl ⟨by rfl, ?yr1x5⟩) (by assumption) ?rr1x5
      case yr1x5 => (intro w' hSw; (try dsimp only at hSw); go_simp; (try with_reducible rfl))
      (try simp only [Act.put, List.setIfInBounds_toArray, List.set_cons_zero, List.set_cons_succ])
      refine wpAnyH_ready (rs := [7]) (by kernel_rfl) (by simp) ?_
      refine AllReadyH.cons (o := { dst := none, op := Op.store 24 (Operand.tmp 29) (Operand.tmp 28), type := 0, pos := _, after := #[{ on := 6, ground := Ground.data }, { on := 5, ground := Ground.data }, { on := 5, ground := Ground.chain }, { on := 0, ground := Ground.phase }, { on := 1, ground := Ground.phase }, { on := 2, ground := Ground.phase }, { on := 3, ground := Ground.phase }, { on := 4, ground := Ground.phase }, { on := 5, ground := Ground.phase }], guard := none }) rfl (fun K hK => ?_) AllReadyH.nil
      have q1 := cell_of_row _ _ 1 _ _ _ HX6.out; have f1 := frozen_of_row _ _ 1 _ _ HX6.out
      go_simp
      (try go_wp2_with fail)
      refine hK.out _ _ ?_ (fun hHeld => ?_)
      · (try dsimp only); first | with_reducible assumption | exact Nat.zero_le _
      clear hK K
      (try simp only [Act.put, List.setIfInBounds_toArray, List.set_cons_zero, List.set_cons_succ])
      refine wpAnyH_done (by kernel_rfl) ?_ _
      have HX7 := Lib.hid (show (w6.setCell ⟨w.heap.size + 1, 1, none⟩ (.slice p6 (l.length + 1) q6)).heap[w.heap.size + 1]? = some (.cells #[.string s, .slice p6 (l.length + 1) q6] 26) from heap_setCell_same _ _ 1 _ _ _ HX6.out)
      have HR7 := Lib.hid (show (w6.setCell ⟨w.heap.size + 1, 1, none⟩ (.slice p6 (l.length + 1) q6)).heap[w.heap.size]? = some (.cells #[.string { data := #[] }, .slice none 0 0] 26) from (heap_setCell_other _ _ _ _ (by simp)).trans HR6.out)
      have HO7 := Lib.hid (own_setR (i := 1) (y := .slice p6 (l.length + 1) q6) HO6.out HX6.out (by decide))
      have HD7 := Lib.hid (HD6.out.set1 (g := w.heap.size + 1) (i := 1) (x := .slice p6 (l.length + 1) q6) hlt (by omega))
      have HZ7 := Lib.hid (st_push HZ.out HZX.out)
      have HL7 : Hid ((l ++ [x]).length = l.length + 1) := Lib.hid (by simp)
      go_wp2_with fail
      go_roundw
      case rel => exact ⟨k + 1, l ++ [x], p6, q6, by have := HKM.out; omega, by go_num, Lib.hid (by rw [HL7.out, HLK.out]), HZ7, HR7, by rw [HL7.out]; exact HX7, by rw [HL7.out]; exact HO7, HD7⟩
      case measure => have := HKM.out; simp [intOf]; omega
end Go.Proofs.Ytfcgdhedaefonaa
