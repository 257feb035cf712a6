/-
  The program's ParseCond: the deferred closure; the whole.
-/
import Derived.Test.YtghofgjlmfdnpaaCondRds
import Derived.Test.YtghofgjlmfdnpaaCondEx
import Derived.Tactics
import Derived.Tactics2
import Derived.Defers
import Derived.Recover
import Derived.Laws.Pointers
import Derived.WalkKit
import Derived.WalkSpells
import Derived.WalkSmall
import Derived.BigQuiet
import Derived.Deep.QuietTactic
import Derived.Deep.DeepCutAuto
import Derived.Lib.Hide
namespace Go.Proofs.Ytghofgjlmfdnpaa
open Go.RowKit

theorem catch_pan (p r : Addr) (x y : Value) (u : TypeId) (pv : Value) (older : List PanicEntry) (w : World) (hc : w.cell? p = some x) (hz : w.frozen? p = false) (hc2 : (w.setCell p (.slice none 0 0)).cell? r = some y) (hz2 : w.frozen? r = false) :
    CallsD Try.prog 43 #[.pointer (some p), .pointer (some r)] (.panicking ({ v := .iface u pv, recovered := false } :: older)) w fun e u' w' =>
      e = .returned (.tuple #[]) ∧ u' = .panicking ({ v := .iface u pv, recovered := true } :: older) ∧ w' = (w.setCell p (.slice none 0 0)).setCell r (.bool false) := by
  refine callsD_of_wpS Try.func43 rfl fun c₀ cs hu => ?_
  apply wpS_seq
  apply wpS_region
  simp [wpOpsS, go_sem, recoverD, hu, Try.ntmps43, Exit.thenS]
  refine wpS_cond (t := true) (by simp [Act.eval, Array.replicate]) ?_
  simp only [if_true]
  apply wpS_region
  simp [wpOpsS, go_sem, hc, hz, hc2, hz2, bodyPostS, results, Try.results43]

theorem catch_not (p r : Addr) (w : World) :
    CallsD Try.prog 43 #[.pointer (some p), .pointer (some r)] .returning w fun e u' w' => e = .returned (.tuple #[]) ∧ u' = .returning ∧ w' = w := by
  refine callsD_of_wpS Try.func43 rfl fun c₀ cs hu => ?_
  apply wpS_seq
  apply wpS_region
  simp [wpOpsS, go_sem, recoverD, hu, Try.ntmps43, Exit.thenS]
  refine wpS_cond (t := false) (by simp [Act.eval, Array.replicate]) ?_
  simp only [Bool.false_eq_true, if_false]
  refine wpS_of_wp (wp_skip ?_)
  cases c₀
  simp_all [bodyPostS, results, Try.results43]

/-- The two named results and the reader. -/
abbrev resA : Obj := .cells #[.slice none 0 0] 24
abbrev resB : Obj := .cells #[.bool false] 4
abbrev resR (s : ByteArray) : Obj := .cells #[.string s, .int .i64 0, .slice none 0 0] 66
/-- The world behind the results' and the reader's making. -/
def W3 (s : ByteArray) (w : World) : World := ((w.alloc resA).alloc resB).alloc (resR s)
theorem w3_size (s : ByteArray) (w : World) : (W3 s w).heap.size = w.heap.size + 3 := by unfold W3; simp
theorem w3_a (s : ByteArray) (w : World) : (W3 s w).heap[w.heap.size]? = some (.cells #[.slice none 0 0] 24 (0, 0)) := blk_alloc (blk_alloc (heap_alloc_new w resA) resB) (resR s)
theorem w3_b (s : ByteArray) (w : World) : (W3 s w).heap[w.heap.size + 1]? = some (.cells #[.bool false] 4 (0, 0)) := by
  have h := blk_alloc (heap_alloc_new (w.alloc resA) resB) (resR s)
  have e : (w.alloc resA).heap.size = w.heap.size + 1 := by simp
  rw [e] at h
  exact h
theorem w3_r (s : ByteArray) (w : World) : RdI (w.heap.size + 1 + 1) s 0 [] (W3 s w) := by
  have h := heap_alloc_new ((w.alloc resA).alloc resB) (resR s)
  have e : ((w.alloc resA).alloc resB).heap.size = w.heap.size + 1 + 1 := by simp
  rw [e] at h
  exact ⟨none, 0, h, ⟨rfl, Or.inl ⟨rfl, rfl⟩⟩, by rw [w3_size]; omega⟩
theorem w3_below (s : ByteArray) (w : World) : Below w.heap.size w (W3 s w) := (((Below.refl _ _).alloc (Nat.le_refl _) resA).alloc (by simp) resB).alloc (by simp; omega) (resR s)
/-- The panicking ending. -/
theorem par_pan (s : ByteArray) (w w2 : World) (h : pPar s = ([], false)) (hb : Below (w.heap.size + 1 + 1) (W3 s w) w2) :
    NodesAny (pPar s) w (.returned (.tuple #[.slice none 0 0, .bool false])) ((w2.setCell ⟨w.heap.size, 0, none⟩ (.slice none 0 0)).setCell ⟨w.heap.size + 1, 0, none⟩ (.bool false)) := by
  rw [h]
  refine ⟨_, rfl, ⟨rfl, Or.inl ⟨rfl, rfl⟩⟩, ?_⟩
  exact (((w3_below s w).trans (hb.mono (by omega))).setCell (p := ⟨w.heap.size, 0, none⟩) (Nat.le_refl _) _).setCell (p := ⟨w.heap.size + 1, 0, none⟩) (by show w.heap.size ≤ w.heap.size + 1; omega) _
theorem w3_keepA {s : ByteArray} {w w2 : World} (hb : Below (w.heap.size + 1 + 1) (W3 s w) w2) : w2.heap[w.heap.size]? = some (.cells #[.slice none 0 0] 24 (0, 0)) := (hb.block _ (by omega)).trans (w3_a s w)
theorem w3_keepB {s : ByteArray} {w w2 : World} (hb : Below (w.heap.size + 1 + 1) (W3 s w) w2) : w2.heap[w.heap.size + 1]? = some (.cells #[.bool false] 4 (0, 0)) := (hb.block _ (by omega)).trans (w3_b s w)

/-- What the door needs. -/
theorem w3_door {s : ByteArray} {w w1 : World} (hb : Below (w.heap.size + 1 + 1) (W3 s w) w1) :
    w1.cell? ⟨w.heap.size, 0, none⟩ = some (.slice none 0 0) ∧ w1.frozen? ⟨w.heap.size, 0, none⟩ = false ∧ (w1.setCell ⟨w.heap.size, 0, none⟩ (.slice none 0 0)).cell? ⟨w.heap.size + 1, 0, none⟩ = some (.bool false) ∧ w1.frozen? ⟨w.heap.size + 1, 0, none⟩ = false ∧
    ((w1.setCell ⟨w.heap.size, 0, none⟩ (.slice none 0 0)).setCell ⟨w.heap.size + 1, 0, none⟩ (.bool false)).cell? ⟨w.heap.size, 0, none⟩ = some (.slice none 0 0) ∧ ((w1.setCell ⟨w.heap.size, 0, none⟩ (.slice none 0 0)).setCell ⟨w.heap.size + 1, 0, none⟩ (.bool false)).cell? ⟨w.heap.size + 1, 0, none⟩ = some (.bool false) := by
  have ha := w3_keepA hb
  have hb' := w3_keepB hb
  have ha' := heap_setCell_same w1 w.heap.size 0 _ _ (.slice none 0 0) ha
  have hb2 := blk_other (w := w1) (g' := w.heap.size) (i := 0) (x := .slice none 0 0) hb' (by omega)
  have ha2 := blk_other (w := (w1.setCell ⟨w.heap.size, 0, none⟩ (.slice none 0 0))) (g' := w.heap.size + 1) (i := 0) (x := .bool false) ha' (by omega)
  have hb3 := heap_setCell_same (w1.setCell ⟨w.heap.size, 0, none⟩ (.slice none 0 0)) (w.heap.size + 1) 0 _ _ (.bool false) hb2
  exact ⟨cell_of_row _ _ 0 _ _ _ ha, frozen_of_row _ _ 0 _ _ ha, cell_of_row _ _ 0 _ _ _ hb2, frozen_of_row _ _ 0 _ _ hb', cell_of_row _ _ 0 _ _ _ ha2, cell_of_row _ _ 0 _ _ _ hb3⟩

set_option maxRecDepth 100000 in
set_option maxHeartbeats 2000000 in
theorem im_ParseCond' (s : ByteArray) (w : World) (hs : s.size ≤ 1048576) : Calls Try.prog 14 #[.string s] w (NodesAny (pPar s) w) := by
  have hmf := rd_mf
  have HC := Lib.hid (rd_all (w.heap.size + 1 + 1) s [] (W3 s w) (w3_r s w) hs (Nat.zero_le _))
  have HP : Hid (pPar s = match pOr (pOp 30) (s, []) with
    | some (q, l) => if q.size = 0 then (l, true) else ([], false)
    | none => ([], false)) := Lib.hid rfl
  have HPA := Lib.hid (fun h w1 hb => par_pan s w w1 h hb)
  have HNA := Lib.hid (w3_below s w)
  generalize pOr (pOp 30) (s, []) = u at *
  generalize pPar s = o at *
  unfold W3 at HC
  go_enter_defers Try.func14, Try.ntmps14
  go_wp2_with fail
  refine HC.out.mono ?_
  rintro e w1 (⟨r, ho, rfl, hR, hb⟩ | ⟨ho, rfl, hb⟩)
  rotate_left
  · have HN : Hid (o = ([], false)) := Lib.hid (by rw [HP.out, ho])
    have HF := HPA.out HN.out w1 hb
    obtain ⟨d1, d2, d3, d4, d5, d6⟩ := w3_door (s := s) hb
    refine leaves_cons (f := 43) (args := #[.pointer (some ⟨w.heap.size, 0, none⟩), .pointer (some ⟨w.heap.size + 1, 0, none⟩)]) (by simp) (by simp [go_sem]) ?_
    refine (catch_pan ⟨w.heap.size, 0, none⟩ ⟨w.heap.size + 1, 0, none⟩ _ _ _ _ [] w1 d1 d2 d3 d4).mono ?_
    rintro e u' w'' ⟨rfl, rfl, rfl⟩
    simp [Leaves, settle, results, Try.results14, go_sem, d5, d6]
    exact HF
  obtain ⟨q, l⟩ := r
  have HR1 := Lib.hid hR
  have HB1 := Lib.hid hb
  have HU : Hid (o = if q.size = 0 then (l, true) else ([], false)) := Lib.hid (by rw [HP.out, ho])
  obtain ⟨a, c, HG, HO, hlt⟩ := id hR
  have HO := Lib.hid HO
  have g0 := cell_of_row _ _ 0 _ _ _ HG
  have g2 := cell_of_row _ _ 2 _ _ _ HG
  clear hR hb ho HP HC
  by_cases hq : q.size = 0
  rotate_left
  · have HN : Hid (o = ([], false)) := Lib.hid (by rw [HU.out, if_neg hq])
    have hqe : q ≠ ByteArray.empty := fun e => hq (by rw [e]; rfl)
    have b2 := str_ne hqe
    clear hqe hq HU
    go_wp2_with fail
    trace_state
    refine (rd_nope _ _ _ (by simpa using b2)).mono ?_
    rintro e w2 ⟨rfl, rfl⟩
    have HF := HPA.out HN.out w1 HB1.out
    obtain ⟨d1, d2, d3, d4, d5, d6⟩ := w3_door (s := s) HB1.out
    refine leaves_cons (f := 43) (args := #[.pointer (some ⟨w.heap.size, 0, none⟩), .pointer (some ⟨w.heap.size + 1, 0, none⟩)]) (by simp) (by simp [go_sem]) ?_
    refine (catch_pan ⟨w.heap.size, 0, none⟩ ⟨w.heap.size + 1, 0, none⟩ _ _ _ _ [] w1 d1 d2 d3 d4).mono ?_
    rintro e u' w'' ⟨rfl, rfl, rfl⟩
    simp [Leaves, settle, results, Try.results14, go_sem, d5, d6]
    exact HF
  · have HN : Hid (o = (l, true)) := Lib.hid (by rw [HU.out, if_pos hq])
    have hqe : q = ByteArray.empty := by
      cases q with
      | mk d => simp [ByteArray.size] at hq; subst hq; rfl
    have b2 := str_eq hqe
    have HA := w3_keepA (s := s) HB1.out
    have HBB := w3_keepB (s := s) HB1.out
    have k1 := cell_of_row _ _ 0 _ _ _ HA
    have k1f := frozen_of_row _ _ 0 _ _ HA
    have HA' := heap_setCell_same w1 w.heap.size 0 _ _ (.slice a l.length c) HA
    have HBB' := blk_other (w := w1) (g' := w.heap.size) (i := 0) (x := .slice a l.length c) HBB (by omega)
    have k2 := cell_of_row _ _ 0 _ _ _ HBB'
    have k2f := frozen_of_row _ _ 0 _ _ HBB'
    have HA2 := blk_other (w := (w1.setCell ⟨w.heap.size, 0, none⟩ (.slice a l.length c))) (g' := w.heap.size + 1) (i := 0) (x := .bool true) HA' (by omega)
    have HB2 := heap_setCell_same (w1.setCell ⟨w.heap.size, 0, none⟩ (.slice a l.length c)) (w.heap.size + 1) 0 _ _ (.bool true) HBB'
    have k3 := cell_of_row _ _ 0 _ _ _ HA2
    have k4 := cell_of_row _ _ 0 _ _ _ HB2
    clear hqe hq HU
    go_wp2_with fail
    refine (rd_yes _ _ _ (by simpa using b2)).mono ?_
    rintro e w2 ⟨rfl, rfl⟩
    go_wp2_with fail
    trace_state
    refine leaves_cons (f := 43) (args := #[.pointer (some ⟨w.heap.size, 0, none⟩), .pointer (some ⟨w.heap.size + 1, 0, none⟩)]) (by simp) (by simp [go_sem]) ?_
    refine (catch_not ⟨w.heap.size, 0, none⟩ ⟨w.heap.size + 1, 0, none⟩ _).mono ?_
    rintro e u' w'' ⟨rfl, rfl, rfl⟩
    simp [Leaves, settle, results, Try.results14, go_sem, k3, k4]
    rw [HN.out]
    refine ⟨_, rfl, ?_, ?_⟩
    · exact own_downL (own_setI (g := w.heap.size + 1) (j := 0) (own_setI (g := w.heap.size) (j := 0) HO.out (by omega) _) (by omega) _) (by omega)
    · exact ((HNA.out.trans (HB1.out.mono (by omega))).setCell (p := ⟨w.heap.size, 0, none⟩) (Nat.le_refl _) _).setCell (p := ⟨w.heap.size + 1, 0, none⟩) (by show w.heap.size ≤ w.heap.size + 1; omega) _
end Go.Proofs.Ytghofgjlmfdnpaa
