/-
  The program's nodes: whether one is sound, how many operands it has, the condition over operands.
-/
import Derived.Test.YteadmanmhgdhoaaGreatRows
import Derived.Test.YteadmanmhgdhoaaGreatCondLib
import Derived.Test.YteadmanmhgdhoaaGreatCondTree
import Derived.Test.YteadmanmhgdhoaaGreatCondSpec
import Derived.Test.YteadmanmhgdhoaaGreatBuCode
import Derived.Test.YteadmanmhgdhoaaGreatBuA
import Derived.WalkKit
import Derived.WalkSpells
import Derived.WalkSmall
import Derived.BigQuiet
import Derived.Deep.QuietTactic
import Derived.Deep.DeepCutAuto
import Derived.Lib.Hide
namespace Go.Proofs.YteadmanmhgdhoaaGreat
open Go.RowKit

/-- A node is sound by itself. -/
noncomputable def soundB (x : CN) : Bool :=
  if x.kind = 1 then isCode.codeB x.opt && isCode.codeB x.vl
  else @decide ((x.kind = 0 ∨ x.kind = 2 ∨ x.kind = 3 ∨ x.kind = 4) ∧ x.opt = eB ∧ x.vl = eB) (Classical.propDecidable _)
theorem sound_no {x : CN} (h1 : ¬x.kind = 1) (h : ¬((x.kind = 0 ∨ x.kind = 2 ∨ x.kind = 3 ∨ x.kind = 4) ∧ x.opt = eB ∧ x.vl = eB)) : soundB x = false := by
  unfold soundB
  rw [if_neg h1]
  exact @decide_eq_false _ (Classical.propDecidable _) h
theorem sound_yes {x : CN} (h1 : ¬x.kind = 1) (h : (x.kind = 0 ∨ x.kind = 2 ∨ x.kind = 3 ∨ x.kind = 4) ∧ x.opt = eB ∧ x.vl = eB) : soundB x = true := by
  unfold soundB
  rw [if_neg h1]
  exact @decide_eq_true _ (Classical.propDecidable _) h
theorem sound_is {x : CN} (h1 : x.kind = 1) : soundB x = (isCode.codeB x.opt && isCode.codeB x.vl) := if_pos h1

set_option maxRecDepth 100000 in
set_option maxHeartbeats 1000000 in
theorem im_sound (x : CN) (w : World) (h : CN.Sz x) : Calls Tryz.prog 130 #[x.val] w (BoolRes (soundB x) w) := by
  obtain ⟨kind, opt, vl⟩ := x
  have HS := Lib.hid h
  clear h
  unfold CN.val
  simp only
  have HR := heap_alloc_new w (.cells #[.int .i64 kind, .string opt, .string vl] 145)
  have HB : Below w.heap.size w (w.alloc (.cells #[.int .i64 kind, .string opt, .string vl] 145)) := (Below.refl _ _).alloc (Nat.le_refl _) _
  by_cases k1 : kind = 1
  · subst k1
    have HY : Hid (soundB ⟨1, opt, vl⟩ = (isCode.codeB opt && isCode.codeB vl)) := Lib.hid (sound_is rfl)
    go_enter Tryz.func130, Tryz.ntmps130
    go_wp2_with fail
    refine (code_calls opt _ HS.out.1).mono ?_
    rintro e w1 ⟨rfl, hb⟩
    have HR := blk_below HR hb
    have HB := HB.trans (hb.mono HB.size)
    clear hb
    rcases Bool.eq_false_or_eq_true (isCode.codeB opt) with hA | hA
    rotate_left
    · have HZ : Hid (soundB ⟨1, opt, vl⟩ = false) := Lib.hid (by rw [HY.out, hA]; rfl)
      rw [hA]
      clear hA
      go_wp2_with fail
      go_ret
      exact ⟨by rw [HZ.out]; rfl, HB⟩
    have HZ : Hid (soundB ⟨1, opt, vl⟩ = isCode.codeB vl) := Lib.hid (by rw [HY.out, hA]; rfl)
    rw [hA]
    clear hA
    have c2 := cell_of_row _ _ 2 _ _ _ HR
    go_wp2_with fail
    refine (code_calls vl _ HS.out.2).mono ?_
    rintro e w2 ⟨rfl, hb⟩
    have HB := HB.trans (hb.mono HB.size)
    clear hb c2
    go_wp2_with fail
    go_ret
    exact ⟨by rw [HZ.out]; rfl, HB⟩
  by_cases k2 : kind = 0 ∨ kind = 2 ∨ kind = 3 ∨ kind = 4
  rotate_left
  · have HZ : Hid (soundB ⟨kind, opt, vl⟩ = false) := Lib.hid (sound_no k1 (fun h => k2 h.1))
    have b0 : (kind == 0) = false := beq_eq_false_iff_ne.2 (by omega)
    have b1 : (kind == 1) = false := beq_eq_false_iff_ne.2 (by omega)
    have b2 : (kind == 2) = false := beq_eq_false_iff_ne.2 (by omega)
    have b3 : (kind == 3) = false := beq_eq_false_iff_ne.2 (by omega)
    have b4 : (kind == 4) = false := beq_eq_false_iff_ne.2 (by omega)
    clear k1 k2
    go_enter Tryz.func130, Tryz.ntmps130
    go_wp2_with fail
    go_ret
    exact ⟨by rw [HZ.out]; rfl, HB⟩
  by_cases he : opt = eB
  rotate_left
  · have HZ : Hid (soundB ⟨kind, opt, vl⟩ = false) := Lib.hid (sound_no k1 (fun h => he h.2.1))
    have bo := txt_ne he
    have bo2 := str_ne he
    clear he
    rcases k2 with rfl | rfl | rfl | rfl
    all_goals
      go_enter Tryz.func130, Tryz.ntmps130
      go_wp2_with fail
      go_ret
      exact ⟨by rw [HZ.out]; rfl, HB⟩
  by_cases hv : vl = eB
  rotate_left
  · have HZ : Hid (soundB ⟨kind, opt, vl⟩ = false) := Lib.hid (sound_no k1 (fun h => hv h.2.2))
    have bo := txt_ne hv
    have bo2 := str_ne hv
    clear hv
    subst he
    rcases k2 with rfl | rfl | rfl | rfl
    all_goals
      go_enter Tryz.func130, Tryz.ntmps130
      go_wp2_with fail
      go_ret
      exact ⟨by rw [HZ.out]; rfl, HB⟩
  · have HZ : Hid (soundB ⟨kind, opt, vl⟩ = true) := Lib.hid (sound_yes k1 ⟨k2, he, hv⟩)
    subst he
    subst hv
    rcases k2 with rfl | rfl | rfl | rfl
    all_goals
      go_enter Tryz.func130, Tryz.ntmps130
      go_wp2_with fail
      go_ret
      exact ⟨by rw [HZ.out]; rfl, HB⟩

/-- How many operands a node has. -/
def arN (k : Int) : Nat := if k = 2 then 1 else if k = 3 then 2 else if k = 4 then 2 else 0

set_option maxRecDepth 100000 in
set_option maxHeartbeats 1000000 in
theorem im_arity (x : CN) (w : World) : Calls Tryz.prog 129 #[x.val] w fun e w' => e = .returned (.int .i64 (arN x.kind : Int)) ∧ Below w.heap.size w w' := by
  obtain ⟨kind, opt, vl⟩ := x
  unfold CN.val
  simp only
  have HB : Below w.heap.size w (w.alloc (.cells #[.int .i64 kind, .string opt, .string vl] 145)) := (Below.refl _ _).alloc (Nat.le_refl _) _
  by_cases k2 : kind = 2
  · subst k2
    go_enter Tryz.func129, Tryz.ntmps129
    go_wp2_with fail
    go_ret
    exact ⟨rfl, HB⟩
  by_cases k3 : kind = 3
  · subst k3
    go_enter Tryz.func129, Tryz.ntmps129
    go_wp2_with fail
    go_ret
    exact ⟨rfl, HB⟩
  by_cases k4 : kind = 4
  · subst k4
    go_enter Tryz.func129, Tryz.ntmps129
    go_wp2_with fail
    go_ret
    exact ⟨rfl, HB⟩
  have HA : Hid (arN kind = 0) := Lib.hid ((if_neg k2).trans ((if_neg k3).trans (if_neg k4)))
  have b2 : (kind == 2) = false := beq_eq_false_iff_ne.2 k2
  have b3 : (kind == 3) = false := beq_eq_false_iff_ne.2 k3
  have b4 : (kind == 4) = false := beq_eq_false_iff_ne.2 k4
  clear k2 k3 k4
  rw [HA.out]
  go_enter Tryz.func129, Tryz.ntmps129
  go_wp2_with fail
  go_ret
  exact ⟨rfl, HB⟩

/-- A condition as a value: its dynamic type and what lies in it. -/
def CT.ty : CT → TypeId
  | .tt => 185
  | .is _ _ => 178
  | .no _ => 180
  | .and _ _ => 182
  | .or _ _ => 183
def CT.pay : CT → Value
  | .tt => .agg #[]
  | .is o v => .agg #[.string o, .string v]
  | .no t => .agg #[.iface t.ty t.pay]
  | .and a b => .agg #[.iface a.ty a.pay, .iface b.ty b.pay]
  | .or a b => .agg #[.iface a.ty a.pay, .iface b.ty b.pay]
def CT.iv (t : CT) : Value := .iface t.ty t.pay
/-- The cells of operands in a slice. -/
def OpsAt (w : World) (v : Value) (ks : List CT) : Prop := ∃ (a : Option Addr) (c : Nat), v = .slice a ks.length c ∧ (ks ≠ [] → ∃ g o, a = some ⟨g, o, none⟩ ∧ g < w.heap.size ∧ ∀ (j : Nat) (t : CT), ks[j]? = some t → w.cell? ⟨g, o + j, none⟩ = some t.iv)

set_option maxRecDepth 100000 in
set_option maxHeartbeats 1000000 in
theorem im_over (t : CT) (v : Value) (w : World) (h : OpsAt w v t.kids.reverse) : Calls Tryz.prog 131 #[t.top.val, v] w fun e w' => e = .returned t.iv ∧ Below w.heap.size w w' := by
  obtain ⟨a, c, rfl, ho⟩ := h
  cases t with
  | tt =>
    unfold CN.val CT.top
    clear ho
    simp only [CT.kids, List.reverse_nil, List.length_nil]
    have HB : Below w.heap.size w (w.alloc (.cells #[.int .i64 0, .string eB, .string eB] 145)) := (Below.refl _ _).alloc (Nat.le_refl _) _
    go_enter Tryz.func131, Tryz.ntmps131
    go_wp2_with fail
    go_ret
    exact ⟨rfl, HB⟩
  | is o u =>
    unfold CN.val CT.top
    clear ho
    simp only [CT.kids, List.reverse_nil, List.length_nil]
    have HB : Below w.heap.size w (w.alloc (.cells #[.int .i64 1, .string o, .string u] 145)) := (Below.refl _ _).alloc (Nat.le_refl _) _
    go_enter Tryz.func131, Tryz.ntmps131
    go_wp2_with fail
    go_ret
    exact ⟨rfl, HB⟩
  | no t =>
    obtain ⟨g, o, rfl, hg, hc⟩ := ho (by simp [CT.kids])
    have c0 : w.cell? ⟨g, o + 0, none⟩ = some (.iface t.ty t.pay) := hc 0 t rfl
    rw [Nat.add_zero] at c0
    clear ho hc
    unfold CN.val CT.top
    simp only [CT.kids, List.reverse_cons, List.reverse_nil, List.nil_append, List.length_singleton]
    have HB : Below w.heap.size w (w.alloc (.cells #[.int .i64 2, .string eB, .string eB] 145)) := (Below.refl _ _).alloc (Nat.le_refl _) _
    go_enter Tryz.func131, Tryz.ntmps131
    go_wp2_with fail
    go_ret
    exact ⟨rfl, HB⟩
  | and p q =>
    obtain ⟨g, o, rfl, hg, hc⟩ := ho (by simp [CT.kids])
    have c0 : w.cell? ⟨g, o + 0, none⟩ = some (.iface p.ty p.pay) := hc 0 p rfl
    have c1 : w.cell? ⟨g, o + 1, none⟩ = some (.iface q.ty q.pay) := hc 1 q rfl
    rw [Nat.add_zero] at c0
    clear ho hc
    unfold CN.val CT.top
    simp only [CT.kids, List.reverse_cons, List.reverse_nil, List.nil_append, List.singleton_append, List.length_cons, List.length_nil]
    have HB : Below w.heap.size w (w.alloc (.cells #[.int .i64 3, .string eB, .string eB] 145)) := (Below.refl _ _).alloc (Nat.le_refl _) _
    go_enter Tryz.func131, Tryz.ntmps131
    go_wp2_with fail
    go_quiet (fail)
    go_wp2_with fail
    go_ret
    exact ⟨rfl, below_drewN HB _⟩
  | or p q =>
    obtain ⟨g, o, rfl, hg, hc⟩ := ho (by simp [CT.kids])
    have c0 : w.cell? ⟨g, o + 0, none⟩ = some (.iface p.ty p.pay) := hc 0 p rfl
    have c1 : w.cell? ⟨g, o + 1, none⟩ = some (.iface q.ty q.pay) := hc 1 q rfl
    rw [Nat.add_zero] at c0
    clear ho hc
    unfold CN.val CT.top
    simp only [CT.kids, List.reverse_cons, List.reverse_nil, List.nil_append, List.singleton_append, List.length_cons, List.length_nil]
    have HB : Below w.heap.size w (w.alloc (.cells #[.int .i64 4, .string eB, .string eB] 145)) := (Below.refl _ _).alloc (Nat.le_refl _) _
    go_enter Tryz.func131, Tryz.ntmps131
    go_wp2_with fail
    go_quiet (fail)
    go_wp2_with fail
    go_ret
    exact ⟨rfl, below_drewN HB _⟩
end Go.Proofs.YteadmanmhgdhoaaGreat
