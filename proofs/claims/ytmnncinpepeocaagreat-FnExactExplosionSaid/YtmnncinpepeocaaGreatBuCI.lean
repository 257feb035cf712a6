import Derived.Test.YtmnncinpepeocaaGreatRows
import Derived.Test.YtmnncinpepeocaaGreatBuCond
import Derived.Test.YtmnncinpepeocaaGreatCondSpec
import Derived.Test.YtmnncinpepeocaaGreatBuCode
import Derived.Test.YtmnncinpepeocaaGreatBuA
import Derived.WalkKit
import Derived.WalkSpells
import Derived.WalkSmall
import Derived.BigQuiet
import Derived.Deep.QuietTactic
import Derived.Deep.DeepCutAuto
import Derived.Lib.Hide
import Derived.Test.YtmnncinpepeocaaGreatCondOwn
import Derived.Deep.RegionHeld3
namespace Go.Proofs.YtmnncinpepeocaaGreat
open Go.RowKit

/-- A node is sound by itself. -/
noncomputable def soundB (x : CN) : Bool :=
 if x.kind = 1 then isCode.codeB x.opt && isCode.codeB x.vl
 else @decide ((x.kind = 0 ∨ x.kind = 2 ∨ x.kind = 3 ∨ x.kind = 4) ∧ x.opt = eB ∧ x.vl = eB) (Classical.propDecidable _)
theorem sound_no {x : CN} (h1 : ¬x.kind = 1) (h : ¬((x.kind = 0 ∨ x.kind = 2 ∨ x.kind = 3 ∨ x.kind = 4) ∧ x.opt = eB ∧ x.vl = eB)) : soundB x = false := by
 unfold soundB
 rw [if_neg h1]
 exact @decide_eq_false _ (Classical.propDecidable _) h
theorem sound_yes {x : CN} (h1 : ¬x.kind = 1) (h : (x.kind = 0 ∨ x.kind = 2 ∨ x.kind = 3 ∨ x.kind = 4) ∧ x.opt = eB ∧ x.vl = eB) : soundB x = true := by
 unfold soundB
 rw [if_neg h1]
 exact @decide_eq_true _ (Classical.propDecidable _) h
theorem sound_is {x : CN} (h1 : x.kind = 1) : soundB x = (isCode.codeB x.opt && isCode.codeB x.vl) := if_pos h1

set_option maxRecDepth 100000 in
set_option maxHeartbeats 1000000 in
theorem im_sound (x : CN) (w : World) (h : CN.Sz x) : Calls Tryz.prog 131 #[x.val] w (BoolRes (soundB x) w) := by
 obtain ⟨kind, opt, vl⟩ := x
 have HS := Lib.hid h
 clear h
 unfold CN.val
 simp only
 have HR := heap_alloc_new w (.cells #[.int .i64 kind, .string opt, .string vl] 145)
 have HB : Below w.heap.size w (w.alloc (.cells #[.int .i64 kind, .string opt, .string vl] 145)) := (Below.refl _ _).alloc (Nat.le_refl _) _
 by_cases k1 : kind = 1
 · subst k1
   have HY : Hid (soundB ⟨1, opt, vl⟩ = (isCode.codeB opt && isCode.codeB vl)) := Lib.hid (sound_is rfl)
   go_enter Tryz.func131, Tryz.ntmps131
   go_wp2_with fail
   refine (code_calls opt _ HS.out.1).mono ?_
   rintro e w1 ⟨rfl, hb⟩
   have HR := blk_below HR hb
   have HB := HB.trans (hb.mono HB.size)
   clear hb
   rcases Bool.eq_false_or_eq_true (isCode.codeB opt) with hA | hA
   rotate_left
   · have HZ : Hid (soundB ⟨1, opt, vl⟩ = false) := Lib.hid (by rw [HY.out, hA]; rfl)
     rw [hA]
     clear hA
     go_wp2_with fail
     go_ret
     exact ⟨by rw [HZ.out]; rfl, HB⟩
   have HZ : Hid (soundB ⟨1, opt, vl⟩ = isCode.codeB vl) := Lib.hid (by rw [HY.out, hA]; rfl)
   rw [hA]
   clear hA
   have c2 := cell_of_row _ _ 2 _ _ _ HR
   go_wp2_with fail
   refine (code_calls vl _ HS.out.2).mono ?_
   rintro e w2 ⟨rfl, hb⟩
   have HB := HB.trans (hb.mono HB.size)
   clear hb c2
   go_wp2_with fail
   go_ret
   exact ⟨by rw [HZ.out]; rfl, HB⟩
 by_cases k2 : kind = 0 ∨ kind = 2 ∨ kind = 3 ∨ kind = 4
 rotate_left
 · have HZ : Hid (soundB ⟨kind, opt, vl⟩ = false) := Lib.hid (sound_no k1 (fun h => k2 h.1))
   have b0 : (kind == 0) = false := beq_eq_false_iff_ne.2 (by omega)
   have b1 : (kind == 1) = false := beq_eq_false_iff_ne.2 (by omega)
   have b2 : (kind == 2) = false := beq_eq_false_iff_ne.2 (by omega)
   have b3 : (kind == 3) = false := beq_eq_false_iff_ne.2 (by omega)
   have b4 : (kind == 4) = false := beq_eq_false_iff_ne.2 (by omega)
   clear k1 k2
   go_enter Tryz.func131, Tryz.ntmps131
   go_wp2_with fail
   go_ret
   exact ⟨by rw [HZ.out]; rfl, HB⟩
 by_cases he : opt = eB
 rotate_left
 · have HZ : Hid (soundB ⟨kind, opt, vl⟩ = false) := Lib.hid (sound_no k1 (fun h => he h.2.1))
   have bo := txt_ne he
   have bo2 := str_ne he
   clear he
   rcases k2 with rfl | rfl | rfl | rfl
   all_goals
    go_enter Tryz.func131, Tryz.ntmps131
    go_wp2_with fail
    go_ret
    exact ⟨by rw [HZ.out]; rfl, HB⟩
 by_cases hv : vl = eB
 rotate_left
 · have HZ : Hid (soundB ⟨kind, opt, vl⟩ = false) := Lib.hid (sound_no k1 (fun h => hv h.2.2))
   have bo := txt_ne hv
   have bo2 := str_ne hv
   clear hv
   subst he
   rcases k2 with rfl | rfl | rfl | rfl
   all_goals
    go_enter Tryz.func131, Tryz.ntmps131
    go_wp2_with fail
    go_ret
    exact ⟨by rw [HZ.out]; rfl, HB⟩
 · have HZ : Hid (soundB ⟨kind, opt, vl⟩ = true) := Lib.hid (sound_yes k1 ⟨k2, he, hv⟩)
   subst he
   subst hv
   rcases k2 with rfl | rfl | rfl | rfl
   all_goals
    go_enter Tryz.func131, Tryz.ntmps131
    go_wp2_with fail
    go_ret
    exact ⟨by rw [HZ.out]; rfl, HB⟩

/-- How many operands a node has. -/
def arN (k : Int) : Nat := if k = 2 then 1 else if k = 3 then 2 else if k = 4 then 2 else 0

set_option maxRecDepth 100000 in
set_option maxHeartbeats 1000000 in
theorem im_arity (x : CN) (w : World) : Calls Tryz.prog 130 #[x.val] w fun e w' => e = .returned (.int .i64 (arN x.kind : Int)) ∧ Below w.heap.size w w' := by
 obtain ⟨kind, opt, vl⟩ := x
 unfold CN.val
 simp only
 have HB : Below w.heap.size w (w.alloc (.cells #[.int .i64 kind, .string opt, .string vl] 145)) := (Below.refl _ _).alloc (Nat.le_refl _) _
 by_cases k2 : kind = 2
 · subst k2
   go_enter Tryz.func130, Tryz.ntmps130
   go_wp2_with fail
   go_ret
   exact ⟨rfl, HB⟩
 by_cases k3 : kind = 3
 · subst k3
   go_enter Tryz.func130, Tryz.ntmps130
   go_wp2_with fail
   go_ret
   exact ⟨rfl, HB⟩
 by_cases k4 : kind = 4
 · subst k4
   go_enter Tryz.func130, Tryz.ntmps130
   go_wp2_with fail
   go_ret
   exact ⟨rfl, HB⟩
 have HA : Hid (arN kind = 0) := Lib.hid ((if_neg k2).trans ((if_neg k3).trans (if_neg k4)))
 have b2 : (kind == 2) = false := beq_eq_false_iff_ne.2 k2
 have b3 : (kind == 3) = false := beq_eq_false_iff_ne.2 k3
 have b4 : (kind == 4) = false := beq_eq_false_iff_ne.2 k4
 clear k2 k3 k4
 rw [HA.out]
 go_enter Tryz.func130, Tryz.ntmps130
 go_wp2_with fail
 go_ret
 exact ⟨rfl, HB⟩

/-- A condition as a value: its dynamic type and what lies in it. -/
def CT.ty : CT → TypeId
 | .tt => 186
 | .is _ _ => 179
 | .no _ => 181
 | .and _ _ => 183
 | .or _ _ => 184
def CT.pay : CT → Value
 | .tt => .agg #[]
 | .is o v => .agg #[.string o, .string v]
 | .no t => .agg #[.iface t.ty t.pay]
 | .and a b => .agg #[.iface a.ty a.pay, .iface b.ty b.pay]
 | .or a b => .agg #[.iface a.ty a.pay, .iface b.ty b.pay]
def CT.iv (t : CT) : Value := .iface t.ty t.pay
/-- The cells of operands in a slice. -/
def OpsAt (w : World) (v : Value) (ks : List CT) : Prop := ∃ (a : Option Addr) (c : Nat), v = .slice a ks.length c ∧ (ks ≠ [] → ∃ g o, a = some ⟨g, o, none⟩ ∧ g < w.heap.size ∧ ∀ (j : Nat) (t : CT), ks[j]? = some t → w.cell? ⟨g, o + j, none⟩ = some t.iv)

set_option maxRecDepth 100000 in
set_option maxHeartbeats 1000000 in
theorem im_over (t : CT) (v : Value) (w : World) (h : OpsAt w v t.kids.reverse) : Calls Tryz.prog 132 #[t.top.val, v] w fun e w' => e = .returned t.iv ∧ Below w.heap.size w w' := by
 obtain ⟨a, c, rfl, ho⟩ := h
 cases t with
 | tt =>
  unfold CN.val CT.top
  clear ho
  simp only [CT.kids, List.reverse_nil, List.length_nil]
  have HB : Below w.heap.size w (w.alloc (.cells #[.int .i64 0, .string eB, .string eB] 145)) := (Below.refl _ _).alloc (Nat.le_refl _) _
  go_enter Tryz.func132, Tryz.ntmps132
  go_wp2_with fail
  go_ret
  exact ⟨rfl, HB⟩
 | is o u =>
  unfold CN.val CT.top
  clear ho
  simp only [CT.kids, List.reverse_nil, List.length_nil]
  have HB : Below w.heap.size w (w.alloc (.cells #[.int .i64 1, .string o, .string u] 145)) := (Below.refl _ _).alloc (Nat.le_refl _) _
  go_enter Tryz.func132, Tryz.ntmps132
  go_wp2_with fail
  go_ret
  exact ⟨rfl, HB⟩
 | no t =>
  obtain ⟨g, o, rfl, hg, hc⟩ := ho (by simp [CT.kids])
  have c0 : w.cell? ⟨g, o + 0, none⟩ = some (.iface t.ty t.pay) := hc 0 t rfl
  rw [Nat.add_zero] at c0
  clear ho hc
  unfold CN.val CT.top
  simp only [CT.kids, List.reverse_cons, List.reverse_nil, List.nil_append, List.length_singleton]
  have HB : Below w.heap.size w (w.alloc (.cells #[.int .i64 2, .string eB, .string eB] 145)) := (Below.refl _ _).alloc (Nat.le_refl _) _
  go_enter Tryz.func132, Tryz.ntmps132
  go_wp2_with fail
  go_ret
  exact ⟨rfl, HB⟩
 | and p q =>
  obtain ⟨g, o, rfl, hg, hc⟩ := ho (by simp [CT.kids])
  have c0 : w.cell? ⟨g, o + 0, none⟩ = some (.iface p.ty p.pay) := hc 0 p rfl
  have c1 : w.cell? ⟨g, o + 1, none⟩ = some (.iface q.ty q.pay) := hc 1 q rfl
  rw [Nat.add_zero] at c0
  clear ho hc
  unfold CN.val CT.top
  simp only [CT.kids, List.reverse_cons, List.reverse_nil, List.nil_append, List.singleton_append, List.length_cons, List.length_nil]
  have HB : Below w.heap.size w (w.alloc (.cells #[.int .i64 3, .string eB, .string eB] 145)) := (Below.refl _ _).alloc (Nat.le_refl _) _
  go_enter Tryz.func132, Tryz.ntmps132
  go_wp2_with fail
  go_quiet (fail)
  go_wp2_with fail
  go_ret
  exact ⟨rfl, below_drewN HB _⟩
 | or p q =>
  obtain ⟨g, o, rfl, hg, hc⟩ := ho (by simp [CT.kids])
  have c0 : w.cell? ⟨g, o + 0, none⟩ = some (.iface p.ty p.pay) := hc 0 p rfl
  have c1 : w.cell? ⟨g, o + 1, none⟩ = some (.iface q.ty q.pay) := hc 1 q rfl
  rw [Nat.add_zero] at c0
  clear ho hc
  unfold CN.val CT.top
  simp only [CT.kids, List.reverse_cons, List.reverse_nil, List.nil_append, List.singleton_append, List.length_cons, List.length_nil]
  have HB : Below w.heap.size w (w.alloc (.cells #[.int .i64 4, .string eB, .string eB] 145)) := (Below.refl _ _).alloc (Nat.le_refl _) _
  go_enter Tryz.func132, Tryz.ntmps132
  go_wp2_with fail
  go_quiet (fail)
  go_wp2_with fail
  go_ret
  exact ⟨rfl, below_drewN HB _⟩
end Go.Proofs.YtmnncinpepeocaaGreat

namespace Go.Proofs.YtmnncinpepeocaaGreat
open Go.RowKit

/-- The values of trees, the last first. -/
def ivS (s : List CT) : List Value := s.reverse.map CT.iv
theorem ivS_cons (t : CT) (s : List CT) : ivS (t :: s) = ivS s ++ [t.iv] := by simp [ivS]
theorem ivS_app (r s : List CT) : ivS (r ++ s) = ivS s ++ ivS r := by simp [ivS]
theorem ivS_length (s : List CT) : (ivS s).length = s.length := by simp [ivS]
theorem infoI : (Tryz.prog.info? 166).map (fun i => (i.zero, i.size, i.bytes)) = some (some .nilIface, 1, 16) := by kernel_rfl
/-- A node that is taken. -/
theorem step_node {x : CN} {s r : List CT} (h : CT.step x s = some r) (hs : okS s) : ∃ (t : CT) (q : List CT), x = t.top ∧ s = t.kids ++ q ∧ r = t :: q ∧ t.ok ∧ okS q := by
 obtain ⟨h1, h2, h3⟩ := CT.step_some h hs
 rcases h3 with ⟨_, rfl, rfl⟩ | ⟨hk, hc, rfl⟩ | ⟨_, rfl, a, q, rfl, rfl⟩ | ⟨_, rfl, a, b, q, rfl, rfl⟩ | ⟨_, rfl, a, b, q, rfl, rfl⟩
 · exact ⟨.tt, s, rfl, rfl, rfl, (okS_cons.1 h1).1, hs⟩
 · obtain ⟨k, o, v⟩ := x
   simp only at hk
   subst hk
   exact ⟨.is o v, s, rfl, rfl, rfl, (okS_cons.1 h1).1, hs⟩
 · exact ⟨.no a, q, rfl, rfl, rfl, (okS_cons.1 h1).1, (okS_cons.1 h1).2⟩
 · exact ⟨.and a b, q, rfl, rfl, rfl, (okS_cons.1 h1).1, (okS_cons.1 h1).2⟩
 · exact ⟨.or a b, q, rfl, rfl, rfl, (okS_cons.1 h1).1, (okS_cons.1 h1).2⟩
theorem ar_le (k : Int) : arN k ≤ 2 := by unfold arN; split <;> (try split) <;> (try split) <;> omega
theorem ar_top (t : CT) : arN t.top.kind = t.kids.length := by cases t <;> rfl
theorem sound_top (t : CT) (h : t.ok) : soundB t.top = true := by
 cases t with
 | tt => exact sound_yes (by decide) ⟨Or.inl rfl, rfl, rfl⟩
 | is o v => rw [sound_is rfl]; show (isCode.codeB o && isCode.codeB v) = true; rw [h.1, h.2]; rfl
 | no t => exact sound_yes (fun h => absurd h (by show ¬((2 : Int) = 1); decide)) ⟨Or.inr (Or.inl rfl), rfl, rfl⟩
 | and a b => exact sound_yes (fun h => absurd h (by show ¬((3 : Int) = 1); decide)) ⟨Or.inr (Or.inr (Or.inl rfl)), rfl, rfl⟩
 | or a b => exact sound_yes (fun h => absurd h (by show ¬((4 : Int) = 1); decide)) ⟨Or.inr (Or.inr (Or.inr rfl)), rfl, rfl⟩
/-- A node that is not taken. -/
theorem step_not {x : CN} {s : List CT} (h : CT.step x s = none) : soundB x = false ∨ s.length < arN x.kind := by
 obtain ⟨kind, opt, vl⟩ := x
 by_cases k1 : kind = 1
 · subst k1
   left
   rw [sound_is rfl]
   cases hb : (isCode.codeB opt && isCode.codeB vl) with
   | false => rfl
   | true =>
    rw [Bool.and_eq_true] at hb
    unfold CT.step at h
    rw [if_neg (show ¬(1 : Int) = 0 by decide), if_pos rfl, if_pos hb] at h
    cases h
 by_cases hg : (kind = 0 ∨ kind = 2 ∨ kind = 3 ∨ kind = 4) ∧ opt = eB ∧ vl = eB
 rotate_left
 · exact Or.inl (sound_no k1 hg)
 right
 obtain ⟨hk, rfl, rfl⟩ := hg
 rcases hk with rfl | rfl | rfl | rfl
 · exact absurd h (by unfold CT.step; rw [if_pos rfl, if_pos ⟨rfl, rfl⟩]; exact Option.some_ne_none _)
 · match s, h with
   | [], _ => exact Nat.zero_lt_one
   | a :: q, h => exact absurd h (by unfold CT.step; rw [if_neg (by decide), if_neg (by decide), if_pos rfl, if_pos ⟨rfl, rfl⟩]; exact Option.some_ne_none _)
 · match s, h with
   | [], _ => exact (by decide : 0 < 2)
   | [a], _ => exact (by decide : 1 < 2)
   | b :: a :: q, h => exact absurd h (by unfold CT.step; rw [if_neg (by decide), if_neg (by decide), if_neg (by decide), if_pos rfl, if_pos ⟨rfl, rfl⟩]; exact Option.some_ne_none _)
 · match s, h with
   | [], _ => exact (by decide : 0 < 2)
   | [a], _ => exact (by decide : 1 < 2)
   | b :: a :: q, h => exact absurd h (by unfold CT.step; rw [if_neg (by decide), if_neg (by decide), if_neg (by decide), if_neg (by decide), if_pos rfl, if_pos ⟨rfl, rfl⟩]; exact Option.some_ne_none _)
/-- A row cut off. -/
theorem own_cutI {w : World} {base e g n m cap : Nat} {xs ys : List Value} (hx : xs.length = n) (h : w.ownsRow base e 1 (.slice (some ⟨g, 0, none⟩) (n + m) cap) (n + m) (xs ++ ys)) : w.ownsRow base e 1 (.slice (some ⟨g, 0, none⟩) n cap) n xs := by
 refine ⟨by omega, Or.inr ?_⟩
 rcases h.2 with ⟨h1, _⟩ | ⟨g', cap', cur, h1, hb, hg, hnc, hcm, hcs, ht⟩
 · cases h1
 · cases h1
   refine ⟨g, cap, cur, rfl, hb, hg, by omega, hcm, hcs, ?_⟩
   have h2 := congrArg (List.take n) ht
   rw [List.take_take, List.take_append_of_le_length (by omega), List.take_of_length_le (l := xs) (by omega)] at h2
   rw [← h2]
   congr 1
   omega
/-- The operands at a row's end. -/
theorem ops_own {w : World} {base e g cap : Nat} {ks q : List CT} (h : w.ownsRow base e 1 (.slice (some ⟨g, 0, none⟩) (q.length + ks.length) cap) (q.length + ks.length) (ivS q ++ ivS ks)) (a : Option Addr) (c : Nat) (ha : ks ≠ [] → a = some ⟨g, q.length, none⟩) :
 OpsAt w (.slice a ks.length c) ks.reverse := by
 refine ⟨a, c, by rw [List.length_reverse], fun hne => ?_⟩
 have hne' : ks ≠ [] := fun e => hne (by rw [e]; rfl)
 refine ⟨g, q.length, ha hne', (h.lt g rfl).2, fun j t ht => ?_⟩
 have hj : j < ks.reverse.length := (List.getElem?_eq_some_iff.1 ht).1
 rw [List.length_reverse] at hj
 have h1 := h.cellAt (q.length + j) (by omega)
 rw [h1, List.getElem?_append_right (by rw [ivS_length]; omega), ivS_length, Nat.add_sub_cancel_left]
 unfold ivS
 rw [List.getElem?_map, ht]
 rfl

theorem OpsAt.drew {w : World} {v : Value} {ks : List CT} (h : OpsAt w v ks) : OpsAt w.drew v ks := h

/-- What treeOf answers. -/
def TreeRes (l : List CN) (w : World) (e : Ending) (w' : World) : Prop :=
 ((∃ t : CT, t.ok ∧ l = t.post ∧ t.post.length ≤ 30 ∧ e = .returned (.tuple #[t.iv, .bool true])) ∨ (condB l = false ∧ e = .returned (.tuple #[.nilIface, .bool false]))) ∧ Below w.heap.size w w'

set_option maxRecDepth 100000 in
set_option maxHeartbeats 4000000 in
theorem im_tree (v : Value) (l : List CN) (w : World) (h : CN.Is w v l) (hs : ∀ r, r ∈ l → CN.Sz r) (hm : l.length ≤ maxLen) :
 Calls Tryz.prog 126 #[v] w (TreeRes l w) := by
 obtain ⟨i0, hi, hz0, hz1, hz2⟩ := info_parts infoI
 unfold maxLen at hm
 have HX := Lib.hid h
 have HZ := Lib.hid hs
 obtain ⟨a', c', rfl⟩ := h.slice
 clear h hs
 by_cases hl : l.length ≤ 30
 rotate_left
 · have HY : Hid (condB l = false) := Lib.hid (condB_no (fun h => hl h.1))
   go_enter Tryz.func126, Tryz.ntmps126
   go_wp2_with fail
   go_ret2
   exact ⟨Or.inr ⟨HY.out, rfl⟩, Below.refl _ _⟩
 go_enter Tryz.func126, Tryz.ntmps126
 go_wp2_with fail
 go_loopw [4, 13] (fun st i wr => ∃ (k : Nat) (s : List CT) (a : Option Addr) (c : Nat), i = .int .i64 k ∧ st = .slice a s.length c ∧ k ≤ l.length ∧ s.length ≤ k ∧ Hid (CT.runs [] (l.take k) = some s) ∧ Hid (okS s) ∧ Hid (wr.ownsRow w.heap.size 166 1 (.slice a s.length c) s.length (ivS s)) ∧ Hid (Below w.heap.size w wr)) (fun _ i _ => (l.length - (intOf i).toNat))
 case atStart => exact ⟨0, [], none, 0, rfl, rfl, Nat.zero_le _, Nat.zero_le _, Lib.hid rfl, Lib.hid (fun t h => by cases h), Lib.hid ⟨rfl, Or.inl ⟨rfl, rfl⟩⟩, Lib.hid (Below.refl _ _)⟩
 case round =>
  obtain ⟨k, s, a, c, rfl, rfl, hk, hsk, HS, HOK, HO, HB⟩ := hrel
  by_cases hlt : k < l.length
  rotate_left
  · have HE : Hid (CT.runs [] l = some s) := Lib.hid (by have := HS.out; rwa [List.take_of_length_le (by omega)] at this)
    by_cases h1 : s.length = 1
    · obtain ⟨t, rfl⟩ : ∃ t, s = [t] := by
       match s, h1 with
       | [t], _ => exact ⟨t, rfl⟩
      obtain ⟨g, c2, hv⟩ := own_someL (n := 0) HO.out
      simp only [Value.slice.injEq] at hv
      obtain ⟨rfl, _, rfl⟩ := hv
      have HT := Lib.hid (CT.runs_some _ l [t] rfl HE.out)
      have c0 : wr.cell? ⟨g, 0, none⟩ = some t.iv := HO.out.cellAt 0 (by show 0 < 1 * 1; decide)
      clear h1
      go_wp2_with fail
      go_ret2
      refine ⟨Or.inl ⟨t, (okS_cons.1 HT.out.1).1, ?_, ?_, rfl⟩, HB.out⟩
      · rw [HT.out.2, postS_cons, postS_nil, List.nil_append]
      · have e : l = t.post := by rw [HT.out.2, postS_cons, postS_nil, List.nil_append]
        rw [← e]; exact hl
    · have HN : Hid (condB l = false) := Lib.hid (condB_no (fun h => by
       obtain ⟨_, t, ht⟩ := h
       rw [HE.out] at ht
       obtain rfl := Option.some.inj ht
       exact h1 rfl))
      have hb1 : ((s.length : Int) != 1) = true := bne_iff_ne.2 (by omega)
      go_wp2_with fail
      go_ret2
      exact ⟨Or.inr ⟨HN.out, rfl⟩, HB.out⟩
  have HT : Hid (CT.runs [] (l.take (k + 1)) = CT.step (l[k]'hlt) s) := Lib.hid (by rw [CT.runs_take hlt, HS.out]; rfl)
  have HSZ := Lib.hid (HZ.out _ (List.getElem_mem hlt))
  obtain ⟨b2, o2, c2, hv2, hc2, hcell2⟩ := HX.out.some (by omega)
  simp only [Value.slice.injEq] at hv2
  obtain ⟨rfl, _, rfl⟩ := hv2
  obtain ⟨r0, r1, r2⟩ := (hcell2.below HB.out).at k hlt
  generalize l[k]'hlt = x at *
  clear hcell2 hc2
  have HBAD : Hid (CT.step x s = none → condB l = false) := Lib.hid (fun h => condB_no (fun hc => by
   obtain ⟨_, t, ht⟩ := hc
   rw [CT.runs_bad (k := k + 1) (by rw [HT.out]; exact h)] at ht
   cases ht))
  have HAR := Lib.hid (fun w' => im_arity x w')
  have HSO := Lib.hid (fun w' => im_sound x w' HSZ.out)
  unfold CN.val at HAR HSO
  go_upto_region 7 with fail
  have HG := heap_alloc_new wr (.cells #[.int .i64 x.kind, .string x.opt, .string x.vl] 145)
  have HB2 := Lib.hid (HB.out.alloc HB.out.size (.cells #[.int .i64 x.kind, .string x.opt, .string x.vl] 145))
  have HO2 := Lib.hid (HO.out.alloc (.cells #[.int .i64 x.kind, .string x.opt, .string x.vl] 145))
  generalize wr.alloc (.cells #[.int .i64 x.kind, .string x.opt, .string x.vl] 145) = w2 at *
  have g0 := cell_of_row _ _ 0 _ _ _ HG
  have g1 := cell_of_row _ _ 1 _ _ _ HG
  have g2 := cell_of_row _ _ 2 _ _ _ HG
  clear r0 r1 r2
  go_wp2_with fail
  refine (HAR.out _).mono ?_
  rintro e w3 ⟨rfl, hb⟩
  have HG3 := blk_below HG hb
  have HB3 := Lib.hid (HB2.out.trans (hb.mono HB2.out.size))
  have HO3 := Lib.hid (own_keepL HO2.out hb)
  clear hb g0 g1 g2 HG HB2 HO2
  have g0 := cell_of_row _ _ 0 _ _ _ HG3
  have g1 := cell_of_row _ _ 1 _ _ _ HG3
  have g2 := cell_of_row _ _ 2 _ _ _ HG3
  have hle := ar_le x.kind
  cases hst : CT.step x s with
  | none =>
   have HN := Lib.hid (HBAD.out hst)
   have HW := Lib.hid (step_not hst)
   clear hst
   go_wp2_with fail
   refine (HSO.out _).mono ?_
   rintro e w4 ⟨rfl, hb⟩
   have HB4 := Lib.hid (HB3.out.trans (hb.mono HB3.out.size))
   clear hb
   rcases Bool.eq_false_or_eq_true (soundB x) with hso | hso
   · have hlt2 : s.length < arN x.kind := by
      rcases HW.out with h | h
      · rw [hso] at h; cases h
      · exact h
     rw [hso]
     clear hso
     have hlt3 : (s.length : Int) < (arN x.kind : Int) := by omega
     have hd : decide ((s.length : Int) - (arN x.kind : Int) < 0) = true := decide_eq_true (by omega)
     go_wp2_with fail
     go_ret2
     exact ⟨Or.inr ⟨HN.out, rfl⟩, HB4.out⟩
   · rw [hso]
     clear hso
     go_wp2_with fail
     go_ret2
     exact ⟨Or.inr ⟨HN.out, rfl⟩, HB4.out⟩
  | some r =>
   obtain ⟨t, q, rfl, rfl, rfl, htok, hqok⟩ := step_node hst HOK.out
   have HST := Lib.hid hst
   have HTOK := Lib.hid (okS_cons.2 ⟨htok, hqok⟩)
   have HSND := Lib.hid (sound_top t htok)
   have HART := Lib.hid (ar_top t)
   have HOV := Lib.hid (fun v w' h => im_over t v w' h)
   unfold CN.val CT.iv at HOV
   have hlen : (t.kids ++ q).length = q.length + t.kids.length := by rw [List.length_append]; omega
   rw [HART.out] at hle ⊢
   rw [hlen] at HO3 hsk ⊢
   rw [ivS_app] at HO3
   clear hst htok hqok hlen
   go_wp2_with fail
   refine (HSO.out _).mono ?_
   rintro e w4 ⟨rfl, hb⟩
   have HG4 := blk_below HG3 hb
   have HB4 := Lib.hid (HB3.out.trans (hb.mono HB3.out.size))
   have HO4 := Lib.hid (own_keepL HO3.out hb)
   clear hb g0 g1 g2 HG3 HB3 HO3
   have g0 := cell_of_row _ _ 0 _ _ _ HG4
   have g1 := cell_of_row _ _ 1 _ _ _ HG4
   have g2 := cell_of_row _ _ 2 _ _ _ HG4
   rw [HSND.out]
   go_upto_region 10 with fail
   have HNX : Hid (CT.runs [] (l.take (k + 1)) = some (t :: q)) := Lib.hid (HT.out.trans HST.out)
   have hqk : q.length + t.kids.length ≤ k := hsk
   have h1c : ∀ u ∈ [Value.iface t.ty t.pay], u.oneCell' = true := by intro u hu; simp at hu; subst hu; rfl
   have hsz := HB.out.size
   have hsz4 := HB4.out.size
   have hl4 := lt_of_heap HG4
   rcases HO4.out.2 with ⟨hv, hn0⟩ | ⟨g, cap, cur, hv, _⟩
   · simp only [Value.slice.injEq] at hv
     obtain ⟨rfl, hz, rfl⟩ := hv
     obtain rfl : q = [] := List.eq_nil_of_length_eq_zero (by omega)
     have hk0 : t.kids = [] := List.eq_nil_of_length_eq_zero (by omega)
     have HOPS : ∀ w', Hid (OpsAt w' (.slice none 0 0) t.kids.reverse) := fun w' => Lib.hid ⟨none, 0, by rw [hk0]; rfl, fun h => absurd (by rw [hk0]; rfl) h⟩
     have HPRE : ∀ w', Hid (World.ownsRow w' w.heap.size 166 1 (.slice none 0 0) 0 (ivS [])) := fun w' => Lib.hid ⟨rfl, Or.inl ⟨rfl, rfl⟩⟩
     rw [hk0]
     simp only [List.length_nil, Nat.add_zero, Int.natCast_zero, Int.add_zero]
     have hvn : (Value.slice none 0 0).ownBlock ≠ some wr.heap.size := by simp [Value.ownBlock]
     have hvb : ∀ j, (Value.slice none 0 0).ownBlock = some j → w.heap.size ≤ j := fun j hj => by simp [Value.ownBlock] at hj
     clear hk0 hz hn0 HO4
     go_region_held3 (fun W' => W'.cell? ⟨wr.heap.size, 0, none⟩ = some (.int .i64 t.top.kind) ∧ W'.cell? ⟨wr.heap.size, 1, none⟩ = some (.string t.top.opt) ∧ W'.cell? ⟨wr.heap.size, 2, none⟩ = some (.string t.top.vl))
      (first | assumption | exact ⟨g0, g1, g2⟩ | exact ⟨k0, k1, k2⟩ | exact ⟨cellL_grown k0 (World.grownBy_alloc _ _ none) (by simp), cellL_grown k1 (World.grownBy_alloc _ _ none) (by simp), cellL_grown k2 (World.grownBy_alloc _ _ none) (by simp)⟩ | exact ⟨q0, q1, q2⟩)
      (first | (go_at_call 132; refine (HOV.out _ _ (HOPS _ |>.out)).mono ?_; rintro e w5 ⟨rfl, hb5⟩; have HB5 : Hid (Below w.heap.size w w5) := Lib.hid (HB4.out.drew.trans (hb5.mono HB4.out.size)); have hw5 := HB5.out.size; have k0 := (hb5.cell (p := ⟨wr.heap.size, 0, none⟩) (show wr.heap.size < w4.heap.size by omega)).trans g0; have k1 := (hb5.cell (p := ⟨wr.heap.size, 1, none⟩) (show wr.heap.size < w4.heap.size by omega)).trans g1; have k2 := (hb5.cell (p := ⟨wr.heap.size, 2, none⟩) (show wr.heap.size < w4.heap.size by omega)).trans g2;  clear hb5) | (refine step_append_ownL rfl (.tmp 31) (.tmp 37) 174 rfl w.heap.size 166 i0 .nilIface 1 16 Tryz.underlying174 hi hz0 hz1 hz2 rfl (by decide) (.slice none 0 0) 0 (ivS []) (by simp [Act.eval]) ((HPRE _).out) ⟨w5.heap.size, 0, none⟩ 1 1 [.iface t.ty t.pay] (by simp [Act.eval]) rfl (newL1 _ _ _) h1c (by unfold maxLen; omega) (by omega) (by simp; omega) ?_; intro v' w6 hown hgrow; obtain ⟨g3, c3, rfl⟩ := own_someL hown; have HO6 := Lib.hid hown; have HB6 : Hid (Below w.heap.size w w6) := Lib.hid ((HB5.out.alloc HB5.out.size (.cells #[.iface t.ty t.pay] 166)).grown hgrow (by simp; have := HB5.out.size; omega) hvb); have q0 := cellL_grown (cellL_grown k0 (World.grownBy_alloc _ _ none) (by simp)) hgrow hvn; have q1 := cellL_grown (cellL_grown k1 (World.grownBy_alloc _ _ none) (by simp)) hgrow hvn; have q2 := cellL_grown (cellL_grown k2 (World.grownBy_alloc _ _ none) (by simp)) hgrow hvn; clear hown hgrow))
     all_goals
      have HOR : Hid (w6.ownsRow w.heap.size 166 1 (.slice (some ⟨g3, 0, none⟩) (0 + 1) c3) (0 + 1) (ivS (t :: []))) := Lib.hid (by rw [ivS_cons]; exact HO6.out)
      go_wp2_with fail
      go_roundw
      case rel => exact ⟨k + 1, t :: [], some ⟨g3, 0, none⟩, c3, by go_num, rfl, by omega, by simp only [List.length_cons, List.length_nil]; omega, HNX, HTOK, HOR, HB6⟩
      case measure => simp [intOf]; omega
   · simp only [Value.slice.injEq] at hv
     obtain ⟨rfl, _, rfl⟩ := hv
     have hcap := own_capL HO4.out
     have HPRE := Lib.hid (own_cutI (ivS_length q) HO4.out)
     have hgl := (HO.out.lt g rfl).2
     have hvn : (Value.slice (some ⟨g, 0, none⟩) q.length c).ownBlock ≠ some wr.heap.size := by simp [Value.ownBlock]; omega
     have hvb : ∀ j, (Value.slice (some ⟨g, 0, none⟩) q.length c).ownBlock = some j → w.heap.size ≤ j := fun j hj => (HPRE.out.lt j hj).1
     have n0 : (0 : Int) ≤ (q.length : Int) := by omega
     have n1 : (q.length : Int) ≤ (c : Int) := by omega
     have n2 : (q.length : Int) ≤ (q.length : Int) + (t.kids.length : Int) := by omega
     have n3 : (q.length : Int) + (t.kids.length : Int) ≤ (c : Int) := by omega
     have n4 : ((q.length : Int) + (t.kids.length : Int)) - (q.length : Int) = (t.kids.length : Int) := by omega
     by_cases hqc : c = q.length
     · subst hqc
       have hk0 : t.kids = [] := List.eq_nil_of_length_eq_zero (by omega)
       have HOPS : ∀ w' a', Hid (OpsAt w' (.slice a' 0 0) t.kids.reverse) := fun w' a' => Lib.hid ⟨a', 0, by rw [hk0]; rfl, fun h => absurd (by rw [hk0]; rfl) h⟩
       rw [hk0] at n2 n3 n4 ⊢
       simp only [List.length_nil, Nat.add_zero, Int.natCast_zero, Int.add_zero]
       clear hk0 n2 n3 n4 HO4
       go_region_held3 (fun W' => W'.cell? ⟨wr.heap.size, 0, none⟩ = some (.int .i64 t.top.kind) ∧ W'.cell? ⟨wr.heap.size, 1, none⟩ = some (.string t.top.opt) ∧ W'.cell? ⟨wr.heap.size, 2, none⟩ = some (.string t.top.vl))
        (first | assumption | exact ⟨g0, g1, g2⟩ | exact ⟨k0, k1, k2⟩ | exact ⟨cellL_grown k0 (World.grownBy_alloc _ _ none) (by simp), cellL_grown k1 (World.grownBy_alloc _ _ none) (by simp), cellL_grown k2 (World.grownBy_alloc _ _ none) (by simp)⟩ | exact ⟨q0, q1, q2⟩)
        (first | (go_at_call 132; refine (HOV.out _ _ (HOPS _ _ |>.out)).mono ?_; rintro e w5 ⟨rfl, hb5⟩; have HB5 : Hid (Below w.heap.size w w5) := Lib.hid (HB4.out.drew.trans (hb5.mono HB4.out.size)); have hw5 := HB5.out.size; have k0 := (hb5.cell (p := ⟨wr.heap.size, 0, none⟩) (show wr.heap.size < w4.heap.size by omega)).trans g0; have k1 := (hb5.cell (p := ⟨wr.heap.size, 1, none⟩) (show wr.heap.size < w4.heap.size by omega)).trans g1; have k2 := (hb5.cell (p := ⟨wr.heap.size, 2, none⟩) (show wr.heap.size < w4.heap.size by omega)).trans g2; have HPR5 := Lib.hid (own_keepL (show w4.drew.ownsRow w.heap.size 166 1 (.slice (some ⟨g, 0, none⟩) q.length q.length) q.length (ivS q) from HPRE.out) hb5); clear hb5) | (refine step_append_ownL rfl (.tmp 31) (.tmp 37) 174 rfl w.heap.size 166 i0 .nilIface 1 16 Tryz.underlying174 hi hz0 hz1 hz2 rfl (by decide) (.slice (some ⟨g, 0, none⟩) q.length q.length) q.length (ivS q) (by simp [Act.eval]) (HPR5.out.alloc _) ⟨w5.heap.size, 0, none⟩ 1 1 [.iface t.ty t.pay] (by simp [Act.eval]) rfl (newL1 _ _ _) h1c (by unfold maxLen; omega) (by omega) (by simp; omega) ?_; intro v' w6 hown hgrow; obtain ⟨g3, c3, rfl⟩ := own_someL hown; have HO6 := Lib.hid hown; have HB6 : Hid (Below w.heap.size w w6) := Lib.hid ((HB5.out.alloc HB5.out.size (.cells #[.iface t.ty t.pay] 166)).grown hgrow (by simp; have := HB5.out.size; omega) hvb); have q0 := cellL_grown (cellL_grown k0 (World.grownBy_alloc _ _ none) (by simp)) hgrow hvn; have q1 := cellL_grown (cellL_grown k1 (World.grownBy_alloc _ _ none) (by simp)) hgrow hvn; have q2 := cellL_grown (cellL_grown k2 (World.grownBy_alloc _ _ none) (by simp)) hgrow hvn; clear hown hgrow))
       all_goals
        have HOR : Hid (w6.ownsRow w.heap.size 166 1 (.slice (some ⟨g3, 0, none⟩) (q.length + 1) c3) (q.length + 1) (ivS (t :: q))) := Lib.hid (by rw [ivS_cons]; exact HO6.out)
        go_wp2_with fail
        go_roundw
        case rel => exact ⟨k + 1, t :: q, some ⟨g3, 0, none⟩, c3, by go_num, rfl, by omega, by simp only [List.length_cons]; omega, HNX, HTOK, HOR, HB6⟩
        case measure => simp [intOf]; omega
     have HOPS := Lib.hid (ops_own HO4.out (some ⟨g, q.length, none⟩) (c - q.length) (fun _ => rfl))
     go_region_held3 (fun W' => W'.cell? ⟨wr.heap.size, 0, none⟩ = some (.int .i64 t.top.kind) ∧ W'.cell? ⟨wr.heap.size, 1, none⟩ = some (.string t.top.opt) ∧ W'.cell? ⟨wr.heap.size, 2, none⟩ = some (.string t.top.vl))
      (first | assumption | exact ⟨g0, g1, g2⟩ | exact ⟨k0, k1, k2⟩ | exact ⟨cellL_grown k0 (World.grownBy_alloc _ _ none) (by simp), cellL_grown k1 (World.grownBy_alloc _ _ none) (by simp), cellL_grown k2 (World.grownBy_alloc _ _ none) (by simp)⟩ | exact ⟨q0, q1, q2⟩)
      (first | (go_at_call 132; refine (HOV.out _ _ (HOPS.out.drew)).mono ?_; rintro e w5 ⟨rfl, hb5⟩; have HB5 : Hid (Below w.heap.size w w5) := Lib.hid (HB4.out.drew.trans (hb5.mono HB4.out.size)); have hw5 := HB5.out.size; have k0 := (hb5.cell (p := ⟨wr.heap.size, 0, none⟩) (show wr.heap.size < w4.heap.size by omega)).trans g0; have k1 := (hb5.cell (p := ⟨wr.heap.size, 1, none⟩) (show wr.heap.size < w4.heap.size by omega)).trans g1; have k2 := (hb5.cell (p := ⟨wr.heap.size, 2, none⟩) (show wr.heap.size < w4.heap.size by omega)).trans g2; have HPR5 := Lib.hid (own_keepL (show w4.drew.ownsRow w.heap.size 166 1 (.slice (some ⟨g, 0, none⟩) q.length c) q.length (ivS q) from HPRE.out) hb5); clear hb5) | (refine step_append_ownL rfl (.tmp 31) (.tmp 37) 174 rfl w.heap.size 166 i0 .nilIface 1 16 Tryz.underlying174 hi hz0 hz1 hz2 rfl (by decide) (.slice (some ⟨g, 0, none⟩) q.length c) q.length (ivS q) (by simp [Act.eval]) (HPR5.out.alloc _) ⟨w5.heap.size, 0, none⟩ 1 1 [.iface t.ty t.pay] (by simp [Act.eval]) rfl (newL1 _ _ _) h1c (by unfold maxLen; omega) (by omega) (by simp; omega) ?_; intro v' w6 hown hgrow; obtain ⟨g3, c3, rfl⟩ := own_someL hown; have HO6 := Lib.hid hown; have HB6 : Hid (Below w.heap.size w w6) := Lib.hid ((HB5.out.alloc HB5.out.size (.cells #[.iface t.ty t.pay] 166)).grown hgrow (by simp; have := HB5.out.size; omega) hvb); have q0 := cellL_grown (cellL_grown k0 (World.grownBy_alloc _ _ none) (by simp)) hgrow hvn; have q1 := cellL_grown (cellL_grown k1 (World.grownBy_alloc _ _ none) (by simp)) hgrow hvn; have q2 := cellL_grown (cellL_grown k2 (World.grownBy_alloc _ _ none) (by simp)) hgrow hvn; clear hown hgrow))
     all_goals
      have HOR : Hid (w6.ownsRow w.heap.size 166 1 (.slice (some ⟨g3, 0, none⟩) (q.length + 1) c3) (q.length + 1) (ivS (t :: q))) := Lib.hid (by rw [ivS_cons]; exact HO6.out)
      go_wp2_with fail
      go_roundw
      case rel => exact ⟨k + 1, t :: q, some ⟨g3, 0, none⟩, c3, by go_num, rfl, by omega, by simp only [List.length_cons]; omega, HNX, HTOK, HOR, HB6⟩
      case measure => simp [intOf]; omega
end Go.Proofs.YtmnncinpepeocaaGreat

namespace Go.Proofs.YtmnncinpepeocaaGreat
open Go.RowKit

set_option maxRecDepth 100000 in
set_option maxHeartbeats 1000000 in
theorem im_isCondC (v : Value) (l : List CN) (w : World) (h : CN.Is w v l) (hs : ∀ r, r ∈ l → CN.Sz r) (hm : l.length ≤ maxLen) :
 Calls Tryz.prog 134 #[v] w (BoolRes (condB l) w) := by
 have HT := Lib.hid (im_tree v l w h hs hm)
 obtain ⟨a, c, rfl⟩ := h.slice
 clear h hs
 go_enter Tryz.func134, Tryz.ntmps134
 go_wp2_with fail
 refine HT.out.mono ?_
 rintro e w1 ⟨h | h, hb⟩
 · obtain ⟨t, ht, hl, h30, rfl⟩ := h
   have HY : Hid (condB l = true) := Lib.hid (by rw [hl]; exact condB_yes (cond_post ht h30))
   have HB := Lib.hid hb
   clear hb hl h30 ht HT
   go_wp2_with fail
   go_ret
   exact ⟨by rw [HY.out]; rfl, HB.out⟩
 · obtain ⟨hl, rfl⟩ := h
   have HY := Lib.hid hl
   have HB := Lib.hid hb
   clear hb hl HT
   go_wp2_with fail
   go_ret
   exact ⟨by rw [HY.out]; rfl, HB.out⟩

end Go.Proofs.YtmnncinpepeocaaGreat

namespace Go.Proofs.YtmnncinpepeocaaGreat
open Go.RowKit

set_option maxRecDepth 100000 in
set_option maxHeartbeats 1000000 in
theorem im_indexP (v : Value) (ps : List PK) (o u : ByteArray) (w : World) (h : PK.Is w v ps) (hm : ps.length ≤ maxLen) :
 Calls Tryz.prog 161 #[v, .agg #[.string o, .string u]] w (IdxRes (hasP ps o u) w) := by
 unfold maxLen at hm
 have HX := Lib.hid h
 obtain ⟨a', c', rfl⟩ := h.slice
 clear h
 have HG0 := heap_alloc_new w (.cells #[.string o, .string u] 108)
 have HB0 : Below w.heap.size w (w.alloc (.cells #[.string o, .string u] 108)) := (Below.refl _ _).alloc (Nat.le_refl _) _
 go_enter Tryz.func161, Tryz.ntmps161
 go_wp2_with fail
 generalize w.alloc (.cells #[.string o, .string u] 108) = w0 at *
 go_loopw [8] (fun i wr => ∃ k : Nat, i = .int .i64 k ∧ k ≤ ps.length ∧ Hid (∀ p, p ∈ ps.take k → ¬(p.opt = o ∧ p.vl = u)) ∧ Hid (wr.heap[w.heap.size]? = some (.cells #[.string o, .string u] 108)) ∧ Hid (Below w.heap.size w wr)) (fun i _ => ps.length - (intOf i).toNat)
 case atStart => exact ⟨0, rfl, Nat.zero_le _, Lib.hid (fun p hp => by simp at hp), Lib.hid HG0, Lib.hid HB0⟩
 case round =>
  obtain ⟨k, rfl, hk, HN, HG, HB⟩ := hrel
  clear HG0 HB0
  by_cases hlt : k < ps.length
  rotate_left
  · have HY : Hid (hasP ps o u = false) := Lib.hid (hasP_to (by have := HN.out; rwa [List.take_of_length_le (by omega)] at this))
    go_wp2_with fail
    go_ret
    exact ⟨-1, rfl, (fun h => by rw [HY.out] at h; cases h), fun _ => by decide, HB.out⟩
  have HM : Hid ((ps[k]'hlt) ∈ ps) := Lib.hid (List.getElem_mem hlt)
  have HT : Hid (ps.take (k + 1) = ps.take k ++ [ps[k]'hlt]) := Lib.hid (List.take_succ_eq_append_getElem hlt)
  obtain ⟨b2, o2, c2, hv2, hc2, hcell2⟩ := HX.out.some (by omega)
  simp only [Value.slice.injEq] at hv2
  obtain ⟨rfl, _, rfl⟩ := hv2
  obtain ⟨r0, r1⟩ := (hcell2.below HB.out).at k hlt
  generalize ps[k]'hlt = x at *
  clear hcell2 hc2
  have HN2 : Hid (¬(x.opt = o ∧ x.vl = u) → ∀ p, p ∈ ps.take (k + 1) → ¬(p.opt = o ∧ p.vl = u)) := Lib.hid (fun hx p hp => by
   rw [HT.out] at hp
   rcases List.mem_append.1 hp with hp | hp
   · exact HN.out p hp
   · obtain rfl := List.mem_singleton.1 hp
     exact hx)
  have g0 := cell_of_row _ _ 0 _ _ _ HG.out
  have g1 := cell_of_row _ _ 1 _ _ _ HG.out
  have n1 : (k : Int) < (ps.length : Int) := by omega
  have n0 : (0 : Int) ≤ (k : Int) := by omega
  by_cases ho : x.opt = o
  · have bo := str_eq ho.symm
    by_cases hv : x.vl = u
    · have bv := str_eq hv.symm
      have HY : Hid (hasP ps o u = true) := Lib.hid (hasP_in HM.out ⟨ho, hv⟩)
      clear ho hv
      go_wp2_with fail
      go_quiet (fail)
      go_wp2_with fail
      go_ret
      exact ⟨k, rfl, fun _ => by omega, (fun h => by rw [HY.out] at h; cases h), below_drewN HB.out _⟩
    · have bv := str_ne (fun e => hv e.symm)
      have HS := Lib.hid (HN2.out (fun h => hv h.2))
      clear ho hv
      go_wp2_with fail
      go_quiet (fail)
      go_wp2_with fail
      go_roundw
      case rel => exact ⟨k + 1, by go_num, by omega, HS, Lib.hid HG.out, Lib.hid (below_drewN HB.out _)⟩
      case measure => simp [intOf]; omega
  · have bo := str_ne (fun e => ho e.symm)
    have HS := Lib.hid (HN2.out (fun h => ho h.1))
    clear ho
    go_wp2_with fail
    go_quiet (fail)
    go_wp2_with fail
    go_roundw
    case rel => exact ⟨k + 1, by go_num, by omega, HS, Lib.hid HG.out, Lib.hid (below_drewN HB.out _)⟩
    case measure => simp [intOf]; omega

set_option maxRecDepth 100000 in
set_option maxHeartbeats 1000000 in
theorem im_hasP (v : Value) (ps : List PK) (o u : ByteArray) (w : World) (h : PK.Is w v ps) (hm : ps.length ≤ maxLen) :
 Calls Tryz.prog 160 #[v, .agg #[.string o, .string u]] w (BoolRes (hasP ps o u) w) := by
 have HB0 : Below w.heap.size w (w.alloc (.cells #[.string o, .string u] 108)) := (Below.refl _ _).alloc (Nat.le_refl _) _
 have HI := Lib.hid (im_indexP v ps o u (w.alloc (.cells #[.string o, .string u] 108)) (h.below HB0) hm)
 clear h
 go_enter Tryz.func160, Tryz.ntmps160
 go_wp2_with fail
 generalize w.alloc (.cells #[.string o, .string u] 108) = w0 at *
 refine HI.out.mono ?_
 rintro e w1 ⟨z, rfl, h1, h2, hb⟩
 have HB := Lib.hid (HB0.trans (hb.mono HB0.size))
 have H1 := Lib.hid h1
 have H2 := Lib.hid h2
 clear h1 h2 hb HI
 by_cases hz : 0 ≤ z
 · have HY : Hid (hasP ps o u = true) := Lib.hid (by
    rcases Bool.eq_false_or_eq_true (hasP ps o u) with h | h
    · exact h
    · have := H2.out h; omega)
   go_wp2_with fail
   go_ret
   exact ⟨by rw [HY.out]; rfl, HB.out⟩
 · have HY : Hid (hasP ps o u = false) := Lib.hid (by
    rcases Bool.eq_false_or_eq_true (hasP ps o u) with h | h
    · have := H1.out h; omega
    · exact h)
   have hd : decide (0 ≤ z) = false := decide_eq_false hz
   go_wp2_with fail
   go_ret
   exact ⟨by rw [HY.out]; rfl, HB.out⟩

end Go.Proofs.YtmnncinpepeocaaGreat

namespace Go.Proofs.YtmnncinpepeocaaGreat
open Go.RowKit

/-- The methods of a condition. -/
def CT.fH : CT → FuncId
 | .tt => 174
 | .is _ _ => 156
 | .no _ => 162
 | .and _ _ => 166
 | .or _ _ => 170
theorem meth_holds (t : CT) (w : World) : (method 307 t.ty t.pay "loop.example/g03407/impl.holds").run Tryz.prog w = .ok (t.fH, t.pay) w := by
 cases t <;> kernel_rfl
theorem call_holds (t : CT) (args : Array Value) (w : World) : (callFunc t.fH args).run Tryz.prog w = .ok (.enter t.fH args) w := by
 cases t <;> kernel_rfl
/-- A condition's holds. -/
def HoldsC (t : CT) : Prop := ∀ (v : Value) (ps : List PK) (w : World), PK.Is w v ps → ps.length ≤ maxLen → Calls Tryz.prog t.fH #[t.pay, v] w (BoolRes (t.ev ps) w)

set_option maxRecDepth 100000 in
set_option maxHeartbeats 1000000 in
theorem holds_tt : HoldsC .tt := by
 intro v ps w h hm
 clear h
 unfold CT.fH CT.pay
 go_enter Tryz.func174, Tryz.ntmps174
 go_wp2_with fail
 go_ret
 exact ⟨rfl, (Below.refl _ _).alloc (Nat.le_refl _) _⟩

set_option maxRecDepth 100000 in
set_option maxHeartbeats 1000000 in
theorem holds_is (o u : ByteArray) : HoldsC (.is o u) := by
 intro v ps w h hm
 have HB0 : Below w.heap.size w (w.alloc (.cells #[.string o, .string u] 179)) := (Below.refl _ _).alloc (Nat.le_refl _) _
 have HI := Lib.hid (im_hasP v ps o u (w.alloc (.cells #[.string o, .string u] 179)) (h.below HB0) hm)
 have HE : Hid ((CT.is o u).ev ps = hasP ps o u) := Lib.hid rfl
 clear h
 rw [HE.out]
 unfold CT.fH CT.pay
 go_enter Tryz.func156, Tryz.ntmps156
 go_wp2_with fail
 refine HI.out.mono ?_
 rintro e w1 ⟨rfl, hb⟩
 have HB := Lib.hid (HB0.trans (hb.mono HB0.size))
 clear hb HB0
 go_wp2_with fail
 go_ret
 exact ⟨rfl, HB.out⟩

set_option maxRecDepth 100000 in
set_option maxHeartbeats 1000000 in
theorem holds_no (t : CT) (ih : HoldsC t) : HoldsC (.no t) := by
 intro v ps w h hm
 have HB0 : Below w.heap.size w (w.alloc (.cells #[.iface t.ty t.pay] 181)) := (Below.refl _ _).alloc (Nat.le_refl _) _
 have HI := Lib.hid (ih v ps (w.alloc (.cells #[.iface t.ty t.pay] 181)) (h.below HB0) hm)
 have HE : Hid ((CT.no t).ev ps = !t.ev ps) := Lib.hid rfl
 clear h
 have hme := meth_holds t
 have hca := call_holds t
 unfold CT.fH CT.pay
 go_enter Tryz.func162, Tryz.ntmps162
 go_wp2_with fail
 refine HI.out.mono ?_
 rintro e w1 ⟨rfl, hb⟩
 have HB := Lib.hid (HB0.trans (hb.mono HB0.size))
 clear hb HB0 hme hca
 obtain ⟨y, hy⟩ : ∃ y, t.ev ps = y := ⟨_, rfl⟩
 rw [hy]
 have HY := Lib.hid hy
 clear hy
 cases y
 all_goals
  go_wp2_with fail
  go_ret
  exact ⟨by rw [HE.out, HY.out]; rfl, HB.out⟩

set_option maxRecDepth 100000 in
set_option maxHeartbeats 1000000 in
theorem holds_and (a b : CT) (iha : HoldsC a) (ihb : HoldsC b) : HoldsC (.and a b) := by
 intro v ps w h hm
 have HG := heap_alloc_new w (.cells #[.iface a.ty a.pay, .iface b.ty b.pay] 183)
 have HB0 : Below w.heap.size w (w.alloc (.cells #[.iface a.ty a.pay, .iface b.ty b.pay] 183)) := (Below.refl _ _).alloc (Nat.le_refl _) _
 have HIA := Lib.hid (iha v ps (w.alloc (.cells #[.iface a.ty a.pay, .iface b.ty b.pay] 183)) (h.below HB0) hm)
 have HIB : Hid (∀ W, Below w.heap.size w W → Calls Tryz.prog b.fH #[b.pay, v] W (BoolRes (b.ev ps) W)) := Lib.hid (fun W hW => ihb v ps W (h.below hW) hm)
 have HE : Hid ((CT.and a b).ev ps = (a.ev ps && b.ev ps)) := Lib.hid rfl
 clear h
 have hme := meth_holds a
 have hca := call_holds a
 have hme2 := meth_holds b
 have hca2 := call_holds b
 unfold CT.fH CT.pay
 go_enter Tryz.func166, Tryz.ntmps166
 go_wp2_with fail
 refine HIA.out.mono ?_
 rintro e w1 ⟨rfl, hb⟩
 have HG := blk_below HG hb
 have HB := Lib.hid (HB0.trans (hb.mono HB0.size))
 clear hb HB0
 obtain ⟨y, hy⟩ : ∃ y, a.ev ps = y := ⟨_, rfl⟩
 obtain ⟨z, hz⟩ : ∃ z, b.ev ps = z := ⟨_, rfl⟩
 rw [hz] at HIB
 rw [hy]
 have HYA := Lib.hid hy
 have HZB := Lib.hid hz
 clear hy hz
 cases y with
 | false =>
  go_wp2_with fail
  go_ret
  exact ⟨by rw [HE.out, HYA.out]; rfl, HB.out⟩
 | true =>
  have g1 := cell_of_row _ _ 1 _ _ _ HG
  go_wp2_with fail
  refine (HIB.out _ HB.out).mono ?_
  rintro e w2 ⟨rfl, hb⟩
  have HB2 := Lib.hid (HB.out.trans (hb.mono HB.out.size))
  clear hb g1 hme hca hme2 hca2
  go_wp2_with fail
  go_ret
  exact ⟨by rw [HE.out, HYA.out, HZB.out]; cases z <;> rfl, HB2.out⟩

set_option maxRecDepth 100000 in
set_option maxHeartbeats 1000000 in
theorem holds_or (a b : CT) (iha : HoldsC a) (ihb : HoldsC b) : HoldsC (.or a b) := by
 intro v ps w h hm
 have HG := heap_alloc_new w (.cells #[.iface a.ty a.pay, .iface b.ty b.pay] 184)
 have HB0 : Below w.heap.size w (w.alloc (.cells #[.iface a.ty a.pay, .iface b.ty b.pay] 184)) := (Below.refl _ _).alloc (Nat.le_refl _) _
 have HIA := Lib.hid (iha v ps (w.alloc (.cells #[.iface a.ty a.pay, .iface b.ty b.pay] 184)) (h.below HB0) hm)
 have HIB : Hid (∀ W, Below w.heap.size w W → Calls Tryz.prog b.fH #[b.pay, v] W (BoolRes (b.ev ps) W)) := Lib.hid (fun W hW => ihb v ps W (h.below hW) hm)
 have HE : Hid ((CT.or a b).ev ps = (a.ev ps || b.ev ps)) := Lib.hid rfl
 clear h
 have hme := meth_holds a
 have hca := call_holds a
 have hme2 := meth_holds b
 have hca2 := call_holds b
 unfold CT.fH CT.pay
 go_enter Tryz.func170, Tryz.ntmps170
 go_wp2_with fail
 refine HIA.out.mono ?_
 rintro e w1 ⟨rfl, hb⟩
 have HG := blk_below HG hb
 have HB := Lib.hid (HB0.trans (hb.mono HB0.size))
 clear hb HB0
 obtain ⟨y, hy⟩ : ∃ y, a.ev ps = y := ⟨_, rfl⟩
 obtain ⟨z, hz⟩ : ∃ z, b.ev ps = z := ⟨_, rfl⟩
 rw [hz] at HIB
 rw [hy]
 have HYA := Lib.hid hy
 have HZB := Lib.hid hz
 clear hy hz
 cases y with
 | true =>
  go_wp2_with fail
  go_ret
  exact ⟨by rw [HE.out, HYA.out]; rfl, HB.out⟩
 | false =>
  have g1 := cell_of_row _ _ 1 _ _ _ HG
  go_wp2_with fail
  refine (HIB.out _ HB.out).mono ?_
  rintro e w2 ⟨rfl, hb⟩
  have HB2 := Lib.hid (HB.out.trans (hb.mono HB.out.size))
  clear hb g1 hme hca hme2 hca2
  go_wp2_with fail
  go_ret
  exact ⟨by rw [HE.out, HYA.out, HZB.out]; cases z <;> rfl, HB2.out⟩

theorem im_holds : ∀ t : CT, HoldsC t
 | .tt => holds_tt
 | .is o u => holds_is o u
 | .no t => holds_no t (im_holds t)
 | .and a b => holds_and a b (im_holds a) (im_holds b)
 | .or a b => holds_or a b (im_holds a) (im_holds b)

set_option maxRecDepth 100000 in
set_option maxHeartbeats 1000000 in
theorem im_HoldsC (v v2 : Value) (l : List CN) (ps : List PK) (w : World) (h : CN.Is w v l) (hs : ∀ r, r ∈ l → CN.Sz r) (hm : l.length ≤ maxLen) (h2 : PK.Is w v2 ps) (hm2 : ps.length ≤ maxLen) :
 Calls Tryz.prog 111 #[v, v2] w (BoolRes (holdsB l ps) w) := by
 have HT := Lib.hid (im_tree v l w h hs hm)
 have HP := Lib.hid h2
 clear h h2 hs
 go_enter Tryz.func111, Tryz.ntmps111
 go_wp2_with fail
 refine HT.out.mono ?_
 rintro e w1 ⟨h | h, hb⟩
 · obtain ⟨t, ht, hl, h30, rfl⟩ := h
   have HY : Hid (holdsB l ps = t.ev ps) := Lib.hid (by rw [hl]; exact holdsB_yes ps ht h30)
   have HB := Lib.hid hb
   have HI := Lib.hid (im_holds t v2 ps w1 (HP.out.below hb) hm2)
   have hme := meth_holds t
   have hca := call_holds t
   clear hb hl h30 ht HT
   unfold CT.iv
   go_wp2_with fail
   refine HI.out.mono ?_
   rintro e w2 ⟨rfl, hb⟩
   have HB2 := Lib.hid (HB.out.trans (hb.mono HB.out.size))
   clear hb hme hca
   go_wp2_with fail
   go_ret
   exact ⟨by rw [HY.out]; rfl, HB2.out⟩
 · obtain ⟨hl, rfl⟩ := h
   have HY := Lib.hid (holdsB_no (ps := ps) hl)
   have HB := Lib.hid hb
   clear hb hl HT
   go_wp2_with fail
   go_ret
   exact ⟨by rw [HY.out]; rfl, HB.out⟩

end Go.Proofs.YtmnncinpepeocaaGreat
