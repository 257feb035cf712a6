import Derived.Test.YtmnncinpepeocaaGreatBuNE
import Derived.Test.YtmnncinpepeocaaGreatBuWay
import Derived.Test.YtmnncinpepeocaaGreatBuA
import Derived.WalkKit
import Derived.WalkSpells
import Derived.WalkSmall
import Derived.BigQuiet
import Derived.Deep.QuietTactic
import Derived.Deep.DeepCutAuto
import Derived.Lib.Hide
namespace Go.Proofs.YtmnncinpepeocaaGreat
open Go.RowKit

/-- How many of a code are needed. -/
def inN (zs : List NE) (s : ByteArray) : Int := (zs.map (fun x => if x.code = s then x.qty else 0)).sum
theorem inN_take {zs : List NE} {s : ByteArray} {k : Nat} (hk : k < zs.length) : inN (zs.take (k + 1)) s = inN (zs.take k) s + (if (zs[k]'hk).code = s then (zs[k]'hk).qty else 0) := by
 unfold inN
 rw [List.take_succ_eq_append_getElem hk, List.map_append, List.sum_append]
 simp

set_option maxRecDepth 100000 in
set_option maxHeartbeats 1000000 in
theorem laws_in (v : Value) (zs : List NE) (s : ByteArray) (w : World) (h : NE.Is w v zs) (hm : zs.length ≤ 1000) (hb : ∀ k, k ≤ zs.length → 0 ≤ inN (zs.take k) s ∧ inN (zs.take k) s ≤ 1000000000000) :
 Calls Tryz.prog 13 #[v, .string s] w fun e w' => e = .returned (.int .i64 (inN zs s)) ∧ Hid (Below w.heap.size w w') := by
 have H := Lib.hid h
 have HB := Lib.hid hb
 obtain ⟨a, c, rfl⟩ := h.slice
 clear h hb
 go_enter Tryz.func13, Tryz.ntmps13
 go_wp2_with fail
 go_loopw [5, 6] (fun x i wr => ∃ k : Nat, k ≤ zs.length ∧ i = .int .i64 k ∧ x = .int .i64 (inN (zs.take k) s) ∧ Hid (Below w.heap.size w wr)) (fun _ i _ => zs.length - (intOf i).toNat)
 case atStart => exact ⟨0, Nat.zero_le _, rfl, rfl, Lib.hid (Below.refl _ _)⟩
 case round =>
  obtain ⟨k, hk, rfl, rfl, HBr⟩ := hrel
  by_cases hlt : k < zs.length
  rotate_left
  · have hke : k = zs.length := by omega
    subst hke
    rw [List.take_length]
    go_wp2_with fail
    go_ret
    exact ⟨rfl, HBr⟩
  have HLT := Lib.hid hlt
  obtain ⟨b, o, c', hv, hc, hat⟩ := (H.out.below HBr.out).some (by omega)
  simp only [Value.slice.injEq] at hv
  obtain ⟨rfl, _, rfl⟩ := hv
  obtain ⟨e0, e1⟩ := hat.at k hlt
  have HT := Lib.hid (inN_take (s := s) hlt)
  have hb0 := HB.out k hk
  have hb1 := HB.out (k + 1) hlt
  rw [HT.out] at hb1
  have hk0 : (0 : Int) ≤ (k : Int) := by omega
  have hk1 : (k : Int) < (zs.length : Int) := by omega
  clear hat hc
  generalize zs[k]'hlt = x at *
  by_cases he : x.code = s
  · have hy := str_eq he
    rw [if_pos he] at HT hb1
    clear he
    go_wp2_with fail
    go_roundw
    case rel => exact ⟨k + 1, HLT.out, by go_num, by rw [HT.out], HBr⟩
    case measure => have := HLT.out; simp [intOf]; omega
  · have hy := str_ne he
    rw [if_neg he, Int.add_zero] at HT
    clear he hb1
    go_wp2_with fail
    go_roundw
    case rel => exact ⟨k + 1, HLT.out, by go_num, by rw [HT.out], HBr⟩
    case measure => have := HLT.out; simp [intOf]; omega

theorem ite_iff {p q : Prop} [Decidable p] [Decidable q] (h : p ↔ q) (x y : Int) : (if p then x else y) = if q then x else y := by
 by_cases hp : p
 · rw [if_pos hp, if_pos (h.1 hp)]
 · rw [if_neg hp, if_neg (fun hq => hp (h.2 hq))]
/-- Of what is needed each code has its number. -/
theorem inN_need (l : List IT) (c : ByteArray) (V : ByteArray → Nat) (ph : Bool) (hn : (l.map IT.code).Nodup) (s : ByteArray) : inN (needP l c V ph) s = if s ∈ l.map IT.code ∧ s ≠ c ∧ ¬(ph = true ∧ ∃ r, r ∈ l ∧ r.code = s ∧ r.kind = 2) then ((V s : Nat) : Int) else 0 := by
 induction l with
 | nil => rfl
 | cons r l ih =>
  rw [List.map_cons, List.nodup_cons] at hn
  have h1 := ih hn.2
  have e1 : inN (needP (r :: l) c V ph) s = (if 0 < V r.code ∧ r.code ≠ c ∧ ¬(ph = true ∧ r.kind = 2) then (if r.code = s then ((V r.code : Nat) : Int) else 0) else 0) + inN (needP l c V ph) s := by
   unfold inN needP
   by_cases h : 0 < V r.code ∧ r.code ≠ c ∧ ¬(ph = true ∧ r.kind = 2)
   · rw [List.filter_cons_of_pos (by rw [decide_eq_true h]), if_pos h]
     simp
   · rw [List.filter_cons_of_neg (by rw [decide_eq_false h]; simp), if_neg h, Int.zero_add]
  rw [e1, h1]
  by_cases e : r.code = s
  · subst e
    have hnm : ¬(r.code ∈ l.map IT.code) := hn.1
    have hA : (if r.code ∈ l.map IT.code ∧ r.code ≠ c ∧ ¬(ph = true ∧ ∃ x, x ∈ l ∧ x.code = r.code ∧ x.kind = 2) then ((V r.code : Nat) : Int) else 0) = 0 := if_neg (fun h => hnm h.1)
    rw [hA, Int.add_zero]
    simp only [↓reduceIte]
    have hk : (∃ x, x ∈ r :: l ∧ x.code = r.code ∧ x.kind = 2) ↔ r.kind = 2 := by
     constructor
     · rintro ⟨x, hx, hc, hk⟩
       rcases List.mem_cons.1 hx with rfl | hx
       · exact hk
       · exact absurd (List.mem_map.2 ⟨x, hx, hc⟩) hnm
     · intro hk; exact ⟨r, List.mem_cons_self, rfl, hk⟩
    have hR : (if r.code ∈ (r :: l).map IT.code ∧ r.code ≠ c ∧ ¬(ph = true ∧ ∃ x, x ∈ r :: l ∧ x.code = r.code ∧ x.kind = 2) then ((V r.code : Nat) : Int) else 0) = if r.code ≠ c ∧ ¬(ph = true ∧ r.kind = 2) then ((V r.code : Nat) : Int) else 0 := ite_iff ⟨fun h => ⟨h.2.1, fun h2 => h.2.2 ⟨h2.1, hk.2 h2.2⟩⟩, fun h => ⟨by rw [List.map_cons]; exact List.mem_cons_self, h.1, fun h2 => h.2 ⟨h2.1, hk.1 h2.2⟩⟩⟩ _ _
    rw [hR]
    by_cases h2 : r.code ≠ c ∧ ¬(ph = true ∧ r.kind = 2)
    · rw [if_pos h2]
      by_cases h3 : 0 < V r.code
      · rw [if_pos ⟨h3, h2⟩]
      · rw [if_neg (fun h => h3 h.1)]; omega
    · rw [if_neg h2, if_neg (fun h => h2 h.2)]
  · have e2 : (if 0 < V r.code ∧ r.code ≠ c ∧ ¬(ph = true ∧ r.kind = 2) then (if r.code = s then ((V r.code : Nat) : Int) else 0) else 0) = 0 := by
     rw [if_neg e, ite_self]
    rw [e2, Int.zero_add, List.map_cons]
    have hm : s ∈ r.code :: l.map IT.code ↔ s ∈ l.map IT.code := ⟨fun h => (List.mem_cons.1 h).resolve_left (fun h2 => e h2.symm), List.mem_cons_of_mem _⟩
    have hk : (∃ x, x ∈ r :: l ∧ x.code = s ∧ x.kind = 2) ↔ ∃ x, x ∈ l ∧ x.code = s ∧ x.kind = 2 := by
     constructor
     · rintro ⟨x, hx, hc, hk⟩
       rcases List.mem_cons.1 hx with rfl | hx
       · exact absurd hc e
       · exact ⟨x, hx, hc, hk⟩
     · rintro ⟨x, hx, hc, hk⟩; exact ⟨x, List.mem_cons_of_mem _ hx, hc, hk⟩
    exact ite_iff ⟨fun h => ⟨hm.2 h.1, h.2.1, fun h2 => h.2.2 ⟨h2.1, hk.1 h2.2⟩⟩, fun h => ⟨hm.1 h.1, h.2.1, fun h2 => h.2.2 ⟨h2.1, hk.2 h2.2⟩⟩⟩ _ _
/-- Never less than nothing, and never more than there is. -/
theorem inN_range {zs : List NE} {s : ByteArray} (h : ∀ x, x ∈ zs → 0 ≤ x.qty ∧ x.qty ≤ 1000000000) : ∀ k, k ≤ zs.length → 0 ≤ inN (zs.take k) s ∧ inN (zs.take k) s ≤ (k : Int) * 1000000000 := by
 intro k
 induction k with
 | zero => intro _; exact ⟨Int.le_refl _, Int.le_refl _⟩
 | succ k ih =>
  intro hk
  have h1 := ih (by omega)
  have h2 := h _ (List.getElem_mem (show k < zs.length from hk))
  rw [inN_take (show k < zs.length from hk)]
  split
  · omega
  · omega
end Go.Proofs.YtmnncinpepeocaaGreat

namespace Go.Proofs.YtmnncinpepeocaaGreat
open Go.RowKit

theorem exZ_len (l : List IT) (xs : List BL) (s : ByteArray) (q day : Int) (ps : List PK) (ph : Bool) : (exZ l xs s q day ps ph).length ≤ l.length := by
 by_cases h : ExYes l xs s q day ps ph
 · rw [exZ_yes h]; exact needP_le _ _ _ _
 · rw [exZ_no h]; exact Nat.zero_le _
theorem exZ_qty {l : List IT} {xs : List BL} {s : ByteArray} {q day : Int} {ps : List PK} {ph : Bool} : ∀ x, x ∈ exZ l xs s q day ps ph → 0 ≤ x.qty ∧ x.qty ≤ 1000000000 := by
 intro x hx
 by_cases h : ExYes l xs s q day ps ph
 · rw [exZ_yes h] at hx
   unfold needP at hx
   obtain ⟨r, hr, rfl⟩ := List.mem_map.1 hx
   obtain ⟨k, hk, rfl⟩ := List.getElem_of_mem (List.mem_filter.1 hr).1
   have h1 := h.2 k hk
   show (0 : Int) ≤ ((exV l xs s q day ps ph (l[k]'hk).code : Nat) : Int) ∧ ((exV l xs s q day ps ph (l[k]'hk).code : Nat) : Int) ≤ 1000000000
   omega
 · rw [exZ_no h] at hx; cases hx
theorem exZ_range {l : List IT} (hl : l.length ≤ 6) (xs : List BL) (s : ByteArray) (q day : Int) (ps : List PK) (ph : Bool) (b : ByteArray) : ∀ k, k ≤ (exZ l xs s q day ps ph).length → 0 ≤ inN ((exZ l xs s q day ps ph).take k) b ∧ inN ((exZ l xs s q day ps ph).take k) b ≤ 6000000000 := by
 intro k hk
 have h1 := inN_range (zs := exZ l xs s q day ps ph) (s := b) exZ_qty k hk
 have h2 := exZ_len l xs s q day ps ph
 refine ⟨h1.1, Int.le_trans h1.2 ?_⟩
 omega
theorem exZ_pos {l : List IT} {xs : List BL} {s : ByteArray} {q day : Int} {ps : List PK} {ph : Bool} (b : ByteArray) : 0 ≤ inN (exZ l xs s q day ps ph) b := by
 have h1 := inN_range (zs := exZ l xs s q day ps ph) (s := b) exZ_qty _ (Nat.le_refl _)
 rw [List.take_length] at h1
 exact h1.1
end Go.Proofs.YtmnncinpepeocaaGreat

namespace Go.Proofs.YtmnncinpepeocaaGreat
open Go.RowKit

theorem sum_filter_map {α : Type} (p : α → Bool) (f : α → Int) : ∀ l : List α, ((l.filter p).map f).sum = (l.map (fun x => if p x = true then f x else 0)).sum
 | [] => rfl
 | x :: l => by
  by_cases h : p x = true
  · rw [List.filter_cons_of_pos h, List.map_cons, List.sum_cons, List.map_cons, List.sum_cons, if_pos h, sum_filter_map p f l]
  · rw [List.filter_cons_of_neg h, List.map_cons, List.sum_cons, if_neg h, Int.zero_add, sum_filter_map p f l]
theorem sum_congrI {α : Type} {l : List α} {f g : α → Int} (h : ∀ x, x ∈ l → f x = g x) : (l.map f).sum = (l.map g).sum := by
 rw [List.map_congr_left h]
theorem sum_addI {α : Type} (f g : α → Int) : ∀ l : List α, (l.map f).sum + (l.map g).sum = (l.map (fun x => f x + g x)).sum
 | [] => rfl
 | x :: l => by
  rw [List.map_cons, List.sum_cons, List.map_cons, List.sum_cons, List.map_cons, List.sum_cons, ← sum_addI f g l]
  omega
theorem sum_castI {α : Type} (f : α → Nat) : ∀ l : List α, (l.map (fun x => ((f x : Nat) : Int))).sum = (((l.map f).sum : Nat) : Int)
 | [] => rfl
 | x :: l => by
  rw [List.map_cons, List.sum_cons, List.map_cons, List.sum_cons, sum_castI f l, Int.natCast_add]
theorem sum_take_le {α : Type} {f : α → Int} : ∀ (l : List α) (j : Nat), (∀ x, x ∈ l → 0 ≤ f x) → 0 ≤ ((l.take j).map f).sum ∧ ((l.take j).map f).sum ≤ (l.map f).sum
 | [], j, _ => by simp
 | x :: l, 0, h => by
  have h1 := sum_take_le l l.length (fun y hy => h y (List.mem_cons_of_mem _ hy))
  rw [List.take_length] at h1
  have h2 := h x List.mem_cons_self
  rw [List.take_zero, List.map_nil, List.map_cons, List.sum_cons]
  show (0 : Int) ≤ 0 ∧ (0 : Int) ≤ _
  omega
 | x :: l, j + 1, h => by
  have h1 := sum_take_le l j (fun y hy => h y (List.mem_cons_of_mem _ hy))
  have h2 := h x List.mem_cons_self
  rw [List.take_succ_cons, List.map_cons, List.sum_cons, List.map_cons, List.sum_cons]
  omega
theorem sum_mem_le {α : Type} {f : α → Int} : ∀ (l : List α) (x : α), x ∈ l → (∀ x, x ∈ l → 0 ≤ f x) → f x ≤ (l.map f).sum
 | [], x, hx, _ => by cases hx
 | y :: l, x, hx, h => by
  have h1 := sum_take_le l l.length (fun y hy => h y (List.mem_cons_of_mem _ hy))
  rw [List.take_length] at h1
  have h2 := h y List.mem_cons_self
  rw [List.map_cons, List.sum_cons]
  rcases List.mem_cons.1 hx with rfl | hx
  · omega
  · have h3 := sum_mem_le l x hx (fun y hy => h y (List.mem_cons_of_mem _ hy))
    omega

/-- How many ways lead from one code to the other, by the lines in force; and those through phantoms only. -/
noncomputable def wAll (xs : List BL) (day : Int) (ps : List PK) (t b : ByteArray) : Nat := wy ((onX xs day ps).map edOf) t b
noncomputable def wPh (l : List IT) (xs : List BL) (day : Int) (ps : List PK) (s b : ByteArray) : Nat := wy (thru ((onX xs day ps).map edOf) s (betw l true)) s b
theorem exV_off (l : List IT) (xs : List BL) (s : ByteArray) (q day : Int) (ps : List PK) (b : ByteArray) : exV l xs s q day ps false b = q.toNat * wAll xs day ps s b := by
 unfold exV pv wAll
 rw [betw_off, thru_all]
theorem exV_on (l : List IT) (xs : List BL) (s : ByteArray) (q day : Int) (ps : List PK) (b : ByteArray) : exV l xs s q day ps true b = q.toNat * wPh l xs day ps s b := rfl
theorem quV_all (l : List IT) (xs : List BL) (s t : ByteArray) (day : Int) (ps : List PK) : quV l xs s t day ps = wAll xs day ps s t := by
 unfold quV pv wAll
 rw [betw_off, thru_all, Nat.one_mul]
theorem w_first {l : List IT} {xs : List BL} (h : BillsOk l xs) (day : Int) (ps : List PK) (s b : ByteArray) :
 wAll xs day ps s b = ((l.map IT.code).map (fun k => if betw l true k = true ∨ k = s then 0 else wPh l xs day ps s k * wAll xs day ps k b)).sum + (if betw l true b = true ∨ b = s then wPh l xs day ps s b else 0) :=
 wy_first (on_acy h day ps) s (betw l true) (cat_codes h.1.1) (on_prt h.1) b
theorem w_self {l : List IT} {xs : List BL} (h : BillsOk l xs) (day : Int) (ps : List PK) (b : ByteArray) : wAll xs day ps b b = 1 := wy_self (on_acy h day ps) b
theorem w_le {l : List IT} {xs : List BL} (h : BillsOk l xs) (day : Int) (ps : List PK) (s b : ByteArray) (hb : b ∈ l.map IT.code) : wPh l xs day ps s b ≤ wAll xs day ps s b := by
 have h1 := w_first h day ps s b
 by_cases hc : betw l true b = true ∨ b = s
 · rw [if_pos hc] at h1; omega
 · have h2 := sm_le (f := fun k => if betw l true k = true ∨ k = s then 0 else wPh l xs day ps s k * wAll xs day ps k b) hb
   simp only [if_neg hc, w_self h day ps b, Nat.mul_one] at h2
   omega
theorem w_back {l : List IT} {xs : List BL} (h : BillsOk l xs) (day : Int) (ps : List PK) {s k : ByteArray} (hne : k ≠ s) (hk : wAll xs day ps s k ≠ 0) : wAll xs day ps k s = 0 := by
 obtain ⟨lv, h1, h2⟩ := on_acy h day ps
 have h3 := wy_lt h1 (fun e => hne e.symm) hk
 refine Classical.byContradiction (fun hn => ?_)
 have h4 := wy_lv h1 hn
 omega
/-- What is taken at once can be told where the whole can. -/
theorem ph_yes {l : List IT} {xs : List BL} {s : ByteArray} {q day : Int} {ps : List PK} (h : ExYes l xs s q day ps false) : ExYes l xs s q day ps true := by
 refine ⟨h.1, fun k hk => ?_⟩
 have h1 := h.2 k hk
 rw [exV_off] at h1
 rw [exV_on]
 exact Nat.le_trans (Nat.mul_le_mul_left _ (w_le h.1.1 day ps s _ (List.mem_map.2 ⟨_, List.getElem_mem hk, rfl⟩))) h1
/-- What a part that is taken at once adds. -/
noncomputable def phT (l : List IT) (xs : List BL) (day : Int) (ps : List PK) (b : ByteArray) (x : NE) : Int := if x.code = b then 0 else quN l xs x.code b day ps * x.qty
noncomputable def phA (l : List IT) (xs : List BL) (day : Int) (ps : List PK) (b : ByteArray) (zs : List NE) (j : Nat) : Int := inN zs b + ((zs.take j).map (phT l xs day ps b)).sum
theorem phA_zero (l : List IT) (xs : List BL) (day : Int) (ps : List PK) (b : ByteArray) (zs : List NE) : phA l xs day ps b zs 0 = inN zs b := by
 unfold phA; simp
theorem phA_succ {l : List IT} {xs : List BL} {day : Int} {ps : List PK} {b : ByteArray} {zs : List NE} {j : Nat} (hj : j < zs.length) : phA l xs day ps b zs (j + 1) = phA l xs day ps b zs j + phT l xs day ps b (zs[j]'hj) := by
 unfold phA
 rw [List.take_succ_eq_append_getElem hj, List.map_append, List.sum_append]
 simp only [List.map_cons, List.map_nil, List.sum_cons, List.sum_nil, Int.add_zero]
 omega
/-- Each part taken at once: its number, and that it is no phantom. -/
theorem ph_mem {l : List IT} {xs : List BL} {s : ByteArray} {q day : Int} {ps : List PK} (h : ExYes l xs s q day ps false) {x : NE} (hx : x ∈ exZ l xs s q day ps true) :
 x.code ∈ l.map IT.code ∧ x.code ≠ s ∧ 0 < wPh l xs day ps s x.code ∧ x.qty = ((q.toNat * wPh l xs day ps s x.code : Nat) : Int) ∧ 0 < q.toNat := by
 rw [exZ_yes (ph_yes h)] at hx
 unfold needP at hx
 obtain ⟨r, hr, rfl⟩ := List.mem_map.1 hx
 obtain ⟨h1, h2⟩ := List.mem_filter.1 hr
 rw [decide_eq_true_eq, exV_on] at h2
 have h3 : 0 < q.toNat ∧ 0 < wPh l xs day ps s r.code := by
  refine ⟨Nat.pos_of_ne_zero (fun e => ?_), Nat.pos_of_ne_zero (fun e => ?_)⟩
  · have := h2.1; rw [e, Nat.zero_mul] at this; exact absurd this (Nat.lt_irrefl _)
  · have := h2.1; rw [e, Nat.mul_zero] at this; exact absurd this (Nat.lt_irrefl _)
 exact ⟨List.mem_map.2 ⟨r, h1, rfl⟩, h2.2.1, h3.2, rfl, h3.1⟩
theorem ph_term (n t w : Nat) (P Q : Prop) [Decidable P] [Decidable Q] : (if 0 < n * t ∧ ¬P ∧ ¬(true = true ∧ Q) then ((w : Nat) : Int) * ((n * t : Nat) : Int) else 0) = ((n * (if Q ∨ P then 0 else t * w) : Nat) : Int) := by
 by_cases h : Q ∨ P
 · rw [if_pos h, Nat.mul_zero, if_neg (fun h3 => by rcases h with h2 | h2; exact h3.2.2 ⟨rfl, h2⟩; exact h3.2.1 h2)]; rfl
 · rw [if_neg h]
   have e2 : ((w : Nat) : Int) * ((n * t : Nat) : Int) = ((n * (t * w) : Nat) : Int) := by
    rw [← Int.natCast_mul, Nat.mul_comm, Nat.mul_assoc]
   by_cases h3 : 0 < n * t
   · rw [if_pos ⟨h3, fun e => h (Or.inr e), fun e => h (Or.inl e.2)⟩, e2]
   · rw [if_neg (fun h4 => h3 h4.1), ← e2, Nat.eq_zero_of_not_pos h3]
     simp
/-- The whole, over the catalog. -/
theorem ph_sum {l : List IT} {xs : List BL} {s : ByteArray} {q day : Int} {ps : List PK} (h : ExYes l xs s q day ps false) {b : ByteArray} (hbn : betw l true b = false) :
 ((exZ l xs s q day ps true).map (fun x => ((wAll xs day ps x.code b : Nat) : Int) * x.qty)).sum = if b = s then 0 else ((q.toNat * wAll xs day ps s b : Nat) : Int) := by
 have hcat := h.1.1.1.1
 rw [exZ_yes (ph_yes h)]
 unfold needP
 rw [List.map_map, sum_filter_map]
 have h1 : ∀ r, r ∈ l → (if decide (0 < exV l xs s q day ps true r.code ∧ r.code ≠ s ∧ ¬(true = true ∧ r.kind = 2)) = true then ((fun x : NE => ((wAll xs day ps x.code b : Nat) : Int) * x.qty) ∘ (fun r : IT => (⟨r.code, ((exV l xs s q day ps true r.code : Nat) : Int)⟩ : NE))) r else 0) = ((q.toNat * (if betw l true r.code = true ∨ r.code = s then 0 else wPh l xs day ps s r.code * wAll xs day ps r.code b) : Nat) : Int) := by
  intro r hr
  obtain ⟨k, hk, hkr⟩ := List.getElem_of_mem hr
  have e1 : betw l true r.code = decide (r.kind = 2) := by
   rw [← hkr]
   unfold betw
   rw [← codeAt_get hk, isPh_at hcat hk, kindAt_get hk]; rfl
  rw [e1]
  show (if decide (0 < exV l xs s q day ps true r.code ∧ r.code ≠ s ∧ ¬(true = true ∧ r.kind = 2)) = true then ((wAll xs day ps r.code b : Nat) : Int) * ((exV l xs s q day ps true r.code : Nat) : Int) else 0) = _
  rw [exV_on]
  generalize wPh l xs day ps s r.code = t
  generalize wAll xs day ps r.code b = w
  generalize q.toNat = n
  have h9 := ph_term n t w (r.code = s) (r.kind = 2)
  simp only [decide_eq_true_eq, ne_eq, true_and] at h9 ⊢
  exact h9
 rw [sum_congrI h1, sum_castI]
 have h2 := w_first h.1.1 day ps s b
 rw [List.map_map] at h2
 have h3 : (l.map (fun r : IT => q.toNat * (if betw l true r.code = true ∨ r.code = s then 0 else wPh l xs day ps s r.code * wAll xs day ps r.code b))).sum = q.toNat * (l.map ((fun k => if betw l true k = true ∨ k = s then 0 else wPh l xs day ps s k * wAll xs day ps k b) ∘ IT.code)).sum := sm_mul' l _ _
 rw [h3]
 by_cases e : b = s
 · subst e
   rw [if_pos rfl]
   rw [w_self h.1.1 day ps b, if_pos (Or.inr rfl)] at h2
   have h4 : 1 ≤ wPh l xs day ps b b := by
    have : wPh l xs day ps b b = 1 := wy_self (thru_acy (on_acy h.1.1 day ps) b _) b
    omega
   have h5 : (l.map ((fun k => if betw l true k = true ∨ k = b then 0 else wPh l xs day ps b k * wAll xs day ps k b) ∘ IT.code)).sum = 0 := by omega
   rw [h5, Nat.mul_zero]; rfl
 · rw [if_neg e]
   rw [if_neg (fun h => by rcases h with h | h; rw [hbn] at h; cases h; exact e h), Nat.add_zero] at h2
   rw [h2]
theorem core_le {zs : List NE} {W : ByteArray → Nat} (hq : ∀ x, x ∈ zs → 0 < x.qty) (hS : (zs.map (fun x => ((W x.code : Nat) : Int) * x.qty)).sum ≤ 1000000000) : ∀ x, x ∈ zs → 0 ≤ ((W x.code : Nat) : Int) * x.qty ∧ ((W x.code : Nat) : Int) * x.qty ≤ 1000000000 ∧ W x.code ≤ 1000000000 := by
 have hnn : ∀ x, x ∈ zs → 0 ≤ ((W x.code : Nat) : Int) * x.qty := fun x hx => Int.mul_nonneg (Int.natCast_nonneg _) (Int.le_of_lt (hq x hx))
 intro x hx
 have h1 := sum_mem_le (f := fun x : NE => ((W x.code : Nat) : Int) * x.qty) zs x hx hnn
 have h2 : ((W x.code : Nat) : Int) * x.qty ≤ 1000000000 := Int.le_trans h1 hS
 have h3 : ((W x.code : Nat) : Int) * 1 ≤ ((W x.code : Nat) : Int) * x.qty := Int.mul_le_mul_of_nonneg_left (hq x hx) (Int.natCast_nonneg _)
 refine ⟨hnn x hx, h2, ?_⟩
 generalize ((W x.code : Nat) : Int) * x.qty = u at *
 omega
theorem core_sum {zs : List NE} {W : ByteArray → Nat} {f : NE → Int} {b : ByteArray} (h1 : W b = 1) (hq : ∀ x, x ∈ zs → 0 < x.qty) (hf : ∀ x, x ∈ zs → f x = if x.code = b then 0 else ((W x.code : Nat) : Int) * x.qty) (hS : (zs.map (fun x => ((W x.code : Nat) : Int) * x.qty)).sum ≤ 1000000000) :
 inN zs b + (zs.map f).sum = (zs.map (fun x => ((W x.code : Nat) : Int) * x.qty)).sum ∧ ∀ j, 0 ≤ inN zs b + ((zs.take j).map f).sum ∧ inN zs b + ((zs.take j).map f).sum ≤ 1000000000 := by
 have hl := core_le hq hS
 have e1 : inN zs b + (zs.map f).sum = (zs.map (fun x => ((W x.code : Nat) : Int) * x.qty)).sum := by
  unfold inN
  rw [sum_addI]
  refine sum_congrI (fun x hx => ?_)
  rw [hf x hx]
  by_cases e : x.code = b
  · rw [if_pos e, if_pos e, e, h1]; omega
  · rw [if_neg e, if_neg e, Int.zero_add]
 refine ⟨e1, fun j => ?_⟩
 have h2 := sum_take_le (f := f) zs j (fun x hx => by
  rw [hf x hx]
  split
  · exact Int.le_refl _
  · exact (hl x hx).1)
 have h3 : 0 ≤ inN zs b := by
  have h4 := sum_take_le (f := fun x : NE => if x.code = b then x.qty else 0) zs zs.length (fun x hx => by
   have := hq x hx
   show (0 : Int) ≤ if x.code = b then x.qty else 0
   split
   · omega
   · exact Int.le_refl _)
  unfold inN
  exact Int.le_trans h4.1 h4.2
 rw [← e1] at hS
 generalize ((zs.take j).map f).sum = u at *
 generalize (zs.map f).sum = v at *
 generalize inN zs b = t at *
 omega
theorem ph_pos {l : List IT} {xs : List BL} {s : ByteArray} {q day : Int} {ps : List PK} (h : ExYes l xs s q day ps false) : ∀ x, x ∈ exZ l xs s q day ps true → 0 < x.qty := fun x hx => by
 obtain ⟨_, _, h4, h5, h6⟩ := ph_mem h hx
 rw [h5]
 exact Int.natCast_pos.2 (Nat.mul_pos h6 h4)
theorem ph_bound {l : List IT} {xs : List BL} {s : ByteArray} {q day : Int} {ps : List PK} (h : ExYes l xs s q day ps false) {b : ByteArray} (hb : b ∈ l.map IT.code) (hbn : betw l true b = false) :
 ((exZ l xs s q day ps true).map (fun x => ((wAll xs day ps x.code b : Nat) : Int) * x.qty)).sum ≤ 1000000000 := by
 have hV : q.toNat * wAll xs day ps s b ≤ 1000000000 := by
  obtain ⟨r, hr, hrb⟩ := List.mem_map.1 hb
  obtain ⟨k, hk, hkr⟩ := List.getElem_of_mem hr
  have h1 := h.2 k hk
  rw [exV_off, hkr, hrb] at h1
  exact h1
 rw [ph_sum h hbn]
 by_cases e : b = s
 · rw [if_pos e]; decide
 · rw [if_neg e]
   exact Int.ofNat_le.2 hV
theorem ph_qu {l : List IT} {xs : List BL} {s : ByteArray} {q day : Int} {ps : List PK} (h : ExYes l xs s q day ps false) {b : ByteArray} (hb : b ∈ l.map IT.code) (hbn : betw l true b = false) :
 ∀ x, x ∈ exZ l xs s q day ps true → quB l xs x.code b day ps = true ∧ quN l xs x.code b day ps = ((wAll xs day ps x.code b : Nat) : Int) := fun x hx => by
 have h1 := (core_le (W := fun t => wAll xs day ps t b) (ph_pos h) (ph_bound h hb hbn) x hx).2.2
 obtain ⟨k0, _, hf⟩ := mem_fi h.1.1.1.1 hb
 obtain ⟨k1, _, hf1⟩ := mem_fi h.1.1.1.1 (ph_mem h hx).1
 have hy : QuYes l xs x.code b day ps := by
  refine ⟨⟨h.1.1, ?_, ?_⟩, ?_⟩
  · rw [hf1]; exact Int.natCast_nonneg _
  · rw [hf]; exact Int.natCast_nonneg _
  · rw [quV_all]; exact h1
 exact ⟨(qu_yes hy).1, by rw [(qu_yes hy).2, quV_all]⟩
/-- All that FnPhantoms asks of a code that is no phantom. -/
theorem ph_all {l : List IT} {xs : List BL} {s : ByteArray} {q day : Int} {ps : List PK} (h : ExYes l xs s q day ps false) {b : ByteArray} (hb : b ∈ l.map IT.code) (hbn : betw l true b = false) :
 (∀ x, x ∈ exZ l xs s q day ps true → x.code ≠ b → quB l xs x.code b day ps = true ∧ 0 ≤ quN l xs x.code b day ps ∧ quN l xs x.code b day ps ≤ 1000000000 ∧ 0 ≤ quN l xs x.code b day ps * x.qty ∧ quN l xs x.code b day ps * x.qty ≤ 1000000000) ∧
 (∀ j, j ≤ (exZ l xs s q day ps true).length → 0 ≤ phA l xs day ps b (exZ l xs s q day ps true) j ∧ phA l xs day ps b (exZ l xs s q day ps true) j ≤ 1000000000) ∧
 (b ≠ s → phA l xs day ps b (exZ l xs s q day ps true) (exZ l xs s q day ps true).length = inN (exZ l xs s q day ps false) b) := by
 have hB := ph_bound h hb hbn
 have hQ := ph_qu h hb hbn
 have hL := core_le (W := fun t => wAll xs day ps t b) (ph_pos h) hB
 obtain ⟨hC1, hC2⟩ := core_sum (W := fun t => wAll xs day ps t b) (f := phT l xs day ps b) (b := b) (w_self h.1.1 day ps b) (ph_pos h) (fun x hx => by
  unfold phT
  rw [(hQ x hx).2]) hB
 refine ⟨fun x hx _ => ?_, fun j _ => hC2 j, fun hne => ?_⟩
 · obtain ⟨l1, l2, l3⟩ := hL x hx
   rw [(hQ x hx).2]
   exact ⟨(hQ x hx).1, Int.natCast_nonneg _, Int.ofNat_le.2 l3, l1, l2⟩
 · unfold phA
   rw [List.take_length]
   refine hC1.trans ?_
   rw [ph_sum h hbn, if_neg hne, exZ_yes h, inN_need _ _ _ _ (cat_codes h.1.1.1.1), if_pos ⟨hb, hne, fun h => by cases h.1⟩, exV_off]
/-- No phantom is taken at once. -/
theorem ph_none {l : List IT} {xs : List BL} {s : ByteArray} {q day : Int} {ps : List PK} (h : ExYes l xs s q day ps false) {r : IT} (hr : r ∈ l) (hk : r.kind = 2) : inN (exZ l xs s q day ps true) r.code = 0 := by
 rw [exZ_yes (ph_yes h), inN_need _ _ _ _ (cat_codes h.1.1.1.1), if_neg (fun h => h.2.2 ⟨rfl, r, hr, rfl, hk⟩)]
theorem betw_kind {l : List IT} (h : CatOk l) {k : Nat} (hk : k < l.length) : betw l true (l[k]'hk).code = decide ((l[k]'hk).kind = 2) := by
 unfold betw
 rw [← codeAt_get hk, isPh_at h hk, kindAt_get hk]; rfl
/-- What FnPhantoms asks of a code that is no phantom. -/
def PhF (l : List IT) (xs : List BL) (day : Int) (ps : List PK) (s b : ByteArray) (zs za : List NE) : Prop :=
 (∀ x, x ∈ zs → x.code ≠ b → quB l xs x.code b day ps = true ∧ 0 ≤ quN l xs x.code b day ps ∧ quN l xs x.code b day ps ≤ 1000000000 ∧ 0 ≤ quN l xs x.code b day ps * x.qty ∧ quN l xs x.code b day ps * x.qty ≤ 1000000000) ∧
  (∀ j, j ≤ zs.length → 0 ≤ phA l xs day ps b zs j ∧ phA l xs day ps b zs j ≤ 1000000000) ∧ (b ≠ s → phA l xs day ps b zs zs.length = inN za b)
theorem ph_at {l : List IT} {xs : List BL} {s : ByteArray} {q day : Int} {ps : List PK} (h : ExYes l xs s q day ps false) (k : Nat) (hk : k < l.length) :
 ((l[k]'hk).kind = 2 → inN (exZ l xs s q day ps true) (l[k]'hk).code = 0) ∧ ((l[k]'hk).kind ≠ 2 → PhF l xs day ps s (l[k]'hk).code (exZ l xs s q day ps true) (exZ l xs s q day ps false)) :=
 ⟨fun h2 => ph_none h (List.getElem_mem hk) h2, fun h2 => ph_all h (List.mem_map.2 ⟨_, List.getElem_mem hk, rfl⟩) (by rw [betw_kind h.1.1.1.1 hk]; exact decide_eq_false h2)⟩
end Go.Proofs.YtmnncinpepeocaaGreat
