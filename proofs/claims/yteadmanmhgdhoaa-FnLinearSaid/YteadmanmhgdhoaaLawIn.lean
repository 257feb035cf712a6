/-
  The laws' helpers: how many of a code are needed; a sum.
-/
import Derived.Test.YteadmanmhgdhoaaBuNE
import Derived.Test.YteadmanmhgdhoaaBuWay
import Derived.Test.YteadmanmhgdhoaaBuA
import Derived.WalkKit
import Derived.WalkSpells
import Derived.WalkSmall
import Derived.BigQuiet
import Derived.Deep.QuietTactic
import Derived.Deep.DeepCutAuto
import Derived.Lib.Hide
namespace Go.Proofs.Yteadmanmhgdhoaa
open Go.RowKit

/-- How many of a code are needed. -/
def inN (zs : List NE) (s : ByteArray) : Int := (zs.map (fun x => if x.code = s then x.qty else 0)).sum
theorem inN_take {zs : List NE} {s : ByteArray} {k : Nat} (hk : k < zs.length) : inN (zs.take (k + 1)) s = inN (zs.take k) s + (if (zs[k]'hk).code = s then (zs[k]'hk).qty else 0) := by
  unfold inN
  rw [List.take_succ_eq_append_getElem hk, List.map_append, List.sum_append]
  simp

set_option maxRecDepth 100000 in
set_option maxHeartbeats 1000000 in
theorem laws_in (v : Value) (zs : List NE) (s : ByteArray) (w : World) (h : NE.Is w v zs) (hm : zs.length ≤ 1000) (hb : ∀ k, k ≤ zs.length → 0 ≤ inN (zs.take k) s ∧ inN (zs.take k) s ≤ 1000000000000) :
    Calls Try.prog 9 #[v, .string s] w fun e w' => e = .returned (.int .i64 (inN zs s)) ∧ Hid (Below w.heap.size w w') := by
  have H := Lib.hid h
  have HB := Lib.hid hb
  obtain ⟨a, c, rfl⟩ := h.slice
  clear h hb
  go_enter Try.func9, Try.ntmps9
  go_wp2_with fail
  go_loopw [5, 6] (fun x i wr => ∃ k : Nat, k ≤ zs.length ∧ i = .int .i64 k ∧ x = .int .i64 (inN (zs.take k) s) ∧ Hid (Below w.heap.size w wr)) (fun _ i _ => zs.length - (intOf i).toNat)
  case atStart => exact ⟨0, Nat.zero_le _, rfl, rfl, Lib.hid (Below.refl _ _)⟩
  case round =>
    obtain ⟨k, hk, rfl, rfl, HBr⟩ := hrel
    by_cases hlt : k < zs.length
    rotate_left
    · have hke : k = zs.length := by omega
      subst hke
      rw [List.take_length]
      go_wp2_with fail
      go_ret
      exact ⟨rfl, HBr⟩
    have HLT := Lib.hid hlt
    obtain ⟨b, o, c', hv, hc, hat⟩ := (H.out.below HBr.out).some (by omega)
    simp only [Value.slice.injEq] at hv
    obtain ⟨rfl, _, rfl⟩ := hv
    obtain ⟨e0, e1⟩ := hat.at k hlt
    have HT := Lib.hid (inN_take (s := s) hlt)
    have hb0 := HB.out k hk
    have hb1 := HB.out (k + 1) hlt
    rw [HT.out] at hb1
    have hk0 : (0 : Int) ≤ (k : Int) := by omega
    have hk1 : (k : Int) < (zs.length : Int) := by omega
    clear hat hc
    generalize zs[k]'hlt = x at *
    by_cases he : x.code = s
    · have hy := str_eq he
      rw [if_pos he] at HT hb1
      clear he
      go_wp2_with fail
      go_roundw
      case rel => exact ⟨k + 1, HLT.out, by go_num, by rw [HT.out], HBr⟩
      case measure => have := HLT.out; simp [intOf]; omega
    · have hy := str_ne he
      rw [if_neg he, Int.add_zero] at HT
      clear he hb1
      go_wp2_with fail
      go_roundw
      case rel => exact ⟨k + 1, HLT.out, by go_num, by rw [HT.out], HBr⟩
      case measure => have := HLT.out; simp [intOf]; omega

theorem ite_iff {p q : Prop} [Decidable p] [Decidable q] (h : p ↔ q) (x y : Int) : (if p then x else y) = if q then x else y := by
  by_cases hp : p
  · rw [if_pos hp, if_pos (h.1 hp)]
  · rw [if_neg hp, if_neg (fun hq => hp (h.2 hq))]
/-- Of what is needed each code has its number. -/
theorem inN_need (l : List IT) (c : ByteArray) (V : ByteArray → Nat) (ph : Bool) (hn : (l.map IT.code).Nodup) (s : ByteArray) : inN (needP l c V ph) s = if s ∈ l.map IT.code ∧ s ≠ c ∧ ¬(ph = true ∧ ∃ r, r ∈ l ∧ r.code = s ∧ r.kind = 2) then ((V s : Nat) : Int) else 0 := by
  induction l with
  | nil => rfl
  | cons r l ih =>
    rw [List.map_cons, List.nodup_cons] at hn
    have h1 := ih hn.2
    have e1 : inN (needP (r :: l) c V ph) s = (if 0 < V r.code ∧ r.code ≠ c ∧ ¬(ph = true ∧ r.kind = 2) then (if r.code = s then ((V r.code : Nat) : Int) else 0) else 0) + inN (needP l c V ph) s := by
      unfold inN needP
      by_cases h : 0 < V r.code ∧ r.code ≠ c ∧ ¬(ph = true ∧ r.kind = 2)
      · rw [List.filter_cons_of_pos (by rw [decide_eq_true h]), if_pos h]
        simp
      · rw [List.filter_cons_of_neg (by rw [decide_eq_false h]; simp), if_neg h, Int.zero_add]
    rw [e1, h1]
    by_cases e : r.code = s
    · subst e
      have hnm : ¬(r.code ∈ l.map IT.code) := hn.1
      have hA : (if r.code ∈ l.map IT.code ∧ r.code ≠ c ∧ ¬(ph = true ∧ ∃ x, x ∈ l ∧ x.code = r.code ∧ x.kind = 2) then ((V r.code : Nat) : Int) else 0) = 0 := if_neg (fun h => hnm h.1)
      rw [hA, Int.add_zero]
      simp only [↓reduceIte]
      have hk : (∃ x, x ∈ r :: l ∧ x.code = r.code ∧ x.kind = 2) ↔ r.kind = 2 := by
        constructor
        · rintro ⟨x, hx, hc, hk⟩
          rcases List.mem_cons.1 hx with rfl | hx
          · exact hk
          · exact absurd (List.mem_map.2 ⟨x, hx, hc⟩) hnm
        · intro hk; exact ⟨r, List.mem_cons_self, rfl, hk⟩
      have hR : (if r.code ∈ (r :: l).map IT.code ∧ r.code ≠ c ∧ ¬(ph = true ∧ ∃ x, x ∈ r :: l ∧ x.code = r.code ∧ x.kind = 2) then ((V r.code : Nat) : Int) else 0) = if r.code ≠ c ∧ ¬(ph = true ∧ r.kind = 2) then ((V r.code : Nat) : Int) else 0 := ite_iff ⟨fun h => ⟨h.2.1, fun h2 => h.2.2 ⟨h2.1, hk.2 h2.2⟩⟩, fun h => ⟨by rw [List.map_cons]; exact List.mem_cons_self, h.1, fun h2 => h.2 ⟨h2.1, hk.1 h2.2⟩⟩⟩ _ _
      rw [hR]
      by_cases h2 : r.code ≠ c ∧ ¬(ph = true ∧ r.kind = 2)
      · rw [if_pos h2]
        by_cases h3 : 0 < V r.code
        · rw [if_pos ⟨h3, h2⟩]
        · rw [if_neg (fun h => h3 h.1)]; omega
      · rw [if_neg h2, if_neg (fun h => h2 h.2)]
    · have e2 : (if 0 < V r.code ∧ r.code ≠ c ∧ ¬(ph = true ∧ r.kind = 2) then (if r.code = s then ((V r.code : Nat) : Int) else 0) else 0) = 0 := by
        rw [if_neg e, ite_self]
      rw [e2, Int.zero_add, List.map_cons]
      have hm : s ∈ r.code :: l.map IT.code ↔ s ∈ l.map IT.code := ⟨fun h => (List.mem_cons.1 h).resolve_left (fun h2 => e h2.symm), List.mem_cons_of_mem _⟩
      have hk : (∃ x, x ∈ r :: l ∧ x.code = s ∧ x.kind = 2) ↔ ∃ x, x ∈ l ∧ x.code = s ∧ x.kind = 2 := by
        constructor
        · rintro ⟨x, hx, hc, hk⟩
          rcases List.mem_cons.1 hx with rfl | hx
          · exact absurd hc e
          · exact ⟨x, hx, hc, hk⟩
        · rintro ⟨x, hx, hc, hk⟩; exact ⟨x, List.mem_cons_of_mem _ hx, hc, hk⟩
      exact ite_iff ⟨fun h => ⟨hm.2 h.1, h.2.1, fun h2 => h.2.2 ⟨h2.1, hk.1 h2.2⟩⟩, fun h => ⟨hm.1 h.1, h.2.1, fun h2 => h.2.2 ⟨h2.1, hk.2 h2.2⟩⟩⟩ _ _
/-- Never less than nothing, and never more than there is. -/
theorem inN_range {zs : List NE} {s : ByteArray} (h : ∀ x, x ∈ zs → 0 ≤ x.qty ∧ x.qty ≤ 1000000000) : ∀ k, k ≤ zs.length → 0 ≤ inN (zs.take k) s ∧ inN (zs.take k) s ≤ (k : Int) * 1000000000 := by
  intro k
  induction k with
  | zero => intro _; exact ⟨Int.le_refl _, Int.le_refl _⟩
  | succ k ih =>
    intro hk
    have h1 := ih (by omega)
    have h2 := h _ (List.getElem_mem (show k < zs.length from hk))
    rw [inN_take (show k < zs.length from hk)]
    split
    · omega
    · omega
end Go.Proofs.Yteadmanmhgdhoaa
