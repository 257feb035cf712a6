/-
 The program's structureOn: the items, and a list of its own of the lines in force.
-/
import Derived.Test.YtmnncinpepeocaaGreatDLB
import Derived.Test.YtmnncinpepeocaaGreatBLOwn
import Derived.Test.YtmnncinpepeocaaGreatBillOn
import Derived.Test.YtmnncinpepeocaaGreatBillImpl
import Derived.Test.YtmnncinpepeocaaGreatBuCat
import Derived.Test.YtmnncinpepeocaaGreatBuWay
import Derived.Test.YtmnncinpepeocaaGreatBuA
import Derived.WalkKit
import Derived.WalkSpells
import Derived.WalkSmall
import Derived.BigQuiet
import Derived.OneCell
import Derived.Deep.QuietTactic
import Derived.Deep.DeepCutAuto
import Derived.Laws.OwnMore
import Derived.Lib.SliceRun
import Derived.Lib.Hide
namespace Go.Proofs.YtmnncinpepeocaaGreat
open Go.RowKit

/-- The records of the lines xs. -/
def RecC (lo hi : Nat) (w : World) (xs : List BL) (rs : List NR) : Prop := rs.length = xs.length ∧ ∀ j (hj : j < xs.length) (hr : j < rs.length), ∃ u, rs[j]'hr = BL.rec1 (xs[j]'hj) u ∧ CX lo hi w u (xs[j]'hj).whn
theorem RecC.nil (lo hi : Nat) (w : World) : RecC lo hi w [] [] := ⟨rfl, fun j hj => by simp at hj⟩
theorem RecC.snoc {lo hi : Nat} {w : World} {xs : List BL} {rs : List NR} (h : RecC lo hi w xs rs) {x : BL} {u : Value} (hx : CX lo hi w u x.whn) : RecC lo hi w (xs ++ [x]) (rs ++ [BL.rec1 x u]) := by
 refine ⟨by simp [h.1], fun j hj hr => ?_⟩
 by_cases hlt : j < xs.length
 · rw [List.getElem_append_left hlt, List.getElem_append_left (by rw [h.1]; exact hlt)]
   exact h.2 j hlt _
 · have hje : j = xs.length := by simp at hj; omega
   have hrl := h.1
   subst hje
   refine ⟨u, ?_, ?_⟩
   · rw [List.getElem_append_right (by omega), List.getElem_append_right (by omega)]
     simp
   · rw [List.getElem_append_right (by omega)]
     simpa using hx
theorem RecC.ty {lo hi : Nat} {w : World} {xs : List BL} {rs : List NR} (h : RecC lo hi w xs rs) : ∀ r, r ∈ rs → DLB.Ty r := fun r hr => by
 obtain ⟨j, hj, rfl⟩ := List.getElem_of_mem hr
 obtain ⟨u, e, hu⟩ := h.2 j (by rw [← h.1]; exact hj) hj
 obtain ⟨a, c, rfl⟩ := hu.slice
 rw [e]
 exact ⟨_, _, _, _, _, _, _, _, rfl⟩
theorem recC_of {lo hi : Nat} {w : World} {v : Value} {xs : List BL} (h : BX lo hi w v xs) : ∃ rs, RecC lo hi w xs rs ∧ (0 < xs.length → ∃ b o c, v = .slice (some ⟨b, o, none⟩) xs.length c ∧ b < w.heap.size ∧ ∀ j u, (flatN rs)[j]? = some u → w.cell? ((⟨b, o, none⟩ : Addr).add j) = some u) := by
 by_cases h0 : 0 < xs.length
 rotate_left
 · have e : xs = [] := List.eq_nil_of_length_eq_zero (by omega)
   subst e
   exact ⟨[], RecC.nil _ _ _, fun h1 => absurd h1 h0⟩
 obtain ⟨a, c, rfl, hc, h⟩ := h
 obtain ⟨b, o, rfl, hbl, hb, h⟩ := h h0
 have hf : ∀ j : Nat, ∃ u : Value, ∀ hj : j < xs.length, CX lo hi w u (xs[j]'hj).whn ∧ ∀ i, i < 6 → w.cell? ⟨b, o + j * 6 + i, none⟩ = (BL.rec1 (xs[j]'hj) u).cs[i]? := fun j => by
  by_cases hj : j < xs.length
  · obtain ⟨cs, h1, ⟨u, h2, h3⟩, h4⟩ := h j hj
    exact ⟨u, fun _ => ⟨h3, fun i hi => by rw [h4 i hi, h2]; rfl⟩⟩
  · exact ⟨undef, fun hj2 => absurd hj2 hj⟩
 obtain ⟨f, hf⟩ := Classical.axiomOfChoice hf
 have hlen : ∀ r, r ∈ List.ofFn (fun j : Fin xs.length => BL.rec1 xs[j] (f j)) → r.cs.length = 6 := fun r hr => by
  obtain ⟨j, rfl⟩ := List.mem_ofFn.1 hr
  rfl
 refine ⟨List.ofFn (fun j : Fin xs.length => BL.rec1 xs[j] (f j)), ⟨List.length_ofFn, fun j hj hr => ⟨f j, by simp, (hf j hj).1⟩⟩, fun _ => ⟨b, o, c, rfl, hb, fun t u hu => ?_⟩⟩
 have ht : t < xs.length * 6 := by
  have := (List.getElem?_eq_some_iff.1 hu).1
  rwa [flatN_length hlen, List.length_ofFn] at this
 have hq : t / 6 < xs.length := by omega
 have h1 := flatN_get hlen (t / 6) (by simpa using hq) (t % 6) (by omega)
 rw [show t / 6 * 6 + t % 6 = t by omega, hu] at h1
 rw [Addr.add_lit, show o + t = o + t / 6 * 6 + t % 6 by omega, (hf _ hq).2 _ (by omega), h1]
 simp
theorem RecC.kept {lo hi : Nat} {w : World} {xs : List BL} {rs : List NR} (h : RecC lo hi w xs rs) (p : BL → Bool) (ps : Nat → Bool) (hp : ∀ j (hj : j < xs.length), ps j = !p (xs[j]'hj)) : ∀ k, k ≤ xs.length → RecC lo hi w ((xs.take k).filter p) (keptN rs ps k) := by
 intro k
 induction k with
 | zero => intro _; exact RecC.nil _ _ _
 | succ k ih =>
  intro hk
  have hkx : k < xs.length := hk
  have hkr : k < rs.length := by rw [h.1]; exact hk
  rw [filter_take_succ hkx, keptN, hp k hkx, List.getElem?_eq_getElem hkr]
  obtain ⟨u, e, hu⟩ := h.2 k hkx hkr
  have h1 := ih (by omega)
  cases hpx : p (xs[k]'hkx) with
  | true =>
   simp only [Bool.not_true, if_true]
   rw [e]
   exact h1.snoc hu
  | false => simpa using h1
theorem RecC.all {lo hi : Nat} {w : World} {xs : List BL} {rs : List NR} (h : RecC lo hi w xs rs) (day : Int) (pk : List PK) (ps : Nat → Bool) (hp : ∀ j (hj : j < xs.length), ps j = !onB (xs[j]'hj) day pk) : RecC lo hi w (onX xs day pk) (keptN rs ps rs.length) := by
 have := h.kept (fun x => onB x day pk) ps hp xs.length (Nat.le_refl _)
 rw [List.take_length] at this
 rw [h.1]
 exact this
/-- Lines of the call's own that lead into rows of others. -/
theorem bx_of_row {base e lo hi : Nat} {w0 w : World} {v : Value} {ys : List BL} {rs : List NR} (ho : w.ownsRow base e 6 v ys.length (flatN rs)) (h : RecC lo hi w0 ys rs) (hb : Below w0.heap.size w0 w) : BX 0 w.heap.size w v ys := by
 rcases ho.2 with ⟨rfl, hy⟩ | ⟨g, cap, cur, rfl, _, hg, hnc, _, _, _⟩
 · have e : ys = [] := List.eq_nil_of_length_eq_zero hy
   subst e
   exact SlN.nil _ _ _ _ _ _ _
 · refine ⟨_, cap, rfl, hnc, fun h0 => ⟨g, 0, rfl, ⟨Nat.zero_le _, lt_of_heap hg⟩, lt_of_heap hg, fun j hj => ?_⟩⟩
   have hlen : ∀ r, r ∈ rs → r.cs.length = 6 := fun r hr => (h.ty r hr).len
   have hjr : j < rs.length := by rw [h.1]; exact hj
   obtain ⟨u, e1, hu⟩ := h.2 j hj hjr
   refine ⟨_, hlen _ (List.getElem_mem hjr), ⟨u, by rw [e1]; rfl, ?_⟩, fun i hi => ?_⟩
   · have h1 : CX lo hi w u (ys[j]'hj).whn := hu.below CnN.kept hb
     obtain ⟨a, c, rfl, h2, h3⟩ := h1
     exact ⟨a, c, rfl, h2, fun h4 => by obtain ⟨b, o, q1, _, q3, q4⟩ := h3 h4; exact ⟨b, o, q1, ⟨Nat.zero_le _, q3⟩, q3, fun j hj => by obtain ⟨cs, p1, p2, p3⟩ := q4 j hj; exact ⟨cs, p1, p2, p3⟩⟩⟩
   · rw [Nat.zero_add, ho.cellAt _ (by omega), flatN_get hlen j hjr i hi]
end Go.Proofs.YtmnncinpepeocaaGreat
