/-
  The rules that lead from a unit, each in its direction: what a program's own list of them says. No program is named here.
-/
import Derived.Test.YtaomjggamamckaaUnitAgree
import Derived.Test.YtaomjggamamckaaReach
import Derived.Lib.Hide
namespace Go.Proofs.Ytaomjggamamckaa

/-- A rule turned around. -/
def turnU (r : UR) : UR := ⟨r.dst, r.src, r.den, r.num⟩
/-- A rule as one from this unit. -/
def ofU (u : ByteArray) (r : UR) : Option UR := if r.src = u then some r else if r.dst = u then some (turnU r) else none
/-- The rules from this unit. -/
def hopsU (rs : List UR) (u : ByteArray) : List UR := rs.filterMap (ofU u)

theorem of_src {r : UR} {u : ByteArray} (h : r.src = u) : ofU u r = some r := if_pos h
theorem of_dst {r : UR} {u : ByteArray} (h : ¬r.src = u) (h2 : r.dst = u) : ofU u r = some (turnU r) := by unfold ofU; rw [if_neg h, if_pos h2]
theorem of_no {r : UR} {u : ByteArray} (h : ¬r.src = u) (h2 : ¬r.dst = u) : ofU u r = none := by unfold ofU; rw [if_neg h, if_neg h2]
theorem hops_take {rs : List UR} {u : ByteArray} {k : Nat} (hk : k < rs.length) : hopsU (rs.take (k + 1)) u = hopsU (rs.take k) u ++ (ofU u (rs[k]'hk)).toList := by
  unfold hopsU
  rw [List.take_succ_eq_append_getElem hk, List.filterMap_append]
  congr 1
theorem hops_all {rs : List UR} {u : ByteArray} {k : Nat} (hk : rs.length ≤ k) : hopsU (rs.take k) u = hopsU rs u := by rw [List.take_of_length_le hk]
theorem hops_len (rs : List UR) (u : ByteArray) : (hopsU rs u).length ≤ rs.length := List.length_filterMap_le _ _
theorem ok_turn {n d : Int} (h : rat.okB n d = true) (hn : 1 ≤ n) : rat.okB d n = true := by
  obtain ⟨r, g⟩ := rat.okB_true h
  refine rat.okB_mk (by omega) ?_
  rw [← g]
  unfold rat.gi
  congr 1
  exact Nat.gcd_comm _ _
theorem turn_ok {r : UR} (h : ruleOk r = true) : ruleOk (turnU r) = true := by
  unfold ruleOk at h ⊢
  unfold turnU
  simp only [Bool.and_eq_true, decide_eq_true_eq] at h ⊢
  obtain ⟨h1, h2, h3, h4, h5, h6⟩ := h
  have hb := (rat.okB_true h4).1
  refine ⟨h2, h1, fun e => h3 e.symm, ?_, by omega, by omega⟩
  exact ok_turn h4 (by omega)
theorem hop_turn {r : UR} {x : UF} (hr : ruleOk r = true) (hx : PosR x.2) (h : ¬r.src = x.1) (h2 : r.dst = x.1) : hopV (turnU r) x = hopV r x := by
  have h1 := (ruleOk_pos hr).1
  have h3 := (ruleOk_pos (turn_ok hr)).1
  rw [hop_dst h h2, hop_src (r := turnU r) h2]
  refine Prod.ext rfl ?_
  show rat.mulR x.2.1 x.2.2 (turnU r).num (turnU r).den = rat.divR x.2.1 x.2.2 r.num r.den
  rw [rat.mulR_yes hx.1 h3, rat.divR_yes hx.1 h1]
  rfl
/-- A rule of the list comes from a rule. -/
theorem hops_mem {rs : List UR} {u : ByteArray} {q : UR} (h : q ∈ hopsU rs u) : ∃ r, r ∈ rs ∧ ofU u r = some q := List.mem_filterMap.1 h
theorem of_from {r q : UR} {u : ByteArray} (h : ofU u r = some q) : q.src = u ∧ (q = r ∨ (¬r.src = u ∧ r.dst = u ∧ q = turnU r)) := by
  unfold ofU at h
  by_cases h1 : r.src = u
  · rw [if_pos h1] at h
    obtain rfl := Option.some.inj h
    exact ⟨h1, Or.inl rfl⟩
  · rw [if_neg h1] at h
    by_cases h2 : r.dst = u
    · rw [if_pos h2] at h
      obtain rfl := Option.some.inj h
      exact ⟨h2, Or.inr ⟨h1, h2, rfl⟩⟩
    · rw [if_neg h2] at h; cases h
theorem of_hop {r q : UR} {x : UF} (hr : ruleOk r = true) (hx : PosR x.2) (h : ofU x.1 r = some q) : hopV r x = hopV q x ∧ ruleOk q = true := by
  rcases (of_from h).2 with rfl | ⟨h1, h2, rfl⟩
  · exact ⟨rfl, hr⟩
  · exact ⟨(hop_turn hr hx h1 h2).symm, turn_ok hr⟩
theorem of_none {r : UR} {x : UF} (h : ofU x.1 r = none) : hopV r x = (ByteArray.empty, 0, 0) := by
  unfold ofU at h
  by_cases h1 : r.src = x.1
  · rw [if_pos h1] at h; cases h
  · rw [if_neg h1] at h
    by_cases h2 : r.dst = x.1
    · rw [if_pos h2] at h; cases h
    · exact hop_no h1 h2
theorem hops_size {rs : List UR} {u : ByteArray} (h : ∀ r, r ∈ rs → r.src.size ≤ maxLen ∧ r.dst.size ≤ maxLen) : ∀ q, q ∈ hopsU rs u → q.src.size ≤ maxLen ∧ q.dst.size ≤ maxLen := fun q hq => by
  obtain ⟨r, hr, e⟩ := hops_mem hq
  rcases (of_from e).2 with rfl | ⟨_, _, rfl⟩
  · exact h _ hr
  · exact ⟨(h r hr).2, (h r hr).1⟩
/-- A round over the list is a round over the rules. -/
theorem hops_inner {x : UF} (hx : PosR x.2) : ∀ (rs : List UR) (ps : List UF), (∀ r, r ∈ rs → ruleOk r = true) → innerU (hopsU rs x.1) x ps = innerU rs x ps
  | [], _, _ => rfl
  | r :: rs, ps, hr => by
    have ih := hops_inner hx rs (addU ps (hopV r x)) (fun q hq => hr q (List.mem_cons_of_mem _ hq))
    show innerU (hopsU (r :: rs) x.1) x ps = innerU rs x (addU ps (hopV r x))
    rw [← ih]
    unfold hopsU
    cases h : ofU x.1 r with
    | none =>
      rw [List.filterMap_cons_none h, (agree_none (ps := ps) (h := hopV r x) (by rw [of_none h])).2]
    | some q =>
      rw [List.filterMap_cons_some h, (of_hop (hr r (List.mem_cons_self ..)) hx h).1]
      rfl
/-- What every rule of the list agrees with, every rule agrees with. -/
theorem hops_agree {rs : List UR} {x : UF} {qs : List UF} (hr : ∀ r, r ∈ rs → ruleOk r = true) (hx : PosR x.2) (h : ∀ q, q ∈ hopsU rs x.1 → AgreeH qs (hopV q x)) : ∀ r, r ∈ rs → AgreeH qs (hopV r x) := fun r hm => by
  cases e : ofU x.1 r with
  | none => exact Or.inl (by rw [of_none e])
  | some q =>
    rw [(of_hop (hr r hm) hx e).1]
    exact h q (List.mem_filterMap.2 ⟨r, hm, e⟩)
end Go.Proofs.Ytaomjggamamckaa
