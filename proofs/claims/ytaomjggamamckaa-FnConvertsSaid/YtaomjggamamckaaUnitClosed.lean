/-
  A table is one where every start has a labelling that the rules keep: however a program checks it. No program is named here.
-/
import Derived.Test.YtaomjggamamckaaUnitWays
import Derived.Test.YtaomjggamamckaaUnitFacts
import Derived.Lib.Hide
namespace Go.Proofs.Ytaomjggamamckaa

theorem q_div {x y z : Int × Int} (hx : PosR x) (hy : PosR y) (hz : PosR z) (h : QR z y x) : rat.divR x.1 x.2 y.1 y.2 = z := by
  have bx := posR_bound hx
  have by' := posR_bound hy
  have p1 := prod9 bx.1 bx.2.1 by'.2.2.1 by'.2.2.2
  have p2 := prod9 bx.2.2.1 bx.2.2.2 by'.1 by'.2.1
  rw [rat.divR_yes hx.1 hy.1]
  refine rat.mkR_eq hz.1 (Int.ne_of_gt p2.1) (term9 (Int.le_of_lt p1.1) p1.2) (term9 (Int.le_of_lt p2.1) p2.2) ?_
  unfold QR at h
  grind
/-- The rules keep a labelling of the units. -/
def Closed (rs : List UR) (F : ByteArray → Option (Int × Int)) : Prop := ∀ r, r ∈ rs → (F r.src = none ∧ F r.dst = none) ∨ ∃ x y, F r.src = some x ∧ F r.dst = some y ∧ PosR x ∧ PosR y ∧ rat.mulR x.1 x.2 r.num r.den = y

variable {rs : List UR} {F : ByteArray → Option (Int × Int)}
theorem closed_hop (hF : Closed rs F) (hr : ∀ r, r ∈ rs → ruleOk r = true) {x : UF} {r : UR} (hm : r ∈ rs) (hx : F x.1 = some x.2) (hne : (hopV r x).1 ≠ ByteArray.empty) : F (hopV r x).1 = some (hopV r x).2 ∧ PosR (hopV r x).2 := by
  unfold hopV at hne ⊢
  rcases hF r hm with ⟨h1, h2⟩ | ⟨a, b, h1, h2, pa, pb, hab⟩
  · by_cases e1 : r.src = x.1
    · rw [e1, hx] at h1; cases h1
    · by_cases e2 : r.dst = x.1
      · rw [e2, hx] at h2; cases h2
      · rw [if_neg e1, if_neg e2] at hne; exact absurd rfl hne
  · by_cases e1 : r.src = x.1
    · rw [if_pos e1]
      rw [e1, hx] at h1
      cases h1
      show F r.dst = some (rat.mulR x.2.1 x.2.2 r.num r.den) ∧ PosR (rat.mulR x.2.1 x.2.2 r.num r.den)
      rw [hab]
      exact ⟨h2, pb⟩
    · by_cases e2 : r.dst = x.1
      · rw [if_neg e1, if_pos e2]
        rw [e2, hx] at h2
        cases h2
        have hq := mul_q pa (ruleOk_pos (hr r hm)) hab (posR_den pb)
        have e := q_div pb (ruleOk_pos (hr r hm)) pa hq
        show F r.src = some (rat.divR x.2.1 x.2.2 r.num r.den) ∧ PosR (rat.divR x.2.1 x.2.2 r.num r.den)
        have e' : rat.divR x.2.1 x.2.2 r.num r.den = a := e
        rw [e']
        exact ⟨h1, pa⟩
      · rw [if_neg e1, if_neg e2] at hne; exact absurd rfl hne
theorem closed_way (hF : Closed rs F) (hr : ∀ r, r ∈ rs → ruleOk r = true) {s : ByteArray} (hs : F s = some (1, 1)) {p : UF} (h : Way rs s p) : F p.1 = some p.2 := by
  induction h with
  | base => exact hs
  | step hx hm hne hd ih => exact (closed_hop hF hr hm ih hne).1

theorem addU_has {ps : List UF} {h : UF} (h1 : h.1 ≠ ByteArray.empty) (h2 : 0 < h.2.2) : h.1 ∈ namesOf (addU ps h) := by
  by_cases h3 : h.1 ∈ namesOf ps
  · rw [addU_no (fun hc => hc.2.2 h3)]; exact h3
  · rw [addU_yes h1 h2 h3, namesOf_snoc]; simp
theorem names_pre {ps qs : List UF} (h : ps <+: qs) {t : ByteArray} (ht : t ∈ namesOf ps) : t ∈ namesOf qs := by
  obtain ⟨l, rfl⟩ := h
  unfold namesOf at *
  rw [List.map_append]
  exact List.mem_append.2 (Or.inl ht)
theorem innerU_has (x : UF) : ∀ (l : List UR) (ps : List UF) (r : UR), r ∈ l → (hopV r x).1 ≠ ByteArray.empty → 0 < (hopV r x).2.2 → (hopV r x).1 ∈ namesOf (innerU l x ps)
  | [], _, _, h, _, _ => by cases h
  | q :: l, ps, r, h, h1, h2 => by
    rcases List.mem_cons.1 h with rfl | h
    · exact names_pre (innerU_prefix x l _) (addU_has h1 h2)
    · exact innerU_has x l _ r h h1 h2
theorem reachF_closed (rs : List UR) : ∀ (f i : Nat) (ps : List UF), (∀ j x, ps[j]? = some x → j < i → ∀ r, r ∈ rs → (hopV r x).1 ≠ ByteArray.empty → 0 < (hopV r x).2.2 → (hopV r x).1 ∈ namesOf ps) →
    ps.length + roomU rs ps ≤ 1 + 2 * rs.length → 2 * rs.length + 2 ≤ f + i → ∀ x, x ∈ reachF rs f i ps → ∀ r, r ∈ rs → (hopV r x).1 ≠ ByteArray.empty → 0 < (hopV r x).2.2 → (hopV r x).1 ∈ namesOf (reachF rs f i ps)
  | 0, i, ps, hI, hl, hf, x, hx, r, hr, h1, h2 => by
    obtain ⟨j, hj, rfl⟩ := List.getElem_of_mem hx
    have hj' : j < ps.length := hj
    exact hI j _ (List.getElem?_eq_getElem hj') (by omega) r hr h1 h2
  | f + 1, i, ps, hI, hl, hf, x, hx, r, hr, h1, h2 => by
    by_cases hi : i < ps.length
    · rw [reachF_on hi] at hx ⊢
      refine reachF_closed rs f (i + 1) _ (fun j y hy hj q hq g1 g2 => ?_) (Nat.le_trans (innerU_room _ rs ps (fun _ hq => hq)) hl) (by omega) x hx r hr h1 h2
      have hp := innerU_prefix (ps[i]'hi) rs ps
      have hjl : j < ps.length := by omega
      have hy' : ps[j]? = some y := by
        obtain ⟨l, hl'⟩ := hp
        rw [← hl', List.getElem?_append_left hjl] at hy
        exact hy
      rcases Nat.lt_or_ge j i with hji | hji
      · exact names_pre hp (hI j y hy' hji q hq g1 g2)
      · obtain rfl : j = i := by omega
        have : ps[j]'hi = y := by rw [List.getElem?_eq_getElem hi] at hy'; exact Option.some.inj hy'
        subst this
        exact innerU_has _ rs ps q hq g1 g2
    · rw [reachF_off hi] at hx ⊢
      obtain ⟨j, hj, rfl⟩ := List.getElem_of_mem hx
      exact hI j _ (List.getElem?_eq_getElem hj) (by omega) r hr h1 h2
theorem reach_closed {rs : List UR} {s : ByteArray} {x : UF} (hx : x ∈ reachU rs s) {r : UR} (hr : r ∈ rs) (h1 : (hopV r x).1 ≠ ByteArray.empty) (h2 : 0 < (hopV r x).2.2) : (hopV r x).1 ∈ namesOf (reachU rs s) :=
  reachF_closed rs _ _ _ (fun j y _ hj => by omega) (by have := roomU_le rs [(s, 1, 1)]; simp; omega) (by omega) x hx r hr h1 h2

theorem look_yes {ps : List UF} {t : ByteArray} {f : Int × Int} (h : lookU ps t = some f) : 0 ≤ fndI (namesOf ps) t ∧ facI ps (fndI (namesOf ps) t) = f := by
  unfold lookU at h
  split at h
  · cases h
  · exact ⟨by omega, Option.some.inj h⟩
theorem code_ne {t : ByteArray} (h : isCode.codeB t = true) : t ≠ ByteArray.empty := by
  rintro rfl
  exact absurd h (by decide)
/-- A labelling from a start: the model's check at this start is passed. -/
theorem closed_rule (hF : Closed rs F) (hr : ∀ r, r ∈ rs → ruleOk r = true) {s : ByteArray} (hs : F s = some (1, 1)) : ∀ r, r ∈ rs → RuleH (reachU rs s) r := by
  intro r hm
  obtain ⟨hc1, hc2⟩ := ruleOk_codes (hr r hm)
  have key : ∀ {t : ByteArray} {f : Int × Int}, lookU (reachU rs s) t = some f → F t = some f := fun h => closed_way hF hr hs (reachU_way rs s _ (look_some h))
  cases e1 : lookU (reachU rs s) r.src with
  | some x =>
    have f1 := key e1
    have hop : hopV r (r.src, x) = (r.dst, rat.mulR x.1 x.2 r.num r.den) := if_pos rfl
    have hh := closed_hop hF hr hm (x := (r.src, x)) f1 (by rw [hop]; exact code_ne hc2)
    have hin := reach_closed (look_some e1) hm (by rw [hop]; exact code_ne hc2) (posR_den hh.2)
    rw [hop] at hh hin
    obtain ⟨y, hy⟩ := look_mem.2 hin
    have f2 := key hy
    rw [hh.1] at f2
    cases f2
    obtain ⟨g1, g2⟩ := look_yes e1
    obtain ⟨g3, g4⟩ := look_yes hy
    refine Or.inr ⟨g1, g3, ?_⟩
    rw [g2]
    exact g4.symm
  | none =>
    cases e2 : lookU (reachU rs s) r.dst with
    | none => exact ruleH_none (look_none.1 e1) (look_none.1 e2)
    | some y =>
      have hne : ¬r.src = r.dst := fun e => by rw [e, e2] at e1; cases e1
      have f2 := key e2
      have hop : hopV r (r.dst, y) = (r.src, rat.divR y.1 y.2 r.num r.den) := by unfold hopV; rw [if_neg hne, if_pos rfl]
      have hh := closed_hop hF hr hm (x := (r.dst, y)) f2 (by rw [hop]; exact code_ne hc1)
      have hin := reach_closed (look_some e2) hm (by rw [hop]; exact code_ne hc1) (posR_den hh.2)
      rw [hop] at hin
      obtain ⟨z, hz⟩ := look_mem.2 hin
      rw [e1] at hz
      cases hz
/-- Every start has a labelling: a table. -/
theorem closed_tab (hl : rs.length ≤ 12) (hr : ∀ r, r ∈ rs → ruleOk r = true) (h : ∀ i, i < 2 * rs.length → ∃ F, F (startU rs i) = some (1, 1) ∧ Closed rs F) : IsTab rs :=
  ⟨hl, hr, fun i hi => by obtain ⟨F, h1, h2⟩ := h i hi; exact closed_rule h2 hr h1⟩
/-- In a table what is reached is a labelling. -/
theorem tab_closed (ht : IsTab rs) (s : ByteArray) : Closed rs (lookU (reachU rs s)) := fun r hr => by
  rcases look_rule (tab_rule ht s r hr) with h | ⟨x, y, h1, h2, h3⟩
  · exact Or.inl h
  · exact Or.inr ⟨x, y, h1, h2, look_pos ht h1, look_pos ht h2, h3⟩
/-- In a table every way's factor is the one. -/
theorem tab_way (ht : IsTab rs) {s : ByteArray} {p : UF} (h : Way rs s p) : lookU (reachU rs s) p.1 = some p.2 := closed_way (tab_closed ht s) ht.2.1 (look_self rs s) h
/-- .. and a step further is a ratio, and the one. -/
theorem tab_hop (ht : IsTab rs) {s : ByteArray} {x : UF} (h : Way rs s x) {r : UR} (hr : r ∈ rs) (hne : (hopV r x).1 ≠ ByteArray.empty) : lookU (reachU rs s) (hopV r x).1 = some (hopV r x).2 ∧ PosR (hopV r x).2 :=
  closed_hop (tab_closed ht s) ht.2.1 hr (tab_way ht h) hne
end Go.Proofs.Ytaomjggamamckaa
