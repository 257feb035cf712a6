/-
  A walk over the rules with a list of units and a map of factors: what it keeps, and what its end says. No program is named here.
-/
import Derived.Test.YtaomjggamamckaaUnitClosed
import Derived.Test.YtaomjggamamckaaMapR
import Derived.Lib.Hide
namespace Go.Proofs.Ytaomjggamamckaa

theorem fnd_pre {ns ms : List ByteArray} {t : ByteArray} (h : t ∈ ns) : fndI (ns ++ ms) t = fndI ns t := by
  rcases fnd_cases ns t with ⟨k, hk, h1, h2, h3⟩ | ⟨_, h2⟩
  · rw [h2]
    refine fnd_at (by rw [List.length_append]; omega) (by rw [List.getElem_append_left hk]; exact h1) (fun j hj => ?_)
    rw [List.getElem_append_left (by omega)]
    exact h3 j hj
  · exact absurd h h2
theorem look_pre {ps qs : List UF} {t : ByteArray} {f : Int × Int} (h : lookU ps t = some f) (hp : ps <+: qs) : lookU qs t = some f := by
  obtain ⟨l, rfl⟩ := hp
  have hm : t ∈ namesOf ps := look_mem.1 ⟨f, h⟩
  obtain ⟨g1, g2⟩ := look_yes h
  have e : fndI (namesOf (ps ++ l)) t = fndI (namesOf ps) t := by unfold namesOf at *; rw [List.map_append]; exact fnd_pre hm
  unfold lookU
  rw [e, if_neg (by omega), ← g2]
  congr 1
  rcases fnd_cases (namesOf ps) t with ⟨k, hk, _, h2, _⟩ | ⟨_, h2⟩
  · have hk' : k < ps.length := by rw [namesOf_length] at hk; exact hk
    rw [h2, facI_at hk', facI_at (by rw [List.length_append]; omega), List.getElem_append_left hk']
  · exact absurd hm h2
theorem look_new {ps : List UF} {h : UF} (hn : h.1 ∉ namesOf ps) : lookU (ps ++ [h]) h.1 = some h.2 := by
  have hf : fndI (namesOf (ps ++ [h])) h.1 = ((ps.length : Nat) : Int) := by
    refine fnd_at (by rw [namesOf_length]; simp) (by simp [namesOf]) (fun j hj => ?_)
    have hj2 : j < (namesOf ps).length := by rw [namesOf_length]; exact hj
    intro e
    have e2 : (namesOf (ps ++ [h]))[j]? = some h.1 := by rw [List.getElem?_eq_getElem (by rw [namesOf_length]; simp; omega), e]
    rw [namesOf_snoc, List.getElem?_append_left hj2] at e2
    exact hn (List.mem_of_getElem? e2)
  unfold lookU
  rw [hf, if_neg (by omega), facI_at (by simp)]
  simp
theorem look_out {ps : List UF} {h : UF} {t : ByteArray} (ht : t ≠ h.1) : lookU (ps ++ [h]) t = lookU ps t := by
  cases e : lookU ps t with
  | some f => exact look_pre e (List.prefix_append _ _)
  | none =>
    rw [look_none, fnd_neg] at e ⊢
    intro hm
    rw [namesOf_snoc] at hm
    rcases List.mem_append.1 hm with hm | hm
    · exact e hm
    · exact ht (List.mem_singleton.1 hm)
/-- The map behind a store of a new unit is what the longer list says. -/
theorem look1_snoc {ps : List UF} {h : UF} (hn : h.1 ∉ namesOf ps) : look1 (lookU ps) h.1 h.2 = lookU (ps ++ [h]) := by
  funext t
  unfold look1
  by_cases e : t = h.1
  · subst e; rw [if_pos rfl, look_new hn]
  · rw [if_neg e, look_out e]
theorem look1_first (s : ByteArray) (f : Int × Int) : look1 look0 s f = lookU [(s, f)] := by
  have h := look1_snoc (ps := []) (h := (s, f)) (by simp [namesOf])
  have e : lookU ([] : List UF) = look0 := by
    funext t
    exact look_none.2 (fnd_neg.2 (by simp [namesOf]))
  rw [e] at h
  exact h
/-- What a step says, the list agrees with. -/
def AgreeH (ps : List UF) (h : UF) : Prop := h.1 = ByteArray.empty ∨ lookU ps h.1 = some h.2
theorem AgreeH.pre {ps qs : List UF} {h : UF} (ha : AgreeH ps h) (hp : ps <+: qs) : AgreeH qs h := ha.imp id (fun e => look_pre e hp)
theorem agree_known {ps : List UF} {h : UF} (hk : lookU ps h.1 = some h.2) : AgreeH (addU ps h) h ∧ addU ps h = ps := by
  have hin : h.1 ∈ namesOf ps := look_mem.1 ⟨_, hk⟩
  have e := addU_no (ps := ps) (h := h) (fun hc => hc.2.2 hin)
  exact ⟨by rw [e]; exact Or.inr hk, e⟩
theorem agree_new {ps : List UF} {h : UF} (hk : lookU ps h.1 = none) (h1 : h.1 ≠ ByteArray.empty) (h2 : 0 < h.2.2) : AgreeH (addU ps h) h ∧ addU ps h = ps ++ [h] ∧ h.1 ∉ namesOf ps := by
  have hn : h.1 ∉ namesOf ps := fnd_neg.1 (look_none.1 hk)
  have e := addU_yes h1 h2 hn
  exact ⟨by rw [e]; exact Or.inr (look_new hn), e, hn⟩
theorem agree_none {ps : List UF} {h : UF} (h1 : h.1 = ByteArray.empty) : AgreeH (addU ps h) h ∧ addU ps h = ps := ⟨Or.inl h1, addU_no (fun hc => hc.1 h1)⟩
/-- Every step from every unit of the list agrees: a labelling. -/
theorem agree_closed {rs : List UR} {ps : List UF} (hr : ∀ r, r ∈ rs → ruleOk r = true) (hp : AllPos ps) (h : ∀ x, x ∈ ps → ∀ r, r ∈ rs → AgreeH ps (hopV r x)) : Closed rs (lookU ps) := by
  intro r hm
  obtain ⟨hc1, hc2⟩ := ruleOk_codes (hr r hm)
  cases e1 : lookU ps r.src with
  | some x =>
    have hop : hopV r (r.src, x) = (r.dst, rat.mulR x.1 x.2 r.num r.den) := if_pos rfl
    have ha := h _ (look_some e1) r hm
    rw [hop] at ha
    rcases ha with ha | ha
    · exact absurd ha (code_ne hc2)
    · exact Or.inr ⟨x, _, rfl, ha, hp _ (look_some e1), hp _ (look_some ha), rfl⟩
  | none =>
    cases e2 : lookU ps r.dst with
    | none => exact Or.inl ⟨rfl, rfl⟩
    | some y =>
      have hne : ¬r.src = r.dst := fun e => by rw [e, e2] at e1; cases e1
      have hop : hopV r (r.dst, y) = (r.src, rat.divR y.1 y.2 r.num r.den) := by unfold hopV; rw [if_neg hne, if_pos rfl]
      have ha := h _ (look_some e2) r hm
      rw [hop] at ha
      rcases ha with ha | ha
      · exact absurd ha (code_ne hc1)
      · rw [e1] at ha; cases ha
/-- A step that is no ratio: no table. -/
theorem no_ratio {rs : List UR} {s : ByteArray} {x : UF} (hx : Way rs s x) {r : UR} (hm : r ∈ rs) (hne : (hopV r x).1 ≠ ByteArray.empty) (h0 : (hopV r x).2 = (0, 0)) : ¬IsTab rs := fun ht => by
  have := posR_bound (tab_hop ht hx hm hne).2
  rw [h0] at this
  omega
/-- Two ways that differ: no table. -/
theorem no_agree {rs : List UR} {s : ByteArray} {x : UF} (hx : Way rs s x) {r : UR} (hm : r ∈ rs) (hne : (hopV r x).1 ≠ ByteArray.empty) {ps : List UF} (hw : AllWay rs s ps) {f : Int × Int} (hk : lookU ps (hopV r x).1 = some f) (hf : f ≠ (hopV r x).2) : ¬IsTab rs := fun ht => by
  have h1 := (tab_hop ht hx hm hne).1
  have h2 := tab_way ht (hw _ (look_some hk))
  exact hf (Option.some.inj (h2.symm.trans h1))
/-- A hop from a ratio is a ratio or nought over nought. -/
theorem hop_zero {r : UR} {x : UF} (hr : ruleOk r = true) (hx : PosR x.2) (h : (hopV r x).2 ≠ (0, 0)) : PosR (hopV r x).2 ∧ 0 < (hopV r x).2.2 := by
  have hp := ruleOk_pos hr
  have key : ∀ n d : Int, 0 < n → 0 < d → rat.mkR n d ≠ (0, 0) → PosR (rat.mkR n d) := fun n d hn hd hne => mk_pos hn hd (by
    rcases rat.mkR_cases n d with e | ⟨p, q, e, hk, _⟩
    · exact absurd e hne
    · rw [e]; exact (by have := (rat.okB_true hk).1; show 0 < q; omega))
  unfold hopV at h ⊢
  by_cases e1 : r.src = x.1
  · rw [if_pos e1] at h ⊢
    have hb := posR_bound hx
    have hc := posR_bound hp
    have h' : rat.mulR x.2.1 x.2.2 r.num r.den ≠ (0, 0) := h
    rw [rat.mulR_yes hx.1 hp.1] at h'
    have hP := key _ _ (Int.mul_pos (by omega) (by omega)) (Int.mul_pos (by omega) (by omega)) h'
    rw [← rat.mulR_yes hx.1 hp.1] at hP
    exact ⟨hP, posR_den hP⟩
  · by_cases e2 : r.dst = x.1
    · rw [if_neg e1, if_pos e2] at h ⊢
      have hb := posR_bound hx
      have hc := posR_bound hp
      have h' : rat.divR x.2.1 x.2.2 r.num r.den ≠ (0, 0) := h
      rw [rat.divR_yes hx.1 hp.1] at h'
      have hP := key _ _ (Int.mul_pos (by omega) (by omega)) (Int.mul_pos (by omega) (by omega)) h'
      rw [← rat.divR_yes hx.1 hp.1] at hP
      exact ⟨hP, posR_den hP⟩
    · rw [if_neg e1, if_neg e2] at h; exact absurd rfl h
end Go.Proofs.Ytaomjggamamckaa
