/-
  Calendars: what walks over the days with work find. No program is named here.
-/
import Derived.Test.YtkhonlcekjckoaaCalList
import Derived.WalkKit
import Derived.Lib.Hide
namespace Go.Proofs.Ytkhonlcekjckoaa

theorem days_mem {f : Nat → Int} : ∀ (k : Nat) {s q : Int}, Step s → leftD s q = k → ∀ y, y ∈ daysW f s q → 0 < f y.1 ∧ (s = 1 → q ≤ ((y.1 : Nat) : Int)) ∧ (s = -1 → ((y.1 : Nat) : Int) ≤ q) := by
  intro k
  induction k with
  | zero =>
    intro s q hs hk y hy
    unfold daysW at hy
    rw [hk] at hy
    cases hy
  | succ k ih =>
    intro s q hs hk y hy
    by_cases hin : 0 ≤ q ∧ q ≤ 999
    · have hst := left_step hs hin.1 hin.2
      by_cases hw : 0 < f q.toNat
      · rw [days_yes f hs hin.1 hin.2 hw] at hy
        rcases List.mem_cons.1 hy with rfl | hy
        · rw [dayOf_nat hin.1 hin.2]
          exact ⟨hw, fun _ => by omega, fun _ => by omega⟩
        · have := ih hs (by omega) y hy
          exact ⟨this.1, fun e => by have := this.2.1 e; omega, fun e => by have := this.2.2 e; omega⟩
      · rw [days_no f hs hin.1 hin.2 hw] at hy
        have := ih hs (by omega) y hy
        exact ⟨this.1, fun e => by have := this.2.1 e; omega, fun e => by have := this.2.2 e; omega⟩
    · rw [days_off f s hin] at hy
      cases hy
theorem days_order {f : Nat → Int} {x : Fin 1000} : ∀ (pre : List (Fin 1000)) (k : Nat) {s q : Int}, Step s → leftD s q = k → (pre ++ [x]) <+: daysW f s q → ∀ y, y ∈ pre → (s = 1 → y.1 < x.1) ∧ (s = -1 → x.1 < y.1) := by
  intro pre k
  induction k generalizing pre with
  | zero =>
    intro s q hs hk hp y hy
    unfold daysW at hp
    rw [hk] at hp
    have := hp.length_le
    simp [walkD] at this
  | succ k ih =>
    intro s q hs hk hp y hy
    by_cases hin : 0 ≤ q ∧ q ≤ 999
    · have hst := left_step hs hin.1 hin.2
      by_cases hw : 0 < f q.toNat
      · rw [days_yes f hs hin.1 hin.2 hw] at hp
        cases pre with
        | nil => cases hy
        | cons z r =>
          have e := List.cons_prefix_cons.1 hp
          rcases List.mem_cons.1 hy with rfl | hy
          · have hx := days_mem k hs (by omega) x (e.2.subset (by simp))
            have hz : ((y.1 : Nat) : Int) = q := by rw [e.1]; exact dayOf_val hin.1 hin.2
            exact ⟨fun h => by have := hx.2.1 h; omega, fun h => by have := hx.2.2 h; omega⟩
          · exact ih r hs (by omega) e.2 y hy
      · rw [days_no f hs hin.1 hin.2 hw] at hp
        exact ih pre hs (by omega) hp y hy
    · rw [days_off f s hin] at hp
      have := hp.length_le
      simp at this

section
variable {ws : List Int} {es : List (Int × Int)}
theorem wOf_zero (d : Nat) (h : ¬0 < hOf ws es d) (hc : IsCal ws es) : wOf ws es d = 0 := by rcases wOf_bit hc d with h1 | h1 <;> omega
theorem sum_len (hc : IsCal ws es) (l : List (Fin 1000)) (h : ∀ y, y ∈ l → 0 < hOf ws es y.1) : sumD (wOf ws es) l = l.length := by
  induction l with
  | nil => rfl
  | cons x r ih =>
    have h1 := h x (List.mem_cons_self ..)
    have h2 := ih (fun y hy => h y (List.mem_cons_of_mem _ hy))
    have h3 := wOf_bit hc x.1
    simp only [sumD, List.length_cons]
    rw [h2]
    omega
theorem pre_work {s q : Int} (hs : Step s) {pre : List (Fin 1000)} (h : pre <+: daysW (hOf ws es) s q) : ∀ y, y ∈ pre → 0 < hOf ws es y.1 := fun y hy => (days_mem _ hs rfl y (h.subset hy)).1
theorem pre_snoc {α : Type} {l pre : List α} {x : α} (h : (pre ++ [x]) <+: l) : pre <+: l := List.IsPrefix.trans (List.prefix_append pre [x]) h

/-- What lies between two days, where the walk has come to b. -/
theorem between {q b : Int} {pre : List (Fin 1000)} (hc : IsCal ws es) (hq : 0 ≤ q) (h : UpTo (hOf ws es) q b pre) : (pre.length : Int) = cnt (wOf ws es) q b ∧ sumD (hOf ws es) pre = cnt (hOf ws es) q b := by
  have h1 := up_sum (g := wOf ws es) (fun d hd => wOf_zero d hd hc) _ q hq rfl pre h
  have h2 := up_sum (g := hOf ws es) (fun d hd => by have := hOf_bound hc d; omega) _ q hq rfl pre h
  rw [sum_len hc pre (pre_work (Or.inl rfl) (by rcases h.2 with e | ⟨x, hx, _⟩
                                                · rw [e]; exact List.prefix_refl _
                                                · exact pre_snoc hx))] at h1
  exact ⟨h1, h2⟩
theorem cnt_low (g : Nat → Int) {a b : Int} (h : a < 0) : cnt g 0 b = cnt g a b := by
  unfold cnt
  have e : cl a = cl 0 := by unfold cl; omega
  rw [e]
  by_cases h0 : 0 ≤ b
  · rw [if_pos h0, if_pos (by omega)]
  · rw [if_neg h0]
    split
    · have e2 : cl b = cl 0 := by unfold cl; omega
      rw [e2]; omega
    · rfl
theorem upTo_all {f : Nat → Int} {q b : Int} (h : AllB b (daysW f 1 q)) : UpTo f q b (daysW f 1 q) := ⟨h, Or.inl rfl⟩
theorem upTo_stop {f : Nat → Int} {q b : Int} {pre : List (Fin 1000)} {x : Fin 1000} (h : AllB b pre) (hp : (pre ++ [x]) <+: daysW f 1 q) (hx : b ≤ ((x.1 : Nat) : Int)) : UpTo f q b pre := ⟨h, Or.inr ⟨x, hp, hx⟩⟩
theorem allB_snoc {b : Int} {pre : List (Fin 1000)} {x : Fin 1000} (h : AllB b pre) (hx : ((x.1 : Nat) : Int) < b) : AllB b (pre ++ [x]) := by
  intro y hy
  rcases List.mem_append.1 hy with hy | hy
  · exact h y hy
  · obtain rfl := List.mem_singleton.1 hy; exact hx
theorem upTo_found {f : Nat → Int} {q : Int} {pre : List (Fin 1000)} {x : Fin 1000} (hp : (pre ++ [x]) <+: daysW f 1 q) : UpTo f q ((x.1 : Nat) : Int) pre :=
  upTo_stop (fun y hy => by have := (days_order pre _ (Or.inl rfl) rfl hp y hy).1 rfl; omega) hp (Int.le_refl _)
theorem wb_eq {a b : Int} (h : a ≤ b) : cnt (wOf ws es) a b = wb ws es a b := by unfold cnt wb; rw [if_pos h]
theorem wb_le (hc : IsCal ws es) {d a b : Int} (h : a ≤ b) : wb ws es d a ≤ wb ws es d b := by
  have h1 := wb_add (ws := ws) (es := es) d a b
  have h2 := wb_nonneg hc h
  omega

/-- A day with work is found upwards. -/
theorem find_up {day n : Int} {pre : List (Fin 1000)} {x : Fin 1000} (ho : On ws es day) (hn : 0 < n) (hp : (pre ++ [x]) <+: daysW (hOf ws es) 1 day) (hl : (pre.length : Int) + 1 = n) :
    (x.1 = 999 → AddRes ws es day n 0 false) ∧ (x.1 ≠ 999 → AddRes ws es day n (((x.1 : Nat) : Int) + 1) true) := by
  have hb := (between ho.1 ho.2.1 (upTo_found hp)).1
  have hx := days_mem _ (Or.inl rfl) rfl x (hp.subset (by simp))
  have hdx := hx.2.1 rfl
  have hw := wOf_bit ho.1 x.1
  have hs := wb_succ (ws := ws) (es := es) (a := day) (d := x.1) x.2
  rw [wb_eq hdx] at hb
  refine ⟨fun e => Or.inr ⟨rfl, rfl, fun ⟨_, b, h⟩ => ?_⟩, fun e => addRes_yes ho ⟨by omega, by have := x.2; omega, by omega, fun _ => ⟨by omega, fun z h1 h2 => ?_⟩, fun h => by omega⟩⟩
  · have h1 := wb_le ho.1 (d := day) (a := b) (b := ((x.1 : Nat) : Int)) (by have := h.2.1; omega)
    have := h.2.2.1
    omega
  · have h1 := wb_le ho.1 (d := day) (a := z) (b := ((x.1 : Nat) : Int)) (by omega)
    omega
theorem find_up_none {day n : Int} (ho : On ws es day) (hl : ((daysW (hOf ws es) 1 day).length : Int) < n) : AddRes ws es day n 0 false := by
  have hb := (between ho.1 ho.2.1 (upTo_all (f := hOf ws es) (q := day) (b := 1000) (fun y _ => by have := y.2; omega))).1
  rw [wb_eq (by have := ho.2.2; omega)] at hb
  refine Or.inr ⟨rfl, rfl, fun ⟨_, b, h⟩ => ?_⟩
  have h1 := wb_le ho.1 (d := day) (a := b) (b := 1000) (by have := h.2.1; omega)
  have := h.2.2.1
  omega
theorem down_len {day b : Int} {pre : List (Fin 1000)} (ho : On ws es day) (hd : DnTo (hOf ws es) (day - 1) b pre) (hb : b ≤ day) : (pre.length : Int) = wb ws es b day := by
  have h1 := dn_sum (g := wOf ws es) (fun d hd => wOf_zero d hd ho.1) _ (day - 1) (by have := ho.2.2; omega) rfl pre hd
  rw [sum_len ho.1 pre (pre_work (Or.inr rfl) (by rcases hd.2 with ⟨e, _⟩ | ⟨x, hx, _⟩
                                                  · rw [e]; exact List.prefix_refl _
                                                  · exact pre_snoc hx)), show day - 1 + 1 = day by omega, wb_eq hb] at h1
  exact h1
/-- A day with work is found downwards. -/
theorem find_dn {day n : Int} {pre : List (Fin 1000)} {x : Fin 1000} (ho : On ws es day) (hn : n < 0) (hp : (pre ++ [x]) <+: daysW (hOf ws es) (-1) (day - 1)) (hl : (pre.length : Int) + 1 = -n) : AddRes ws es day n ((x.1 : Nat) : Int) true := by
  have hx := days_mem _ (Or.inr rfl) rfl x (hp.subset (by simp))
  have hdx := hx.2.2 rfl
  have hb := down_len (b := ((x.1 : Nat) : Int) + 1) ho ⟨fun y hy => by have := (days_order pre _ (Or.inr rfl) rfl hp y hy).2 rfl; omega, Or.inr ⟨x, hp, by omega⟩⟩ (by omega)
  have hw := wOf_bit ho.1 x.1
  have hs := wb_succ (ws := ws) (es := es) (a := day) (d := x.1) x.2
  have hn1 := wb_neg (ws := ws) (es := es) (((x.1 : Nat) : Int) + 1) day
  refine addRes_yes ho ⟨by omega, by have := x.2; omega, by omega, fun h => by omega, fun _ => ⟨by omega, fun z h1 h2 => ?_⟩⟩
  have := wb_le ho.1 (d := day) (a := ((x.1 : Nat) : Int) + 1) (b := z) (by omega)
  omega
theorem find_dn_none {day n : Int} (ho : On ws es day) (hl : ((daysW (hOf ws es) (-1) (day - 1)).length : Int) < -n) : AddRes ws es day n 0 false := by
  have hb := down_len (b := 0) (pre := daysW (hOf ws es) (-1) (day - 1)) ho ⟨fun y _ => by omega, Or.inl ⟨rfl, Int.le_refl _⟩⟩ ho.2.1
  have hn1 := wb_neg (ws := ws) (es := es) 0 day
  refine Or.inr ⟨rfl, rfl, fun ⟨_, b, h⟩ => ?_⟩
  have h1 := wb_le ho.1 (d := day) (a := 0) (b := b) h.1
  have := h.2.2.1
  omega

theorem hrs_eq (a b : Int) : cnt (hOf ws es) a b = hrs ws es a b := rfl
/-- The day on which so many hours are done. -/
theorem fin_found {day n : Int} {pre : List (Fin 1000)} {x : Fin 1000} (ho : On ws es day) (hn : 1 ≤ n) (hp : (pre ++ [x]) <+: daysW (hOf ws es) 1 day) (h1 : sumD (hOf ws es) pre < n) (h2 : n ≤ sumD (hOf ws es) pre + hOf ws es x.1) : FinRes ws es day n ((x.1 : Nat) : Int) true := by
  have hb := (between ho.1 ho.2.1 (upTo_found hp)).2
  have hx := days_mem _ (Or.inl rfl) rfl x (hp.subset (by simp))
  have hdx := hx.2.1 rfl
  have hs := hrs_succ (ws := ws) (es := es) (a := day) (d := x.1) hdx x.2
  rw [hrs_eq] at hb
  exact finRes_yes ho hn ⟨hdx, by have := x.2; omega, by omega, by omega⟩
theorem fin_no {day n : Int} (ho : On ws es day) (h1 : sumD (hOf ws es) (daysW (hOf ws es) 1 day) < n) : FinRes ws es day n 0 false := by
  have hb := (between ho.1 ho.2.1 (upTo_all (f := hOf ws es) (q := day) (b := 1000) (fun y _ => by have := y.2; omega))).2
  rw [hrs_eq] at hb
  exact fin_none ho.1 (by omega)
end
end Go.Proofs.Ytkhonlcekjckoaa
