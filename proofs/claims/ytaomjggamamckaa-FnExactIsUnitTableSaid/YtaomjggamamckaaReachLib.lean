/-
  Units: what is reached from a unit by rules. No program is named here.
-/
import Derived.Test.YtaomjggamamckaaRules
import Derived.Test.YtaomjggamamckaaExcs
import Derived.Test.YtaomjggamamckaaExcsRow
import Derived.Test.YtaomjggamamckaaRatM
import Derived.Laws.OwnMore
import Derived.Lib.Hide
namespace Go.Proofs.Ytaomjggamamckaa
open Go.RowKit

instance decText (x : ByteArray) (l : List ByteArray) : Decidable (x ∈ l) := decidable_of_iff (l.any (fun y => decide (y = x)) = true) (by simp)
/-- A unit that is reached, and its factor. -/
abbrev UF := ByteArray × Int × Int
def namesOf (ps : List UF) : List ByteArray := ps.map (·.1)
def facsOf (ps : List UF) : List (Int × Int) := ps.map (·.2)
/-- Where a rule leads from a unit: nowhere is the empty text. -/
def hopV (r : UR) (x : UF) : UF :=
  if r.src = x.1 then (r.dst, rat.mulR x.2.1 x.2.2 r.num r.den) else if r.dst = x.1 then (r.src, rat.divR x.2.1 x.2.2 r.num r.den) else (ByteArray.empty, 0, 0)
def addU (ps : List UF) (h : UF) : List UF := if h.1 ≠ ByteArray.empty ∧ 0 < h.2.2 ∧ h.1 ∉ namesOf ps then ps ++ [h] else ps
def innerU (rs : List UR) (x : UF) (ps : List UF) : List UF := rs.foldl (fun ps r => addU ps (hopV r x)) ps
def reachF (rs : List UR) : Nat → Nat → List UF → List UF
  | 0, _, ps => ps
  | f + 1, i, ps => if h : i < ps.length then reachF rs f (i + 1) (innerU rs (ps[i]'h) ps) else ps
/-- What is reached from a unit. -/
def reachU (rs : List UR) (s : ByteArray) : List UF := reachF rs (2 * rs.length + 2) 0 [(s, 1, 1)]

theorem addU_yes {ps : List UF} {h : UF} (h1 : h.1 ≠ ByteArray.empty) (h2 : 0 < h.2.2) (h3 : h.1 ∉ namesOf ps) : addU ps h = ps ++ [h] := if_pos ⟨h1, h2, h3⟩
theorem addU_no {ps : List UF} {h : UF} (hn : ¬(h.1 ≠ ByteArray.empty ∧ 0 < h.2.2 ∧ h.1 ∉ namesOf ps)) : addU ps h = ps := if_neg hn
theorem innerU_take {rs : List UR} {x : UF} {ps : List UF} {k : Nat} (hk : k < rs.length) : innerU (rs.take (k + 1)) x ps = addU (innerU (rs.take k) x ps) (hopV (rs[k]'hk) x) := by
  unfold innerU
  rw [List.take_succ_eq_append_getElem hk, List.foldl_append]
  rfl
theorem innerU_all {rs : List UR} {x : UF} {ps : List UF} {k : Nat} (hk : rs.length ≤ k) : innerU (rs.take k) x ps = innerU rs x ps := by rw [List.take_of_length_le hk]
theorem innerU_none (rs : List UR) (x : UF) (ps : List UF) : innerU (rs.take 0) x ps = ps := rfl
theorem addU_prefix (ps : List UF) (h : UF) : ps <+: addU ps h := by
  unfold addU
  split
  · exact List.prefix_append _ _
  · exact List.prefix_refl _
theorem innerU_prefix (x : UF) : ∀ (rs : List UR) (ps : List UF), ps <+: innerU rs x ps
  | [], _ => List.prefix_refl _
  | r :: rs, ps => (addU_prefix ps (hopV r x)).trans (innerU_prefix x rs (addU ps (hopV r x)))
theorem reachF_on {rs : List UR} {f i : Nat} {ps : List UF} (h : i < ps.length) : reachF rs (f + 1) i ps = reachF rs f (i + 1) (innerU rs (ps[i]'h) ps) := by
  show (if h : i < ps.length then _ else _) = _
  rw [dif_pos h]
theorem reachF_off {rs : List UR} {f i : Nat} {ps : List UF} (h : ¬i < ps.length) : reachF rs f i ps = ps := by
  cases f with
  | zero => rfl
  | succ f =>
    show (if h : i < ps.length then _ else _) = _
    rw [dif_neg h]

/-- The ends of the rules. -/
def endsU (rs : List UR) : List ByteArray := rs.map (·.src) ++ rs.map (·.dst)
theorem endsU_length (rs : List UR) : (endsU rs).length = 2 * rs.length := by simp [endsU]; omega
/-- How many ends have not come. -/
def roomU (rs : List UR) (ps : List UF) : Nat := ((endsU rs).filter (fun e => decide (e ∉ namesOf ps))).length
theorem filter_less {α : Type} {p q : α → Bool} {l : List α} (h : ∀ x, q x = true → p x = true) : (l.filter q).length ≤ (l.filter p).length := by
  induction l with
  | nil => exact Nat.le_refl _
  | cons x r ih =>
    rw [List.filter_cons, List.filter_cons]
    by_cases hq : q x = true
    · rw [if_pos hq, if_pos (h x hq)]; simp; exact ih
    · rw [if_neg hq]
      split
      · simp; omega
      · exact ih
theorem filter_lt {α : Type} {p q : α → Bool} {l : List α} (h : ∀ x, q x = true → p x = true) {y : α} (hy : y ∈ l) (h1 : p y = true) (h2 : q y = false) : (l.filter q).length < (l.filter p).length := by
  induction l with
  | nil => cases hy
  | cons x r ih =>
    rw [List.filter_cons, List.filter_cons]
    rcases List.mem_cons.1 hy with rfl | hy
    · rw [if_pos h1, if_neg (by rw [h2]; exact Bool.noConfusion)]
      have := filter_less (l := r) h
      simp; omega
    · have := ih hy
      by_cases hq : q x = true
      · rw [if_pos hq, if_pos (h x hq)]; simp; exact this
      · rw [if_neg hq]
        split
        · simp; omega
        · exact this
theorem hop_mem {rs : List UR} {r : UR} (hr : r ∈ rs) {x : UF} (h : (hopV r x).1 ≠ ByteArray.empty) : (hopV r x).1 ∈ endsU rs := by
  unfold hopV at h ⊢
  unfold endsU
  by_cases h1 : r.src = x.1
  · rw [if_pos h1]; exact List.mem_append.2 (Or.inr (List.mem_map.2 ⟨r, hr, rfl⟩))
  · rw [if_neg h1] at h ⊢
    by_cases h2 : r.dst = x.1
    · rw [if_pos h2]; exact List.mem_append.2 (Or.inl (List.mem_map.2 ⟨r, hr, rfl⟩))
    · rw [if_neg h2] at h; exact absurd rfl h
theorem addU_room {rs : List UR} {ps : List UF} {h : UF} (hm : h.1 ≠ ByteArray.empty → h.1 ∈ endsU rs) : (addU ps h).length + roomU rs (addU ps h) ≤ ps.length + roomU rs ps := by
  unfold addU
  split
  · rename_i hc
    have hlt : roomU rs (ps ++ [h]) < roomU rs ps := by
      unfold roomU
      refine filter_lt (fun x hx => ?_) (hm hc.1) (decide_eq_true hc.2.2) (decide_eq_false (fun hn => hn (by simp [namesOf])))
      have := of_decide_eq_true hx
      exact decide_eq_true (fun hh => this (by unfold namesOf at hh ⊢; rw [List.map_append]; exact List.mem_append.2 (Or.inl hh)))
    rw [List.length_append]
    simp only [List.length_singleton]
    omega
  · exact Nat.le_refl _
theorem roomU_le (rs : List UR) (ps : List UF) : roomU rs ps ≤ 2 * rs.length := by
  unfold roomU
  exact Nat.le_trans (List.length_filter_le _ _) (Nat.le_of_eq (endsU_length rs))

theorem innerU_room {rs : List UR} (x : UF) : ∀ (l : List UR) (ps : List UF), (∀ r, r ∈ l → r ∈ rs) → (innerU l x ps).length + roomU rs (innerU l x ps) ≤ ps.length + roomU rs ps
  | [], _, _ => Nat.le_refl _
  | r :: l, ps, h => Nat.le_trans (innerU_room x l (addU ps (hopV r x)) (fun q hq => h q (List.mem_cons_of_mem _ hq))) (addU_room (fun hn => hop_mem (h r (List.mem_cons_self ..)) hn))
theorem reachF_len {rs : List UR} {B : Nat} : ∀ (f i : Nat) (ps : List UF), ps.length + roomU rs ps ≤ B → (reachF rs f i ps).length ≤ B
  | 0, _, ps, h => by show ps.length ≤ B; omega
  | f + 1, i, ps, h => by
    by_cases hi : i < ps.length
    · rw [reachF_on hi]
      exact reachF_len f (i + 1) _ (Nat.le_trans (innerU_room _ rs ps (fun _ hq => hq)) h)
    · rw [reachF_off hi]; omega
theorem reachU_len (rs : List UR) (s : ByteArray) : (reachU rs s).length ≤ 1 + 2 * rs.length := by
  unfold reachU
  exact reachF_len _ _ _ (by have := roomU_le rs [(s, 1, 1)]; simp; omega)

/-- The cells of a row of factors. -/
def cellsP (fs : List (Int × Int)) : List Value := fs.flatMap fun p => [.int .i64 p.1, .int .i64 p.2]
theorem cellsP_snoc (fs : List (Int × Int)) (p : Int × Int) : cellsP (fs ++ [p]) = cellsP fs ++ [.int .i64 p.1, .int .i64 p.2] := by simp [cellsP]
theorem cellsP_at {fs : List (Int × Int)} {k : Nat} (hk : k < fs.length) : (cellsP fs)[k * 2]? = some (.int .i64 (fs[k]'hk).1) ∧ (cellsP fs)[k * 2 + 1]? = some (.int .i64 (fs[k]'hk).2) := by
  induction fs generalizing k with
  | nil => cases hk
  | cons p r ih =>
    cases k with
    | zero => exact ⟨rfl, rfl⟩
    | succ k =>
      have := ih (k := k) (by simpa using hk)
      simp only [List.getElem_cons_succ]
      rw [show (k + 1) * 2 = k * 2 + 2 by omega]
      exact this
/-- The cells of a row of names. -/
def cellsN (ns : List ByteArray) : List Value := ns.map Value.string
theorem cellsN_snoc (ns : List ByteArray) (x : ByteArray) : cellsN (ns ++ [x]) = cellsN ns ++ [.string x] := by simp [cellsN]
theorem cellsN_at {ns : List ByteArray} {k : Nat} (hk : k < ns.length) : (cellsN ns)[k]? = some (.string (ns[k]'hk)) := by simp [cellsN, hk]
theorem namesOf_snoc (ps : List UF) (h : UF) : namesOf (ps ++ [h]) = namesOf ps ++ [h.1] := by simp [namesOf]
theorem facsOf_snoc (ps : List UF) (h : UF) : facsOf (ps ++ [h]) = facsOf ps ++ [h.2] := by simp [facsOf]
theorem namesOf_length (ps : List UF) : (namesOf ps).length = ps.length := by simp [namesOf]
theorem facsOf_length (ps : List UF) : (facsOf ps).length = ps.length := by simp [facsOf]

theorem strs_of_row {w : World} {base e : Nat} {v : Value} {n : Nat} {ns : List ByteArray} (hn : n = ns.length) (h : w.ownsRow base e 1 v n (cellsN ns)) : Strs w v ns := by
  subst hn
  rcases h.2 with ⟨rfl, hx⟩ | ⟨g, cap, cur, rfl, hb, hg, hnc, hcm, hcs, htake⟩
  · exact Or.inl ⟨List.eq_nil_of_length_eq_zero hx, _, _, rfl⟩
  · by_cases h0 : ns = []
    · subst h0
      exact Or.inl ⟨rfl, _, _, rfl⟩
    · refine Or.inr ⟨h0, g, 0, cap, rfl, hnc, (h.lt g rfl).2, fun j x hx => ?_⟩
      have hj : j < ns.length := (List.getElem?_eq_some_iff.1 hx).1
      rw [Nat.zero_add, h.cellAt j (by omega), cellsN_at hj, List.getElem?_eq_getElem hj |>.symm.trans hx |> Option.some.inj]
theorem pairs_of_row {w : World} {base e : Nat} {v : Value} {n : Nat} {fs : List (Int × Int)} (hn : n = fs.length) (h : w.ownsRow base e 2 v n (cellsP fs)) : Excs w v fs := by
  subst hn
  rcases h.2 with ⟨rfl, hx⟩ | ⟨g, cap, cur, rfl, hb, hg, hnc, hcm, hcs, htake⟩
  · exact Or.inl ⟨List.eq_nil_of_length_eq_zero hx, _, _, rfl⟩
  · by_cases h0 : fs = []
    · subst h0
      exact Or.inl ⟨rfl, _, _, rfl⟩
    · refine Or.inr ⟨h0, g, 0, cap, rfl, hnc, (h.lt g rfl).2, fun j x hx => ?_⟩
      have hj : j < fs.length := (List.getElem?_eq_some_iff.1 hx).1
      have hd : fs[j]'hj = x := Option.some.inj ((List.getElem?_eq_getElem hj).symm.trans hx)
      have h2 := cellsP_at hj
      rw [hd] at h2
      rw [Nat.zero_add, h.cellAt (j * 2) (by omega), h.cellAt (j * 2 + 1) (by omega)]
      exact h2
theorem own_down {w : World} {base base' e size : Nat} {v : Value} {n : Nat} {xs : List Value} (h : w.ownsRow base e size v n xs) (hle : base' ≤ base) : w.ownsRow base' e size v n xs :=
  ⟨h.1, h.2.imp id (fun ⟨g, cap, cur, hv, hb, r⟩ => ⟨g, cap, cur, hv, Nat.le_trans hle hb, r⟩)⟩
end Go.Proofs.Ytaomjggamamckaa
