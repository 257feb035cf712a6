/-
 Conditions: lists of nodes in postorder as trees. No program is named here.
-/
import Derived.Test.YteadmanmhgdhoaaGreatBuRec
import Derived.Test.YteadmanmhgdhoaaGreatBuCode
import Derived.Lib.Hide
namespace Go.Proofs.YteadmanmhgdhoaaGreat

abbrev eB : ByteArray := ByteArray.empty
/-- A condition. -/
inductive CT where
 | tt : CT
 | is (o v : ByteArray) : CT
 | no (t : CT) : CT
 | and (a b : CT) : CT
 | or (a b : CT) : CT
def CT.post : CT → List CN
 | .tt => [⟨0, eB, eB⟩]
 | .is o v => [⟨1, o, v⟩]
 | .no t => t.post ++ [⟨2, eB, eB⟩]
 | .and a b => (a.post ++ b.post) ++ [⟨3, eB, eB⟩]
 | .or a b => (a.post ++ b.post) ++ [⟨4, eB, eB⟩]
/-- Its names are codes. -/
def CT.ok : CT → Prop
 | .tt => True
 | .is o v => isCode.codeB o = true ∧ isCode.codeB v = true
 | .no t => t.ok
 | .and a b => a.ok ∧ b.ok
 | .or a b => a.ok ∧ b.ok
theorem CT.post_pos (t : CT) : 0 < t.post.length := by cases t <;> simp [CT.post] <;> omega
/-- A node taken: the trees so far, the last first. -/
noncomputable def CT.step (x : CN) (s : List CT) : Option (List CT) :=
 if x.kind = 0 then (if x.opt = eB ∧ x.vl = eB then some (.tt :: s) else none)
 else if x.kind = 1 then (if isCode.codeB x.opt = true ∧ isCode.codeB x.vl = true then some (.is x.opt x.vl :: s) else none)
 else if x.kind = 2 then (if x.opt = eB ∧ x.vl = eB then (match s with | a :: r => some (.no a :: r) | [] => none) else none)
 else if x.kind = 3 then (if x.opt = eB ∧ x.vl = eB then (match s with | b :: a :: r => some (.and a b :: r) | _ => none) else none)
 else if x.kind = 4 then (if x.opt = eB ∧ x.vl = eB then (match s with | b :: a :: r => some (.or a b :: r) | _ => none) else none)
 else none
noncomputable def CT.runs (s : List CT) (l : List CN) : Option (List CT) := l.foldl (fun s x => s.bind (CT.step x)) (some s)
theorem CT.runs_nil (s : List CT) : CT.runs s [] = some s := rfl
theorem foldl_none (l : List CN) : l.foldl (fun s x => s.bind (CT.step x)) (none : Option (List CT)) = none := by
 induction l with
 | nil => rfl
 | cons x l ih => exact ih
theorem CT.runs_append (s : List CT) (l m : List CN) : CT.runs s (l ++ m) = (CT.runs s l).bind (fun r => CT.runs r m) := by
 unfold CT.runs
 rw [List.foldl_append]
 cases l.foldl (fun s x => s.bind (CT.step x)) (some s) with
 | none => exact foldl_none m
 | some r => rfl
theorem CT.runs_snoc (s : List CT) (l : List CN) (x : CN) : CT.runs s (l ++ [x]) = (CT.runs s l).bind (CT.step x) := by
 rw [CT.runs_append]; rfl
theorem CT.runs_take {s : List CT} {l : List CN} {k : Nat} (hk : k < l.length) : CT.runs s (l.take (k + 1)) = (CT.runs s (l.take k)).bind (CT.step (l[k]'hk)) := by
 rw [List.take_succ_eq_append_getElem hk, CT.runs_snoc]
/-- A beginning that can't be taken spoils all. -/
theorem CT.runs_bad {s : List CT} {l : List CN} {k : Nat} (h : CT.runs s (l.take k) = none) : CT.runs s l = none := by
 have : l = l.take k ++ l.drop k := (List.take_append_drop k l).symm
 rw [this, CT.runs_append, h]
 rfl
/-- A tree's nodes are taken as the tree. -/
theorem CT.runs_post : ∀ (t : CT) (s : List CT), t.ok → CT.runs s t.post = some (t :: s)
 | .tt, s, _ => rfl
 | .is o v, s, h => by
  show CT.step ⟨1, o, v⟩ s = _
  unfold CT.step
  rw [if_neg (show ¬(1 : Int) = 0 by decide), if_pos rfl]
  exact if_pos h
 | .no t, s, h => by
  show CT.runs s (t.post ++ [_]) = _
  rw [CT.runs_snoc, CT.runs_post t s h]
  show CT.step ⟨2, eB, eB⟩ (t :: s) = _
  unfold CT.step
  rw [if_neg (by decide), if_neg (by decide), if_pos rfl, if_pos ⟨rfl, rfl⟩]
 | .and a b, s, h => by
  show CT.runs s ((a.post ++ b.post) ++ [_]) = _
  rw [CT.runs_snoc, CT.runs_append, CT.runs_post a s h.1]
  show (CT.runs (a :: s) b.post).bind _ = _
  rw [CT.runs_post b (a :: s) h.2]
  show CT.step ⟨3, eB, eB⟩ (b :: a :: s) = _
  unfold CT.step
  rw [if_neg (by decide), if_neg (by decide), if_neg (by decide), if_pos rfl, if_pos ⟨rfl, rfl⟩]
 | .or a b, s, h => by
  show CT.runs s ((a.post ++ b.post) ++ [_]) = _
  rw [CT.runs_snoc, CT.runs_append, CT.runs_post a s h.1]
  show (CT.runs (a :: s) b.post).bind _ = _
  rw [CT.runs_post b (a :: s) h.2]
  show CT.step ⟨4, eB, eB⟩ (b :: a :: s) = _
  unfold CT.step
  rw [if_neg (by decide), if_neg (by decide), if_neg (by decide), if_neg (by decide), if_pos rfl, if_pos ⟨rfl, rfl⟩]
/-- The nodes of trees, the last first. -/
def postS (s : List CT) : List CN := (s.reverse.map CT.post).flatten
theorem postS_nil : postS [] = [] := rfl
theorem postS_cons (t : CT) (s : List CT) : postS (t :: s) = postS s ++ t.post := by simp [postS]
def okS (s : List CT) : Prop := ∀ t, t ∈ s → t.ok
theorem okS_cons {t : CT} {s : List CT} : okS (t :: s) ↔ t.ok ∧ okS s := by unfold okS; simp
/-- What a step does. -/
theorem CT.step_some {x : CN} {s r : List CT} (h : CT.step x s = some r) (hs : okS s) : okS r ∧ postS r = postS s ++ [x] ∧
 ((x.kind = 0 ∧ x = ⟨0, eB, eB⟩ ∧ r = .tt :: s) ∨ (x.kind = 1 ∧ (isCode.codeB x.opt = true ∧ isCode.codeB x.vl = true) ∧ r = .is x.opt x.vl :: s) ∨ (x.kind = 2 ∧ x = ⟨2, eB, eB⟩ ∧ ∃ a q, s = a :: q ∧ r = .no a :: q) ∨
  (x.kind = 3 ∧ x = ⟨3, eB, eB⟩ ∧ ∃ a b q, s = b :: a :: q ∧ r = .and a b :: q) ∨ (x.kind = 4 ∧ x = ⟨4, eB, eB⟩ ∧ ∃ a b q, s = b :: a :: q ∧ r = .or a b :: q)) := by
 obtain ⟨kind, opt, vl⟩ := x
 unfold CT.step at h
 simp only at h ⊢
 by_cases h0 : kind = 0
 · subst h0
   rw [if_pos rfl] at h
   by_cases he : opt = eB ∧ vl = eB
   · rw [if_pos he] at h
     obtain ⟨rfl, rfl⟩ := he
     obtain rfl := Option.some.inj h
     exact ⟨okS_cons.2 ⟨trivial, hs⟩, by rw [postS_cons]; rfl, Or.inl ⟨rfl, rfl, rfl⟩⟩
   · rw [if_neg he] at h; cases h
 rw [if_neg h0] at h
 by_cases h1 : kind = 1
 · subst h1
   rw [if_pos rfl] at h
   by_cases he : isCode.codeB opt = true ∧ isCode.codeB vl = true
   · rw [if_pos he] at h
     obtain rfl := Option.some.inj h
     exact ⟨okS_cons.2 ⟨he, hs⟩, by rw [postS_cons]; rfl, Or.inr (Or.inl ⟨rfl, he, rfl⟩)⟩
   · rw [if_neg he] at h; cases h
 rw [if_neg h1] at h
 by_cases h2 : kind = 2
 · subst h2
   rw [if_pos rfl] at h
   by_cases he : opt = eB ∧ vl = eB
   · rw [if_pos he] at h
     obtain ⟨rfl, rfl⟩ := he
     match s, hs, h with
     | a :: q, hs, h =>
      obtain rfl := Option.some.inj h
      obtain ⟨ha, hq⟩ := okS_cons.1 hs
      exact ⟨okS_cons.2 ⟨ha, hq⟩, by rw [postS_cons, postS_cons]; simp [CT.post], Or.inr (Or.inr (Or.inl ⟨rfl, rfl, a, q, rfl, rfl⟩))⟩
   · rw [if_neg he] at h; cases h
 rw [if_neg h2] at h
 by_cases h3 : kind = 3
 · subst h3
   rw [if_pos rfl] at h
   by_cases he : opt = eB ∧ vl = eB
   · rw [if_pos he] at h
     obtain ⟨rfl, rfl⟩ := he
     match s, hs, h with
     | b :: a :: q, hs, h =>
      obtain rfl := Option.some.inj h
      obtain ⟨hb, hs⟩ := okS_cons.1 hs
      obtain ⟨ha, hq⟩ := okS_cons.1 hs
      exact ⟨okS_cons.2 ⟨⟨ha, hb⟩, hq⟩, by rw [postS_cons, postS_cons, postS_cons]; simp [CT.post], Or.inr (Or.inr (Or.inr (Or.inl ⟨rfl, rfl, a, b, q, rfl, rfl⟩)))⟩
   · rw [if_neg he] at h; cases h
 rw [if_neg h3] at h
 by_cases h4 : kind = 4
 · subst h4
   rw [if_pos rfl] at h
   by_cases he : opt = eB ∧ vl = eB
   · rw [if_pos he] at h
     obtain ⟨rfl, rfl⟩ := he
     match s, hs, h with
     | b :: a :: q, hs, h =>
      obtain rfl := Option.some.inj h
      obtain ⟨hb, hs⟩ := okS_cons.1 hs
      obtain ⟨ha, hq⟩ := okS_cons.1 hs
      exact ⟨okS_cons.2 ⟨⟨ha, hb⟩, hq⟩, by rw [postS_cons, postS_cons, postS_cons]; simp [CT.post], Or.inr (Or.inr (Or.inr (Or.inr ⟨rfl, rfl, a, b, q, rfl, rfl⟩)))⟩
   · rw [if_neg he] at h; cases h
 · rw [if_neg h4] at h; cases h
/-- What has been taken are the trees' nodes. -/
theorem CT.runs_some : ∀ (k : Nat) (l : List CN) (r : List CT), l.length = k → CT.runs [] l = some r → okS r ∧ l = postS r
 | 0, l, r, hk, h => by
  obtain rfl := List.eq_nil_of_length_eq_zero hk
  obtain rfl := Option.some.inj h
  exact ⟨fun t ht => (by cases ht), rfl⟩
 | k + 1, l, r, hk, h => by
  have hne : l ≠ [] := fun e => by rw [e] at hk; simp at hk
  have e := (List.dropLast_concat_getLast hne).symm
  rw [e, CT.runs_snoc] at h
  cases h1 : CT.runs [] l.dropLast with
  | none => rw [h1] at h; cases h
  | some s =>
   rw [h1] at h
   obtain ⟨g1, g2⟩ := CT.runs_some k l.dropLast s (by rw [List.length_dropLast]; omega) h1
   obtain ⟨g3, g4, _⟩ := CT.step_some h g1
   exact ⟨g3, by rw [g4, ← g2]; exact e⟩
/-- A list is one condition. -/
def CondOk (l : List CN) : Prop := l.length ≤ 30 ∧ ∃ t, CT.runs [] l = some [t]
noncomputable def condB (l : List CN) : Bool := @decide (CondOk l) (Classical.propDecidable _)
theorem condB_yes {l : List CN} (h : CondOk l) : condB l = true := @decide_eq_true _ (Classical.propDecidable _) h
theorem condB_no {l : List CN} (h : ¬CondOk l) : condB l = false := @decide_eq_false _ (Classical.propDecidable _) h
theorem condB_iff {l : List CN} : condB l = true ↔ CondOk l := by
 constructor
 · intro h
   by_cases hh : CondOk l
   · exact hh
   · rw [condB_no hh] at h; exact Bool.noConfusion h
 · exact condB_yes
theorem cond_tree {l : List CN} (h : CondOk l) : ∃ t : CT, t.ok ∧ l = t.post ∧ t.post.length ≤ 30 := by
 obtain ⟨h1, t, h2⟩ := h
 obtain ⟨g1, g2⟩ := CT.runs_some _ l [t] rfl h2
 have e : l = t.post := by rw [g2, postS_cons, postS_nil, List.nil_append]
 exact ⟨t, (okS_cons.1 g1).1, e, by rw [← e]; exact h1⟩
theorem cond_post {t : CT} (h : t.ok) (hl : t.post.length ≤ 30) : CondOk t.post := ⟨hl, t, CT.runs_post t [] h⟩
theorem post_inj {t u : CT} (ht : t.ok) (hu : u.ok) (h : t.post = u.post) : t = u := by
 have h1 := CT.runs_post t [] ht
 rw [h, CT.runs_post u [] hu] at h1
 exact (List.cons.inj (Option.some.inj h1)).1.symm
end Go.Proofs.YteadmanmhgdhoaaGreat
