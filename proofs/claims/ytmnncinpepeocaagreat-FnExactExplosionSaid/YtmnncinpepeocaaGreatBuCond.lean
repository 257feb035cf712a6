import Derived.Test.YtmnncinpepeocaaGreatBuRec
import Derived.Test.YtmnncinpepeocaaGreatBuCode
import Derived.Lib.Hide
import Derived.WalkKit
namespace Go.Proofs.YtmnncinpepeocaaGreat

abbrev eB : ByteArray := ByteArray.empty
/-- A condition. -/
inductive CT where
 | tt : CT
 | is (o v : ByteArray) : CT
 | no (t : CT) : CT
 | and (a b : CT) : CT
 | or (a b : CT) : CT
def CT.post : CT → List CN
 | .tt => [⟨0, eB, eB⟩]
 | .is o v => [⟨1, o, v⟩]
 | .no t => t.post ++ [⟨2, eB, eB⟩]
 | .and a b => (a.post ++ b.post) ++ [⟨3, eB, eB⟩]
 | .or a b => (a.post ++ b.post) ++ [⟨4, eB, eB⟩]
/-- Its names are codes. -/
def CT.ok : CT → Prop
 | .tt => True
 | .is o v => isCode.codeB o = true ∧ isCode.codeB v = true
 | .no t => t.ok
 | .and a b => a.ok ∧ b.ok
 | .or a b => a.ok ∧ b.ok
theorem CT.post_pos (t : CT) : 0 < t.post.length := by cases t <;> simp [CT.post] <;> omega
/-- A node taken: the trees so far, the last first. -/
noncomputable def CT.step (x : CN) (s : List CT) : Option (List CT) :=
 if x.kind = 0 then (if x.opt = eB ∧ x.vl = eB then some (.tt :: s) else none)
 else if x.kind = 1 then (if isCode.codeB x.opt = true ∧ isCode.codeB x.vl = true then some (.is x.opt x.vl :: s) else none)
 else if x.kind = 2 then (if x.opt = eB ∧ x.vl = eB then (match s with | a :: r => some (.no a :: r) | [] => none) else none)
 else if x.kind = 3 then (if x.opt = eB ∧ x.vl = eB then (match s with | b :: a :: r => some (.and a b :: r) | _ => none) else none)
 else if x.kind = 4 then (if x.opt = eB ∧ x.vl = eB then (match s with | b :: a :: r => some (.or a b :: r) | _ => none) else none)
 else none
noncomputable def CT.runs (s : List CT) (l : List CN) : Option (List CT) := l.foldl (fun s x => s.bind (CT.step x)) (some s)
theorem CT.runs_nil (s : List CT) : CT.runs s [] = some s := rfl
theorem foldl_none (l : List CN) : l.foldl (fun s x => s.bind (CT.step x)) (none : Option (List CT)) = none := by
 induction l with
 | nil => rfl
 | cons x l ih => exact ih
theorem CT.runs_append (s : List CT) (l m : List CN) : CT.runs s (l ++ m) = (CT.runs s l).bind (fun r => CT.runs r m) := by
 unfold CT.runs
 rw [List.foldl_append]
 cases l.foldl (fun s x => s.bind (CT.step x)) (some s) with
 | none => exact foldl_none m
 | some r => rfl
theorem CT.runs_snoc (s : List CT) (l : List CN) (x : CN) : CT.runs s (l ++ [x]) = (CT.runs s l).bind (CT.step x) := by
 rw [CT.runs_append]; rfl
theorem CT.runs_take {s : List CT} {l : List CN} {k : Nat} (hk : k < l.length) : CT.runs s (l.take (k + 1)) = (CT.runs s (l.take k)).bind (CT.step (l[k]'hk)) := by
 rw [List.take_succ_eq_append_getElem hk, CT.runs_snoc]
/-- A beginning that can't be taken spoils all. -/
theorem CT.runs_bad {s : List CT} {l : List CN} {k : Nat} (h : CT.runs s (l.take k) = none) : CT.runs s l = none := by
 have : l = l.take k ++ l.drop k := (List.take_append_drop k l).symm
 rw [this, CT.runs_append, h]
 rfl
/-- A tree's nodes are taken as the tree. -/
theorem CT.runs_post : ∀ (t : CT) (s : List CT), t.ok → CT.runs s t.post = some (t :: s)
 | .tt, s, _ => rfl
 | .is o v, s, h => by
  show CT.step ⟨1, o, v⟩ s = _
  unfold CT.step
  rw [if_neg (show ¬(1 : Int) = 0 by decide), if_pos rfl]
  exact if_pos h
 | .no t, s, h => by
  show CT.runs s (t.post ++ [_]) = _
  rw [CT.runs_snoc, CT.runs_post t s h]
  show CT.step ⟨2, eB, eB⟩ (t :: s) = _
  unfold CT.step
  rw [if_neg (by decide), if_neg (by decide), if_pos rfl, if_pos ⟨rfl, rfl⟩]
 | .and a b, s, h => by
  show CT.runs s ((a.post ++ b.post) ++ [_]) = _
  rw [CT.runs_snoc, CT.runs_append, CT.runs_post a s h.1]
  show (CT.runs (a :: s) b.post).bind _ = _
  rw [CT.runs_post b (a :: s) h.2]
  show CT.step ⟨3, eB, eB⟩ (b :: a :: s) = _
  unfold CT.step
  rw [if_neg (by decide), if_neg (by decide), if_neg (by decide), if_pos rfl, if_pos ⟨rfl, rfl⟩]
 | .or a b, s, h => by
  show CT.runs s ((a.post ++ b.post) ++ [_]) = _
  rw [CT.runs_snoc, CT.runs_append, CT.runs_post a s h.1]
  show (CT.runs (a :: s) b.post).bind _ = _
  rw [CT.runs_post b (a :: s) h.2]
  show CT.step ⟨4, eB, eB⟩ (b :: a :: s) = _
  unfold CT.step
  rw [if_neg (by decide), if_neg (by decide), if_neg (by decide), if_neg (by decide), if_pos rfl, if_pos ⟨rfl, rfl⟩]
/-- The nodes of trees, the last first. -/
def postS (s : List CT) : List CN := (s.reverse.map CT.post).flatten
theorem postS_nil : postS [] = [] := rfl
theorem postS_cons (t : CT) (s : List CT) : postS (t :: s) = postS s ++ t.post := by simp [postS]
def okS (s : List CT) : Prop := ∀ t, t ∈ s → t.ok
theorem okS_cons {t : CT} {s : List CT} : okS (t :: s) ↔ t.ok ∧ okS s := by unfold okS; simp
/-- What a step does. -/
theorem CT.step_some {x : CN} {s r : List CT} (h : CT.step x s = some r) (hs : okS s) : okS r ∧ postS r = postS s ++ [x] ∧
 ((x.kind = 0 ∧ x = ⟨0, eB, eB⟩ ∧ r = .tt :: s) ∨ (x.kind = 1 ∧ (isCode.codeB x.opt = true ∧ isCode.codeB x.vl = true) ∧ r = .is x.opt x.vl :: s) ∨ (x.kind = 2 ∧ x = ⟨2, eB, eB⟩ ∧ ∃ a q, s = a :: q ∧ r = .no a :: q) ∨
  (x.kind = 3 ∧ x = ⟨3, eB, eB⟩ ∧ ∃ a b q, s = b :: a :: q ∧ r = .and a b :: q) ∨ (x.kind = 4 ∧ x = ⟨4, eB, eB⟩ ∧ ∃ a b q, s = b :: a :: q ∧ r = .or a b :: q)) := by
 obtain ⟨kind, opt, vl⟩ := x
 unfold CT.step at h
 simp only at h ⊢
 by_cases h0 : kind = 0
 · subst h0
   rw [if_pos rfl] at h
   by_cases he : opt = eB ∧ vl = eB
   · rw [if_pos he] at h
     obtain ⟨rfl, rfl⟩ := he
     obtain rfl := Option.some.inj h
     exact ⟨okS_cons.2 ⟨trivial, hs⟩, by rw [postS_cons]; rfl, Or.inl ⟨rfl, rfl, rfl⟩⟩
   · rw [if_neg he] at h; cases h
 rw [if_neg h0] at h
 by_cases h1 : kind = 1
 · subst h1
   rw [if_pos rfl] at h
   by_cases he : isCode.codeB opt = true ∧ isCode.codeB vl = true
   · rw [if_pos he] at h
     obtain rfl := Option.some.inj h
     exact ⟨okS_cons.2 ⟨he, hs⟩, by rw [postS_cons]; rfl, Or.inr (Or.inl ⟨rfl, he, rfl⟩)⟩
   · rw [if_neg he] at h; cases h
 rw [if_neg h1] at h
 by_cases h2 : kind = 2
 · subst h2
   rw [if_pos rfl] at h
   by_cases he : opt = eB ∧ vl = eB
   · rw [if_pos he] at h
     obtain ⟨rfl, rfl⟩ := he
     match s, hs, h with
     | a :: q, hs, h =>
      obtain rfl := Option.some.inj h
      obtain ⟨ha, hq⟩ := okS_cons.1 hs
      exact ⟨okS_cons.2 ⟨ha, hq⟩, by rw [postS_cons, postS_cons]; simp [CT.post], Or.inr (Or.inr (Or.inl ⟨rfl, rfl, a, q, rfl, rfl⟩))⟩
   · rw [if_neg he] at h; cases h
 rw [if_neg h2] at h
 by_cases h3 : kind = 3
 · subst h3
   rw [if_pos rfl] at h
   by_cases he : opt = eB ∧ vl = eB
   · rw [if_pos he] at h
     obtain ⟨rfl, rfl⟩ := he
     match s, hs, h with
     | b :: a :: q, hs, h =>
      obtain rfl := Option.some.inj h
      obtain ⟨hb, hs⟩ := okS_cons.1 hs
      obtain ⟨ha, hq⟩ := okS_cons.1 hs
      exact ⟨okS_cons.2 ⟨⟨ha, hb⟩, hq⟩, by rw [postS_cons, postS_cons, postS_cons]; simp [CT.post], Or.inr (Or.inr (Or.inr (Or.inl ⟨rfl, rfl, a, b, q, rfl, rfl⟩)))⟩
   · rw [if_neg he] at h; cases h
 rw [if_neg h3] at h
 by_cases h4 : kind = 4
 · subst h4
   rw [if_pos rfl] at h
   by_cases he : opt = eB ∧ vl = eB
   · rw [if_pos he] at h
     obtain ⟨rfl, rfl⟩ := he
     match s, hs, h with
     | b :: a :: q, hs, h =>
      obtain rfl := Option.some.inj h
      obtain ⟨hb, hs⟩ := okS_cons.1 hs
      obtain ⟨ha, hq⟩ := okS_cons.1 hs
      exact ⟨okS_cons.2 ⟨⟨ha, hb⟩, hq⟩, by rw [postS_cons, postS_cons, postS_cons]; simp [CT.post], Or.inr (Or.inr (Or.inr (Or.inr ⟨rfl, rfl, a, b, q, rfl, rfl⟩)))⟩
   · rw [if_neg he] at h; cases h
 · rw [if_neg h4] at h; cases h
/-- What has been taken are the trees' nodes. -/
theorem CT.runs_some : ∀ (k : Nat) (l : List CN) (r : List CT), l.length = k → CT.runs [] l = some r → okS r ∧ l = postS r
 | 0, l, r, hk, h => by
  obtain rfl := List.eq_nil_of_length_eq_zero hk
  obtain rfl := Option.some.inj h
  exact ⟨fun t ht => (by cases ht), rfl⟩
 | k + 1, l, r, hk, h => by
  have hne : l ≠ [] := fun e => by rw [e] at hk; simp at hk
  have e := (List.dropLast_concat_getLast hne).symm
  rw [e, CT.runs_snoc] at h
  cases h1 : CT.runs [] l.dropLast with
  | none => rw [h1] at h; cases h
  | some s =>
   rw [h1] at h
   obtain ⟨g1, g2⟩ := CT.runs_some k l.dropLast s (by rw [List.length_dropLast]; omega) h1
   obtain ⟨g3, g4, _⟩ := CT.step_some h g1
   exact ⟨g3, by rw [g4, ← g2]; exact e⟩
/-- A list is one condition. -/
def CondOk (l : List CN) : Prop := l.length ≤ 30 ∧ ∃ t, CT.runs [] l = some [t]
noncomputable def condB (l : List CN) : Bool := @decide (CondOk l) (Classical.propDecidable _)
theorem condB_yes {l : List CN} (h : CondOk l) : condB l = true := @decide_eq_true _ (Classical.propDecidable _) h
theorem condB_no {l : List CN} (h : ¬CondOk l) : condB l = false := @decide_eq_false _ (Classical.propDecidable _) h
theorem condB_iff {l : List CN} : condB l = true ↔ CondOk l := by
 constructor
 · intro h
   by_cases hh : CondOk l
   · exact hh
   · rw [condB_no hh] at h; exact Bool.noConfusion h
 · exact condB_yes
theorem cond_tree {l : List CN} (h : CondOk l) : ∃ t : CT, t.ok ∧ l = t.post ∧ t.post.length ≤ 30 := by
 obtain ⟨h1, t, h2⟩ := h
 obtain ⟨g1, g2⟩ := CT.runs_some _ l [t] rfl h2
 have e : l = t.post := by rw [g2, postS_cons, postS_nil, List.nil_append]
 exact ⟨t, (okS_cons.1 g1).1, e, by rw [← e]; exact h1⟩
theorem cond_post {t : CT} (h : t.ok) (hl : t.post.length ≤ 30) : CondOk t.post := ⟨hl, t, CT.runs_post t [] h⟩
theorem post_inj {t u : CT} (ht : t.ok) (hu : u.ok) (h : t.post = u.post) : t = u := by
 have h1 := CT.runs_post t [] ht
 rw [h, CT.runs_post u [] hu] at h1
 exact (List.cons.inj (Option.some.inj h1)).1.symm
end Go.Proofs.YtmnncinpepeocaaGreat

namespace Go.Proofs.YtmnncinpepeocaaGreat

/-- The last node. -/
def CT.top : CT → CN
 | .tt => ⟨0, eB, eB⟩
 | .is o v => ⟨1, o, v⟩
 | .no _ => ⟨2, eB, eB⟩
 | .and _ _ => ⟨3, eB, eB⟩
 | .or _ _ => ⟨4, eB, eB⟩
/-- The operands, the last first. -/
def CT.kids : CT → List CT
 | .tt => []
 | .is _ _ => []
 | .no t => [t]
 | .and a b => [b, a]
 | .or a b => [b, a]
theorem top_post (t : CT) (q : List CT) : postS (t :: q) = postS (t.kids ++ q) ++ [t.top] := by
 cases t <;> simp [postS, CT.kids, CT.top, CT.post]
theorem postS_app (r q : List CT) : postS (r ++ q) = postS q ++ postS r := by simp [postS]
theorem postS_len : ∀ (s : List CT), s.length ≤ (postS s).length
 | [] => Nat.le_refl _
 | t :: s => by
  have h1 := postS_len s
  have h2 := CT.post_pos t
  rw [postS_cons, List.length_append, List.length_cons]
  omega
/-- A list cut behind its m-th node. -/
theorem take_last {l A : List CN} {x : CN} {m : Nat} (hm : m ≤ l.length) (h : l.take m = A ++ [x]) : ∃ hk : A.length < l.length, m = A.length + 1 ∧ l[A.length]'hk = x ∧ l.take A.length = A := by
 have hl := congrArg List.length h
 rw [List.length_take, List.length_append, List.length_singleton, Nat.min_eq_left hm] at hl
 have hk : A.length < l.length := by omega
 refine ⟨hk, hl, ?_, ?_⟩
 · have h1 : (l.take m)[A.length]? = some x := by rw [h]; simp
   rw [List.getElem?_take_of_lt (by omega), List.getElem?_eq_getElem hk] at h1
   exact Option.some.inj h1
 · have h2 := congrArg (List.take A.length) h
   rw [List.take_take, Nat.min_eq_left (by omega)] at h2
   rw [h2]
   simp

abbrev tTrue : ByteArray := ⟨#[84, 82, 85, 69]⟩
abbrev tEq : ByteArray := ⟨#[61]⟩
abbrev tNot : ByteArray := ⟨#[33]⟩
abbrev tAnd : ByteArray := ⟨#[32, 38, 32]⟩
abbrev tOr : ByteArray := ⟨#[32, 124, 32]⟩
abbrev tOpen : ByteArray := ⟨#[40]⟩
abbrev tShut : ByteArray := ⟨#[41]⟩
/-- How tightly an operator binds. -/
def CT.level : CT → Nat
 | .or _ _ => 1
 | .and _ _ => 2
 | _ => 3
def par (lv least : Nat) (s : ByteArray) : ByteArray := if lv < least then (tOpen ++ s) ++ tShut else s
/-- The text of a condition as an operand. -/
def CT.fmt : CT → Nat → ByteArray
 | .tt, k => par 3 k tTrue
 | .is o v, k => par 3 k ((o ++ tEq) ++ v)
 | .no t, k => par 3 k (tNot ++ t.fmt 3)
 | .and a b, k => par 2 k ((a.fmt 2 ++ tAnd) ++ b.fmt 3)
 | .or a b, k => par 1 k ((a.fmt 1 ++ tOr) ++ b.fmt 2)
theorem cat_size (a b : ByteArray) : (a ++ b).size = a.size + b.size := ByteArray.size_append
theorem par_size (lv least : Nat) (s : ByteArray) : (par lv least s).size ≤ s.size + 2 := by
 unfold par
 split
 · rw [cat_size, cat_size]; show 1 + s.size + 1 ≤ _; omega
 · omega
theorem code_size {s : ByteArray} (h : isCode.codeB s = true) : s.size ≤ 8 := by
 by_cases hl : 1 ≤ s.size ∧ s.size ≤ 8
 · exact hl.2
 · rw [isCode.codeB_len hl] at h; cases h
theorem fmt_size : ∀ (t : CT) (k : Nat), t.ok → (t.fmt k).size ≤ 24 * t.post.length
 | .tt, k, _ => Nat.le_trans (par_size _ _ _) (by decide)
 | .is o v, k, h => by
  have h1 := code_size h.1
  have h2 := code_size h.2
  refine Nat.le_trans (par_size _ _ _) ?_
  rw [cat_size, cat_size]
  show o.size + 1 + v.size + 2 ≤ 24 * 1
  omega
 | .no t, k, h => by
  have h1 := fmt_size t 3 h
  refine Nat.le_trans (par_size _ _ _) ?_
  rw [cat_size]
  show 1 + (t.fmt 3).size + 2 ≤ 24 * (t.post ++ [_]).length
  rw [List.length_append, List.length_singleton]
  omega
 | .and a b, k, h => by
  have h1 := fmt_size a 2 h.1
  have h2 := fmt_size b 3 h.2
  refine Nat.le_trans (par_size _ _ _) ?_
  rw [cat_size, cat_size]
  show (a.fmt 2).size + 3 + (b.fmt 3).size + 2 ≤ 24 * ((a.post ++ b.post) ++ [_]).length
  rw [List.length_append, List.length_append, List.length_singleton]
  omega
 | .or a b, k, h => by
  have h1 := fmt_size a 1 h.1
  have h2 := fmt_size b 2 h.2
  refine Nat.le_trans (par_size _ _ _) ?_
  rw [cat_size, cat_size]
  show (a.fmt 1).size + 3 + (b.fmt 2).size + 2 ≤ 24 * ((a.post ++ b.post) ++ [_]).length
  rw [List.length_append, List.length_append, List.length_singleton]
  omega

/-- The opposite, or the same, with negations before options and TRUE only. -/
def CT.neg : CT → Bool → CT
 | .tt, z => if z then .no .tt else .tt
 | .is o v, z => if z then .no (.is o v) else .is o v
 | .no t, z => t.neg (!z)
 | .and a b, z => if z then .or (a.neg z) (b.neg z) else .and (a.neg z) (b.neg z)
 | .or a b, z => if z then .and (a.neg z) (b.neg z) else .or (a.neg z) (b.neg z)
theorem neg_ok : ∀ (t : CT) (z : Bool), t.ok → (t.neg z).ok
 | .tt, z, _ => by cases z <;> trivial
 | .is o v, z, h => by cases z <;> exact h
 | .no t, z, h => neg_ok t (!z) h
 | .and a b, z, h => by cases z <;> exact ⟨neg_ok a _ h.1, neg_ok b _ h.2⟩
 | .or a b, z, h => by cases z <;> exact ⟨neg_ok a _ h.1, neg_ok b _ h.2⟩
theorem neg_len : ∀ (t : CT) (z : Bool), (t.neg z).post.length ≤ 2 * t.post.length
 | .tt, z => by cases z <;> decide
 | .is o v, z => by cases z <;> simp [CT.neg, CT.post]
 | .no t, z => by
  have := neg_len t (!z)
  show (t.neg (!z)).post.length ≤ 2 * (t.post ++ [_]).length
  rw [List.length_append, List.length_singleton]
  omega
 | .and a b, z => by
  have h1 := neg_len a z
  have h2 := neg_len b z
  cases z <;> simp [CT.neg, CT.post] <;> omega
 | .or a b, z => by
  have h1 := neg_len a z
  have h2 := neg_len b z
  cases z <;> simp [CT.neg, CT.post] <;> omega
end Go.Proofs.YtmnncinpepeocaaGreat

namespace Go.Proofs.YtmnncinpepeocaaGreat
open Go.RowKit

/-- Some pick has this option and value. -/
def hasP (ps : List PK) (o v : ByteArray) : Bool := ps.any (fun p => decide (p.opt = o ∧ p.vl = v))
theorem hasP_to {ps : List PK} {o v : ByteArray} (h : ∀ p, p ∈ ps → ¬(p.opt = o ∧ p.vl = v)) : hasP ps o v = false := by
 unfold hasP
 rw [List.any_eq_false]
 intro p hp
 simp only [decide_eq_true_eq]
 exact h p hp
theorem hasP_in {ps : List PK} {o v : ByteArray} {p : PK} (hp : p ∈ ps) (h : p.opt = o ∧ p.vl = v) : hasP ps o v = true := by
 unfold hasP
 rw [List.any_eq_true]
 exact ⟨p, hp, decide_eq_true h⟩

/-- Whether a condition holds of a choice. -/
def CT.ev (ps : List PK) : CT → Bool
 | .tt => true
 | .is o v => hasP ps o v
 | .no t => !t.ev ps
 | .and a b => a.ev ps && b.ev ps
 | .or a b => a.ev ps || b.ev ps
def evS (ps : List PK) (s : List CT) : List Value := (s.reverse.map (CT.ev ps)).map Value.bool
theorem evS_cons (ps : List PK) (t : CT) (s : List CT) : evS ps (t :: s) = evS ps s ++ [.bool (t.ev ps)] := by simp [evS]
theorem evS_length (ps : List PK) (s : List CT) : (evS ps s).length = s.length := by simp [evS]
/-- Whether a list is a condition that holds of a choice. -/
noncomputable def holdsB (l : List CN) (ps : List PK) : Bool :=
 match CT.runs [] l with
 | some [t] => condB l && t.ev ps
 | _ => false
theorem holdsB_no {l : List CN} {ps : List PK} (h : condB l = false) : holdsB l ps = false := by
 unfold holdsB
 split
 · rw [h]; rfl
 · rfl
theorem holdsB_yes {t : CT} (ps : List PK) (h : t.ok) (hl : t.post.length ≤ 30) : holdsB t.post ps = t.ev ps := by
 unfold holdsB
 rw [CT.runs_post t [] h]
 simp only
 rw [condB_yes (cond_post h hl)]
 rfl
end Go.Proofs.YtmnncinpepeocaaGreat
