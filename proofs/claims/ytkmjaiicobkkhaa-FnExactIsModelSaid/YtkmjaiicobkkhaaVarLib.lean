/-
  Models of variants, purely: when one is a model, when picks fit it. No program is named here.
-/
import Derived.Test.YtkmjaiicobkkhaaOPN
import Derived.Test.YtkmjaiicobkkhaaRXN
import Derived.Test.YtkmjaiicobkkhaaMDN
import Derived.Test.YtkmjaiicobkkhaaCondLib
import Derived.Test.YtkmjaiicobkkhaaFind
import Derived.Test.YtkmjaiicobkkhaaIsCodeLib
namespace Go.Proofs.Ytkmjaiicobkkhaa
open Go.RowKit

/-- The first k texts are codes, no two of them alike. -/
def CodesTo (l : List ByteArray) (k : Nat) : Prop := ∀ j (hj : j < l.length), j < k → isCode.codeB (l[j]'hj) = true ∧ ∀ i (hi : i < j), (l[i]'(Nat.lt_trans hi hj)) ≠ (l[j]'hj)
theorem CodesTo.zero (l : List ByteArray) : CodesTo l 0 := fun j _ h => by omega
theorem CodesTo.succ {l : List ByteArray} {k : Nat} (h : CodesTo l k) (hk : k < l.length) (h1 : isCode.codeB (l[k]'hk) = true) (h2 : ∀ i (hi : i < k), (l[i]'(Nat.lt_trans hi hk)) ≠ (l[k]'hk)) : CodesTo l (k + 1) := fun j hj hjk => by
  by_cases e : j = k
  · subst e; exact ⟨h1, h2⟩
  · exact h j hj (by omega)
/-- All are codes, no two alike. -/
def CodesOk (l : List ByteArray) : Prop := CodesTo l l.length
noncomputable def codesB (l : List ByteArray) : Bool := @decide (CodesOk l) (Classical.propDecidable _)
theorem codesB_yes {l : List ByteArray} (h : CodesOk l) : codesB l = true := @decide_eq_true _ (Classical.propDecidable _) h
theorem codesB_no {l : List ByteArray} (h : ¬CodesOk l) : codesB l = false := @decide_eq_false _ (Classical.propDecidable _) h
theorem codesB_iff {l : List ByteArray} : codesB l = true ↔ CodesOk l := by
  constructor
  · exact @of_decide_eq_true _ (Classical.propDecidable _)
  · exact codesB_yes
theorem codesB_bad {l : List ByteArray} (h : codesB l = false) : ¬CodesOk l := fun h' => by rw [codesB_yes h'] at h; cases h
/-- An option as it should be. -/
def OpOk (o : OP) : Prop := 1 ≤ o.vals.length ∧ o.vals.length ≤ 4 ∧ CodesOk o.vals
noncomputable def namesOf (m : MD) : List ByteArray := m.opts.map OP.name
/-- A model as it should be. -/
def MdOk (m : MD) : Prop := m.opts.length ≤ 4 ∧ m.rules.length ≤ 6 ∧ (∀ o, o ∈ m.opts → OpOk o) ∧ CodesOk (namesOf m) ∧ ∀ r, r ∈ m.rules → condB r = true
noncomputable def modelB (m : MD) : Bool := @decide (MdOk m) (Classical.propDecidable _)
theorem modelB_yes {m : MD} (h : MdOk m) : modelB m = true := @decide_eq_true _ (Classical.propDecidable _) h
theorem modelB_no {m : MD} (h : ¬MdOk m) : modelB m = false := @decide_eq_false _ (Classical.propDecidable _) h
theorem modelB_iff {m : MD} : modelB m = true ↔ MdOk m := by
  constructor
  · exact @of_decide_eq_true _ (Classical.propDecidable _)
  · exact modelB_yes
theorem namesOf_length (m : MD) : (namesOf m).length = m.opts.length := by simp [namesOf]
theorem namesOf_at (m : MD) (k : Nat) (hk : k < m.opts.length) : (namesOf m)[k]'(by rw [namesOf_length]; exact hk) = (m.opts[k]'hk).name := by simp [namesOf]
/-- Where a text is first found in texts: at its own place, if no earlier one is like it. -/
theorem fnd_self {l : List ByteArray} {k : Nat} (hk : k < l.length) (h : ∀ i (hi : i < k), (l[i]'(Nat.lt_trans hi hk)) ≠ (l[k]'hk)) : fndI l (l[k]'hk) = k := fnd_at hk rfl h
theorem fnd_dup {l : List ByteArray} {k i : Nat} (hk : k < l.length) (hi : i < k) (h : (l[i]'(Nat.lt_trans hi hk)) = (l[k]'hk)) : fndI l (l[k]'hk) ≠ (k : Int) := by
  rcases fnd_cases l (l[k]'hk) with ⟨q, hq, h1, h2, h3⟩ | ⟨_, h2⟩
  · rw [h2]
    intro e
    have : q = k := by omega
    subst this
    exact h3 i hi h
  · exact absurd (List.getElem_mem hk) h2
/-- The values of an option; none if the model does not have it. -/
noncomputable def optOf (m : MD) (s : ByteArray) : Option OP := m.opts.find? (fun o => @decide (o.name = s) (Classical.propDecidable _))
noncomputable def valsFor (m : MD) (s : ByteArray) : List ByteArray := match optOf m s with
  | some o => o.vals
  | none => []
theorem optOf_at {m : MD} {s : ByteArray} {k : Nat} (hk : k < m.opts.length) (h : (m.opts[k]'hk).name = s) (hb : ∀ j (hj : j < k), (m.opts[j]'(Nat.lt_trans hj hk)).name ≠ s) : optOf m s = some (m.opts[k]'hk) := by
  unfold optOf
  rw [List.find?_eq_some_iff_getElem]
  exact ⟨@decide_eq_true _ (Classical.propDecidable _) h, k, hk, rfl, fun j hj => by
    have := @decide_eq_false _ (Classical.propDecidable _) (hb j hj)
    simp [this]⟩
theorem optOf_none {m : MD} {s : ByteArray} (hb : ∀ j (hj : j < m.opts.length), (m.opts[j]'hj).name ≠ s) : optOf m s = none := by
  unfold optOf
  rw [List.find?_eq_none]
  intro o ho
  obtain ⟨j, hj, rfl⟩ := List.getElem_of_mem ho
  have := @decide_eq_false _ (Classical.propDecidable _) (hb j hj)
  simp [this]
theorem valsFor_at {m : MD} {s : ByteArray} {k : Nat} (hk : k < m.opts.length) (h : (m.opts[k]'hk).name = s) (hb : ∀ j (hj : j < k), (m.opts[j]'(Nat.lt_trans hj hk)).name ≠ s) : valsFor m s = (m.opts[k]'hk).vals := by
  unfold valsFor
  rw [optOf_at hk h hb]
theorem valsFor_none {m : MD} {s : ByteArray} (hb : ∀ j (hj : j < m.opts.length), (m.opts[j]'hj).name ≠ s) : valsFor m s = [] := by
  unfold valsFor
  rw [optOf_none hb]
/-- The first k picks are of different options, with values of theirs. -/
def PicksTo (m : MD) (ps : List PK) (k : Nat) : Prop := ∀ j (hj : j < ps.length), j < k → (ps[j]'hj).vl ∈ valsFor m (ps[j]'hj).opt ∧ ∀ i (hi : i < j), (ps[i]'(Nat.lt_trans hi hj)).opt ≠ (ps[j]'hj).opt
theorem PicksTo.zero (m : MD) (l : List PK) : PicksTo m l 0 := fun j _ h => by omega
theorem PicksTo.succ {m : MD} {l : List PK} {k : Nat} (h : PicksTo m l k) (hk : k < l.length) (h1 : (l[k]'hk).vl ∈ valsFor m (l[k]'hk).opt) (h2 : ∀ i (hi : i < k), (l[i]'(Nat.lt_trans hi hk)).opt ≠ (l[k]'hk).opt) : PicksTo m l (k + 1) := fun j hj hjk => by
  by_cases e : j = k
  · subst e; exact ⟨h1, h2⟩
  · exact h j hj (by omega)
def PartOk (m : MD) (ps : List PK) : Prop := MdOk m ∧ PicksTo m ps ps.length
noncomputable def partB (m : MD) (ps : List PK) : Bool := @decide (PartOk m ps) (Classical.propDecidable _)
theorem partB_yes {m : MD} {ps : List PK} (h : PartOk m ps) : partB m ps = true := @decide_eq_true _ (Classical.propDecidable _) h
theorem partB_no {m : MD} {ps : List PK} (h : ¬PartOk m ps) : partB m ps = false := @decide_eq_false _ (Classical.propDecidable _) h
theorem partB_iff {m : MD} {ps : List PK} : partB m ps = true ↔ PartOk m ps := by
  constructor
  · exact @of_decide_eq_true _ (Classical.propDecidable _)
  · exact partB_yes
end Go.Proofs.Ytkmjaiicobkkhaa
