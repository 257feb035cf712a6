/-
  Units: what a table is, as the model checks it. No program is named here.
-/
import Derived.Test.YtaomjggamamckaaReachLib
import Derived.Test.YtaomjggamamckaaRuleOk
import Derived.Test.YtaomjggamamckaaFind
import Derived.Lib.Hide
namespace Go.Proofs.Ytaomjggamamckaa

/-- The factor at a place. -/
def facI (ps : List UF) (a : Int) : Int × Int := ((facsOf ps)[a.toNat]?).getD (0, 0)
/-- A rule agrees with what has been reached. -/
def RuleH (ps : List UF) (r : UR) : Prop :=
  (fndI (namesOf ps) r.src < 0 ∧ fndI (namesOf ps) r.dst < 0) ∨
  (0 ≤ fndI (namesOf ps) r.src ∧ 0 ≤ fndI (namesOf ps) r.dst ∧ rat.mulR (facI ps (fndI (namesOf ps) r.src)).1 (facI ps (fndI (namesOf ps) r.src)).2 r.num r.den = facI ps (fndI (namesOf ps) r.dst))
instance (ps : List UF) (r : UR) : Decidable (RuleH ps r) := by unfold RuleH; infer_instance
/-- The unit from which a check starts. -/
def startU (rs : List UR) (i : Nat) : ByteArray := if i % 2 = 1 then (rs.getD (i / 2) default).dst else (rs.getD (i / 2) default).src
/-- A table of units. -/
def IsTab (rs : List UR) : Prop := rs.length ≤ 12 ∧ (∀ r, r ∈ rs → ruleOk r = true) ∧ ∀ i, i < 2 * rs.length → ∀ r, r ∈ rs → RuleH (reachU rs (startU rs i)) r
noncomputable def tabB (rs : List UR) : Bool := @decide (IsTab rs) (Classical.propDecidable _)
theorem tabB_yes {rs : List UR} (h : IsTab rs) : tabB rs = true := @decide_eq_true _ (Classical.propDecidable _) h
theorem tabB_no {rs : List UR} (h : ¬IsTab rs) : tabB rs = false := @decide_eq_false _ (Classical.propDecidable _) h
theorem tabB_iff {rs : List UR} : tabB rs = true ↔ IsTab rs := by
  constructor
  · intro h
    by_cases hh : IsTab rs
    · exact hh
    · rw [tabB_no hh] at h; exact Bool.noConfusion h
  · exact tabB_yes
theorem start_odd {rs : List UR} {i : Nat} (h : i % 2 = 1) (hk : i / 2 < rs.length) : startU rs i = (rs[i / 2]'hk).dst := by unfold startU; rw [if_pos h]; simp [List.getD, hk]
theorem start_even {rs : List UR} {i : Nat} (h : ¬i % 2 = 1) (hk : i / 2 < rs.length) : startU rs i = (rs[i / 2]'hk).src := by unfold startU; rw [if_neg h]; simp [List.getD, hk]
theorem facI_at {ps : List UF} {k : Nat} (hk : k < ps.length) : facI ps (k : Int) = (ps[k]'hk).2 := by
  unfold facI facsOf
  rw [Int.toNat_natCast, List.getElem?_map, List.getElem?_eq_getElem hk]
  rfl
theorem ruleH_none {ps : List UF} {r : UR} (h1 : fndI (namesOf ps) r.src < 0) (h2 : fndI (namesOf ps) r.dst < 0) : RuleH ps r := Or.inl ⟨h1, h2⟩
theorem ruleH_one {ps : List UF} {r : UR} (h : (fndI (namesOf ps) r.src < 0 ∧ ¬fndI (namesOf ps) r.dst < 0) ∨ (¬fndI (namesOf ps) r.src < 0 ∧ fndI (namesOf ps) r.dst < 0)) : ¬RuleH ps r := by
  rintro (⟨a, b⟩ | ⟨a, b, _⟩) <;> rcases h with ⟨c, d⟩ | ⟨c, d⟩
  · exact d b
  · exact c a
  · omega
  · omega
theorem ruleH_both {ps : List UF} {r : UR} {ka kb : Nat} (hA : ¬fndI (namesOf ps) r.src < 0) (hB : ¬fndI (namesOf ps) r.dst < 0) (ha : fndI (namesOf ps) r.src = ka) (hb : fndI (namesOf ps) r.dst = kb) :
    decide (RuleH ps r) = decide (rat.mulR (facI ps ka).1 (facI ps ka).2 r.num r.den = facI ps kb) := by
  rw [decide_eq_decide]
  unfold RuleH
  rw [ha, hb]
  constructor
  · rintro (⟨h, _⟩ | ⟨_, _, h⟩)
    · omega
    · exact h
  · intro h
    exact Or.inr ⟨by omega, by omega, h⟩
theorem facI_get {ps : List UF} {k : Nat} (hk : k < (facsOf ps).length) : (facsOf ps)[k]'hk = facI ps (k : Int) := by
  unfold facI
  rw [Int.toNat_natCast, List.getElem?_eq_getElem hk]
  rfl
end Go.Proofs.Ytaomjggamamckaa
