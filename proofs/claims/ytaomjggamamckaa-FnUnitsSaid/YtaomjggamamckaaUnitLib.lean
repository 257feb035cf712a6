/-
  Units: what the functions on them answer, as the model. No program is named here.
-/
import Derived.Test.YtaomjggamamckaaTabLib
import Derived.Test.YtaomjggamamckaaRatM
import Derived.Lib.Hide
namespace Go.Proofs.Ytaomjggamamckaa

/-- A factor that is a ratio above 0. -/
def PosR (f : Int × Int) : Prop := rat.okB f.1 f.2 = true ∧ 0 < f.1
theorem posR_one : PosR (1, 1) := ⟨by decide, by decide⟩
theorem ruleOk_pos {r : UR} (h : ruleOk r = true) : PosR (r.num, r.den) := by
  unfold ruleOk at h
  simp only [Bool.and_eq_true, decide_eq_true_eq] at h
  exact ⟨h.2.2.2.1, by omega⟩
theorem mk_pos {n d : Int} (hn : 0 < n) (hd : 0 < d) (h : 0 < (rat.mkR n d).2) : PosR (rat.mkR n d) := by
  rcases rat.mkR_cases n d with e | ⟨x, y, e, hk, hxy⟩
  · rw [e] at h; exact absurd h (by decide)
  · rw [e]
    refine ⟨hk, ?_⟩
    have hy := (rat.okB_true hk).1.1
    show 0 < x
    have h1 : 0 < n * y := Int.mul_pos hn (by omega)
    rw [← hxy] at h1
    rw [Int.mul_comm] at h1
    exact Int.pos_of_mul_pos_right h1 hd
theorem mul_pos5 {a b : Int × Int} (ha : PosR a) (hb : PosR b) (h : 0 < (rat.mulR a.1 a.2 b.1 b.2).2) : PosR (rat.mulR a.1 a.2 b.1 b.2) := by
  rw [rat.mulR_yes ha.1 hb.1] at h ⊢
  have h1 := (rat.okB_true ha.1).1.1
  have h2 := (rat.okB_true hb.1).1.1
  exact mk_pos (Int.mul_pos ha.2 hb.2) (Int.mul_pos (by omega) (by omega)) h
theorem div_pos5 {a b : Int × Int} (ha : PosR a) (hb : PosR b) (h : 0 < (rat.divR a.1 a.2 b.1 b.2).2) : PosR (rat.divR a.1 a.2 b.1 b.2) := by
  rw [rat.divR_yes ha.1 hb.1] at h ⊢
  have h1 := (rat.okB_true ha.1).1.1
  have h2 := (rat.okB_true hb.1).1.1
  exact mk_pos (Int.mul_pos ha.2 (by omega)) (Int.mul_pos (by omega) hb.2) h
def AllPos (ps : List UF) : Prop := ∀ p, p ∈ ps → PosR p.2
theorem addU_pos {ps : List UF} {r : UR} {x : UF} (hr : ruleOk r = true) (hx : PosR x.2) (h : AllPos ps) : AllPos (addU ps (hopV r x)) := by
  unfold addU
  split
  · rename_i hc
    intro p hp
    rcases List.mem_append.1 hp with hp | hp
    · exact h p hp
    · obtain rfl := List.mem_singleton.1 hp
      have hd := hc.2.1
      have hne := hc.1
      unfold hopV at hd hne ⊢
      by_cases h1 : r.src = x.1
      · rw [if_pos h1] at hd ⊢
        exact mul_pos5 hx (ruleOk_pos hr) hd
      · rw [if_neg h1] at hd hne ⊢
        by_cases h2 : r.dst = x.1
        · rw [if_pos h2] at hd ⊢
          exact div_pos5 hx (ruleOk_pos hr) hd
        · rw [if_neg h2] at hne
          exact absurd rfl hne
  · exact h
theorem innerU_pos {x : UF} (hx : PosR x.2) : ∀ (l : List UR) (ps : List UF), (∀ r, r ∈ l → ruleOk r = true) → AllPos ps → AllPos (innerU l x ps)
  | [], _, _, h => h
  | r :: l, ps, hr, h => innerU_pos hx l (addU ps (hopV r x)) (fun q hq => hr q (List.mem_cons_of_mem _ hq)) (addU_pos (hr r (List.mem_cons_self ..)) hx h)
theorem reachF_pos {rs : List UR} (hr : ∀ r, r ∈ rs → ruleOk r = true) : ∀ (f i : Nat) (ps : List UF), AllPos ps → AllPos (reachF rs f i ps)
  | 0, _, _, h => h
  | f + 1, i, ps, h => by
    by_cases hi : i < ps.length
    · rw [reachF_on hi]
      exact reachF_pos hr f (i + 1) _ (innerU_pos (h _ (List.getElem_mem hi)) rs ps hr h)
    · rw [reachF_off hi]; exact h
theorem reachU_pos {rs : List UR} (hr : ∀ r, r ∈ rs → ruleOk r = true) (s : ByteArray) : AllPos (reachU rs s) :=
  reachF_pos hr _ _ _ (fun p hp => by obtain rfl := List.mem_singleton.1 hp; exact posR_one)

/-- The units that are reached. -/
noncomputable def unitsR (rs : List UR) (a : ByteArray) : List ByteArray := if (tabB rs && isCode.codeB a) = true then namesOf (reachU rs a) else []
/-- The factor from one unit to another, and whether there is one. -/
noncomputable def facR (rs : List UR) (a b : ByteArray) : (Int × Int) × Bool :=
  if (tabB rs && (isCode.codeB a && isCode.codeB b)) = true then (if fndI (namesOf (reachU rs a)) b < 0 then ((0, 0), false) else (facI (reachU rs a) (fndI (namesOf (reachU rs a)) b), true)) else ((0, 0), false)
theorem unitsR_yes {rs : List UR} {a : ByteArray} (h : tabB rs = true) (h2 : isCode.codeB a = true) : unitsR rs a = namesOf (reachU rs a) := by unfold unitsR; rw [h, h2]; rfl
theorem unitsR_no1 {rs : List UR} {a : ByteArray} (h : tabB rs = false) : unitsR rs a = [] := by unfold unitsR; rw [h]; rfl
theorem unitsR_no2 {rs : List UR} {a : ByteArray} (h : isCode.codeB a = false) : unitsR rs a = [] := by unfold unitsR; rw [h, Bool.and_false]; rfl
theorem facR_no1 {rs : List UR} {a b : ByteArray} (h : tabB rs = false) : facR rs a b = ((0, 0), false) := by unfold facR; rw [h]; rfl
theorem facR_no2 {rs : List UR} {a b : ByteArray} (h : isCode.codeB a = false) : facR rs a b = ((0, 0), false) := by unfold facR; rw [h]; simp
theorem facR_no3 {rs : List UR} {a b : ByteArray} (h : isCode.codeB b = false) : facR rs a b = ((0, 0), false) := by unfold facR; rw [h]; simp
theorem facR_in {rs : List UR} {a b : ByteArray} (h : tabB rs = true) (h1 : isCode.codeB a = true) (h2 : isCode.codeB b = true) : facR rs a b = if fndI (namesOf (reachU rs a)) b < 0 then ((0, 0), false) else (facI (reachU rs a) (fndI (namesOf (reachU rs a)) b), true) := by
  unfold facR; rw [h, h1, h2]; rfl
theorem facR_pos {rs : List UR} {a b : ByteArray} {n d : Int} (h : facR rs a b = ((n, d), true)) : PosR (n, d) := by
  rcases Bool.eq_false_or_eq_true (tabB rs) with ht | ht
  rotate_left
  · rw [facR_no1 ht] at h; cases h
  rcases Bool.eq_false_or_eq_true (isCode.codeB a) with h1 | h1
  rotate_left
  · rw [facR_no2 h1] at h; cases h
  rcases Bool.eq_false_or_eq_true (isCode.codeB b) with h2 | h2
  rotate_left
  · rw [facR_no3 h2] at h; cases h
  rw [facR_in ht h1 h2] at h
  split at h
  · cases h
  · rename_i hf
    obtain ⟨k, hk, e⟩ := fnd_in hf
    rw [e] at h
    have hk2 : k < (reachU rs a).length := by rw [namesOf_length] at hk; exact hk
    rw [facI_at hk2] at h
    have e2 := (Prod.mk.inj h).1
    rw [← e2]
    exact reachU_pos (tabB_iff.1 ht).2.1 a _ (List.getElem_mem hk2)
theorem posR_bound {f : Int × Int} (h : PosR f) : 1 ≤ f.1 ∧ f.1 ≤ 1000000000 ∧ 1 ≤ f.2 ∧ f.2 ≤ 1000000000 := by
  have := (rat.okB_true h.1).1
  have := h.2
  omega

/-- A quantity that can be converted. -/
def qOk (q : Int) : Bool := decide (0 ≤ q ∧ q ≤ 1000000000)
/-- Rounded up. -/
def ceilI (n d : Int) : Int := -((-n) / d)
noncomputable def upR (rs : List UR) (a b : ByteArray) (q : Int) : Int × Bool :=
  match facR rs a b with
  | ((n, d), true) => if qOk q = true ∧ ceilI (q * n) d ≤ 1000000000 then (ceilI (q * n) d, true) else (0, false)
  | (_, false) => (0, false)
noncomputable def dnR (rs : List UR) (a b : ByteArray) (q : Int) : Int × Bool :=
  match facR rs a b with
  | ((n, d), true) => if qOk q = true ∧ (q * n) / d ≤ 1000000000 then ((q * n) / d, true) else (0, false)
  | (_, false) => (0, false)
theorem upR_no {rs : List UR} {a b : ByteArray} {q : Int} {f : Int × Int} (h : facR rs a b = (f, false)) : upR rs a b q = (0, false) := by unfold upR; rw [h]
theorem upR_in {rs : List UR} {a b : ByteArray} {q n d : Int} (h : facR rs a b = ((n, d), true)) : upR rs a b q = if qOk q = true ∧ ceilI (q * n) d ≤ 1000000000 then (ceilI (q * n) d, true) else (0, false) := by unfold upR; rw [h]
theorem dnR_no {rs : List UR} {a b : ByteArray} {q : Int} {f : Int × Int} (h : facR rs a b = (f, false)) : dnR rs a b q = (0, false) := by unfold dnR; rw [h]
theorem dnR_in {rs : List UR} {a b : ByteArray} {q n d : Int} (h : facR rs a b = ((n, d), true)) : dnR rs a b q = if qOk q = true ∧ (q * n) / d ≤ 1000000000 then ((q * n) / d, true) else (0, false) := by unfold dnR; rw [h]
end Go.Proofs.Ytaomjggamamckaa
