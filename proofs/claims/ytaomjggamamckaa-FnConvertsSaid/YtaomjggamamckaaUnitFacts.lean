/-
  Units: what the laws on them ask. No program is named here.
-/
import Derived.Test.YtaomjggamamckaaUnitLib
import Derived.Test.YtaomjggamamckaaUnitWays
import Derived.Lib.Hide
namespace Go.Proofs.Ytaomjggamamckaa

theorem ruleOk_codes {r : UR} (h : ruleOk r = true) : isCode.codeB r.src = true ∧ isCode.codeB r.dst = true := by
  unfold ruleOk at h
  simp only [Bool.and_eq_true] at h
  exact ⟨h.1, h.2.1⟩
theorem way_code {rs : List UR} (hr : ∀ r, r ∈ rs → ruleOk r = true) {s : ByteArray} (hs : isCode.codeB s = true) {p : UF} (h : Way rs s p) : isCode.codeB p.1 = true := by
  cases h with
  | base => exact hs
  | step hx hm hne hd =>
    rename_i x r
    have hc := ruleOk_codes (hr r hm)
    unfold hopV at hne ⊢
    by_cases h1 : r.src = x.1
    · rw [if_pos h1]; exact hc.2
    · rw [if_neg h1] at hne ⊢
      by_cases h2 : r.dst = x.1
      · rw [if_pos h2]; exact hc.1
      · rw [if_neg h2] at hne; exact absurd rfl hne
/-- There is a factor just where the unit is reached. -/
theorem facR_true {rs : List UR} {a b : ByteArray} {f : Int × Int} : facR rs a b = (f, true) ↔ (tabB rs = true ∧ isCode.codeB a = true ∧ isCode.codeB b = true) ∧ lookU (reachU rs a) b = some f := by
  rcases Bool.eq_false_or_eq_true (tabB rs) with ht | ht
  rotate_left
  · rw [facR_no1 ht, ht]; simp
  rcases Bool.eq_false_or_eq_true (isCode.codeB a) with h1 | h1
  rotate_left
  · rw [facR_no2 h1, h1]; simp
  rcases Bool.eq_false_or_eq_true (isCode.codeB b) with h2 | h2
  rotate_left
  · rw [facR_no3 h2, h2]; simp
  rw [facR_in ht h1 h2, ht, h1, h2]
  unfold lookU
  split
  · simp
  · simp
theorem facR_cases (rs : List UR) (a b : ByteArray) : facR rs a b = ((0, 0), false) ∨ ∃ f, facR rs a b = (f, true) := by
  unfold facR
  split
  · split
    · exact Or.inl rfl
    · exact Or.inr ⟨_, rfl⟩
  · exact Or.inl rfl
theorem facR_back {rs : List UR} {a b : ByteArray} {f : Int × Int} (h : facR rs a b = (f, true)) : ∃ g, facR rs b a = (g, true) ∧ rat.mulR f.1 f.2 g.1 g.2 = (1, 1) := by
  obtain ⟨⟨ht, h1, h2⟩, h3⟩ := facR_true.1 h
  obtain ⟨g, hg, hm⟩ := there_back (tabB_iff.1 ht) h3
  exact ⟨g, facR_true.2 ⟨⟨ht, h2, h1⟩, hg⟩, hm⟩
theorem facR_sym (rs : List UR) (a b : ByteArray) : (facR rs a b).2 = (facR rs b a).2 := by
  rcases facR_cases rs a b with h | ⟨f, h⟩
  · rcases facR_cases rs b a with h' | ⟨g, h'⟩
    · rw [h, h']
    · obtain ⟨q, hq, _⟩ := facR_back h'
      rw [h] at hq; cases hq
  · obtain ⟨q, hq, _⟩ := facR_back h
    rw [h, hq]
theorem facR_has (rs : List UR) (a b : ByteArray) : (facR rs a b).2 = true ↔ b ∈ unitsR rs a := by
  constructor
  · intro h
    rcases facR_cases rs a b with h' | ⟨f, h'⟩
    · rw [h'] at h; cases h
    · obtain ⟨⟨ht, h1, _⟩, h3⟩ := facR_true.1 h'
      rw [unitsR_yes ht h1]
      exact look_mem.1 ⟨f, h3⟩
  · intro h
    unfold unitsR at h
    split at h
    · rename_i hc
      rw [Bool.and_eq_true] at hc
      obtain ⟨f, hf⟩ := look_mem.2 h
      have hT := tabB_iff.1 hc.1
      rw [facR_true.2 ⟨⟨hc.1, hc.2, way_code hT.2.1 hc.2 (look_way hf)⟩, hf⟩]
    · cases h
theorem facR_third {rs : List UR} {a b u : ByteArray} {f : Int × Int} (h : facR rs a b = (f, true)) (hu : u ∈ unitsR rs a) : ∃ x y, facR rs a u = (x, true) ∧ facR rs u b = (y, true) ∧ rat.mulR x.1 x.2 y.1 y.2 = f := by
  obtain ⟨⟨ht, h1, h2⟩, h3⟩ := facR_true.1 h
  rcases facR_cases rs a u with h' | ⟨x, h'⟩
  · have := (facR_has rs a u).2 hu
    rw [h'] at this; cases this
  · obtain ⟨⟨_, _, hu2⟩, h4⟩ := facR_true.1 h'
    obtain ⟨y, hy, hm⟩ := over_third (tabB_iff.1 ht) h3 h4
    exact ⟨x, y, h', facR_true.2 ⟨⟨ht, hu2, h2⟩, hy⟩, hm⟩

theorem ceil_le {n d : Int} (hd : 0 < d) : n ≤ ceilI n d * d := by
  have h1 := Int.ediv_mul_le (-n) (Int.ne_of_gt hd)
  unfold ceilI
  rw [Int.neg_mul]
  omega
theorem ceil_near {n d : Int} (hd : 0 < d) : n / d ≤ ceilI n d ∧ ceilI n d ≤ n / d + 1 := by
  have h1 := Int.ediv_mul_le n (Int.ne_of_gt hd)
  have h2 := Int.lt_ediv_add_one_mul_self n hd
  have h3 := Int.ediv_mul_le (-n) (Int.ne_of_gt hd)
  have h4 := Int.lt_ediv_add_one_mul_self (-n) hd
  unfold ceilI
  generalize n / d = x at *
  generalize (-n) / d = z at *
  constructor
  · refine Int.le_of_mul_le_mul_right (a := d) ?_ hd
    rw [Int.neg_mul]; omega
  · have : -z < x + 2 := by
      refine Int.lt_of_mul_lt_mul_right (a := d) ?_ (Int.le_of_lt hd)
      rw [Int.neg_mul, Int.add_mul]
      rw [Int.add_mul] at h2 h4
      omega
    omega
theorem upR_true {rs : List UR} {a b : ByteArray} {q u : Int} (h : upR rs a b q = (u, true)) : ∃ n d, facR rs a b = ((n, d), true) ∧ (0 ≤ q ∧ q ≤ 1000000000) ∧ u = ceilI (q * n) d ∧ u ≤ 1000000000 := by
  rcases facR_cases rs a b with h' | ⟨⟨n, d⟩, h'⟩
  · rw [upR_no h'] at h; cases h
  · rw [upR_in h'] at h
    split at h
    · rename_i hc
      have e := (Prod.mk.inj h).1
      exact ⟨n, d, h', of_decide_eq_true hc.1, e.symm, by rw [← e]; exact hc.2⟩
    · cases h
theorem dnR_true {rs : List UR} {a b : ByteArray} {q u : Int} (h : dnR rs a b q = (u, true)) : ∃ n d, facR rs a b = ((n, d), true) ∧ (0 ≤ q ∧ q ≤ 1000000000) ∧ u = (q * n) / d ∧ u ≤ 1000000000 := by
  rcases facR_cases rs a b with h' | ⟨⟨n, d⟩, h'⟩
  · rw [dnR_no h'] at h; cases h
  · rw [dnR_in h'] at h
    split at h
    · rename_i hc
      have e := (Prod.mk.inj h).1
      exact ⟨n, d, h', of_decide_eq_true hc.1, e.symm, by rw [← e]; exact hc.2⟩
    · cases h
theorem fac_bound {rs : List UR} {a b : ByteArray} {n d : Int} (h : facR rs a b = ((n, d), true)) : 1 ≤ n ∧ n ≤ 1000000000 ∧ 1 ≤ d ∧ d ≤ 1000000000 := posR_bound (facR_pos h)
/-- What the law on conversions asks. -/
theorem conv_near {rs : List UR} {a b : ByteArray} {q u : Int} (h : upR rs a b q = (u, true)) : ∃ v, dnR rs a b q = (v, true) ∧ (u = v ∨ u = v + 1) := by
  obtain ⟨n, d, hf, hq, rfl, hu⟩ := upR_true h
  have hb := fac_bound hf
  have hc := ceil_near (n := q * n) (d := d) (by omega)
  refine ⟨(q * n) / d, ?_, by omega⟩
  rw [dnR_in hf, if_pos ⟨decide_eq_true hq, by omega⟩]
theorem conv_back {rs : List UR} {a b : ByteArray} {q u k : Int} (h : upR rs a b q = (u, true)) (h2 : dnR rs b a u = (k, true)) : q ≤ k := by
  obtain ⟨n, d, hf, hq, hu, _⟩ := upR_true h
  obtain ⟨gn, gd, hg, _, rfl, _⟩ := dnR_true h2
  obtain ⟨g, hg2, hm⟩ := facR_back hf
  rw [hg] at hg2
  have e := (Prod.mk.inj hg2).1
  subst e
  have hQ := mul_q (facR_pos hf) (facR_pos hg) hm (by decide)
  have hb := fac_bound hf
  have hbg := fac_bound hg
  have hc := ceil_le (n := q * n) (d := d) (by omega)
  rw [← hu] at hc
  simp only [QR] at hQ
  rw [Int.le_ediv_iff_mul_le (by omega)]
  refine Int.le_of_mul_le_mul_right (a := d) ?_ (by omega)
  have h3 : q * n * gn ≤ u * d * gn := Int.mul_le_mul_of_nonneg_right hc (by omega)
  have e1 : q * gd * d = q * n * gn := by grind
  have e2 : u * gn * d = u * d * gn := by grind
  rw [e1, e2]
  exact h3
theorem conv_less {rs : List UR} {a b : ByteArray} {q v : Int} (h : dnR rs a b q = (v, true)) : ∃ l, upR rs b a v = (l, true) ∧ l ≤ q := by
  obtain ⟨n, d, hf, hq, hv, hv9⟩ := dnR_true h
  obtain ⟨⟨gn, gd⟩, hg, hm⟩ := facR_back hf
  have hQ := mul_q (facR_pos hf) (facR_pos hg) hm (by decide)
  have hb := fac_bound hf
  have hbg := fac_bound hg
  simp only [QR] at hQ
  have hv0 : 0 ≤ v := by rw [hv]; exact Int.ediv_nonneg (Int.mul_nonneg hq.1 (by omega)) (by omega)
  have hle : v * d ≤ q * n := by rw [hv]; exact Int.ediv_mul_le _ (by omega)
  have h4 : v * gn ≤ q * gd := by
    refine Int.le_of_mul_le_mul_right (a := d) ?_ (by omega)
    have h3 : v * d * gn ≤ q * n * gn := Int.mul_le_mul_of_nonneg_right hle (by omega)
    have e1 : q * gd * d = q * n * gn := by grind
    have e2 : v * gn * d = v * d * gn := by grind
    rw [e1, e2]
    exact h3
  have hl : ceilI (v * gn) gd ≤ q := by
    unfold ceilI
    have h5 : -q ≤ (-(v * gn)) / gd := (Int.le_ediv_iff_mul_le (by omega)).2 (by rw [Int.neg_mul]; omega)
    omega
  exact ⟨_, by rw [upR_in hg, if_pos ⟨decide_eq_true ⟨hv0, hv9⟩, by omega⟩], hl⟩
theorem upR_cases (rs : List UR) (a b : ByteArray) (q : Int) : (upR rs a b q = (0, false)) ∨ ∃ u, upR rs a b q = (u, true) ∧ 0 ≤ u ∧ u ≤ 1000000000 := by
  cases e : upR rs a b q with
  | mk u y =>
    cases y with
    | false =>
      rcases facR_cases rs a b with h' | ⟨⟨n, d⟩, h'⟩
      · rw [upR_no h'] at e; exact Or.inl e.symm
      · rw [upR_in h'] at e
        split at e
        · cases e
        · exact Or.inl e.symm
    | true =>
      obtain ⟨n, d, hf, hq, hu, hu9⟩ := upR_true e
      have hb := fac_bound hf
      have hc := ceil_near (n := q * n) (d := d) (by omega)
      have : 0 ≤ (q * n) / d := Int.ediv_nonneg (Int.mul_nonneg hq.1 (by omega)) (by omega)
      exact Or.inr ⟨u, rfl, by omega, hu9⟩
theorem dnR_cases (rs : List UR) (a b : ByteArray) (q : Int) : (dnR rs a b q = (0, false)) ∨ ∃ u, dnR rs a b q = (u, true) ∧ 0 ≤ u ∧ u ≤ 1000000000 := by
  cases e : dnR rs a b q with
  | mk u y =>
    cases y with
    | false =>
      rcases facR_cases rs a b with h' | ⟨⟨n, d⟩, h'⟩
      · rw [dnR_no h'] at e; exact Or.inl e.symm
      · rw [dnR_in h'] at e
        split at e
        · cases e
        · exact Or.inl e.symm
    | true =>
      obtain ⟨n, d, hf, hq, hu, hu9⟩ := dnR_true e
      have hb := fac_bound hf
      have : 0 ≤ (q * n) / d := Int.ediv_nonneg (Int.mul_nonneg hq.1 (by omega)) (by omega)
      exact Or.inr ⟨u, rfl, by omega, hu9⟩
end Go.Proofs.Ytaomjggamamckaa
