/-
  The program's reader of conditions and the model's read alike: leaves. No program is named here.
-/
import Derived.Test.YtghofgjlmfdnpaaCondSame
namespace Go.Proofs.Ytghofgjlmfdnpaa

/-- Lost for good: a condition can no longer come of it. -/
def Lost (r : RS) : Prop := r.bad = true ∨ 30 < r.out.length ∨ ∃ x, x ∈ r.out ∧ x.kind = 1 ∧ ¬(isCode.codeB x.opt = true ∧ isCode.codeB x.vl = true)
/-- Stuck at a byte that no reader takes behind an operand. -/
def Stuck (s : ByteArray) (r : RS) : Prop := ∃ x, bt s r.i = some x ∧ isS x = false
def Doom (s : ByteArray) (r : RS) : Prop := Lost r ∨ Stuck s r
/-- The program's part has come as far as the model's. -/
def Sim (s : ByteArray) (o : Option PS) (r : RS) : Prop :=
  (o = some (rst s r.i, r.out) ∧ r.bad = false ∧ r.i ≤ s.size ∧ r.out.length ≤ 30) ∨ (o = none ∧ Doom s r)
theorem sim_on {s : ByteArray} {r : RS} (h1 : r.bad = false) (h2 : r.i ≤ s.size) (h3 : r.out.length ≤ 30) : Sim s (some (rst s r.i, r.out)) r := Or.inl ⟨rfl, h1, h2, h3⟩
theorem sim_off {s : ByteArray} {r : RS} (h : Doom s r) : Sim s none r := Or.inr ⟨rfl, h⟩
theorem sim_none {s : ByteArray} {r : RS} (h : Sim s none r) : Doom s r := by
  rcases h with ⟨h, _⟩ | ⟨_, h⟩
  · cases h
  · exact h
theorem sim_some {s : ByteArray} {r : RS} {u : PS} (h : Sim s (some u) r) : r.bad = false ∧ r.i ≤ s.size ∧ u = (rst s r.i, r.out) ∧ r.out.length ≤ 30 := by
  rcases h with ⟨h, h1, h2, h3⟩ | ⟨h, _⟩
  · exact ⟨h1, h2, Option.some.inj h, h3⟩
  · cases h
theorem sim_add {s : ByteArray} {x : CN} {r : RS} (h : r.bad = false) (hi : r.i ≤ s.size) : Sim s (pAdd x (rst s r.i, r.out)) (r.push x) := by
  unfold pAdd
  by_cases hl : r.out.length < 30
  · simp only [if_pos hl]
    exact sim_on (r := r.push x) h hi (by show (r.out ++ [x]).length ≤ 30; rw [List.length_append, List.length_singleton]; omega)
  · simp only [if_neg hl]
    exact sim_off (Or.inl (Or.inr (Or.inl (by show 30 < (r.out ++ [x]).length; rw [List.length_append, List.length_singleton]; omega))))

theorem leaf_none {s : ByteArray} {i : Nat} {l : List CN} (h1 : pWord (rst s i) ≠ tTrue) (h2 : ¬(isCode.codeB (pCut (pWord (rst s i))).1 = true ∧ isCode.codeB (pCut (pWord (rst s i))).2 = true)) : pLeaf (rst s i, l) = none := by
  unfold pLeaf
  simp only
  rw [if_neg h1, if_neg (fun h => h2 (by rwa [Bool.and_eq_true] at h))]
set_option maxHeartbeats 4000000 in
theorem leaf_sim (s : ByteArray) (i : Nat) (l : List CN) (hi : i ≤ s.size) : Sim s (pLeaf (rst s i, l)) (rdLeaf s ⟨i, l, false⟩) := by
  obtain ⟨p1, p2, p3⟩ := pEnd_spec (rst s i)
  obtain ⟨e, he⟩ : ∃ e, i + pEnd (rst s i) = e := ⟨_, rfl⟩
  have hpe : pEnd (rst s i) = e - i := by omega
  have hie : i ≤ e := by omega
  rw [rst_size] at p1
  have hes : e ≤ s.size := by omega
  have q2 : ∀ m x, i ≤ m → m < e → bt s m = some x → isS x = false := fun m x h1 h2 h3 => p2 (m - i) x (by omega) (by rw [bt_rst]; rw [show i + (m - i) = m by omega]; exact h3)
  have q3 : ∀ x, bt s e = some x → isS x = true := fun x h => p3 x (by rw [bt_rst, he]; exact h)
  have hw : pWord (rst s i) = s.extract i e := by
    unfold pWord
    rw [rst_piece, Nat.add_zero, he]
  have hrest : (rst s i).extract (pEnd (rst s i)) (rst s i).size = rst s e := by rw [rst_rst, he]
  have hwz : (s.extract i e).size = e - i := by rw [ByteArray.size_extract]; omega
  obtain ⟨j, hj⟩ : ∃ j, wEnd s s.size i = j := ⟨_, rfl⟩
  have w1 : ∀ m, i ≤ m → m < j → ∃ x, bt s m = some x ∧ isW x.toNat = true := fun m h1 h2 => wEnd_in s s.size i m h1 (by rw [hj]; exact h2)
  have w2 : ∀ x, bt s j = some x → isW x.toNat = false := fun x h => wEnd_stop s s.size i (by omega) x (by rw [hj]; exact h)
  have hij : i ≤ j := by rw [← hj]; exact wEnd_ge _ _ _
  have hjs : j ≤ s.size := by rw [← hj]; exact wEnd_le _ _ _ hi
  have hje : j ≤ e := by
    by_cases h : j ≤ e
    · exact h
    · obtain ⟨x, h1, h2⟩ := w1 e hie (by omega)
      have := q3 x h1
      rw [isS_not_W h2] at this
      cases this
  by_cases hc : takes s tEq j = true
  · have hbj : bt s j = some 61 := takes_one.1 hc
    have hjlt := bt_lt hbj
    have hje2 : j < e := by
      by_cases h : j < e
      · exact h
      · have : j = e := by omega
        subst this
        have := q3 61 hbj
        cases this
    obtain ⟨k, hk⟩ : ∃ k, wEnd s s.size (j + 1) = k := ⟨_, rfl⟩
    have v1 : ∀ m, j + 1 ≤ m → m < k → ∃ x, bt s m = some x ∧ isW x.toNat = true := fun m h1 h2 => wEnd_in s s.size (j + 1) m h1 (by rw [hk]; exact h2)
    have v2 : ∀ x, bt s k = some x → isW x.toNat = false := fun x h => wEnd_stop s s.size (j + 1) (by omega) x (by rw [hk]; exact h)
    have hjk : j + 1 ≤ k := by rw [← hk]; exact wEnd_ge _ _ _
    have hks : k ≤ s.size := by rw [← hk]; exact wEnd_le _ _ _ (by omega)
    have hke : k ≤ e := by
      by_cases h : k ≤ e
      · exact h
      · obtain ⟨x, h1, h2⟩ := v1 e (by omega) (by omega)
        have := q3 x h1
        rw [isS_not_W h2] at this
        cases this
    have hcut : pCut (s.extract i e) = (s.extract i j, s.extract (j + 1) e) := by
      have h1 := pCut_at (w := s.extract i e) (j := j - i) (by rw [bt_ext _ _ _ _ (by omega), show i + (j - i) = j by omega]; exact hbj) (fun m hm => by
        rw [bt_ext _ _ _ _ (by omega)]
        obtain ⟨x, g1, g2⟩ := w1 (i + m) (by omega) (by omega)
        rw [g1]
        intro h
        cases h
        cases g2)
      rw [h1]
      have e1 : (s.extract i e).extract 0 (j - i) = s.extract i j := bt_inj (fun m => by
        by_cases h : m < j - i
        · rw [bt_ext _ _ _ _ (by omega), bt_ext _ _ _ _ (by omega), bt_ext _ _ _ _ (by omega), Nat.zero_add]
        · rw [bt_ext_none _ _ _ _ (by omega), bt_ext_none _ _ _ _ (by omega)])
      have e2 : (s.extract i e).extract (j - i + 1) (s.extract i e).size = s.extract (j + 1) e := bt_inj (fun m => by
        rw [hwz]
        by_cases h : j + 1 + m < e
        · rw [bt_ext _ _ _ _ (by omega), bt_ext _ _ _ _ (by omega), bt_ext _ _ _ _ (by omega), show i + (j - i + 1 + m) = j + 1 + m by omega]
        · rw [bt_ext_none _ _ _ _ (by omega), bt_ext_none _ _ _ _ (by omega)])
      rw [e1, e2]
    have hnt : s.extract i e ≠ tTrue := fun h => by
      have h1 := bt_ext s i e (j - i) (by omega)
      rw [show i + (j - i) = j by omega, hbj, h] at h1
      have := true_W _ _ h1
      cases this
    have hR : rdLeaf s ⟨i, l, false⟩ = ⟨k, l ++ [⟨1, s.extract i j, s.extract (j + 1) k⟩], false⟩ := by
      unfold rdLeaf
      simp only [hj, hk]
      rw [if_pos hc]
    rw [hR]
    by_cases hA : k = e
    · subst hA
      by_cases hcc : isCode.codeB (s.extract i j) = true ∧ isCode.codeB (s.extract (j + 1) k) = true
      · have hP : pLeaf (rst s i, l) = pAdd ⟨1, s.extract i j, s.extract (j + 1) k⟩ (rst s k, l) := by
          unfold pLeaf
          simp only
          rw [hw, hcut, hrest, if_neg hnt, if_pos (by simp only; rw [hcc.1, hcc.2]; rfl)]
        rw [hP]
        exact sim_add (r := ⟨k, l, false⟩) rfl hes
      · rw [leaf_none (by rw [hw]; exact hnt) (by rw [hw, hcut]; exact hcc)]
        exact sim_off (Or.inl (Or.inr (Or.inr ⟨_, List.mem_append_right _ (List.mem_singleton.2 rfl), rfl, hcc⟩)))
    · have hklt : k < e := by omega
      obtain ⟨x, hx⟩ : ∃ x, bt s k = some x := ⟨_, bt_some (by omega)⟩
      rw [leaf_none (by rw [hw]; exact hnt) (by
        rw [hw, hcut]
        rintro ⟨_, h2⟩
        have h3 := (code_W h2).2 (k - (j + 1)) x (by rw [bt_ext _ _ _ _ (by omega), show j + 1 + (k - (j + 1)) = k by omega]; exact hx)
        rw [v2 x hx] at h3
        cases h3)]
      exact sim_off (Or.inr ⟨x, hx, q2 k x (by omega) hklt hx⟩)
  · have hR : rdLeaf s ⟨i, l, false⟩ = ⟨j, l ++ [nTrue], if s.extract i j = tTrue then false else true⟩ := by
      unfold rdLeaf
      simp only [hj]
      rw [if_neg hc]
    rw [hR]
    by_cases ht : s.extract i e = tTrue
    · have hej : e = j := by
        by_cases h : j < e
        · obtain ⟨x, hx⟩ : ∃ x, bt s j = some x := ⟨_, bt_some (by omega)⟩
          have h1 := bt_ext s i e (j - i) (by omega)
          rw [show i + (j - i) = j by omega, hx, ht] at h1
          have h2 := true_W _ _ h1
          rw [w2 x hx] at h2
          cases h2
        · omega
      subst hej
      rw [if_pos ht]
      have hP : pLeaf (rst s i, l) = pAdd nTrue (rst s e, l) := by
        unfold pLeaf
        simp only
        rw [hw, hrest, if_pos ht]
      rw [hP]
      exact sim_add (r := ⟨e, l, false⟩) rfl hes
    · rw [leaf_none (by rw [hw]; exact ht) (by
        rw [hw]
        rintro ⟨h1, h2⟩
        rcases first_eq (s.extract i e) with hn | ⟨m, g1, g2⟩
        · rw [pCut_none hn] at h2
          have := (code_W h2).1
          have e0 : eB.size = 0 := rfl
          simp only at this
          omega
        · rw [pCut_at g1 g2] at h1
          have hm := bt_lt g1
          rw [hwz] at hm
          have g3 : bt s (i + m) = some 61 := by rw [← bt_ext s i e m (by omega)]; exact g1
          have g4 : ∀ n, n < m → ∃ x, bt s (i + n) = some x ∧ isW x.toNat = true := fun n hn => by
            obtain ⟨x, hx⟩ : ∃ x, bt s (i + n) = some x := ⟨_, bt_some (by omega)⟩
            refine ⟨x, hx, (code_W h1).2 n x ?_⟩
            simp only
            rw [bt_ext _ _ _ _ (by omega), Nat.zero_add, bt_ext _ _ _ _ (by omega)]
            exact hx
          have hjm : j = i + m := by
            by_cases a1 : j < i + m
            · obtain ⟨x, k1, k2⟩ := g4 (j - i) (by omega)
              rw [show i + (j - i) = j by omega] at k1
              rw [w2 x k1] at k2
              cases k2
            · by_cases a2 : i + m < j
              · obtain ⟨x, k1, k2⟩ := w1 (i + m) (by omega) a2
                rw [g3] at k1
                cases k1
                cases k2
              · omega
          subst hjm
          exact hc (takes_one.2 g3))]
      by_cases htj : s.extract i j = tTrue
      · have hlt : j < e := by
          by_cases h : j < e
          · exact h
          · have : j = e := by omega
            subst this
            exact absurd htj ht
        obtain ⟨x, hx⟩ : ∃ x, bt s j = some x := ⟨_, bt_some (by omega)⟩
        exact sim_off (Or.inr ⟨x, hx, q2 j x hij hlt hx⟩)
      · rw [if_neg htj]
        exact sim_off (Or.inl (Or.inl rfl))
end Go.Proofs.Ytghofgjlmfdnpaa
