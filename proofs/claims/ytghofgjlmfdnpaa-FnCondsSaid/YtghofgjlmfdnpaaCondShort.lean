/-
  What is read as a condition is written no longer than it was. No program is named here.
-/
import Derived.Test.YtghofgjlmfdnpaaCondSames
import Derived.Test.YtghofgjlmfdnpaaCondFmt
namespace Go.Proofs.Ytghofgjlmfdnpaa

theorem par_ge (lv k : Nat) (s : ByteArray) : s.size ≤ (par lv k s).size := by
  unfold par
  split
  · rw [cat_size, cat_size]; omega
  · exact Nat.le_refl _
theorem fmt_21 (t : CT) : (t.fmt 1).size ≤ (t.fmt 2).size := by
  cases t with
  | or a b => exact par_ge 1 2 _
  | _ => exact Nat.le_refl _
theorem fmt_32 (t : CT) : (t.fmt 2).size ≤ (t.fmt 3).size := by
  cases t with
  | and a b => exact par_ge 2 3 _
  | _ => exact Nat.le_refl _
theorem fmt_13 (t : CT) : (t.fmt 3).size ≤ (t.fmt 1).size + 2 := by
  cases t with
  | and a b => exact par_size 2 3 _
  | or a b => exact par_size 1 3 _
  | _ => exact Nat.le_add_right _ _
/-- What is read is a tree, whose text as an operand of level k is no longer than what has been read. -/
def TreeK (k : Nat) (P : PS → Option PS) : Prop := ∀ s r : PS, P s = some r → ∃ t : CT, t.ok ∧ r.2 = s.2 ++ t.post ∧ (t.fmt k).size + r.1.size ≤ s.1.size
theorem treek_loop {t : ByteArray} {x : CN} {P : PS → Option PS} {k j : Nat} (mk : CT → CT → CT) (hm : ∀ a b, a.ok → b.ok → (mk a b).ok ∧ (mk a b).post = (a.post ++ b.post) ++ [x] ∧ ((mk a b).fmt k).size = (a.fmt k).size + t.size + (b.fmt j).size) (hP : TreeK j P) :
    ∀ (f : Nat) (s r : PS) (l : List CN) (z : Nat) (a : CT), a.ok → s.2 = l ++ a.post → (a.fmt k).size + s.1.size ≤ z → pLoop t x P f s = some r → ∃ c : CT, c.ok ∧ r.2 = l ++ c.post ∧ (c.fmt k).size + r.1.size ≤ z
  | 0, s, r, l, z, a, _, _, _, h => by cases h
  | f + 1, s, r, l, z, a, ha, hs, hz, h => by
    unfold pLoop at h
    split at h
    · rename_i hc
      have hle := (takes_yes hc).1
      have hps := pRest_size s.1 t
      obtain ⟨u, h1, h2⟩ := bind_some h
      obtain ⟨v, h3, h4⟩ := bind_some h2
      obtain ⟨b, hb, hu, hbz⟩ := hP _ _ h1
      obtain ⟨e1, e2, _⟩ := add_some h3
      obtain ⟨g1, g2, g3⟩ := hm a b ha hb
      simp only at hbz
      exact treek_loop mk hm hP f v r l z (mk a b) g1 (by rw [e2, hu, g2]; show (s.2 ++ b.post) ++ [x] = _; rw [hs]; simp) (by rw [e1, g3]; omega) h4
    · obtain rfl := Option.some.inj h
      exact ⟨a, ha, hs, hz⟩
theorem treek_and {P : PS → Option PS} (hP : TreeK 3 P) : TreeK 2 (pChain tAnd nAnd P) := fun s r h => by
  obtain ⟨u, h1, h2⟩ := bind_some h
  obtain ⟨a, ha, hu, hz⟩ := hP _ _ h1
  have := fmt_32 a
  exact treek_loop (k := 2) (j := 3) CT.and (fun a b ha hb => ⟨⟨ha, hb⟩, rfl, by show ((a.fmt 2 ++ tAnd) ++ b.fmt 3).size = _; rw [cat_size, cat_size]⟩) hP _ u r s.2 s.1.size a ha hu (by omega) h2
theorem treek_or {P : PS → Option PS} (hP : TreeK 3 P) : TreeK 1 (pOr P) := fun s r h => by
  obtain ⟨u, h1, h2⟩ := bind_some h
  obtain ⟨a, ha, hu, hz⟩ := treek_and hP _ _ h1
  have := fmt_21 a
  exact treek_loop (k := 1) (j := 2) CT.or (fun a b ha hb => ⟨⟨ha, hb⟩, rfl, by show ((a.fmt 1 ++ tOr) ++ b.fmt 2).size = _; rw [cat_size, cat_size]⟩) (treek_and hP) _ u r s.2 s.1.size a ha hu (by omega) h2
theorem cut_short {w : ByteArray} (h : isCode.codeB (pCut w).2 = true) : (pCut w).1.size + 1 + (pCut w).2.size ≤ w.size := by
  have h1 := (code_W h).1
  rcases first_eq w with hn | ⟨j, g1, g2⟩
  · rw [pCut_none hn] at h1
    exact absurd h1 (by show ¬1 ≤ eB.size; decide)
  · rw [pCut_at g1 g2]
    have := bt_lt g1
    simp only [ByteArray.size_extract]
    omega
theorem treek_leaf : TreeK 3 pLeaf := fun s r h => by
  have hp := (pEnd_spec s.1).1
  have hz : (s.1.extract (pEnd s.1) s.1.size).size = s.1.size - pEnd s.1 := by rw [ByteArray.size_extract]; omega
  have hw : (pWord s.1).size = pEnd s.1 := by unfold pWord; rw [ByteArray.size_extract]; omega
  unfold pLeaf at h
  split at h
  · rename_i ht
    obtain ⟨e1, e2, _⟩ := add_some h
    refine ⟨.tt, trivial, e2, ?_⟩
    rw [ht] at hw
    rw [e1, hz]
    show tTrue.size + _ ≤ _
    omega
  · split at h
    · rename_i hc
      obtain ⟨e1, e2, _⟩ := add_some h
      rw [Bool.and_eq_true] at hc
      refine ⟨.is _ _, hc, e2, ?_⟩
      have h1 := cut_short hc.2
      rw [e1, hz]
      show ((_ ++ tEq) ++ _ : ByteArray).size + _ ≤ _
      rw [cat_size, cat_size]
      have e : tEq.size = 1 := rfl
      omega
    · cases h
theorem treek_op : ∀ n, TreeK 3 (pOp n)
  | 0 => fun s r h => by
    rw [pOp_zero] at h
    split at h
    · cases h
    · split at h
      · cases h
      · exact treek_leaf s r h
  | n + 1 => fun s r h => by
    rw [pOp_succ] at h
    split at h
    · rename_i hc
      have hle := (takes_yes hc).1
      have hps := pRest_size s.1 tNot
      have e : tNot.size = 1 := rfl
      obtain ⟨u, h1, h2⟩ := bind_some h
      obtain ⟨a, ha, hu, hz⟩ := treek_op n _ _ h1
      obtain ⟨e1, e2, _⟩ := add_some h2
      refine ⟨.no a, ha, by rw [e2, hu]; show (s.2 ++ a.post) ++ [nNot] = s.2 ++ (a.post ++ [nNot]); rw [List.append_assoc], ?_⟩
      simp only at hz
      show (tNot ++ a.fmt 3).size + _ ≤ _
      rw [cat_size, e1]
      omega
    · split at h
      · rename_i hc
        have hle := (takes_yes hc).1
        have hps := pRest_size s.1 tOpen
        have e : tOpen.size = 1 := rfl
        have e' : tShut.size = 1 := rfl
        obtain ⟨u, h1, h2⟩ := bind_some h
        obtain ⟨a, ha, hu, hz⟩ := treek_or (treek_op n) _ _ h1
        have := fmt_13 a
        have hps2 := pRest_size u.1 tShut
        unfold pShut at h2
        split at h2
        · rename_i hc2
          have hle2 := (takes_yes hc2).1
          obtain rfl := Option.some.inj h2
          simp only at hz
          exact ⟨a, ha, hu, by simp only; omega⟩
        · cases h2
      · exact treek_leaf s r h
/-- What is read of a text is a condition, written no longer. -/
theorem par_short {s : ByteArray} {l : List CN} (h : parR s = (l, true)) : condB l = true ∧ (fmtB l).size ≤ s.size := by
  rw [← par_same] at h
  unfold pPar at h
  cases hp : pOr (pOp 30) (s, []) with
  | none => rw [hp] at h; cases h
  | some u =>
    rw [hp] at h
    obtain ⟨q, k⟩ := u
    simp only at h
    have hk := (shr_or (shr_op 30) _ _ hp (Nat.zero_le _)).2
    obtain ⟨t, h1, h2, h3⟩ := treek_or (treek_op 30) _ _ hp
    simp only [List.nil_append] at h2
    split at h
    · simp only [Prod.mk.injEq, and_true] at h
      subst h
      simp only at h3 hk
      subst h2
      rw [fmtB_yes h1 hk]
      exact ⟨condB_yes (cond_post h1 hk), by omega⟩
    · cases h
end Go.Proofs.Ytghofgjlmfdnpaa
