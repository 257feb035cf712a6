/-
  The program's reader of conditions and the model's read alike: the whole. No program is named here.
-/
import Derived.Test.YtghofgjlmfdnpaaCondSame2
namespace Go.Proofs.Ytghofgjlmfdnpaa

/-- What a part of the model's reader leaves as it is. -/
def Keeps (S : RS → RS) : Prop := ∀ r : RS, (r.bad = true → (S r).bad = true) ∧ ∃ e, (S r).out = r.out ++ e
theorem lost_grown {r q : RS} (h : Lost r) (h1 : r.bad = true → q.bad = true) (h2 : ∃ e, q.out = r.out ++ e) : Lost q := by
  obtain ⟨e, he⟩ := h2
  rcases h with h | h | ⟨x, hx, h⟩
  · exact Or.inl (h1 h)
  · exact Or.inr (Or.inl (by rw [he, List.length_append]; omega))
  · exact Or.inr (Or.inr ⟨x, by rw [he]; exact List.mem_append_left _ hx, h⟩)
theorem keeps_on (n : Nat) : Keeps (fun r => r.on n) := fun r => ⟨fun h => h, [], by show r.out = _; simp⟩
theorem keeps_push (x : CN) : Keeps (fun r => r.push x) := fun _ => ⟨fun h => h, [x], rfl⟩
theorem keeps_comp {S T : RS → RS} (hS : Keeps S) (hT : Keeps T) : Keeps (fun r => T (S r)) := fun r => by
  obtain ⟨a1, e1, a2⟩ := hS r
  obtain ⟨b1, e2, b2⟩ := hT (S r)
  exact ⟨fun h => b1 (a1 h), e1 ++ e2, by rw [b2, a2, List.append_assoc]⟩
theorem keeps_loop {s t : ByteArray} {x : CN} {S : RS → RS} (hS : Keeps S) : ∀ f, Keeps (rdLoop s t x S f)
  | 0 => fun r => ⟨fun h => h, [], by show r.out = _; simp⟩
  | f + 1 => fun r => by
    unfold rdLoop
    split
    · exact keeps_comp (keeps_comp (keeps_comp (keeps_on t.size) hS) (keeps_push x)) (keeps_loop hS f) r
    · exact ⟨fun h => h, [], by simp⟩
theorem keeps_and {s : ByteArray} {S : RS → RS} (hS : Keeps S) : Keeps (rdAnd s S) := fun r => keeps_comp (T := fun r => rdLoop s tAnd nAnd S s.size r) hS (keeps_loop hS s.size) r
theorem keeps_or {s : ByteArray} {S : RS → RS} (hS : Keeps S) : Keeps (rdOr s S) := fun r => keeps_comp (T := fun r => rdLoop s tOr nOr (rdAnd s S) s.size r) (keeps_and hS) (keeps_loop (keeps_and hS) s.size) r
theorem keeps_spoil : Keeps RS.spoil := fun r => ⟨fun _ => rfl, [], by show r.out = _; simp⟩
theorem keeps_shut (s : ByteArray) : Keeps (rdShut s) := fun r => by
  unfold rdShut
  split
  · exact keeps_on 1 r
  · exact keeps_spoil r
theorem keeps_leaf (s : ByteArray) : Keeps (rdLeaf s) := fun r => by
  unfold rdLeaf
  split
  · exact ⟨fun h => h, _, rfl⟩
  · refine ⟨fun h => ?_, _, rfl⟩
    simp only
    split
    · exact h
    · rfl
theorem keeps_simple (s : ByteArray) : ∀ n, Keeps (rdSimple s n)
  | 0 => keeps_spoil
  | n + 1 => fun r => by
    unfold rdSimple
    split
    · exact keeps_spoil r
    · split
      · exact keeps_comp (keeps_comp (keeps_on 1) (keeps_or (keeps_simple s n))) (keeps_shut s) r
      · split
        · exact keeps_comp (keeps_comp (keeps_on 1) (keeps_simple s n)) (keeps_push nNot) r
        · exact keeps_leaf s r

theorem stuck_loop {s t : ByteArray} {x : CN} {S : RS → RS} {r : RS} (ht : bt t 0 = some 32) (h : Stuck s r) (f : Nat) : rdLoop s t x S f r = r := by
  refine rdLoop_off (fun hc => ?_) f
  obtain ⟨y, h1, h2⟩ := h
  have h3 := takes_first hc.2 (bt_lt ht)
  rw [h1, ht] at h3
  cases h3
  cases h2
theorem doom_loop {s t : ByteArray} {x : CN} {S : RS → RS} {r : RS} (hS : Keeps S) (ht : bt t 0 = some 32) (h : Doom s r) (f : Nat) : Doom s (rdLoop s t x S f r) := by
  rcases h with h | h
  · exact Or.inl (lost_grown h (keeps_loop hS f r).1 (keeps_loop hS f r).2)
  · rw [stuck_loop ht h]
    exact Or.inr h
theorem doom_push {s : ByteArray} {r : RS} {x : CN} (h : Doom s r) : Doom s (r.push x) := by
  rcases h with h | h
  · exact Or.inl (lost_grown h (fun h => h) ⟨[x], rfl⟩)
  · exact Or.inr h
theorem doom_shut {s : ByteArray} {r : RS} (h : Doom s r) : Doom s (rdShut s r) := by
  rcases h with h | h
  · exact Or.inl (lost_grown h (keeps_shut s r).1 (keeps_shut s r).2)
  · obtain ⟨y, h1, h2⟩ := h
    unfold rdShut
    split
    · rename_i hc
      have h3 := takes_one.1 hc
      rw [h1] at h3
      cases h3
      cases h2
    · exact Or.inl (Or.inl rfl)

/-- A part of the program's reader reads as a part of the model's. -/
def SimF (s : ByteArray) (P : PS → Option PS) (S : RS → RS) : Prop := ∀ r : RS, r.bad = false → r.i ≤ s.size → r.out.length ≤ 30 → Sim s (P (rst s r.i, r.out)) (S r)
theorem sim_loop {s t : ByteArray} {x : CN} {P : PS → Option PS} {S : RS → RS} (hP : SimF s P S) (hG : Goes s S) (hK : Keeps S) (ht : bt t 0 = some 32) :
    ∀ (f g : Nat) (r : RS), r.bad = false → r.i ≤ s.size → r.out.length ≤ 30 → s.size ≤ f + r.i → s.size < g + r.i → Sim s (pLoop t x P g (rst s r.i, r.out)) (rdLoop s t x S f r)
  | f, 0, r, hb, hi, hl, hf, hg => absurd hg (by omega)
  | f, g + 1, r, hb, hi, hl, hf, hg => by
    have htz := bt_lt ht
    unfold pLoop
    simp only
    rw [takes_rst hi]
    by_cases hc : takes s t r.i = true
    · rw [if_pos hc]
      have hle := (takes_yes hc).1
      obtain ⟨f', rfl⟩ : ∃ f', f = f' + 1 := ⟨f - 1, by omega⟩
      have hm : rdLoop s t x S (f' + 1) r = rdLoop s t x S f' ((S (r.on t.size)).push x) := if_pos ⟨hb, hc⟩
      rw [hm, pRest_rst]
      have hgo := hG (r.on t.size) hle
      have e3 : (r.on t.size).i = r.i + t.size := rfl
      have hs := hP (r.on t.size) hb hle hl
      have e5 : P (rst s (r.on t.size).i, (r.on t.size).out) = P (rst s (r.i + t.size), r.out) := rfl
      rw [e5] at hs
      rw [e3] at hgo
      generalize S (r.on t.size) = q at *
      cases hp : P (rst s (r.i + t.size), r.out) with
      | none =>
        rw [hp] at hs
        exact sim_off (doom_loop hK ht (doom_push (sim_none hs)) f')
      | some u =>
        rw [hp] at hs
        obtain ⟨h1, h2, rfl, h4⟩ := sim_some hs
        show Sim s ((pAdd x (rst s q.i, q.out)).bind (pLoop t x P g)) _
        have ha := sim_add (x := x) h1 h2
        cases hpa : pAdd x (rst s q.i, q.out) with
        | none =>
          rw [hpa] at ha
          exact sim_off (doom_loop hK ht (sim_none ha) f')
        | some v =>
          rw [hpa] at ha
          obtain ⟨k1, k2, rfl, k4⟩ := sim_some ha
          have e6 : (q.push x).i = q.i := rfl
          exact sim_loop hP hG hK ht f' g (q.push x) k1 k2 k4 (by rw [e6]; omega) (by rw [e6]; omega)
    · rw [if_neg hc]
      rw [rdLoop_off (fun h => hc h.2)]
      exact sim_on hb hi hl
theorem sim_chain {s t : ByteArray} {x : CN} {P : PS → Option PS} {S : RS → RS} (hP : SimF s P S) (hG : Goes s S) (hK : Keeps S) (ht : bt t 0 = some 32) : SimF s (pChain t x P) (fun r => rdLoop s t x S s.size (S r)) := fun r hb hi hl => by
  have hs := hP r hb hi hl
  show Sim s ((P (rst s r.i, r.out)).bind (pMore t x P)) _
  cases hp : P (rst s r.i, r.out) with
  | none =>
    rw [hp] at hs
    exact sim_off (doom_loop hK ht (sim_none hs) s.size)
  | some u =>
    rw [hp] at hs
    obtain ⟨h1, h2, rfl, h4⟩ := sim_some hs
    have hz := rst_size s (S r).i
    exact sim_loop hP hG hK ht s.size _ (S r) h1 h2 h4 (by omega) (by simp only; omega)
theorem sim_or {s : ByteArray} {P : PS → Option PS} {S : RS → RS} (hP : SimF s P S) (hG : Goes s S) (hK : Keeps S) : SimF s (pOr P) (rdOr s S) :=
  sim_chain (sim_chain hP hG hK rfl) (goes_and hG) (keeps_and hK) rfl
theorem doom_bad {s : ByteArray} {S : RS → RS} (hK : Keeps S) (r : RS) (h : r.bad = true) : Doom s (S r) := Or.inl (Or.inl ((hK r).1 h))
theorem take_apart {s : ByteArray} {i : Nat} {c d : UInt8} (hcd : c ≠ d) (h : takes s ⟨#[c]⟩ i = true) : takes s ⟨#[d]⟩ i = false := by
  cases h2 : takes s ⟨#[d]⟩ i with
  | false => rfl
  | true =>
    have h3 := takes_one.1 h
    rw [takes_one.1 h2] at h3
    cases h3
    exact absurd rfl hcd
theorem sim_shut {s : ByteArray} {r : RS} (hb : r.bad = false) (hi : r.i ≤ s.size) (hl : r.out.length ≤ 30) : Sim s (pShut (rst s r.i, r.out)) (rdShut s r) := by
  unfold pShut rdShut
  simp only
  rw [takes_rst hi]
  by_cases hc : takes s tShut r.i = true
  · rw [if_pos hc, if_pos hc, pRest_rst]
    exact sim_on (r := r.on 1) hb (takes_yes hc).1 hl
  · rw [if_neg hc, if_neg hc]
    exact sim_off (Or.inl (Or.inl rfl))
theorem rdSimple_succ (s : ByteArray) (n : Nat) (r : RS) : rdSimple s (n + 1) r = if 30 < r.out.length then r.spoil
      else if takes s tOpen r.i = true then rdShut s (rdOr s (rdSimple s n) (r.on 1))
      else if takes s tNot r.i = true then (rdSimple s n (r.on 1)).push nNot
      else rdLeaf s r := rfl
theorem leaf_simR (s : ByteArray) (r : RS) (hb : r.bad = false) (hi : r.i ≤ s.size) : Sim s (pLeaf (rst s r.i, r.out)) (rdLeaf s r) := by
  have h := leaf_sim s r.i r.out hi
  rw [← hb] at h
  exact h
theorem pOp_zero (s : PS) : pOp 0 s = if takes s.1 tNot 0 = true then none else if takes s.1 tOpen 0 = true then none else pLeaf s := rfl
theorem pOp_succ (n : Nat) (s : PS) : pOp (n + 1) s = if takes s.1 tNot 0 = true then (pOp n (pRest s.1 tNot, s.2)).bind (pAdd nNot)
    else if takes s.1 tOpen 0 = true then (pOr (pOp n) (pRest s.1 tOpen, s.2)).bind pShut
    else pLeaf s := rfl
set_option maxHeartbeats 1000000 in
theorem sim_op (s : ByteArray) : ∀ n : Nat, SimF s (pOp n) (rdSimple s (n + 1))
  | 0 => fun r hb hi hl => by
    have hb0 : (rdSimple s 0 (r.on 1)).bad = true := rfl
    rw [rdSimple_succ, pOp_zero]
    simp only
    rw [takes_rst hi, takes_rst hi, if_neg (by omega : ¬30 < r.out.length)]
    by_cases h1 : takes s tOpen r.i = true
    · rw [if_pos h1, if_pos h1, take_apart (by decide) h1, if_neg Bool.false_ne_true]
      have hb1 : (rdAnd s (rdSimple s 0) (r.on 1)).bad = true := (keeps_loop (keeps_simple s 0) s.size _).1 hb0
      have hb2 : (rdOr s (rdSimple s 0) (r.on 1)).bad = true := (keeps_loop (keeps_and (keeps_simple s 0)) s.size _).1 hb1
      exact sim_off (doom_shut (Or.inl (Or.inl hb2)))
    · rw [if_neg h1]
      by_cases h2 : takes s tNot r.i = true
      · rw [if_pos h2, if_neg h1, if_pos h2]
        exact sim_off (doom_push (Or.inl (Or.inl hb0)))
      · rw [if_neg h2, if_neg h1, if_neg h2]
        exact leaf_simR s r hb hi
  | n + 1 => fun r hb hi hl => by
    have ih := sim_op s n
    rw [rdSimple_succ, pOp_succ]
    simp only
    rw [takes_rst hi, takes_rst hi, if_neg (by omega : ¬30 < r.out.length)]
    by_cases h1 : takes s tOpen r.i = true
    · rw [if_pos h1, if_pos h1, take_apart (by decide) h1, if_neg Bool.false_ne_true, pRest_rst]
      have hle := (takes_yes h1).1
      have hs := sim_or ih (goes_simple s (n + 1)) (keeps_simple s (n + 1)) (r.on 1) hb hle hl
      have e1 : (r.on 1).i = r.i + tOpen.size := rfl
      have e2 : (r.on 1).out = r.out := rfl
      rw [e1, e2] at hs
      generalize rdOr s (rdSimple s (n + 1)) (r.on 1) = q at *
      cases hp : pOr (pOp n) (rst s (r.i + tOpen.size), r.out) with
      | none =>
        rw [hp] at hs
        exact sim_off (doom_shut (sim_none hs))
      | some u =>
        rw [hp] at hs
        obtain ⟨k1, k2, rfl, k4⟩ := sim_some hs
        exact sim_shut k1 k2 k4
    · rw [if_neg h1, if_neg h1]
      by_cases h2 : takes s tNot r.i = true
      · rw [if_pos h2, if_pos h2, pRest_rst]
        have hle := (takes_yes h2).1
        have hs := ih (r.on 1) hb hle hl
        have e1 : (r.on 1).i = r.i + tNot.size := rfl
        have e2 : (r.on 1).out = r.out := rfl
        rw [e1, e2] at hs
        generalize rdSimple s (n + 1) (r.on 1) = q at *
        cases hp : pOp n (rst s (r.i + tNot.size), r.out) with
        | none =>
          rw [hp] at hs
          exact sim_off (doom_push (sim_none hs))
        | some u =>
          rw [hp] at hs
          obtain ⟨k1, k2, rfl, k4⟩ := sim_some hs
          exact sim_add k1 k2
      · rw [if_neg h2, if_neg h2]
        exact leaf_simR s r hb hi

/-- What is read is a tree. -/
def Tree (P : PS → Option PS) : Prop := ∀ s r : PS, P s = some r → ∃ t : CT, t.ok ∧ r.2 = s.2 ++ t.post
theorem tree_loop {t : ByteArray} {x : CN} {P : PS → Option PS} (mk : CT → CT → CT) (hm : ∀ a b, a.ok → b.ok → (mk a b).ok ∧ (mk a b).post = (a.post ++ b.post) ++ [x]) (hP : Tree P) :
    ∀ (f : Nat) (s r : PS) (l : List CN) (a : CT), a.ok → s.2 = l ++ a.post → pLoop t x P f s = some r → ∃ c : CT, c.ok ∧ r.2 = l ++ c.post
  | 0, s, r, l, a, _, _, h => by cases h
  | f + 1, s, r, l, a, ha, hs, h => by
    unfold pLoop at h
    split at h
    · obtain ⟨u, h1, h2⟩ := bind_some h
      obtain ⟨v, h3, h4⟩ := bind_some h2
      obtain ⟨b, hb, hu⟩ := hP _ _ h1
      obtain ⟨_, e2, _⟩ := add_some h3
      obtain ⟨g1, g2⟩ := hm a b ha hb
      exact tree_loop mk hm hP f v r l (mk a b) g1 (by rw [e2, hu, g2]; show (s.2 ++ b.post) ++ [x] = _; rw [hs]; simp) h4
    · obtain rfl := Option.some.inj h
      exact ⟨a, ha, hs⟩
theorem tree_chain {t : ByteArray} {x : CN} {P : PS → Option PS} (mk : CT → CT → CT) (hm : ∀ a b, a.ok → b.ok → (mk a b).ok ∧ (mk a b).post = (a.post ++ b.post) ++ [x]) (hP : Tree P) : Tree (pChain t x P) := fun s r h => by
  obtain ⟨u, h1, h2⟩ := bind_some h
  obtain ⟨a, ha, hu⟩ := hP _ _ h1
  exact tree_loop mk hm hP _ u r s.2 a ha hu h2
theorem tree_or {P : PS → Option PS} (hP : Tree P) : Tree (pOr P) :=
  tree_chain CT.or (fun _ _ ha hb => ⟨⟨ha, hb⟩, rfl⟩) (tree_chain CT.and (fun _ _ ha hb => ⟨⟨ha, hb⟩, rfl⟩) hP)
theorem tree_leaf : Tree pLeaf := fun s r h => by
  unfold pLeaf at h
  split at h
  · obtain ⟨_, e2, _⟩ := add_some h
    exact ⟨.tt, trivial, e2⟩
  · split at h
    · rename_i hc
      obtain ⟨_, e2, _⟩ := add_some h
      rw [Bool.and_eq_true] at hc
      exact ⟨.is _ _, hc, e2⟩
    · cases h
theorem tree_op : ∀ n, Tree (pOp n)
  | 0 => fun s r h => by
    unfold pOp at h
    split at h
    · cases h
    · split at h
      · cases h
      · exact tree_leaf s r h
  | n + 1 => fun s r h => by
    unfold pOp at h
    split at h
    · obtain ⟨u, h1, h2⟩ := bind_some h
      obtain ⟨a, ha, hu⟩ := tree_op n _ _ h1
      obtain ⟨_, e2, _⟩ := add_some h2
      exact ⟨.no a, ha, by rw [e2, hu]; show (s.2 ++ a.post) ++ [nNot] = s.2 ++ (a.post ++ [nNot]); rw [List.append_assoc]⟩
    · split at h
      · obtain ⟨u, h1, h2⟩ := bind_some h
        obtain ⟨a, ha, hu⟩ := tree_or (tree_op n) _ _ h1
        unfold pShut at h2
        split at h2
        · obtain rfl := Option.some.inj h2
          exact ⟨a, ha, hu⟩
        · cases h2
      · exact tree_leaf s r h

theorem post_codes : ∀ (t : CT), t.ok → ∀ x, x ∈ t.post → x.kind = 1 → isCode.codeB x.opt = true ∧ isCode.codeB x.vl = true
  | .tt, _, x, hx, hk => by
    obtain rfl := List.mem_singleton.1 hx
    cases hk
  | .is o v, h, x, hx, _ => by
    obtain rfl := List.mem_singleton.1 hx
    exact h
  | .no t, h, x, hx, hk => by
    rcases List.mem_append.1 hx with hx | hx
    · exact post_codes t h x hx hk
    · obtain rfl := List.mem_singleton.1 hx
      cases hk
  | .and a b, h, x, hx, hk => by
    rcases List.mem_append.1 hx with hx | hx
    · rcases List.mem_append.1 hx with hx | hx
      · exact post_codes a h.1 x hx hk
      · exact post_codes b h.2 x hx hk
    · obtain rfl := List.mem_singleton.1 hx
      cases hk
  | .or a b, h, x, hx, hk => by
    rcases List.mem_append.1 hx with hx | hx
    · rcases List.mem_append.1 hx with hx | hx
      · exact post_codes a h.1 x hx hk
      · exact post_codes b h.2 x hx hk
    · obtain rfl := List.mem_singleton.1 hx
      cases hk
/-- The program's ParseCond and the model's answer the same. -/
theorem par_same (s : ByteArray) : pPar s = parR s := by
  have hs := sim_or (sim_op s 30) (goes_simple s 31) (keeps_simple s 31) ⟨0, [], false⟩ rfl (Nat.zero_le _) (Nat.zero_le _)
  have e5 : pOr (pOp 30) (rst s (⟨0, [], false⟩ : RS).i, (⟨0, [], false⟩ : RS).out) = pOr (pOp 30) (s, []) := by
    show pOr (pOp 30) (rst s 0, []) = _
    rw [rst_zero]
  rw [e5] at hs
  unfold pPar parR
  have htr := tree_or (tree_op 30) (s, [])
  generalize rdOr s (rdSimple s 31) ⟨0, [], false⟩ = q at *
  cases hp : pOr (pOp 30) (s, []) with
  | none =>
    rw [hp] at hs
    simp only
    rw [if_neg]
    rintro ⟨h1, h2, h3⟩
    rcases sim_none hs with (h | h | ⟨x, hx, hk, hn⟩) | ⟨x, hx, _⟩
    · rw [h1] at h; cases h
    · have := (condB_iff.1 h3).1; omega
    · obtain ⟨t, g1, g2, _⟩ := cond_tree (condB_iff.1 h3)
      rw [g2] at hx
      exact hn (post_codes t g1 x hx hk)
    · have := bt_lt hx
      omega
  | some u =>
    rw [hp] at hs
    obtain ⟨k1, k2, rfl, k4⟩ := sim_some hs
    obtain ⟨t, g1, g2⟩ := htr _ hp
    have g3 : q.out = t.post := g2
    have hz := rst_size s q.i
    simp only
    by_cases he : q.i = s.size
    · rw [if_pos (by omega), if_pos ⟨k1, he, by rw [g3]; exact condB_yes (cond_post g1 (by rw [← g3]; exact k4))⟩]
    · rw [if_neg (by omega), if_neg (fun h => he h.2.1)]
end Go.Proofs.Ytghofgjlmfdnpaa
