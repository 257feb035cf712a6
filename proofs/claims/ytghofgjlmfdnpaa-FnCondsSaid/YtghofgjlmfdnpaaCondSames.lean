import Derived.Test.YtghofgjlmfdnpaaCondPure
import Derived.Lib.IndexLaws
namespace Go.Proofs.Ytghofgjlmfdnpaa

/-- The byte at a place. -/
def bt (s : ByteArray) (m : Nat) : Option UInt8 := s.data.toList[m]?
theorem bt_lt {s : ByteArray} {m : Nat} {x : UInt8} (h : bt s m = some x) : m < s.size := by
  have h1 := (List.getElem?_eq_some_iff.1 h).1
  simpa using h1
theorem bt_some {s : ByteArray} {m : Nat} (h : m < s.size) : bt s m = some (s[m]'h) := Lib.data_getElem? s m h
theorem bt_none {s : ByteArray} {m : Nat} (h : s.size ≤ m) : bt s m = none := by
  unfold bt
  exact List.getElem?_eq_none (by simpa using h)
theorem bt_ext (s : ByteArray) (a b m : Nat) (h : a + m < b) : bt (s.extract a b) m = bt s (a + m) := by
  unfold bt
  rw [ByteArray.data_extract]
  simp only [Array.toList_extract, List.extract_eq_take_drop, List.getElem?_take, List.getElem?_drop]
  rw [if_pos (by omega)]
theorem bt_ext_none (s : ByteArray) (a b m : Nat) (h : b ≤ a + m) : bt (s.extract a b) m = none := by
  apply bt_none
  rw [ByteArray.size_extract]
  omega
theorem bt_inj {s t : ByteArray} (h : ∀ m, bt s m = bt t m) : s = t := by
  have h1 : s.data.toList = t.data.toList := List.ext_getElem? h
  have h2 : s.data = t.data := by
    have := congrArg List.toArray h1
    simpa using this
  cases s; cases t; simp only at h2; rw [h2]
theorem takes_one {s : ByteArray} {c : UInt8} {i : Nat} : takes s ⟨#[c]⟩ i = true ↔ bt s i = some c := by
  have e0 : (⟨#[c]⟩ : ByteArray).size = 1 := rfl
  constructor
  · intro h
    obtain ⟨h1, h2⟩ := takes_yes h
    rw [e0] at h1 h2
    have h3 := bt_ext s i (i + 1) 0 (by omega)
    rw [h2] at h3
    rw [Nat.add_zero] at h3
    rw [← h3]
    rfl
  · intro h
    have h1 := bt_lt h
    refine decide_eq_true ⟨by rw [e0]; omega, ?_⟩
    rw [e0]
    apply bt_inj
    intro m
    by_cases hm : m = 0
    · subst hm
      rw [bt_ext s i (i + 1) 0 (by omega), Nat.add_zero, h]
      rfl
    · rw [bt_ext_none s i (i + 1) m (by omega), bt_none (by rw [e0]; omega)]
theorem takes_first {s t : ByteArray} {i : Nat} (h : takes s t i = true) (ht : 1 ≤ t.size) : bt s i = bt t 0 := by
  obtain ⟨h1, h2⟩ := takes_yes h
  have h3 := bt_ext s i (i + t.size) 0 (by omega)
  rw [h2, Nat.add_zero] at h3
  exact h3.symm
/-- The rest of a text. -/
def rst (s : ByteArray) (i : Nat) : ByteArray := s.extract i s.size
theorem rst_size (s : ByteArray) (i : Nat) : (rst s i).size = s.size - i := by
  unfold rst
  rw [ByteArray.size_extract]
  omega
theorem bt_rst (s : ByteArray) (i m : Nat) : bt (rst s i) m = bt s (i + m) := by
  by_cases h : i + m < s.size
  · exact bt_ext s i s.size m h
  · rw [bt_none (by omega : s.size ≤ i + m)]
    exact bt_ext_none s i s.size m (by omega)
theorem rst_zero (s : ByteArray) : rst s 0 = s := bt_inj (fun m => by rw [bt_rst, Nat.zero_add])
theorem rst_rst (s : ByteArray) (i j : Nat) : (rst s i).extract j (rst s i).size = rst s (i + j) := bt_inj (fun m => by
  show bt (rst (rst s i) j) m = _
  rw [bt_rst, bt_rst, bt_rst, Nat.add_assoc])
theorem rst_piece (s : ByteArray) (i j k : Nat) : (rst s i).extract j k = s.extract (i + j) (i + k) := bt_inj (fun m => by
  by_cases h : j + m < k
  · rw [bt_ext _ _ _ _ h, bt_rst, bt_ext _ _ _ _ (by omega), Nat.add_assoc]
  · rw [bt_ext_none _ _ _ _ (by omega), bt_ext_none _ _ _ _ (by omega)])
theorem takes_rst {s t : ByteArray} {i : Nat} (hi : i ≤ s.size) : takes (rst s i) t 0 = takes s t i := by
  have hz := rst_size s i
  unfold takes
  by_cases h : i + t.size ≤ s.size
  · have e := rst_piece s i 0 (0 + t.size)
    rw [e]
    congr 1
    rw [hz, Nat.zero_add, Nat.add_zero]
    apply propext
    constructor
    · rintro ⟨_, h2⟩; exact ⟨h, h2⟩
    · rintro ⟨_, h2⟩; exact ⟨by omega, h2⟩
  · rw [decide_eq_false (by omega), decide_eq_false (by omega)]
theorem pRest_rst (s t : ByteArray) (i : Nat) : pRest (rst s i) t = rst s (i + t.size) := rst_rst s i t.size

/-- A stop. -/
def isS (x : UInt8) : Bool := [32, 41].contains x
theorem isS_not_W {x : UInt8} (h : isW x.toNat = true) : isS x = false := by
  have h1 : (65 ≤ x.toNat ∧ x.toNat ≤ 90) ∨ (48 ≤ x.toNat ∧ x.toNat ≤ 57) ∨ x.toNat = 45 := of_decide_eq_true h
  by_cases e : isS x = true
  · have h2 : x = 32 ∨ x = 41 := by simpa [isS] using e
    rcases h2 with rfl | rfl <;> simp at h1
  · simpa using e
theorem first_any (l : List UInt8) : ∃ e : Nat, e ≤ l.length ∧ (∀ m b, m < e → l[m]? = some b → isS b = false) ∧ (e = l.length ∨ ∃ x, l[e]? = some x ∧ isS x = true) := by
  induction l with
  | nil => exact ⟨0, Nat.le_refl _, fun m b h => absurd h (Nat.not_lt_zero _), Or.inl rfl⟩
  | cons b l ih =>
    by_cases hb : isS b = true
    · exact ⟨0, Nat.zero_le _, fun m b h => absurd h (Nat.not_lt_zero _), Or.inr ⟨b, rfl, hb⟩⟩
    · obtain ⟨e, h1, h2, h3⟩ := ih
      refine ⟨e + 1, by simp only [List.length_cons]; omega, ?_, ?_⟩
      · intro m c hm hc
        cases m with
        | zero => simp at hc; subst hc; simpa using hb
        | succ m => exact h2 m c (by omega) (by simpa using hc)
      · rcases h3 with h3 | ⟨x, h3, h4⟩
        · exact Or.inl (by simp only [List.length_cons]; omega)
        · exact Or.inr ⟨x, by simpa using h3, h4⟩
/-- Where a word of the program's ends. -/
theorem pEnd_spec (q : ByteArray) : pEnd q ≤ q.size ∧ (∀ m b, m < pEnd q → bt q m = some b → isS b = false) ∧ (∀ x, bt q (pEnd q) = some x → isS x = true) := by
  obtain ⟨e, h1, h2, h3⟩ := first_any q.data.toList
  have hl : q.data.toList.length = q.size := by simp
  have hn : Lib.NoAny q.data.toList [32, 41] e := fun j b hj hb => h2 j b hj hb
  rcases h3 with h3 | ⟨x, h3, h4⟩
  · have hz : Lib.indexAny q.data.toList [32, 41] = -1 := Lib.indexAny_none (by rw [← h3]; exact hn)
    have he : pEnd q = q.size := by unfold pEnd; rw [hz]; rfl
    refine ⟨by omega, ?_, ?_⟩
    · intro m b hm hb
      exact h2 m b (by omega) hb
    · intro x hx
      have := bt_lt hx
      omega
  · have hz : Lib.indexAny q.data.toList [32, 41] = (e : Int) := Lib.indexAny_hit hn h3 h4
    have he : pEnd q = e := by unfold pEnd; rw [hz, if_neg (by omega)]; simp
    rw [he]
    refine ⟨by omega, fun m b hm hb => h2 m b hm hb, ?_⟩
    intro y hy
    have : bt q e = some x := h3
    rw [this] at hy
    cases hy
    exact h4
theorem wEnd_in (s : ByteArray) : ∀ (f i m : Nat), i ≤ m → m < wEnd s f i → ∃ x, bt s m = some x ∧ isW x.toNat = true
  | 0, i, m, h1, h2 => absurd h2 (by show ¬ m < i; omega)
  | f + 1, i, m, h1, h2 => by
    unfold wEnd at h2
    split at h2
    · rename_i hi
      split at h2
      · rename_i hw
        by_cases e : m = i
        · subst e
          exact ⟨_, bt_some hi, hw⟩
        · exact wEnd_in s f (i + 1) m (by omega) h2
      · omega
    · omega
theorem wEnd_stop (s : ByteArray) : ∀ (f i : Nat), s.size ≤ f + i → ∀ x, bt s (wEnd s f i) = some x → isW x.toNat = false
  | 0, i, h, x, hx => by
    have := bt_lt hx
    have e : wEnd s 0 i = i := rfl
    omega
  | f + 1, i, h, x, hx => by
    unfold wEnd at hx
    split at hx
    · rename_i hi
      split at hx
      · exact wEnd_stop s f (i + 1) (by omega) x hx
      · rename_i hw
        rw [bt_some hi] at hx
        cases hx
        simpa using hw
    · rename_i hi
      exact absurd (bt_lt hx) hi
theorem code_W {o : ByteArray} (h : isCode.codeB o = true) : 1 ≤ o.size ∧ ∀ m x, bt o m = some x → isW x.toNat = true := by
  have hl : 1 ≤ o.size ∧ o.size ≤ 8 := by
    by_cases hl : 1 ≤ o.size ∧ o.size ≤ 8
    · exact hl
    · rw [isCode.codeB_len hl] at h; cases h
  refine ⟨hl.1, ?_⟩
  intro m x hx
  have hm := bt_lt hx
  rw [bt_some hm] at hx
  cases hx
  cases hk : isCode.okB m (o[m]'hm).toNat with
  | false => rw [isCode.codeB_no m hm hk] at h; cases h
  | true =>
    have h1 : (65 ≤ (o[m]'hm).toNat ∧ (o[m]'hm).toNat ≤ 90) ∨ (m ≠ 0 ∧ ((48 ≤ (o[m]'hm).toNat ∧ (o[m]'hm).toNat ≤ 57) ∨ (o[m]'hm).toNat = 45)) := of_decide_eq_true hk
    exact decide_eq_true (by omega)
/-- The first '='. -/
theorem pCut_at {w : ByteArray} {j : Nat} (h : bt w j = some 61) (hn : ∀ m, m < j → bt w m ≠ some 61) : pCut w = (w.extract 0 j, w.extract (j + 1) w.size) := by
  have hz : Lib.indexByte w.data.toList 61 = (j : Int) := by
    have hge := Lib.indexByte_ge w.data.toList 61
    by_cases h0 : Lib.indexByte w.data.toList 61 = -1
    · exact absurd h (Lib.indexByte_none h0 j)
    · obtain ⟨o, ho⟩ : ∃ o : Nat, Lib.indexByte w.data.toList 61 = (o : Int) := ⟨(Lib.indexByte w.data.toList 61).toNat, by omega⟩
      obtain ⟨h1, h2⟩ := Lib.indexByte_some ho
      have e1 : ¬ o < j := fun hlt => hn o hlt h1
      have e2 : ¬ j < o := fun hlt => h2 j hlt h
      rw [ho]; omega
  unfold pCut
  rw [hz, if_pos (by omega)]
  simp
theorem pCut_none {w : ByteArray} (hn : ∀ m, bt w m ≠ some 61) : pCut w = (w, eB) := by
  have hz : ¬ 0 ≤ Lib.indexByte w.data.toList 61 := fun h0 => by
    obtain ⟨o, ho⟩ : ∃ o : Nat, Lib.indexByte w.data.toList 61 = (o : Int) := ⟨(Lib.indexByte w.data.toList 61).toNat, by omega⟩
    exact hn o (Lib.indexByte_some ho).1
  unfold pCut
  rw [if_neg hz]
theorem first_eq (w : ByteArray) : (∀ m, bt w m ≠ some 61) ∨ ∃ j, bt w j = some 61 ∧ ∀ m, m < j → bt w m ≠ some 61 := by
  have hge := Lib.indexByte_ge w.data.toList 61
  by_cases h0 : Lib.indexByte w.data.toList 61 = -1
  · exact Or.inl (Lib.indexByte_none h0)
  · obtain ⟨o, ho⟩ : ∃ o : Nat, Lib.indexByte w.data.toList 61 = (o : Int) := ⟨(Lib.indexByte w.data.toList 61).toNat, by omega⟩
    exact Or.inr ⟨o, Lib.indexByte_some ho⟩
theorem true_W (m : Nat) (x : UInt8) (h : bt tTrue m = some x) : isW x.toNat = true := by
  have hm := bt_lt h
  have e : tTrue.size = 4 := rfl
  have h4 : m = 0 ∨ m = 1 ∨ m = 2 ∨ m = 3 := by omega
  rcases h4 with rfl | rfl | rfl | rfl <;> (simp [bt] at h; subst h; rfl)
end Go.Proofs.Ytghofgjlmfdnpaa

namespace Go.Proofs.Ytghofgjlmfdnpaa

/-- Lost for good: a condition can no longer come of it. -/
def Lost (r : RS) : Prop := r.bad = true ∨ 30 < r.out.length ∨ ∃ x, x ∈ r.out ∧ x.kind = 1 ∧ ¬(isCode.codeB x.opt = true ∧ isCode.codeB x.vl = true)
/-- Stuck at a byte that no reader takes behind an operand. -/
def Stuck (s : ByteArray) (r : RS) : Prop := ∃ x, bt s r.i = some x ∧ isS x = false
def Doom (s : ByteArray) (r : RS) : Prop := Lost r ∨ Stuck s r
/-- The program's part has come as far as the model's. -/
def Sim (s : ByteArray) (o : Option PS) (r : RS) : Prop :=
  (o = some (rst s r.i, r.out) ∧ r.bad = false ∧ r.i ≤ s.size ∧ r.out.length ≤ 30) ∨ (o = none ∧ Doom s r)
theorem sim_on {s : ByteArray} {r : RS} (h1 : r.bad = false) (h2 : r.i ≤ s.size) (h3 : r.out.length ≤ 30) : Sim s (some (rst s r.i, r.out)) r := Or.inl ⟨rfl, h1, h2, h3⟩
theorem sim_off {s : ByteArray} {r : RS} (h : Doom s r) : Sim s none r := Or.inr ⟨rfl, h⟩
theorem sim_none {s : ByteArray} {r : RS} (h : Sim s none r) : Doom s r := by
  rcases h with ⟨h, _⟩ | ⟨_, h⟩
  · cases h
  · exact h
theorem sim_some {s : ByteArray} {r : RS} {u : PS} (h : Sim s (some u) r) : r.bad = false ∧ r.i ≤ s.size ∧ u = (rst s r.i, r.out) ∧ r.out.length ≤ 30 := by
  rcases h with ⟨h, h1, h2, h3⟩ | ⟨h, _⟩
  · exact ⟨h1, h2, Option.some.inj h, h3⟩
  · cases h
theorem sim_add {s : ByteArray} {x : CN} {r : RS} (h : r.bad = false) (hi : r.i ≤ s.size) : Sim s (pAdd x (rst s r.i, r.out)) (r.push x) := by
  unfold pAdd
  by_cases hl : r.out.length < 30
  · simp only [if_pos hl]
    exact sim_on (r := r.push x) h hi (by show (r.out ++ [x]).length ≤ 30; rw [List.length_append, List.length_singleton]; omega)
  · simp only [if_neg hl]
    exact sim_off (Or.inl (Or.inr (Or.inl (by show 30 < (r.out ++ [x]).length; rw [List.length_append, List.length_singleton]; omega))))

theorem leaf_none {s : ByteArray} {i : Nat} {l : List CN} (h1 : pWord (rst s i) ≠ tTrue) (h2 : ¬(isCode.codeB (pCut (pWord (rst s i))).1 = true ∧ isCode.codeB (pCut (pWord (rst s i))).2 = true)) : pLeaf (rst s i, l) = none := by
  unfold pLeaf
  simp only
  rw [if_neg h1, if_neg (fun h => h2 (by rwa [Bool.and_eq_true] at h))]
set_option maxHeartbeats 4000000 in
theorem leaf_sim (s : ByteArray) (i : Nat) (l : List CN) (hi : i ≤ s.size) : Sim s (pLeaf (rst s i, l)) (rdLeaf s ⟨i, l, false⟩) := by
  obtain ⟨p1, p2, p3⟩ := pEnd_spec (rst s i)
  obtain ⟨e, he⟩ : ∃ e, i + pEnd (rst s i) = e := ⟨_, rfl⟩
  have hpe : pEnd (rst s i) = e - i := by omega
  have hie : i ≤ e := by omega
  rw [rst_size] at p1
  have hes : e ≤ s.size := by omega
  have q2 : ∀ m x, i ≤ m → m < e → bt s m = some x → isS x = false := fun m x h1 h2 h3 => p2 (m - i) x (by omega) (by rw [bt_rst]; rw [show i + (m - i) = m by omega]; exact h3)
  have q3 : ∀ x, bt s e = some x → isS x = true := fun x h => p3 x (by rw [bt_rst, he]; exact h)
  have hw : pWord (rst s i) = s.extract i e := by
    unfold pWord
    rw [rst_piece, Nat.add_zero, he]
  have hrest : (rst s i).extract (pEnd (rst s i)) (rst s i).size = rst s e := by rw [rst_rst, he]
  have hwz : (s.extract i e).size = e - i := by rw [ByteArray.size_extract]; omega
  obtain ⟨j, hj⟩ : ∃ j, wEnd s s.size i = j := ⟨_, rfl⟩
  have w1 : ∀ m, i ≤ m → m < j → ∃ x, bt s m = some x ∧ isW x.toNat = true := fun m h1 h2 => wEnd_in s s.size i m h1 (by rw [hj]; exact h2)
  have w2 : ∀ x, bt s j = some x → isW x.toNat = false := fun x h => wEnd_stop s s.size i (by omega) x (by rw [hj]; exact h)
  have hij : i ≤ j := by rw [← hj]; exact wEnd_ge _ _ _
  have hjs : j ≤ s.size := by rw [← hj]; exact wEnd_le _ _ _ hi
  have hje : j ≤ e := by
    by_cases h : j ≤ e
    · exact h
    · obtain ⟨x, h1, h2⟩ := w1 e hie (by omega)
      have := q3 x h1
      rw [isS_not_W h2] at this
      cases this
  by_cases hc : takes s tEq j = true
  · have hbj : bt s j = some 61 := takes_one.1 hc
    have hjlt := bt_lt hbj
    have hje2 : j < e := by
      by_cases h : j < e
      · exact h
      · have : j = e := by omega
        subst this
        have := q3 61 hbj
        cases this
    obtain ⟨k, hk⟩ : ∃ k, wEnd s s.size (j + 1) = k := ⟨_, rfl⟩
    have v1 : ∀ m, j + 1 ≤ m → m < k → ∃ x, bt s m = some x ∧ isW x.toNat = true := fun m h1 h2 => wEnd_in s s.size (j + 1) m h1 (by rw [hk]; exact h2)
    have v2 : ∀ x, bt s k = some x → isW x.toNat = false := fun x h => wEnd_stop s s.size (j + 1) (by omega) x (by rw [hk]; exact h)
    have hjk : j + 1 ≤ k := by rw [← hk]; exact wEnd_ge _ _ _
    have hks : k ≤ s.size := by rw [← hk]; exact wEnd_le _ _ _ (by omega)
    have hke : k ≤ e := by
      by_cases h : k ≤ e
      · exact h
      · obtain ⟨x, h1, h2⟩ := v1 e (by omega) (by omega)
        have := q3 x h1
        rw [isS_not_W h2] at this
        cases this
    have hcut : pCut (s.extract i e) = (s.extract i j, s.extract (j + 1) e) := by
      have h1 := pCut_at (w := s.extract i e) (j := j - i) (by rw [bt_ext _ _ _ _ (by omega), show i + (j - i) = j by omega]; exact hbj) (fun m hm => by
        rw [bt_ext _ _ _ _ (by omega)]
        obtain ⟨x, g1, g2⟩ := w1 (i + m) (by omega) (by omega)
        rw [g1]
        intro h
        cases h
        cases g2)
      rw [h1]
      have e1 : (s.extract i e).extract 0 (j - i) = s.extract i j := bt_inj (fun m => by
        by_cases h : m < j - i
        · rw [bt_ext _ _ _ _ (by omega), bt_ext _ _ _ _ (by omega), bt_ext _ _ _ _ (by omega), Nat.zero_add]
        · rw [bt_ext_none _ _ _ _ (by omega), bt_ext_none _ _ _ _ (by omega)])
      have e2 : (s.extract i e).extract (j - i + 1) (s.extract i e).size = s.extract (j + 1) e := bt_inj (fun m => by
        rw [hwz]
        by_cases h : j + 1 + m < e
        · rw [bt_ext _ _ _ _ (by omega), bt_ext _ _ _ _ (by omega), bt_ext _ _ _ _ (by omega), show i + (j - i + 1 + m) = j + 1 + m by omega]
        · rw [bt_ext_none _ _ _ _ (by omega), bt_ext_none _ _ _ _ (by omega)])
      rw [e1, e2]
    have hnt : s.extract i e ≠ tTrue := fun h => by
      have h1 := bt_ext s i e (j - i) (by omega)
      rw [show i + (j - i) = j by omega, hbj, h] at h1
      have := true_W _ _ h1
      cases this
    have hR : rdLeaf s ⟨i, l, false⟩ = ⟨k, l ++ [⟨1, s.extract i j, s.extract (j + 1) k⟩], false⟩ := by
      unfold rdLeaf
      simp only [hj, hk]
      rw [if_pos hc]
    rw [hR]
    by_cases hA : k = e
    · subst hA
      by_cases hcc : isCode.codeB (s.extract i j) = true ∧ isCode.codeB (s.extract (j + 1) k) = true
      · have hP : pLeaf (rst s i, l) = pAdd ⟨1, s.extract i j, s.extract (j + 1) k⟩ (rst s k, l) := by
          unfold pLeaf
          simp only
          rw [hw, hcut, hrest, if_neg hnt, if_pos (by simp only; rw [hcc.1, hcc.2]; rfl)]
        rw [hP]
        exact sim_add (r := ⟨k, l, false⟩) rfl hes
      · rw [leaf_none (by rw [hw]; exact hnt) (by rw [hw, hcut]; exact hcc)]
        exact sim_off (Or.inl (Or.inr (Or.inr ⟨_, List.mem_append_right _ (List.mem_singleton.2 rfl), rfl, hcc⟩)))
    · have hklt : k < e := by omega
      obtain ⟨x, hx⟩ : ∃ x, bt s k = some x := ⟨_, bt_some (by omega)⟩
      rw [leaf_none (by rw [hw]; exact hnt) (by
        rw [hw, hcut]
        rintro ⟨_, h2⟩
        have h3 := (code_W h2).2 (k - (j + 1)) x (by rw [bt_ext _ _ _ _ (by omega), show j + 1 + (k - (j + 1)) = k by omega]; exact hx)
        rw [v2 x hx] at h3
        cases h3)]
      exact sim_off (Or.inr ⟨x, hx, q2 k x (by omega) hklt hx⟩)
  · have hR : rdLeaf s ⟨i, l, false⟩ = ⟨j, l ++ [nTrue], if s.extract i j = tTrue then false else true⟩ := by
      unfold rdLeaf
      simp only [hj]
      rw [if_neg hc]
    rw [hR]
    by_cases ht : s.extract i e = tTrue
    · have hej : e = j := by
        by_cases h : j < e
        · obtain ⟨x, hx⟩ : ∃ x, bt s j = some x := ⟨_, bt_some (by omega)⟩
          have h1 := bt_ext s i e (j - i) (by omega)
          rw [show i + (j - i) = j by omega, hx, ht] at h1
          have h2 := true_W _ _ h1
          rw [w2 x hx] at h2
          cases h2
        · omega
      subst hej
      rw [if_pos ht]
      have hP : pLeaf (rst s i, l) = pAdd nTrue (rst s e, l) := by
        unfold pLeaf
        simp only
        rw [hw, hrest, if_pos ht]
      rw [hP]
      exact sim_add (r := ⟨e, l, false⟩) rfl hes
    · rw [leaf_none (by rw [hw]; exact ht) (by
        rw [hw]
        rintro ⟨h1, h2⟩
        rcases first_eq (s.extract i e) with hn | ⟨m, g1, g2⟩
        · rw [pCut_none hn] at h2
          have := (code_W h2).1
          have e0 : eB.size = 0 := rfl
          simp only at this
          omega
        · rw [pCut_at g1 g2] at h1
          have hm := bt_lt g1
          rw [hwz] at hm
          have g3 : bt s (i + m) = some 61 := by rw [← bt_ext s i e m (by omega)]; exact g1
          have g4 : ∀ n, n < m → ∃ x, bt s (i + n) = some x ∧ isW x.toNat = true := fun n hn => by
            obtain ⟨x, hx⟩ : ∃ x, bt s (i + n) = some x := ⟨_, bt_some (by omega)⟩
            refine ⟨x, hx, (code_W h1).2 n x ?_⟩
            simp only
            rw [bt_ext _ _ _ _ (by omega), Nat.zero_add, bt_ext _ _ _ _ (by omega)]
            exact hx
          have hjm : j = i + m := by
            by_cases a1 : j < i + m
            · obtain ⟨x, k1, k2⟩ := g4 (j - i) (by omega)
              rw [show i + (j - i) = j by omega] at k1
              rw [w2 x k1] at k2
              cases k2
            · by_cases a2 : i + m < j
              · obtain ⟨x, k1, k2⟩ := w1 (i + m) (by omega) a2
                rw [g3] at k1
                cases k1
                cases k2
              · omega
          subst hjm
          exact hc (takes_one.2 g3))]
      by_cases htj : s.extract i j = tTrue
      · have hlt : j < e := by
          by_cases h : j < e
          · exact h
          · have : j = e := by omega
            subst this
            exact absurd htj ht
        obtain ⟨x, hx⟩ : ∃ x, bt s j = some x := ⟨_, bt_some (by omega)⟩
        exact sim_off (Or.inr ⟨x, hx, q2 j x hij hlt hx⟩)
      · rw [if_neg htj]
        exact sim_off (Or.inl (Or.inl rfl))
end Go.Proofs.Ytghofgjlmfdnpaa

namespace Go.Proofs.Ytghofgjlmfdnpaa

/-- What a part of the model's reader leaves as it is. -/
def Keeps (S : RS → RS) : Prop := ∀ r : RS, (r.bad = true → (S r).bad = true) ∧ ∃ e, (S r).out = r.out ++ e
theorem lost_grown {r q : RS} (h : Lost r) (h1 : r.bad = true → q.bad = true) (h2 : ∃ e, q.out = r.out ++ e) : Lost q := by
  obtain ⟨e, he⟩ := h2
  rcases h with h | h | ⟨x, hx, h⟩
  · exact Or.inl (h1 h)
  · exact Or.inr (Or.inl (by rw [he, List.length_append]; omega))
  · exact Or.inr (Or.inr ⟨x, by rw [he]; exact List.mem_append_left _ hx, h⟩)
theorem keeps_on (n : Nat) : Keeps (fun r => r.on n) := fun r => ⟨fun h => h, [], by show r.out = _; simp⟩
theorem keeps_push (x : CN) : Keeps (fun r => r.push x) := fun _ => ⟨fun h => h, [x], rfl⟩
theorem keeps_comp {S T : RS → RS} (hS : Keeps S) (hT : Keeps T) : Keeps (fun r => T (S r)) := fun r => by
  obtain ⟨a1, e1, a2⟩ := hS r
  obtain ⟨b1, e2, b2⟩ := hT (S r)
  exact ⟨fun h => b1 (a1 h), e1 ++ e2, by rw [b2, a2, List.append_assoc]⟩
theorem keeps_loop {s t : ByteArray} {x : CN} {S : RS → RS} (hS : Keeps S) : ∀ f, Keeps (rdLoop s t x S f)
  | 0 => fun r => ⟨fun h => h, [], by show r.out = _; simp⟩
  | f + 1 => fun r => by
    unfold rdLoop
    split
    · exact keeps_comp (keeps_comp (keeps_comp (keeps_on t.size) hS) (keeps_push x)) (keeps_loop hS f) r
    · exact ⟨fun h => h, [], by simp⟩
theorem keeps_and {s : ByteArray} {S : RS → RS} (hS : Keeps S) : Keeps (rdAnd s S) := fun r => keeps_comp (T := fun r => rdLoop s tAnd nAnd S s.size r) hS (keeps_loop hS s.size) r
theorem keeps_or {s : ByteArray} {S : RS → RS} (hS : Keeps S) : Keeps (rdOr s S) := fun r => keeps_comp (T := fun r => rdLoop s tOr nOr (rdAnd s S) s.size r) (keeps_and hS) (keeps_loop (keeps_and hS) s.size) r
theorem keeps_spoil : Keeps RS.spoil := fun r => ⟨fun _ => rfl, [], by show r.out = _; simp⟩
theorem keeps_shut (s : ByteArray) : Keeps (rdShut s) := fun r => by
  unfold rdShut
  split
  · exact keeps_on 1 r
  · exact keeps_spoil r
theorem keeps_leaf (s : ByteArray) : Keeps (rdLeaf s) := fun r => by
  unfold rdLeaf
  split
  · exact ⟨fun h => h, _, rfl⟩
  · refine ⟨fun h => ?_, _, rfl⟩
    simp only
    split
    · exact h
    · rfl
theorem keeps_simple (s : ByteArray) : ∀ n, Keeps (rdSimple s n)
  | 0 => keeps_spoil
  | n + 1 => fun r => by
    unfold rdSimple
    split
    · exact keeps_spoil r
    · split
      · exact keeps_comp (keeps_comp (keeps_on 1) (keeps_or (keeps_simple s n))) (keeps_shut s) r
      · split
        · exact keeps_comp (keeps_comp (keeps_on 1) (keeps_simple s n)) (keeps_push nNot) r
        · exact keeps_leaf s r

theorem stuck_loop {s t : ByteArray} {x : CN} {S : RS → RS} {r : RS} (ht : bt t 0 = some 32) (h : Stuck s r) (f : Nat) : rdLoop s t x S f r = r := by
  refine rdLoop_off (fun hc => ?_) f
  obtain ⟨y, h1, h2⟩ := h
  have h3 := takes_first hc.2 (bt_lt ht)
  rw [h1, ht] at h3
  cases h3
  cases h2
theorem doom_loop {s t : ByteArray} {x : CN} {S : RS → RS} {r : RS} (hS : Keeps S) (ht : bt t 0 = some 32) (h : Doom s r) (f : Nat) : Doom s (rdLoop s t x S f r) := by
  rcases h with h | h
  · exact Or.inl (lost_grown h (keeps_loop hS f r).1 (keeps_loop hS f r).2)
  · rw [stuck_loop ht h]
    exact Or.inr h
theorem doom_push {s : ByteArray} {r : RS} {x : CN} (h : Doom s r) : Doom s (r.push x) := by
  rcases h with h | h
  · exact Or.inl (lost_grown h (fun h => h) ⟨[x], rfl⟩)
  · exact Or.inr h
theorem doom_shut {s : ByteArray} {r : RS} (h : Doom s r) : Doom s (rdShut s r) := by
  rcases h with h | h
  · exact Or.inl (lost_grown h (keeps_shut s r).1 (keeps_shut s r).2)
  · obtain ⟨y, h1, h2⟩ := h
    unfold rdShut
    split
    · rename_i hc
      have h3 := takes_one.1 hc
      rw [h1] at h3
      cases h3
      cases h2
    · exact Or.inl (Or.inl rfl)

/-- A part of the program's reader reads as a part of the model's. -/
def SimF (s : ByteArray) (P : PS → Option PS) (S : RS → RS) : Prop := ∀ r : RS, r.bad = false → r.i ≤ s.size → r.out.length ≤ 30 → Sim s (P (rst s r.i, r.out)) (S r)
theorem sim_loop {s t : ByteArray} {x : CN} {P : PS → Option PS} {S : RS → RS} (hP : SimF s P S) (hG : Goes s S) (hK : Keeps S) (ht : bt t 0 = some 32) :
    ∀ (f g : Nat) (r : RS), r.bad = false → r.i ≤ s.size → r.out.length ≤ 30 → s.size ≤ f + r.i → s.size < g + r.i → Sim s (pLoop t x P g (rst s r.i, r.out)) (rdLoop s t x S f r)
  | f, 0, r, hb, hi, hl, hf, hg => absurd hg (by omega)
  | f, g + 1, r, hb, hi, hl, hf, hg => by
    have htz := bt_lt ht
    unfold pLoop
    simp only
    rw [takes_rst hi]
    by_cases hc : takes s t r.i = true
    · rw [if_pos hc]
      have hle := (takes_yes hc).1
      obtain ⟨f', rfl⟩ : ∃ f', f = f' + 1 := ⟨f - 1, by omega⟩
      have hm : rdLoop s t x S (f' + 1) r = rdLoop s t x S f' ((S (r.on t.size)).push x) := if_pos ⟨hb, hc⟩
      rw [hm, pRest_rst]
      have hgo := hG (r.on t.size) hle
      have e3 : (r.on t.size).i = r.i + t.size := rfl
      have hs := hP (r.on t.size) hb hle hl
      have e5 : P (rst s (r.on t.size).i, (r.on t.size).out) = P (rst s (r.i + t.size), r.out) := rfl
      rw [e5] at hs
      rw [e3] at hgo
      generalize S (r.on t.size) = q at *
      cases hp : P (rst s (r.i + t.size), r.out) with
      | none =>
        rw [hp] at hs
        exact sim_off (doom_loop hK ht (doom_push (sim_none hs)) f')
      | some u =>
        rw [hp] at hs
        obtain ⟨h1, h2, rfl, h4⟩ := sim_some hs
        show Sim s ((pAdd x (rst s q.i, q.out)).bind (pLoop t x P g)) _
        have ha := sim_add (x := x) h1 h2
        cases hpa : pAdd x (rst s q.i, q.out) with
        | none =>
          rw [hpa] at ha
          exact sim_off (doom_loop hK ht (sim_none ha) f')
        | some v =>
          rw [hpa] at ha
          obtain ⟨k1, k2, rfl, k4⟩ := sim_some ha
          have e6 : (q.push x).i = q.i := rfl
          exact sim_loop hP hG hK ht f' g (q.push x) k1 k2 k4 (by rw [e6]; omega) (by rw [e6]; omega)
    · rw [if_neg hc]
      rw [rdLoop_off (fun h => hc h.2)]
      exact sim_on hb hi hl
theorem sim_chain {s t : ByteArray} {x : CN} {P : PS → Option PS} {S : RS → RS} (hP : SimF s P S) (hG : Goes s S) (hK : Keeps S) (ht : bt t 0 = some 32) : SimF s (pChain t x P) (fun r => rdLoop s t x S s.size (S r)) := fun r hb hi hl => by
  have hs := hP r hb hi hl
  show Sim s ((P (rst s r.i, r.out)).bind (pMore t x P)) _
  cases hp : P (rst s r.i, r.out) with
  | none =>
    rw [hp] at hs
    exact sim_off (doom_loop hK ht (sim_none hs) s.size)
  | some u =>
    rw [hp] at hs
    obtain ⟨h1, h2, rfl, h4⟩ := sim_some hs
    have hz := rst_size s (S r).i
    exact sim_loop hP hG hK ht s.size _ (S r) h1 h2 h4 (by omega) (by simp only; omega)
theorem sim_or {s : ByteArray} {P : PS → Option PS} {S : RS → RS} (hP : SimF s P S) (hG : Goes s S) (hK : Keeps S) : SimF s (pOr P) (rdOr s S) :=
  sim_chain (sim_chain hP hG hK rfl) (goes_and hG) (keeps_and hK) rfl
theorem doom_bad {s : ByteArray} {S : RS → RS} (hK : Keeps S) (r : RS) (h : r.bad = true) : Doom s (S r) := Or.inl (Or.inl ((hK r).1 h))
theorem take_apart {s : ByteArray} {i : Nat} {c d : UInt8} (hcd : c ≠ d) (h : takes s ⟨#[c]⟩ i = true) : takes s ⟨#[d]⟩ i = false := by
  cases h2 : takes s ⟨#[d]⟩ i with
  | false => rfl
  | true =>
    have h3 := takes_one.1 h
    rw [takes_one.1 h2] at h3
    cases h3
    exact absurd rfl hcd
theorem sim_shut {s : ByteArray} {r : RS} (hb : r.bad = false) (hi : r.i ≤ s.size) (hl : r.out.length ≤ 30) : Sim s (pShut (rst s r.i, r.out)) (rdShut s r) := by
  unfold pShut rdShut
  simp only
  rw [takes_rst hi]
  by_cases hc : takes s tShut r.i = true
  · rw [if_pos hc, if_pos hc, pRest_rst]
    exact sim_on (r := r.on 1) hb (takes_yes hc).1 hl
  · rw [if_neg hc, if_neg hc]
    exact sim_off (Or.inl (Or.inl rfl))
theorem rdSimple_succ (s : ByteArray) (n : Nat) (r : RS) : rdSimple s (n + 1) r = if 30 < r.out.length then r.spoil
      else if takes s tOpen r.i = true then rdShut s (rdOr s (rdSimple s n) (r.on 1))
      else if takes s tNot r.i = true then (rdSimple s n (r.on 1)).push nNot
      else rdLeaf s r := rfl
theorem leaf_simR (s : ByteArray) (r : RS) (hb : r.bad = false) (hi : r.i ≤ s.size) : Sim s (pLeaf (rst s r.i, r.out)) (rdLeaf s r) := by
  have h := leaf_sim s r.i r.out hi
  rw [← hb] at h
  exact h
theorem pOp_zero (s : PS) : pOp 0 s = if takes s.1 tNot 0 = true then none else if takes s.1 tOpen 0 = true then none else pLeaf s := rfl
theorem pOp_succ (n : Nat) (s : PS) : pOp (n + 1) s = if takes s.1 tNot 0 = true then (pOp n (pRest s.1 tNot, s.2)).bind (pAdd nNot)
    else if takes s.1 tOpen 0 = true then (pOr (pOp n) (pRest s.1 tOpen, s.2)).bind pShut
    else pLeaf s := rfl
set_option maxHeartbeats 1000000 in
theorem sim_op (s : ByteArray) : ∀ n : Nat, SimF s (pOp n) (rdSimple s (n + 1))
  | 0 => fun r hb hi hl => by
    have hb0 : (rdSimple s 0 (r.on 1)).bad = true := rfl
    rw [rdSimple_succ, pOp_zero]
    simp only
    rw [takes_rst hi, takes_rst hi, if_neg (by omega : ¬30 < r.out.length)]
    by_cases h1 : takes s tOpen r.i = true
    · rw [if_pos h1, if_pos h1, take_apart (by decide) h1, if_neg Bool.false_ne_true]
      have hb1 : (rdAnd s (rdSimple s 0) (r.on 1)).bad = true := (keeps_loop (keeps_simple s 0) s.size _).1 hb0
      have hb2 : (rdOr s (rdSimple s 0) (r.on 1)).bad = true := (keeps_loop (keeps_and (keeps_simple s 0)) s.size _).1 hb1
      exact sim_off (doom_shut (Or.inl (Or.inl hb2)))
    · rw [if_neg h1]
      by_cases h2 : takes s tNot r.i = true
      · rw [if_pos h2, if_neg h1, if_pos h2]
        exact sim_off (doom_push (Or.inl (Or.inl hb0)))
      · rw [if_neg h2, if_neg h1, if_neg h2]
        exact leaf_simR s r hb hi
  | n + 1 => fun r hb hi hl => by
    have ih := sim_op s n
    rw [rdSimple_succ, pOp_succ]
    simp only
    rw [takes_rst hi, takes_rst hi, if_neg (by omega : ¬30 < r.out.length)]
    by_cases h1 : takes s tOpen r.i = true
    · rw [if_pos h1, if_pos h1, take_apart (by decide) h1, if_neg Bool.false_ne_true, pRest_rst]
      have hle := (takes_yes h1).1
      have hs := sim_or ih (goes_simple s (n + 1)) (keeps_simple s (n + 1)) (r.on 1) hb hle hl
      have e1 : (r.on 1).i = r.i + tOpen.size := rfl
      have e2 : (r.on 1).out = r.out := rfl
      rw [e1, e2] at hs
      generalize rdOr s (rdSimple s (n + 1)) (r.on 1) = q at *
      cases hp : pOr (pOp n) (rst s (r.i + tOpen.size), r.out) with
      | none =>
        rw [hp] at hs
        exact sim_off (doom_shut (sim_none hs))
      | some u =>
        rw [hp] at hs
        obtain ⟨k1, k2, rfl, k4⟩ := sim_some hs
        exact sim_shut k1 k2 k4
    · rw [if_neg h1, if_neg h1]
      by_cases h2 : takes s tNot r.i = true
      · rw [if_pos h2, if_pos h2, pRest_rst]
        have hle := (takes_yes h2).1
        have hs := ih (r.on 1) hb hle hl
        have e1 : (r.on 1).i = r.i + tNot.size := rfl
        have e2 : (r.on 1).out = r.out := rfl
        rw [e1, e2] at hs
        generalize rdSimple s (n + 1) (r.on 1) = q at *
        cases hp : pOp n (rst s (r.i + tNot.size), r.out) with
        | none =>
          rw [hp] at hs
          exact sim_off (doom_push (sim_none hs))
        | some u =>
          rw [hp] at hs
          obtain ⟨k1, k2, rfl, k4⟩ := sim_some hs
          exact sim_add k1 k2
      · rw [if_neg h2, if_neg h2]
        exact leaf_simR s r hb hi

/-- What is read is a tree. -/
def Tree (P : PS → Option PS) : Prop := ∀ s r : PS, P s = some r → ∃ t : CT, t.ok ∧ r.2 = s.2 ++ t.post
theorem tree_loop {t : ByteArray} {x : CN} {P : PS → Option PS} (mk : CT → CT → CT) (hm : ∀ a b, a.ok → b.ok → (mk a b).ok ∧ (mk a b).post = (a.post ++ b.post) ++ [x]) (hP : Tree P) :
    ∀ (f : Nat) (s r : PS) (l : List CN) (a : CT), a.ok → s.2 = l ++ a.post → pLoop t x P f s = some r → ∃ c : CT, c.ok ∧ r.2 = l ++ c.post
  | 0, s, r, l, a, _, _, h => by cases h
  | f + 1, s, r, l, a, ha, hs, h => by
    unfold pLoop at h
    split at h
    · obtain ⟨u, h1, h2⟩ := bind_some h
      obtain ⟨v, h3, h4⟩ := bind_some h2
      obtain ⟨b, hb, hu⟩ := hP _ _ h1
      obtain ⟨_, e2, _⟩ := add_some h3
      obtain ⟨g1, g2⟩ := hm a b ha hb
      exact tree_loop mk hm hP f v r l (mk a b) g1 (by rw [e2, hu, g2]; show (s.2 ++ b.post) ++ [x] = _; rw [hs]; simp) h4
    · obtain rfl := Option.some.inj h
      exact ⟨a, ha, hs⟩
theorem tree_chain {t : ByteArray} {x : CN} {P : PS → Option PS} (mk : CT → CT → CT) (hm : ∀ a b, a.ok → b.ok → (mk a b).ok ∧ (mk a b).post = (a.post ++ b.post) ++ [x]) (hP : Tree P) : Tree (pChain t x P) := fun s r h => by
  obtain ⟨u, h1, h2⟩ := bind_some h
  obtain ⟨a, ha, hu⟩ := hP _ _ h1
  exact tree_loop mk hm hP _ u r s.2 a ha hu h2
theorem tree_or {P : PS → Option PS} (hP : Tree P) : Tree (pOr P) :=
  tree_chain CT.or (fun _ _ ha hb => ⟨⟨ha, hb⟩, rfl⟩) (tree_chain CT.and (fun _ _ ha hb => ⟨⟨ha, hb⟩, rfl⟩) hP)
theorem tree_leaf : Tree pLeaf := fun s r h => by
  unfold pLeaf at h
  split at h
  · obtain ⟨_, e2, _⟩ := add_some h
    exact ⟨.tt, trivial, e2⟩
  · split at h
    · rename_i hc
      obtain ⟨_, e2, _⟩ := add_some h
      rw [Bool.and_eq_true] at hc
      exact ⟨.is _ _, hc, e2⟩
    · cases h
theorem tree_op : ∀ n, Tree (pOp n)
  | 0 => fun s r h => by
    unfold pOp at h
    split at h
    · cases h
    · split at h
      · cases h
      · exact tree_leaf s r h
  | n + 1 => fun s r h => by
    unfold pOp at h
    split at h
    · obtain ⟨u, h1, h2⟩ := bind_some h
      obtain ⟨a, ha, hu⟩ := tree_op n _ _ h1
      obtain ⟨_, e2, _⟩ := add_some h2
      exact ⟨.no a, ha, by rw [e2, hu]; show (s.2 ++ a.post) ++ [nNot] = s.2 ++ (a.post ++ [nNot]); rw [List.append_assoc]⟩
    · split at h
      · obtain ⟨u, h1, h2⟩ := bind_some h
        obtain ⟨a, ha, hu⟩ := tree_or (tree_op n) _ _ h1
        unfold pShut at h2
        split at h2
        · obtain rfl := Option.some.inj h2
          exact ⟨a, ha, hu⟩
        · cases h2
      · exact tree_leaf s r h

theorem post_codes : ∀ (t : CT), t.ok → ∀ x, x ∈ t.post → x.kind = 1 → isCode.codeB x.opt = true ∧ isCode.codeB x.vl = true
  | .tt, _, x, hx, hk => by
    obtain rfl := List.mem_singleton.1 hx
    cases hk
  | .is o v, h, x, hx, _ => by
    obtain rfl := List.mem_singleton.1 hx
    exact h
  | .no t, h, x, hx, hk => by
    rcases List.mem_append.1 hx with hx | hx
    · exact post_codes t h x hx hk
    · obtain rfl := List.mem_singleton.1 hx
      cases hk
  | .and a b, h, x, hx, hk => by
    rcases List.mem_append.1 hx with hx | hx
    · rcases List.mem_append.1 hx with hx | hx
      · exact post_codes a h.1 x hx hk
      · exact post_codes b h.2 x hx hk
    · obtain rfl := List.mem_singleton.1 hx
      cases hk
  | .or a b, h, x, hx, hk => by
    rcases List.mem_append.1 hx with hx | hx
    · rcases List.mem_append.1 hx with hx | hx
      · exact post_codes a h.1 x hx hk
      · exact post_codes b h.2 x hx hk
    · obtain rfl := List.mem_singleton.1 hx
      cases hk
/-- The program's ParseCond and the model's answer the same. -/
theorem par_same (s : ByteArray) : pPar s = parR s := by
  have hs := sim_or (sim_op s 30) (goes_simple s 31) (keeps_simple s 31) ⟨0, [], false⟩ rfl (Nat.zero_le _) (Nat.zero_le _)
  have e5 : pOr (pOp 30) (rst s (⟨0, [], false⟩ : RS).i, (⟨0, [], false⟩ : RS).out) = pOr (pOp 30) (s, []) := by
    show pOr (pOp 30) (rst s 0, []) = _
    rw [rst_zero]
  rw [e5] at hs
  unfold pPar parR
  have htr := tree_or (tree_op 30) (s, [])
  generalize rdOr s (rdSimple s 31) ⟨0, [], false⟩ = q at *
  cases hp : pOr (pOp 30) (s, []) with
  | none =>
    rw [hp] at hs
    simp only
    rw [if_neg]
    rintro ⟨h1, h2, h3⟩
    rcases sim_none hs with (h | h | ⟨x, hx, hk, hn⟩) | ⟨x, hx, _⟩
    · rw [h1] at h; cases h
    · have := (condB_iff.1 h3).1; omega
    · obtain ⟨t, g1, g2, _⟩ := cond_tree (condB_iff.1 h3)
      rw [g2] at hx
      exact hn (post_codes t g1 x hx hk)
    · have := bt_lt hx
      omega
  | some u =>
    rw [hp] at hs
    obtain ⟨k1, k2, rfl, k4⟩ := sim_some hs
    obtain ⟨t, g1, g2⟩ := htr _ hp
    have g3 : q.out = t.post := g2
    have hz := rst_size s q.i
    simp only
    by_cases he : q.i = s.size
    · rw [if_pos (by omega), if_pos ⟨k1, he, by rw [g3]; exact condB_yes (cond_post g1 (by rw [← g3]; exact k4))⟩]
    · rw [if_neg (by omega), if_neg (fun h => he h.2.1)]
end Go.Proofs.Ytghofgjlmfdnpaa

namespace Go.Proofs.Ytghofgjlmfdnpaa

/-- How deep the text of a condition nests. -/
def CT.dp : CT → Nat → Nat
  | .tt, _ => 0
  | .is _ _, _ => 0
  | .no t, _ => 1 + t.dp 3
  | .and a b, k => (if 2 < k then 1 else 0) + max (a.dp 2) (b.dp 3)
  | .or a b, k => (if 1 < k then 1 else 0) + max (a.dp 1) (b.dp 2)
theorem dp_lt : ∀ (t : CT) (k : Nat), t.dp k < t.post.length
  | .tt, _ => by show 0 < 1; decide
  | .is _ _, _ => by show 0 < 1; decide
  | .no t, _ => by
    have h := dp_lt t 3
    show 1 + t.dp 3 < (t.post ++ [_]).length
    rw [List.length_append, List.length_singleton]
    omega
  | .and a b, k => by
    have h1 := dp_lt a 2
    have h2 := dp_lt b 3
    show (if 2 < k then 1 else 0) + max (a.dp 2) (b.dp 3) < ((a.post ++ b.post) ++ [_]).length
    rw [List.length_append, List.length_append, List.length_singleton]
    split <;> omega
  | .or a b, k => by
    have h1 := dp_lt a 1
    have h2 := dp_lt b 2
    show (if 1 < k then 1 else 0) + max (a.dp 1) (b.dp 2) < ((a.post ++ b.post) ++ [_]).length
    rw [List.length_append, List.length_append, List.length_singleton]
    split <;> omega
theorem bt_cat (a b : ByteArray) (m : Nat) : bt (a ++ b) m = if m < a.size then bt a m else bt b (m - a.size) := by
  have hl : a.data.toList.length = a.size := by simp
  unfold bt
  rw [ByteArray.data_append, Array.toList_append, List.getElem?_append, hl]
theorem bt_left {a b : ByteArray} {m : Nat} (h : m < a.size) : bt (a ++ b) m = bt a m := by rw [bt_cat, if_pos h]
theorem bt_right (a b : ByteArray) (m : Nat) : bt (a ++ b) (a.size + m) = bt b m := by
  rw [bt_cat, if_neg (by omega)]
  congr 1
  omega
theorem cat_assoc (a b c : ByteArray) : (a ++ b) ++ c = a ++ (b ++ c) := ByteArray.append_assoc
theorem piece_left (a b : ByteArray) : (a ++ b).extract 0 a.size = a := bt_inj (fun m => by
  by_cases h : m < a.size
  · rw [bt_ext _ _ _ _ (by omega), Nat.zero_add, bt_left h]
  · rw [bt_ext_none _ _ _ _ (by omega), bt_none (by omega)])
theorem piece_right (a b : ByteArray) : (a ++ b).extract a.size (a ++ b).size = b := bt_inj (fun m => by
  have h := bt_rst (a ++ b) a.size m
  rw [bt_right] at h
  exact h)
theorem takes_cat (t x : ByteArray) : takes (t ++ x) t 0 = true := decide_eq_true ⟨by rw [cat_size]; omega, by rw [Nat.zero_add]; exact piece_left t x⟩
theorem pRest_cat (t x : ByteArray) : pRest (t ++ x) t = x := piece_right t x
theorem takes_not {q t : ByteArray} (ht : 1 ≤ t.size) (h : bt q 0 ≠ bt t 0) : takes q t 0 = false := by
  cases hc : takes q t 0 with
  | false => rfl
  | true => exact absurd (takes_first hc ht) h
/-- What may stand behind an operand. -/
def Behind (q : ByteArray) : Prop := ∀ x, bt q 0 = some x → isS x = true
theorem behind_cat {t q : ByteArray} {x : UInt8} (ht : bt t 0 = some x) (hx : isS x = true) : Behind (t ++ q) := fun y hy => by
  rw [bt_left (bt_lt ht), ht] at hy
  cases hy
  exact hx
theorem pEnd_word {w q : ByteArray} (hw : ∀ m x, bt w m = some x → isS x = false) (hq : Behind q) : pEnd (w ++ q) = w.size := by
  obtain ⟨p1, p2, p3⟩ := pEnd_spec (w ++ q)
  rw [cat_size] at p1
  by_cases h1 : pEnd (w ++ q) < w.size
  · have h2 := bt_some h1
    have h3 := p3 _ ((bt_left h1).trans h2)
    rw [hw _ _ h2] at h3
    cases h3
  · by_cases h2 : w.size < pEnd (w ++ q)
    · have h3 : (0 : Nat) < q.size := by omega
      have h4 := bt_some h3
      have h5 := bt_right w q 0
      rw [Nat.add_zero, h4] at h5
      have h6 := p2 _ _ h2 h5
      rw [hq _ h4] at h6
      cases h6
    · omega
theorem leaf_tt (q : ByteArray) (l : List CN) (hq : Behind q) (hl : l.length < 30) : pLeaf (tTrue ++ q, l) = some (q, l ++ [nTrue]) := by
  have he := pEnd_word (w := tTrue) (fun m x h => isS_not_W (true_W m x h)) hq
  have hw : pWord (tTrue ++ q) = tTrue := by unfold pWord; rw [he]; exact piece_left _ _
  unfold pLeaf
  simp only
  rw [if_pos hw, he, piece_right]
  exact if_pos hl
theorem is_byte {o v : ByteArray} (ho : isCode.codeB o = true) (hv : isCode.codeB v = true) (m : Nat) (x : UInt8) (h : bt ((o ++ tEq) ++ v) m = some x) : isW x.toNat = true ∨ (m = o.size ∧ x = 61) := by
  have e : tEq.size = 1 := rfl
  by_cases h1 : m < o.size
  · rw [bt_left (by rw [cat_size]; omega), bt_left h1] at h
    exact Or.inl ((code_W ho).2 m x h)
  · by_cases h2 : m = o.size
    · subst h2
      rw [bt_left (by rw [cat_size]; omega)] at h
      have h3 := bt_right o tEq 0
      rw [Nat.add_zero, h] at h3
      have h4 : bt tEq 0 = some 61 := rfl
      rw [h4] at h3
      cases h3
      exact Or.inr ⟨rfl, rfl⟩
    · rw [bt_cat, if_neg (by rw [cat_size]; omega)] at h
      exact Or.inl ((code_W hv).2 _ x h)
theorem leaf_is (o v q : ByteArray) (l : List CN) (ho : isCode.codeB o = true) (hv : isCode.codeB v = true) (hq : Behind q) (hl : l.length < 30) : pLeaf (((o ++ tEq) ++ v) ++ q, l) = some (q, l ++ [⟨1, o, v⟩]) := by
  have e : tEq.size = 1 := rfl
  have he := pEnd_word (w := (o ++ tEq) ++ v) (fun m x h => by
    rcases is_byte ho hv m x h with h1 | ⟨_, rfl⟩
    · exact isS_not_W h1
    · rfl) hq
  have hw : pWord (((o ++ tEq) ++ v) ++ q) = (o ++ tEq) ++ v := by unfold pWord; rw [he]; exact piece_left _ _
  have hb : bt ((o ++ tEq) ++ v) o.size = some 61 := by
    rw [bt_left (by rw [cat_size]; omega)]
    exact (bt_right o tEq 0)
  have hc : pCut ((o ++ tEq) ++ v) = (o, v) := by
    rw [pCut_at hb (fun m hm h => by
      rcases is_byte ho hv m 61 h with h1 | ⟨h1, _⟩
      · cases h1
      · omega)]
    have e1 : ((o ++ tEq) ++ v).extract 0 o.size = o := by rw [cat_assoc]; exact piece_left _ _
    have e2 : ((o ++ tEq) ++ v).extract (o.size + 1) ((o ++ tEq) ++ v).size = v := by
      have h := piece_right (o ++ tEq) v
      rw [cat_size o tEq, e] at h
      exact h
    rw [e1, e2]
  have hnt : (o ++ tEq) ++ v ≠ tTrue := fun h => by
    rw [h] at hb
    cases true_W _ _ hb
  unfold pLeaf
  simp only
  rw [hw, if_neg hnt, hc, if_pos (by simp only; rw [ho, hv]; rfl), he, piece_right]
  exact if_pos hl

/-- What is not a leaf's first byte. -/
theorem fst_W {w q : ByteArray} {c : UInt8} (h1 : 1 ≤ w.size) (hw : ∀ x, bt w 0 = some x → isW x.toNat = true) (hc : isW c.toNat = false) : takes (w ++ q) ⟨#[c]⟩ 0 = false := by
  cases h : takes (w ++ q) ⟨#[c]⟩ 0 with
  | false => rfl
  | true =>
    have h2 := takes_one.1 h
    rw [bt_left h1] at h2
    have := hw c h2
    rw [hc] at this
    cases this
theorem op_leaf (n : Nat) (w q : ByteArray) (l : List CN) (h1 : 1 ≤ w.size) (hw : ∀ x, bt w 0 = some x → isW x.toNat = true) : pOp n (w ++ q, l) = pLeaf (w ++ q, l) := by
  have a1 := fst_W (q := q) h1 hw (c := 33) (by decide)
  have a2 := fst_W (q := q) h1 hw (c := 40) (by decide)
  cases n with
  | zero => rw [pOp_zero]; simp only; rw [if_neg (by rw [a1]; exact Bool.noConfusion), if_neg (by rw [a2]; exact Bool.noConfusion)]
  | succ n => rw [pOp_succ]; simp only; rw [if_neg (by rw [a1]; exact Bool.noConfusion), if_neg (by rw [a2]; exact Bool.noConfusion)]

/-- Read as an operand; as a chain of and; as a chain of or. -/
def R3 (t : CT) : Prop := ∀ (n : Nat) (q : ByteArray) (l : List CN), t.dp 3 ≤ n → l.length + t.post.length ≤ 30 → Behind q → pOp n (t.fmt 3 ++ q, l) = some (q, l ++ t.post)
def R2 (t : CT) : Prop := ∀ (n : Nat) (q : ByteArray) (l : List CN), t.dp 2 ≤ n → l.length + t.post.length ≤ 30 → Behind q → pChain tAnd nAnd (pOp n) (t.fmt 2 ++ q, l) = pMore tAnd nAnd (pOp n) (q, l ++ t.post)
def R1 (t : CT) : Prop := ∀ (n : Nat) (q : ByteArray) (l : List CN), t.dp 1 ≤ n → l.length + t.post.length ≤ 30 → Behind q → takes q tAnd 0 = false → pOr (pOp n) (t.fmt 1 ++ q, l) = pMore tOr nOr (pChain tAnd nAnd (pOp n)) (q, l ++ t.post)
theorem r2_of_r3 {t : CT} (h : R3 t) (e1 : t.fmt 2 = t.fmt 3) (e2 : t.dp 2 = t.dp 3) : R2 t := fun n q l hd hl hq => by
  show (pOp n (t.fmt 2 ++ q, l)).bind _ = _
  rw [e1, h n q l (by omega) hl hq]
  rfl
theorem r1_of_r2 {t : CT} (h : R2 t) (e1 : t.fmt 1 = t.fmt 2) (e2 : t.dp 1 = t.dp 2) : R1 t := fun n q l hd hl hq hn => by
  show (pChain tAnd nAnd (pOp n) (t.fmt 1 ++ q, l)).bind _ = _
  rw [e1, h n q l (by omega) hl hq, more_off hn]
  rfl
theorem r3_of_r1 {t : CT} (h : R1 t) (e1 : t.fmt 3 = (tOpen ++ t.fmt 1) ++ tShut) (e2 : t.dp 3 = 1 + t.dp 1) : R3 t := fun n q l hd hl hq => by
  obtain ⟨m, rfl⟩ : ∃ m, n = m + 1 := ⟨n - 1, by omega⟩
  have e3 : t.fmt 3 ++ q = tOpen ++ (t.fmt 1 ++ (tShut ++ q)) := by rw [e1, cat_assoc, cat_assoc]
  have hs1 : takes (tShut ++ q) tAnd 0 = false := takes_not (by decide) (by rw [bt_left (by decide)]; decide)
  have hs2 : takes (tShut ++ q) tOr 0 = false := takes_not (by decide) (by rw [bt_left (by decide)]; decide)
  have hn : takes (tOpen ++ (t.fmt 1 ++ (tShut ++ q))) tNot 0 = false := takes_not (by decide) (by rw [bt_left (by decide)]; decide)
  rw [e3, pOp_succ]
  simp only
  rw [if_neg (by rw [hn]; exact Bool.noConfusion), if_pos (takes_cat _ _), pRest_cat, h m _ l (by omega) hl (behind_cat (x := 41) rfl rfl) hs1, more_off hs2]
  show pShut (tShut ++ q, l ++ t.post) = _
  unfold pShut
  simp only
  rw [if_pos (takes_cat _ _), pRest_cat]
theorem trip : ∀ t : CT, t.ok → R3 t ∧ R2 t ∧ R1 t
  | .tt, _ => by
    have h3 : R3 .tt := fun n q l _ hl hq => by
      show pOp n (tTrue ++ q, l) = _
      rw [op_leaf n tTrue q l (by decide) (fun x h => true_W 0 x h)]
      exact leaf_tt q l hq (by have e : CT.tt.post.length = 1 := rfl
                               omega)
    have h2 : R2 .tt := r2_of_r3 h3 rfl rfl
    exact ⟨h3, h2, r1_of_r2 h2 rfl rfl⟩
  | .is o v, hok => by
    have h3 : R3 (.is o v) := fun n q l _ hl hq => by
      show pOp n (((o ++ tEq) ++ v) ++ q, l) = _
      have e : tEq.size = 1 := rfl
      rw [op_leaf n ((o ++ tEq) ++ v) q l (by rw [cat_size, cat_size]; omega) (fun x h => by
        have h1 := (code_W hok.1).1
        rcases is_byte hok.1 hok.2 0 x h with h2 | ⟨h2, _⟩
        · exact h2
        · omega)]
      exact leaf_is o v q l hok.1 hok.2 hq (by have e : (CT.is o v).post.length = 1 := rfl
                                               omega)
    have h2 : R2 (.is o v) := r2_of_r3 h3 rfl rfl
    exact ⟨h3, h2, r1_of_r2 h2 rfl rfl⟩
  | .no t, hok => by
    obtain ⟨i3, _, _⟩ := trip t hok
    have h3 : R3 (.no t) := fun n q l hd hl hq => by
      have ed : (CT.no t).dp 3 = 1 + t.dp 3 := rfl
      have el : (CT.no t).post.length = t.post.length + 1 := by simp [CT.post]
      obtain ⟨m, rfl⟩ : ∃ m, n = m + 1 := ⟨n - 1, by omega⟩
      show pOp (m + 1) ((tNot ++ t.fmt 3) ++ q, l) = _
      rw [cat_assoc, pOp_succ]
      simp only
      rw [if_pos (takes_cat _ _), pRest_cat, i3 m q l (by omega) (by omega) hq]
      show pAdd nNot (q, l ++ t.post) = some (q, l ++ (t.post ++ [nNot]))
      unfold pAdd
      simp only
      rw [if_pos (by rw [List.length_append]; omega), List.append_assoc]
    have h2 : R2 (.no t) := r2_of_r3 h3 rfl rfl
    exact ⟨h3, h2, r1_of_r2 h2 rfl rfl⟩
  | .and a b, hok => by
    obtain ⟨_, a2, _⟩ := trip a hok.1
    obtain ⟨b3, _, _⟩ := trip b hok.2
    have h2 : R2 (.and a b) := fun n q l hd hl hq => by
      have ed : (CT.and a b).dp 2 = 0 + max (a.dp 2) (b.dp 3) := rfl
      have el : (CT.and a b).post.length = a.post.length + b.post.length + 1 := by simp [CT.post]; omega
      have ef : (CT.and a b).fmt 2 ++ q = a.fmt 2 ++ (tAnd ++ (b.fmt 3 ++ q)) := by
        show ((a.fmt 2 ++ tAnd) ++ b.fmt 3) ++ q = _
        rw [cat_assoc, cat_assoc]
      rw [ef, a2 n _ l (by omega) (by omega) (behind_cat (x := 32) rfl rfl), more_on (shr_op n) (by decide) (by rw [List.length_append]; omega) (takes_cat _ _)]
      simp only
      rw [pRest_cat, b3 n q (l ++ a.post) (by omega) (by rw [List.length_append]; omega) hq]
      show (pAdd nAnd (q, (l ++ a.post) ++ b.post)).bind _ = _
      have ha : pAdd nAnd (q, (l ++ a.post) ++ b.post) = some (q, l ++ (CT.and a b).post) := by
        unfold pAdd
        simp only
        rw [if_pos (by rw [List.length_append, List.length_append]; omega)]
        show some (q, ((l ++ a.post) ++ b.post) ++ [nAnd]) = some (q, l ++ ((a.post ++ b.post) ++ [nAnd]))
        rw [List.append_assoc, List.append_assoc, List.append_assoc]
      rw [ha]
      rfl
    have h1 : R1 (.and a b) := r1_of_r2 h2 rfl rfl
    exact ⟨r3_of_r1 h1 rfl (by show (1 : Nat) + _ = 1 + (0 + _); omega), h2, h1⟩
  | .or a b, hok => by
    obtain ⟨_, _, a1⟩ := trip a hok.1
    obtain ⟨_, b2, _⟩ := trip b hok.2
    have h1 : R1 (.or a b) := fun n q l hd hl hq hn => by
      have ed : (CT.or a b).dp 1 = 0 + max (a.dp 1) (b.dp 2) := rfl
      have el : (CT.or a b).post.length = a.post.length + b.post.length + 1 := by simp [CT.post]; omega
      have ef : (CT.or a b).fmt 1 ++ q = a.fmt 1 ++ (tOr ++ (b.fmt 2 ++ q)) := by
        show ((a.fmt 1 ++ tOr) ++ b.fmt 2) ++ q = _
        rw [cat_assoc, cat_assoc]
      have hno : takes (tOr ++ (b.fmt 2 ++ q)) tAnd 0 = false := by
        cases hc : takes (tOr ++ (b.fmt 2 ++ q)) tAnd 0 with
        | false => rfl
        | true =>
          have h5 := (takes_yes hc).2
          have h6 := bt_ext (tOr ++ (b.fmt 2 ++ q)) 0 (0 + tAnd.size) 1 (by decide)
          rw [h5, bt_left (by decide)] at h6
          cases h6
      rw [ef, a1 n _ l (by omega) (by omega) (behind_cat (x := 32) rfl rfl) hno, more_on (shr_chain (shr_op n)) (by decide) (by rw [List.length_append]; omega) (takes_cat _ _)]
      simp only
      rw [pRest_cat, b2 n q (l ++ a.post) (by omega) (by rw [List.length_append]; omega) hq, more_off hn]
      show (pAdd nOr (q, (l ++ a.post) ++ b.post)).bind _ = _
      have ha : pAdd nOr (q, (l ++ a.post) ++ b.post) = some (q, l ++ (CT.or a b).post) := by
        unfold pAdd
        simp only
        rw [if_pos (by rw [List.length_append, List.length_append]; omega)]
        show some (q, ((l ++ a.post) ++ b.post) ++ [nOr]) = some (q, l ++ ((a.post ++ b.post) ++ [nOr]))
        rw [List.append_assoc, List.append_assoc, List.append_assoc]
      rw [ha]
      rfl
    have h3 : R3 (.or a b) := r3_of_r1 h1 rfl (by show (1 : Nat) + _ = 1 + (0 + _); omega)
    exact ⟨h3, r2_of_r3 h3 rfl rfl, h1⟩
/-- A condition's text is read as the condition. -/
theorem par_fmt {t : CT} (h : t.ok) (hl : t.post.length ≤ 30) : parR (t.fmt 1) = (t.post, true) := by
  have hd := dp_lt t 1
  have h1 := (trip t h).2.2 30 eB [] (by omega) (by simpa using hl) (fun x hx => by cases hx) rfl
  have e : t.fmt 1 ++ eB = t.fmt 1 := ByteArray.append_empty
  rw [e, more_off (by rfl)] at h1
  rw [← par_same]
  unfold pPar
  rw [h1]
  simp
end Go.Proofs.Ytghofgjlmfdnpaa
