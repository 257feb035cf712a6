/-
  The program's reader of conditions and the model's read alike: bytes. No program is named here.
-/
import Derived.Test.YtghofgjlmfdnpaaCondPure
import Derived.Lib.IndexLaws
namespace Go.Proofs.Ytghofgjlmfdnpaa

/-- The byte at a place. -/
def bt (s : ByteArray) (m : Nat) : Option UInt8 := s.data.toList[m]?
theorem bt_lt {s : ByteArray} {m : Nat} {x : UInt8} (h : bt s m = some x) : m < s.size := by
  have h1 := (List.getElem?_eq_some_iff.1 h).1
  simpa using h1
theorem bt_some {s : ByteArray} {m : Nat} (h : m < s.size) : bt s m = some (s[m]'h) := Lib.data_getElem? s m h
theorem bt_none {s : ByteArray} {m : Nat} (h : s.size ≤ m) : bt s m = none := by
  unfold bt
  exact List.getElem?_eq_none (by simpa using h)
theorem bt_ext (s : ByteArray) (a b m : Nat) (h : a + m < b) : bt (s.extract a b) m = bt s (a + m) := by
  unfold bt
  rw [ByteArray.data_extract]
  simp only [Array.toList_extract, List.extract_eq_take_drop, List.getElem?_take, List.getElem?_drop]
  rw [if_pos (by omega)]
theorem bt_ext_none (s : ByteArray) (a b m : Nat) (h : b ≤ a + m) : bt (s.extract a b) m = none := by
  apply bt_none
  rw [ByteArray.size_extract]
  omega
theorem bt_inj {s t : ByteArray} (h : ∀ m, bt s m = bt t m) : s = t := by
  have h1 : s.data.toList = t.data.toList := List.ext_getElem? h
  have h2 : s.data = t.data := by
    have := congrArg List.toArray h1
    simpa using this
  cases s; cases t; simp only at h2; rw [h2]
theorem takes_one {s : ByteArray} {c : UInt8} {i : Nat} : takes s ⟨#[c]⟩ i = true ↔ bt s i = some c := by
  have e0 : (⟨#[c]⟩ : ByteArray).size = 1 := rfl
  constructor
  · intro h
    obtain ⟨h1, h2⟩ := takes_yes h
    rw [e0] at h1 h2
    have h3 := bt_ext s i (i + 1) 0 (by omega)
    rw [h2] at h3
    rw [Nat.add_zero] at h3
    rw [← h3]
    rfl
  · intro h
    have h1 := bt_lt h
    refine decide_eq_true ⟨by rw [e0]; omega, ?_⟩
    rw [e0]
    apply bt_inj
    intro m
    by_cases hm : m = 0
    · subst hm
      rw [bt_ext s i (i + 1) 0 (by omega), Nat.add_zero, h]
      rfl
    · rw [bt_ext_none s i (i + 1) m (by omega), bt_none (by rw [e0]; omega)]
theorem takes_first {s t : ByteArray} {i : Nat} (h : takes s t i = true) (ht : 1 ≤ t.size) : bt s i = bt t 0 := by
  obtain ⟨h1, h2⟩ := takes_yes h
  have h3 := bt_ext s i (i + t.size) 0 (by omega)
  rw [h2, Nat.add_zero] at h3
  exact h3.symm
/-- The rest of a text. -/
def rst (s : ByteArray) (i : Nat) : ByteArray := s.extract i s.size
theorem rst_size (s : ByteArray) (i : Nat) : (rst s i).size = s.size - i := by
  unfold rst
  rw [ByteArray.size_extract]
  omega
theorem bt_rst (s : ByteArray) (i m : Nat) : bt (rst s i) m = bt s (i + m) := by
  by_cases h : i + m < s.size
  · exact bt_ext s i s.size m h
  · rw [bt_none (by omega : s.size ≤ i + m)]
    exact bt_ext_none s i s.size m (by omega)
theorem rst_zero (s : ByteArray) : rst s 0 = s := bt_inj (fun m => by rw [bt_rst, Nat.zero_add])
theorem rst_rst (s : ByteArray) (i j : Nat) : (rst s i).extract j (rst s i).size = rst s (i + j) := bt_inj (fun m => by
  show bt (rst (rst s i) j) m = _
  rw [bt_rst, bt_rst, bt_rst, Nat.add_assoc])
theorem rst_piece (s : ByteArray) (i j k : Nat) : (rst s i).extract j k = s.extract (i + j) (i + k) := bt_inj (fun m => by
  by_cases h : j + m < k
  · rw [bt_ext _ _ _ _ h, bt_rst, bt_ext _ _ _ _ (by omega), Nat.add_assoc]
  · rw [bt_ext_none _ _ _ _ (by omega), bt_ext_none _ _ _ _ (by omega)])
theorem takes_rst {s t : ByteArray} {i : Nat} (hi : i ≤ s.size) : takes (rst s i) t 0 = takes s t i := by
  have hz := rst_size s i
  unfold takes
  by_cases h : i + t.size ≤ s.size
  · have e := rst_piece s i 0 (0 + t.size)
    rw [e]
    congr 1
    rw [hz, Nat.zero_add, Nat.add_zero]
    apply propext
    constructor
    · rintro ⟨_, h2⟩; exact ⟨h, h2⟩
    · rintro ⟨_, h2⟩; exact ⟨by omega, h2⟩
  · rw [decide_eq_false (by omega), decide_eq_false (by omega)]
theorem pRest_rst (s t : ByteArray) (i : Nat) : pRest (rst s i) t = rst s (i + t.size) := rst_rst s i t.size

/-- A stop. -/
def isS (x : UInt8) : Bool := [32, 41].contains x
theorem isS_not_W {x : UInt8} (h : isW x.toNat = true) : isS x = false := by
  have h1 : (65 ≤ x.toNat ∧ x.toNat ≤ 90) ∨ (48 ≤ x.toNat ∧ x.toNat ≤ 57) ∨ x.toNat = 45 := of_decide_eq_true h
  by_cases e : isS x = true
  · have h2 : x = 32 ∨ x = 41 := by simpa [isS] using e
    rcases h2 with rfl | rfl <;> simp at h1
  · simpa using e
theorem first_any (l : List UInt8) : ∃ e : Nat, e ≤ l.length ∧ (∀ m b, m < e → l[m]? = some b → isS b = false) ∧ (e = l.length ∨ ∃ x, l[e]? = some x ∧ isS x = true) := by
  induction l with
  | nil => exact ⟨0, Nat.le_refl _, fun m b h => absurd h (Nat.not_lt_zero _), Or.inl rfl⟩
  | cons b l ih =>
    by_cases hb : isS b = true
    · exact ⟨0, Nat.zero_le _, fun m b h => absurd h (Nat.not_lt_zero _), Or.inr ⟨b, rfl, hb⟩⟩
    · obtain ⟨e, h1, h2, h3⟩ := ih
      refine ⟨e + 1, by simp only [List.length_cons]; omega, ?_, ?_⟩
      · intro m c hm hc
        cases m with
        | zero => simp at hc; subst hc; simpa using hb
        | succ m => exact h2 m c (by omega) (by simpa using hc)
      · rcases h3 with h3 | ⟨x, h3, h4⟩
        · exact Or.inl (by simp only [List.length_cons]; omega)
        · exact Or.inr ⟨x, by simpa using h3, h4⟩
/-- Where a word of the program's ends. -/
theorem pEnd_spec (q : ByteArray) : pEnd q ≤ q.size ∧ (∀ m b, m < pEnd q → bt q m = some b → isS b = false) ∧ (∀ x, bt q (pEnd q) = some x → isS x = true) := by
  obtain ⟨e, h1, h2, h3⟩ := first_any q.data.toList
  have hl : q.data.toList.length = q.size := by simp
  have hn : Lib.NoAny q.data.toList [32, 41] e := fun j b hj hb => h2 j b hj hb
  rcases h3 with h3 | ⟨x, h3, h4⟩
  · have hz : Lib.indexAny q.data.toList [32, 41] = -1 := Lib.indexAny_none (by rw [← h3]; exact hn)
    have he : pEnd q = q.size := by unfold pEnd; rw [hz]; rfl
    refine ⟨by omega, ?_, ?_⟩
    · intro m b hm hb
      exact h2 m b (by omega) hb
    · intro x hx
      have := bt_lt hx
      omega
  · have hz : Lib.indexAny q.data.toList [32, 41] = (e : Int) := Lib.indexAny_hit hn h3 h4
    have he : pEnd q = e := by unfold pEnd; rw [hz, if_neg (by omega)]; simp
    rw [he]
    refine ⟨by omega, fun m b hm hb => h2 m b hm hb, ?_⟩
    intro y hy
    have : bt q e = some x := h3
    rw [this] at hy
    cases hy
    exact h4
theorem wEnd_in (s : ByteArray) : ∀ (f i m : Nat), i ≤ m → m < wEnd s f i → ∃ x, bt s m = some x ∧ isW x.toNat = true
  | 0, i, m, h1, h2 => absurd h2 (by show ¬ m < i; omega)
  | f + 1, i, m, h1, h2 => by
    unfold wEnd at h2
    split at h2
    · rename_i hi
      split at h2
      · rename_i hw
        by_cases e : m = i
        · subst e
          exact ⟨_, bt_some hi, hw⟩
        · exact wEnd_in s f (i + 1) m (by omega) h2
      · omega
    · omega
theorem wEnd_stop (s : ByteArray) : ∀ (f i : Nat), s.size ≤ f + i → ∀ x, bt s (wEnd s f i) = some x → isW x.toNat = false
  | 0, i, h, x, hx => by
    have := bt_lt hx
    have e : wEnd s 0 i = i := rfl
    omega
  | f + 1, i, h, x, hx => by
    unfold wEnd at hx
    split at hx
    · rename_i hi
      split at hx
      · exact wEnd_stop s f (i + 1) (by omega) x hx
      · rename_i hw
        rw [bt_some hi] at hx
        cases hx
        simpa using hw
    · rename_i hi
      exact absurd (bt_lt hx) hi
theorem code_W {o : ByteArray} (h : isCode.codeB o = true) : 1 ≤ o.size ∧ ∀ m x, bt o m = some x → isW x.toNat = true := by
  have hl : 1 ≤ o.size ∧ o.size ≤ 8 := by
    by_cases hl : 1 ≤ o.size ∧ o.size ≤ 8
    · exact hl
    · rw [isCode.codeB_len hl] at h; cases h
  refine ⟨hl.1, ?_⟩
  intro m x hx
  have hm := bt_lt hx
  rw [bt_some hm] at hx
  cases hx
  cases hk : isCode.okB m (o[m]'hm).toNat with
  | false => rw [isCode.codeB_no m hm hk] at h; cases h
  | true =>
    have h1 : (65 ≤ (o[m]'hm).toNat ∧ (o[m]'hm).toNat ≤ 90) ∨ (m ≠ 0 ∧ ((48 ≤ (o[m]'hm).toNat ∧ (o[m]'hm).toNat ≤ 57) ∨ (o[m]'hm).toNat = 45)) := of_decide_eq_true hk
    exact decide_eq_true (by omega)
/-- The first '='. -/
theorem pCut_at {w : ByteArray} {j : Nat} (h : bt w j = some 61) (hn : ∀ m, m < j → bt w m ≠ some 61) : pCut w = (w.extract 0 j, w.extract (j + 1) w.size) := by
  have hz : Lib.indexByte w.data.toList 61 = (j : Int) := by
    have hge := Lib.indexByte_ge w.data.toList 61
    by_cases h0 : Lib.indexByte w.data.toList 61 = -1
    · exact absurd h (Lib.indexByte_none h0 j)
    · obtain ⟨o, ho⟩ : ∃ o : Nat, Lib.indexByte w.data.toList 61 = (o : Int) := ⟨(Lib.indexByte w.data.toList 61).toNat, by omega⟩
      obtain ⟨h1, h2⟩ := Lib.indexByte_some ho
      have e1 : ¬ o < j := fun hlt => hn o hlt h1
      have e2 : ¬ j < o := fun hlt => h2 j hlt h
      rw [ho]; omega
  unfold pCut
  rw [hz, if_pos (by omega)]
  simp
theorem pCut_none {w : ByteArray} (hn : ∀ m, bt w m ≠ some 61) : pCut w = (w, eB) := by
  have hz : ¬ 0 ≤ Lib.indexByte w.data.toList 61 := fun h0 => by
    obtain ⟨o, ho⟩ : ∃ o : Nat, Lib.indexByte w.data.toList 61 = (o : Int) := ⟨(Lib.indexByte w.data.toList 61).toNat, by omega⟩
    exact hn o (Lib.indexByte_some ho).1
  unfold pCut
  rw [if_neg hz]
theorem first_eq (w : ByteArray) : (∀ m, bt w m ≠ some 61) ∨ ∃ j, bt w j = some 61 ∧ ∀ m, m < j → bt w m ≠ some 61 := by
  have hge := Lib.indexByte_ge w.data.toList 61
  by_cases h0 : Lib.indexByte w.data.toList 61 = -1
  · exact Or.inl (Lib.indexByte_none h0)
  · obtain ⟨o, ho⟩ : ∃ o : Nat, Lib.indexByte w.data.toList 61 = (o : Int) := ⟨(Lib.indexByte w.data.toList 61).toNat, by omega⟩
    exact Or.inr ⟨o, Lib.indexByte_some ho⟩
theorem true_W (m : Nat) (x : UInt8) (h : bt tTrue m = some x) : isW x.toNat = true := by
  have hm := bt_lt h
  have e : tTrue.size = 4 := rfl
  have h4 : m = 0 ∨ m = 1 ∨ m = 2 ∨ m = 3 := by omega
  rcases h4 with rfl | rfl | rfl | rfl <;> (simp [bt] at h; subst h; rfl)
end Go.Proofs.Ytghofgjlmfdnpaa
