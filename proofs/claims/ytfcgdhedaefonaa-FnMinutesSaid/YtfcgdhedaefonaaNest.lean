/-
  Slices whose records lead into slices: what they read as, within a span of blocks; a row of them that is written record by record. No program is named here.
-/
import Derived.Test.YtfcgdhedaefonaaRecLib
import Derived.Test.YtfcgdhedaefonaaStrs
import Derived.Test.YtfcgdhedaefonaaCNRec
import Derived.WalkKit
import Derived.ProofKit
import Derived.Laws.Rows
import Derived.Laws.AppendOwn
import Derived.Laws.OwnMore
import Derived.OpenShut
import Derived.Carry
import Derived.Lib.SmallJoins
import Derived.Deep.SlicePairs
import Derived.Deep.DeepHandedRow
namespace Go.Proofs.Ytfcgdhedaefonaa
open Go.RowKit

/-- Whatever block the value leads into lies in the span. -/
def InB (lo hi : Nat) (v : Value) : Prop := ∀ b, v.ownBlock = some b → lo ≤ b ∧ b < hi
theorem InB.mono {lo hi lo' hi' : Nat} {v : Value} (h : InB lo hi v) (h1 : lo' ≤ lo) (h2 : hi ≤ hi') : InB lo' hi' v := fun b hb => ⟨Nat.le_trans h1 (h b hb).1, Nat.lt_of_lt_of_le (h b hb).2 h2⟩
/-- The span's blocks are as they were. -/
def Same (lo hi : Nat) (w w' : World) : Prop := ∀ k, lo ≤ k → k < hi → k < w.heap.size → w'.heap[k]? = w.heap[k]?
theorem Same.of_below {lo hi : Nat} {w w' : World} (h : Below w.heap.size w w') : Same lo hi w w' := fun k _ _ hk => h.block k hk
theorem Same.of_grown {lo hi : Nat} {w w' : World} {o : Option Nat} (h : w.grownBy w' o) (ho : ∀ k, o = some k → k < lo ∨ hi ≤ k) : Same lo hi w w' := fun k h1 h2 hk => h.block k hk (fun e => by rcases ho k e.symm with h3 | h3 <;> omega)
theorem Same.mono {lo hi lo' hi' : Nat} {w w' : World} (h : Same lo hi w w') (h1 : lo ≤ lo') (h2 : hi' ≤ hi) : Same lo' hi' w w' := fun k a b c => h k (Nat.le_trans h1 a) (Nat.lt_of_lt_of_le b h2) c
theorem Same.set {lo hi : Nat} {w : World} {g j : Nat} {u : Value} (h : g < lo ∨ hi ≤ g) : Same lo hi w (w.setCell ⟨g, j, none⟩ u) := fun k h1 h2 _ => heap_setCell_other w ⟨g, j, none⟩ k u (by simp; omega)
theorem lt_of_same {w w' : World} {b : Nat} (hb : b < w.heap.size) (h : w'.heap[b]? = w.heap[b]?) : b < w'.heap.size := by
  rcases Nat.lt_or_ge b w'.heap.size with h1 | h1
  · exact h1
  · rw [Array.getElem?_eq_none (by omega), Array.getElem?_eq_getElem hb] at h; cases h
theorem cell_same {w w' : World} {b o : Nat} (h : w'.heap[b]? = w.heap[b]?) : w'.cell? ⟨b, o, none⟩ = w.cell? ⟨b, o, none⟩ := World.cell?_of_block (w := w) h
/-- What records of K cells each are told by. -/
abbrev RelN (α : Type) := Nat → Nat → World → α → List Value → Prop
/-- It hangs on the span alone. -/
def KeptN {α : Type} (R : RelN α) : Prop := (∀ lo hi w w' x cs, Same lo hi w w' → R lo hi w x cs → R lo hi w' x cs) ∧ ∀ lo hi lo' hi' w x cs, lo' ≤ lo → hi ≤ hi' → R lo hi w x cs → R lo' hi' w x cs
/-- v is a slice of xs: each stands, in K cells, in R to them. -/
def SlN {α : Type} (K : Nat) (R : RelN α) (lo hi : Nat) (w : World) (v : Value) (xs : List α) : Prop :=
  ∃ (a : Option Addr) (c : Nat), v = .slice a xs.length c ∧ xs.length ≤ c ∧ (0 < xs.length → ∃ b o, a = some ⟨b, o, none⟩ ∧ (lo ≤ b ∧ b < hi) ∧ b < w.heap.size ∧
    ∀ j (hj : j < xs.length), ∃ cs, cs.length = K ∧ R lo hi w (xs[j]'hj) cs ∧ ∀ i, i < K → w.cell? ⟨b, o + j * K + i, none⟩ = cs[i]?)
theorem SlN.slice {α : Type} {K : Nat} {R : RelN α} {lo hi : Nat} {w : World} {v : Value} {xs : List α} (h : SlN K R lo hi w v xs) : ∃ (a : Option Addr) (c : Nat), v = .slice a xs.length c := by
  obtain ⟨a, c, h, _⟩ := h
  exact ⟨a, c, h⟩
theorem SlN.same {α : Type} {K : Nat} {R : RelN α} {lo hi : Nat} {w w' : World} {v : Value} {xs : List α} (hR : KeptN R) (h : SlN K R lo hi w v xs) (hs : Same lo hi w w') : SlN K R lo hi w' v xs := by
  obtain ⟨a, c, rfl, hc, h⟩ := h
  refine ⟨a, c, rfl, hc, fun h0 => ?_⟩
  obtain ⟨b, o, rfl, hbl, hb, h⟩ := h h0
  have he := hs b hbl.1 hbl.2 hb
  refine ⟨b, o, rfl, hbl, lt_of_same hb he, fun j hj => ?_⟩
  obtain ⟨cs, h1, h2, h3⟩ := h j hj
  exact ⟨cs, h1, hR.1 _ _ _ _ _ _ hs h2, fun i hi => (cell_same he).trans (h3 i hi)⟩
theorem SlN.below {α : Type} {K : Nat} {R : RelN α} {lo hi : Nat} {w w' : World} {v : Value} {xs : List α} (hR : KeptN R) (h : SlN K R lo hi w v xs) (hb : Below w.heap.size w w') : SlN K R lo hi w' v xs := h.same hR (Same.of_below hb)
theorem SlN.mono {α : Type} {K : Nat} {R : RelN α} {lo hi lo' hi' : Nat} {w : World} {v : Value} {xs : List α} (hR : KeptN R) (h : SlN K R lo hi w v xs) (h1 : lo' ≤ lo) (h2 : hi ≤ hi') : SlN K R lo' hi' w v xs := by
  obtain ⟨a, c, rfl, hc, h⟩ := h
  refine ⟨a, c, rfl, hc, fun h0 => ?_⟩
  obtain ⟨b, o, rfl, hbl, hb, h⟩ := h h0
  refine ⟨b, o, rfl, ⟨Nat.le_trans h1 hbl.1, Nat.lt_of_lt_of_le hbl.2 h2⟩, hb, fun j hj => ?_⟩
  obtain ⟨cs, h3, h4, h5⟩ := h j hj
  exact ⟨cs, h3, hR.2 _ _ _ _ _ _ _ h1 h2 h4, h5⟩
theorem SlN.get {α : Type} {K : Nat} {R : RelN α} {lo hi : Nat} {w : World} {v : Value} {xs : List α} (h : SlN K R lo hi w v xs) (k : Nat) (hk : k < xs.length) :
    ∃ (b o c : Nat) (cs : List Value), v = .slice (some ⟨b, o, none⟩) xs.length c ∧ xs.length ≤ c ∧ b < w.heap.size ∧ cs.length = K ∧ R lo hi w (xs[k]'hk) cs ∧ ∀ i, i < K → w.cell? ⟨b, o + k * K + i, none⟩ = cs[i]? := by
  obtain ⟨a, c, rfl, hc, h⟩ := h
  obtain ⟨b, o, rfl, _, hb, h⟩ := h (by omega)
  obtain ⟨cs, h1, h2, h3⟩ := h k hk
  exact ⟨b, o, c, cs, rfl, hc, hb, h1, h2, h3⟩
theorem SlN.nil {α : Type} (K : Nat) (R : RelN α) (lo hi : Nat) (w : World) (a : Option Addr) (c : Nat) : SlN K R lo hi w (.slice a 0 c) [] := ⟨a, c, rfl, Nat.zero_le _, fun h => by simp at h⟩

/-- k of the n records of the row g are written: what they lead into lies above it. -/
def PartN {α : Type} (K : Nat) (R : RelN α) (e : TypeId) (g n : Nat) (xs : List α) (k : Nat) (w : World) : Prop :=
  n = xs.length ∧ k ≤ n ∧ ∃ M zz : List Value, M.length = k * K ∧ w.ownsRow g e K (.slice (some ⟨g, 0, none⟩) n n) n (M ++ zz) ∧
    ∀ j, j < k → ∀ hx : j < xs.length, ∃ cs, cs.length = K ∧ R (g + 1) w.heap.size w (xs[j]'hx) cs ∧ ∀ i, i < K → M[j * K + i]? = cs[i]?
theorem PartN.start {α : Type} {K : Nat} (R : RelN α) {e : TypeId} {g : Nat} {xs : List α} {zz : List Value} {w : World} (h : w.ownsRow g e K (.slice (some ⟨g, 0, none⟩) xs.length xs.length) xs.length zz) : PartN K R e g xs.length xs 0 w :=
  ⟨rfl, Nat.zero_le _, [], zz, by simp, h, fun j hj => by omega⟩
theorem PartN.keep {α : Type} {K : Nat} {R : RelN α} {e : TypeId} {g n : Nat} {xs : List α} {k : Nat} {w w' : World} (hR : KeptN R) (h : PartN K R e g n xs k w) (hb : Below w.heap.size w w') : PartN K R e g n xs k w' := by
  obtain ⟨h1, h2, M, zz, h3, h4, h5⟩ := h
  refine ⟨h1, h2, M, zz, h3, own_keepL h4 hb, fun j hj hx => ?_⟩
  obtain ⟨cs, a, b, c⟩ := h5 j hj hx
  exact ⟨cs, a, hR.2 _ _ _ _ _ _ _ (Nat.le_refl _) hb.size (hR.1 _ _ _ _ _ _ (Same.of_below hb) b), c⟩
theorem PartN.cell {α : Type} {K : Nat} {R : RelN α} {e : TypeId} {g n : Nat} {xs : List α} {k : Nat} {w : World} (h : PartN K R e g n xs k w) (i : Nat) (hi : i < n * K) : (∃ u, w.cell? ⟨g, i, none⟩ = some u) ∧ w.frozen? ⟨g, i, none⟩ = false := by
  obtain ⟨h1, h2, M, zz, h3, h4, h5⟩ := h
  refine ⟨?_, h4.frozenAt i⟩
  rw [h4.cellAt i hi]
  exact ⟨_, List.getElem?_eq_getElem (by rw [h4.1]; exact hi)⟩
theorem PartN.lt {α : Type} {K : Nat} {R : RelN α} {e : TypeId} {g n : Nat} {xs : List α} {k : Nat} {w : World} (h : PartN K R e g n xs k w) : g < w.heap.size := by
  obtain ⟨h1, h2, M, zz, h3, h4, h5⟩ := h
  exact (h4.lt g rfl).2
/-- The next record is told by its cells, which are being written: j of them are. -/
def NextN {α : Type} (K : Nat) (R : RelN α) (e : TypeId) (g n : Nat) (xs : List α) (k : Nat) (cs : List Value) (j : Nat) (w : World) : Prop :=
  n = xs.length ∧ k < n ∧ j ≤ K ∧ cs.length = K ∧ (∃ hx : k < xs.length, R (g + 1) w.heap.size w (xs[k]'hx) cs) ∧ ∃ M zz : List Value, M.length = k * K ∧ w.ownsRow g e K (.slice (some ⟨g, 0, none⟩) n n) n (M ++ cs.take j ++ zz) ∧
    ∀ j, j < k → ∀ hx : j < xs.length, ∃ cs, cs.length = K ∧ R (g + 1) w.heap.size w (xs[j]'hx) cs ∧ ∀ i, i < K → M[j * K + i]? = cs[i]?
theorem PartN.next {α : Type} {K : Nat} {R : RelN α} {e : TypeId} {g n : Nat} {xs : List α} {k : Nat} {w : World} (h : PartN K R e g n xs k w) (hk : k < n) {cs : List Value} (hl : cs.length = K) (hx : k < xs.length) (hr : R (g + 1) w.heap.size w (xs[k]'hx) cs) : NextN K R e g n xs k cs 0 w := by
  obtain ⟨h1, h2, M, zz, h3, h4, h5⟩ := h
  exact ⟨h1, hk, Nat.zero_le _, hl, ⟨hx, hr⟩, M, zz, h3, by simpa using h4, h5⟩
theorem set_mid {α : Type} (A B : List α) (x u : α) (n : Nat) (hn : n = A.length) : (A ++ x :: B).set n u = A ++ [u] ++ B := by
  subst hn
  simp
theorem NextN.set {α : Type} {K : Nat} {R : RelN α} {e : TypeId} {g n : Nat} {xs : List α} {k : Nat} {cs : List Value} {j : Nat} {w : World} (hR : KeptN R) (h : NextN K R e g n xs k cs j w) {u : Value} (hu : cs[j]? = some u) : NextN K R e g n xs k cs (j + 1) (w.setCell ⟨g, k * K + j, none⟩ u) := by
  obtain ⟨h1, h2, h3, h4, ⟨hx, hr⟩, M, zz, h5, h6, h7⟩ := h
  have hj : j < cs.length := (List.getElem?_eq_some_iff.1 hu).1
  have hg : g < w.heap.size := (h6.lt g rfl).2
  have hS : Same (g + 1) w.heap.size w (w.setCell ⟨g, k * K + j, none⟩ u) := Same.set (Or.inl (by omega))
  have hsz : (w.setCell ⟨g, k * K + j, none⟩ u).heap.size = w.heap.size := by simp
  have hlen := h6.1
  have hkk : k * K + K ≤ n * K := by rw [← Nat.succ_mul]; exact Nat.mul_le_mul_right _ h2
  simp only [List.length_append, List.length_take] at hlen
  have hst := (h6.stored (k * K + j) u).1
  cases zz with
  | nil => simp at hlen; omega
  | cons z zz =>
    have hset : (M ++ cs.take j ++ z :: zz).set (k * K + j) u = M ++ cs.take (j + 1) ++ zz := by
      rw [set_mid (M ++ cs.take j) zz z u (k * K + j) (by simp; omega), List.take_add_one, hu]
      simp
    rw [hset] at hst
    refine ⟨h1, h2, by omega, h4, ⟨hx, ?_⟩, M, zz, h5, hst, fun i hi hx2 => ?_⟩
    · rw [hsz]; exact hR.1 _ _ _ _ _ _ hS hr
    · obtain ⟨cs2, a, b, c⟩ := h7 i hi hx2
      exact ⟨cs2, a, by rw [hsz]; exact hR.1 _ _ _ _ _ _ hS b, c⟩
theorem NextN.all {α : Type} {K : Nat} {R : RelN α} {e : TypeId} {g n : Nat} {xs : List α} {k : Nat} {cs : List Value} {j : Nat} {w : World} (h : NextN K R e g n xs k cs j w) (hj : j = K) : PartN K R e g n xs (k + 1) w := by
  obtain ⟨h1, h2, h3, h4, ⟨hx, hr⟩, M, zz, h5, h6, h7⟩ := h
  subst hj
  rw [List.take_of_length_le (by omega)] at h6
  refine ⟨h1, h2, M ++ cs, zz, by rw [List.length_append, h5, h4, Nat.succ_mul], h6, fun i hi hx2 => ?_⟩
  by_cases he : i = k
  · subst he
    refine ⟨cs, h4, hr, fun q hq => ?_⟩
    rw [List.getElem?_append_right (by omega), h5]
    congr 1
    omega
  · obtain ⟨cs2, a, b, c⟩ := h7 i (by omega) hx2
    refine ⟨cs2, a, b, fun q hq => ?_⟩
    have hlt : i * j + q < k * j := by
      have : (i + 1) * j ≤ k * j := Nat.mul_le_mul_right _ (by omega)
      rw [Nat.succ_mul] at this
      omega
    rw [List.getElem?_append_left (by omega)]
    exact c q hq
theorem NextN.cell {α : Type} {K : Nat} {R : RelN α} {e : TypeId} {g n : Nat} {xs : List α} {k : Nat} {cs : List Value} {j : Nat} {w : World} (h : NextN K R e g n xs k cs j w) (i : Nat) (hi : i < n * K) : (∃ u, w.cell? ⟨g, i, none⟩ = some u) ∧ w.frozen? ⟨g, i, none⟩ = false := by
  obtain ⟨h1, h2, _, _, _, M, zz, h3, h4, h5⟩ := h
  refine ⟨?_, h4.frozenAt i⟩
  rw [h4.cellAt i hi]
  exact ⟨_, List.getElem?_eq_getElem (by rw [h4.1]; exact hi)⟩
theorem PartN.done {α : Type} {K : Nat} {R : RelN α} {e : TypeId} {g n : Nat} {xs : List α} {k : Nat} {w : World} (hR : KeptN R) (h : PartN K R e g n xs k w) (hk : n ≤ k) : SlN K R g w.heap.size w (.slice (some ⟨g, 0, none⟩) n n) xs := by
  have hg := h.lt
  obtain ⟨rfl, h2, M, zz, h3, h4, h5⟩ := h
  refine ⟨_, _, rfl, Nat.le_refl _, fun _ => ⟨g, 0, rfl, ⟨Nat.le_refl _, hg⟩, hg, fun j hj => ?_⟩⟩
  obtain ⟨cs, a, b, c⟩ := h5 j (by omega) hj
  refine ⟨cs, a, hR.2 _ _ _ _ _ _ _ (by omega) (Nat.le_refl _) b, fun i hi => ?_⟩
  have hlt : j * K + i < xs.length * K := by
    have : (j + 1) * K ≤ xs.length * K := Nat.mul_le_mul_right _ (by omega)
    rw [Nat.succ_mul] at this
    omega
  have hkk : k = xs.length := by omega
  subst hkk
  rw [Nat.zero_add, h4.cellAt _ hlt, List.getElem?_append_left (by omega)]
  exact c i hi
/-- Texts, within a span. -/
def TxN : RelN ByteArray := fun _ _ _ x cs => cs = [.string x]
theorem TxN.kept : KeptN TxN := ⟨fun _ _ _ _ _ _ _ h => h, fun _ _ _ _ _ _ _ _ _ h => h⟩
abbrev TX := SlN 1 TxN
theorem TX.strs {lo hi : Nat} {w : World} {v : Value} {xs : List ByteArray} (h : TX lo hi w v xs) : Strs w v xs := by
  obtain ⟨a, c, rfl, hc, h⟩ := h
  by_cases h0 : xs = []
  · subst h0
    exact Or.inl ⟨rfl, _, _, rfl⟩
  · have hp : 0 < xs.length := List.length_pos_iff.2 h0
    obtain ⟨b, o, rfl, _, hb, h⟩ := h hp
    refine Or.inr ⟨h0, b, o, c, rfl, hc, hb, fun j x hx => ?_⟩
    have hj : j < xs.length := (List.getElem?_eq_some_iff.1 hx).1
    obtain ⟨cs, h1, h2, h3⟩ := h j hj
    have h4 := h3 0 (by omega)
    subst h2
    rw [Nat.mul_one, Nat.add_zero] at h4
    rw [h4]
    rw [List.getElem?_eq_getElem hj] at hx
    rw [Option.some.inj hx]
    rfl
theorem TX.of_row {base e : Nat} {w : World} {v : Value} {xs : List ByteArray} (h : w.ownsRow base e 1 v xs.length (xs.map Value.string)) : TX base w.heap.size w v xs := by
  rcases h.2 with ⟨rfl, hx⟩ | ⟨g, cap, cur, rfl, hb, hg, hnc, hcm, hcs, htake⟩
  · have : xs = [] := List.eq_nil_of_length_eq_zero hx
    subst this
    exact SlN.nil _ _ _ _ _ _ _
  · refine ⟨_, _, rfl, hnc, fun _ => ⟨g, 0, rfl, ⟨(h.lt g rfl).1, (h.lt g rfl).2⟩, (h.lt g rfl).2, fun j hj => ⟨_, rfl, rfl, fun i hi => ?_⟩⟩⟩
    have hi0 : i = 0 := by omega
    subst hi0
    rw [Nat.zero_add, Nat.mul_one, Nat.add_zero, h.cellAt j (by omega), List.getElem?_map, List.getElem?_eq_getElem hj]
    rfl
/-- Nodes, within a span. -/
def CnN : RelN CN := fun _ _ _ x cs => cs = x.enc
theorem CnN.kept : KeptN CnN := ⟨fun _ _ _ _ _ _ _ h => h, fun _ _ _ _ _ _ _ _ _ h => h⟩
abbrev CX := SlN 3 CnN
theorem CX.is {lo hi : Nat} {w : World} {v : Value} {xs : List CN} (h : CX lo hi w v xs) : CN.Is w v xs := by
  obtain ⟨a, c, rfl, hc, h⟩ := h
  by_cases h0 : xs = []
  · subst h0
    exact Or.inl ⟨rfl, _, _, rfl⟩
  · have hp : 0 < xs.length := List.length_pos_iff.2 h0
    obtain ⟨b, o, rfl, _, hb, h⟩ := h hp
    refine Or.inr ⟨h0, b, o, c, rfl, hc, hb, fun j x hx => ?_⟩
    have hj : j < xs.length := (List.getElem?_eq_some_iff.1 hx).1
    obtain ⟨cs, h1, h2, h3⟩ := h j hj
    rw [List.getElem?_eq_getElem hj] at hx
    rw [Option.some.inj hx] at h2
    subst h2
    exact ⟨h3 0 (by omega), h3 1 (by omega), h3 2 (by omega)⟩
theorem CX.of_row {base e : Nat} {w : World} {v : Value} {xs : List CN} (h : w.ownsRow base e 3 v xs.length (CN.cells xs)) : CX base w.heap.size w v xs := by
  rcases h.2 with ⟨rfl, hx⟩ | ⟨g, cap, cur, rfl, hb, hg, hnc, hcm, hcs, htake⟩
  · have : xs = [] := List.eq_nil_of_length_eq_zero hx
    subst this
    exact SlN.nil _ _ _ _ _ _ _
  · refine ⟨_, _, rfl, hnc, fun _ => ⟨g, 0, rfl, ⟨(h.lt g rfl).1, (h.lt g rfl).2⟩, (h.lt g rfl).2, fun j hj => ⟨_, rfl, rfl, fun i hi => ?_⟩⟩⟩
    have h4 := CN.cells_at xs j _ (List.getElem?_eq_getElem hj)
    rw [Nat.zero_add, h.cellAt (j * 3 + i) (by omega)]
    match i, hi with
    | 0, _ => exact h4.1
    | 1, _ => exact h4.2.1
    | 2, _ => exact h4.2.2

section
open Go.ChangeShapes Go.WideShapes Go.ChangeAt Go.Joins
/-- An argument's slice, opened: each record's cells are opened by hR. -/
theorem slN_open {α : Type} {K : Nat} {R : RelN α} {Q : α → Prop} [Inhabited α] {P : Program} {H : Type} {enc : TypeId × Value → H} {W : World} {t e : TypeId} {fuel : Nat} {v : Value} {y : DataW H × List MemPlace}
    (ht : P.underlying t = some (.slice e)) (hK : P.cellsOf e = K) (hK0 : 0 < K)
    (hR : ∀ n cs z, DataW.trod enc P W 0 (fun _ => true) true n e cs = some z → cs.length = K → ∃ x, R 0 W.heap.size W x cs ∧ Q x)
    (hf : DataW.trod enc P W 0 (fun _ => true) true fuel t [v] = some y) :
    ∃ xs : List α, SlN K R 0 W.heap.size W v xs ∧ xs.length ≤ maxLen ∧ ∀ x, x ∈ xs → Q x := by
  rcases Go.Deep.open_slice ht hf with ⟨hcs, _⟩ | ⟨a, len, cap, m, n, D, Pl, hcs, _, hl, hm, hmm, _, hi⟩
  · simp only [List.cons.injEq, and_true] at hcs
    subst hcs
    exact ⟨[], SlN.nil K R _ _ W none 0, Nat.zero_le _, fun x hx => by cases hx⟩
  · simp only [List.cons.injEq, and_true] at hcs
    subst hcs
    rw [if_pos rfl] at hmm
    subst hmm
    rw [hK] at hi
    have each : ∀ i, ∃ x : α, i < m → Q x ∧ ∃ cs, cs.length = K ∧ R 0 W.heap.size W x cs ∧ ∀ q, q < K → W.cell? ((a.add (i * K)).add q) = cs[q]? := by
      intro i
      by_cases hlt : i < m
      · obtain ⟨cs', h1, h2⟩ := hi i hlt
        obtain ⟨_, hlen, hcell⟩ := World.cells?_some h1
        obtain ⟨x, h3, h4⟩ := hR _ _ _ h2 hlen
        exact ⟨x, fun _ => ⟨h4, cs', hlen, h3, fun q hq => hcell q hq⟩⟩
      · exact ⟨default, fun h => absurd h hlt⟩
    obtain ⟨q, hq⟩ : ∃ q : Nat → α, ∀ i, i < m → Q (q i) ∧ ∃ cs, cs.length = K ∧ R 0 W.heap.size W (q i) cs ∧ ∀ j, j < K → W.cell? ((a.add (i * K)).add j) = cs[j]? :=
      ⟨fun i => Classical.choose (each i), fun i hlt => Classical.choose_spec (each i) hlt⟩
    have hxl : ((List.range len).map q).length = len := by simp
    refine ⟨(List.range len).map q, ?_, by rw [hxl]; omega, ?_⟩
    · by_cases h0 : len = 0
      · subst h0
        exact ⟨some a, m, rfl, by simp, fun h => by simp at h⟩
      · obtain ⟨_, cs, h2, _, h4⟩ := hq 0 (by omega)
        have h5 := h4 0 hK0
        rw [List.getElem?_eq_getElem (by omega), Nat.zero_mul] at h5
        have hab : a.block < W.heap.size := by
          have := cell_blockL h5
          have e : (a.add 0).block = a.block := by unfold Addr.add; split <;> rfl
          rwa [e] at this
        obtain ⟨b, off, spot⟩ := a
        have hspot : spot = none := by simpa [Addr.add] using World.cell?_spot h5
        subst hspot
        refine ⟨_, m, by rw [hxl], by rw [hxl]; exact hl, fun _ => ⟨b, off, rfl, ⟨Nat.zero_le _, hab⟩, hab, fun j hj => ?_⟩⟩
        rw [hxl] at hj
        obtain ⟨_, cs, a1, a2, a3⟩ := hq j (by omega)
        refine ⟨cs, a1, by simpa using a2, fun i hi => ?_⟩
        have := a3 i hi
        rw [Addr.add_lit, Addr.add_lit] at this
        exact this
    · intro x hx
      obtain ⟨i, hi', rfl⟩ := List.mem_map.1 hx
      exact (hq i (by have := List.mem_range.1 hi'; omega)).1
end
end Go.Proofs.Ytfcgdhedaefonaa
