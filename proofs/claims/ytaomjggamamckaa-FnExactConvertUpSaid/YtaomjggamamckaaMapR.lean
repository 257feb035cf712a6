/-
  A map of the call's own, from texts to pairs of numbers, told as a function. No program is named here.
-/
import Derived.WalkKit
import Derived.Maps.OwnSet
import Derived.Maps.OwnOps
import Derived.Lib.Hide
namespace Go.Proofs.Ytaomjggamamckaa
open Go.RowKit Go.WideMaps Go.Maps

/-- How a pair reads. -/
def prD (p : Int × Int) : DataW Unit := .agg [.lit (.int .i64 p.1), .lit (.int .i64 p.2)]
def prL : List Value → Option (DataW Unit × List MemPlace)
  | [.int .i64 a, .int .i64 b] => some (prD (a, b), [])
  | _ => none
def prR : Value → Option (DataW Unit × List MemPlace)
  | .agg cs => prL cs.toList
  | _ => none
theorem prR_mk (a b : Int) : prR (.agg #[.int .i64 a, .int .i64 b]) = some (prD (a, b), []) := rfl
theorem prL_inv {l : List Value} {a b : Int} {ps : List MemPlace} (h : prL l = some (prD (a, b), ps)) : l = [.int .i64 a, .int .i64 b] := by
  unfold prL at h
  split at h
  · simp [prD] at h
    rw [h.1.1, h.1.2]
  · cases h
theorem prR_inv {v : Value} {a b : Int} {ps : List MemPlace} (h : prR v = some (prD (a, b), ps)) : v = .agg #[.int .i64 a, .int .i64 b] := by
  unfold prR at h
  split at h
  · rename_i cs
    have := prL_inv h
    congr 1
    apply Array.ext'
    exact this
  · cases h
/-- The key of a text. -/
def kS (s : ByteArray) : Lit := .string s.data.toList
theorem kS_inj {s t : ByteArray} (h : kS s = kS t) : s = t := by
  unfold kS at h
  simp only [Lit.string.injEq] at h
  cases s; cases t
  simpa using h
def look0 : ByteArray → Option (Int × Int) := fun _ => none
def look1 (L : ByteArray → Option (Int × Int)) (s : ByteArray) (p : Int × Int) : ByteArray → Option (Int × Int) := fun t => if t = s then some p else L t
/-- Block b is a map of at most n entries that holds what L says. -/
def MapIs (P : Program) (k : TypeId) (w : World) (b n : Nat) (L : ByteArray → Option (Int × Int)) : Prop :=
  ∃ D, w.ownsMap P k prR b n D ∧ ∀ s : ByteArray, has D (kS s) = (L s).isSome ∧ ∀ z, D.atKey (kS s) z = match L s with | some p => prD p | none => z

theorem mapIs_made (P : Program) (k : TypeId) (w : World) : MapIs P k (w.alloc (.map #[] 0)) w.heap.size 0 look0 :=
  ⟨.map [], World.ownsMap_made _ _ _ _, fun _ => ⟨rfl, fun _ => rfl⟩⟩
theorem MapIs.kept {P : Program} {k : TypeId} {w w' : World} {b n : Nat} {L : ByteArray → Option (Int × Int)} {o : Option Nat} (h : MapIs P k w b n L) (hg : w.grownBy w' o) (hne : some b ≠ o) : MapIs P k w' b n L := by
  obtain ⟨D, h1, h2⟩ := h
  exact ⟨D, h1.kept hg hne, h2⟩
theorem MapIs.alloc {P : Program} {k : TypeId} {w : World} {b n : Nat} {L : ByteArray → Option (Int × Int)} (h : MapIs P k w b n L) (o : Obj) : MapIs P k (w.alloc o) b n L := h.kept (World.grownBy_alloc w o none) (by simp)
theorem MapIs.drew {P : Program} {k : TypeId} {w : World} {b n : Nat} {L : ByteArray → Option (Int × Int)} (h : MapIs P k w b n L) : MapIs P k w.drew b n L := h
theorem MapIs.lt {P : Program} {k : TypeId} {w : World} {b n : Nat} {L : ByteArray → Option (Int × Int)} (h : MapIs P k w b n L) : b < w.heap.size := by
  obtain ⟨D, h1, _⟩ := h
  exact h1.lt
theorem MapIs.below {P : Program} {k : TypeId} {w w' : World} {b n : Nat} {L : ByteArray → Option (Int × Int)} (h : MapIs P k w b n L) (hb : Below w.heap.size w w') : MapIs P k w' b n L :=
  h.kept (o := none) ⟨hb.os, hb.tape, hb.output, hb.size, fun k hk _ => hb.block k hk⟩ (by simp)

theorem mapIs_put {P : Program} {k : TypeId} (K : Keyed P k) (hk : P.underlying k = some .string) {w w' : World} {b n m : Nat} {L : ByteArray → Option (Int × Int)} {D : DataW Unit} (h1 : w.ownsMap P k prR b n D)
    (h2 : ∀ s : ByteArray, has D (kS s) = (L s).isSome ∧ ∀ z, D.atKey (kS s) z = match L s with | some p => prD p | none => z) {s : ByteArray} (hs : s.size ≤ maxLen) (p : Int × Int)
    (ho : w'.ownsMap P k prR b m (D.put (kS s) (prD p))) : MapIs P k w' b m (look1 L s p) := by
  have hkey : WideAt.IsKeyLit (kS s) := K.key (keyOf_string_mk hk hs)
  refine ⟨_, ho, fun t => ?_⟩
  unfold look1
  by_cases e : t = s
  · subst e
    rw [if_pos rfl]
    exact ⟨has_put_same h1.isMap hkey _, fun z => atKey_put_same h1.isMap hkey _ z⟩
  · rw [if_neg e]
    have hne : kS t ≠ kS s := fun h => e (kS_inj h)
    exact ⟨(has_put_other hne _).trans (h2 t).1, fun z => (atKey_put_other hne _ z).trans ((h2 t).2 z)⟩

/-- The look-up's run: an equation for a region that draws its order. -/
theorem MapIs.run_get {P : Program} {k t e : TypeId} {w : World} {b n : Nat} {L : ByteArray → Option (Int × Int)} (h : MapIs P k w b n L) (hk : P.underlying k = some .string) (ht : P.underlying t = some (.map k e))
    (hz : (zeroValue e).run P w = .ok (.agg #[.int .i64 0, .int .i64 0]) w) {s : ByteArray} (hs : s.size ≤ maxLen) (c d : Int) (hr : (L s).getD (0, 0) = (c, d)) :
    (Instr.lookup t (.map (some b)) (.string s) false).run P w = .ok (.agg #[.int .i64 c, .int .i64 d]) w := by
  obtain ⟨D, h1, h2⟩ := h
  obtain ⟨v, ps, hrun, hv⟩ := h1.lookup (string_keyed hk) ht hz (prR_mk 0 0) (keyOf_string_mk hk hs)
  have hv2 : prR v = some ((match L s with | some p => prD p | none => prD (0, 0)), ps) := by rw [← (h2 s).2]; exact hv
  have e : (match L s with | some p => prD p | none => prD (0, 0)) = prD (c, d) := by
    cases hl : L s with
    | none => rw [hl] at hr; rw [← hr]; rfl
    | some p => rw [hl] at hr; rw [← hr]; rfl
  rw [e] at hv2
  rw [prR_inv hv2] at hrun
  exact hrun
/-- The store's run. -/
theorem MapIs.run_put {P : Program} {k t e : TypeId} {w : World} {b n : Nat} {L : ByteArray → Option (Int × Int)} (h : MapIs P k w b n L) (hk : P.underlying k = some .string) (ht : P.underlying t = some (.map k e)) (hn : n < maxLen)
    {s : ByteArray} (hs : s.size ≤ maxLen) (c d : Int) : ∃ w', (Instr.mapUpdate t (.map (some b)) (.string s) (.agg #[.int .i64 c, .int .i64 d])).run P w = .ok () w' ∧ MapIs P k w' b (n + 1) (look1 L s (c, d)) ∧ w.grownBy w' (some b) := by
  obtain ⟨D, h1, h2⟩ := h
  obtain ⟨w', hrun, ho, hg⟩ := h1.update (string_keyed hk) ht hn (keyOf_string_mk hk hs) (prR_mk c d)
  exact ⟨w', hrun, mapIs_put (string_keyed hk) hk h1 h2 hs (c, d) ho, hg⟩

variable {P : Program} {ops : Array Oper} {rest : List Oper} {o : Oper} {a : Act} {Q : Exit → Act → World → Prop}

/-- 'v, ok := m[s]', as one operation. -/
theorem wpList_lookR_ok (w : World) (hg : o.guard = none) (m x : Operand) (t : TypeId) (hop : o.op = Op.lookup t m x true) (k e : TypeId) (hk : P.underlying k = some .string) (ht : P.underlying t = some (.map k e))
    (hz : (zeroValue e).run P w = .ok (.agg #[.int .i64 0, .int .i64 0]) w) (b n : Nat) (L : ByteArray → Option (Int × Int)) (hm : a.eval m = .map (some b)) (hown : MapIs P k w b n L) (s : ByteArray) (hs : s.size ≤ maxLen) (hx : a.eval x = .string s)
    (r : Option (Int × Int)) (hr : L s = r)
    (hK : wpList P ops Q rest (a.put o.dst (.tuple #[.agg #[.int .i64 (r.getD (0, 0)).1, .int .i64 (r.getD (0, 0)).2], .bool r.isSome])) w) : wpList P ops Q (o :: rest) a w := by
  obtain ⟨D, h1, h2⟩ := hown
  refine wpList_lookup_own_ok w hg m x t hop k e (string_keyed hk) ht prR hz (prD (0, 0)) [] (prR_mk 0 0) b n D hm h1 _ (kS s) hx (keyOf_string_mk hk hs) (fun v ps hv => ?_)
  rw [(h2 s).1, hr]
  rw [(h2 s).2, hr] at hv
  cases r with
  | none => rw [prR_inv hv]; exact hK
  | some p => obtain ⟨p1, p2⟩ := p; rw [prR_inv hv]; exact hK

/-- 'm[s]', as one operation. -/
theorem wpList_lookR (w : World) (hg : o.guard = none) (m x : Operand) (t : TypeId) (hop : o.op = Op.lookup t m x false) (k e : TypeId) (hk : P.underlying k = some .string) (ht : P.underlying t = some (.map k e))
    (hz : (zeroValue e).run P w = .ok (.agg #[.int .i64 0, .int .i64 0]) w) (b n : Nat) (L : ByteArray → Option (Int × Int)) (hm : a.eval m = .map (some b)) (hown : MapIs P k w b n L) (s : ByteArray) (hs : s.size ≤ maxLen) (hx : a.eval x = .string s)
    (r : Option (Int × Int)) (hr : L s = r)
    (hK : wpList P ops Q rest (a.put o.dst (.agg #[.int .i64 (r.getD (0, 0)).1, .int .i64 (r.getD (0, 0)).2])) w) : wpList P ops Q (o :: rest) a w := by
  obtain ⟨D, h1, h2⟩ := hown
  refine wpList_plain hg fun K' hK' => ?_
  obtain ⟨v, ps, hrun, hv⟩ := h1.lookup (string_keyed hk) ht hz (prR_mk 0 0) (keyOf_string_mk hk hs)
  have hv2 : prR v = some ((match L s with | some p => prD p | none => prD (0, 0)), ps) := by rw [← (h2 s).2]; exact hv
  rw [hr] at hv2
  cases r with
  | none =>
    rw [prR_inv hv2] at hrun
    unfold Oper.wp
    simp [execOp, hop, hm, hx, hrun, Result.andThen]
    exact hK' _ _ hK
  | some p =>
    obtain ⟨p1, p2⟩ := p
    rw [prR_inv hv2] at hrun
    unfold Oper.wp
    simp [execOp, hop, hm, hx, hrun, Result.andThen]
    exact hK' _ _ hK

/-- 'm[s] = v', as one operation. -/
theorem wpList_putR (w : World) (hg : o.guard = none) (m x v : Operand) (t : TypeId) (hop : o.op = Op.mapUpdate t m x v) (k e : TypeId) (hk : P.underlying k = some .string) (ht : P.underlying t = some (.map k e))
    (b n : Nat) (L : ByteArray → Option (Int × Int)) (hm : a.eval m = .map (some b)) (hown : MapIs P k w b n L) (hn : n < maxLen) (s : ByteArray) (hs : s.size ≤ maxLen) (hx : a.eval x = .string s) (c d : Int) (hv : a.eval v = .agg #[.int .i64 c, .int .i64 d])
    (hK : ∀ w', MapIs P k w' b (n + 1) (look1 L s (c, d)) → w.grownBy w' (some b) → wpList P ops Q rest (a.put o.dst undef) w') : wpList P ops Q (o :: rest) a w := by
  obtain ⟨D, h1, h2⟩ := hown
  exact wpList_mapUpdate_own w hg m x v t hop k e (string_keyed hk) ht prR b n D hm h1 hn _ _ (kS s) hx hv (keyOf_string_mk hk hs) (prD (c, d)) [] (prR_mk c d)
    (fun w' ho hgr => hK w' (mapIs_put (string_keyed hk) hk h1 h2 hs (c, d) ho) hgr)
/-- A key of a map's literal, as one operation. -/
theorem wpList_insR (w : World) (hg : o.guard = none) (m x v : Operand) (t : TypeId) (hop : o.op = Op.insert t m x v) (k e : TypeId) (hk : P.underlying k = some .string) (ht : P.underlying t = some (.map k e))
    (b n : Nat) (L : ByteArray → Option (Int × Int)) (hm : a.eval m = .map (some b)) (hown : MapIs P k w b n L) (hn : n < maxLen) (s : ByteArray) (hs : s.size ≤ maxLen) (hx : a.eval x = .string s) (c d : Int) (hv : a.eval v = .agg #[.int .i64 c, .int .i64 d])
    (hK : ∀ w', MapIs P k w' b (n + 1) (look1 L s (c, d)) → w.grownBy w' (some b) → wpList P ops Q rest (a.put o.dst undef) w') : wpList P ops Q (o :: rest) a w := by
  refine wpList_plain hg fun K' hK' => ?_
  obtain ⟨w', hrun, r1, r2⟩ := hown.run_put hk ht hn hs c d
  unfold Oper.wp
  simp [execOp, hop, hm, hx, hv, hrun, Result.andThen]
  exact hK' _ _ (hK w' r1 r2)
end Go.Proofs.Ytaomjggamamckaa
