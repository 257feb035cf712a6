/-
 The products of the ways from an item to a part: no walk.
-/
import Derived.Test.YtmnncinpepeocaaGreatBuWay
import Derived.Lib.Hide
namespace Go.Proofs.YtmnncinpepeocaaGreat
open Go.RowKit

/-- The products of all ways from a code to a part. -/
def wW (ys : List BL) (t a : ByteArray) : List Nat := wyl (ys.map edOf) 12 a t
/-- What a line adds. -/
def wX (ys : List BL) (t a : ByteArray) (x : BL) : List Nat := if x.par = a then (wW ys t x.prt).map (fun m => x.qty.toNat * m) else []
def wK (ys : List BL) (t a : ByteArray) (k : Nat) : List Nat := (ys.take k).flatMap (wX ys t a)
theorem wW_self (ys : List BL) (t : ByteArray) : wW ys t t = [1] := by
 show (if t = t then [1] else _) = [1]
 rw [if_pos rfl]
theorem wW_step {ys : List BL} {lv : ByteArray → Nat} (h : Lvl (ys.map edOf) lv) (h2 : ∀ s, lv s < 12) {t a : ByteArray} (hne : a ≠ t) : wW ys t a = ys.flatMap (wX ys t a) := by
 have h1 : wW ys t a = wyl (ys.map edOf) 13 a t := wyl_eq h h2 t 12 13 a (by omega) (by omega)
 rw [h1]
 show (if a = t then [1] else (ys.map edOf).flatMap (fun x => if x.1 = a then (wyl (ys.map edOf) 12 x.2.1 t).map (fun m => x.2.2 * m) else [])) = _
 rw [if_neg hne, List.flatMap_map]
 rfl
theorem wK_zero (ys : List BL) (t a : ByteArray) : wK ys t a 0 = [] := rfl
theorem wK_succ {ys : List BL} {t a : ByteArray} {k : Nat} (hk : k < ys.length) : wK ys t a (k + 1) = wK ys t a k ++ wX ys t a (ys[k]'hk) := by
 unfold wK
 rw [List.take_succ_eq_append_getElem hk, List.flatMap_append]
 simp
theorem wK_all (ys : List BL) (t a : ByteArray) : wK ys t a ys.length = ys.flatMap (wX ys t a) := by
 unfold wK; rw [List.take_length]
theorem wW_len {ys : List BL} (hl : ys.length ≤ 12) (t a : ByteArray) : (wW ys t a).length ≤ 8916100448256 := wyl_len (by rw [List.length_map]; exact hl) t 12 a
theorem wX_len {ys : List BL} (hl : ys.length ≤ 12) (t a : ByteArray) (x : BL) : (wX ys t a x).length ≤ 743008370688 * 12 := by
 unfold wX
 split
 · rw [List.length_map]; exact wW_len hl t _
 · exact Nat.zero_le _
theorem flat_prefix {α β : Type} (f : α → List β) (l : List α) (k : Nat) : ((l.take k).flatMap f).length ≤ (l.flatMap f).length := by
 have h : l.flatMap f = (l.take k).flatMap f ++ (l.drop k).flatMap f := by rw [← List.flatMap_append, List.take_append_drop]
 rw [h, List.length_append]
 omega
theorem wK_len {ys : List BL} {lv : ByteArray → Nat} (h : Lvl (ys.map edOf) lv) (h2 : ∀ s, lv s < 12) (hl : ys.length ≤ 12) {t a : ByteArray} (hne : a ≠ t) (k : Nat) : (wK ys t a k).length ≤ 8916100448256 := by
 have h1 := flat_prefix (wX ys t a) ys k
 rw [← wW_step h h2 hne] at h1
 exact Nat.le_trans h1 (wW_len hl t a)
/-- Numbers as cells, capped as the program caps them. -/
def cellsT (zs : List Nat) : List Value := zs.map (fun n => Value.int .i64 (capT n))
theorem cellsT_len (zs : List Nat) : (cellsT zs).length = zs.length := by simp [cellsT]
theorem cellsT_get {zs : List Nat} {j : Nat} (hj : j < zs.length) : (cellsT zs)[j]? = some (.int .i64 (capT (zs[j]'hj))) := by
 unfold cellsT; rw [List.getElem?_map, List.getElem?_eq_getElem hj]; rfl
theorem cellsT_snoc (zs : List Nat) (n : Nat) : cellsT zs ++ [.int .i64 (capT n)] = cellsT (zs ++ [n]) := by unfold cellsT; simp
theorem capT_times (n : Nat) {q : Int} (h : 1 ≤ q) : (if q * capT n ≤ 1000000001 then q * capT n else 1000000001) = capT (q.toNat * n) := by
 obtain ⟨k, rfl⟩ : ∃ k : Nat, q = (k : Int) := ⟨q.toNat, by omega⟩
 have hk : 1 ≤ k := by omega
 have e : ∀ u : Nat, (if (u : Int) ≤ 1000000001 then (u : Int) else 1000000001) = ((min u 1000000001 : Nat) : Int) := by
  intro u
  split <;> omega
 have h2 : n ≤ k * n := Nat.le_mul_of_pos_left n hk
 have h3 : 1000000001 ≤ k * 1000000001 := Nat.le_mul_of_pos_left _ hk
 rw [Int.toNat_natCast]
 unfold capT
 rw [← Int.natCast_mul, e]
 congr 1
 by_cases hn : n ≤ 1000000001
 · rw [Nat.min_eq_left hn]
 · rw [Nat.min_eq_right (show 1000000001 ≤ n by omega), Nat.min_eq_right h3, Nat.min_eq_right (by omega)]
/-- The inner list: the first lines' ways, and so many of the next line's. -/
def wJ (ys : List BL) (t a : ByteArray) (k : Nat) (x : BL) (j : Nat) : List Nat := wK ys t a k ++ ((wW ys t x.prt).take j).map (fun m => x.qty.toNat * m)
theorem wJ_zero (ys : List BL) (t a : ByteArray) (k : Nat) (x : BL) : wJ ys t a k x 0 = wK ys t a k := by unfold wJ; simp
theorem wJ_succ {ys : List BL} {t a : ByteArray} {k : Nat} {x : BL} {j : Nat} (hj : j < (wW ys t x.prt).length) : wJ ys t a k x (j + 1) = wJ ys t a k x j ++ [x.qty.toNat * (wW ys t x.prt)[j]'hj] := by
 unfold wJ
 rw [List.take_succ_eq_append_getElem hj, List.map_append, List.append_assoc]
 rfl
theorem wJ_all {ys : List BL} {t a : ByteArray} {k : Nat} (hk : k < ys.length) (hp : (ys[k]'hk).par = a) : wJ ys t a k (ys[k]'hk) (wW ys t (ys[k]'hk).prt).length = wK ys t a (k + 1) := by
 unfold wJ
 rw [wK_succ hk, List.take_length]
 unfold wX
 rw [if_pos hp]
theorem wJ_len {ys : List BL} {lv : ByteArray → Nat} (h : Lvl (ys.map edOf) lv) (h2 : ∀ s, lv s < 12) (hl : ys.length ≤ 12) {t a : ByteArray} (hne : a ≠ t) {k : Nat} (hk : k < ys.length) (hp : (ys[k]'hk).par = a) (j : Nat) : (wJ ys t a k (ys[k]'hk) j).length ≤ 8916100448256 := by
 have h1 := wK_len h h2 hl hne (k + 1)
 rw [← wJ_all hk hp] at h1
 unfold wJ at h1 ⊢
 rw [List.length_append, List.length_map] at h1 ⊢
 have h3 : ((wW ys t (ys[k]'hk).prt).take j).length ≤ ((wW ys t (ys[k]'hk).prt).take (wW ys t (ys[k]'hk).prt).length).length := by
  rw [List.take_length]; exact List.length_take_le' _ _
 omega
theorem wW_pos {ys : List BL} (hq : ∀ x, x ∈ ys → 1 ≤ x.qty) (t a : ByteArray) : ∀ m, m ∈ wW ys t a → 1 ≤ m := fun m hm => wyl_pos (fun x hx => by
 obtain ⟨y, hy, rfl⟩ := List.mem_map.1 hx
 show 1 ≤ y.qty.toNat
 have := hq y hy
 omega) t 12 a m hm
/-- What WaysTo answers. -/
def WyOk (l : List IT) (xs : List BL) (s t : ByteArray) : Prop := BillsOk l xs ∧ 0 ≤ fiI l s ∧ 0 ≤ fiI l t ∧ xs.length ≤ 12
def WyYes (l : List IT) (xs : List BL) (s t : ByteArray) (day : Int) (ps : List PK) : Prop := WyOk l xs s t ∧ (wW (onX xs day ps) t s).length ≤ 200 ∧ ∀ m, m ∈ wW (onX xs day ps) t s → m ≤ 1000000000
open Classical in
noncomputable def wyB (l : List IT) (xs : List BL) (s t : ByteArray) (day : Int) (ps : List PK) : Bool := decide (WyYes l xs s t day ps)
open Classical in
noncomputable def wyZ (l : List IT) (xs : List BL) (s t : ByteArray) (day : Int) (ps : List PK) : List Int := if WyYes l xs s t day ps then (wW (onX xs day ps) t s).map (fun n => ((n : Nat) : Int)) else []
open Classical in
theorem wy_yes {l : List IT} {xs : List BL} {s t : ByteArray} {day : Int} {ps : List PK} (h : WyYes l xs s t day ps) : wyB l xs s t day ps = true ∧ wyZ l xs s t day ps = (wW (onX xs day ps) t s).map (fun n => ((n : Nat) : Int)) := ⟨decide_eq_true h, if_pos h⟩
open Classical in
theorem wy_no {l : List IT} {xs : List BL} {s t : ByteArray} {day : Int} {ps : List PK} (h : ¬WyYes l xs s t day ps) : wyB l xs s t day ps = false ∧ wyZ l xs s t day ps = [] := ⟨decide_eq_false h, if_neg h⟩
open Classical in
theorem wy_iff {l : List IT} {xs : List BL} {s t : ByteArray} {day : Int} {ps : List PK} : wyB l xs s t day ps = true ↔ WyYes l xs s t day ps := by unfold wyB; exact decide_eq_true_iff
theorem wyZ_len (l : List IT) (xs : List BL) (s t : ByteArray) (day : Int) (ps : List PK) : (wyZ l xs s t day ps).length ≤ 200 := by
 by_cases h : WyYes l xs s t day ps
 · rw [(wy_yes h).2, List.length_map]; exact h.2.1
 · rw [(wy_no h).2]; exact Nat.zero_le _
/-- A list of numbers of the call's own, and whether it is one. -/
def WyOut (y : Bool) (zs : List Int) (w : World) (e : Ending) (w' : World) : Prop := ∃ v', e = .returned (.tuple #[v', .bool y]) ∧ Hid (w'.ownsRow w.heap.size 3 1 v' zs.length (zs.map (Value.int .i64))) ∧ Hid (Below w.heap.size w w')
theorem cellsT_small {zs : List Nat} (h : ∀ m, m ∈ zs → m ≤ 1000000000) : cellsT zs = (zs.map (fun n => ((n : Nat) : Int))).map (Value.int .i64) := by
 unfold cellsT
 rw [List.map_map]
 exact List.map_congr_left (fun m hm => by show Value.int .i64 (capT m) = Value.int .i64 (m : Int); rw [capT_small (h m hm)])
end Go.Proofs.YtmnncinpepeocaaGreat
