import Derived.Test.YtmnncinpepeocaaGreatBuA
import Derived.WalkKit
import Derived.ProofKit
import Derived.ChangeSlices
import Derived.Laws.Rows
import Derived.Laws.AppendOwn
import Derived.Laws.OwnMore
import Derived.Test.YtmnncinpepeocaaGreatRows
import Derived.WalkSpells
import Derived.WalkSmall
import Derived.BigQuiet
import Derived.Deep.QuietTactic
import Derived.Deep.DeepCutAuto
import Derived.Deep.RegionHeld3
import Derived.Lib.Hide
import Derived.OpenShut
import Derived.Carry
import Derived.Lib.SmallJoins
import Derived.Deep.SlicePairs
import Derived.Deep.DeepHandedRow
namespace Go.Proofs.YtmnncinpepeocaaGreat
open Go.RowKit Go.ChangeShapes

structure CN where
 kind : Int
 opt : ByteArray
 vl : ByteArray
instance : Inhabited CN := ⟨⟨0, ByteArray.empty, ByteArray.empty⟩⟩
/-- One as a value. -/
def CN.val (r : CN) : Value := .agg #[.int .i64 r.kind, .string r.opt, .string r.vl]
/-- Its texts are no longer than a text can be. -/
def CN.Sz (r : CN) : Prop := r.opt.size ≤ maxLen ∧ r.vl.size ≤ maxLen
/-- The cells of a slice of them: at block b from o on. -/
def CN.At (w : World) (b o : Nat) (xs : List CN) : Prop :=
 b < w.heap.size ∧ ∀ (j : Nat) (x : CN), xs[j]? = some x → w.cell? ⟨b, o + j * 3, none⟩ = some (.int .i64 x.kind) ∧ w.cell? ⟨b, o + j * 3 + 1, none⟩ = some (.string x.opt) ∧ w.cell? ⟨b, o + j * 3 + 2, none⟩ = some (.string x.vl)
/-- In the world w the value v is a slice that reads as these. -/
def CN.Is (w : World) (v : Value) (xs : List CN) : Prop :=
 (xs = [] ∧ ∃ (a : Option Addr) (c : Nat), v = .slice a 0 c) ∨
 (xs ≠ [] ∧ ∃ b o c : Nat, v = .slice (some ⟨b, o, none⟩) xs.length c ∧ xs.length ≤ c ∧ CN.At w b o xs)
theorem CN.At.below {w w' : World} {b o : Nat} {xs : List CN} (h : CN.At w b o xs) (hb : Below w.heap.size w w') : CN.At w' b o xs :=
 ⟨Nat.lt_of_lt_of_le h.1 hb.size, fun j x hx => ⟨(hb.cell (p := ⟨b, o + j * 3, none⟩) h.1).trans ((h.2 j x hx).1), (hb.cell (p := ⟨b, o + j * 3 + 1, none⟩) h.1).trans ((h.2 j x hx).2.1), (hb.cell (p := ⟨b, o + j * 3 + 2, none⟩) h.1).trans ((h.2 j x hx).2.2)⟩⟩
theorem CN.Is.below {w w' : World} {v : Value} {xs : List CN} (h : CN.Is w v xs) (hb : Below w.heap.size w w') : CN.Is w' v xs := by
 rcases h with h | ⟨h0, b, o, c, hv, hc, hcell⟩
 · exact Or.inl h
 · exact Or.inr ⟨h0, b, o, c, hv, hc, hcell.below hb⟩
theorem CN.At.at {w : World} {b o : Nat} {xs : List CN} (h : CN.At w b o xs) (j : Nat) (hj : j < xs.length) : w.cell? ⟨b, o + j * 3, none⟩ = some (.int .i64 (xs[j]'hj).kind) ∧ w.cell? ⟨b, o + j * 3 + 1, none⟩ = some (.string (xs[j]'hj).opt) ∧ w.cell? ⟨b, o + j * 3 + 2, none⟩ = some (.string (xs[j]'hj).vl) :=
 h.2 j _ (List.getElem?_eq_getElem hj)
theorem CN.Is.slice {w : World} {v : Value} {xs : List CN} (h : CN.Is w v xs) : ∃ (a : Option Addr) (c : Nat), v = .slice a xs.length c := by
 rcases h with ⟨rfl, a, c, rfl⟩ | ⟨h0, b, o, c, rfl, hc, hcell⟩
 · exact ⟨a, c, rfl⟩
 · exact ⟨_, c, rfl⟩
theorem CN.Is.some {w : World} {v : Value} {xs : List CN} (h : CN.Is w v xs) (h0 : 0 < xs.length) : ∃ b o c : Nat, v = .slice (some ⟨b, o, none⟩) xs.length c ∧ xs.length ≤ c ∧ CN.At w b o xs := by
 rcases h with ⟨rfl, _⟩ | ⟨_, h⟩
 · simp at h0
 · exact h
/-- The cells of a row. -/
def CN.enc (r : CN) : List Value := [.int .i64 r.kind, .string r.opt, .string r.vl]
def CN.cells (xs : List CN) : List Value := xs.flatMap CN.enc
theorem CN.cells_cons (r : CN) (xs : List CN) : CN.cells (r :: xs) = .int .i64 r.kind :: .string r.opt :: .string r.vl :: CN.cells xs := rfl
theorem CN.cells_push (xs : List CN) (r : CN) : CN.cells xs ++ [.int .i64 r.kind, .string r.opt, .string r.vl] = CN.cells (xs ++ [r]) := by simp [CN.cells, CN.enc]
theorem CN.cells_append (xs ys : List CN) : CN.cells xs ++ CN.cells ys = CN.cells (xs ++ ys) := by simp [CN.cells]
theorem CN.cells_length (xs : List CN) : (CN.cells xs).length = xs.length * 3 := by
 induction xs with
 | nil => rfl
 | cons r xs ih => rw [CN.cells_cons]; simp only [List.length_cons, ih]; omega
theorem CN.cells_at (xs : List CN) : ∀ (j : Nat) (x : CN), xs[j]? = some x → (CN.cells xs)[j * 3]? = some (.int .i64 x.kind) ∧ (CN.cells xs)[j * 3 + 1]? = some (.string x.opt) ∧ (CN.cells xs)[j * 3 + 2]? = some (.string x.vl) := by
 induction xs with
 | nil => intro j x h; simp at h
 | cons r xs ih =>
  intro j x h
  cases j with
  | zero =>
   simp at h
   subst h
   exact ⟨rfl, rfl, rfl⟩
  | succ k =>
   have h2 := ih k x (by simpa using h)
   rw [CN.cells_cons, show (k + 1) * 3 = k * 3 + 1 + 1 + 1 by omega, show k * 3 + 1 + 1 + 1 + 1 = (k * 3 + 1) + 1 + 1 + 1 by omega, show k * 3 + 1 + 1 + 1 + 2 = (k * 3 + 2) + 1 + 1 + 1 by omega]
   simp only [List.getElem?_cons_succ]
   exact h2
theorem CN.is_of_row {w : World} {base e : Nat} {v : Value} {xs : List CN} (h : w.ownsRow base e 3 v xs.length (CN.cells xs)) : CN.Is w v xs := by
 rcases h.2 with ⟨rfl, hx⟩ | ⟨g, cap, cur, rfl, hb, hg, hnc, hcm, hcs, htake⟩
 · exact Or.inl ⟨List.eq_nil_of_length_eq_zero hx, _, _, rfl⟩
 · by_cases h0 : xs = []
   · subst h0
     exact Or.inl ⟨rfl, _, _, rfl⟩
   · refine Or.inr ⟨h0, g, 0, cap, rfl, hnc, (h.lt g rfl).2, fun j x hx => ?_⟩
     have hj : j < xs.length := (List.getElem?_eq_some_iff.1 hx).1
     have h4 := CN.cells_at xs j x hx
     rw [Nat.zero_add, h.cellAt (j * 3) (by omega), h.cellAt (j * 3 + 1) (by omega), h.cellAt (j * 3 + 2) (by omega)]
     exact h4
end Go.Proofs.YtmnncinpepeocaaGreat

namespace Go.Proofs.YtmnncinpepeocaaGreat
open Go.RowKit

theorem CN.info : (Tryz.prog.info? 145).map (fun i => (i.zero, i.size, i.bytes)) = some (some (.agg #[.int .i64 0, .string ByteArray.empty, .string ByteArray.empty]), 3, 40) := by kernel_rfl

set_option maxRecDepth 100000 in
set_option maxHeartbeats 1000000 in
theorem CN.to_one (r : CN) (w : World) :
 Calls Tryz.prog 119 #[CN.val r] w fun e w' => e = .returned (CN.val r) ∧ Below w.heap.size w w' := by
 obtain ⟨kind, opt, vl⟩ := r
 unfold CN.val
 go_enter Tryz.func119, Tryz.ntmps119
 go_wp2_with fail
 obtain ⟨hB, hz, r0, r1, r2⟩ := alloc3 w (.cells #[.int .i64 kind, .string opt, .string vl] 157) (.cells #[.int .i64 kind, .string opt, .string vl] 145) (.cells #[.int .i64 kind, .string opt, .string vl] 145)
 exact bodyPost_ret (v := .agg #[.int .i64 kind, .string opt, .string vl]) (results_cell_row Tryz.results119 _ _ _ _ _ _ _ rfl r1 Tryz.underlying145 rfl (by kernel_rfl)) rfl ⟨rfl, hB⟩

/-- A copy, the call's own. -/
def CN.Copy (xs : List CN) (w : World) (e : Ending) (w' : World) : Prop := ∃ v, e = .returned v ∧ w'.ownsRow w.heap.size 145 3 v xs.length (CN.cells xs) ∧ Below w.heap.size w w'

set_option maxRecDepth 100000 in
set_option maxHeartbeats 1000000 in
theorem CN.to_all (v : Value) (xs : List CN) (w : World) (h : CN.Is w v xs) (hm : xs.length ≤ 1048576) :
 Calls Tryz.prog 101 #[v] w (CN.Copy xs w) := by
 obtain ⟨i0, hi, hz0, hz1, hz2⟩ := info_parts CN.info
 have HX := Lib.hid h
 obtain ⟨a, c, rfl⟩ := h.slice
 clear h
 go_enter Tryz.func101, Tryz.ntmps101
 go_wp2_with (at_make; refine wpList_make_full _ rfl _ _ 92 rfl w.heap.size 145 i0 (.agg #[.int .i64 0, .string ByteArray.empty, .string ByteArray.empty]) 3 Tryz.underlying92 hi hz0 hz1 _ _ _ _ xs.length rfl rfl rfl rfl (by rw [hz2]; omega) (by unfold maxLen; omega) (Nat.le_refl _) ?_)
 intro w0 hown0 hgrow0
 have hb0 : Below w.heap.size w w0 := (Below.refl _ _).grown hgrow0 (Nat.le_refl _) (fun k h => by cases h)
 have hown1 := RowL.start (CN.cells_length xs) hown0
 generalize (madeCells #[.int .i64 0, .string ByteArray.empty, .string ByteArray.empty] (xs.length * 3)).toList = zz at *
 clear hown0
 go_wp2
 go_loopw [4] (fun i wr => ∃ k : Nat, k ≤ xs.length ∧ i = .int .i64 k ∧ RowL w.heap.size 145 3 (CN.cells xs) zz w.heap.size xs.length xs.length (k * 3) wr ∧ Below w.heap.size w wr) (fun i _ => xs.length - (intOf i).toNat)
 case atStart => exact ⟨0, Nat.zero_le _, rfl, by rw [Nat.zero_mul]; exact hown1, hb0⟩
 case round =>
  obtain ⟨k, hk, rfl, hown, hb⟩ := hrel
  have HO := Lib.hid hown
  clear hown hown1
  by_cases hlt : k < xs.length
  · obtain ⟨b2, o2, c2, hv2, hc2, hcell2⟩ := HX.out.some (by omega)
    simp only [Value.slice.injEq] at hv2
    obtain ⟨rfl, _, rfl⟩ := hv2
    obtain ⟨e1, e2, e3⟩ := (hcell2.below hb).at k hlt
    have HC := Lib.hid (CN.cells_at xs k _ (List.getElem?_eq_getElem hlt))
    generalize xs[k]'hlt = x at *
    have HP := Lib.hid (CN.to_one x wr)
    unfold CN.val at HP
    go_wp2_with fail
    refine HP.out.mono ?_
    rintro e w2 ⟨rfl, hb2⟩
    have HO2 := Lib.hid (HO.out.keep hb2)
    have HB2 := Lib.hid (hb.trans (hb2.mono hb.size))
    clear e1 e2 e3 hb2 HO HP
    obtain ⟨⟨u0, hu0⟩, fz0⟩ := HO2.out.cell (k * 3) (by omega)
    obtain ⟨⟨u1, hu1⟩, fz1⟩ := HO2.out.cell (k * 3 + 1) (by omega)
    obtain ⟨⟨u2, hu2⟩, fz2⟩ := HO2.out.cell (k * 3 + 2) (by omega)
    have HS := Lib.hid (((HO2.out.set (HC.out.1)).set (HC.out.2.1)).set (HC.out.2.2))
    have HB3 : Hid (Below w.heap.size w (((w2.setCell ⟨w.heap.size, k * 3, none⟩ (.int .i64 x.kind)).setCell ⟨w.heap.size, k * 3 + 1, none⟩ (.string x.opt)).setCell ⟨w.heap.size, k * 3 + 2, none⟩ (.string x.vl))) := Lib.hid ((((HB2.out.setCell (Nat.le_refl _) _).setCell (Nat.le_refl _) _).setCell (Nat.le_refl _) _))
    go_wp2_with fail
    go_roundw
    case rel => exact ⟨k + 1, by omega, by go_num, by rw [show (k + 1) * 3 = k * 3 + 1 + 1 + 1 by omega]; exact HS.out, HB3.out⟩
    case measure => simp [intOf]; omega
  · have hke : k = xs.length := by omega
    have HE := Lib.hid (HO.out.done (by rw [hke]))
    clear hke
    go_wp2
    go_ret
    exact ⟨_, rfl, HE.out, hb⟩
end Go.Proofs.YtmnncinpepeocaaGreat

namespace Go.Proofs.YtmnncinpepeocaaGreat
open Go.RowKit

set_option maxRecDepth 100000 in
set_option maxHeartbeats 1000000 in
theorem CN.eq_one (r : CN) (w : World) :
 Calls Tryz.prog 120 #[CN.val r, CN.val r] w fun e w' => e = .returned (.bool true) ∧ Below w.heap.size w w' := by
 obtain ⟨kind, opt, vl⟩ := r
 unfold CN.val
 have b0 : (kind != kind) = false := by simp
 have b1 := str_eq (rfl : opt = opt)
 have b2 := str_eq (rfl : vl = vl)
 go_enter Tryz.func120, Tryz.ntmps120
 go_wp2_with fail
 go_ret
 exact ⟨rfl, ((Below.refl _ _).alloc (Nat.le_refl _) _).alloc (by simp) _⟩

set_option maxRecDepth 100000 in
set_option maxHeartbeats 1000000 in
theorem CN.eq_all (v v' : Value) (xs : List CN) (w : World) (h : CN.Is w v xs) (h' : CN.Is w v' xs) (hm : xs.length ≤ 1048577) :
 Calls Tryz.prog 102 #[v, v'] w fun e w' => e = .returned (.bool true) ∧ Below w.heap.size w w' := by
 have HX := Lib.hid h
 have HY := Lib.hid h'
 obtain ⟨a, c, rfl⟩ := h.slice
 obtain ⟨a', c', rfl⟩ := h'.slice
 have hnn : ((xs.length : Int) != (xs.length : Int)) = false := by simp
 clear h h'
 go_enter Tryz.func102, Tryz.ntmps102
 go_wp2
 go_loopw [5] (fun i wr => ∃ k : Nat, k ≤ xs.length ∧ i = .int .i64 k ∧ Below w.heap.size w wr) (fun i _ => xs.length - (intOf i).toNat)
 case atStart => exact ⟨0, Nat.zero_le _, rfl, Below.refl _ _⟩
 case round =>
  obtain ⟨k, hk, rfl, hb⟩ := hrel
  have HB := Lib.hid hb
  clear hb
  by_cases hlt : k < xs.length
  · obtain ⟨b2, o2, c2, hv2, hc2, hcell2⟩ := HX.out.some (by omega)
    simp only [Value.slice.injEq] at hv2
    obtain ⟨rfl, _, rfl⟩ := hv2
    obtain ⟨b3, o3, c3, hv3, hc3, hcell3⟩ := HY.out.some (by omega)
    simp only [Value.slice.injEq] at hv3
    obtain ⟨rfl, _, rfl⟩ := hv3
    obtain ⟨e1, e2, e3⟩ := (hcell2.below HB.out).at k hlt
    obtain ⟨e4, e5, e6⟩ := (hcell3.below HB.out).at k hlt
    clear hcell2 hcell3
    have HLT := Lib.hid hlt
    generalize xs[k]'hlt = x at *
    have HP : Hid (∀ W, Calls Tryz.prog 120 #[.agg #[.int .i64 x.kind, .string x.opt, .string x.vl], .agg #[.int .i64 x.kind, .string x.opt, .string x.vl]] W fun e w' => e = .returned (.bool true) ∧ Below W.heap.size W w') := Lib.hid (fun W => CN.eq_one x W)
    go_upto_region 6 with fail
    go_region_held3 (fun W' => Hid (Below wr.heap.size wr W') ∧ W'.cell? ⟨b2, o2 + k * 3, none⟩ = some (.int .i64 x.kind) ∧ W'.cell? ⟨b2, o2 + k * 3 + 1, none⟩ = some (.string x.opt) ∧ W'.cell? ⟨b2, o2 + k * 3 + 2, none⟩ = some (.string x.vl) ∧ W'.cell? ⟨b3, o3 + k * 3, none⟩ = some (.int .i64 x.kind) ∧ W'.cell? ⟨b3, o3 + k * 3 + 1, none⟩ = some (.string x.opt) ∧ W'.cell? ⟨b3, o3 + k * 3 + 2, none⟩ = some (.string x.vl))
     (first | assumption | exact hold6 e1 e2 e3 e4 e5 e6 (hold_call (by assumption) (by assumption)) | exact hold6 e1 e2 e3 e4 e5 e6 (Below.refl _ _).drew)
     (first | (go_at_call 120; refine (HP.out _).mono ?_; rintro e w' ⟨rfl, hb⟩; have hle := hold_le (by assumption) hb))
    all_goals
     go_wp2_with fail
     go_roundw
     case rel => exact ⟨k + 1, by have := HLT.out; omega, by go_num, HB.out.trans ((by assumption : Hid (Below wr.heap.size wr _) ∧ _).1.out.mono HB.out.size)⟩
     case measure => have := HLT.out; simp [intOf]; omega
  · go_wp2
    go_ret
    exact ⟨rfl, HB.out⟩

/-- How large one is. -/
def CN.bytes (r : CN) : Nat := r.opt.size + r.vl.size
def CN.bytesS (xs : List CN) : Nat := (xs.map CN.bytes).sum
theorem CN.bytesS_succ {xs : List CN} {k : Nat} (hk : k < xs.length) : CN.bytesS (xs.take (k + 1)) = CN.bytesS (xs.take k) + CN.bytes (xs[k]'hk) := by
 unfold CN.bytesS
 rw [List.take_succ_eq_append_getElem hk, List.map_append, List.sum_append]
 simp
theorem CN.bytesS_all {xs : List CN} {k : Nat} (hk : xs.length ≤ k) : CN.bytesS (xs.take k) = CN.bytesS xs := by rw [List.take_of_length_le hk]
/-- What is left behind one. -/
def CN.left (r : CN) (left : Int) : Int := if left < CN.bytes r then -1 else left - CN.bytes r

set_option maxRecDepth 100000 in
set_option maxHeartbeats 1000000 in
theorem CN.sz_one (r : CN) (left : Int) (w : World) (h0 : 0 ≤ left) (h1 : left ≤ 1048576) (hs : CN.Sz r) :
 Calls Tryz.prog 118 #[CN.val r, .int .i64 left] w fun e w' => e = .returned (.int .i64 (CN.left r left)) ∧ Below w.heap.size w w' := by
 obtain ⟨kind, opt, vl⟩ := r
 unfold CN.val
 unfold CN.Sz maxLen at hs
 simp only at hs
 have hz0 : opt.size ≤ _ := hs.1
 have hz1 : vl.size ≤ _ := hs.2
 have HB : Below w.heap.size w (w.alloc (.cells #[.int .i64 kind, .string opt, .string vl] 157)) := (Below.refl _ _).alloc (Nat.le_refl _) _
 by_cases hc0 : left < (opt.size : Int)
 · have HY : Hid (CN.left ⟨kind, opt, vl⟩ left = -1) := Lib.hid (if_pos (by show left < ((opt.size + vl.size : Nat) : Int); omega))
   go_enter Tryz.func118, Tryz.ntmps118
   go_wp2_with fail
   go_ret
   exact ⟨by rw [HY.out]; rfl, HB⟩
 by_cases hc1 : left < (opt.size : Int) + (vl.size : Int)
 · have HY : Hid (CN.left ⟨kind, opt, vl⟩ left = -1) := Lib.hid (if_pos (by show left < ((opt.size + vl.size : Nat) : Int); omega))
   go_enter Tryz.func118, Tryz.ntmps118
   go_wp2_with fail
   go_ret
   exact ⟨by rw [HY.out]; rfl, HB⟩
 have HY : Hid (CN.left ⟨kind, opt, vl⟩ left = left - opt.size - vl.size) := Lib.hid (by
  unfold CN.left CN.bytes
  rw [if_neg (by show ¬left < ((opt.size + vl.size : Nat) : Int); omega)]
  show left - ((opt.size + vl.size : Nat) : Int) = _
  omega)
 go_enter Tryz.func118, Tryz.ntmps118
 go_wp2_with fail
 go_ret
 exact ⟨by rw [HY.out]; rfl, HB⟩

/-- What the size of a slice answers. -/
def CN.SzS (xs : List CN) (left : Int) (w : World) (e : Ending) (w' : World) : Prop := ∃ r : Int, e = .returned (.int .i64 r) ∧ -1 ≤ r ∧ r ≤ 1048576 ∧ (0 ≤ r → r + (xs.length : Int) + CN.bytesS xs ≤ left) ∧ Below w.heap.size w w'

set_option maxRecDepth 100000 in
set_option maxHeartbeats 1000000 in
theorem CN.sz_all (v : Value) (xs : List CN) (left : Int) (w : World) (h : CN.Is w v xs) (h0 : 0 ≤ left) (h1 : left ≤ 1048576) (hm : xs.length ≤ maxLen) (hs : ∀ r, r ∈ xs → CN.Sz r) :
 Calls Tryz.prog 100 #[v, .int .i64 left] w (CN.SzS xs left w) := by
 unfold maxLen at hm
 have HX := Lib.hid h
 have HS := Lib.hid hs
 obtain ⟨a, c, rfl⟩ := h.slice
 clear h hs
 by_cases hb : left < xs.length
 · go_enter Tryz.func100, Tryz.ntmps100
   go_wp2_with fail
   go_ret
   exact ⟨-1, rfl, by omega, by omega, by omega, Below.refl _ _⟩
 · go_enter Tryz.func100, Tryz.ntmps100
   go_wp2_with fail
   go_loopw [1, 5] (fun t i wr => ∃ (k : Nat) (m : Int), k ≤ xs.length ∧ i = .int .i64 k ∧ t = .int .i64 m ∧ 0 ≤ m ∧ m ≤ 1048576 ∧ Hid (m + xs.length + CN.bytesS (xs.take k) ≤ left) ∧ Hid (Below w.heap.size w wr)) (fun _ i _ => xs.length - (intOf i).toNat)
   case atStart => exact ⟨0, left - xs.length, Nat.zero_le _, rfl, rfl, by omega, by omega, Lib.hid (by simp [CN.bytesS]), Lib.hid (Below.refl _ _)⟩
   case round =>
    obtain ⟨k, m, hk, rfl, rfl, hm0, hm1, HSUM, HB⟩ := hrel
    by_cases hlt : k < xs.length
    · obtain ⟨b2, o2, c2, hv2, hc2, hcell2⟩ := HX.out.some (by omega)
      simp only [Value.slice.injEq] at hv2
      obtain ⟨rfl, _, rfl⟩ := hv2
      obtain ⟨e1, e2, e3⟩ := (hcell2.below HB.out).at k hlt
      have HSU := Lib.hid (CN.bytesS_succ hlt)
      have hz := Lib.hid (HS.out _ (List.getElem_mem hlt))
      generalize xs[k]'hlt = x at *
      have HP := Lib.hid (CN.sz_one x m wr hm0 hm1 hz.out)
      unfold CN.val at HP
      clear hcell2 hc2
      by_cases hn : m < CN.bytes x
      · have HL : Hid (CN.left x m = -1) := Lib.hid (if_pos hn)
        clear hn
        go_wp2_with fail
        refine HP.out.mono ?_
        rintro e w2 ⟨rfl, hb2⟩
        rw [HL.out]
        go_wp2_with fail
        go_ret
        exact ⟨-1, rfl, by omega, by omega, by omega, HB.out.trans (hb2.mono HB.out.size)⟩
      · have HL : Hid (CN.left x m = m - CN.bytes x) := Lib.hid (if_neg hn)
        obtain ⟨z, hz2⟩ : ∃ z : Int, m - CN.bytes x = z := ⟨_, rfl⟩
        have hz0 : 0 ≤ z ∧ z ≤ 1048576 := by omega
        rw [hz2] at HL
        have HZ := Lib.hid hz2
        clear hn hz2
        go_wp2_with fail
        refine HP.out.mono ?_
        rintro e w2 ⟨rfl, hb2⟩
        rw [HL.out]
        go_wp2_with fail
        go_roundw
        case rel => exact ⟨k + 1, z, by omega, by go_num, rfl, hz0.1, hz0.2, Lib.hid (by rw [HSU.out]; have h9 := HSUM.out; have h8 := HZ.out; push_cast; omega), Lib.hid (HB.out.trans (hb2.mono HB.out.size))⟩
        case measure => simp [intOf]; omega
    · have HSU := Lib.hid (CN.bytesS_all (Nat.le_of_not_lt hlt))
      go_wp2_with fail
      go_ret
      exact ⟨m, rfl, by omega, by omega, fun _ => by have := HSUM.out; rw [HSU.out] at this; omega, HB.out⟩
end Go.Proofs.YtmnncinpepeocaaGreat

namespace Go.Proofs.YtmnncinpepeocaaGreat
open Go.ChangeShapes Go.WideShapes Go.ChangeAt Go.RowKit Go.Joins

theorem CN.take {W : World} {a : Addr} {len cap : Nat} {xs : List CN} (hl : len ≤ cap) (hz : xs.length = cap)
 (hc : ∀ i, i < xs.length → W.cell? (a.add (i * 3)) = some (.int .i64 (xs.getD i default).kind) ∧ W.cell? (a.add (i * 3 + 1)) = some (.string (xs.getD i default).opt) ∧ W.cell? (a.add (i * 3 + 2)) = some (.string (xs.getD i default).vl)) :
 CN.Is W (.slice (some a) len cap) (xs.take len) := by
 by_cases h0 : len = 0
 · subst h0
   exact Or.inl ⟨by simp, _, _, rfl⟩
 · have hp : 0 < xs.length := by omega
   obtain ⟨b, off, spot⟩ := a
   have hspot : spot = none := by simpa [Addr.add] using World.cell?_spot (hc 0 hp).1
   subst hspot
   have hlen : (xs.take len).length = len := by rw [List.length_take]; omega
   refine Or.inr ⟨by intro h; rw [h] at hlen; simp at hlen; omega, b, off, cap, by rw [hlen], by omega, ?_, ?_⟩
   · exact cell_blockL (a := ⟨b, off, none⟩) (hc 0 hp).1
   · intro j x hx
     have hj : j < len := by
      have := (List.getElem?_eq_some_iff.1 hx).1
      omega
     have h1 := hc j (by omega)
     rw [Addr.add_lit, Addr.add_lit, Addr.add_lit] at h1
     rw [List.getElem?_take_of_lt hj] at hx
     rw [show xs.getD j default = x by rw [List.getD, hx]; rfl] at h1
     exact ⟨h1.1, by simpa [Nat.add_assoc] using h1.2.1, by simpa [Nat.add_assoc] using h1.2.2⟩

theorem CN.cellsOf : Tryz.prog.cellsOf 157 = 3 := by kernel_rfl

set_option maxRecDepth 100000 in
theorem CN.opened {H : Type} {enc : TypeId × Value → H} {W : World} {n : Nat} {cs : List Value} {x : DataW H × List MemPlace} (h : DataW.trod enc Tryz.prog W 0 (fun _ => true) true n 157 cs = some x) :
 ∃ r : CN, cs = [.int .i64 r.kind, .string r.opt, .string r.vl] ∧ CN.Sz r := by
 obtain ⟨xs, k, hk, hxy, hcl, hxl, hf⟩ := DataW.trod_struct Tryz.underlying157 h
 rw [CN.cellsOf] at hcl
 match cs, hcl with
 | [v0, v1, v2], _ =>
  match xs, hxl with
  | [y0, y1, y2], _ =>
   have g0 : DataW.trod enc Tryz.prog W 0 (fun _ => true) true k 3 (([v0, v1, v2].drop 0).take (Tryz.prog.cellsOf 3)) = _ := hf 0 _ rfl
   have g1 : DataW.trod enc Tryz.prog W 0 (fun _ => true) true k 9 (([v0, v1, v2].drop 1).take (Tryz.prog.cellsOf 9)) = _ := hf 1 _ rfl
   have g2 : DataW.trod enc Tryz.prog W 0 (fun _ => true) true k 9 (([v0, v1, v2].drop 2).take (Tryz.prog.cellsOf 9)) = _ := hf 2 _ rfl
   rw [show Tryz.prog.cellsOf 9 = 1 by kernel_rfl] at g1 g2
   rw [show Tryz.prog.cellsOf 3 = 1 by kernel_rfl] at g0
   simp at g0 g1 g2
   obtain ⟨s0, e0, _, _⟩ := DataW.trod_int Tryz.underlying3 g0
   obtain ⟨s1, e1, _, z1⟩ := DataW.trod_string Tryz.underlying9 g1
   obtain ⟨s2, e2, _, z2⟩ := DataW.trod_string Tryz.underlying9 g2
   simp at e0 e1 e2
   exact ⟨⟨s0, s1, s2⟩, by rw [e0, e1, e2], ⟨z1, z2⟩⟩

set_option maxRecDepth 100000 in
theorem CN.args_open {H : Type} {enc : TypeId × Value → H} {W : World} {base : Nat} {v : Value} {d : DataW H} {p : List MemPlace} (hv : Value.okWide Tryz.prog W .any base 100 v)
 (h0 : DataW.Trod enc Tryz.prog W 0 (fun _ => true) true 100 v d p) :
 ∃ xs : List CN, CN.Is W v xs ∧ xs.length ≤ maxLen ∧ ∀ r, r ∈ xs → CN.Sz r := by
 obtain ⟨a0, len, cap, rfl⟩ := okWide_slice Tryz.underlying100 hv
 obtain ⟨fuel, hf⟩ := h0
 rcases Go.Deep.open_slice Tryz.underlying100 hf with ⟨hcs, hx⟩ | ⟨a, len', cap', m, n, D, Pl, hcs, _, hl, hm, hmm, _, hi⟩
 · simp only [Value.cells, List.cons.injEq, Value.slice.injEq, and_true] at hcs
   obtain ⟨rfl, rfl, rfl⟩ := hcs
   exact ⟨[], Or.inl ⟨rfl, _, _, rfl⟩, Nat.zero_le _, fun r hr => by cases hr⟩
 · simp only [Value.cells, List.cons.injEq, Value.slice.injEq, and_true] at hcs
   obtain ⟨rfl, rfl, rfl⟩ := hcs
   rw [if_pos rfl] at hmm
   subst hmm
   have each : ∀ i, ∃ r : CN, i < m → (W.cell? (a.add (i * 3)) = some (.int .i64 r.kind) ∧ W.cell? (a.add (i * 3 + 1)) = some (.string r.opt) ∧ W.cell? (a.add (i * 3 + 2)) = some (.string r.vl)) ∧ CN.Sz r := by
    intro i
    by_cases hlt : i < m
    · obtain ⟨cs', h1, h2⟩ := hi i hlt
      rw [CN.cellsOf] at h1
      obtain ⟨r, rfl, z0⟩ := CN.opened h2
      obtain ⟨_, hlen, hcell⟩ := World.cells?_some h1
      have k0 := hcell 0 (by omega)
      have k1 := hcell 1 (by omega)
      have k2 := hcell 2 (by omega)
      rw [Go.Deep.add_add] at k0 k1 k2
      exact ⟨r, fun _ => ⟨⟨by simpa using k0, by simpa using k1, by simpa using k2⟩, z0⟩⟩
    · exact ⟨default, fun h => absurd h hlt⟩
   obtain ⟨q, hq⟩ : ∃ q : Nat → CN, ∀ i, i < m → (W.cell? (a.add (i * 3)) = some (.int .i64 (q i).kind) ∧ W.cell? (a.add (i * 3 + 1)) = some (.string (q i).opt) ∧ W.cell? (a.add (i * 3 + 2)) = some (.string (q i).vl)) ∧ CN.Sz (q i) :=
    ⟨fun i => Classical.choose (each i), fun i hlt => Classical.choose_spec (each i) hlt⟩
   refine ⟨((List.range m).map q).take len, CN.take hl (by simp) (fun i hlt => ?_), ?_, ?_⟩
   · have hlt' : i < m := by simpa using hlt
     have e : ((List.range m).map q).getD i default = q i := by simp [List.getD, hlt']
     rw [e]
     exact (hq i hlt').1
   · exact Nat.le_trans (List.length_take_le _ _) (Nat.le_trans hl hm)
   · intro r hr
     obtain ⟨i, hi', rfl⟩ := List.mem_map.1 (List.mem_of_mem_take hr)
     exact (hq i (List.mem_range.1 hi')).2
end Go.Proofs.YtmnncinpepeocaaGreat

namespace Go.Proofs.YtmnncinpepeocaaGreat
open Go.RowKit Go.ChangeShapes

structure PK where
 opt : ByteArray
 vl : ByteArray
instance : Inhabited PK := ⟨⟨ByteArray.empty, ByteArray.empty⟩⟩
/-- One as a value. -/
def PK.val (r : PK) : Value := .agg #[.string r.opt, .string r.vl]
/-- Its texts are no longer than a text can be. -/
def PK.Sz (r : PK) : Prop := r.opt.size ≤ maxLen ∧ r.vl.size ≤ maxLen
/-- The cells of a slice of them: at block b from o on. -/
def PK.At (w : World) (b o : Nat) (xs : List PK) : Prop :=
 b < w.heap.size ∧ ∀ (j : Nat) (x : PK), xs[j]? = some x → w.cell? ⟨b, o + j * 2, none⟩ = some (.string x.opt) ∧ w.cell? ⟨b, o + j * 2 + 1, none⟩ = some (.string x.vl)
/-- In the world w the value v is a slice that reads as these. -/
def PK.Is (w : World) (v : Value) (xs : List PK) : Prop :=
 (xs = [] ∧ ∃ (a : Option Addr) (c : Nat), v = .slice a 0 c) ∨
 (xs ≠ [] ∧ ∃ b o c : Nat, v = .slice (some ⟨b, o, none⟩) xs.length c ∧ xs.length ≤ c ∧ PK.At w b o xs)
theorem PK.At.below {w w' : World} {b o : Nat} {xs : List PK} (h : PK.At w b o xs) (hb : Below w.heap.size w w') : PK.At w' b o xs :=
 ⟨Nat.lt_of_lt_of_le h.1 hb.size, fun j x hx => ⟨(hb.cell (p := ⟨b, o + j * 2, none⟩) h.1).trans ((h.2 j x hx).1), (hb.cell (p := ⟨b, o + j * 2 + 1, none⟩) h.1).trans ((h.2 j x hx).2)⟩⟩
theorem PK.Is.below {w w' : World} {v : Value} {xs : List PK} (h : PK.Is w v xs) (hb : Below w.heap.size w w') : PK.Is w' v xs := by
 rcases h with h | ⟨h0, b, o, c, hv, hc, hcell⟩
 · exact Or.inl h
 · exact Or.inr ⟨h0, b, o, c, hv, hc, hcell.below hb⟩
theorem PK.At.at {w : World} {b o : Nat} {xs : List PK} (h : PK.At w b o xs) (j : Nat) (hj : j < xs.length) : w.cell? ⟨b, o + j * 2, none⟩ = some (.string (xs[j]'hj).opt) ∧ w.cell? ⟨b, o + j * 2 + 1, none⟩ = some (.string (xs[j]'hj).vl) :=
 h.2 j _ (List.getElem?_eq_getElem hj)
theorem PK.Is.slice {w : World} {v : Value} {xs : List PK} (h : PK.Is w v xs) : ∃ (a : Option Addr) (c : Nat), v = .slice a xs.length c := by
 rcases h with ⟨rfl, a, c, rfl⟩ | ⟨h0, b, o, c, rfl, hc, hcell⟩
 · exact ⟨a, c, rfl⟩
 · exact ⟨_, c, rfl⟩
theorem PK.Is.some {w : World} {v : Value} {xs : List PK} (h : PK.Is w v xs) (h0 : 0 < xs.length) : ∃ b o c : Nat, v = .slice (some ⟨b, o, none⟩) xs.length c ∧ xs.length ≤ c ∧ PK.At w b o xs := by
 rcases h with ⟨rfl, _⟩ | ⟨_, h⟩
 · simp at h0
 · exact h
/-- The cells of a row. -/
def PK.enc (r : PK) : List Value := [.string r.opt, .string r.vl]
def PK.cells (xs : List PK) : List Value := xs.flatMap PK.enc
theorem PK.cells_cons (r : PK) (xs : List PK) : PK.cells (r :: xs) = .string r.opt :: .string r.vl :: PK.cells xs := rfl
theorem PK.cells_push (xs : List PK) (r : PK) : PK.cells xs ++ [.string r.opt, .string r.vl] = PK.cells (xs ++ [r]) := by simp [PK.cells, PK.enc]
theorem PK.cells_append (xs ys : List PK) : PK.cells xs ++ PK.cells ys = PK.cells (xs ++ ys) := by simp [PK.cells]
theorem PK.cells_length (xs : List PK) : (PK.cells xs).length = xs.length * 2 := by
 induction xs with
 | nil => rfl
 | cons r xs ih => rw [PK.cells_cons]; simp only [List.length_cons, ih]; omega
theorem PK.cells_at (xs : List PK) : ∀ (j : Nat) (x : PK), xs[j]? = some x → (PK.cells xs)[j * 2]? = some (.string x.opt) ∧ (PK.cells xs)[j * 2 + 1]? = some (.string x.vl) := by
 induction xs with
 | nil => intro j x h; simp at h
 | cons r xs ih =>
  intro j x h
  cases j with
  | zero =>
   simp at h
   subst h
   exact ⟨rfl, rfl⟩
  | succ k =>
   have h2 := ih k x (by simpa using h)
   rw [PK.cells_cons, show (k + 1) * 2 = k * 2 + 1 + 1 by omega, show k * 2 + 1 + 1 + 1 = (k * 2 + 1) + 1 + 1 by omega]
   simp only [List.getElem?_cons_succ]
   exact h2
theorem PK.is_of_row {w : World} {base e : Nat} {v : Value} {xs : List PK} (h : w.ownsRow base e 2 v xs.length (PK.cells xs)) : PK.Is w v xs := by
 rcases h.2 with ⟨rfl, hx⟩ | ⟨g, cap, cur, rfl, hb, hg, hnc, hcm, hcs, htake⟩
 · exact Or.inl ⟨List.eq_nil_of_length_eq_zero hx, _, _, rfl⟩
 · by_cases h0 : xs = []
   · subst h0
     exact Or.inl ⟨rfl, _, _, rfl⟩
   · refine Or.inr ⟨h0, g, 0, cap, rfl, hnc, (h.lt g rfl).2, fun j x hx => ?_⟩
     have hj : j < xs.length := (List.getElem?_eq_some_iff.1 hx).1
     have h4 := PK.cells_at xs j x hx
     rw [Nat.zero_add, h.cellAt (j * 2) (by omega), h.cellAt (j * 2 + 1) (by omega)]
     exact h4
end Go.Proofs.YtmnncinpepeocaaGreat

namespace Go.Proofs.YtmnncinpepeocaaGreat
open Go.RowKit

theorem PK.info : (Tryz.prog.info? 108).map (fun i => (i.zero, i.size, i.bytes)) = some (some (.agg #[.string ByteArray.empty, .string ByteArray.empty]), 2, 32) := by kernel_rfl

set_option maxRecDepth 100000 in
set_option maxHeartbeats 1000000 in
theorem PK.to_one (r : PK) (w : World) :
 Calls Tryz.prog 70 #[PK.val r] w fun e w' => e = .returned (PK.val r) ∧ Below w.heap.size w w' := by
 obtain ⟨opt, vl⟩ := r
 unfold PK.val
 go_enter Tryz.func70, Tryz.ntmps70
 go_wp2_with fail
 obtain ⟨hB, hz, r0, r1, r2⟩ := alloc3 w (.cells #[.string opt, .string vl] 105) (.cells #[.string opt, .string vl] 108) (.cells #[.string opt, .string vl] 108)
 exact bodyPost_ret (v := .agg #[.string opt, .string vl]) (results_cell_row Tryz.results70 _ _ _ _ _ _ _ rfl r1 Tryz.underlying108 rfl (by kernel_rfl)) rfl ⟨rfl, hB⟩

/-- A copy, the call's own. -/
def PK.Copy (xs : List PK) (w : World) (e : Ending) (w' : World) : Prop := ∃ v, e = .returned v ∧ w'.ownsRow w.heap.size 108 2 v xs.length (PK.cells xs) ∧ Below w.heap.size w w'

set_option maxRecDepth 100000 in
set_option maxHeartbeats 1000000 in
theorem PK.to_all (v : Value) (xs : List PK) (w : World) (h : PK.Is w v xs) (hm : xs.length ≤ 1048576) :
 Calls Tryz.prog 25 #[v] w (PK.Copy xs w) := by
 obtain ⟨i0, hi, hz0, hz1, hz2⟩ := info_parts PK.info
 have HX := Lib.hid h
 obtain ⟨a, c, rfl⟩ := h.slice
 clear h
 go_enter Tryz.func25, Tryz.ntmps25
 go_wp2_with (at_make; refine wpList_make_full _ rfl _ _ 26 rfl w.heap.size 108 i0 (.agg #[.string ByteArray.empty, .string ByteArray.empty]) 2 Tryz.underlying26 hi hz0 hz1 _ _ _ _ xs.length rfl rfl rfl rfl (by rw [hz2]; omega) (by unfold maxLen; omega) (Nat.le_refl _) ?_)
 intro w0 hown0 hgrow0
 have hb0 : Below w.heap.size w w0 := (Below.refl _ _).grown hgrow0 (Nat.le_refl _) (fun k h => by cases h)
 have hown1 := RowL.start (PK.cells_length xs) hown0
 generalize (madeCells #[.string ByteArray.empty, .string ByteArray.empty] (xs.length * 2)).toList = zz at *
 clear hown0
 go_wp2
 go_loopw [4] (fun i wr => ∃ k : Nat, k ≤ xs.length ∧ i = .int .i64 k ∧ RowL w.heap.size 108 2 (PK.cells xs) zz w.heap.size xs.length xs.length (k * 2) wr ∧ Below w.heap.size w wr) (fun i _ => xs.length - (intOf i).toNat)
 case atStart => exact ⟨0, Nat.zero_le _, rfl, by rw [Nat.zero_mul]; exact hown1, hb0⟩
 case round =>
  obtain ⟨k, hk, rfl, hown, hb⟩ := hrel
  have HO := Lib.hid hown
  clear hown hown1
  by_cases hlt : k < xs.length
  · obtain ⟨b2, o2, c2, hv2, hc2, hcell2⟩ := HX.out.some (by omega)
    simp only [Value.slice.injEq] at hv2
    obtain ⟨rfl, _, rfl⟩ := hv2
    obtain ⟨e1, e2⟩ := (hcell2.below hb).at k hlt
    have HC := Lib.hid (PK.cells_at xs k _ (List.getElem?_eq_getElem hlt))
    generalize xs[k]'hlt = x at *
    have HP := Lib.hid (PK.to_one x wr)
    unfold PK.val at HP
    go_wp2_with fail
    refine HP.out.mono ?_
    rintro e w2 ⟨rfl, hb2⟩
    have HO2 := Lib.hid (HO.out.keep hb2)
    have HB2 := Lib.hid (hb.trans (hb2.mono hb.size))
    clear e1 e2 hb2 HO HP
    obtain ⟨⟨u0, hu0⟩, fz0⟩ := HO2.out.cell (k * 2) (by omega)
    obtain ⟨⟨u1, hu1⟩, fz1⟩ := HO2.out.cell (k * 2 + 1) (by omega)
    have HS := Lib.hid ((HO2.out.set (HC.out.1)).set (HC.out.2))
    have HB3 : Hid (Below w.heap.size w ((w2.setCell ⟨w.heap.size, k * 2, none⟩ (.string x.opt)).setCell ⟨w.heap.size, k * 2 + 1, none⟩ (.string x.vl))) := Lib.hid (((HB2.out.setCell (Nat.le_refl _) _).setCell (Nat.le_refl _) _))
    go_wp2_with fail
    go_roundw
    case rel => exact ⟨k + 1, by omega, by go_num, by rw [show (k + 1) * 2 = k * 2 + 1 + 1 by omega]; exact HS.out, HB3.out⟩
    case measure => simp [intOf]; omega
  · have hke : k = xs.length := by omega
    have HE := Lib.hid (HO.out.done (by rw [hke]))
    clear hke
    go_wp2
    go_ret
    exact ⟨_, rfl, HE.out, hb⟩
end Go.Proofs.YtmnncinpepeocaaGreat

namespace Go.Proofs.YtmnncinpepeocaaGreat
open Go.ChangeShapes Go.WideShapes Go.ChangeAt Go.RowKit Go.Joins

theorem PK.take {W : World} {a : Addr} {len cap : Nat} {xs : List PK} (hl : len ≤ cap) (hz : xs.length = cap)
 (hc : ∀ i, i < xs.length → W.cell? (a.add (i * 2)) = some (.string (xs.getD i default).opt) ∧ W.cell? (a.add (i * 2 + 1)) = some (.string (xs.getD i default).vl)) :
 PK.Is W (.slice (some a) len cap) (xs.take len) := by
 by_cases h0 : len = 0
 · subst h0
   exact Or.inl ⟨by simp, _, _, rfl⟩
 · have hp : 0 < xs.length := by omega
   obtain ⟨b, off, spot⟩ := a
   have hspot : spot = none := by simpa [Addr.add] using World.cell?_spot (hc 0 hp).1
   subst hspot
   have hlen : (xs.take len).length = len := by rw [List.length_take]; omega
   refine Or.inr ⟨by intro h; rw [h] at hlen; simp at hlen; omega, b, off, cap, by rw [hlen], by omega, ?_, ?_⟩
   · exact cell_blockL (a := ⟨b, off, none⟩) (hc 0 hp).1
   · intro j x hx
     have hj : j < len := by
      have := (List.getElem?_eq_some_iff.1 hx).1
      omega
     have h1 := hc j (by omega)
     rw [Addr.add_lit, Addr.add_lit] at h1
     rw [List.getElem?_take_of_lt hj] at hx
     rw [show xs.getD j default = x by rw [List.getD, hx]; rfl] at h1
     exact ⟨h1.1, by simpa [Nat.add_assoc] using h1.2⟩

theorem PK.cellsOf : Tryz.prog.cellsOf 105 = 2 := by kernel_rfl

set_option maxRecDepth 100000 in
theorem PK.opened {H : Type} {enc : TypeId × Value → H} {W : World} {n : Nat} {cs : List Value} {x : DataW H × List MemPlace} (h : DataW.trod enc Tryz.prog W 0 (fun _ => true) true n 105 cs = some x) :
 ∃ r : PK, cs = [.string r.opt, .string r.vl] ∧ PK.Sz r := by
 obtain ⟨xs, k, hk, hxy, hcl, hxl, hf⟩ := DataW.trod_struct Tryz.underlying105 h
 rw [PK.cellsOf] at hcl
 match cs, hcl with
 | [v0, v1], _ =>
  match xs, hxl with
  | [y0, y1], _ =>
   have g0 : DataW.trod enc Tryz.prog W 0 (fun _ => true) true k 9 (([v0, v1].drop 0).take (Tryz.prog.cellsOf 9)) = _ := hf 0 _ rfl
   have g1 : DataW.trod enc Tryz.prog W 0 (fun _ => true) true k 9 (([v0, v1].drop 1).take (Tryz.prog.cellsOf 9)) = _ := hf 1 _ rfl
   rw [show Tryz.prog.cellsOf 9 = 1 by kernel_rfl] at g0 g1
   simp at g0 g1
   obtain ⟨s0, e0, _, z0⟩ := DataW.trod_string Tryz.underlying9 g0
   obtain ⟨s1, e1, _, z1⟩ := DataW.trod_string Tryz.underlying9 g1
   simp at e0 e1
   exact ⟨⟨s0, s1⟩, by rw [e0, e1], ⟨z0, z1⟩⟩

set_option maxRecDepth 100000 in
theorem PK.args_open {H : Type} {enc : TypeId × Value → H} {W : World} {base : Nat} {v : Value} {d : DataW H} {p : List MemPlace} (hv : Value.okWide Tryz.prog W .any base 45 v)
 (h0 : DataW.Trod enc Tryz.prog W 0 (fun _ => true) true 45 v d p) :
 ∃ xs : List PK, PK.Is W v xs ∧ xs.length ≤ maxLen ∧ ∀ r, r ∈ xs → PK.Sz r := by
 obtain ⟨a0, len, cap, rfl⟩ := okWide_slice Tryz.underlying45 hv
 obtain ⟨fuel, hf⟩ := h0
 rcases Go.Deep.open_slice Tryz.underlying45 hf with ⟨hcs, hx⟩ | ⟨a, len', cap', m, n, D, Pl, hcs, _, hl, hm, hmm, _, hi⟩
 · simp only [Value.cells, List.cons.injEq, Value.slice.injEq, and_true] at hcs
   obtain ⟨rfl, rfl, rfl⟩ := hcs
   exact ⟨[], Or.inl ⟨rfl, _, _, rfl⟩, Nat.zero_le _, fun r hr => by cases hr⟩
 · simp only [Value.cells, List.cons.injEq, Value.slice.injEq, and_true] at hcs
   obtain ⟨rfl, rfl, rfl⟩ := hcs
   rw [if_pos rfl] at hmm
   subst hmm
   have each : ∀ i, ∃ r : PK, i < m → (W.cell? (a.add (i * 2)) = some (.string r.opt) ∧ W.cell? (a.add (i * 2 + 1)) = some (.string r.vl)) ∧ PK.Sz r := by
    intro i
    by_cases hlt : i < m
    · obtain ⟨cs', h1, h2⟩ := hi i hlt
      rw [PK.cellsOf] at h1
      obtain ⟨r, rfl, z0⟩ := PK.opened h2
      obtain ⟨_, hlen, hcell⟩ := World.cells?_some h1
      have k0 := hcell 0 (by omega)
      have k1 := hcell 1 (by omega)
      rw [Go.Deep.add_add] at k0 k1
      exact ⟨r, fun _ => ⟨⟨by simpa using k0, by simpa using k1⟩, z0⟩⟩
    · exact ⟨default, fun h => absurd h hlt⟩
   obtain ⟨q, hq⟩ : ∃ q : Nat → PK, ∀ i, i < m → (W.cell? (a.add (i * 2)) = some (.string (q i).opt) ∧ W.cell? (a.add (i * 2 + 1)) = some (.string (q i).vl)) ∧ PK.Sz (q i) :=
    ⟨fun i => Classical.choose (each i), fun i hlt => Classical.choose_spec (each i) hlt⟩
   refine ⟨((List.range m).map q).take len, PK.take hl (by simp) (fun i hlt => ?_), ?_, ?_⟩
   · have hlt' : i < m := by simpa using hlt
     have e : ((List.range m).map q).getD i default = q i := by simp [List.getD, hlt']
     rw [e]
     exact (hq i hlt').1
   · exact Nat.le_trans (List.length_take_le _ _) (Nat.le_trans hl hm)
   · intro r hr
     obtain ⟨i, hi', rfl⟩ := List.mem_map.1 (List.mem_of_mem_take hr)
     exact (hq i (List.mem_range.1 hi')).2
end Go.Proofs.YtmnncinpepeocaaGreat

namespace Go.Proofs.YtmnncinpepeocaaGreat
open Go.RowKit Go.ChangeShapes

structure IT where
 code : ByteArray
 unt : ByteArray
 kind : Int
 lead : Int
 rule : Int
 lsz : Int
 safe : Int
 scr : Int
instance : Inhabited IT := ⟨⟨ByteArray.empty, ByteArray.empty, 0, 0, 0, 0, 0, 0⟩⟩
/-- One as a value. -/
def IT.val (r : IT) : Value := .agg #[.string r.code, .string r.unt, .int .i64 r.kind, .int .i64 r.lead, .int .i64 r.rule, .int .i64 r.lsz, .int .i64 r.safe, .int .i64 r.scr]
/-- Its texts are no longer than a text can be. -/
def IT.Sz (r : IT) : Prop := r.code.size ≤ maxLen ∧ r.unt.size ≤ maxLen
/-- The cells of a slice of them: at block b from o on. -/
def IT.At (w : World) (b o : Nat) (xs : List IT) : Prop :=
 b < w.heap.size ∧ ∀ (j : Nat) (x : IT), xs[j]? = some x → w.cell? ⟨b, o + j * 8, none⟩ = some (.string x.code) ∧ w.cell? ⟨b, o + j * 8 + 1, none⟩ = some (.string x.unt) ∧ w.cell? ⟨b, o + j * 8 + 2, none⟩ = some (.int .i64 x.kind) ∧ w.cell? ⟨b, o + j * 8 + 3, none⟩ = some (.int .i64 x.lead) ∧ w.cell? ⟨b, o + j * 8 + 4, none⟩ = some (.int .i64 x.rule) ∧ w.cell? ⟨b, o + j * 8 + 5, none⟩ = some (.int .i64 x.lsz) ∧ w.cell? ⟨b, o + j * 8 + 6, none⟩ = some (.int .i64 x.safe) ∧ w.cell? ⟨b, o + j * 8 + 7, none⟩ = some (.int .i64 x.scr)
/-- In the world w the value v is a slice that reads as these. -/
def IT.Is (w : World) (v : Value) (xs : List IT) : Prop :=
 (xs = [] ∧ ∃ (a : Option Addr) (c : Nat), v = .slice a 0 c) ∨
 (xs ≠ [] ∧ ∃ b o c : Nat, v = .slice (some ⟨b, o, none⟩) xs.length c ∧ xs.length ≤ c ∧ IT.At w b o xs)
theorem IT.At.below {w w' : World} {b o : Nat} {xs : List IT} (h : IT.At w b o xs) (hb : Below w.heap.size w w') : IT.At w' b o xs :=
 ⟨Nat.lt_of_lt_of_le h.1 hb.size, fun j x hx => ⟨(hb.cell (p := ⟨b, o + j * 8, none⟩) h.1).trans ((h.2 j x hx).1), (hb.cell (p := ⟨b, o + j * 8 + 1, none⟩) h.1).trans ((h.2 j x hx).2.1), (hb.cell (p := ⟨b, o + j * 8 + 2, none⟩) h.1).trans ((h.2 j x hx).2.2.1), (hb.cell (p := ⟨b, o + j * 8 + 3, none⟩) h.1).trans ((h.2 j x hx).2.2.2.1), (hb.cell (p := ⟨b, o + j * 8 + 4, none⟩) h.1).trans ((h.2 j x hx).2.2.2.2.1), (hb.cell (p := ⟨b, o + j * 8 + 5, none⟩) h.1).trans ((h.2 j x hx).2.2.2.2.2.1), (hb.cell (p := ⟨b, o + j * 8 + 6, none⟩) h.1).trans ((h.2 j x hx).2.2.2.2.2.2.1), (hb.cell (p := ⟨b, o + j * 8 + 7, none⟩) h.1).trans ((h.2 j x hx).2.2.2.2.2.2.2)⟩⟩
theorem IT.Is.below {w w' : World} {v : Value} {xs : List IT} (h : IT.Is w v xs) (hb : Below w.heap.size w w') : IT.Is w' v xs := by
 rcases h with h | ⟨h0, b, o, c, hv, hc, hcell⟩
 · exact Or.inl h
 · exact Or.inr ⟨h0, b, o, c, hv, hc, hcell.below hb⟩
theorem IT.At.at {w : World} {b o : Nat} {xs : List IT} (h : IT.At w b o xs) (j : Nat) (hj : j < xs.length) : w.cell? ⟨b, o + j * 8, none⟩ = some (.string (xs[j]'hj).code) ∧ w.cell? ⟨b, o + j * 8 + 1, none⟩ = some (.string (xs[j]'hj).unt) ∧ w.cell? ⟨b, o + j * 8 + 2, none⟩ = some (.int .i64 (xs[j]'hj).kind) ∧ w.cell? ⟨b, o + j * 8 + 3, none⟩ = some (.int .i64 (xs[j]'hj).lead) ∧ w.cell? ⟨b, o + j * 8 + 4, none⟩ = some (.int .i64 (xs[j]'hj).rule) ∧ w.cell? ⟨b, o + j * 8 + 5, none⟩ = some (.int .i64 (xs[j]'hj).lsz) ∧ w.cell? ⟨b, o + j * 8 + 6, none⟩ = some (.int .i64 (xs[j]'hj).safe) ∧ w.cell? ⟨b, o + j * 8 + 7, none⟩ = some (.int .i64 (xs[j]'hj).scr) :=
 h.2 j _ (List.getElem?_eq_getElem hj)
theorem IT.Is.slice {w : World} {v : Value} {xs : List IT} (h : IT.Is w v xs) : ∃ (a : Option Addr) (c : Nat), v = .slice a xs.length c := by
 rcases h with ⟨rfl, a, c, rfl⟩ | ⟨h0, b, o, c, rfl, hc, hcell⟩
 · exact ⟨a, c, rfl⟩
 · exact ⟨_, c, rfl⟩
theorem IT.Is.some {w : World} {v : Value} {xs : List IT} (h : IT.Is w v xs) (h0 : 0 < xs.length) : ∃ b o c : Nat, v = .slice (some ⟨b, o, none⟩) xs.length c ∧ xs.length ≤ c ∧ IT.At w b o xs := by
 rcases h with ⟨rfl, _⟩ | ⟨_, h⟩
 · simp at h0
 · exact h
/-- The cells of a row. -/
def IT.enc (r : IT) : List Value := [.string r.code, .string r.unt, .int .i64 r.kind, .int .i64 r.lead, .int .i64 r.rule, .int .i64 r.lsz, .int .i64 r.safe, .int .i64 r.scr]
def IT.cells (xs : List IT) : List Value := xs.flatMap IT.enc
theorem IT.cells_cons (r : IT) (xs : List IT) : IT.cells (r :: xs) = .string r.code :: .string r.unt :: .int .i64 r.kind :: .int .i64 r.lead :: .int .i64 r.rule :: .int .i64 r.lsz :: .int .i64 r.safe :: .int .i64 r.scr :: IT.cells xs := rfl
theorem IT.cells_push (xs : List IT) (r : IT) : IT.cells xs ++ [.string r.code, .string r.unt, .int .i64 r.kind, .int .i64 r.lead, .int .i64 r.rule, .int .i64 r.lsz, .int .i64 r.safe, .int .i64 r.scr] = IT.cells (xs ++ [r]) := by simp [IT.cells, IT.enc]
theorem IT.cells_append (xs ys : List IT) : IT.cells xs ++ IT.cells ys = IT.cells (xs ++ ys) := by simp [IT.cells]
theorem IT.cells_length (xs : List IT) : (IT.cells xs).length = xs.length * 8 := by
 induction xs with
 | nil => rfl
 | cons r xs ih => rw [IT.cells_cons]; simp only [List.length_cons, ih]; omega
theorem IT.cells_at (xs : List IT) : ∀ (j : Nat) (x : IT), xs[j]? = some x → (IT.cells xs)[j * 8]? = some (.string x.code) ∧ (IT.cells xs)[j * 8 + 1]? = some (.string x.unt) ∧ (IT.cells xs)[j * 8 + 2]? = some (.int .i64 x.kind) ∧ (IT.cells xs)[j * 8 + 3]? = some (.int .i64 x.lead) ∧ (IT.cells xs)[j * 8 + 4]? = some (.int .i64 x.rule) ∧ (IT.cells xs)[j * 8 + 5]? = some (.int .i64 x.lsz) ∧ (IT.cells xs)[j * 8 + 6]? = some (.int .i64 x.safe) ∧ (IT.cells xs)[j * 8 + 7]? = some (.int .i64 x.scr) := by
 induction xs with
 | nil => intro j x h; simp at h
 | cons r xs ih =>
  intro j x h
  cases j with
  | zero =>
   simp at h
   subst h
   exact ⟨rfl, rfl, rfl, rfl, rfl, rfl, rfl, rfl⟩
  | succ k =>
   have h2 := ih k x (by simpa using h)
   rw [IT.cells_cons, show (k + 1) * 8 = k * 8 + 1 + 1 + 1 + 1 + 1 + 1 + 1 + 1 by omega, show k * 8 + 1 + 1 + 1 + 1 + 1 + 1 + 1 + 1 + 1 = (k * 8 + 1) + 1 + 1 + 1 + 1 + 1 + 1 + 1 + 1 by omega, show k * 8 + 1 + 1 + 1 + 1 + 1 + 1 + 1 + 1 + 2 = (k * 8 + 2) + 1 + 1 + 1 + 1 + 1 + 1 + 1 + 1 by omega, show k * 8 + 1 + 1 + 1 + 1 + 1 + 1 + 1 + 1 + 3 = (k * 8 + 3) + 1 + 1 + 1 + 1 + 1 + 1 + 1 + 1 by omega, show k * 8 + 1 + 1 + 1 + 1 + 1 + 1 + 1 + 1 + 4 = (k * 8 + 4) + 1 + 1 + 1 + 1 + 1 + 1 + 1 + 1 by omega, show k * 8 + 1 + 1 + 1 + 1 + 1 + 1 + 1 + 1 + 5 = (k * 8 + 5) + 1 + 1 + 1 + 1 + 1 + 1 + 1 + 1 by omega, show k * 8 + 1 + 1 + 1 + 1 + 1 + 1 + 1 + 1 + 6 = (k * 8 + 6) + 1 + 1 + 1 + 1 + 1 + 1 + 1 + 1 by omega, show k * 8 + 1 + 1 + 1 + 1 + 1 + 1 + 1 + 1 + 7 = (k * 8 + 7) + 1 + 1 + 1 + 1 + 1 + 1 + 1 + 1 by omega]
   simp only [List.getElem?_cons_succ]
   exact h2
theorem IT.is_of_row {w : World} {base e : Nat} {v : Value} {xs : List IT} (h : w.ownsRow base e 8 v xs.length (IT.cells xs)) : IT.Is w v xs := by
 rcases h.2 with ⟨rfl, hx⟩ | ⟨g, cap, cur, rfl, hb, hg, hnc, hcm, hcs, htake⟩
 · exact Or.inl ⟨List.eq_nil_of_length_eq_zero hx, _, _, rfl⟩
 · by_cases h0 : xs = []
   · subst h0
     exact Or.inl ⟨rfl, _, _, rfl⟩
   · refine Or.inr ⟨h0, g, 0, cap, rfl, hnc, (h.lt g rfl).2, fun j x hx => ?_⟩
     have hj : j < xs.length := (List.getElem?_eq_some_iff.1 hx).1
     have h4 := IT.cells_at xs j x hx
     rw [Nat.zero_add, h.cellAt (j * 8) (by omega), h.cellAt (j * 8 + 1) (by omega), h.cellAt (j * 8 + 2) (by omega), h.cellAt (j * 8 + 3) (by omega), h.cellAt (j * 8 + 4) (by omega), h.cellAt (j * 8 + 5) (by omega), h.cellAt (j * 8 + 6) (by omega), h.cellAt (j * 8 + 7) (by omega)]
     exact h4
end Go.Proofs.YtmnncinpepeocaaGreat

namespace Go.Proofs.YtmnncinpepeocaaGreat
open Go.RowKit

theorem IT.info : (Tryz.prog.info? 33).map (fun i => (i.zero, i.size, i.bytes)) = some (some (.agg #[.string ByteArray.empty, .string ByteArray.empty, .int .i64 0, .int .i64 0, .int .i64 0, .int .i64 0, .int .i64 0, .int .i64 0]), 8, 80) := by kernel_rfl

set_option maxRecDepth 100000 in
set_option maxHeartbeats 1000000 in
theorem IT.to_one (r : IT) (w : World) :
 Calls Tryz.prog 68 #[IT.val r] w fun e w' => e = .returned (IT.val r) ∧ Below w.heap.size w w' := by
 obtain ⟨code, unt, kind, lead, rule, lsz, safe, scr⟩ := r
 unfold IT.val
 go_enter Tryz.func68, Tryz.ntmps68
 go_wp2_with fail
 obtain ⟨hB, hz, r0, r1, r2⟩ := alloc3 w (.cells #[.string code, .string unt, .int .i64 kind, .int .i64 lead, .int .i64 rule, .int .i64 lsz, .int .i64 safe, .int .i64 scr] 98) (.cells #[.string code, .string unt, .int .i64 kind, .int .i64 lead, .int .i64 rule, .int .i64 lsz, .int .i64 safe, .int .i64 scr] 33) (.cells #[.string code, .string unt, .int .i64 kind, .int .i64 lead, .int .i64 rule, .int .i64 lsz, .int .i64 safe, .int .i64 scr] 33)
 exact bodyPost_ret (v := .agg #[.string code, .string unt, .int .i64 kind, .int .i64 lead, .int .i64 rule, .int .i64 lsz, .int .i64 safe, .int .i64 scr]) (results_cell_row Tryz.results68 _ _ _ _ _ _ _ rfl r1 Tryz.underlying33 rfl (by kernel_rfl)) rfl ⟨rfl, hB⟩

/-- A copy, the call's own. -/
def IT.Copy (xs : List IT) (w : World) (e : Ending) (w' : World) : Prop := ∃ v, e = .returned v ∧ w'.ownsRow w.heap.size 33 8 v xs.length (IT.cells xs) ∧ Below w.heap.size w w'

set_option maxRecDepth 100000 in
set_option maxHeartbeats 1000000 in
theorem IT.to_all (v : Value) (xs : List IT) (w : World) (h : IT.Is w v xs) (hm : xs.length ≤ 1048576) :
 Calls Tryz.prog 23 #[v] w (IT.Copy xs w) := by
 obtain ⟨i0, hi, hz0, hz1, hz2⟩ := info_parts IT.info
 have HX := Lib.hid h
 obtain ⟨a, c, rfl⟩ := h.slice
 clear h
 go_enter Tryz.func23, Tryz.ntmps23
 go_wp2_with (at_make; refine wpList_make_full _ rfl _ _ 24 rfl w.heap.size 33 i0 (.agg #[.string ByteArray.empty, .string ByteArray.empty, .int .i64 0, .int .i64 0, .int .i64 0, .int .i64 0, .int .i64 0, .int .i64 0]) 8 Tryz.underlying24 hi hz0 hz1 _ _ _ _ xs.length rfl rfl rfl rfl (by rw [hz2]; omega) (by unfold maxLen; omega) (Nat.le_refl _) ?_)
 intro w0 hown0 hgrow0
 have hb0 : Below w.heap.size w w0 := (Below.refl _ _).grown hgrow0 (Nat.le_refl _) (fun k h => by cases h)
 have hown1 := RowL.start (IT.cells_length xs) hown0
 generalize (madeCells #[.string ByteArray.empty, .string ByteArray.empty, .int .i64 0, .int .i64 0, .int .i64 0, .int .i64 0, .int .i64 0, .int .i64 0] (xs.length * 8)).toList = zz at *
 clear hown0
 go_wp2
 go_loopw [4] (fun i wr => ∃ k : Nat, k ≤ xs.length ∧ i = .int .i64 k ∧ RowL w.heap.size 33 8 (IT.cells xs) zz w.heap.size xs.length xs.length (k * 8) wr ∧ Below w.heap.size w wr) (fun i _ => xs.length - (intOf i).toNat)
 case atStart => exact ⟨0, Nat.zero_le _, rfl, by rw [Nat.zero_mul]; exact hown1, hb0⟩
 case round =>
  obtain ⟨k, hk, rfl, hown, hb⟩ := hrel
  have HO := Lib.hid hown
  clear hown hown1
  by_cases hlt : k < xs.length
  · obtain ⟨b2, o2, c2, hv2, hc2, hcell2⟩ := HX.out.some (by omega)
    simp only [Value.slice.injEq] at hv2
    obtain ⟨rfl, _, rfl⟩ := hv2
    obtain ⟨e1, e2, e3, e4, e5, e6, e7, e8⟩ := (hcell2.below hb).at k hlt
    have HC := Lib.hid (IT.cells_at xs k _ (List.getElem?_eq_getElem hlt))
    generalize xs[k]'hlt = x at *
    have HP := Lib.hid (IT.to_one x wr)
    unfold IT.val at HP
    go_wp2_with fail
    refine HP.out.mono ?_
    rintro e w2 ⟨rfl, hb2⟩
    have HO2 := Lib.hid (HO.out.keep hb2)
    have HB2 := Lib.hid (hb.trans (hb2.mono hb.size))
    clear e1 e2 e3 e4 e5 e6 e7 e8 hb2 HO HP
    obtain ⟨⟨u0, hu0⟩, fz0⟩ := HO2.out.cell (k * 8) (by omega)
    obtain ⟨⟨u1, hu1⟩, fz1⟩ := HO2.out.cell (k * 8 + 1) (by omega)
    obtain ⟨⟨u2, hu2⟩, fz2⟩ := HO2.out.cell (k * 8 + 2) (by omega)
    obtain ⟨⟨u3, hu3⟩, fz3⟩ := HO2.out.cell (k * 8 + 3) (by omega)
    obtain ⟨⟨u4, hu4⟩, fz4⟩ := HO2.out.cell (k * 8 + 4) (by omega)
    obtain ⟨⟨u5, hu5⟩, fz5⟩ := HO2.out.cell (k * 8 + 5) (by omega)
    obtain ⟨⟨u6, hu6⟩, fz6⟩ := HO2.out.cell (k * 8 + 6) (by omega)
    obtain ⟨⟨u7, hu7⟩, fz7⟩ := HO2.out.cell (k * 8 + 7) (by omega)
    have HS := Lib.hid ((((((((HO2.out.set (HC.out.1)).set (HC.out.2.1)).set (HC.out.2.2.1)).set (HC.out.2.2.2.1)).set (HC.out.2.2.2.2.1)).set (HC.out.2.2.2.2.2.1)).set (HC.out.2.2.2.2.2.2.1)).set (HC.out.2.2.2.2.2.2.2))
    have HB3 : Hid (Below w.heap.size w ((((((((w2.setCell ⟨w.heap.size, k * 8, none⟩ (.string x.code)).setCell ⟨w.heap.size, k * 8 + 1, none⟩ (.string x.unt)).setCell ⟨w.heap.size, k * 8 + 2, none⟩ (.int .i64 x.kind)).setCell ⟨w.heap.size, k * 8 + 3, none⟩ (.int .i64 x.lead)).setCell ⟨w.heap.size, k * 8 + 4, none⟩ (.int .i64 x.rule)).setCell ⟨w.heap.size, k * 8 + 5, none⟩ (.int .i64 x.lsz)).setCell ⟨w.heap.size, k * 8 + 6, none⟩ (.int .i64 x.safe)).setCell ⟨w.heap.size, k * 8 + 7, none⟩ (.int .i64 x.scr))) := Lib.hid (((((((((HB2.out.setCell (Nat.le_refl _) _).setCell (Nat.le_refl _) _).setCell (Nat.le_refl _) _).setCell (Nat.le_refl _) _).setCell (Nat.le_refl _) _).setCell (Nat.le_refl _) _).setCell (Nat.le_refl _) _).setCell (Nat.le_refl _) _))
    go_wp2_with fail
    go_roundw
    case rel => exact ⟨k + 1, by omega, by go_num, by rw [show (k + 1) * 8 = k * 8 + 1 + 1 + 1 + 1 + 1 + 1 + 1 + 1 by omega]; exact HS.out, HB3.out⟩
    case measure => simp [intOf]; omega
  · have hke : k = xs.length := by omega
    have HE := Lib.hid (HO.out.done (by rw [hke]))
    clear hke
    go_wp2
    go_ret
    exact ⟨_, rfl, HE.out, hb⟩
end Go.Proofs.YtmnncinpepeocaaGreat
