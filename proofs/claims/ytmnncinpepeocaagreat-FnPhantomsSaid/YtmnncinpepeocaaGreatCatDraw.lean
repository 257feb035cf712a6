/-
 The draws of a catalog and of a code: l8Catalog, l1Code.
-/
import Derived.Test.YtmnncinpepeocaaGreatItemDr
import Derived.Test.YtmnncinpepeocaaGreatBuDr
import Derived.Test.YtmnncinpepeocaaGreatBuRec
import Derived.Test.YtmnncinpepeocaaGreatOwnN
import Derived.Test.YtmnncinpepeocaaGreatBuA
import Derived.WalkKit
import Derived.WalkSpells
import Derived.WalkSmall
import Derived.BigQuiet
import Derived.OneCell
import Derived.Deep.QuietTactic
import Derived.Deep.DeepCutAuto
import Derived.Deep.RegionHeld3
import Derived.Laws.AppendOwn
import Derived.Laws.OwnMore
import Derived.Lib.Hide
namespace Go.Proofs.YtmnncinpepeocaaGreat
open Go.RowKit

/-- The 8 cells of a block that has just been laid. -/
theorem new_8 (W : World) (x0 x1 x2 x3 x4 x5 x6 x7 : Value) (T : TypeId) : ∀ (j : Nat) (u : Value), [x0, x1, x2, x3, x4, x5, x6, x7][j]? = some u → (W.alloc (.cells #[x0, x1, x2, x3, x4, x5, x6, x7] T)).cell? ((⟨W.heap.size, 0, none⟩ : Addr).add j) = some u := by
 intro j u hu
 match j, hu with
 | 0, hu => simp at hu; subst hu; exact cell_of_row _ _ 0 _ _ _ (heap_alloc_new _ _)
 | 1, hu => simp at hu; subst hu; exact cell_of_row _ _ 1 _ _ _ (heap_alloc_new _ _)
 | 2, hu => simp at hu; subst hu; exact cell_of_row _ _ 2 _ _ _ (heap_alloc_new _ _)
 | 3, hu => simp at hu; subst hu; exact cell_of_row _ _ 3 _ _ _ (heap_alloc_new _ _)
 | 4, hu => simp at hu; subst hu; exact cell_of_row _ _ 4 _ _ _ (heap_alloc_new _ _)
 | 5, hu => simp at hu; subst hu; exact cell_of_row _ _ 5 _ _ _ (heap_alloc_new _ _)
 | 6, hu => simp at hu; subst hu; exact cell_of_row _ _ 6 _ _ _ (heap_alloc_new _ _)
 | 7, hu => simp at hu; subst hu; exact cell_of_row _ _ 7 _ _ _ (heap_alloc_new _ _)
theorem flatN_put {K : Nat} {rs : List NR} (h : ∀ r, r ∈ rs → r.cs.length = K) (k : Nat) (hk : k < rs.length) (cs : List Value) (hl : cs.length = K) (m : Nat) (ins : List Value) : putL (flatN rs) (k * K) cs = flatN (rs.set k ⟨cs, m, ins⟩) := by
 have hlen : ∀ r, r ∈ rs.set k ⟨cs, m, ins⟩ → r.cs.length = K := fun r hr => by
  rcases List.mem_or_eq_of_mem_set hr with h1 | rfl
  · exact h r h1
  · exact hl
 have hL := flatN_length h
 have hL2 := flatN_length hlen
 rw [List.length_set] at hL2
 have hkk : k * K + K ≤ rs.length * K := by
  have : (k + 1) * K ≤ rs.length * K := Nat.mul_le_mul_right _ hk
  rw [Nat.succ_mul] at this
  omega
 refine List.ext_getElem? (fun i => ?_)
 rw [putL_get cs _ _ _ (by omega), hl]
 by_cases hi : i < rs.length * K
 · have hK : 0 < K := Nat.pos_of_ne_zero (fun e => by rw [e] at hi; simp at hi)
   have hq : i / K < rs.length := Nat.div_lt_of_lt_mul (by rw [Nat.mul_comm]; exact hi)
   have hd : i / K * K + i % K = i := by rw [Nat.mul_comm]; exact Nat.div_add_mod i K
   have hm := Nat.mod_lt i hK
   have a1 := flatN_get h (i / K) hq (i % K) hm
   have a2 := flatN_get hlen (i / K) (by simpa using hq) (i % K) hm
   rw [hd] at a1 a2
   rw [a1, a2, List.getElem_set]
   by_cases e2 : k = i / K
   · rw [if_pos e2]
     subst e2
     rw [if_pos (by omega), show i - i / K * K = i % K by omega]
   · rw [if_neg e2, if_neg]
     intro ⟨h1, h2⟩
     apply e2
     have : k ≤ i / K := by rw [Nat.le_div_iff_mul_le hK]; exact h1
     have : i / K < k + 1 := by rw [Nat.div_lt_iff_lt_mul hK, Nat.succ_mul]; exact h2
     omega
 · rw [if_neg (by omega), List.getElem?_eq_none (by omega), List.getElem?_eq_none (by omega)]
theorem IT.cells_flat (l : List IT) : IT.cells l = flatN (l.map (fun r => (⟨IT.enc r, 0, []⟩ : NR))) := by
 unfold IT.cells flatN
 rw [List.flatMap_map]
theorem IT.cells_put (l : List IT) (k : Nat) (hk : k < l.length) (x : IT) : putL (IT.cells l) (k * 8) (IT.enc x) = IT.cells (l.set k x) := by
 rw [IT.cells_flat, IT.cells_flat, flatN_put (K := 8) (fun r hr => by obtain ⟨y, _, rfl⟩ := List.mem_map.1 hr; rfl) k (by simpa using hk) (IT.enc x) rfl 0 [], List.map_set]
/-- Items drawn, the call's own. -/
def DrewK (B b : Nat) (a : Option Addr) (n c : Nat) (w : World) (e : Ending) (w' : World) : Prop :=
 ∃ (p : Option Addr) (q : Nat) (l : List IT), e = .returned (.slice p l.length q) ∧ (l.length ≤ 6 ∧ 0 < l.length) ∧ Hid (∀ r, r ∈ l → r.code.size ≤ 1000 ∧ r.unt.size ≤ 1000) ∧ Hid (w'.ownsRow w.heap.size 33 8 (.slice p l.length q) l.length (IT.cells l)) ∧ Hid (Drawn B b a n c w w')
theorem szi_push {l : List IT} {x : IT} (h : ∀ r, r ∈ l → r.code.size ≤ 1000 ∧ r.unt.size ≤ 1000) (h1 : x.code.size ≤ 1000) (h2 : x.unt.size ≤ 1000) : ∀ r, r ∈ l ++ [x] → r.code.size ≤ 1000 ∧ r.unt.size ≤ 1000 := fun r hr => by
 rcases List.mem_append.1 hr with hr | hr
 · exact h r hr
 · obtain rfl := List.mem_singleton.1 hr; exact ⟨h1, h2⟩
theorem szi_set {l : List IT} {x : IT} {k : Nat} (h : ∀ r, r ∈ l → r.code.size ≤ 1000 ∧ r.unt.size ≤ 1000) (h1 : x.code.size ≤ 1000) (h2 : x.unt.size ≤ 1000) : ∀ r, r ∈ l.set k x → r.code.size ≤ 1000 ∧ r.unt.size ≤ 1000 := fun r hr => by
 rcases List.mem_or_eq_of_mem_set hr with hr | rfl
 · exact h r hr
 · exact ⟨h1, h2⟩
theorem it_cell0 {w : World} {base g q : Nat} {l : List IT} {x : IT} (h : w.ownsRow base 33 8 (.slice (some ⟨g, 0, none⟩) l.length q) l.length (IT.cells l)) (k : Nat) (hk : k < l.length) (hx : l[k]'hk = x) :
 w.cell? ⟨g, k * 8, none⟩ = some (.string x.code) ∧ w.cell? ⟨g, k * 8 + 1, none⟩ = some (.string x.unt) ∧ w.cell? ⟨g, k * 8 + 2, none⟩ = some (.int .i64 x.kind) ∧ w.cell? ⟨g, k * 8 + 3, none⟩ = some (.int .i64 x.lead) ∧ w.cell? ⟨g, k * 8 + 4, none⟩ = some (.int .i64 x.rule) ∧ w.cell? ⟨g, k * 8 + 5, none⟩ = some (.int .i64 x.lsz) ∧ w.cell? ⟨g, k * 8 + 6, none⟩ = some (.int .i64 x.safe) ∧ w.cell? ⟨g, k * 8 + 7, none⟩ = some (.int .i64 x.scr) := by
 have h2 := IT.cells_at l k x (by rw [List.getElem?_eq_getElem hk, hx])
 exact ⟨(h.cellAt (k * 8) (by omega)).trans h2.1, (h.cellAt (k * 8 + 1) (by omega)).trans h2.2.1, (h.cellAt (k * 8 + 2) (by omega)).trans h2.2.2.1, (h.cellAt (k * 8 + 3) (by omega)).trans h2.2.2.2.1, (h.cellAt (k * 8 + 4) (by omega)).trans h2.2.2.2.2.1, (h.cellAt (k * 8 + 5) (by omega)).trans h2.2.2.2.2.2.1, (h.cellAt (k * 8 + 6) (by omega)).trans h2.2.2.2.2.2.2.1, (h.cellAt (k * 8 + 7) (by omega)).trans h2.2.2.2.2.2.2.2⟩
theorem own_blk {w : World} {base e K : Nat} {p : Option Addr} {n q : Nat} {xs : List Value} (h : w.ownsRow base e K (.slice p n q) n xs) (h0 : 0 < n) : ∃ g : Nat, p = some ⟨g, 0, none⟩ ∧ base ≤ g := by
 rcases h.2 with ⟨h1, h2⟩ | ⟨g, cap, cur, h1, hb, -⟩
 · omega
 · injection h1 with h2 _ _
   exact ⟨g, h2, hb⟩

set_option maxRecDepth 100000 in
set_option maxHeartbeats 1000000 in
theorem l1_code (B b : Nat) (a : Option Addr) (n c : Nat) (w : World) (hn : n ≤ 1048576) (hcode : CodeAt B w a n) (hcur : CurAt B w b a n c) (hBw : B ≤ w.heap.size) :
 Calls Tryz.prog 81 #[.pointer (some ⟨b, 0, none⟩)] w (DrawsS B b a n c w) := by
 have hlt := hcur.lt
 have HC0 := Lib.hid hcode
 have HU0 := Lib.hid hcur
 clear hcode hcur
 go_enter Tryz.func81, Tryz.ntmps81
 go_wp2_with fail
 refine (l1_once B b a n c 25 _ hn HC0.out HU0.out (by omega) (by omega) hBw).mono ?_
 rintro e w1 ⟨y, rfl, hd⟩
 have HD := Lib.hid hd
 have hs1 := hd.grown.size
 have HC1 := Lib.hid (HC0.out.below (hd.below hBw))
 clear hd
 cases y with
 | true =>
  have htx : TextsAt (w1.alloc (.cells #[.string { data := #[] }, .string { data := #[112] }, .string { data := #[49, 65] }, .string { data := #[84, 79, 79, 45, 76, 79, 78, 71, 45] }, .string { data := #[65, 32, 66] }] 9)) w1.heap.size 5 := texts_new w1 9 [{ data := #[] }, { data := #[112] }, { data := #[49, 65] }, { data := #[84, 79, 79, 45, 76, 79, 78, 71, 45] }, { data := #[65, 32, 66] }] (by intro z hz; simp only [List.mem_cons, List.mem_nil_iff, or_false] at hz; rcases hz with rfl | rfl | rfl | rfl | rfl <;> exact Nat.le_of_ble_eq_true rfl)
  go_wp2_with fail
  refine (l1_pick B b w1.heap.size 5 a n c _ hn (HC1.out.alloc (by omega) _) (HD.out.cur.alloc _) (by omega) (by omega) (by simp; omega) (by omega) htx).mono ?_
  rintro e w2 ⟨z, rfl, hz, hd⟩
  have HD2 := Lib.hid (HD.out.trans hd.ofAlloc)
  clear hd htx
  go_wp2_with fail
  go_ret
  exact ⟨z, rfl, hz, HD2.out⟩
 | false =>
  have htx : TextsAt (w1.alloc (.cells #[.string { data := #[65] }, .string { data := #[66] }, .string { data := #[67] }, .string { data := #[68] }, .string { data := #[69] }, .string { data := #[70] }] 9)) w1.heap.size 6 := texts_new w1 9 [{ data := #[65] }, { data := #[66] }, { data := #[67] }, { data := #[68] }, { data := #[69] }, { data := #[70] }] (by intro z hz; simp only [List.mem_cons, List.mem_nil_iff, or_false] at hz; rcases hz with rfl | rfl | rfl | rfl | rfl | rfl <;> exact Nat.le_of_ble_eq_true rfl)
  go_wp2_with fail
  refine (l1_pick B b w1.heap.size 6 a n c _ hn (HC1.out.alloc (by omega) _) (HD.out.cur.alloc _) (by omega) (by omega) (by simp; omega) (by omega) htx).mono ?_
  rintro e w2 ⟨z, rfl, hz, hd⟩
  have HD2 := Lib.hid (HD.out.trans hd.ofAlloc)
  clear hd htx
  go_wp2_with fail
  go_ret
  exact ⟨z, rfl, hz, HD2.out⟩

set_option maxRecDepth 100000 in
set_option maxHeartbeats 8000000 in
theorem l8_catalog (B b : Nat) (a : Option Addr) (n c : Nat) (w : World) (hn : n ≤ 1048576) (hcode : CodeAt B w a n) (hcur : CurAt B w b a n c) (hBw : B ≤ w.heap.size) :
 Calls Tryz.prog 78 #[.pointer (some ⟨b, 0, none⟩)] w (DrewK B b a n c w) := by
 obtain ⟨i0, hi0, hz0, hz1, hz2⟩ := info_parts IT.info
 have hlt := hcur.lt
 have HC0 := Lib.hid hcode
 have HD0 : Hid (Drawn B b a n c w (w.alloc (.cells #[] 33))) := Lib.hid ((show Drawn B b a n c w w from ⟨hcur, ⟨rfl, rfl, rfl, Nat.le_refl _, fun _ _ _ => rfl⟩⟩).al hlt _)
 have HO0 : Hid ((w.alloc (.cells #[] 33)).ownsRow w.heap.size 33 8 (.slice (some ⟨w.heap.size, 0, none⟩) 0 0) 0 (IT.cells [])) := Lib.hid (World.ownsRow_lit w #[] 0 (Nat.le_refl _) (Nat.zero_le _) rfl (e := 33) (size := 8))
 have hs0 : w.heap.size ≤ (w.alloc (.cells #[] 33)).heap.size := by simp
 clear hcode hcur
 go_enter Tryz.func78, Tryz.ntmps78
 go_upto_region 2 with fail
 generalize w.alloc (.cells #[] 33) = w0 at *
 go_wp2_with fail
 refine (l1_below B b a n c 6 _ hn (HC0.out.below (HD0.out.below hBw)) HD0.out.cur (by omega) (by omega) (by omega)).mono ?_
 rintro e w1 ⟨mz, rfl, hm0, hm1, hd⟩
 obtain ⟨m, rfl⟩ := Int.eq_ofNat_of_zero_le hm0
 have HD1 := Lib.hid (HD0.out.trans hd)
 have HO1 := Lib.hid (own_hdC HO0.out hd.grown hlt)
 have hm6 : m < 6 := by omega
 clear hd HD0 HO0 hm0 hm1 hs0
 go_wp2_with fail
 go_loopw [3, 5] (fun s i wr => ∃ (k : Nat) (l : List IT) (p : Option Addr) (q : Nat), k ≤ m + 1 ∧ i = .int .i64 k ∧ s = .slice p l.length q ∧ l.length = k ∧ Hid (∀ r, r ∈ l → r.code.size ≤ 1000 ∧ r.unt.size ≤ 1000) ∧ Hid (wr.ownsRow w.heap.size 33 8 (.slice p l.length q) l.length (IT.cells l)) ∧ Hid (Drawn B b a n c w wr)) (fun _ i _ => m + 1 - (intOf i).toNat)
 case atStart => exact ⟨0, [], _, _, Nat.zero_le _, rfl, rfl, rfl, Lib.hid (fun r hr => by cases hr), HO1, HD1⟩
 case round =>
  clear HO1 HD1
  obtain ⟨k, l, p, q, hk, rfl, rfl, hlk, HZ, HO, HD⟩ := hrel
  have hsr := HD.out.grown.size
  have HC := Lib.hid (HC0.out.below (HD.out.below hBw))
  have HLK := Lib.hid hlk
  clear hlk
  by_cases hkm : k < m + 1
  · have HKM := Lib.hid hkm
    have htx : TextsAt (wr.alloc (.cells #[.string { data := #[65] }, .string { data := #[66] }, .string { data := #[67] }, .string { data := #[68] }, .string { data := #[69] }, .string { data := #[70] }] 9)) wr.heap.size 6 := texts_new wr 9 [{ data := #[65] }, { data := #[66] }, { data := #[67] }, { data := #[68] }, { data := #[69] }, { data := #[70] }] (by intro z hz; simp only [List.mem_cons, List.mem_nil_iff, or_false] at hz; rcases hz with rfl | rfl | rfl | rfl | rfl | rfl <;> exact Nat.le_of_ble_eq_true rfl)
    obtain ⟨s, hsz, hsc⟩ := htx k (by omega)
    have HSZ := Lib.hid hsz
    have HD2 := Lib.hid (HD.out.al hlt (.cells #[.string { data := #[65] }, .string { data := #[66] }, .string { data := #[67] }, .string { data := #[68] }, .string { data := #[69] }, .string { data := #[70] }] 9))
    have HO2 := Lib.hid (HO.out.alloc (.cells #[.string { data := #[65] }, .string { data := #[66] }, .string { data := #[67] }, .string { data := #[68] }, .string { data := #[69] }, .string { data := #[70] }] 9))
    have HC2 := Lib.hid (HC.out.alloc (by omega) (.cells #[.string { data := #[65] }, .string { data := #[66] }, .string { data := #[67] }, .string { data := #[68] }, .string { data := #[69] }, .string { data := #[70] }] 9))
    have hk6 : (k : Int) < 6 := by omega
    clear htx hsz
    have hi6 : decide ((k : Int) < (m : Int) + 1) = true := decide_eq_true (by omega)
    have hi7 : decide ((k : Int) < 1 + (m : Int)) = true := decide_eq_true (by omega)
    go_wp2_with fail
    refine (l8_item B b a n c s _ hn HC2.out HD2.out.cur (by simp; omega) HSZ.out).mono ?_
    rintro e w3 ⟨x, rfl, hx0, hx1, hd⟩
    have HD3 := Lib.hid (HD2.out.trans hd)
    have HO3 := Lib.hid (own_hdC HO2.out hd.grown hlt)
    have HX := Lib.hid (And.intro hx0 hx1)
    have hs3 := HD3.out.grown.size
    clear hd hx0 hx1 hsc HD HO HD2 HO2 HC2
    unfold IT.val
    have HLL : Hid (l.length ≤ 6) := Lib.hid (by have := HLK.out; omega)
    go_wp2_with (at_builtin; refine wpList_append_own _ rfl _ _ 24 rfl w.heap.size 33 i0 (.agg #[.string ByteArray.empty, .string ByteArray.empty, .int .i64 0, .int .i64 0, .int .i64 0, .int .i64 0, .int .i64 0, .int .i64 0]) 8 80 Tryz.underlying24 hi0 hz0 hz1 hz2 rfl (by decide) _ l.length (IT.cells l) rfl (HO3.out.alloc _) ⟨w3.heap.size, 0, none⟩ 1 1 [.string x.code, .string x.unt, .int .i64 x.kind, .int .i64 x.lead, .int .i64 x.rule, .int .i64 x.lsz, .int .i64 x.safe, .int .i64 x.scr] rfl rfl (new_8 _ _ _ _ _ _ _ _ _ _) (by intro u hu; simp at hu; rcases hu with rfl | rfl | rfl | rfl | rfl | rfl | rfl | rfl <;> rfl) (by have := HLL.out; unfold maxLen; omega) (by have := HLL.out; omega) (by simp; omega) ?_)
    intro v4 w5 ho hg _
    obtain ⟨p2, q2, rfl⟩ := own_sliceN ho
    have HO5 : Hid (w5.ownsRow w.heap.size 33 8 (.slice p2 (l.length + 1) q2) (l.length + 1) (IT.cells (l ++ [x]))) := Lib.hid (by rw [← IT.cells_push]; exact ho)
    have HD5 := Lib.hid ((HD3.out.al hlt _).row hlt hg (fun g hg2 => (HO3.out.lt g hg2).1))
    clear ho hg HD3 HO3
    go_wp2_with fail
    go_roundw
    case rel => exact ⟨k + 1, l ++ [x], p2, q2, by have := HKM.out; omega, by go_num, by simp, by simp [HLK.out], Lib.hid (szi_push HZ.out HX.out.1 HX.out.2), by simpa using HO5, HD5⟩
    case measure => have := HKM.out; simp [intOf]; omega
  have HKE : Hid (l.length = m + 1) := Lib.hid (by have := HLK.out; omega)
  have hi6 : decide ((k : Int) < (m : Int) + 1) = false := decide_eq_false (by omega)
  have hi7 : decide ((k : Int) < 1 + (m : Int)) = false := decide_eq_false (by omega)
  obtain ⟨g, rfl, hgb⟩ := own_blk HO.out (by have := HKE.out; omega)
  go_wp2_with fail
  refine (l1_once B b a n c 12 _ hn HC.out HD.out.cur (by omega) (by omega) (by omega)).mono ?_
  rintro e w3 ⟨y, rfl, hd⟩
  have HD3 := Lib.hid (HD.out.trans hd)
  have HO3 := Lib.hid (own_hdC HO.out hd.grown hlt)
  have HC3 := Lib.hid (HC0.out.below (HD3.out.below hBw))
  have hs3 := HD3.out.grown.size
  clear hd HD HO HC
  have hll : 0 < l.length := by have := HKE.out; omega
  have hL0 : (0 : Int) < (l.length : Int) := by omega
  cases y with
  | true =>
   obtain ⟨x0, hx0⟩ : ∃ x, l[0]'hll = x := ⟨_, rfl⟩
   have HXZ := Lib.hid (HZ.out _ (List.getElem_mem hll))
   rw [hx0] at HXZ
   obtain ⟨e0, e1, e2, e3, e4, e5, e6, e7⟩ := it_cell0 HO3.out 0 hll hx0
   simp only [Nat.zero_mul, Nat.zero_add] at e0 e1 e2 e3 e4 e5 e6 e7
   clear hx0
   go_wp2_with fail
   refine (l8_bad B b a n c x0 _ hn HC3.out HD3.out.cur (by omega) HXZ.out.1 HXZ.out.2).mono ?_
   rintro e w4 ⟨x1, rfl, hx0, hx1, hd⟩
   have HX1 := Lib.hid (And.intro hx0 hx1)
   have HD4 := Lib.hid (HD3.out.trans hd)
   have HO4 := Lib.hid (own_hdC HO3.out hd.grown hlt)
   have hs4 := HD4.out.grown.size
   clear hd hx0 hx1 e0 e1 e2 e3 e4 e5 e6 e7 HXZ HD3 HO3 HC3
   unfold IT.val
   obtain ⟨x0, hx0⟩ : ∃ x, l[0]'hll = x := ⟨_, rfl⟩
   obtain ⟨e0, e1, e2, e3, e4, e5, e6, e7⟩ := it_cell0 HO4.out 0 hll hx0
   simp only [Nat.zero_mul, Nat.zero_add] at e0 e1 e2 e3 e4 e5 e6 e7
   have f0 := HO4.out.frozenAt 0
   have f1 := HO4.out.frozenAt 1
   have f2 := HO4.out.frozenAt 2
   have f3 := HO4.out.frozenAt 3
   have f4 := HO4.out.frozenAt 4
   have f5 := HO4.out.frozenAt 5
   have f6 := HO4.out.frozenAt 6
   have f7 := HO4.out.frozenAt 7
   have hput := own_putC (g := g) (IT.enc x1) (0 * 8) HO4.out
   rw [IT.cells_put l 0 hll x1] at hput
   have hdp := HD4.out.row hlt (putC_grown g (IT.enc x1) w4 (0 * 8)) (fun k hk => by cases hk; exact hgb)
   simp only [IT.enc, putC, Nat.zero_mul, Nat.zero_add, Nat.reduceAdd] at hput hdp
   have HPUT := Lib.hid hput
   have HDP := Lib.hid hdp
   clear hput hdp hx0 HD4 HO4
   go_upto_region 9 with fail
   clear e0 e1 e2 e3 e4 e5 e6 e7 f0 f1 f2 f3 f4 f5 f6 f7
   generalize ((((((((w4.setCell ⟨g, 0, none⟩ (.string x1.code)).setCell ⟨g, 1, none⟩ (.string x1.unt)).setCell ⟨g, 2, none⟩ (.int .i64 x1.kind)).setCell ⟨g, 3, none⟩ (.int .i64 x1.lead)).setCell ⟨g, 4, none⟩ (.int .i64 x1.rule)).setCell ⟨g, 5, none⟩ (.int .i64 x1.lsz)).setCell ⟨g, 6, none⟩ (.int .i64 x1.safe)).setCell ⟨g, 7, none⟩ (.int .i64 x1.scr)) = w5 at *
   have HZ1 := Lib.hid (szi_set (k := 0) HZ.out HX1.out.1 HX1.out.2)
   have HL1 : Hid ((l.set 0 x1).length = m + 1) := Lib.hid (by simpa using HKE.out)
   have hlen1 : l.length = (l.set 0 x1).length := by simp
   rw [hlen1] at HPUT
   rw [hlen1]
   generalize l.set 0 x1 = l1 at *
   clear hlen1 HX1 HZ HKE hll hL0 HLK
   have hs5 := HDP.out.grown.size
   have HC5 := Lib.hid (HC0.out.below (HDP.out.below hBw))
   go_wp2_with fail
   refine (l1_once B b a n c 20 _ hn HC5.out HDP.out.cur (by omega) (by omega) (by omega)).mono ?_
   rintro e w6 ⟨y, rfl, hd⟩
   have HD6 := Lib.hid (HDP.out.trans hd)
   have HO6 := Lib.hid (own_hdC HPUT.out hd.grown hlt)
   have hs6 := HD6.out.grown.size
   clear hd HDP HPUT HC5
   have HLE : Hid (l1.length ≤ 6 ∧ 0 < l1.length) := Lib.hid (by have := HL1.out; omega)
   cases y with
   | false =>
    go_wp2_with fail
    go_ret
    exact ⟨_, q, l1, rfl, HLE.out, HZ1, HO6, HD6⟩
   | true =>
    by_cases hm1 : 1 < m + 1
    rotate_left
    · have hi8 : decide ((1 : Int) < (m : Int) + 1) = false := decide_eq_false (by omega)
      have hi9 : decide ((1 : Int) < 1 + (m : Int)) = false := decide_eq_false (by omega)
      go_wp2_with fail
      go_ret
      exact ⟨_, q, l1, rfl, HLE.out, HZ1, HO6, HD6⟩
    have hi8 : decide ((1 : Int) < (m : Int) + 1) = true := decide_eq_true (by omega)
    have hi9 : decide ((1 : Int) < 1 + (m : Int)) = true := decide_eq_true (by omega)
    have hl0 : 0 < l1.length := by have := HL1.out; omega
    have hl1 : 1 < l1.length := by have := HL1.out; omega
    have hL0 : (0 : Int) < (l1.length : Int) := by omega
    have hL1 : (1 : Int) < (l1.length : Int) := by omega
    obtain ⟨x, hx⟩ : ∃ x, l1[0]'hl0 = x := ⟨_, rfl⟩
    obtain ⟨y, hy⟩ : ∃ x, l1[1]'hl1 = x := ⟨_, rfl⟩
    have HXZ := Lib.hid (HZ1.out _ (List.getElem_mem hl0))
    have HYZ := Lib.hid (HZ1.out _ (List.getElem_mem hl1))
    rw [hx] at HXZ
    rw [hy] at HYZ
    have HO7 := Lib.hid (HO6.out.alloc (.cells #[.string x.code, .string x.unt, .int .i64 x.kind, .int .i64 x.lead, .int .i64 x.rule, .int .i64 x.lsz, .int .i64 x.safe, .int .i64 x.scr] 33))
    have HD7 := Lib.hid (HD6.out.al hlt (.cells #[.string x.code, .string x.unt, .int .i64 x.kind, .int .i64 x.lead, .int .i64 x.rule, .int .i64 x.lsz, .int .i64 x.safe, .int .i64 x.scr] 33))
    have HA := heap_alloc_new w6 (.cells #[.string x.code, .string x.unt, .int .i64 x.kind, .int .i64 x.lead, .int .i64 x.rule, .int .i64 x.lsz, .int .i64 x.safe, .int .i64 x.scr] 33)
    have hgs := (HO6.out.lt g rfl).2
    obtain ⟨e0, e1, e2, e3, e4, e5, e6, e7⟩ := it_cell0 HO6.out 0 hl0 hx
    simp only [Nat.zero_mul, Nat.zero_add] at e0 e1 e2 e3 e4 e5 e6 e7
    go_upto_region 11 with fail
    clear e0 e1 e2 e3 e4 e5 e6 e7
    obtain ⟨e0, e1, e2, e3, e4, e5, e6, e7⟩ := it_cell0 HO7.out 0 hl0 hx
    obtain ⟨d0, d1, d2, d3, d4, d5, d6, d7⟩ := it_cell0 HO7.out 1 hl1 hy
    simp only [Nat.zero_mul, Nat.zero_add, Nat.one_mul, Nat.reduceAdd] at e0 e1 e2 e3 e4 e5 e6 e7 d0 d1 d2 d3 d4 d5 d6 d7
    have f0 := HO7.out.frozenAt 0
    have f1 := HO7.out.frozenAt 1
    have f2 := HO7.out.frozenAt 2
    have f3 := HO7.out.frozenAt 3
    have f4 := HO7.out.frozenAt 4
    have f5 := HO7.out.frozenAt 5
    have f6 := HO7.out.frozenAt 6
    have f7 := HO7.out.frozenAt 7
    have f8 := HO7.out.frozenAt 8
    have f9 := HO7.out.frozenAt 9
    have f10 := HO7.out.frozenAt 10
    have f11 := HO7.out.frozenAt 11
    have f12 := HO7.out.frozenAt 12
    have f13 := HO7.out.frozenAt 13
    have f14 := HO7.out.frozenAt 14
    have f15 := HO7.out.frozenAt 15
    have q0 := cell_of_row _ _ 0 _ _ _ HA
    have q1 := cell_of_row _ _ 1 _ _ _ HA
    have q2 := cell_of_row _ _ 2 _ _ _ HA
    have q3 := cell_of_row _ _ 3 _ _ _ HA
    have q4 := cell_of_row _ _ 4 _ _ _ HA
    have q5 := cell_of_row _ _ 5 _ _ _ HA
    have q6 := cell_of_row _ _ 6 _ _ _ HA
    have q7 := cell_of_row _ _ 7 _ _ _ HA
    have hput := own_putC (g := g) (IT.enc x) (1 * 8) (own_putC (g := g) (IT.enc y) (0 * 8) HO7.out)
    rw [IT.cells_put l1 0 hl0 y, IT.cells_put (l1.set 0 y) 1 (by simpa using hl1) x] at hput
    have hdp := (HD7.out.row hlt (putC_grown g (IT.enc y) _ (0 * 8)) (fun k hk => by cases hk; exact hgb)).row hlt (putC_grown g (IT.enc x) _ (1 * 8)) (fun k hk => by cases hk; exact hgb)
    simp only [IT.enc, putC, Nat.zero_mul, Nat.zero_add, Nat.one_mul, Nat.reduceAdd] at hput hdp
    have HPUT := Lib.hid hput
    have HDP := Lib.hid hdp
    clear hput hdp HD7 HO7 HA hx hy
    generalize w6.alloc (.cells #[.string x.code, .string x.unt, .int .i64 x.kind, .int .i64 x.lead, .int .i64 x.rule, .int .i64 x.lsz, .int .i64 x.safe, .int .i64 x.scr] 33) = w7 at *
    go_wp2_with fail
    go_ret
    exact ⟨_, q, (l1.set 0 y).set 1 x, by simp; rfl, by rw [List.length_set, List.length_set]; exact HLE.out, Lib.hid (szi_set (szi_set HZ1.out HYZ.out.1 HYZ.out.2) HXZ.out.1 HXZ.out.2), by simpa using HPUT, HDP⟩
  | false =>
   have w5e : w3 = w3 := rfl
   have HZ1 := HZ
   have HL1 := HKE
   have HPUT := HO3
   have HDP := HD3
   clear HD3 HO3 HC3 hll hL0 HZ HKE HLK w5e
   generalize w3 = w5 at *
   generalize l = l1 at *
   have hs5 := HDP.out.grown.size
   have HC5 := Lib.hid (HC0.out.below (HDP.out.below hBw))
   go_wp2_with fail
   refine (l1_once B b a n c 20 _ hn HC5.out HDP.out.cur (by omega) (by omega) (by omega)).mono ?_
   rintro e w6 ⟨y, rfl, hd⟩
   have HD6 := Lib.hid (HDP.out.trans hd)
   have HO6 := Lib.hid (own_hdC HPUT.out hd.grown hlt)
   have hs6 := HD6.out.grown.size
   clear hd HDP HPUT HC5
   have HLE : Hid (l1.length ≤ 6 ∧ 0 < l1.length) := Lib.hid (by have := HL1.out; omega)
   cases y with
   | false =>
    go_wp2_with fail
    go_ret
    exact ⟨_, q, l1, rfl, HLE.out, HZ1, HO6, HD6⟩
   | true =>
    by_cases hm1 : 1 < m + 1
    rotate_left
    · have hi8 : decide ((1 : Int) < (m : Int) + 1) = false := decide_eq_false (by omega)
      have hi9 : decide ((1 : Int) < 1 + (m : Int)) = false := decide_eq_false (by omega)
      go_wp2_with fail
      go_ret
      exact ⟨_, q, l1, rfl, HLE.out, HZ1, HO6, HD6⟩
    have hi8 : decide ((1 : Int) < (m : Int) + 1) = true := decide_eq_true (by omega)
    have hi9 : decide ((1 : Int) < 1 + (m : Int)) = true := decide_eq_true (by omega)
    have hl0 : 0 < l1.length := by have := HL1.out; omega
    have hl1 : 1 < l1.length := by have := HL1.out; omega
    have hL0 : (0 : Int) < (l1.length : Int) := by omega
    have hL1 : (1 : Int) < (l1.length : Int) := by omega
    obtain ⟨x, hx⟩ : ∃ x, l1[0]'hl0 = x := ⟨_, rfl⟩
    obtain ⟨y, hy⟩ : ∃ x, l1[1]'hl1 = x := ⟨_, rfl⟩
    have HXZ := Lib.hid (HZ1.out _ (List.getElem_mem hl0))
    have HYZ := Lib.hid (HZ1.out _ (List.getElem_mem hl1))
    rw [hx] at HXZ
    rw [hy] at HYZ
    have HO7 := Lib.hid (HO6.out.alloc (.cells #[.string x.code, .string x.unt, .int .i64 x.kind, .int .i64 x.lead, .int .i64 x.rule, .int .i64 x.lsz, .int .i64 x.safe, .int .i64 x.scr] 33))
    have HD7 := Lib.hid (HD6.out.al hlt (.cells #[.string x.code, .string x.unt, .int .i64 x.kind, .int .i64 x.lead, .int .i64 x.rule, .int .i64 x.lsz, .int .i64 x.safe, .int .i64 x.scr] 33))
    have HA := heap_alloc_new w6 (.cells #[.string x.code, .string x.unt, .int .i64 x.kind, .int .i64 x.lead, .int .i64 x.rule, .int .i64 x.lsz, .int .i64 x.safe, .int .i64 x.scr] 33)
    have hgs := (HO6.out.lt g rfl).2
    obtain ⟨e0, e1, e2, e3, e4, e5, e6, e7⟩ := it_cell0 HO6.out 0 hl0 hx
    simp only [Nat.zero_mul, Nat.zero_add] at e0 e1 e2 e3 e4 e5 e6 e7
    go_upto_region 11 with fail
    clear e0 e1 e2 e3 e4 e5 e6 e7
    obtain ⟨e0, e1, e2, e3, e4, e5, e6, e7⟩ := it_cell0 HO7.out 0 hl0 hx
    obtain ⟨d0, d1, d2, d3, d4, d5, d6, d7⟩ := it_cell0 HO7.out 1 hl1 hy
    simp only [Nat.zero_mul, Nat.zero_add, Nat.one_mul, Nat.reduceAdd] at e0 e1 e2 e3 e4 e5 e6 e7 d0 d1 d2 d3 d4 d5 d6 d7
    have f0 := HO7.out.frozenAt 0
    have f1 := HO7.out.frozenAt 1
    have f2 := HO7.out.frozenAt 2
    have f3 := HO7.out.frozenAt 3
    have f4 := HO7.out.frozenAt 4
    have f5 := HO7.out.frozenAt 5
    have f6 := HO7.out.frozenAt 6
    have f7 := HO7.out.frozenAt 7
    have f8 := HO7.out.frozenAt 8
    have f9 := HO7.out.frozenAt 9
    have f10 := HO7.out.frozenAt 10
    have f11 := HO7.out.frozenAt 11
    have f12 := HO7.out.frozenAt 12
    have f13 := HO7.out.frozenAt 13
    have f14 := HO7.out.frozenAt 14
    have f15 := HO7.out.frozenAt 15
    have q0 := cell_of_row _ _ 0 _ _ _ HA
    have q1 := cell_of_row _ _ 1 _ _ _ HA
    have q2 := cell_of_row _ _ 2 _ _ _ HA
    have q3 := cell_of_row _ _ 3 _ _ _ HA
    have q4 := cell_of_row _ _ 4 _ _ _ HA
    have q5 := cell_of_row _ _ 5 _ _ _ HA
    have q6 := cell_of_row _ _ 6 _ _ _ HA
    have q7 := cell_of_row _ _ 7 _ _ _ HA
    have hput := own_putC (g := g) (IT.enc x) (1 * 8) (own_putC (g := g) (IT.enc y) (0 * 8) HO7.out)
    rw [IT.cells_put l1 0 hl0 y, IT.cells_put (l1.set 0 y) 1 (by simpa using hl1) x] at hput
    have hdp := (HD7.out.row hlt (putC_grown g (IT.enc y) _ (0 * 8)) (fun k hk => by cases hk; exact hgb)).row hlt (putC_grown g (IT.enc x) _ (1 * 8)) (fun k hk => by cases hk; exact hgb)
    simp only [IT.enc, putC, Nat.zero_mul, Nat.zero_add, Nat.one_mul, Nat.reduceAdd] at hput hdp
    have HPUT := Lib.hid hput
    have HDP := Lib.hid hdp
    clear hput hdp HD7 HO7 HA hx hy
    generalize w6.alloc (.cells #[.string x.code, .string x.unt, .int .i64 x.kind, .int .i64 x.lead, .int .i64 x.rule, .int .i64 x.lsz, .int .i64 x.safe, .int .i64 x.scr] 33) = w7 at *
    go_wp2_with fail
    go_ret
    exact ⟨_, q, (l1.set 0 y).set 1 x, by simp; rfl, by rw [List.length_set, List.length_set]; exact HLE.out, Lib.hid (szi_set (szi_set HZ1.out HYZ.out.1 HYZ.out.2) HXZ.out.1 HXZ.out.2), by simpa using HPUT, HDP⟩
end Go.Proofs.YtmnncinpepeocaaGreat
