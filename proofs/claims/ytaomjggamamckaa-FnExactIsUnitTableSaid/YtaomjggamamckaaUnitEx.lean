/-
  The walks of the exact laws on units, where the program's functions keep their contracts.
-/
import Derived.Test.YtaomjggamamckaaRows
import Derived.Test.YtaomjggamamckaaRules
import Derived.Test.YtaomjggamamckaaUnitLib
import Derived.Test.YtaomjggamamckaaUnitSpec
import Derived.Test.YtaomjggamamckaaConvSpec
import Derived.Test.YtaomjggamamckaaUnitTo
import Derived.Test.YtaomjggamamckaaUnitEq
import Derived.Test.YtaomjggamamckaaUnitMark
import Derived.Test.YtaomjggamamckaaStrsEq
import Derived.Test.YtaomjggamamckaaMarks
import Derived.Test.YtaomjggamamckaaHold
import Derived.WalkKit
import Derived.WalkSpells
import Derived.WalkSmall
import Derived.Lib.Hide
namespace Go.Proofs.Ytaomjggamamckaa
open Go.RowKit

/-- Texts of the call's own are returned. -/
def OwnRes (ns : List ByteArray) (w : World) (e : Ending) (w' : World) : Prop := ∃ v, e = .returned v ∧ w'.ownsRow w.heap.size 9 1 v ns.length (cellsN ns) ∧ Below w.heap.size w w'
/-- The program's IsUnitTable answers as the model. -/
def ImplIsUnitTable : Prop := ∀ (v : Value) (rs : List UR) (w : World), TabArg w v rs → Calls Try.prog 25 #[v] w (BRes (tabB rs) w)
/-- The program's UnitsFrom answers as the model, in memory of its own. -/
def ImplUnitsFrom : Prop := ∀ (v : Value) (rs : List UR) (a : ByteArray) (w : World), TabArg w v rs → a.size ≤ maxLen → Calls Try.prog 16 #[v, .string a] w (OwnRes (unitsR rs a) w)
/-- The program's FactorOf answers as the model. -/
def ImplFactorOf : Prop := ∀ (v : Value) (rs : List UR) (a b : ByteArray) (w : World), TabArg w v rs → a.size ≤ maxLen → b.size ≤ maxLen → Calls Try.prog 12 #[v, .string a, .string b] w (FacRes (facR rs a b) w)
/-- The program's ConvertUp answers as the model. -/
def ImplConvertUp : Prop := ∀ (v : Value) (rs : List UR) (a b : ByteArray) (q : Int) (w : World), TabArg w v rs → a.size ≤ maxLen → b.size ≤ maxLen → Calls Try.prog 19 #[v, .string a, .string b, .int .i64 q] w (NumB (upR rs a b q) w)
/-- The program's ConvertDown answers as the model. -/
def ImplConvertDown : Prop := ∀ (v : Value) (rs : List UR) (a b : ByteArray) (q : Int) (w : World), TabArg w v rs → a.size ≤ maxLen → b.size ≤ maxLen → Calls Try.prog 21 #[v, .string a, .string b, .int .i64 q] w (NumB (dnR rs a b q) w)

/-- A copy is an argument. -/
theorem copy_arg {w : World} {base : Nat} {v : Value} {rs : List UR} (h : w.ownsRow base 79 4 v rs.length (halfR rs rs.length rs.length)) (hl : rs.length ≤ 1048576) (hs : ∀ r, r ∈ rs → r.src.size ≤ maxLen ∧ r.dst.size ≤ maxLen) : TabArg w v rs :=
  ⟨rules_of_row rfl (Nat.le_refl _) h, by omega, hs⟩
theorem text_len {n : Nat} (h : n ≤ 1048576) : n ≤ maxLen := by unfold maxLen; omega
theorem unitsR_len (rs : List UR) (a : ByteArray) : (unitsR rs a).length ≤ 1048577 := by
  unfold unitsR
  split
  · rename_i h
    rw [Bool.and_eq_true] at h
    have h1 := (tabB_iff.1 h.1).1
    have h2 := reachU_len rs a
    rw [namesOf_length]
    omega
  · simp

set_option maxRecDepth 100000 in
set_option maxHeartbeats 2000000 in
theorem ex_IsUnitTable (IM : ImplIsUnitTable) (v : Value) (rs : List UR) (w : World) (h : Rules w v rs) (hm : rs.length ≤ maxLen) (hs : ∀ r, r ∈ rs → r.src.size ≤ maxLen ∧ r.dst.size ≤ maxLen) :
    Calls Try.prog 5 #[v] w fun e w' => e = .returned (.bool true) ∧ Below w.heap.size w w' := by
  have HI := Lib.hid IM
  have HX := Lib.hid h
  have HS := Lib.hid hs
  have HSZ := Lib.hid (sz_units v rs 1048576 w h (by omega) (by omega) hm hs)
  obtain ⟨a', c', rfl⟩ := h.slice
  clear IM h hs hm
  go_enter Try.func5, Try.ntmps5
  go_wp2_with fail
  refine HSZ.out.mono ?_
  rintro e w1 ⟨z, rfl, hz0, hz1, hz2, hb⟩
  have B1 := Lib.hid hb
  have HZ2 := Lib.hid hz2
  clear hb hz2 HSZ
  by_cases hzn : z < 0
  · go_wp2_with fail
    go_ret
    exact ⟨rfl, B1.out⟩
  have hlen : rs.length ≤ 1048576 := by have := HZ2.out (by omega); omega
  have HL := Lib.hid hlen
  clear HZ2
  go_wp2_with fail
  refine (to_units _ rs _ (HX.out.below B1.out) hlen).mono ?_
  rintro e w2 ⟨v2, rfl, ho2, hb⟩
  have A2 := Lib.hid (copy_arg ho2 HL.out HS.out)
  have B2 := Lib.hid (B1.out.trans (hb.mono B1.out.size))
  clear ho2 hb
  obtain ⟨y, hy⟩ : ∃ y, tabB rs = y := ⟨_, rfl⟩
  have HY := Lib.hid hy
  clear hy
  have hnn : (y != y) = false := by simp
  go_wp2_with fail
  refine (spec_tab _ rs _ A2.out.rules A2.out.len A2.out.sz).mono ?_
  rintro e w3 ⟨rfl, hb⟩
  rw [HY.out]
  have B3 := Lib.hid (B2.out.trans (hb.mono B2.out.size))
  clear hb A2
  go_wp2_with fail
  refine (to_units _ rs _ (HX.out.below B3.out) HL.out).mono ?_
  rintro e w4 ⟨v4, rfl, ho4, hb⟩
  have A4 := Lib.hid (copy_arg ho4 HL.out HS.out)
  have B4 := Lib.hid (B3.out.trans (hb.mono B3.out.size))
  clear ho4 hb
  go_wp2_with fail
  refine (HI.out _ rs _ A4.out).mono ?_
  rintro e w5 ⟨rfl, hb⟩
  rw [HY.out]
  have A5 := Lib.hid (A4.out.below hb)
  have B5 := Lib.hid (B4.out.trans (hb.mono B4.out.size))
  clear hb A4
  go_wp2_with fail
  refine (to_units _ rs _ (HX.out.below B5.out) HL.out).mono ?_
  rintro e w6 ⟨v6, rfl, ho6, hb⟩
  have A6 := Lib.hid (copy_arg ho6 HL.out HS.out)
  have A7 := Lib.hid (A5.out.below hb)
  have B6 := Lib.hid (B5.out.trans (hb.mono B5.out.size))
  clear ho6 hb
  go_wp2_with fail
  refine (eq_units _ _ rs _ A7.out.rules A6.out.rules A6.out.len).mono ?_
  rintro e w7 ⟨rfl, hb⟩
  have B7 := Lib.hid (B6.out.trans (hb.mono B6.out.size))
  clear hb
  go_wp2_with fail
  go_ret
  exact ⟨rfl, B7.out⟩

set_option maxRecDepth 100000 in
set_option maxHeartbeats 2000000 in
theorem ex_ConvertUp (IM : ImplConvertUp) (v : Value) (rs : List UR) (a b : ByteArray) (q : Int) (w : World) (h : Rules w v rs) (hm : rs.length ≤ maxLen) (hs : ∀ r, r ∈ rs → r.src.size ≤ maxLen ∧ r.dst.size ≤ maxLen) (ha : a.size ≤ maxLen) (hb : b.size ≤ maxLen) :
    Calls Try.prog 8 #[v, .string a, .string b, .int .i64 q] w fun e w' => e = .returned (.bool true) ∧ Below w.heap.size w w' := by
  have HI := Lib.hid IM
  have HX := Lib.hid h
  have HS := Lib.hid hs
  have HSZ := Lib.hid (sz_units v rs 1048576 w h (by omega) (by omega) hm hs)
  obtain ⟨a', c', rfl⟩ := h.slice
  have ha5 := ha
  have hb5 := hb
  unfold maxLen at ha5 hb5
  clear ha hb
  clear IM h hs hm
  by_cases hba : 1048576 < a.size
  · go_enter Try.func8, Try.ntmps8
    go_wp2_with fail
    go_ret
    exact ⟨rfl, Below.refl _ _⟩
  have za : a.size ≤ 1048576 := by omega
  have Za := Lib.hid (text_len za)
  clear hba
  by_cases hbb : 1048576 < b.size
  · go_enter Try.func8, Try.ntmps8
    go_wp2_with fail
    go_ret
    exact ⟨rfl, Below.refl _ _⟩
  have zb : b.size ≤ 1048576 := by omega
  have Zb := Lib.hid (text_len zb)
  clear hbb
  go_enter Try.func8, Try.ntmps8
  go_wp2_with fail
  refine HSZ.out.mono ?_
  rintro e w1 ⟨z, rfl, hz0, hz1, hz2, hb⟩
  have B1 := Lib.hid hb
  have HZ2 := Lib.hid hz2
  clear hb hz2 HSZ
  by_cases hzn : z < 0
  · go_wp2_with fail
    go_ret
    exact ⟨rfl, B1.out⟩
  have hlen : rs.length ≤ 1048576 := by have := HZ2.out (by omega); omega
  have HL := Lib.hid hlen
  clear HZ2
  go_wp2_with fail
  refine (to_units _ rs _ (HX.out.below B1.out) hlen).mono ?_
  rintro e w2 ⟨v2, rfl, ho2, hb⟩
  have A2 := Lib.hid (copy_arg ho2 HL.out HS.out)
  have B2 := Lib.hid (B1.out.trans (hb.mono B1.out.size))
  clear ho2 hb
  obtain ⟨n, y, hy⟩ : ∃ n y, upR rs a b q = (n, y) := ⟨_, _, rfl⟩
  have HY := Lib.hid hy
  clear hy
  have hnn : (y != y) = false := by simp
  have hn2 : (n != n) = false := by simp
  go_wp2_with fail
  refine (spec_up _ rs a b q _ A2.out Za.out Zb.out).mono ?_
  rintro e w3 ⟨n1, y1, rfl, hp, hb⟩
  obtain ⟨rfl, rfl⟩ := Prod.mk.inj (hp.out.symm.trans HY.out)
  have B3 := Lib.hid (B2.out.trans (hb.mono B2.out.size))
  clear hb A2 hp
  go_wp2_with fail
  refine (to_units _ rs _ (HX.out.below B3.out) HL.out).mono ?_
  rintro e w4 ⟨v4, rfl, ho4, hb⟩
  have A4 := Lib.hid (copy_arg ho4 HL.out HS.out)
  have B4 := Lib.hid (B3.out.trans (hb.mono B3.out.size))
  clear ho4 hb
  go_wp2_with fail
  refine (HI.out _ rs a b q _ A4.out Za.out Zb.out).mono ?_
  rintro e w5 ⟨n2, y2, rfl, hp, hb⟩
  obtain ⟨rfl, rfl⟩ := Prod.mk.inj (hp.out.symm.trans HY.out)
  have A5 := Lib.hid (A4.out.below hb)
  have B5 := Lib.hid (B4.out.trans (hb.mono B4.out.size))
  clear hb A4 hp
  go_wp2_with fail
  refine (to_units _ rs _ (HX.out.below B5.out) HL.out).mono ?_
  rintro e w6 ⟨v6, rfl, ho6, hb⟩
  have A6 := Lib.hid (copy_arg ho6 HL.out HS.out)
  have A7 := Lib.hid (A5.out.below hb)
  have B6 := Lib.hid (B5.out.trans (hb.mono B5.out.size))
  clear ho6 hb
  go_wp2_with fail
  refine (eq_units _ _ rs _ A7.out.rules A6.out.rules A6.out.len).mono ?_
  rintro e w7 ⟨rfl, hb⟩
  have B7 := Lib.hid (B6.out.trans (hb.mono B6.out.size))
  clear hb
  go_wp2_with fail
  go_ret
  exact ⟨rfl, B7.out⟩

set_option maxRecDepth 100000 in
set_option maxHeartbeats 2000000 in
theorem ex_ConvertDown (IM : ImplConvertDown) (v : Value) (rs : List UR) (a b : ByteArray) (q : Int) (w : World) (h : Rules w v rs) (hm : rs.length ≤ maxLen) (hs : ∀ r, r ∈ rs → r.src.size ≤ maxLen ∧ r.dst.size ≤ maxLen) (ha : a.size ≤ maxLen) (hb : b.size ≤ maxLen) :
    Calls Try.prog 9 #[v, .string a, .string b, .int .i64 q] w fun e w' => e = .returned (.bool true) ∧ Below w.heap.size w w' := by
  have HI := Lib.hid IM
  have HX := Lib.hid h
  have HS := Lib.hid hs
  have HSZ := Lib.hid (sz_units v rs 1048576 w h (by omega) (by omega) hm hs)
  obtain ⟨a', c', rfl⟩ := h.slice
  have ha5 := ha
  have hb5 := hb
  unfold maxLen at ha5 hb5
  clear ha hb
  clear IM h hs hm
  by_cases hba : 1048576 < a.size
  · go_enter Try.func9, Try.ntmps9
    go_wp2_with fail
    go_ret
    exact ⟨rfl, Below.refl _ _⟩
  have za : a.size ≤ 1048576 := by omega
  have Za := Lib.hid (text_len za)
  clear hba
  by_cases hbb : 1048576 < b.size
  · go_enter Try.func9, Try.ntmps9
    go_wp2_with fail
    go_ret
    exact ⟨rfl, Below.refl _ _⟩
  have zb : b.size ≤ 1048576 := by omega
  have Zb := Lib.hid (text_len zb)
  clear hbb
  go_enter Try.func9, Try.ntmps9
  go_wp2_with fail
  refine HSZ.out.mono ?_
  rintro e w1 ⟨z, rfl, hz0, hz1, hz2, hb⟩
  have B1 := Lib.hid hb
  have HZ2 := Lib.hid hz2
  clear hb hz2 HSZ
  by_cases hzn : z < 0
  · go_wp2_with fail
    go_ret
    exact ⟨rfl, B1.out⟩
  have hlen : rs.length ≤ 1048576 := by have := HZ2.out (by omega); omega
  have HL := Lib.hid hlen
  clear HZ2
  go_wp2_with fail
  refine (to_units _ rs _ (HX.out.below B1.out) hlen).mono ?_
  rintro e w2 ⟨v2, rfl, ho2, hb⟩
  have A2 := Lib.hid (copy_arg ho2 HL.out HS.out)
  have B2 := Lib.hid (B1.out.trans (hb.mono B1.out.size))
  clear ho2 hb
  obtain ⟨n, y, hy⟩ : ∃ n y, dnR rs a b q = (n, y) := ⟨_, _, rfl⟩
  have HY := Lib.hid hy
  clear hy
  have hnn : (y != y) = false := by simp
  have hn2 : (n != n) = false := by simp
  go_wp2_with fail
  refine (spec_dn _ rs a b q _ A2.out Za.out Zb.out).mono ?_
  rintro e w3 ⟨n1, y1, rfl, hp, hb⟩
  obtain ⟨rfl, rfl⟩ := Prod.mk.inj (hp.out.symm.trans HY.out)
  have B3 := Lib.hid (B2.out.trans (hb.mono B2.out.size))
  clear hb A2 hp
  go_wp2_with fail
  refine (to_units _ rs _ (HX.out.below B3.out) HL.out).mono ?_
  rintro e w4 ⟨v4, rfl, ho4, hb⟩
  have A4 := Lib.hid (copy_arg ho4 HL.out HS.out)
  have B4 := Lib.hid (B3.out.trans (hb.mono B3.out.size))
  clear ho4 hb
  go_wp2_with fail
  refine (HI.out _ rs a b q _ A4.out Za.out Zb.out).mono ?_
  rintro e w5 ⟨n2, y2, rfl, hp, hb⟩
  obtain ⟨rfl, rfl⟩ := Prod.mk.inj (hp.out.symm.trans HY.out)
  have A5 := Lib.hid (A4.out.below hb)
  have B5 := Lib.hid (B4.out.trans (hb.mono B4.out.size))
  clear hb A4 hp
  go_wp2_with fail
  refine (to_units _ rs _ (HX.out.below B5.out) HL.out).mono ?_
  rintro e w6 ⟨v6, rfl, ho6, hb⟩
  have A6 := Lib.hid (copy_arg ho6 HL.out HS.out)
  have A7 := Lib.hid (A5.out.below hb)
  have B6 := Lib.hid (B5.out.trans (hb.mono B5.out.size))
  clear ho6 hb
  go_wp2_with fail
  refine (eq_units _ _ rs _ A7.out.rules A6.out.rules A6.out.len).mono ?_
  rintro e w7 ⟨rfl, hb⟩
  have B7 := Lib.hid (B6.out.trans (hb.mono B6.out.size))
  clear hb
  go_wp2_with fail
  go_ret
  exact ⟨rfl, B7.out⟩

set_option maxRecDepth 100000 in
set_option maxHeartbeats 2000000 in
theorem ex_FactorOf (IM : ImplFactorOf) (v : Value) (rs : List UR) (a b : ByteArray) (w : World) (h : Rules w v rs) (hm : rs.length ≤ maxLen) (hs : ∀ r, r ∈ rs → r.src.size ≤ maxLen ∧ r.dst.size ≤ maxLen) (ha : a.size ≤ maxLen) (hb : b.size ≤ maxLen) :
    Calls Try.prog 7 #[v, .string a, .string b] w fun e w' => e = .returned (.bool true) ∧ Below w.heap.size w w' := by
  have HI := Lib.hid IM
  have HX := Lib.hid h
  have HS := Lib.hid hs
  have HSZ := Lib.hid (sz_units v rs 1048576 w h (by omega) (by omega) hm hs)
  obtain ⟨a', c', rfl⟩ := h.slice
  have ha5 := ha
  have hb5 := hb
  unfold maxLen at ha5 hb5
  clear ha hb
  clear IM h hs hm
  by_cases hba : 1048576 < a.size
  · go_enter Try.func7, Try.ntmps7
    go_wp2_with fail
    go_ret
    exact ⟨rfl, Below.refl _ _⟩
  have za : a.size ≤ 1048576 := by omega
  have Za := Lib.hid (text_len za)
  clear hba
  by_cases hbb : 1048576 < b.size
  · go_enter Try.func7, Try.ntmps7
    go_wp2_with fail
    go_ret
    exact ⟨rfl, Below.refl _ _⟩
  have zb : b.size ≤ 1048576 := by omega
  have Zb := Lib.hid (text_len zb)
  clear hbb
  go_enter Try.func7, Try.ntmps7
  go_wp2_with fail
  refine HSZ.out.mono ?_
  rintro e w1 ⟨z, rfl, hz0, hz1, hz2, hb⟩
  have B1 := Lib.hid hb
  have HZ2 := Lib.hid hz2
  clear hb hz2 HSZ
  by_cases hzn : z < 0
  · go_wp2_with fail
    go_ret
    exact ⟨rfl, B1.out⟩
  have hlen : rs.length ≤ 1048576 := by have := HZ2.out (by omega); omega
  have HL := Lib.hid hlen
  clear HZ2
  go_wp2_with fail
  refine (to_units _ rs _ (HX.out.below B1.out) hlen).mono ?_
  rintro e w2 ⟨v2, rfl, ho2, hb⟩
  have A2 := Lib.hid (copy_arg ho2 HL.out HS.out)
  have B2 := Lib.hid (B1.out.trans (hb.mono B1.out.size))
  clear ho2 hb
  obtain ⟨n, d, y, hy⟩ : ∃ n d y, facR rs a b = ((n, d), y) := ⟨_, _, _, rfl⟩
  have HY := Lib.hid hy
  clear hy
  have hnn : (y != y) = false := by simp
  go_wp2_with fail
  refine (spec_factor _ rs a b _ A2.out Za.out Zb.out).mono ?_
  rintro e w3 ⟨n1, d1, y1, rfl, hp, hb⟩
  obtain ⟨hnd, rfl⟩ := Prod.mk.inj (hp.out.symm.trans HY.out)
  obtain ⟨rfl, rfl⟩ := Prod.mk.inj hnd
  have HA3 : Below w3.heap.size w3 (w3.alloc (.cells #[.int .i64 n1, .int .i64 d1] 28)) := (Below.refl _ _).alloc (Nat.le_refl _) _
  have R3 := heap_alloc_new w3 (.cells #[.int .i64 n1, .int .i64 d1] 28)
  have B3 := Lib.hid ((B2.out.trans (hb.mono B2.out.size)).trans (HA3.mono (B2.out.trans (hb.mono B2.out.size)).size))
  clear hb A2 hp hnd HA3
  go_wp2_with fail
  generalize w3.alloc (.cells #[.int .i64 n1, .int .i64 d1] 28) = w3a at *
  refine (to_units _ rs _ (HX.out.below B3.out) HL.out).mono ?_
  rintro e w4 ⟨v4, rfl, ho4, hb⟩
  have A4 := Lib.hid (copy_arg ho4 HL.out HS.out)
  have R4 := blk_below R3 hb
  have B4 := Lib.hid (B3.out.trans (hb.mono B3.out.size))
  clear ho4 hb R3
  go_wp2_with fail
  refine (HI.out _ rs a b _ A4.out Za.out Zb.out).mono ?_
  rintro e w5 ⟨n2, d2, y2, rfl, hp, hb⟩
  obtain ⟨hnd, rfl⟩ := Prod.mk.inj (hp.out.symm.trans HY.out)
  obtain ⟨rfl, rfl⟩ := Prod.mk.inj hnd
  have R5 := blk_alloc (blk_below R4 hb) (.cells #[.int .i64 n2, .int .i64 d2] 28)
  have Q5 := heap_alloc_new w5 (.cells #[.int .i64 n2, .int .i64 d2] 28)
  have HA5 : Below w5.heap.size w5 (w5.alloc (.cells #[.int .i64 n2, .int .i64 d2] 28)) := (Below.refl _ _).alloc (Nat.le_refl _) _
  have A5 := Lib.hid ((A4.out.below hb).below HA5)
  have B5 := Lib.hid ((B4.out.trans (hb.mono B4.out.size)).trans (HA5.mono (B4.out.trans (hb.mono B4.out.size)).size))
  have c0 := cell_of_row _ _ 0 _ _ _ R5
  have c1 := cell_of_row _ _ 1 _ _ _ R5
  have c2 := cell_of_row _ _ 0 _ _ _ Q5
  have c3 := cell_of_row _ _ 1 _ _ _ Q5
  clear hb A4 hp hnd R4 HA5
  go_upto_region 12 with fail
  generalize w5.alloc (.cells #[.int .i64 n2, .int .i64 d2] 28) = w5a at *
  go_wp2_with fail
  refine (rat.eq_ratio n2 d2 _).mono ?_
  rintro e w5b ⟨rfl, hb⟩
  have A5b := Lib.hid (A5.out.below hb)
  have B5b := Lib.hid (B5.out.trans (hb.mono B5.out.size))
  clear hb
  go_wp2_with fail
  refine (to_units _ rs _ (HX.out.below B5b.out) HL.out).mono ?_
  rintro e w6 ⟨v6, rfl, ho6, hb⟩
  have A6 := Lib.hid (copy_arg ho6 HL.out HS.out)
  have A7 := Lib.hid (A5b.out.below hb)
  have B6 := Lib.hid (B5b.out.trans (hb.mono B5b.out.size))
  clear ho6 hb
  go_wp2_with fail
  refine (eq_units _ _ rs _ A7.out.rules A6.out.rules A6.out.len).mono ?_
  rintro e w7 ⟨rfl, hb⟩
  have B7 := Lib.hid (B6.out.trans (hb.mono B6.out.size))
  clear hb
  go_wp2_with fail
  go_ret
  exact ⟨rfl, B7.out⟩

theorem mark_one5 (base : Nat) (v : Value) (x : Int) (n : Nat) (xs : List Value) (w : World) (hx : x = 1) (hown : w.ownsRow base 9 1 v n xs) (hn : n ≤ 1048577) :
    Calls Try.prog 30 #[v, .int .i64 x] w (Marked base v 1 n w) := by
  subst hx
  exact mark_strs base v 1 n xs w hown hn (by decide) (by decide)
theorem held_one5 (base : Nat) (v : Value) (x : Int) (n : Nat) (w : World) (hx : x = 1) (hown : w.ownsRow base 9 1 v n (marksFrom 1 n)) (hn : n ≤ 1048577) :
    Calls Try.prog 31 #[v, .int .i64 x] w fun e w' => e = .returned (.int .i64 ((1 + n : Nat) : Int)) ∧ Below w.heap.size w w' := by
  subst hx
  exact held_strs base v 1 n w hown hn (by decide) (by decide)
theorem marku_one5 (base : Nat) (v : Value) (x : Int) (n : Nat) (w : World) (hx : x = 1) (hown : RowOfU base v n w) (hn : n ≤ 1048577) :
    Calls Try.prog 29 #[v, .int .i64 x] w fun e w' => e = .returned (.int .i64 ((1 + 4 * n : Nat) : Int)) ∧ w.grownBy w' v.ownBlock := by
  subst hx
  exact mark_units base v 1 n w hown hn (by decide) (by decide)

set_option maxRecDepth 100000 in
set_option maxHeartbeats 2000000 in
theorem ex_UnitsFrom (IM : ImplUnitsFrom) (v : Value) (rs : List UR) (a : ByteArray) (w : World) (h : Rules w v rs) (hm : rs.length ≤ maxLen) (hs : ∀ r, r ∈ rs → r.src.size ≤ maxLen ∧ r.dst.size ≤ maxLen) (ha : a.size ≤ maxLen) :
    Calls Try.prog 6 #[v, .string a] w fun e w' => e = .returned (.bool true) ∧ Below w.heap.size w w' := by
  have HI := Lib.hid IM
  have HX := Lib.hid h
  have HS := Lib.hid hs
  have HSZ := Lib.hid (sz_units v rs 1048576 w h (by omega) (by omega) hm hs)
  obtain ⟨a', c', rfl⟩ := h.slice
  have ha5 := ha
  unfold maxLen at ha5
  clear ha
  clear IM h hs hm
  by_cases hba : 1048576 < a.size
  · go_enter Try.func6, Try.ntmps6
    go_wp2_with fail
    go_ret
    exact ⟨rfl, Below.refl _ _⟩
  have za : a.size ≤ 1048576 := by omega
  have Za := Lib.hid (text_len za)
  clear hba
  go_enter Try.func6, Try.ntmps6
  go_wp2_with fail
  refine HSZ.out.mono ?_
  rintro e w1 ⟨z, rfl, hz0, hz1, hz2, hb⟩
  have B1 := Lib.hid hb
  have HZ2 := Lib.hid hz2
  clear hb hz2 HSZ
  by_cases hzn : z < 0
  · go_wp2_with fail
    go_ret
    exact ⟨rfl, B1.out⟩
  have hlen : rs.length ≤ 1048576 := by have := HZ2.out (by omega); omega
  have HL := Lib.hid hlen
  clear HZ2
  go_wp2_with fail
  refine (to_units _ rs _ (HX.out.below B1.out) hlen).mono ?_
  rintro e w2 ⟨v2, rfl, ho2, hb⟩
  have A2 := Lib.hid (copy_arg ho2 HL.out HS.out)
  have B2 := Lib.hid (B1.out.trans (hb.mono B1.out.size))
  clear ho2 hb
  obtain ⟨ns, hy⟩ : ∃ ns, unitsR rs a = ns := ⟨_, rfl⟩
  have hnl := unitsR_len rs a
  rw [hy] at hnl
  have HY := Lib.hid hy
  clear hy
  go_wp2_with fail
  refine (spec_units _ rs a _ A2.out Za.out).mono ?_
  rintro e w3 ⟨v3, rfl, hs3, hb⟩
  rw [HY.out] at hs3
  have S3 := Lib.hid hs3
  have B3 := Lib.hid (B2.out.trans (hb.mono B2.out.size))
  clear hb A2 hs3
  go_wp2_with fail
  refine (to_units _ rs _ (HX.out.below B3.out) HL.out).mono ?_
  rintro e w4 ⟨v4, rfl, ho4, hb⟩
  have O4 := Lib.hid ho4
  have C4 := Lib.hid hb
  have B4 := Lib.hid (B3.out.trans (hb.mono B3.out.size))
  clear ho4 hb
  go_wp2_with fail
  refine (HI.out _ rs a _ (copy_arg O4.out HL.out HS.out) Za.out).mono ?_
  rintro e w5 ⟨v5, rfl, ho5, hb⟩
  rw [HY.out] at ho5
  have O5 := Lib.hid ho5
  have P5 := Lib.hid (kept_any O4.out hb)
  have L45 : Hid (∀ k, v4.ownBlock = some k → w3.heap.size ≤ k ∧ k < w4.heap.size) := Lib.hid (O4.out.lt)
  have C5 := Lib.hid (C4.out.trans (hb.mono C4.out.size))
  have B5 := Lib.hid (B4.out.trans (hb.mono B4.out.size))
  clear ho5 hb O4
  go_wp2_with fail
  refine (eq_strs v5 v3 ns _ (strs_of_row rfl O5.out) (S3.out.below C5.out) hnl).mono ?_
  rintro e w6 ⟨rfl, hb⟩
  have O6 := Lib.hid (kept_any O5.out hb)
  have P6 := Lib.hid (kept_any P5.out hb)
  have C6 := Lib.hid (C5.out.trans (hb.mono C5.out.size))
  have B6 := Lib.hid (B5.out.trans (hb.mono B5.out.size))
  clear hb O5 P5
  go_wp2_with fail
  refine (to_units _ rs _ (HX.out.below B6.out) HL.out).mono ?_
  rintro e w7 ⟨v7, rfl, ho7, hb⟩
  have A7 := Lib.hid (copy_arg ho7 HL.out HS.out)
  have O7 := Lib.hid (kept_any O6.out hb)
  have P7 := Lib.hid (kept_any P6.out hb)
  have C7 := Lib.hid (C6.out.trans (hb.mono C6.out.size))
  have B7 := Lib.hid (B6.out.trans (hb.mono B6.out.size))
  clear hb ho7 O6 P6
  go_wp2_with fail
  refine (eq_units _ _ rs _ (rules_of_row rfl (Nat.le_refl _) P7.out) A7.out.rules A7.out.len).mono ?_
  rintro e w8 ⟨rfl, hb⟩
  have O8 := Lib.hid (kept_any O7.out hb)
  have P8 := Lib.hid (kept_any P7.out hb)
  have C8 := Lib.hid (C7.out.trans (hb.mono C7.out.size))
  have B8 := Lib.hid (B7.out.trans (hb.mono B7.out.size))
  clear hb O7 P7 A7
  go_wp2_with fail
  refine (marku_one5 w3.heap.size v4 _ rs.length _ rfl ⟨_, P8.out⟩ (by have := HL.out; omega)).mono ?_
  rintro e w9 ⟨rfl, hg⟩
  have O9 := Lib.hid (O8.out.kept hg (by
    cases hv : v5.ownBlock with
    | none => exact Or.inl rfl
    | some j =>
      refine Or.inr (fun e => ?_)
      have h1 := (O8.out.lt j hv).1
      have h2 := (L45.out j e.symm).2
      omega))
  have C9 := Lib.hid (C8.out.grown hg C8.out.size (fun k hk => (L45.out k hk).1))
  have B9 := Lib.hid (B8.out.grown hg B8.out.size (fun k hk => Nat.le_trans B3.out.size (L45.out k hk).1))
  clear hg O8 P8
  have hk9 : ((1 : Int) + 4 * (rs.length : Int) < 0) = False := by simp; omega
  go_wp2_with fail
  refine (eq_strs v5 v3 ns _ (strs_of_row rfl O9.out) (S3.out.below C9.out) hnl).mono ?_
  rintro e w10 ⟨rfl, hb⟩
  have O10 := Lib.hid (kept_any O9.out hb)
  have C10 := Lib.hid (C9.out.trans (hb.mono C9.out.size))
  have B10 := Lib.hid (B9.out.trans (hb.mono B9.out.size))
  clear hb O9
  go_wp2_with fail
  refine (mark_one5 w4.heap.size v5 _ ns.length _ _ rfl O10.out hnl).mono ?_
  rintro e w11 ⟨rfl, ho11, hg11⟩
  have O11 := Lib.hid ho11
  have hr : ∀ k, v5.ownBlock = some k → w4.heap.size ≤ k := fun k hk => (O10.out.lt k hk).1
  have C11 := Lib.hid (C10.out.grown hg11 C10.out.size (fun k hk => Nat.le_trans C4.out.size (hr k hk)))
  have B11 := Lib.hid (B10.out.grown hg11 B10.out.size (fun k hk => Nat.le_trans B4.out.size (hr k hk)))
  clear ho11 hg11 hr O10
  go_wp2_with fail
  refine (held_one5 w4.heap.size v5 _ ns.length _ rfl O11.out hnl).mono ?_
  rintro e w12 ⟨rfl, hb⟩
  have O12 := Lib.hid (kept_any O11.out hb)
  have C12 := Lib.hid (C11.out.trans (hb.mono C11.out.size))
  have B12 := Lib.hid (B11.out.trans (hb.mono B11.out.size))
  clear hb O11
  have hqq : ((1 + (ns.length : Int)) != 1 + (ns.length : Int)) = false := by simp
  go_wp2_with fail
  refine (to_units _ rs _ (HX.out.below B12.out) HL.out).mono ?_
  rintro e w13 ⟨v13, rfl, ho13, hb⟩
  have A13 := Lib.hid (copy_arg ho13 HL.out HS.out)
  have O13 := Lib.hid (kept_any O12.out hb)
  have C13 := Lib.hid (C12.out.trans (hb.mono C12.out.size))
  have B13 := Lib.hid (B12.out.trans (hb.mono B12.out.size))
  clear hb ho13 O12
  go_wp2_with fail
  refine (HI.out _ rs a _ A13.out Za.out).mono ?_
  rintro e w14 ⟨v14, rfl, ho14, hb⟩
  rw [HY.out] at ho14
  have Q14 := Lib.hid ho14
  have O14 := Lib.hid (kept_any O13.out hb)
  have C14 := Lib.hid (C13.out.trans (hb.mono C13.out.size))
  have B14 := Lib.hid (B13.out.trans (hb.mono B13.out.size))
  clear hb ho14 O13
  go_wp2_with fail
  refine (eq_strs v14 v3 ns _ (strs_of_row rfl Q14.out) (S3.out.below C14.out) hnl).mono ?_
  rintro e w15 ⟨rfl, hb⟩
  have O15 := Lib.hid (kept_any O14.out hb)
  have B15 := Lib.hid (B14.out.trans (hb.mono B14.out.size))
  clear hb O14
  go_wp2_with fail
  refine (held_one5 w4.heap.size v5 _ ns.length _ rfl O15.out hnl).mono ?_
  rintro e w16 ⟨rfl, hb⟩
  have B16 := Lib.hid (B15.out.trans (hb.mono B15.out.size))
  clear hb
  go_wp2_with fail
  go_ret
  exact ⟨rfl, B16.out⟩
end Go.Proofs.Ytaomjggamamckaa
