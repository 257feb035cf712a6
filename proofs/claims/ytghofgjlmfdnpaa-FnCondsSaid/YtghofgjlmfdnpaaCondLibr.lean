/-
  What the program's reader asks of package strings: CutPrefix, IndexAny (" )"), Cut ("=").
-/
import Derived.Test.YtghofgjlmfdnpaaRows
import Derived.Test.YtghofgjlmfdnpaaShelf
import Derived.Test.YtghofgjlmfdnpaaCondRead
import Derived.Test.YtghofgjlmfdnpaaCondSpec
import Derived.Test.YtghofgjlmfdnpaaFind
import Derived.Test.YtghofgjlmfdnpaaRecLib
import Derived.Test.YtghofgjlmfdnpaaHold
import Derived.WalkKit
import Derived.WalkSpells
import Derived.WalkSmall
import Derived.Laws.RangeString
import Derived.Laws.RangeAny
import Derived.Laws.Runes
import Derived.Lib.IndexAny
import Derived.Lib.IndexBytes
import Derived.Lib.Hide
import Derived.BigQuiet
import Derived.Deep.QuietTactic
import Derived.Deep.DeepCutAuto
namespace Go.Proofs.Ytghofgjlmfdnpaa
open Go.RowKit

/-- The runes that a range over a string gives: behind each, at a byte beyond ASCII, only bytes beyond ASCII. -/
theorem decode_cont (s : ByteArray) (p : Nat) (h : p < s.size) (ha : 128 ≤ (s[p]'h).toNat) : p + (Utf8.decode s p).2 ≤ s.size ∧ ∀ j, p ≤ j → j < p + (Utf8.decode s p).2 → ∀ hj : j < s.size, 128 ≤ (s[j]'hj).toNat := by
  have hg : ∀ k, (hk : p + k < s.size) → (s.get! (p + k)) = s[p + k]'hk := fun k hk => by simp [ByteArray.get!, getElem!_pos, hk]; rfl
  have one : p + 1 ≤ s.size ∧ ∀ j, p ≤ j → j < p + 1 → ∀ hj : j < s.size, 128 ≤ (s[j]'hj).toNat := ⟨h, fun j h1 h2 hj => by
    obtain rfl : j = p := by omega
    exact ha⟩
  have hc : ∀ k, (decide (p + k < s.size) && (s.get! (p + k)).toNat / 64 == 2) = true → ∃ hk : p + k < s.size, 128 ≤ (s[p + k]'hk).toNat := fun k hk => by
    rw [Bool.and_eq_true, decide_eq_true_eq, beq_iff_eq] at hk
    obtain ⟨h1, h2⟩ := hk
    rw [hg k h1] at h2
    exact ⟨h1, by omega⟩
  have hn : ¬ (s[p]'h).toNat < 128 := by omega
  unfold Utf8.decode
  simp only [get_at s p h, hn, if_false]
  split
  · rename_i hh
    rw [Bool.and_eq_true] at hh
    obtain ⟨k1, q1⟩ := hc 1 hh.2
    split
    · refine ⟨by show p + 2 ≤ _; omega, fun j h1 h2 hj => ?_⟩
      have h2' : j < p + 2 := h2
      rcases (show j = p ∨ j = p + 1 by omega) with rfl | rfl
      · exact ha
      · exact q1
    · exact one
  · split
    · rename_i hh
      rw [Bool.and_eq_true, Bool.and_eq_true] at hh
      obtain ⟨k1, q1⟩ := hc 1 hh.1.2
      obtain ⟨k2, q2⟩ := hc 2 hh.2
      split
      · refine ⟨by show p + 3 ≤ _; omega, fun j h1 h2 hj => ?_⟩
        have h2' : j < p + 3 := h2
        rcases (show j = p ∨ j = p + 1 ∨ j = p + 2 by omega) with rfl | rfl | rfl
        · exact ha
        · exact q1
        · exact q2
      · exact one
    · split
      · rename_i hh
        rw [Bool.and_eq_true, Bool.and_eq_true, Bool.and_eq_true] at hh
        obtain ⟨k1, q1⟩ := hc 1 hh.1.1.2
        obtain ⟨k2, q2⟩ := hc 2 hh.1.2
        obtain ⟨k3, q3⟩ := hc 3 hh.2
        split
        · refine ⟨by show p + 4 ≤ _; omega, fun j h1 h2 hj => ?_⟩
          have h2' : j < p + 4 := h2
          rcases (show j = p ∨ j = p + 1 ∨ j = p + 2 ∨ j = p + 3 by omega) with rfl | rfl | rfl | rfl
          · exact ha
          · exact q1
          · exact q2
          · exact q3
        · exact one
      · exact one

/-- The iterator's block, moved on. -/
def setIt (w : World) (b : Nat) (o : Obj) : World := { w with heap := w.heap.setIfInBounds b o }
theorem setIt_heap {w : World} {b : Nat} {o o' : Obj} (h : w.heap[b]? = some o') : (setIt w b o).heap[b]? = some o := by
  have hlt : b < w.heap.size := lt_of_heap h
  show (w.heap.setIfInBounds b o)[b]? = some o
  simp [hlt]
theorem setIt_below {B : Nat} {a w : World} {b : Nat} {o : Obj} (h : Below B a w) (hb : B ≤ b) : Below B a (setIt w b o) :=
  h.trans ⟨rfl, rfl, rfl, by simp [setIt], fun k hk => by
    show (w.heap.setIfInBounds b o)[k]? = w.heap[k]?
    rw [Array.getElem?_setIfInBounds]
    rw [if_neg (by omega)]⟩
theorem next_at (w : World) (b : Nat) (s : ByteArray) (p : Nat) (ty : TypeId) (h : w.heap[b]? = some (.stringIter s p)) (hp : p < s.size) :
    (Instr.next (.pointer (some ⟨b, 0, none⟩)) true ty).run Try.prog w = .ok (.tuple #[.bool true, .int .i64 p, .int .i32 (Utf8.decode s p).1]) (setIt w b (.stringIter s (p + (Utf8.decode s p).2))) := by
  simp only [Instr.next, getObj, setObj, Sem.run_bind, Sem.run, h, Result.andThen, hp, if_true]
  simp [goInt, setIt]
theorem next_over (w : World) (b : Nat) (s : ByteArray) (p : Nat) (ty : TypeId) (h : w.heap[b]? = some (.stringIter s p)) (hp : ¬p < s.size) :
    (Instr.next (.pointer (some ⟨b, 0, none⟩)) true ty).run Try.prog w = .ok (.tuple #[.bool false]) w := by
  simp [Instr.next, getObj, Sem.run, h, hp]
abbrev tStop : ByteArray := ⟨#[32, 41]⟩

theorem ib_empty (s : ByteArray) (c : Int) (w : World) (hs : s.data.toList = []) : Calls Try.prog 98 #[.string s, .int .u8 c] w fun e w' => e = .returned (.int .i64 (-1)) ∧ w' = w := by
  have h := Try.strings_IndexByte s c w
  rw [hs] at h
  exact h

set_option maxRecDepth 100000 in
set_option maxHeartbeats 2000000 in
/-- No rune beyond ASCII is found. -/
theorem rune_none (r : Int) (w : World) (h0 : 128 ≤ r) (h1 : r ≤ 2147483647) :
    Calls Try.prog 93 #[.string tStop, .int .i32 r] w fun e w' => e = .returned (.int .i64 (-1)) ∧ Below w.heap.size w w' := by
  have d0 : decide (r < 128) = false := decide_eq_false (by omega)
  have d1 : decide (0 ≤ r) = true := decide_eq_true (by omega)
  by_cases he : r = 65533
  · subst he
    go_enter Try.func93, Try.ntmps93
    go_wp2_with fail
    go_loopw [] (fun wx => ∃ p : Nat, p ≤ 2 ∧ wx = w.iter tStop p) (fun wx => 2 - wx.iterPos w.heap.size)
    case atStart => exact ⟨0, Nat.zero_le _, rfl⟩
    case round =>
      obtain ⟨p, hp, rfl⟩ := hrel
      rcases (show p = 0 ∨ p = 1 ∨ p = 2 by omega) with rfl | rfl | rfl
      · have hnx := fun ty => run_next_ascii (P := Try.prog) w tStop 0 ty (by decide) (by decide)
        go_wp2_with fail
        go_roundw
        case rel => exact ⟨1, by decide, rfl⟩
        case measure => simp
      · have hnx := fun ty => run_next_ascii (P := Try.prog) w tStop 1 ty (by decide) (by decide)
        go_wp2_with fail
        go_roundw
        case rel => exact ⟨2, by decide, rfl⟩
        case measure => simp
      · have hnx := fun ty => run_next_end (P := Try.prog) w tStop 2 ty (by decide)
        go_wp2_with fail
        go_ret
        exact ⟨rfl, (Below.refl _ _).alloc (Nat.le_refl _) _⟩
  have b0 : (r == 65533) = false := beq_eq_false_iff_ne.2 he
  clear he
  cases hv : Lib.validRune r with
  | false =>
    have HV := Lib.hid hv
    clear hv
    go_enter Try.func93, Try.ntmps93
    go_wp2_with fail
    refine (Try.utf8_ValidRune r _).mono ?_
    rintro e w1 ⟨rfl, rfl⟩
    rw [HV.out]
    go_wp2_with fail
    go_ret
    exact ⟨rfl, Below.refl _ _⟩
  | true =>
    have HV := Lib.hid hv
    clear hv
    obtain ⟨z1, z2, z3⟩ := encode_facts r (by have h := of_decide_eq_true HV.out; unfold Utf8.valid; simp; omega) h0
    go_enter Try.func93, Try.ntmps93
    go_wp2_with fail
    refine (Try.utf8_ValidRune r _).mono ?_
    rintro e w1 ⟨rfl, rfl⟩
    rw [HV.out]
    obtain ⟨rs, hrs⟩ : ∃ rs, Utf8.encode r = rs := ⟨_, rfl⟩
    have HRS := Lib.hid hrs
    rw [hrs] at z1 z2 z3
    clear hrs
    have hcv : ∀ W, (convert 21 9 (.int .i32 r)).run Try.prog W = .ok (.string rs) W := fun W => by rw [← HRS.out]; exact run_convert_int_string W _ _ _ _ (by kernel_rfl) (by kernel_rfl)
    by_cases h3 : 3 ≤ rs.size
    · have hd : decide ((rs.size : Int) - 1 < 2) = false := decide_eq_false (by omega)
      clear z3
      go_wp2_with fail
      go_step3
      go_wp2_with fail
      go_loop [9, 10] (fun i f => i = .int .i64 ((rs.size : Int) - 1) ∧ f = .int .i64 0) (fun _ _ => 0)
      case atStart => exact ⟨rfl, rfl⟩
      case round =>
        obtain ⟨rfl, rfl⟩ := hrel
        go_wp2_with fail
        (try rw [Exit.noGoto_ret])
        go_ret
        exact ⟨rfl, Below.refl _ _⟩
    · have h2 : rs.size = 2 := by omega
      obtain ⟨x0, x1, rfl⟩ : ∃ x0 x1 : UInt8, rs = ⟨#[x0, x1]⟩ := by
        obtain ⟨d⟩ := rs
        have hd : d.size = 2 := h2
        refine ⟨d[0]'(by omega), d[1]'(by omega), ?_⟩
        congr 1
        apply Array.ext
        · simp [hd]
        · intro i h1 h2
          match i, h1 with
          | 0, _ => rfl
          | 1, _ => rfl
          | i + 2, h1 => omega
      have hx : 128 ≤ x1.toNat := z3 (by show 1 < 2; decide)
      have hx2 : x1.toNat < 256 := x1.toNat_lt
      have hxb0 : ((41 : Int) != (x1.toNat : Int)) = true := bne_iff_ne.2 (by omega)
      have hxb : (((tStop[1]'(by decide)).toNat : Int) != (((⟨#[x0, x1]⟩ : ByteArray)[1]'(by show 1 < 2; decide)).toNat : Int)) = true := hxb0
      clear hxb0
      clear z1 z2 z3 h2 h3
      go_wp2_with fail
      go_step3
      go_wp2_with fail
      go_loop [9, 10] (fun i f => i = .int .i64 1 ∧ f = .int .i64 0) (fun _ _ => 0)
      case atStart => exact ⟨rfl, rfl⟩
      case round =>
        obtain ⟨rfl, rfl⟩ := hrel
        go_wp2_with fail
        go_step3
        go_wp2_with fail
        go_quiet (fail)
        have HBQ := below_drewN (Below.refl w1.heap.size w1) nq
        generalize w1.drewN nq = wq at *
        go_wp2_with fail
        go_quiet ((go_at_call 98; exact Calls.quiet_of_same (ib_empty _ _ _ (by decide))))
        go_wp2_with fail
        repeat (show Exit.noGoto _ Exit.ret _ _; rw [Exit.noGoto_ret])
        go_ret
        exact ⟨rfl, below_drewN HBQ _⟩

theorem noany_more {s : ByteArray} {chars : List UInt8} {i k : Nat} (h : Lib.NoAny s.data.toList chars i) (hc : ∀ c, c ∈ chars → c.toNat < 128) (hx : ∀ j, i ≤ j → j < k → ∀ hj : j < s.size, 128 ≤ (s[j]'hj).toNat) : Lib.NoAny s.data.toList chars k := fun j b hj hb => by
  by_cases hji : j < i
  · exact h j b hji hb
  · have hjs : j < s.size := by
      have := (List.getElem?_eq_some_iff.1 hb).1
      simpa using this
    have h1 := hx j (by omega) hj hjs
    rw [Lib.data_getElem? s j hjs] at hb
    obtain rfl := Option.some.inj hb
    cases hc' : chars.contains (s[j]'hjs) with
    | false => rfl
    | true =>
      have := hc _ (List.contains_iff_mem.1 hc')
      omega

set_option maxRecDepth 100000 in
set_option maxHeartbeats 2000000 in
/-- IndexAny (s, " )") of at most 8 bytes. -/
theorem idx_short (s : ByteArray) (w : World) (h8 : s.size ≤ 8) :
    Calls Try.prog 90 #[.string s, .string tStop] w fun e w' => e = .returned (.int .i64 (Lib.indexAny s.data.toList [32, 41])) ∧ Below w.heap.size w w' := by
  have h8z : decide ((8 : Int) < (s.size : Int)) = false := decide_eq_false (by omega)
  have HA0 := heap_alloc_new w (.stringIter s 0)
  have HB0 : Below w.heap.size w (w.alloc (.stringIter s 0)) := (Below.refl _ _).alloc (Nat.le_refl _) _
  have hit : w.iter s 0 = w.alloc (.stringIter s 0) := rfl
  go_enter Try.func90, Try.ntmps90
  go_wp2_with fail
  refine (Try.strings_shouldUseASCIISet _ _).mono ?_
  rintro e w1 ⟨rfl, rfl⟩
  rw [h8z]
  go_wp2_with fail
  go_loopw [9, 10] (fun _ _ wx => ∃ i : Nat, i ≤ s.size ∧ Hid (wx.heap[w1.heap.size]? = some (.stringIter s i)) ∧ Hid (Lib.NoAny s.data.toList [32, 41] i) ∧ Hid (Below w1.heap.size w1 wx)) (fun _ _ wx => s.size - wx.iterPos w1.heap.size)
  case atStart => exact ⟨0, Nat.zero_le _, Lib.hid HA0, Lib.hid (Lib.NoAny.zero _ _), Lib.hid HB0⟩
  case round =>
    obtain ⟨i, hi, HG, HN, HB⟩ := hrel
    clear HA0 HB0 hit
    have HP : Hid (wr.iterPos w1.heap.size = i) := Lib.hid (by unfold World.iterPos; rw [HG.out])
    by_cases hlt : i < s.size
    rotate_left
    · have hie : i = s.size := by omega
      have hnx := fun ty => next_over wr w1.heap.size s i ty HG.out hlt
      have HE : Hid (Lib.indexAny s.data.toList [32, 41] = -1) := Lib.hid (Lib.indexAny_none (by rw [← Lib.size_eq, ← hie]; exact HN.out))
      go_wp2_with fail
      go_ret
      exact ⟨by rw [HE.out]; rfl, HB.out⟩
    have hnx := fun ty => next_at wr w1.heap.size s i ty HG.out hlt
    have hx : s.data.toList[i]? = some (s[i]'hlt) := Lib.data_getElem? s i hlt
    by_cases ha : (s[i]'hlt).toNat < 128
    · rw [decode_ascii s i hlt ha] at hnx
      simp only at hnx
      have HG2 : Hid ((setIt wr w1.heap.size (.stringIter s (i + 1))).heap[w1.heap.size]? = some (.stringIter s (i + 1))) := Lib.hid (setIt_heap HG.out)
      have HB2 : Hid (Below w1.heap.size w1 (setIt wr w1.heap.size (.stringIter s (i + 1)))) := Lib.hid (setIt_below HB.out (Nat.le_refl _))
      have HP2 : Hid ((setIt wr w1.heap.size (.stringIter s (i + 1))).iterPos w1.heap.size = i + 1) := Lib.hid (by unfold World.iterPos; rw [HG2.out])
      have hcon := Lib.contains_iff_indexByte tStop.data.toList (s[i]'hlt)
      have hback : (((s[i]'hlt).toNat : Int)).toNat.toUInt8 = s[i]'hlt := by simp
      have Hx := Lib.hid hx
      clear hx
      generalize s[i]'hlt = x at *
      generalize setIt wr w1.heap.size (.stringIter s (i + 1)) = w2 at *
      cases hin : tStop.data.toList.contains x
      · rw [hin] at hcon
        have hlt0 : ¬((0 : Int) ≤ Lib.indexByte tStop.data.toList x) := of_decide_eq_false hcon.symm
        have HN2 := Lib.hid (HN.out.succ Hx.out hin)
        obtain ⟨z, hz⟩ : ∃ z, Lib.indexByte tStop.data.toList x = z := ⟨_, rfl⟩
        rw [hz] at hlt0
        have HZ := Lib.hid hz
        have HBK := Lib.hid hback
        clear hcon hin hz hback
        go_wp2_with fail
        refine (Try.strings_IndexRune_ascii _ _ _ (by omega) (by omega)).mono ?_
        rintro e w3 ⟨rfl, rfl⟩
        rw [HBK.out, HZ.out]
        go_wp2_with fail
        go_roundw
        case rel => exact ⟨i + 1, by omega, HG2, HN2, HB2⟩
        case measure => rw [HP2.out, HP.out]; omega
      · rw [hin] at hcon
        have hge0 : ((0 : Int) ≤ Lib.indexByte tStop.data.toList x) := of_decide_eq_true hcon.symm
        have HE : Hid (Lib.indexAny s.data.toList [32, 41] = i) := Lib.hid (Lib.indexAny_hit HN.out Hx.out hin)
        obtain ⟨z, hz⟩ : ∃ z, Lib.indexByte tStop.data.toList x = z := ⟨_, rfl⟩
        rw [hz] at hge0
        have HZ := Lib.hid hz
        have HBK := Lib.hid hback
        clear hcon hin hz hback
        go_wp2_with fail
        refine (Try.strings_IndexRune_ascii _ _ _ (by omega) (by omega)).mono ?_
        rintro e w3 ⟨rfl, rfl⟩
        rw [HBK.out, HZ.out]
        go_wp2_with fail
        go_ret
        exact ⟨by rw [HE.out]; rfl, HB2.out⟩
    · have h1 := (decode_high s i hlt (by omega)).1
      have h1' := (decode_high s i hlt (by omega)).2
      have h2 := decode_le s i
      have h3 := decode_cont s i hlt (by omega)
      generalize Utf8.decode s i = dd at *
      obtain ⟨rn, wd⟩ := dd
      simp only at h1 h1' h2 h3 hnx
      have HG2 : Hid ((setIt wr w1.heap.size (.stringIter s (i + wd))).heap[w1.heap.size]? = some (.stringIter s (i + wd))) := Lib.hid (setIt_heap HG.out)
      have HB2 : Hid (Below w1.heap.size w1 (setIt wr w1.heap.size (.stringIter s (i + wd)))) := Lib.hid (setIt_below HB.out (Nat.le_refl _))
      have HN2 := Lib.hid (noany_more HN.out (by decide) h3.2)
      have hie := h3.1
      clear h3 hx
      generalize setIt wr w1.heap.size (.stringIter s (i + wd)) = w2 at *
      go_wp2_with fail
      refine (rune_none _ _ (by omega) (by omega)).mono ?_
      rintro e w3 ⟨rfl, hb⟩
      have HG3 := Lib.hid (blk_below HG2.out hb)
      have HB3 := Lib.hid (HB2.out.trans (hb.mono HB2.out.size))
      have HP3 : Hid (w3.iterPos w1.heap.size = i + wd) := Lib.hid (by unfold World.iterPos; rw [HG3.out])
      clear hb
      go_wp2_with fail
      go_roundw
      case rel => exact ⟨i + wd, hie, HG3, HN2, HB3⟩
      case measure => rw [HP3.out, HP.out]; omega

/-- IndexAny (s, " )"). -/
theorem idx_stop (s : ByteArray) (w : World) (hs : s.size ≤ 1048576) :
    Calls Try.prog 90 #[.string s, .string tStop] w fun e w' => e = .returned (.int .i64 (Lib.indexAny s.data.toList [32, 41])) ∧ Below w.heap.size w w' := by
  by_cases h8 : s.size ≤ 8
  · exact idx_short s w h8
  · refine (Try.strings_IndexAny_long (zero_of_info (n := 256) (by kernel_rfl)).1 s tStop w (by decide) (by omega) (by omega) (by decide) (by
      intro j b hb
      match j, hb with
      | 0, hb => obtain rfl := Option.some.inj hb; decide
      | 1, hb => obtain rfl := Option.some.inj hb; decide
      | j + 2, hb => exact absurd hb (by show ([32, 41] : List UInt8)[j + 2]? ≠ some b; simp))).mono ?_
    rintro e w' ⟨rfl, rfl⟩
    exact ⟨rfl, ((Below.refl _ _).alloc (Nat.le_refl _) _).alloc (by simp) _⟩
end Go.Proofs.Ytghofgjlmfdnpaa
