/-
  The law FnConds: its draws, its facts, its walk.
-/
import Derived.Test.YtghofgjlmfdnpaaCondDraw
import Derived.Test.YtghofgjlmfdnpaaCondShort
import Derived.Test.YtghofgjlmfdnpaaCondParseIm
import Derived.Test.YtghofgjlmfdnpaaCondImD
import Derived.Test.YtghofgjlmfdnpaaLawBig
import Derived.WalkKit
import Derived.WalkSpells
import Derived.WalkSmall
import Derived.BigQuiet
import Derived.Laws.AppendOwn
import Derived.Deep.QuietTactic
import Derived.Deep.DeepCutAuto
import Derived.Deep.RegionLaw
import Derived.Lib.Hide
namespace Go.Proofs.Ytghofgjlmfdnpaa
open Go.RowKit

/-- Nodes, drawn. -/
def DrewLP (w : World) (e : Ending) (w' : World) : Prop := ∃ (v : Value) (l : List CN), e = .returned v ∧ CN.Is w' v l ∧ l.length ≤ 15 ∧ (∀ r, r ∈ l → CN.Sz r) ∧ Below w.heap.size w w'

set_option maxRecDepth 100000 in
set_option maxHeartbeats 1000000 in
theorem draw_format (a : Option Addr) (n c : Nat) (w : World) (hn : n ≤ 1048576) (hcode : CodeAt w.heap.size w a n) : Calls Try.prog 12 #[.slice a n c] w (DrewLP w) := by
  have HC0 := Lib.hid hcode
  clear hcode
  go_enter Try.func12, Try.ntmps12
  go_wp2_with fail
  refine (l1_new a n c _ hn HC0.out).mono ?_
  rintro e w1 ⟨b, rfl, hcur, hb1⟩
  have HC1 := Lib.hid (HC0.out.below hb1)
  have HU1 := Lib.hid hcur
  have HB1 := Lib.hid hb1
  have hblt := hcur.lt
  have hbb := hcur.1
  have hs1 := hb1.size
  clear hcur hb1 HC0
  go_wp2_with fail
  refine (l6_any w.heap.size b a n c _ hn HC1.out HU1.out hs1).mono ?_
  rintro e w2 ⟨g, q, l, rfl, hl1, hlK, hlz, hown, hd⟩
  have HZ := Lib.hid hlz
  have HO := Lib.hid hown
  have HD := Lib.hid hd
  clear hlz hown hd HC1 HU1
  go_wp2_with fail
  go_ret
  exact ⟨_, l, rfl, CN.is_of_row HO.out, hlK, fun r hr => (by have := HZ.out r hr; unfold CN.Sz maxLen; omega), HB1.out.trans (HD.out.below hs1)⟩
theorem fmtB_size {l : List CN} : (fmtB l).size ≤ 720 := by
  rcases Bool.eq_false_or_eq_true (condB l) with hc | hc
  · obtain ⟨t, h1, rfl, h3⟩ := cond_tree (condB_iff.1 hc)
    rw [fmtB_yes h1 h3]
    have := fmt_size t 1 h1
    omega
  · rw [fmtB_no hc]
    exact Nat.zero_le _
/-- A text, drawn. -/
def DrewT (w : World) (e : Ending) (w' : World) : Prop := ∃ x : ByteArray, e = .returned (.string x) ∧ x.size ≤ 1048576 ∧ Below w.heap.size w w'
theorem texts7 {w : World} : TextsAt ((w.alloc (.cells #[.string ⟨#[40]⟩, .string ⟨#[41]⟩, .string ⟨#[33]⟩, .string ⟨#[32]⟩, .string ⟨#[65]⟩, .string ⟨#[61]⟩, .string ⟨#[]⟩] 9)).drew) w.heap.size 7 :=
  texts_new w 9 [⟨#[40]⟩, ⟨#[41]⟩, ⟨#[33]⟩, ⟨#[32]⟩, ⟨#[65]⟩, ⟨#[61]⟩, ⟨#[]⟩] (by intro z hz; simp only [List.mem_cons, List.mem_nil_iff, or_false] at hz; rcases hz with rfl | rfl | rfl | rfl | rfl | rfl | rfl <;> decide)

set_option maxRecDepth 100000 in
set_option maxHeartbeats 2000000 in
theorem draw_parse (a : Option Addr) (n c : Nat) (w : World) (hn : n ≤ 1048576) (hcode : CodeAt w.heap.size w a n) : Calls Try.prog 16 #[.slice a n c] w (DrewT w) := by
  have HC0 := Lib.hid hcode
  have HCC : Hid (∀ W, Below w.heap.size w W → CodeAt w.heap.size W a n) := Lib.hid (fun W h => hcode.below h)
  clear hcode
  go_enter Try.func16, Try.ntmps16
  go_wp2_with fail
  refine (l1_new a n c _ hn HC0.out).mono ?_
  rintro e w1 ⟨b, rfl, hcur, hb1⟩
  have HC1 := Lib.hid (HC0.out.below hb1)
  have HU1 := Lib.hid hcur
  have HB1 := Lib.hid hb1
  have hblt := hcur.lt
  have hbb := hcur.1
  have hs1 := hb1.size
  clear hcur hb1 HC0
  go_wp2_with fail
  refine (l6_draw w.heap.size b a n c w1 hn HC1.out HU1.out hs1).mono ?_
  rintro e w2 ⟨g, q, l, rfl, hl1, hlK, hlz, hown, hd⟩
  have hl15 : l.length ≤ 15 := hlK
  have HZ : Hid (∀ r, r ∈ l → CN.Sz r) := Lib.hid (fun r hr => by have := hlz r hr; unfold CN.Sz maxLen; omega)
  have HL2 := Lib.hid (CN.is_of_row hown)
  have HB2 := Lib.hid (HB1.out.trans (hd.below hs1))
  have HD2 := Lib.hid hd
  have hs2 := HB2.out.size
  clear hlz hown hd HU1 HC1 hlK
  have HF := Lib.hid (spec_formatCond _ l w2 HL2.out HZ.out (by unfold maxLen; omega))
  go_wp2_with fail
  refine HF.out.mono ?_
  rintro e w3 ⟨rfl, hb⟩
  have HD3 := Lib.hid (HD2.out.more hb)
  have HB3 := Lib.hid (HB2.out.trans (hb.mono hs2))
  have HC3 := Lib.hid (HCC.out _ HB3.out)
  have hs3 := HB3.out.size
  have hsz := @fmtB_size l
  obtain ⟨s, hs⟩ : ∃ s, fmtB l = s := ⟨_, rfl⟩
  rw [hs] at hsz ⊢
  clear hb hs HF HL2 HZ HB2 HD2
  go_wp2_with fail
  refine (l1_once w.heap.size b a n c 3 w3 hn HC3.out HD3.out.cur (by omega) (by omega) hs3).mono ?_
  rintro e w4 ⟨y, rfl, hd⟩
  have HD4 := Lib.hid (HD3.out.trans hd)
  have HB4 := Lib.hid (HB3.out.trans (hd.below hs3))
  have HC4 := Lib.hid (HCC.out _ HB4.out)
  have hs4 := HB4.out.size
  clear hd HD3 HB3 HC3
  by_cases h0 : 0 < s.size
  rotate_left
  · have d0 : decide ((0 : Int) < (s.size : Int)) = false := decide_eq_false (by omega)
    cases y <;>
    · go_wp2_with fail
      go_ret
      exact ⟨s, rfl, by omega, HB4.out⟩
  have d0 : decide ((0 : Int) < (s.size : Int)) = true := decide_eq_true (by omega)
  cases y with
  | false =>
    go_wp2_with fail
    go_ret
    exact ⟨s, rfl, by omega, HB4.out⟩
  | true =>
    go_wp2_with fail
    refine (l1_below w.heap.size b a n c (s.size : Int) w4 hn HC4.out HD4.out.cur (by omega) (by omega) hs4).mono ?_
    rintro e w5 ⟨z, rfl, hz0, hz1, hd⟩
    obtain ⟨k, rfl⟩ : ∃ k : Nat, z = (k : Int) := ⟨z.toNat, by omega⟩
    have HD5 := Lib.hid (HD4.out.trans hd)
    have HB5 := Lib.hid (HB4.out.trans (hd.below hs4))
    have HC5 := Lib.hid (HCC.out _ HB5.out)
    have hs5 := HB5.out.size
    have hb5 := HD5.out.cur.lt
    clear hd HD4 HB4 HC4 hz0
    have HPK := Lib.hid (l1_pick w.heap.size b w5.heap.size 7 a n c ((w5.alloc (.cells #[.string ⟨#[40]⟩, .string ⟨#[41]⟩, .string ⟨#[33]⟩, .string ⟨#[32]⟩, .string ⟨#[65]⟩, .string ⟨#[61]⟩, .string ⟨#[]⟩] 9)).drew) hn (show CodeAt w.heap.size (w5.alloc (.cells #[.string ⟨#[40]⟩, .string ⟨#[41]⟩, .string ⟨#[33]⟩, .string ⟨#[32]⟩, .string ⟨#[65]⟩, .string ⟨#[61]⟩, .string ⟨#[]⟩] 9)) a n from HC5.out.alloc hs5 _) (show CurAt w.heap.size (w5.alloc (.cells #[.string ⟨#[40]⟩, .string ⟨#[41]⟩, .string ⟨#[33]⟩, .string ⟨#[32]⟩, .string ⟨#[65]⟩, .string ⟨#[61]⟩, .string ⟨#[]⟩] 9)) b a n c from HD5.out.cur.alloc _) (by decide) (by decide) (by show w.heap.size ≤ (w5.alloc (.cells #[.string ⟨#[40]⟩, .string ⟨#[41]⟩, .string ⟨#[33]⟩, .string ⟨#[32]⟩, .string ⟨#[65]⟩, .string ⟨#[61]⟩, .string ⟨#[]⟩] 9)).heap.size; simp; omega) (by omega) texts7)
    have HBA : Hid (Below w.heap.size w ((w5.alloc (.cells #[.string ⟨#[40]⟩, .string ⟨#[41]⟩, .string ⟨#[33]⟩, .string ⟨#[32]⟩, .string ⟨#[65]⟩, .string ⟨#[61]⟩, .string ⟨#[]⟩] 9)).drew)) := Lib.hid (HB5.out.alloc hs5 _).drew
    have hsA := HBA.out.size
    have n1 : IntKind.i64.wrap ((k : Int) + 1) = (k : Int) + 1 := IntWalk.i64_in _ (by omega)
    have n2 : (0 : Int) ≤ (k : Int) + 1 := by omega
    have n3 : ((k : Int) + 1).toNat = k + 1 := by omega
    have n4 : (k : Int) + 1 ≤ (s.size : Int) := by omega
    have n5 : (k : Int) ≤ (s.size : Int) := by omega
    go_upto_region 5 with fail
    go_region_law (first | (go_simp; go_at_call 50; refine HPK.out.mono ?_; rintro e w6 ⟨p, rfl, hp, hd⟩; have HB6 := Lib.hid (HBA.out.trans (hd.below hsA)); have m1 : ¬ 9223372036854775807 < min k s.size + p.size := (by omega); have m2 : ¬ 9223372036854775807 < min k s.size + p.size + (s.size - (k + 1)) := (by omega)))
    all_goals
      go_wp2_with fail
      go_ret
      exact ⟨_, rfl, (by rw [cat_size, cat_size]; simp only [ByteArray.size_extract]; omega), HB6.out⟩

set_option maxRecDepth 100000 in
set_option maxHeartbeats 1000000 in
theorem laws_sameConds (v v' : Value) (xs : List CN) (w : World) (h : CN.Is w v xs) (h' : CN.Is w v' xs) (hm : xs.length ≤ 1048577) :
    Calls Try.prog 17 #[v, v'] w (BoolRes true w) := by
  have HX := Lib.hid h
  have HY := Lib.hid h'
  obtain ⟨a, c, rfl⟩ := h.slice
  obtain ⟨a', c', rfl⟩ := h'.slice
  have hnn : ((xs.length : Int) != (xs.length : Int)) = false := by simp
  clear h h'
  go_enter Try.func17, Try.ntmps17
  go_wp2
  go_loopw [5] (fun i wr => ∃ k : Nat, k ≤ xs.length ∧ i = .int .i64 k ∧ Below w.heap.size w wr) (fun i _ => xs.length - (intOf i).toNat)
  case atStart => exact ⟨0, Nat.zero_le _, rfl, Below.refl _ _⟩
  case round =>
    obtain ⟨k, hk, rfl, hb⟩ := hrel
    have HB := Lib.hid hb
    clear hb
    by_cases hlt : k < xs.length
    · obtain ⟨b2, o2, c2, hv2, hc2, hcell2⟩ := HX.out.some (by omega)
      simp only [Value.slice.injEq] at hv2
      obtain ⟨rfl, _, rfl⟩ := hv2
      obtain ⟨b3, o3, c3, hv3, hc3, hcell3⟩ := HY.out.some (by omega)
      simp only [Value.slice.injEq] at hv3
      obtain ⟨rfl, _, rfl⟩ := hv3
      obtain ⟨e1, e2, e3⟩ := (hcell2.below HB.out).at k hlt
      obtain ⟨e4, e5, e6⟩ := (hcell3.below HB.out).at k hlt
      clear hcell2 hcell3
      have HLT := Lib.hid hlt
      generalize xs[k]'hlt = x at *
      obtain ⟨kind, opt, vl⟩ := x
      simp only at e1 e2 e3 e4 e5 e6
      have q0 : (kind == kind) = true := by simp
      have b1 := str_eq (rfl : opt = opt)
      have b2 := str_eq (rfl : vl = vl)
      go_upto_region 6 with fail
      go_quiet (fail)
      go_wp2_with fail
      go_roundw
      case rel => exact ⟨k + 1, by have := HLT.out; omega, by go_num, HB.out.trans (below_drewN (Below.refl _ _) _)⟩
      case measure => have := HLT.out; simp [intOf]; omega
    · go_wp2
      go_ret
      exact ⟨rfl, HB.out⟩
end Go.Proofs.Ytghofgjlmfdnpaa
