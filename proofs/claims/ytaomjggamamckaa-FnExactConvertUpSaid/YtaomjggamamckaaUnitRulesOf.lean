/-
  The program's list of the rules from a unit.
-/
import Derived.Test.YtaomjggamamckaaUnitRuleI
import Derived.Test.YtaomjggamamckaaUnitCur
import Derived.Test.YtaomjggamamckaaUnitTo
import Derived.WalkKit
import Derived.WalkSpells
import Derived.WalkSmall
import Derived.Laws.AppendOwn
import Derived.OwnWalk
import Derived.BigQuiet
import Derived.Deep.QuietTactic
import Derived.Deep.DeepCutAuto
import Derived.Lib.Hide
namespace Go.Proofs.Ytaomjggamamckaa
open Go.RowKit

/-- The call's own list of rules. -/
structure HopsS (w : World) (l : List UR) (v : Value) (W : World) : Prop where
  row : W.ownsRow w.heap.size 79 4 v l.length (cellsU l)
  bl : Below w.heap.size w W
theorem HopsS.below {w W W' : World} {l : List UR} {v : Value} (h : HopsS w l v W) (hb : Below W.heap.size W W') : HopsS w l v W' :=
  ⟨ownU_below h.row hb, h.bl.trans (hb.mono h.bl.size)⟩
theorem HopsS.slice {w W : World} {l : List UR} {v : Value} (h : HopsS w l v W) : ∃ (a : Option Addr) (c : Nat), v = .slice a l.length c := by
  rcases h.row.2 with ⟨h1, h2⟩ | ⟨g, cap, cur, h1, _⟩
  · exact ⟨none, 0, by rw [h1, h2]⟩
  · exact ⟨_, cap, h1⟩
/-- .. behind an append of a rule. -/
theorem HopsS.push {w W W' : World} {l : List UR} {v v' : Value} (h : HopsS w l v W) {r : UR} (ho : W'.ownsRow w.heap.size 79 4 v' (l.length + 1) (cellsU l ++ [.string r.src, .string r.dst, .int .i64 r.num, .int .i64 r.den])) (hg : W.grownBy W' v.ownBlock) : HopsS w (l ++ [r]) v' W' :=
  ⟨by rw [← cellsU_push, List.length_append]; exact ho, h.bl.grown hg h.bl.size (fun j hj => (h.row.lt j hj).1)⟩
def HopsRes (rs : List UR) (u : ByteArray) (w : World) (e : Ending) (w' : World) : Prop :=
  ∃ a c, e = .returned (.slice a (hopsU rs u).length c) ∧ HopsS w (hopsU rs u) (.slice a (hopsU rs u).length c) w'

set_option maxRecDepth 100000 in
set_option maxHeartbeats 2000000 in
theorem impl_rulesOf (v : Value) (rs : List UR) (u : ByteArray) (w : World) (h : Rules w v rs) (hm : rs.length ≤ 12) :
    Calls Try.prog 62 #[v, .string u] w (HopsRes rs u w) := by
  obtain ⟨i0, hi, hz0, hz1, hz2⟩ := info_parts infoU
  have HX := Lib.hid h
  obtain ⟨a', c', rfl⟩ := h.slice
  clear h
  go_enter Try.func62, Try.ntmps62
  go_wp2_with fail
  go_loopw [5, 10] (fun x i wr => ∃ (m : Nat) (l : List UR) (a : Option Addr) (c : Nat), i = .int .i64 m ∧ x = .slice a l.length c ∧ m ≤ rs.length ∧ l.length ≤ m ∧ Hid (l = hopsU (rs.take m) u) ∧ Hid (HopsS w l (.slice a l.length c) wr)) (fun _ i _ => (rs.length - (intOf i).toNat))
  case atStart => exact ⟨0, [], none, 0, rfl, rfl, Nat.zero_le _, Nat.zero_le _, Lib.hid rfl, Lib.hid ⟨⟨rfl, Or.inl ⟨rfl, rfl⟩⟩, Below.refl _ _⟩⟩
  case round =>
    obtain ⟨m, l, a, c, rfl, rfl, hmr, hlm, HL, HS⟩ := hrel
    by_cases hlt : m < rs.length
    · obtain ⟨b2, o2, c2, hv2, hc2, hcell2⟩ := HX.out.some (by omega)
      simp only [Value.slice.injEq] at hv2
      obtain ⟨rfl, _, rfl⟩ := hv2
      obtain ⟨r0, r1, r2, r3⟩ := (hcell2.below HS.out.bl).at m hlt
      have HT := Lib.hid (hops_take (u := u) hlt)
      generalize rs[m]'hlt = r at *
      clear hcell2 hc2
      go_upto_region 5 with fail
      have HG1 := heap_alloc_new wr (.cells #[.string r.src, .string r.dst, .int .i64 r.num, .int .i64 r.den] 79)
      have HS2 := Lib.hid (HS.out.below ((Below.refl _ wr).alloc (Nat.le_refl _) (.cells #[.string r.src, .string r.dst, .int .i64 r.num, .int .i64 r.den] 79)))
      generalize wr.alloc (.cells #[.string r.src, .string r.dst, .int .i64 r.num, .int .i64 r.den] 79) = w2 at *
      clear r0 r1 r2 r3 HS
      have g0 := cell_of_row _ _ 0 _ _ _ HG1
      have g1 := cell_of_row _ _ 1 _ _ _ HG1
      have g2 := cell_of_row _ _ 2 _ _ _ HG1
      have g3 := cell_of_row _ _ 3 _ _ _ HG1
      by_cases hs : r.src = u
      · have bs : (u.toList == r.src.toList) = true := str_eq hs.symm
        have HL2 : Hid (l ++ [r] = hopsU (rs.take (m + 1)) u) := Lib.hid (by rw [HT.out, ← HL.out, of_src hs]; rfl)
        clear hs
        go_wp2_with (at_builtin; refine wpList_append_own _ rfl _ _ 24 rfl w.heap.size 79 i0 (.agg #[.string ByteArray.empty, .string ByteArray.empty, .int .i64 0, .int .i64 0]) 4 48 Try.underlying24 hi hz0 hz1 hz2 rfl (by decide) _ l.length (cellsU l) rfl (HS2.out.row.alloc _) ⟨w2.heap.size, 0, none⟩ 1 1 [.string r.src, .string r.dst, .int .i64 r.num, .int .i64 r.den] rfl rfl (four_new _ _ _ _ _ _) (by intro u hu; simp at hu; rcases hu with rfl | rfl | rfl | rfl <;> rfl) (by unfold maxLen; omega) (by omega) (by have := HS2.out.bl.size; simp; omega) ?_)
        intro v3 w3 ho hg _
        have HS3 := Lib.hid ((HS2.out.below ((Below.refl _ _).alloc (Nat.le_refl _) _)).push ho hg)
        clear ho hg
        obtain ⟨a3, c3, rfl⟩ := HS3.out.slice
        go_wp2_with fail
        go_roundw
        case rel => exact ⟨m + 1, l ++ [r], a3, c3, by go_num, rfl, by omega, by simp; omega, HL2, HS3⟩
        case measure => simp [intOf]; omega
      have bs : (u.toList == r.src.toList) = false := str_ne (fun e => hs e.symm)
      by_cases hd : r.dst = u
      · have bd : (u.toList == r.dst.toList) = true := str_eq hd.symm
        have HL2 : Hid (l ++ [turnU r] = hopsU (rs.take (m + 1)) u) := Lib.hid (by rw [HT.out, ← HL.out, of_dst hs hd]; rfl)
        clear hs hd
        go_wp2_with fail
        refine (impl_turned r _).mono ?_
        rintro e w3 ⟨rfl, hb⟩
        simp only [urV, turnU]
        have HS3 := Lib.hid (HS2.out.below hb)
        clear hb HS2 g0 g1 g2 g3 HG1
        go_wp2_with (at_builtin; refine wpList_append_own _ rfl _ _ 24 rfl w.heap.size 79 i0 (.agg #[.string ByteArray.empty, .string ByteArray.empty, .int .i64 0, .int .i64 0]) 4 48 Try.underlying24 hi hz0 hz1 hz2 rfl (by decide) _ l.length (cellsU l) rfl (HS3.out.row.alloc _) ⟨w3.heap.size, 0, none⟩ 1 1 [.string r.dst, .string r.src, .int .i64 r.den, .int .i64 r.num] rfl rfl (four_new _ _ _ _ _ _) (by intro u hu; simp at hu; rcases hu with rfl | rfl | rfl | rfl <;> rfl) (by unfold maxLen; omega) (by omega) (by have := HS3.out.bl.size; simp; omega) ?_)
        intro v3 w4 ho hg _
        have HS4 := Lib.hid ((HS3.out.below ((Below.refl _ _).alloc (Nat.le_refl _) _)).push (r := turnU r) ho hg)
        clear ho hg
        obtain ⟨a3, c3, rfl⟩ := HS4.out.slice
        go_wp2_with fail
        go_roundw
        case rel => exact ⟨m + 1, l ++ [turnU r], a3, c3, by go_num, rfl, by omega, by simp; omega, HL2, HS4⟩
        case measure => simp [intOf]; omega
      · have bd : (u.toList == r.dst.toList) = false := str_ne (fun e => hd e.symm)
        have HL2 : Hid (l = hopsU (rs.take (m + 1)) u) := Lib.hid (by rw [HT.out, ← HL.out, of_no hs hd]; simp)
        clear hs hd
        go_wp2_with fail
        go_roundw
        case rel => exact ⟨m + 1, l, a, c, by go_num, rfl, by omega, by omega, HL2, HS2⟩
        case measure => simp [intOf]; omega
    · have HE : Hid (l = hopsU rs u) := Lib.hid (by rw [HL.out, hops_all (Nat.le_of_not_lt hlt)])
      go_wp2_with fail
      go_ret
      exact ⟨a, c, by rw [← HE.out]; rfl, by rw [← HE.out]; exact HS.out⟩
end Go.Proofs.Ytaomjggamamckaa
