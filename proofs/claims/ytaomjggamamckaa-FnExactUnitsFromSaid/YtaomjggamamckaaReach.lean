/-
  The model's l5Reach: the units that are reached from one, and their factors.
-/
import Derived.Test.YtaomjggamamckaaRows
import Derived.Test.YtaomjggamamckaaRules
import Derived.Test.YtaomjggamamckaaReachLib
import Derived.Test.YtaomjggamamckaaFind
import Derived.Test.YtaomjggamamckaaRatM
import Derived.Test.YtaomjggamamckaaAppendSepN
import Derived.Test.YtaomjggamamckaaHold
import Derived.WalkKit
import Derived.WalkSpells
import Derived.WalkSmall
import Derived.BigQuiet
import Derived.StillTailTactics
import Derived.Deep.QuietTactic
import Derived.Deep.DeepCutAuto
import Derived.Lib.Hide
namespace Go.Proofs.Ytaomjggamamckaa
open Go.RowKit

theorem infoStr : (Try.prog.info? 9).map (fun i => (i.zero, i.size, i.bytes)) = some (some (.string ByteArray.empty), 1, 16) := by kernel_rfl
theorem infoRat : (Try.prog.info? 28).map (fun i => (i.zero, i.size, i.bytes)) = some (some (.agg #[.int .i64 0, .int .i64 0]), 2, 16) := by kernel_rfl

/-- What l5Reach answers. -/
def ReachRes (ps : List UF) (w : World) (e : Ending) (w' : World) : Prop := ∃ v1 v2, e = .returned (.tuple #[v1, v2]) ∧ Strs w' v1 (namesOf ps) ∧ Excs w' v2 (facsOf ps) ∧ Below w.heap.size w w'

/-- The two slices at a point of the walk. -/
def RowsU (w : World) (ps : List UF) (ga gb ca cb : Nat) (W : World) : Prop :=
  W.ownsRow w.heap.size 9 1 (.slice (some ⟨ga, 0, none⟩) ps.length ca) ps.length (cellsN (namesOf ps)) ∧ W.ownsRow w.heap.size 28 2 (.slice (some ⟨gb, 0, none⟩) ps.length cb) ps.length (cellsP (facsOf ps)) ∧ ga ≠ gb ∧ Below w.heap.size w W
theorem RowsU.below {w W W' : World} {ps : List UF} {ga gb ca cb : Nat} (h : RowsU w ps ga gb ca cb W) (hb : Below W.heap.size W W') : RowsU w ps ga gb ca cb W' :=
  ⟨kept_any h.1 hb, kept_any h.2.1 hb, h.2.2.1, h.2.2.2.trans (hb.mono h.2.2.2.size)⟩
theorem RowsU.name {w W : World} {ps : List UF} {ga gb ca cb : Nat} (h : RowsU w ps ga gb ca cb W) {k : Nat} {x : UF} (hx : ps[k]? = some x) : W.cell? ⟨ga, k, none⟩ = some (.string x.1) := by
  have hk := (List.getElem?_eq_some_iff.1 hx).1
  have hk2 : k < (namesOf ps).length := by rw [namesOf_length]; exact hk
  rw [h.1.cellAt k (by omega), cellsN_at hk2]
  have : (namesOf ps)[k]'hk2 = x.1 := by
    have e := (List.getElem?_eq_some_iff.1 hx).2
    simp only [namesOf, List.getElem_map, e]
  rw [this]
theorem RowsU.fac {w W : World} {ps : List UF} {ga gb ca cb : Nat} (h : RowsU w ps ga gb ca cb W) {k : Nat} {x : UF} (hx : ps[k]? = some x) : W.cell? ⟨gb, k * 2, none⟩ = some (.int .i64 x.2.1) ∧ W.cell? ⟨gb, k * 2 + 1, none⟩ = some (.int .i64 x.2.2) := by
  have hk := (List.getElem?_eq_some_iff.1 hx).1
  have hk2 : k < (facsOf ps).length := by rw [facsOf_length]; exact hk
  rw [h.2.1.cellAt (k * 2) (by omega), h.2.1.cellAt (k * 2 + 1) (by omega)]
  have e2 : (facsOf ps)[k]'hk2 = x.2 := by
    have e := (List.getElem?_eq_some_iff.1 hx).2
    simp only [facsOf, List.getElem_map, e]
  have := cellsP_at hk2
  rw [e2] at this
  exact this

theorem str_back {x y : ByteArray} (h : (x.toList == y.toList) = true) : x = y := by
  by_cases e : x = y
  · exact e
  · rw [str_ne e] at h; exact Bool.noConfusion h
theorem str_apart {x y : ByteArray} (h : (x.toList == y.toList) = false) : ¬x = y := fun e => by rw [str_eq e] at h; exact Bool.noConfusion h
theorem text_nil {x : ByteArray} : x.toList = [] ↔ x = ByteArray.empty := by
  constructor
  · intro e
    rw [ByteArray.toList_eq] at e
    cases x with
    | mk a =>
      have : a = #[] := by simpa using e
      rw [this]; rfl
  · intro e; rw [e, ByteArray.toList_eq]; rfl
/-- Two cells of a block are stored. -/
theorem blk_set2 {w : World} {g : Nat} {a b x y : Value} {t : TypeId} (h : w.heap[g]? = some (.cells #[a, b] t (0, 0))) : ((w.setCell ⟨g, 0, none⟩ x).setCell ⟨g, 1, none⟩ y).heap[g]? = some (.cells #[x, y] t (0, 0)) :=
  heap_setCell_same _ g 1 _ t y (heap_setCell_same w g 0 _ t x h)
theorem hop_src {r : UR} {x : UF} (h : r.src = x.1) : hopV r x = (r.dst, rat.mulR x.2.1 x.2.2 r.num r.den) := if_pos h
theorem hop_dst {r : UR} {x : UF} (h : ¬r.src = x.1) (h2 : r.dst = x.1) : hopV r x = (r.src, rat.divR x.2.1 x.2.2 r.num r.den) := by unfold hopV; rw [if_neg h, if_pos h2]
theorem hop_no {r : UR} {x : UF} (h : ¬r.src = x.1) (h2 : ¬r.dst = x.1) : hopV r x = (ByteArray.empty, 0, 0) := by unfold hopV; rw [if_neg h, if_neg h2]

set_option maxRecDepth 100000 in
set_option maxHeartbeats 4000000 in
theorem spec_reach (v : Value) (rs : List UR) (s : ByteArray) (w : World) (h : Rules w v rs) (hm : rs.length ≤ 12) :
    Calls Try.prog 40 #[v, .string s] w (ReachRes (reachU rs s) w) := by
  obtain ⟨i0, hi, hz0, hz1, hz2⟩ := info_parts infoStr
  obtain ⟨j0, hj, hj0, hj1, hj2⟩ := info_parts infoRat
  have HX := Lib.hid h
  obtain ⟨a', c', rfl⟩ := h.slice
  clear h
  have HR0 : Hid (RowsU w [(s, 1, 1)] w.heap.size (w.heap.size + 1) 1 1 ((w.alloc (.cells #[.string s] 9)).alloc (.cells #[.int .i64 1, .int .i64 1] 28))) := Lib.hid (by
    refine ⟨(World.ownsRow_lit w #[.string s] 1 (Nat.le_refl _) (by unfold maxLen; omega) rfl).alloc _, ?_, by omega, ((Below.refl _ w).alloc (Nat.le_refl _) _).alloc (by simp) _⟩
    have h2 := own_down (World.ownsRow_lit (w.alloc (.cells #[.string s] 9)) #[.int .i64 1, .int .i64 1] 1 (Nat.le_refl _) (by unfold maxLen; omega) rfl (e := 28) (size := 2)) (base' := w.heap.size) (by simp)
    rw [show (w.alloc (.cells #[.string s] 9)).heap.size = w.heap.size + 1 from by simp] at h2
    exact h2)
  go_enter Try.func40, Try.ntmps40
  go_wp2_with fail
  go_loopw [6, 7, 8] (fun x y i wr => ∃ (k : Nat) (ps : List UF) (ga gb ca cb : Nat), i = .int .i64 k ∧ x = .slice (some ⟨ga, 0, none⟩) ps.length ca ∧ y = .slice (some ⟨gb, 0, none⟩) ps.length cb ∧ k ≤ ps.length ∧ ps.length ≤ 25 ∧ Hid (RowsU w ps ga gb ca cb wr) ∧ Hid (reachF rs (2 * rs.length + 2 - k) k ps = reachU rs s) ∧ Hid (ps.length + roomU rs ps ≤ 1 + 2 * rs.length)) (fun _ _ i _ => (26 - (intOf i).toNat))
  case atStart => exact ⟨0, [(s, 1, 1)], _, _, _, _, rfl, rfl, rfl, Nat.zero_le _, by simp, HR0, Lib.hid rfl, Lib.hid (by have := roomU_le rs [(s, 1, 1)]; simp; omega)⟩
  case round =>
    obtain ⟨k, ps, ga, gb, ca, cb, rfl, rfl, rfl, hk, hp25, HR, HF, HM⟩ := hrel
    clear HR0
    by_cases hlt : k < ps.length
    · have HFX : Hid (reachF rs (2 * rs.length + 2 - (k + 1)) (k + 1) (innerU rs (ps[k]'hlt) ps) = reachU rs s) := Lib.hid (by
        have h1 := HF.out
        have h2 := HM.out
        rw [show 2 * rs.length + 2 - k = (2 * rs.length + 2 - (k + 1)) + 1 by omega, reachF_on hlt] at h1
        exact h1)
      have HPK : Hid (ps[k]? = some (ps[k]'hlt)) := Lib.hid (List.getElem?_eq_getElem hlt)
      generalize hx0 : ps[k]'hlt = x0 at *
      clear hx0 HF
      go_wp2_with fail
      go_loopw [6, 7, 9] (fun x y i wr2 => ∃ (m : Nat) (qs : List UF) (ga gb ca cb : Nat), i = .int .i64 m ∧ x = .slice (some ⟨ga, 0, none⟩) qs.length ca ∧ y = .slice (some ⟨gb, 0, none⟩) qs.length cb ∧ m ≤ rs.length ∧ qs.length ≤ 25 ∧ k < qs.length ∧ Hid (RowsU w qs ga gb ca cb wr2) ∧ Hid (qs = innerU (rs.take m) x0 ps) ∧ Hid (qs[k]? = some x0) ∧ Hid (qs.length + roomU rs qs ≤ 1 + 2 * rs.length)) (fun _ _ i _ => (rs.length - (intOf i).toNat))
      case atStart => exact ⟨0, ps, ga, gb, ca, cb, rfl, rfl, rfl, Nat.zero_le _, hp25, hlt, HR, Lib.hid rfl, HPK, HM⟩
      case round =>
        clear HR HM HPK
        obtain ⟨m, qs, ga, gb, ca, cb, rfl, rfl, rfl, hmr, hq25, hkq, HR, HQ, HPK, HM⟩ := hrel
        by_cases hlm : m < rs.length
        · obtain ⟨b2, o2, c2, hv2, hc2, hcell2⟩ := HX.out.some (by omega)
          simp only [Value.slice.injEq] at hv2
          obtain ⟨rfl, _, rfl⟩ := hv2
          have hle := HR.out.2.2.2.size
          obtain ⟨r0, r1, r2, r3⟩ := (hcell2.below HR.out.2.2.2).at m hlm
          have hb2 : b2 < wr.heap.size := Nat.lt_of_lt_of_le hcell2.1 hle
          have HIN := Lib.hid (innerU_take (x := x0) (ps := ps) hlm)
          have HME : Hid ((hopV (rs[m]'hlm) x0).1 ≠ ByteArray.empty → (hopV (rs[m]'hlm) x0).1 ∈ endsU rs) := Lib.hid (hop_mem (List.getElem_mem hlm))
          have n0 := HR.out.name HPK.out
          have f0 := (HR.out.fac HPK.out).1
          have f1 := (HR.out.fac HPK.out).2
          have hgb := block_lt_of_cell f0
          have hga := block_lt_of_cell n0
          generalize rs[m]'hlm = r at *
          clear hcell2 hc2
          have HG := heap_alloc_new wr (.cells #[.int .i64 0, .int .i64 0] 28)
          have HBG : Below wr.heap.size wr (wr.alloc (.cells #[.int .i64 0, .int .i64 0] 28)) := (Below.refl _ _).alloc (Nat.le_refl _) _
          obtain ⟨bs, hbs⟩ : ∃ bs : Bool, (r.src.toList == x0.1.toList) = bs := ⟨_, rfl⟩
          obtain ⟨bd, hbd⟩ : ∃ bd : Bool, (r.dst.toList == x0.1.toList) = bd := ⟨_, rfl⟩
          have HBS := Lib.hid hbs
          have HBD := Lib.hid hbd
          have g0 := (HBG.cell (p := ⟨b2, o2 + m * 4, none⟩) hb2).trans r0
          have gn := (HBG.cell (p := ⟨ga, k, none⟩) hga).trans n0
          go_upto_region 11 with fail
          generalize wr.alloc (.cells #[.int .i64 0, .int .i64 0] 28) = wg at *
          go_cut [38] (fun t wx => t = .bool bs ∧ Hid (Below wg.heap.size wg wx))
          case first =>
            go_quiet (fail)
            go_wp2_with fail
            go_meet
            exact ⟨rfl, Lib.hid (below_drewN (Below.refl _ _) _)⟩
          obtain ⟨rfl, HWC⟩ := hcut
          have HG := blk_below HG HWC.out
          have HBG := HBG.trans (HWC.out.mono HBG.size)
          clear HWC g0 gn
          generalize wc = wg2 at *
          have g0 := (HBG.cell (p := ⟨b2, o2 + m * 4, none⟩) hb2).trans r0
          have g1 := (HBG.cell (p := ⟨b2, o2 + m * 4 + 1, none⟩) hb2).trans r1
          have g2 := (HBG.cell (p := ⟨b2, o2 + m * 4 + 2, none⟩) hb2).trans r2
          have g3 := (HBG.cell (p := ⟨b2, o2 + m * 4 + 3, none⟩) hb2).trans r3
          have gn := (HBG.cell (p := ⟨ga, k, none⟩) hga).trans n0
          have gf0 := (HBG.cell (p := ⟨gb, k * 2, none⟩) hgb).trans f0
          have gf1 := (HBG.cell (p := ⟨gb, k * 2 + 1, none⟩) hgb).trans f1
          clear r0 r1 r2 r3 n0 f0 f1
          go_upto_if 38 with fail
          go_cut [10] (fun t wx => ∃ (tt : ByteArray) (n d : Int), t = .string tt ∧ Hid (hopV r x0 = (tt, n, d)) ∧ Hid (wx.heap[wr.heap.size]? = some (.cells #[.int .i64 n, .int .i64 d] 28 (0, 0))) ∧ Hid (Below wr.heap.size wr wx))
          case first =>
            cases bs with
            | true =>
              have hse := str_back HBS.out
              have HSE := Lib.hid hse
              clear hse hbs hbd
              go_wp2_with fail
              go_still_tail 9, (by kernel_rfl)
              go_wp2_with fail
              refine (rat.spec_mul _ _ _ _ _).mono ?_
              rintro e w3 ⟨x, y, rfl, HXY, hb3⟩
              have HB3 : Hid (Below wr.heap.size wr w3) := Lib.hid ((HBG.trans ((show Below wg2.heap.size wg2 wg2.drew from (Below.refl _ _).drew).mono HBG.size)).trans (hb3.mono HBG.size))
              have HG3 : w3.heap[wr.heap.size]? = some (.cells #[.int .i64 0, .int .i64 0] 28 (0, 0)) := blk_below (w := wg2.drew) HG hb3
              have q0 := cell_of_row _ _ 0 _ _ _ HG3
              have q1 := cell_of_row _ _ 1 _ _ _ HG3
              have qf0 := frozen_of_row _ _ 0 _ _ HG3
              have qf1 := frozen_of_row _ _ 1 _ _ HG3
              clear hb3
              go_wp2_with fail
              go_meet
              exact ⟨_, x, y, rfl, Lib.hid (by rw [hop_src HSE.out, HXY.out]), Lib.hid (blk_set2 HG3), Lib.hid ((HB3.out.setCell (Nat.le_refl _) _).setCell (Nat.le_refl _) _)⟩
            | false =>
              have HSE := Lib.hid (str_apart HBS.out)
              clear hbs
              go_upto_region 14 with fail
              go_cut [63] (fun t wx => t = .bool bd ∧ Hid (Below wg2.heap.size wg2 wx))
              case first =>
                go_quiet (fail)
                go_wp2_with fail
                go_meet
                exact ⟨rfl, Lib.hid (below_drewN (Below.refl _ _) _)⟩
              obtain ⟨rfl, HWC⟩ := hcut
              have HG := blk_below HG HWC.out
              have HBG := HBG.trans (HWC.out.mono HBG.size)
              have g0 := hold_c g0 HWC.out
              have g1 := hold_c g1 HWC.out
              have g2 := hold_c g2 HWC.out
              have g3 := hold_c g3 HWC.out
              have gf0 := hold_c gf0 HWC.out
              have gf1 := hold_c gf1 HWC.out
              clear HWC gn
              generalize wc = wg3 at *
              cases bd with
              | true =>
                have HDE := Lib.hid (str_back HBD.out)
                clear hbd
                go_wp2_with fail
                go_still_tail 9, (by kernel_rfl)
                go_wp2_with fail
                refine (rat.spec_div _ _ _ _ _).mono ?_
                rintro e w3 ⟨x, y, rfl, HXY, hb3⟩
                have HB3 : Hid (Below wr.heap.size wr w3) := Lib.hid ((HBG.trans ((show Below wg3.heap.size wg3 wg3.drew from (Below.refl _ _).drew).mono HBG.size)).trans (hb3.mono HBG.size))
                have HG3 : w3.heap[wr.heap.size]? = some (.cells #[.int .i64 0, .int .i64 0] 28 (0, 0)) := blk_below (w := wg3.drew) HG hb3
                have q0 := cell_of_row _ _ 0 _ _ _ HG3
                have q1 := cell_of_row _ _ 1 _ _ _ HG3
                have qf0 := frozen_of_row _ _ 0 _ _ HG3
                have qf1 := frozen_of_row _ _ 1 _ _ HG3
                clear hb3
                go_wp2_with fail
                go_meet
                exact ⟨_, x, y, rfl, Lib.hid (by rw [hop_dst HSE.out HDE.out, HXY.out]), Lib.hid (blk_set2 HG3), Lib.hid ((HB3.out.setCell (Nat.le_refl _) _).setCell (Nat.le_refl _) _)⟩
              | false =>
                have HDE := Lib.hid (str_apart HBD.out)
                clear hbd
                go_wp2_with fail
                go_meet
                exact ⟨_, 0, 0, rfl, Lib.hid (hop_no HSE.out HDE.out), Lib.hid HG, Lib.hid HBG⟩
          case rest =>
            obtain ⟨tt, n, d, rfl, HH, HGX, HBX⟩ := hcut
            have HRX := Lib.hid (HR.out.below HBX.out)
            have hle3 := HRX.out.2.2.2.size
            have HIN2 : Hid (innerU (rs.take (m + 1)) x0 ps = addU qs (tt, n, d)) := Lib.hid (by rw [HIN.out, ← HQ.out, HH.out])
            have HME2 : Hid (tt ≠ ByteArray.empty → tt ∈ endsU rs) := Lib.hid (by have := HME.out; rw [HH.out] at this; exact this)
            have HPX : Hid ((addU qs (tt, n, d))[k]? = some x0) := Lib.hid (by
              obtain ⟨l, hl⟩ := addU_prefix qs (tt, n, d)
              rw [← hl, List.getElem?_append_left hkq]
              exact HPK.out)
            have HMX : Hid ((addU qs (tt, n, d)).length + roomU rs (addU qs (tt, n, d)) ≤ 1 + 2 * rs.length) := Lib.hid (Nat.le_trans (addU_room (h := (tt, n, d)) HME2.out) HM.out)
            have q0 := cell_of_row _ _ 0 _ _ _ HGX.out
            have q1 := cell_of_row _ _ 1 _ _ _ HGX.out
            clear HR HIN HME HH HBS HBD hbs hbd g0 g1 g2 g3 gn gf0 gf1 HG HBG
            by_cases ht : tt = ByteArray.empty
            · have HQ2 : Hid (addU qs (tt, n, d) = qs) := Lib.hid (addU_no (fun hh => hh.1 ht))
              have t0 : tt.toList = [] := text_nil.2 ht
              clear ht
              go_wp2_with fail
              go_roundw
              case rel => exact ⟨m + 1, qs, ga, gb, ca, cb, by go_num, rfl, rfl, by omega, hq25, hkq, HRX, Lib.hid (by rw [HIN2.out, HQ2.out]), HPK, HM⟩
              case measure => simp [intOf]; omega
            · have t0 : ¬tt.toList = [] := fun e => ht (text_nil.1 e)
              have HT := Lib.hid ht
              clear ht
              by_cases hd : 0 < d
              · have HD := Lib.hid hd
                go_wp2_with fail
                refine (spec_find _ (namesOf qs) tt _ (by have := strs_of_row (by rw [namesOf_length]) HRX.out.1; exact this) (by rw [namesOf_length]; omega)).mono ?_
                rintro e w4 ⟨rfl, hb4⟩
                have HR4 := Lib.hid (HRX.out.below hb4)
                have HG4 := blk_below HGX.out hb4
                clear q0 q1
                have q0 := cell_of_row _ _ 0 _ _ _ HG4
                have q1 := cell_of_row _ _ 1 _ _ _ HG4
                have hle4 := hb4.size
                by_cases hf : fndI (namesOf qs) tt < 0
                · have HAD : Hid (addU qs (tt, n, d) = qs ++ [(tt, n, d)]) := Lib.hid (addU_yes HT.out HD.out (fnd_neg.1 hf))
                  clear hb4
                  generalize fndI (namesOf qs) tt = z at *
                  have t1 : tt.toList.isEmpty = false := by rw [List.isEmpty_eq_false_iff]; exact t0
                  have bf : decide (z < 0) = true := decide_eq_true hf
                  clear hf
                  have hle5 := HBX.out.size
                  have hga4 : ga < w4.heap.size := by omega
                  have hgb4 : gb < w4.heap.size := by omega
                  have hgg := HR4.out.2.2.1
                  have hG4 : wr.heap.size < w4.heap.size := lt_of_heap HG4
                  go_wp2_with (at_builtin; refine wpList_append_s rfl _ _ 33 rfl w.heap.size 9 i0 (.string ByteArray.empty) Try.underlying33 hi hz0 hz1 hz2 rfl ga qs.length ca (cellsN (namesOf qs)) rfl (HR4.out.1.alloc _) ⟨w4.heap.size, 0, none⟩ 1 (.string tt) rfl ?c1 rfl (by omega) ?c5 ?_)
                  case c1 => simp [Addr.add]
                  case c5 => have := HR4.out.2.2.2.size; simp; omega
                  intro g1 c1 w5 hown hgrow hsep
                  have HN5 := Lib.hid hown
                  have HB5 := Lib.hid ((HR4.out.2.2.2.alloc HR4.out.2.2.2.size (.cells #[.string tt] 9)).grown hgrow (by have := HR4.out.2.2.2.size; simp; omega) (fun j hj => by cases hj; exact (HR4.out.1.lt ga rfl).1))
                  have HP5 := Lib.hid ((HR4.out.2.1.alloc (.cells #[.string tt] 9)).kept hgrow (Or.inr (by simp [Value.ownBlock]; omega)))
                  have hg15 : g1 ≠ gb := by
                    rcases hsep with e | e
                    · omega
                    · first | omega | (simp at e; omega)
                  have HG5 : w5.heap[wr.heap.size]? = some (.cells #[.int .i64 n, .int .i64 d] 28 (0, 0)) := (hgrow.block _ (by simp; omega) (by simp; omega)).trans (blk_alloc HG4 _)
                  have hsz5 : w4.heap.size + 1 ≤ w5.heap.size := by have := hgrow.size; simpa using this
                  clear hown hgrow hsep q0 q1
                  have q0 := cell_of_row _ _ 0 _ _ _ HG5
                  have q1 := cell_of_row _ _ 1 _ _ _ HG5
                  go_wp2_with (at_builtin; refine wpList_append_p rfl _ _ 61 rfl w.heap.size 28 j0 (.agg #[.int .i64 0, .int .i64 0]) Try.underlying61 hj hj0 hj1 hj2 rfl gb qs.length cb (cellsP (facsOf qs)) rfl (HP5.out.alloc _) ⟨w5.heap.size, 0, none⟩ 1 (.int .i64 n) (.int .i64 d) rfl ?d1 ?d2 rfl rfl (by omega) ?d5 ?_)
                  case d1 => simp [Addr.add]
                  case d2 => simp [Addr.add]
                  case d5 => have := HB5.out.size; simp; omega
                  intro g2 c2 w6 hown hgrow hsep
                  have hg1b := (HN5.out.lt g1 rfl).2
                  have HB6 := Lib.hid ((HB5.out.alloc HB5.out.size (.cells #[.int .i64 n, .int .i64 d] 28)).grown hgrow (by have := HB5.out.size; simp; omega) (fun j hj => by cases hj; exact (HP5.out.lt gb rfl).1))
                  have HN6 := Lib.hid ((HN5.out.alloc (.cells #[.int .i64 n, .int .i64 d] 28)).kept hgrow (Or.inr (by simp [Value.ownBlock]; omega)))
                  have hg16 : g1 ≠ g2 := by
                    rcases hsep with e | e
                    · omega
                    · first | omega | (simp at e; omega)
                  have HP6 := Lib.hid hown
                  have HLN : (qs ++ [(tt, n, d)]).length = qs.length + 1 := by rw [List.length_append]; rfl
                  have HR6 : Hid (RowsU w (qs ++ [(tt, n, d)]) g1 g2 c1 c2 w6) := Lib.hid ⟨by rw [HLN, namesOf_snoc, cellsN_snoc]; exact HN6.out, by rw [HLN, facsOf_snoc, cellsP_snoc]; exact HP6.out, hg16, HB6.out⟩
                  clear hown hgrow hsep HN5 HP5 HN6 HP6 HB5 HB6 HR4 HRX
                  go_wp2_with fail
                  go_roundw
                  case rel => exact ⟨m + 1, qs ++ [(tt, n, d)], g1, g2, c1, c2, by go_num, by rw [HLN], by rw [HLN], by omega, by have h1 := HMX.out; rw [HAD.out] at h1; omega, by omega, HR6, Lib.hid (by rw [HIN2.out, HAD.out]), Lib.hid (by have h1 := HPX.out; rwa [HAD.out] at h1), Lib.hid (by have h1 := HMX.out; rwa [HAD.out] at h1)⟩
                  case measure => simp [intOf]; omega
                · have HQ2 : Hid (addU qs (tt, n, d) = qs) := Lib.hid (addU_no (fun hh => hf (fnd_neg.2 hh.2.2)))
                  clear hb4
                  generalize fndI (namesOf qs) tt = z at *
                  go_wp2_with fail
                  go_roundw
                  case rel => exact ⟨m + 1, qs, ga, gb, ca, cb, by go_num, rfl, rfl, by omega, hq25, hkq, HR4, Lib.hid (by rw [HIN2.out, HQ2.out]), HPK, HM⟩
                  case measure => simp [intOf]; omega
              · have HQ2 : Hid (addU qs (tt, n, d) = qs) := Lib.hid (addU_no (fun hh => hd hh.2.1))
                go_wp2_with fail
                go_roundw
                case rel => exact ⟨m + 1, qs, ga, gb, ca, cb, by go_num, rfl, rfl, by omega, hq25, hkq, HRX, Lib.hid (by rw [HIN2.out, HQ2.out]), HPK, HM⟩
                case measure => simp [intOf]; omega
        · have HQE : Hid (qs = innerU rs x0 ps) := Lib.hid (by rw [HQ.out, innerU_all (Nat.le_of_not_lt hlm)])
          go_wp2_with fail
          go_roundw
          case rel => exact ⟨k + 1, qs, ga, gb, ca, cb, by go_num, rfl, rfl, by omega, hq25, HR, Lib.hid (by rw [HQE.out]; exact HFX.out), HM⟩
          case measure => simp [intOf]; omega
    · have HFE : Hid (ps = reachU rs s) := Lib.hid (by rw [← HF.out, reachF_off hlt])
      go_wp2_with fail
      go_ret2
      exact ⟨_, _, rfl, by rw [← HFE.out]; exact strs_of_row (by rw [namesOf_length]) HR.out.1, by rw [← HFE.out]; exact pairs_of_row (by rw [facsOf_length]) HR.out.2.1, HR.out.2.2.2⟩
end Go.Proofs.Ytaomjggamamckaa
