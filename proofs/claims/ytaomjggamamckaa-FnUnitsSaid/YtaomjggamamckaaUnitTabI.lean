/-
  The program's functions on units answer as the model.
-/
import Derived.Test.YtaomjggamamckaaUnitFromI
import Derived.Test.YtaomjggamamckaaUnitRuleI
import Derived.Test.YtaomjggamamckaaUnitEx
import Derived.Test.YtaomjggamamckaaUnitClosed
import Derived.Test.YtaomjggamamckaaResKit
import Derived.WalkKit
import Derived.WalkSpells
import Derived.WalkSmall
import Derived.BigQuiet
import Derived.Deep.DeepCutAuto
import Derived.Deep.QuietTactic
import Derived.Lib.Hide
namespace Go.Proofs.Ytaomjggamamckaa
open Go.RowKit

/-- The first starts have labellings. -/
def StartsTo (rs : List UR) (k : Nat) : Prop := ∀ i, i < k → ∃ F, F (startU rs i) = some (1, 1) ∧ Closed rs F
theorem StartsTo.next {rs : List UR} {k : Nat} (h : StartsTo rs k) {s : ByteArray} (hs : startU rs k = s) (hc : Closed rs (lookU (reachU rs s))) : StartsTo rs (k + 1) := fun i hi => by
  rcases Nat.lt_or_ge i k with h1 | h1
  · exact h i h1
  · obtain rfl : i = k := by omega
    exact ⟨_, by rw [hs]; exact look_self rs s, hc⟩

set_option maxRecDepth 100000 in
set_option maxHeartbeats 2000000 in
theorem impl_ways (v : Value) (rs : List UR) (w : World) (h : Rules w v rs) (hm : rs.length ≤ 12) (hr : ∀ r, r ∈ rs → ruleOk r = true) (hsz : ∀ r, r ∈ rs → r.src.size ≤ maxLen ∧ r.dst.size ≤ maxLen) :
    Calls Try.prog 53 #[v] w (BRes (tabB rs) w) := by
  have HX := Lib.hid h
  have HRS := Lib.hid hr
  have HSZ := Lib.hid hsz
  obtain ⟨a', c', rfl⟩ := h.slice
  clear h hr hsz
  go_enter Try.func53, Try.ntmps53
  go_wp2_with fail
  go_loopw [12] (fun i wr => ∃ (m : Nat), i = .int .i64 m ∧ m ≤ rs.length ∧ Hid (Below w.heap.size w wr) ∧ Hid (StartsTo rs (2 * m))) (fun i _ => (rs.length - (intOf i).toNat))
  case atStart => exact ⟨0, rfl, Nat.zero_le _, Lib.hid (Below.refl _ _), Lib.hid (fun i hi => by omega)⟩
  case round =>
    obtain ⟨m, rfl, hmr, HB, HS⟩ := hrel
    by_cases hlt : m < rs.length
    · have HE0 : Hid (startU rs (2 * m) = (rs[m]'hlt).src) := Lib.hid (by rw [start_even (by omega) (by omega)]; congr 2; omega)
      have HE1 : Hid (startU rs (2 * m + 1) = (rs[m]'hlt).dst) := Lib.hid (by rw [start_odd (by omega) (by omega)]; congr 2; omega)
      have HZ : Hid ((rs[m]'hlt).src.size ≤ maxLen ∧ (rs[m]'hlt).dst.size ≤ maxLen) := Lib.hid (HSZ.out _ (List.getElem_mem hlt))
      obtain ⟨b2, o2, c2, hv2, hc2, hcell2⟩ := HX.out.some (by omega)
      simp only [Value.slice.injEq] at hv2
      obtain ⟨rfl, _, rfl⟩ := hv2
      obtain ⟨r0, r1, r2, r3⟩ := (hcell2.below HB.out).at m hlt
      generalize rs[m]'hlt = r at *
      clear hcell2 hc2
      go_upto_region 4 with fail
      have HG1 := heap_alloc_new wr (.cells #[.string r.src, .string r.dst, .int .i64 r.num, .int .i64 r.den] 79)
      have HB2 := HB.out.alloc HB.out.size (.cells #[.string r.src, .string r.dst, .int .i64 r.num, .int .i64 r.den] 79)
      generalize wr.alloc (.cells #[.string r.src, .string r.dst, .int .i64 r.num, .int .i64 r.den] 79) = w2 at *
      have g0 := cell_of_row _ _ 0 _ _ _ HG1
      have g1 := cell_of_row _ _ 1 _ _ _ HG1
      clear r0 r1 r2 r3
      go_wp2_with fail
      have HG3 := heap_alloc_new w2 (.cells #[.string r.src, .string r.dst] 9)
      have HB3 := HB2.alloc HB2.size (.cells #[.string r.src, .string r.dst] 9)
      generalize w2.alloc (.cells #[.string r.src, .string r.dst] 9) = w3 at *
      clear g0 g1 HG1 HB2 HB
      go_loopw [22] (fun i wr => ∃ (j : Nat), i = .int .i64 j ∧ j ≤ 2 ∧ Hid (Below w.heap.size w wr) ∧ Hid (wr.heap[w2.heap.size]? = some (.cells #[.string r.src, .string r.dst] 9 (0, 0))) ∧ Hid (StartsTo rs (2 * m + j))) (fun i _ => (2 - (intOf i).toNat))
      case atStart => exact ⟨0, rfl, by omega, Lib.hid HB3, Lib.hid HG3, HS⟩
      case round =>
        clear HG3 HB3 HS
        obtain ⟨j, rfl, hj2, HB, HG, HS⟩ := hrel
        have q0 := cell_of_row _ _ 0 _ _ _ HG.out
        have q1 := cell_of_row _ _ 1 _ _ _ HG.out
        rcases (show j = 0 ∨ j = 1 ∨ j = 2 by omega) with rfl | rfl | rfl
        · go_wp2_with fail
          refine (impl_from _ rs r.src _ (HX.out.below HB.out) hm HRS.out HZ.out.1 HSZ.out).mono ?_
          rintro e w4 (⟨va, vm, rfl, hnt, hb⟩ | ⟨ga, ca, rfl, hcl, hf⟩)
          · have HNT := Lib.hid hnt
            have HB4 := HB.out.trans (hb.mono HB.out.size)
            clear hnt hb
            go_wp2_with fail
            go_ret
            exact ⟨by rw [tabB_no HNT.out]; rfl, HB4⟩
          · have HS2 := Lib.hid (HS.out.next HE0.out hcl)
            have HG2 := Lib.hid (blk_below HG.out hf.bl)
            have HB4 := Lib.hid (HB.out.trans (hf.bl.mono HB.out.size))
            clear hcl hf q0 q1 HS HG HB
            go_wp2_with fail
            go_roundw
            case rel => exact ⟨1, rfl, by omega, HB4, HG2, HS2⟩
            case measure => simp [intOf]
        · go_wp2_with fail
          refine (impl_from _ rs r.dst _ (HX.out.below HB.out) hm HRS.out HZ.out.2 HSZ.out).mono ?_
          rintro e w4 (⟨va, vm, rfl, hnt, hb⟩ | ⟨ga, ca, rfl, hcl, hf⟩)
          · have HNT := Lib.hid hnt
            have HB4 := HB.out.trans (hb.mono HB.out.size)
            clear hnt hb
            go_wp2_with fail
            go_ret
            exact ⟨by rw [tabB_no HNT.out]; rfl, HB4⟩
          · have HS2 := Lib.hid (HS.out.next HE1.out hcl)
            have HG2 := Lib.hid (blk_below HG.out hf.bl)
            have HB4 := Lib.hid (HB.out.trans (hf.bl.mono HB.out.size))
            clear hcl hf q0 q1 HS HG HB
            go_wp2_with fail
            go_roundw
            case rel => exact ⟨2, rfl, by omega, HB4, HG2, HS2⟩
            case measure => simp [intOf]
        · go_wp2_with fail
          go_roundw
          case rel => exact ⟨m + 1, by go_num, by omega, HB, HS⟩
          case measure => simp [intOf]; omega
    · have HT : Hid (IsTab rs) := Lib.hid (closed_tab hm HRS.out (fun i hi => HS.out i (by omega)))
      go_wp2_with fail
      go_ret
      exact ⟨by rw [tabB_yes HT.out]; rfl, HB.out⟩

set_option maxRecDepth 100000 in
set_option maxHeartbeats 2000000 in
/-- The program's IsUnitTable. -/
theorem impl_IsUnitTable : ImplIsUnitTable := by
  intro v rs w h
  have H := Lib.hid h
  obtain ⟨a', c', rfl⟩ := h.rules.slice
  clear h
  by_cases hm : rs.length ≤ 12
  rotate_left
  · have HT : Hid (¬IsTab rs) := Lib.hid (fun ht => hm ht.1)
    go_enter Try.func25, Try.ntmps25
    go_wp2_with fail
    go_ret
    exact ⟨by rw [tabB_no HT.out]; rfl, Below.refl _ _⟩
  go_enter Try.func25, Try.ntmps25
  go_wp2_with fail
  go_loopw [10] (fun i wr => ∃ (m : Nat), i = .int .i64 m ∧ m ≤ rs.length ∧ Hid (Below w.heap.size w wr) ∧ Hid (∀ r, r ∈ rs.take m → ruleOk r = true)) (fun i _ => (rs.length - (intOf i).toNat))
  case atStart => exact ⟨0, rfl, Nat.zero_le _, Lib.hid (Below.refl _ _), Lib.hid (fun r hr => by simp at hr)⟩
  case round =>
    obtain ⟨m, rfl, hmr, HB, HR⟩ := hrel
    by_cases hlt : m < rs.length
    · have HZ : Hid ((rs[m]'hlt).src.size ≤ maxLen ∧ (rs[m]'hlt).dst.size ≤ maxLen) := Lib.hid (H.out.sz _ (List.getElem_mem hlt))
      have HM : Hid ((rs[m]'hlt) ∈ rs) := Lib.hid (List.getElem_mem hlt)
      have HTK : Hid (rs.take (m + 1) = rs.take m ++ [rs[m]'hlt]) := Lib.hid (List.take_succ_eq_append_getElem hlt)
      obtain ⟨b2, o2, c2, hv2, hc2, hcell2⟩ := H.out.rules.some (by omega)
      simp only [Value.slice.injEq] at hv2
      obtain ⟨rfl, _, rfl⟩ := hv2
      obtain ⟨r0, r1, r2, r3⟩ := (hcell2.below HB.out).at m hlt
      generalize rs[m]'hlt = r at *
      clear hcell2 hc2
      go_upto_region 6 with fail
      have HG1 := heap_alloc_new wr (.cells #[.string r.src, .string r.dst, .int .i64 r.num, .int .i64 r.den] 79)
      have HB2 := HB.out.alloc HB.out.size (.cells #[.string r.src, .string r.dst, .int .i64 r.num, .int .i64 r.den] 79)
      generalize wr.alloc (.cells #[.string r.src, .string r.dst, .int .i64 r.num, .int .i64 r.den] 79) = w2 at *
      have g0 := cell_of_row _ _ 0 _ _ _ HG1
      have g1 := cell_of_row _ _ 1 _ _ _ HG1
      have g2 := cell_of_row _ _ 2 _ _ _ HG1
      have g3 := cell_of_row _ _ 3 _ _ _ HG1
      clear r0 r1 r2 r3
      go_wp2_with fail
      refine (impl_rule r _ HZ.out.1 HZ.out.2).mono ?_
      rintro e w3 ⟨rfl, hb⟩
      have HB3 := Lib.hid (HB2.trans (hb.mono HB2.size))
      clear hb g0 g1 g2 g3 HG1 HB2
      rcases Bool.eq_false_or_eq_true (ruleOk r) with hk | hk
      · have HR2 : Hid (∀ r, r ∈ rs.take (m + 1) → ruleOk r = true) := Lib.hid (fun q hq => by
          rw [HTK.out] at hq
          rcases List.mem_append.1 hq with hq | hq
          · exact HR.out q hq
          · obtain rfl := List.mem_singleton.1 hq
            exact hk)
        rw [hk]
        clear hk
        go_wp2_with fail
        go_roundw
        case rel => exact ⟨m + 1, by go_num, by omega, HB3, HR2⟩
        case measure => simp [intOf]; omega
      · have HT : Hid (¬IsTab rs) := Lib.hid (fun ht => by have := ht.2.1 r HM.out; rw [hk] at this; cases this)
        rw [hk]
        clear hk
        go_wp2_with fail
        go_ret
        exact ⟨by rw [tabB_no HT.out]; rfl, HB3.out⟩
    · have HA : Hid (∀ r, r ∈ rs → ruleOk r = true) := Lib.hid (by have := HR.out; rwa [List.take_of_length_le (by omega)] at this)
      go_wp2_with fail
      refine (impl_ways _ rs _ (H.out.rules.below HB.out) hm HA.out H.out.sz).mono ?_
      rintro e w3 ⟨rfl, hb⟩
      have HB3 := HB.out.trans (hb.mono HB.out.size)
      clear hb
      go_wp2_with fail
      go_ret
      exact ⟨rfl, HB3⟩

set_option maxRecDepth 100000 in
set_option maxHeartbeats 2000000 in
/-- The program's UnitsFrom. -/
theorem impl_UnitsFrom : ImplUnitsFrom := by
  intro v rs a w h ha
  have H := Lib.hid h
  have SA := Lib.hid ha
  have HT := Lib.hid (impl_IsUnitTable v rs w h)
  obtain ⟨a', c', rfl⟩ := h.rules.slice
  clear h ha
  go_enter Try.func16, Try.ntmps16
  go_wp2_with fail
  refine HT.out.mono ?_
  rintro e w1 ⟨rfl, hb⟩
  have HB1 := Lib.hid hb
  clear hb HT
  rcases Bool.eq_false_or_eq_true (tabB rs) with ht | ht
  rotate_left
  · have HY := Lib.hid (unitsR_no1 (a := a) ht)
    rw [ht]
    clear ht
    go_wp2_with fail
    go_ret
    exact ⟨_, rfl, by rw [HY.out]; exact ⟨rfl, Or.inl ⟨rfl, rfl⟩⟩, HB1.out⟩
  have HTB := Lib.hid ht
  have HTI := Lib.hid (tabB_iff.1 ht)
  rw [ht]
  clear ht
  go_wp2_with fail
  refine (code_calls a _ SA.out).mono ?_
  rintro e w2 ⟨rfl, hb⟩
  have HB2 := Lib.hid (HB1.out.trans (hb.mono HB1.out.size))
  clear hb HB1
  rcases Bool.eq_false_or_eq_true (isCode.codeB a) with hc | hc
  rotate_left
  · have HY := Lib.hid (unitsR_no2 (rs := rs) hc)
    rw [hc]
    clear hc
    go_wp2_with fail
    go_ret
    exact ⟨_, rfl, by rw [HY.out]; exact ⟨rfl, Or.inl ⟨rfl, rfl⟩⟩, HB2.out⟩
  have HY := Lib.hid (unitsR_yes HTB.out hc)
  rw [hc]
  clear hc
  go_wp2_with fail
  refine (impl_from _ rs a _ (H.out.rules.below HB2.out) HTI.out.1 HTI.out.2.1 SA.out H.out.sz).mono ?_
  rintro e w4 (⟨va, vm, rfl, hnt, hb⟩ | ⟨ga, ca, rfl, hcl, hf⟩)
  · exact absurd HTI.out hnt
  have HF := Lib.hid hf
  clear hf hcl
  go_wp2_with fail
  go_ret
  exact ⟨_, rfl, by rw [HY.out, namesOf_length]; exact own_down HF.out.row HB2.out.size, HB2.out.trans (HF.out.bl.mono HB2.out.size)⟩

theorem facR_look {rs : List UR} {a b : ByteArray} (h : tabB rs = true) (h1 : isCode.codeB a = true) : facR rs a b = ((lookU (reachU rs a) b).getD (0, 0), (lookU (reachU rs a) b).isSome) := by
  cases e : lookU (reachU rs a) b with
  | some f =>
    have hr := (tabB_iff.1 h).2.1
    exact facR_true.2 ⟨⟨h, h1, way_code hr h1 (reachU_way rs a _ (look_some e))⟩, e⟩
  | none =>
    rcases facR_cases rs a b with h2 | ⟨f, h2⟩
    · exact h2
    · have := (facR_true.1 h2).2
      rw [e] at this; cases this

set_option maxRecDepth 100000 in
set_option maxHeartbeats 2000000 in
/-- The program's FactorOf. -/
theorem impl_FactorOf : ImplFactorOf := by
  intro v rs a b w h ha hb'
  have HBA : Below w.heap.size w (w.alloc (.cells #[.int .i64 0, .int .i64 0] 28)) := (Below.refl _ _).alloc (Nat.le_refl _) _
  have HRA := heap_alloc_new w (.cells #[.int .i64 0, .int .i64 0] 28)
  have H := Lib.hid (h.below HBA)
  have SA := Lib.hid ha
  have SB := Lib.hid hb'
  obtain ⟨a', c', rfl⟩ := h.rules.slice
  clear h ha hb'
  have HT := Lib.hid (impl_IsUnitTable _ rs _ H.out)
  go_enter Try.func12, Try.ntmps12
  go_wp2_with fail
  generalize w.alloc (.cells #[.int .i64 0, .int .i64 0] 28) = wa at *
  refine HT.out.mono ?_
  rintro e w1 ⟨rfl, hb⟩
  have HR1 := blk_below HRA hb
  have HB1 := Lib.hid (HBA.trans (hb.mono HBA.size))
  have H1 := Lib.hid (H.out.below hb)
  clear hb HT HRA HBA H
  rcases Bool.eq_false_or_eq_true (tabB rs) with ht | ht
  rotate_left
  · have HY := Lib.hid (facR_no1 (a := a) (b := b) ht)
    rw [ht]
    clear ht
    have q0 := cell_of_row _ _ 0 _ _ _ HR1
    have q1 := cell_of_row _ _ 1 _ _ _ HR1
    have qf0 := frozen_of_row _ _ 0 _ _ HR1
    have qf1 := frozen_of_row _ _ 1 _ _ HR1
    go_wp2_with fail
    exact bodyPost_ret (v := .tuple #[.agg #[.int .i64 0, .int .i64 0], .bool false]) (results_cell_row_slot Try.results12 _ _ _ _ _ _ _ _ rfl rfl (blk_set2 HR1) Try.underlying28 rfl (by kernel_rfl)) rfl ⟨0, 0, false, rfl, HY, (HB1.out.setCell (Nat.le_refl _) _).setCell (Nat.le_refl _) _⟩
  have HTB := Lib.hid ht
  have HTI := Lib.hid (tabB_iff.1 ht)
  rw [ht]
  clear ht
  go_wp2_with fail
  refine (code_calls a _ SA.out).mono ?_
  rintro e w2 ⟨rfl, hb⟩
  have HR2 := blk_below HR1 hb
  have HB2 := Lib.hid (HB1.out.trans (hb.mono HB1.out.size))
  have H2 := Lib.hid (H1.out.below hb)
  clear hb HB1 H1 HR1
  rcases Bool.eq_false_or_eq_true (isCode.codeB a) with hc | hc
  rotate_left
  · have HY := Lib.hid (facR_no2 (rs := rs) (b := b) hc)
    rw [hc]
    clear hc
    have q0 := cell_of_row _ _ 0 _ _ _ HR2
    have q1 := cell_of_row _ _ 1 _ _ _ HR2
    have qf0 := frozen_of_row _ _ 0 _ _ HR2
    have qf1 := frozen_of_row _ _ 1 _ _ HR2
    go_wp2_with fail
    exact bodyPost_ret (v := .tuple #[.agg #[.int .i64 0, .int .i64 0], .bool false]) (results_cell_row_slot Try.results12 _ _ _ _ _ _ _ _ rfl rfl (blk_set2 HR2) Try.underlying28 rfl (by kernel_rfl)) rfl ⟨0, 0, false, rfl, HY, (HB2.out.setCell (Nat.le_refl _) _).setCell (Nat.le_refl _) _⟩
  have HY := Lib.hid (facR_look (b := b) HTB.out hc)
  rw [hc]
  clear hc
  go_wp2_with fail
  refine (impl_from _ rs a _ H2.out.rules HTI.out.1 HTI.out.2.1 SA.out H2.out.sz).mono ?_
  rintro e w4 (⟨va, vm, rfl, hnt, hb⟩ | ⟨ga, ca, rfl, hcl, hf⟩)
  · exact absurd HTI.out hnt
  have HF := Lib.hid hf
  have HR4 := blk_below HR2 hf.bl
  have HB4 := Lib.hid (HB2.out.trans (hf.bl.mono HB2.out.size))
  clear hf hcl HR2
  obtain ⟨o, ho⟩ : ∃ o, lookU (reachU rs a) b = o := ⟨_, rfl⟩
  have HO := Lib.hid ho
  rw [ho] at HY
  clear ho
  obtain ⟨x, y, hxy⟩ : ∃ x y : Int, o.getD (0, 0) = (x, y) := ⟨_, _, rfl⟩
  have HR5 := blk_alloc HR4 (.cells #[.int .i64 x, .int .i64 y] 28)
  have HN5 := heap_alloc_new w4 (.cells #[.int .i64 x, .int .i64 y] 28)
  have q0 := cell_of_row _ _ 0 _ _ _ HR5
  have q1 := cell_of_row _ _ 1 _ _ _ HR5
  have qf0 := frozen_of_row _ _ 0 _ _ HR5
  have qf1 := frozen_of_row _ _ 1 _ _ HR5
  have p0 := cell_of_row _ _ 0 _ _ _ HN5
  have p1 := cell_of_row _ _ 1 _ _ _ HN5
  have hx : (o.getD (0, 0)).1 = x := by rw [hxy]
  have hy : (o.getD (0, 0)).2 = y := by rw [hxy]
  go_wp2_with (refine wpList_lookR_ok _ rfl _ _ 58 rfl 9 28 Try.underlying9 Try.underlying58 (zeroRat _) w2.heap.size (reachU rs a).length (lookU (reachU rs a)) rfl HF.out.mp b SB.out rfl o HO.out ?_; rw [hx, hy])
  exact bodyPost_ret (v := .tuple #[.agg #[.int .i64 x, .int .i64 y], .bool o.isSome]) (results_cell_row_slot Try.results12 _ _ _ _ _ _ _ _ rfl rfl (blk_set2 HR5) Try.underlying28 rfl (by kernel_rfl)) rfl ⟨x, y, o.isSome, rfl, Lib.hid (by rw [HY.out, hxy]), ((HB4.out.alloc HB4.out.size _).setCell (Nat.le_refl _) _).setCell (Nat.le_refl _) _⟩
end Go.Proofs.Ytaomjggamamckaa
