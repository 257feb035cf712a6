/-
  The program's walk over what is reached from a unit: a list of units and a map of their factors.
-/
import Derived.Test.YtaomjggamamckaaUnitRulesOf
import Derived.Test.YtaomjggamamckaaUnitHops
import Derived.Test.YtaomjggamamckaaReach
import Derived.Test.YtaomjggamamckaaUnitAgree
import Derived.Test.YtaomjggamamckaaMapR
import Derived.Test.YtaomjggamamckaaRatI
import Derived.Test.YtaomjggamamckaaAppendSepN
import Derived.WalkKit
import Derived.WalkSpells
import Derived.WalkSmall
import Derived.BigQuiet
import Derived.StillTailTactics
import Derived.Deep.DeepCutAuto
import Derived.Deep.QuietTactic
import Derived.Lib.Hide
namespace Go.Proofs.Ytaomjggamamckaa
open Go.RowKit

theorem zeroRat (w : World) : (zeroValue 28).run Try.prog w = .ok (.agg #[.int .i64 0, .int .i64 0]) w := by kernel_rfl
def AllLook (ps : List UF) : Prop := ∀ x, x ∈ ps → lookU ps x.1 = some x.2
theorem look_start (s : ByteArray) : AllLook [(s, 1, 1)] := fun x hx => by
  obtain rfl := List.mem_singleton.1 hx
  exact look_new (ps := []) (h := (s, 1, 1)) (by simp [namesOf])
theorem look_push {ps : List UF} {h : UF} (hl : AllLook ps) (hn : h.1 ∉ namesOf ps) : AllLook (ps ++ [h]) := fun x hx => by
  rcases List.mem_append.1 hx with hx | hx
  · exact look_pre (hl x hx) (List.prefix_append _ _)
  · obtain rfl := List.mem_singleton.1 hx
    exact look_new hn
structure FromS (w : World) (ps : List UF) (ga ca : Nat) (W : World) : Prop where
  row : W.ownsRow w.heap.size 9 1 (.slice (some ⟨ga, 0, none⟩) ps.length ca) ps.length (cellsN (namesOf ps))
  ne : ga ≠ w.heap.size
  mp : MapIs Try.prog 9 W w.heap.size ps.length (lookU ps)
  bl : Below w.heap.size w W
theorem FromS.below {w W W' : World} {ps : List UF} {ga ca : Nat} (h : FromS w ps ga ca W) (hb : Below W.heap.size W W') : FromS w ps ga ca W' :=
  ⟨ownU_below h.row hb, h.ne, h.mp.below hb, h.bl.trans (hb.mono h.bl.size)⟩
theorem FromS.name {w W : World} {ps : List UF} {ga ca : Nat} (h : FromS w ps ga ca W) {k : Nat} {x : UF} (hx : ps[k]? = some x) : W.cell? ⟨ga, k, none⟩ = some (.string x.1) := by
  have hk := (List.getElem?_eq_some_iff.1 hx).1
  have hk2 : k < (namesOf ps).length := by rw [namesOf_length]; exact hk
  rw [h.row.cellAt k (by omega), cellsN_at hk2]
  have : (namesOf ps)[k]'hk2 = x.1 := by
    have e := (List.getElem?_eq_some_iff.1 hx).2
    simp only [namesOf, List.getElem_map, e]
  rw [this]
theorem FromS.ga_lt {w W : World} {ps : List UF} {ga ca : Nat} (h : FromS w ps ga ca W) : ga < W.heap.size := (h.row.lt ga rfl).2
/-- The list of rules, beside the list of units and the map. -/
structure HopsI (w : World) (l : List UR) (v : Value) (ga : Nat) (W : World) : Prop where
  row : W.ownsRow w.heap.size 79 4 v l.length (cellsU l)
  ap : ∀ b, v.ownBlock = some b → b ≠ w.heap.size ∧ b ≠ ga
theorem HopsI.below {w W W' : World} {l : List UR} {v : Value} {ga : Nat} (h : HopsI w l v ga W) (hb : Below W.heap.size W W') : HopsI w l v ga W' := ⟨ownU_below h.row hb, h.ap⟩
theorem HopsI.lt {w W : World} {l : List UR} {v : Value} {ga b : Nat} (h : HopsI w l v ga W) (hb : v.ownBlock = some b) : b < W.heap.size := (h.row.lt b hb).2
theorem blk_grown {w w' : World} {g : Nat} {x : Obj} {o : Option Nat} (h : w.heap[g]? = some x) (hg : w.grownBy w' o) (hne : some g ≠ o) : w'.heap[g]? = some x := (hg.block g (lt_of_heap h) hne).trans h
/-- What the walk answers. -/
def FromRes (rs : List UR) (s : ByteArray) (w : World) (e : Ending) (w' : World) : Prop :=
  (∃ va vm, e = .returned (.tuple #[va, vm, .bool false]) ∧ ¬IsTab rs ∧ Below w.heap.size w w') ∨
  (∃ ga ca, e = .returned (.tuple #[.slice (some ⟨ga, 0, none⟩) (reachU rs s).length ca, .map (some w.heap.size), .bool true]) ∧ Closed rs (lookU (reachU rs s)) ∧ FromS w (reachU rs s) ga ca w')

set_option maxRecDepth 100000 in
set_option maxHeartbeats 4000000 in
theorem impl_from (v : Value) (rs : List UR) (s : ByteArray) (w : World) (h : Rules w v rs) (hm : rs.length ≤ 12) (hr : ∀ r, r ∈ rs → ruleOk r = true) (hs : s.size ≤ maxLen) (hsz : ∀ r, r ∈ rs → r.src.size ≤ maxLen ∧ r.dst.size ≤ maxLen) :
    Calls Try.prog 38 #[v, .string s] w (FromRes rs s w) := by
  obtain ⟨i0, hi, hz0, hz1, hz2⟩ := info_parts infoStr
  have HX := Lib.hid h
  have HRS := Lib.hid hr
  have HSZ := Lib.hid hsz
  obtain ⟨a', c', rfl⟩ := h.slice
  clear h hr hsz
  have hmm := @run_makeMap Try.prog
  have HM0 : Hid (MapIs Try.prog 9 (w.alloc (.map #[] 0)) w.heap.size 0 look0) := Lib.hid (mapIs_made Try.prog 9 w)
  go_enter Try.func38, Try.ntmps38
  go_wp2_with (refine wpList_insR _ rfl _ _ _ 58 rfl 9 28 Try.underlying9 Try.underlying58 w.heap.size 0 look0 rfl HM0.out (by unfold maxLen; omega) s hs rfl 1 1 rfl ?_)
  intro w0 hm0 hg0
  have HB0 : Below w.heap.size w w0 := ((Below.refl _ w).alloc (Nat.le_refl _) (.map #[] 0)).grown hg0 (by simp) (fun j hj => by cases hj; omega)
  have HZ0 : w.heap.size + 1 ≤ w0.heap.size := by have := hg0.size; simpa using this
  have HR0 : Hid (FromS w [(s, 1, 1)] w0.heap.size 1 (w0.alloc (.cells #[.string s] 9))) := Lib.hid (by
    refine ⟨own_down (World.ownsRow_lit w0 #[.string s] 1 (Nat.le_refl _) (by unfold maxLen; omega) rfl) HB0.size, by omega, ?_, HB0.alloc HB0.size _⟩
    rw [← look1_first]
    exact hm0.alloc _)
  clear HM0 hm0 hg0 hmm
  go_wp2_with fail
  go_loopw [8, 9] (fun x i wr => ∃ (k : Nat) (ps : List UF) (ga ca : Nat), i = .int .i64 k ∧ x = .slice (some ⟨ga, 0, none⟩) ps.length ca ∧ k ≤ ps.length ∧ ps.length ≤ 25 ∧ Hid (FromS w ps ga ca wr) ∧ Hid (reachF rs (2 * rs.length + 2 - k) k ps = reachU rs s) ∧ Hid (ps.length + roomU rs ps ≤ 1 + 2 * rs.length) ∧ Hid (AllWay rs s ps) ∧ Hid (AllLook ps) ∧ Hid (∀ x, x ∈ ps → x.1.size ≤ maxLen) ∧ Hid (∀ j x, ps[j]? = some x → j < k → ∀ r, r ∈ rs → AgreeH ps (hopV r x))) (fun _ i _ => (26 - (intOf i).toNat))
  case atStart => exact ⟨0, [(s, 1, 1)], _, _, rfl, rfl, Nat.zero_le _, by simp, HR0, Lib.hid rfl, Lib.hid (by have := roomU_le rs [(s, 1, 1)]; simp; omega), Lib.hid (fun p hp => by obtain rfl := List.mem_singleton.1 hp; exact Way.base), Lib.hid (look_start s), Lib.hid (fun x hx => by obtain rfl := List.mem_singleton.1 hx; exact hs), Lib.hid (fun j _ _ hj => by omega)⟩
  case round =>
    obtain ⟨k, ps, ga, ca, rfl, rfl, hk, hp25, HR, HF, HM, HW, HLK, HXP, HA⟩ := hrel
    clear HR0 HB0 HZ0
    by_cases hlt : k < ps.length
    · have HFX : Hid (reachF rs (2 * rs.length + 2 - (k + 1)) (k + 1) (innerU rs (ps[k]'hlt) ps) = reachU rs s) := Lib.hid (by
        have h1 := HF.out
        have h2 := HM.out
        rw [show 2 * rs.length + 2 - k = (2 * rs.length + 2 - (k + 1)) + 1 by omega, reachF_on hlt] at h1
        exact h1)
      have HPK : Hid (ps[k]? = some (ps[k]'hlt)) := Lib.hid (List.getElem?_eq_getElem hlt)
      generalize hx0 : ps[k]'hlt = x0 at *
      clear hx0 HF
      have HWX : Hid (Way rs s x0) := Lib.hid (HW.out _ (List.mem_of_getElem? HPK.out))
      have HPX : Hid (PosR x0.2) := Lib.hid (way_pos HRS.out HWX.out)
      have n0 := HR.out.name HPK.out
      go_wp2_with fail
      refine (impl_rulesOf _ rs x0.1 _ (HX.out.below HR.out.bl) hm).mono ?_
      rintro e w1 ⟨la, lc, rfl, HS⟩
      have HR1 := Lib.hid (HR.out.below HS.bl)
      have HLI : Hid (HopsI w (hopsU rs x0.1) (.slice la (hopsU rs x0.1).length lc) ga w1) := Lib.hid ⟨own_down HS.row HR.out.bl.size, fun b hb => by
        have h1 := (HS.row.lt b hb).1
        have h2 := HR.out.ga_lt
        have h3 := HR.out.mp.lt
        omega⟩
      have HLR : Hid (∀ q, q ∈ hopsU rs x0.1 → ruleOk q = true ∧ (q.src.size ≤ maxLen ∧ q.dst.size ≤ maxLen) ∧ q.src = x0.1 ∧ ∃ r, r ∈ rs ∧ hopV r x0 = hopV q x0) := Lib.hid (fun q hq => by
        obtain ⟨r, hr, e⟩ := hops_mem hq
        have h1 := of_hop (x := x0) (HRS.out r hr) HPX.out e
        exact ⟨h1.2, hops_size HSZ.out q hq, (of_from e).1, r, hr, h1.1⟩)
      have HIL := Lib.hid (hops_inner HPX.out rs ps HRS.out)
      have HAL : Hid (∀ qs, (∀ q, q ∈ hopsU rs x0.1 → AgreeH qs (hopV q x0)) → ∀ r, r ∈ rs → AgreeH qs (hopV r x0)) := Lib.hid (fun qs h => hops_agree HRS.out HPX.out h)
      have hlen := hops_len rs x0.1
      clear HR n0 HS
      generalize hopsU rs x0.1 = l at *
      go_wp2_with fail
      go_loopw [8, 36] (fun x i wr2 => ∃ (m : Nat) (qs : List UF) (ga ca : Nat), i = .int .i64 m ∧ x = .slice (some ⟨ga, 0, none⟩) qs.length ca ∧ m ≤ l.length ∧ qs.length ≤ 25 ∧ k < qs.length ∧ Hid (FromS w qs ga ca wr2) ∧ Hid (HopsI w l (.slice la l.length lc) ga wr2) ∧ Hid (qs = innerU (l.take m) x0 ps) ∧ Hid (qs[k]? = some x0) ∧ Hid (qs.length + roomU rs qs ≤ 1 + 2 * rs.length) ∧ Hid (AllWay rs s qs) ∧ Hid (AllLook qs) ∧ Hid (∀ x, x ∈ qs → x.1.size ≤ maxLen) ∧ Hid (∀ r, r ∈ l.take m → AgreeH qs (hopV r x0))) (fun _ i _ => (l.length - (intOf i).toNat))
      case atStart => exact ⟨0, ps, ga, ca, rfl, rfl, Nat.zero_le _, hp25, hlt, HR1, HLI, Lib.hid rfl, HPK, HM, HW, HLK, HXP, Lib.hid (fun r hr => by simp at hr)⟩
      case round =>
        clear HR1 HM HLI
        obtain ⟨m, qs, ga, ca, rfl, rfl, hmr, hq25, hkq, HR, HLI, HQ, HPQ, HM, HWQ, HLQ, HXS, HAQ⟩ := hrel
        by_cases hlm : m < l.length
        · have HRO : Hid (ruleOk (l[m]'hlm) = true ∧ ((l[m]'hlm).src.size ≤ maxLen ∧ (l[m]'hlm).dst.size ≤ maxLen) ∧ (l[m]'hlm).src = x0.1 ∧ ∃ r, r ∈ rs ∧ hopV r x0 = hopV (l[m]'hlm) x0) := Lib.hid (HLR.out _ (List.getElem_mem hlm))
          have HIN := Lib.hid (innerU_take (x := x0) (ps := ps) hlm)
          have HTK : Hid (l.take (m + 1) = l.take m ++ [l[m]'hlm]) := Lib.hid (List.take_succ_eq_append_getElem hlm)
          obtain ⟨b2, o2, c2, hv2, hc2, hcell2⟩ := (rules_of_cells HLI.out.row).some (by omega)
          simp only [Value.slice.injEq] at hv2
          obtain ⟨rfl, _, rfl⟩ := hv2
          obtain ⟨r0, r1, r2, r3⟩ := hcell2.at m hlm
          generalize l[m]'hlm = r at *
          clear hcell2 hc2
          go_upto_region 10 with fail
          have HG1 : (wr.alloc (.cells #[.string r.src, .string r.dst, .int .i64 r.num, .int .i64 r.den] 79)).heap[wr.heap.size]? = some (.cells #[.string r.src, .string r.dst, .int .i64 r.num, .int .i64 r.den] 79 (0, 0)) := heap_alloc_new _ _
          have HBG : Below wr.heap.size wr (wr.alloc (.cells #[.string r.src, .string r.dst, .int .i64 r.num, .int .i64 r.den] 79)) := (Below.refl _ _).alloc (Nat.le_refl _) _
          generalize (wr.alloc (.cells #[.string r.src, .string r.dst, .int .i64 r.num, .int .i64 r.den] 79)) = wg at *
          clear r0 r1 r2 r3
          have g1 := cell_of_row _ _ 1 _ _ _ HG1
          have g2 := cell_of_row _ _ 2 _ _ _ HG1
          have g3 := cell_of_row _ _ 3 _ _ _ HG1
          have HMW := Lib.hid (HR.out.mp.below HBG)
          have HLK0 : Hid (lookU qs x0.1 = some x0.2) := Lib.hid (HLQ.out _ (List.mem_of_getElem? HPQ.out))
          have HSX : Hid (x0.1.size ≤ maxLen) := Lib.hid (HXS.out _ (List.mem_of_getElem? HPQ.out))
          go_wp2_with (refine wpList_lookR _ rfl _ _ 58 rfl 9 28 Try.underlying9 Try.underlying58 (zeroRat _) w.heap.size qs.length (lookU qs) rfl HMW.out x0.1 HSX.out rfl (some x0.2) HLK0.out ?_)
          refine (rat.impl_mul _ _ _ _ _).mono ?_
          rintro e w3 ⟨n, d, rfl, HXY, hb3⟩
          have HBX := HBG.trans (hb3.mono HBG.size)
          have HG1 := blk_below HG1 hb3
          clear hb3 g1 g2 g3 HMW
          have HH : Hid (hopV r x0 = (r.dst, n, d)) := Lib.hid (by rw [hop_src HRO.out.2.2.1, HXY.out])
          have HTT : Hid (r.dst ≠ ByteArray.empty ∧ r.dst.size ≤ maxLen) := Lib.hid ⟨code_ne (ruleOk_codes HRO.out.1).2, HRO.out.2.1.2⟩
          obtain ⟨r0, hr0, hh0⟩ := HRO.out.2.2.2
          have HMM := Lib.hid hr0
          have HH0 : Hid (hopV r0 x0 = (r.dst, n, d)) := Lib.hid (by rw [hh0, HH.out])
          have HIN2 : Hid (innerU (l.take (m + 1)) x0 ps = addU qs (r.dst, n, d)) := Lib.hid (by rw [HIN.out, ← HQ.out, HH.out])
          have hwr := HR.out.mp.lt
          have hgr := HR.out.ga_lt
          have hbr : b2 < wr.heap.size := HLI.out.lt rfl
          have hap := HLI.out.ap b2 rfl
          have hne := HR.out.ne
          clear hr0 hh0 HIN
          go_upto_region 11 with fail
          have hfb := lt_of_heap HG1
          have HG2 := heap_alloc_new w3 (.cells #[.int .i64 n, .int .i64 d] 28)
          have HG1 := blk_alloc HG1 (.cells #[.int .i64 n, .int .i64 d] 28)
          have HBX := HBX.alloc HBX.size (.cells #[.int .i64 n, .int .i64 d] 28)
          generalize w3.alloc (.cells #[.int .i64 n, .int .i64 d] 28) = w4 at *
          have HRX := Lib.hid (HR.out.below HBX)
          have HLX := Lib.hid (HLI.out.below HBX)
          clear HR HLI HBG
          have g1 := cell_of_row _ _ 1 _ _ _ HG1
          cases hk : lookU qs r.dst with
          | none =>
            have HKN := Lib.hid hk
            have hnin : r.dst ∉ namesOf qs := fnd_neg.1 (look_none.1 hk)
            have HNI := Lib.hid hnin
            clear hk hnin
            have HR5 := Lib.hid (HRX.out.below ((Below.refl _ w4).alloc (Nat.le_refl _) (.cells #[.int .i64 0, .int .i64 0] 28)))
            have HL5 := Lib.hid (HLX.out.below ((Below.refl _ w4).alloc (Nat.le_refl _) (.cells #[.int .i64 0, .int .i64 0] 28)))
            have HG15 := blk_alloc HG1 (.cells #[.int .i64 0, .int .i64 0] 28)
            have HG25 := blk_alloc HG2 (.cells #[.int .i64 0, .int .i64 0] 28)
            have f1 := cell_of_row _ _ 1 _ _ _ HG15
            have p0 := cell_of_row _ _ 0 _ _ _ HG25
            have p1 := cell_of_row _ _ 1 _ _ _ HG25
            go_wp2_with (first | (refine wpList_lookR_ok _ rfl _ _ 58 rfl 9 28 Try.underlying9 Try.underlying58 (zeroRat _) w.heap.size qs.length (lookU qs) rfl HRX.out.mp r.dst HTT.out.2 rfl none HKN.out ?_) | refine wpList_putR _ rfl _ _ _ 58 rfl 9 28 Try.underlying9 Try.underlying58 w.heap.size qs.length (lookU qs) rfl HR5.out.mp (by unfold maxLen; omega) r.dst HTT.out.2 rfl n d rfl ?_)
            intro w6 hm6 hg6
            have HM6 := Lib.hid hm6
            have HG16 := blk_grown HG15 hg6 (fun e => by have := Option.some.inj e; omega)
            have HG26 := blk_grown HG25 hg6 (fun e => by have := Option.some.inj e; omega)
            have HRW6 := Lib.hid (HR5.out.row.kept hg6 (Or.inr (by simp [Value.ownBlock]; omega)))
            have HLW6 := Lib.hid (HL5.out.row.kept hg6 (Or.inr (by simp [Value.ownBlock]; omega)))
            have HB6 := Lib.hid (HR5.out.bl.grown hg6 HR5.out.bl.size (fun j hj => by cases hj; omega))
            have hs6 : wr.heap.size < w6.heap.size := lt_of_heap HG16
            clear hm6 hg6 p0 p1 f1 g1 HG15 HG25 HR5 HL5
            have g1 := cell_of_row _ _ 1 _ _ _ HG16
            go_wp2_with (at_builtin; refine wpList_append_s rfl _ _ 33 rfl w.heap.size 9 i0 (.string ByteArray.empty) Try.underlying33 hi hz0 hz1 hz2 rfl ga qs.length ca (cellsN (namesOf qs)) rfl (HRW6.out.alloc _) ⟨w6.heap.size, 0, none⟩ 1 (.string r.dst) rfl ?c1 rfl (by omega) ?c5 ?_)
            case c1 => simp [Addr.add]
            case c5 => have := HB6.out.size; simp; omega
            intro g7 c7 w7 hown hgrow hsep
            have hsep2 : g7 = ga ∨ w6.heap.size + 1 ≤ g7 := by
              rcases hsep with e | e
              · exact Or.inl e
              · exact Or.inr (by simpa using e)
            have HLN : (qs ++ [(r.dst, n, d)]).length = qs.length + 1 := by rw [List.length_append]; rfl
            have HR7 : Hid (FromS w (qs ++ [(r.dst, n, d)]) g7 c7 w7) := Lib.hid ⟨by rw [HLN, namesOf_snoc, cellsN_snoc]; exact hown, by rcases hsep2 with e | e <;> omega, by rw [HLN, ← look1_snoc HNI.out]; exact (HM6.out.alloc _).kept hgrow (by simp; omega), (HB6.out.alloc HB6.out.size (.cells #[.string r.dst] 9)).grown hgrow (by have := HB6.out.size; simp; omega) (fun j hj => by cases hj; exact (HRW6.out.lt ga rfl).1)⟩
            have HL7 : Hid (HopsI w l (.slice (some ⟨b2, o2, none⟩) l.length lc) g7 w7) := Lib.hid ⟨(HLW6.out.alloc (.cells #[.string r.dst] 9)).kept hgrow (Or.inr (by simp [Value.ownBlock]; omega)), fun b hb => by cases hb; refine ⟨hap.1, ?_⟩; show b2 ≠ g7; rcases hsep2 with e | e <;> omega⟩
            have HG17 := blk_grown (blk_alloc HG16 (.cells #[.string r.dst] 9)) hgrow (fun e => by have := Option.some.inj e; omega)
            have HG27 := blk_grown (blk_alloc HG26 (.cells #[.string r.dst] 9)) hgrow (fun e => by have := Option.some.inj e; omega)
            clear hown hgrow hsep HRW6 HB6 HM6 HLW6 HG16 HG26 g1
            have p0 := cell_of_row _ _ 0 _ _ _ HG27
            have p1 := cell_of_row _ _ 1 _ _ _ HG27
            go_wp2_with fail
            refine (rat.impl_isRatio n d _).mono ?_
            rintro e w8 ⟨rfl, hb8⟩
            have HR8 := Lib.hid (HR7.out.below hb8)
            have HL8 := Lib.hid (HL7.out.below hb8)
            have HG18 := blk_below HG17 hb8
            have HG28 := blk_below HG27 hb8
            clear hb8 p0 p1 HR7 HL7 HG17 HG27
            by_cases hz : n = 0 ∧ d = 0
            · obtain ⟨rfl, rfl⟩ := hz
              have HNT : Hid (¬IsTab rs) := Lib.hid (no_ratio HWX.out HMM.out (by rw [HH0.out]; exact HTT.out.1) (by rw [HH0.out]))
              rw [rat.okB_00]
              go_wp2_with fail
              go_ret3
              exact Or.inl ⟨_, _, rfl, HNT.out, HR8.out.bl⟩
            · have HPO := Lib.hid (hop_zero HRO.out.1 (way_pos HRS.out HWX.out) (by rw [HH.out]; intro e; cases e; exact hz ⟨rfl, rfl⟩))
              have hok : rat.okB n d = true := by have := HPO.out.1.1; rw [HH.out] at this; exact this
              rw [hok]
              have HAN := Lib.hid (agree_new (ps := qs) (h := (r.dst, n, d)) HKN.out HTT.out.1 (by have := HPO.out.2; rw [HH.out] at this; exact this))
              have HMX : Hid ((addU qs (r.dst, n, d)).length + roomU rs (addU qs (r.dst, n, d)) ≤ 1 + 2 * rs.length) := Lib.hid (Nat.le_trans (addU_room (h := (r.dst, n, d)) (fun hne => by have := hop_mem HMM.out (x := x0) (by rw [HH0.out]; exact hne); rw [HH0.out] at this; exact this)) HM.out)
              have HWN : Hid (AllWay rs s (addU qs (r.dst, n, d))) := Lib.hid (by rw [← HH0.out]; exact addU_way HMM.out HWX.out HWQ.out)
              have HLL : Hid (lookU (qs ++ [(r.dst, n, d)]) r.dst = some (n, d)) := Lib.hid (look_new (h := (r.dst, n, d)) HNI.out)
              have p0 := cell_of_row _ _ 0 _ _ _ HG28
              have p1 := cell_of_row _ _ 1 _ _ _ HG28
              have g1 := cell_of_row _ _ 1 _ _ _ HG18
              clear hz hok
              have hget : (Instr.lookup 58 (.map (some w.heap.size)) (.string r.dst) false).run Try.prog w8 = .ok (.agg #[.int .i64 n, .int .i64 d]) w8 :=
                MapIs.run_get HR8.out.mp Try.underlying9 Try.underlying58 (zeroRat _) HTT.out.2 n d (by rw [HLL.out]; rfl)
              go_wp2_with fail
              go_roundw
              case rel => exact ⟨m + 1, qs ++ [(r.dst, n, d)], g7, c7, by go_num, by rw [HLN], by omega, by have h1 := HMX.out; rw [HAN.out.2.1, HLN] at h1; omega, by omega, HR8, HL8, Lib.hid (by rw [HIN2.out, HAN.out.2.1]), Lib.hid (by rw [List.getElem?_append_left hkq]; exact HPQ.out), Lib.hid (by have h1 := HMX.out; rwa [HAN.out.2.1] at h1), Lib.hid (by have h1 := HWN.out; rwa [HAN.out.2.1] at h1), Lib.hid (look_push HLQ.out HAN.out.2.2), Lib.hid (fun z hz => by
                    rcases List.mem_append.1 hz with hz | hz
                    · exact HXS.out z hz
                    · obtain rfl := List.mem_singleton.1 hz
                      exact HTT.out.2), Lib.hid (fun q hq => by
                    rw [HTK.out] at hq
                    rcases List.mem_append.1 hq with hq | hq
                    · exact (HAQ.out q hq).pre (List.prefix_append _ _)
                    · obtain rfl := List.mem_singleton.1 hq
                      have h1 := HAN.out.1
                      rw [HAN.out.2.1] at h1
                      rw [HH.out]; exact h1)⟩
              case measure => simp [intOf]; omega
          | some f =>
            obtain ⟨x, y⟩ := f
            have HKK := Lib.hid hk
            clear hk
            have HR5 := Lib.hid (HRX.out.below ((Below.refl _ w4).alloc (Nat.le_refl _) (.cells #[.int .i64 x, .int .i64 y] 28)))
            have HL5 := Lib.hid (HLX.out.below ((Below.refl _ w4).alloc (Nat.le_refl _) (.cells #[.int .i64 x, .int .i64 y] 28)))
            have HG15 := blk_alloc HG1 (.cells #[.int .i64 x, .int .i64 y] 28)
            have HG25 := blk_alloc HG2 (.cells #[.int .i64 x, .int .i64 y] 28)
            have p0 := cell_of_row _ _ 0 _ _ _ HG25
            have p1 := cell_of_row _ _ 1 _ _ _ HG25
            go_wp2_with (refine wpList_lookR_ok _ rfl _ _ 58 rfl 9 28 Try.underlying9 Try.underlying58 (zeroRat _) w.heap.size qs.length (lookU qs) rfl HRX.out.mp r.dst HTT.out.2 rfl (some (x, y)) HKK.out ?_)
            refine (rat.impl_isRatio n d _).mono ?_
            rintro e w8 ⟨rfl, hb8⟩
            have HR8 := Lib.hid (HR5.out.below hb8)
            have HL8 := Lib.hid (HL5.out.below hb8)
            have HG18 := blk_below HG15 hb8
            have HG28 := blk_below HG25 hb8
            clear hb8 p0 p1 g1 HR5 HL5 HG15 HG25
            by_cases hz : n = 0 ∧ d = 0
            · obtain ⟨rfl, rfl⟩ := hz
              have HNT : Hid (¬IsTab rs) := Lib.hid (no_ratio HWX.out HMM.out (by rw [HH0.out]; exact HTT.out.1) (by rw [HH0.out]))
              rw [rat.okB_00]
              go_wp2_with fail
              go_ret3
              exact Or.inl ⟨_, _, rfl, HNT.out, HR8.out.bl⟩
            have HPO := Lib.hid (hop_zero HRO.out.1 (way_pos HRS.out HWX.out) (by rw [HH.out]; intro e; cases e; exact hz ⟨rfl, rfl⟩))
            have hok : rat.okB n d = true := by have := HPO.out.1.1; rw [HH.out] at this; exact this
            rw [hok]
            clear hz hok
            have p0 := cell_of_row _ _ 0 _ _ _ HG28
            have p1 := cell_of_row _ _ 1 _ _ _ HG28
            have g1 := cell_of_row _ _ 1 _ _ _ HG18
            by_cases he : x = n ∧ y = d
            · obtain ⟨rfl, rfl⟩ := he
              have HAN := Lib.hid (agree_known (ps := qs) (h := (r.dst, x, y)) HKK.out)
              have hget : (Instr.lookup 58 (.map (some w.heap.size)) (.string r.dst) false).run Try.prog w8 = .ok (.agg #[.int .i64 x, .int .i64 y]) w8 :=
                MapIs.run_get HR8.out.mp Try.underlying9 Try.underlying58 (zeroRat _) HTT.out.2 x y (by rw [HKK.out]; rfl)
              go_wp2_with fail
              go_roundw
              case rel => exact ⟨m + 1, qs, ga, ca, by go_num, rfl, by omega, hq25, hkq, HR8, HL8, Lib.hid (by rw [HIN2.out, HAN.out.2]), HPQ, HM, HWQ, HLQ, HXS, Lib.hid (fun q hq => by
                    rw [HTK.out] at hq
                    rcases List.mem_append.1 hq with hq | hq
                    · exact HAQ.out q hq
                    · obtain rfl := List.mem_singleton.1 hq
                      rw [HH.out]; exact Or.inr HKK.out)⟩
              case measure => simp [intOf]; omega
            · have HNT : Hid (¬IsTab rs) := Lib.hid (no_agree HWX.out HMM.out (by rw [HH0.out]; exact HTT.out.1) HWQ.out (f := (x, y)) (by rw [HH0.out]; exact HKK.out) (by rw [HH0.out]; intro e; cases e; exact he ⟨rfl, rfl⟩))
              by_cases hxn : x = n
              · subst hxn
                have hyb : (d == y) = false := beq_eq_false_iff_ne.2 (fun e => he ⟨rfl, e.symm⟩)
                have hget : (Instr.lookup 58 (.map (some w.heap.size)) (.string r.dst) false).run Try.prog w8 = .ok (.agg #[.int .i64 x, .int .i64 y]) w8 :=
                  MapIs.run_get HR8.out.mp Try.underlying9 Try.underlying58 (zeroRat _) HTT.out.2 x y (by rw [HKK.out]; rfl)
                go_wp2_with fail
                go_ret3
                exact Or.inl ⟨_, _, rfl, HNT.out, HR8.out.bl⟩
              · have hyb : (n == x) = false := beq_eq_false_iff_ne.2 (fun e => hxn e.symm)
                have hget : (Instr.lookup 58 (.map (some w.heap.size)) (.string r.dst) false).run Try.prog w8 = .ok (.agg #[.int .i64 x, .int .i64 y]) w8 :=
                  MapIs.run_get HR8.out.mp Try.underlying9 Try.underlying58 (zeroRat _) HTT.out.2 x y (by rw [HKK.out]; rfl)
                go_wp2_with fail
                go_ret3
                exact Or.inl ⟨_, _, rfl, HNT.out, HR8.out.bl⟩
        · have HQE : Hid (qs = innerU rs x0 ps) := Lib.hid (by rw [HQ.out, innerU_all (Nat.le_of_not_lt hlm), HIL.out])
          have HAN : Hid (∀ j x, qs[j]? = some x → j < k + 1 → ∀ r, r ∈ rs → AgreeH qs (hopV r x)) := Lib.hid (fun j x hj hjk r hr => by
            rcases Nat.lt_or_ge j k with h1 | h1
            · have hp : ps <+: qs := by rw [HQE.out]; exact innerU_prefix _ _ _
              obtain ⟨t, ht⟩ := hp
              have hj2 : ps[j]? = some x := by rw [← ht, List.getElem?_append_left (by omega)] at hj; exact hj
              exact (HA.out j x hj2 h1 r hr).pre ⟨t, ht⟩
            · obtain rfl : j = k := by omega
              rw [HPQ.out] at hj
              cases hj
              exact HAL.out qs (fun q hq => HAQ.out q (by rw [List.take_of_length_le (Nat.le_of_not_lt hlm)]; exact hq)) r hr)
          clear HA HAQ
          go_wp2_with fail
          go_roundw
          case rel => exact ⟨k + 1, qs, ga, ca, by go_num, rfl, by omega, hq25, HR, Lib.hid (by rw [HQE.out]; exact HFX.out), HM, HWQ, HLQ, HXS, HAN⟩
          case measure => simp [intOf]; omega
    · have HFE : Hid (ps = reachU rs s) := Lib.hid (by rw [← HF.out, reachF_off hlt])
      have HCL : Hid (Closed rs (lookU ps)) := Lib.hid (agree_closed HRS.out (fun p hp => way_pos HRS.out (HW.out p hp)) (fun x hx r hr => by
        obtain ⟨j, hj, rfl⟩ := List.getElem_of_mem hx
        exact HA.out j _ (List.getElem?_eq_getElem hj) (by omega) r hr))
      clear HF HW HA
      go_wp2_with fail
      go_ret3
      exact Or.inr ⟨ga, ca, by rw [← HFE.out]; rfl, by rw [← HFE.out]; exact HCL.out, by rw [← HFE.out]; exact HR.out⟩
end Go.Proofs.Ytaomjggamamckaa
