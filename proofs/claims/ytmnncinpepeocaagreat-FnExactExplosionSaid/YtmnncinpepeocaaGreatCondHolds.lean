/-
 The model's Holds.
-/
import Derived.Test.YtmnncinpepeocaaGreatRows
import Derived.Test.YtmnncinpepeocaaGreatBuCond
import Derived.Test.YtmnncinpepeocaaGreatCondSpec
import Derived.Test.YtmnncinpepeocaaGreatBuA
import Derived.WalkKit
import Derived.WalkSpells
import Derived.WalkSmall
import Derived.Laws.AppendOwn
import Derived.BigQuiet
import Derived.Deep.QuietTactic
import Derived.Deep.DeepCutAuto
import Derived.Deep.RegionHeld3
import Derived.Lib.Hide
namespace Go.Proofs.YtmnncinpepeocaaGreat
open Go.RowKit

set_option maxRecDepth 100000 in
set_option maxHeartbeats 1000000 in
theorem spec_has (v : Value) (ps : List PK) (o u : ByteArray) (w : World) (h : PK.Is w v ps) (hm : ps.length ≤ maxLen) :
 Calls Tryz.prog 117 #[v, .string o, .string u] w fun e w' => e = .returned (.bool (hasP ps o u)) ∧ w = w' := by
 unfold maxLen at hm
 have HX := Lib.hid h
 obtain ⟨a', c', rfl⟩ := h.slice
 clear h
 go_enter Tryz.func117, Tryz.ntmps117
 go_wp2_with fail
 go_loop [7] (fun i => ∃ k : Nat, i = .int .i64 k ∧ k ≤ ps.length ∧ Hid (∀ p, p ∈ ps.take k → ¬(p.opt = o ∧ p.vl = u))) (fun i => ps.length - (intOf i).toNat)
 case atStart => exact ⟨0, rfl, Nat.zero_le _, Lib.hid (fun p hp => by simp at hp)⟩
 case round =>
  obtain ⟨k, rfl, hk, HN⟩ := hrel
  by_cases hlt : k < ps.length
  rotate_left
  · have HY : Hid (hasP ps o u = false) := Lib.hid (hasP_to (by have := HN.out; rwa [List.take_of_length_le (by omega)] at this))
    go_wp2_with fail
    go_ret
    exact ⟨by rw [HY.out]; rfl, rfl⟩
  have HM : Hid ((ps[k]'hlt) ∈ ps) := Lib.hid (List.getElem_mem hlt)
  have HT : Hid (ps.take (k + 1) = ps.take k ++ [ps[k]'hlt]) := Lib.hid (List.take_succ_eq_append_getElem hlt)
  obtain ⟨b2, o2, c2, hv2, hc2, hcell2⟩ := HX.out.some (by omega)
  simp only [Value.slice.injEq] at hv2
  obtain ⟨rfl, _, rfl⟩ := hv2
  obtain ⟨r0, r1⟩ := hcell2.at k hlt
  generalize ps[k]'hlt = x at *
  clear hcell2 hc2
  have HN2 : Hid (¬(x.opt = o ∧ x.vl = u) → ∀ p, p ∈ ps.take (k + 1) → ¬(p.opt = o ∧ p.vl = u)) := Lib.hid (fun hx p hp => by
   rw [HT.out] at hp
   rcases List.mem_append.1 hp with hp | hp
   · exact HN.out p hp
   · obtain rfl := List.mem_singleton.1 hp
     exact hx)
  by_cases ho : x.opt = o
  · have bo := str_eq ho
    by_cases hv : x.vl = u
    · have bv := str_eq hv
      have HY : Hid (hasP ps o u = true) := Lib.hid (hasP_in HM.out ⟨ho, hv⟩)
      clear ho hv
      go_wp2_with fail
      go_ret
      exact ⟨by rw [HY.out]; rfl, rfl⟩
    · have bv := str_ne hv
      have HS := Lib.hid (HN2.out (fun h => hv h.2))
      clear ho hv
      go_wp2_with fail
      go_round
      case rel => exact ⟨k + 1, by go_num, by omega, HS⟩
      case measure => simp [intOf]; omega
  · have bo := str_ne ho
    have HS := Lib.hid (HN2.out (fun h => ho h.1))
    clear ho
    go_wp2_with fail
    go_round
    case rel => exact ⟨k + 1, by go_num, by omega, HS⟩
    case measure => simp [intOf]; omega

theorem infoB : (Tryz.prog.info? 4).map (fun i => (i.zero, i.size, i.bytes)) = some (some (.bool false), 1, 1) := by kernel_rfl

/-- A row made shorter. -/
theorem own_shrink {w : World} {base e g n cap : Nat} {xs : List Value} {x : Value} (h : w.ownsRow base e 1 (.slice (some ⟨g, 0, none⟩) (n + 1) cap) (n + 1) (xs ++ [x])) : w.ownsRow base e 1 (.slice (some ⟨g, 0, none⟩) n cap) n xs := by
 have hl := h.1
 rw [List.length_append, List.length_singleton] at hl
 refine ⟨by omega, Or.inr ?_⟩
 rcases h.2 with ⟨h1, _⟩ | ⟨g', cap', cur, h1, hb, hg, hnc, hcm, hcs, ht⟩
 · cases h1
 · cases h1
   refine ⟨g, cap, cur, rfl, hb, hg, by omega, hcm, hcs, ?_⟩
   have h2 := congrArg (List.take n) ht
   rw [List.take_take, List.take_append_of_le_length (by omega), List.take_of_length_le (l := xs) (by omega)] at h2
   rw [← h2]
   congr 1
   omega

theorem own_set1 {w : World} {base e g n cap : Nat} {xs : List Value} {x : Value} (hx : xs.length = n) (h : w.ownsRow base e 1 (.slice (some ⟨g, 0, none⟩) (n + 1) cap) (n + 1) (xs ++ [x])) (u : Value) :
 (w.setCell ⟨g, n, none⟩ u).ownsRow base e 1 (.slice (some ⟨g, 0, none⟩) (n + 1) cap) (n + 1) (xs ++ [u]) := by
 have h1 := (h.stored n u).1
 rw [List.set_append_right _ _ (by omega), hx, Nat.sub_self] at h1
 exact h1
theorem own_set2 {w : World} {base e g n cap : Nat} {xs : List Value} {x y : Value} (hx : xs.length = n) (h : w.ownsRow base e 1 (.slice (some ⟨g, 0, none⟩) (n + 1 + 1) cap) (n + 1 + 1) ((xs ++ [x]) ++ [y])) (u : Value) :
 (w.setCell ⟨g, n, none⟩ u).ownsRow base e 1 (.slice (some ⟨g, 0, none⟩) (n + 1) cap) (n + 1) (xs ++ [u]) := by
 have h1 := (h.stored n u).1
 rw [List.append_assoc, List.set_append_right _ _ (by omega), hx, Nat.sub_self] at h1
 have h2 : ([x] ++ [y] : List Value).set 0 u = [u] ++ [y] := rfl
 rw [h2, ← List.append_assoc] at h1
 exact own_shrink h1

set_option maxRecDepth 100000 in
set_option maxHeartbeats 2000000 in
theorem spec_eval (v v2 : Value) (t : CT) (ps : List PK) (w : World) (ht : t.ok) (hl : t.post.length ≤ 30) (h : CN.Is w v t.post) (h2 : PK.Is w v2 ps) (hm : ps.length ≤ maxLen) :
 Calls Tryz.prog 99 #[v, v2] w (BoolRes (t.ev ps) w) := by
 obtain ⟨i0, hi, hz0, hz1, hz2⟩ := info_parts infoB
 have HX := Lib.hid h
 have HP := Lib.hid h2
 have HR := Lib.hid (CT.runs_post t [] ht)
 obtain ⟨l, hll⟩ : ∃ l, t.post = l := ⟨_, rfl⟩
 rw [hll] at HX HR hl
 obtain ⟨a', c', rfl⟩ := HX.out.slice
 obtain ⟨a2, c2', rfl⟩ := h2.slice
 clear h h2 hll
 have HO0 : Hid ((w.alloc (.cells #[] 4)).ownsRow w.heap.size 4 1 (.slice (some ⟨w.heap.size, 0, none⟩) 0 0) 0 (evS ps [])) := Lib.hid (World.ownsRow_lit w #[] 0 (Nat.le_refl _) (Nat.zero_le _) rfl)
 go_enter Tryz.func99, Tryz.ntmps99
 go_wp2_with fail
 go_loopw [5, 6] (fun x i wr => ∃ (k : Nat) (s : List CT) (g c : Nat), i = .int .i64 k ∧ x = .slice (some ⟨g, 0, none⟩) s.length c ∧ k ≤ l.length ∧ s.length ≤ k ∧ Hid (CT.runs [] (l.take k) = some s) ∧ Hid (okS s) ∧ Hid (wr.ownsRow w.heap.size 4 1 (.slice (some ⟨g, 0, none⟩) s.length c) s.length (evS ps s)) ∧ Hid (Below w.heap.size w wr)) (fun _ i _ => (l.length - (intOf i).toNat))
 case atStart => exact ⟨0, [], _, _, rfl, rfl, Nat.zero_le _, Nat.zero_le _, Lib.hid rfl, Lib.hid (fun t h => by cases h), HO0, Lib.hid ((Below.refl _ _).alloc (Nat.le_refl _) _)⟩
 case round =>
  obtain ⟨k, s, g, c, rfl, rfl, hk, hsk, HS, HOK, HO, HB⟩ := hrel
  clear HO0
  by_cases hlt : k < l.length
  rotate_left
  · have HE : Hid (s = [t]) := Lib.hid (by
     have := HS.out
     rw [List.take_of_length_le (by omega), HR.out] at this
     exact (Option.some.inj this).symm)
    have hsl : s.length = 1 := by rw [HE.out]; rfl
    have hc0 : wr.cell? ⟨g, 0, none⟩ = some (.bool (t.ev ps)) := by
     rw [HO.out.cellAt 0 (by omega), HE.out]; rfl
    rw [hsl]
    go_wp2_with fail
    go_ret
    exact ⟨rfl, HB.out⟩
  obtain ⟨r, hstep⟩ : ∃ r, CT.step (l[k]'hlt) s = some r := by
   cases e : CT.step (l[k]'hlt) s with
   | some r => exact ⟨r, rfl⟩
   | none =>
    have h1 := CT.runs_bad (s := []) (l := l) (k := k + 1) (by rw [CT.runs_take hlt, HS.out]; exact e)
    rw [HR.out] at h1; cases h1
  have HT : Hid (CT.runs [] (l.take (k + 1)) = some r) := Lib.hid (by rw [CT.runs_take hlt, HS.out]; exact hstep)
  obtain ⟨hokr, _, hcase⟩ := CT.step_some hstep HOK.out
  have HOKR := Lib.hid hokr
  clear hstep hokr
  obtain ⟨b2, o2, c2, hv2, hc2, hcell2⟩ := HX.out.some (by omega)
  simp only [Value.slice.injEq] at hv2
  obtain ⟨rfl, _, rfl⟩ := hv2
  obtain ⟨r0, r1, r2⟩ := (hcell2.below HB.out).at k hlt
  have hb2 := hcell2.1
  generalize l[k]'hlt = x at *
  obtain ⟨kind, opt, vl⟩ := x
  simp only at r0 r1 r2 hcase
  clear hcell2 hc2 HOK
  rcases hcase with ⟨rfl, -, rfl⟩ | ⟨rfl, -, rfl⟩ | ⟨rfl, -, a, q, rfl, rfl⟩ | ⟨rfl, -, a, b, q, rfl, rfl⟩ | ⟨rfl, -, a, b, q, rfl, rfl⟩
  · go_wp2_with (at_builtin; refine wpList_append_own _ rfl _ _ 154 rfl w.heap.size 4 i0 (.bool false) 1 1 Tryz.underlying154 hi hz0 hz1 hz2 rfl (by decide) _ s.length (evS ps s) rfl (HO.out.alloc _) ⟨wr.heap.size, 0, none⟩ 1 1 [.bool true] rfl rfl ?c1 ?c2 ?c3 ?c4 ?c5 ?_)
    case c1 => intro j u hu; match j, hu with | 0, hu => simp at hu; subst hu; exact cell_of_row _ _ 0 _ _ _ (heap_alloc_new _ _)
    case c2 => intro u hu; simp at hu; subst hu; rfl
    case c3 => unfold maxLen; omega
    case c4 => omega
    case c5 => have := HB.out.size; simp; omega
    intro v3 w3 ho hg _
    have HB3 := Lib.hid ((HB.out.alloc HB.out.size (.cells #[.bool true] 4)).grown hg (by have := HB.out.size; simp; omega) (fun j hj => by cases hj; exact (HO.out.lt g rfl).1))
    obtain ⟨g3, c3, rfl⟩ := own_someL ho
    have HO3 : Hid (w3.ownsRow w.heap.size 4 1 (.slice (some ⟨g3, 0, none⟩) (s.length + 1) c3) (s.length + 1) (evS ps (.tt :: s))) := Lib.hid (by rw [evS_cons]; exact ho)
    clear ho hg
    go_wp2_with fail
    go_roundw
    case rel => exact ⟨k + 1, .tt :: s, g3, c3, by go_num, rfl, by omega, by simp; omega, HT, HOKR, HO3, HB3⟩
    case measure => simp [intOf]; omega
  · obtain ⟨y, hy⟩ : ∃ y, hasP ps opt vl = y := ⟨_, rfl⟩
    have HY := Lib.hid hy
    have HHas : Hid (Calls Tryz.prog 117 #[.slice a2 ps.length c2', .string opt, .string vl] wr.drew (BoolRes y wr.drew)) := Lib.hid ((spec_has _ ps opt vl wr.drew (show PK.Is wr.drew _ ps from HP.out.below HB.out.drew) hm).mono (fun e w' h => ⟨by rw [← hy]; exact h.1, h.2 ▸ Below.refl _ _⟩))
    clear hy
    have hgw := (HO.out.lt g rfl).1
    have hbs := HB.out.size
    go_upto_region 12 with fail
    go_region_held3 (fun W' => W'.cell? ⟨b2, o2 + k * 3 + 1, none⟩ = some (.string opt) ∧ W'.cell? ⟨b2, o2 + k * 3 + 2, none⟩ = some (.string vl))
     (first | assumption | exact ⟨r1, r2⟩ | exact ⟨k1, k2⟩ | exact ⟨cellL_grown k1 (World.grownBy_alloc _ _ none) (by simp), cellL_grown k2 (World.grownBy_alloc _ _ none) (by simp)⟩ | exact ⟨q1, q2⟩)
     (first | (refine step_append_ownL rfl (.tmp 49) (.tmp 62) 154 rfl w.heap.size 4 i0 (.bool false) 1 1 Tryz.underlying154 hi hz0 hz1 hz2 rfl (by decide) (.slice (some ⟨g, 0, none⟩) s.length c) s.length (evS ps s) (by simp [Act.eval]) (HO4.out.alloc _) ⟨w4.heap.size, 0, none⟩ 1 1 [.bool y] (by simp [Act.eval]) rfl (newL1 _ _ _) (by intro u hu; simp at hu; subst hu; rfl) (by unfold maxLen; omega) (by omega) (by simp; omega) ?_; intro v' w5 hown hgrow; obtain ⟨g3, c3, rfl⟩ := own_someL hown; have HO3 : Hid (w5.ownsRow w.heap.size 4 1 (.slice (some ⟨g3, 0, none⟩) (s.length + 1) c3) (s.length + 1) (evS ps (.is opt vl :: s))) := Lib.hid (by rw [evS_cons]; show w5.ownsRow w.heap.size _ 1 _ _ (evS ps s ++ [.bool (hasP ps opt vl)]); rw [HY.out]; exact hown); have HB3 := Lib.hid ((HB4.out.alloc HB4.out.size (.cells #[.bool y] 4)).grown hgrow (by simp; omega) (fun j hj => by cases hj; exact hgw)); have q1 := cellL_grown (cellL_grown k1 (World.grownBy_alloc w4 (.cells #[.bool y] 4) none) (by simp)) hgrow (by simp [Value.ownBlock]; omega); have q2 := cellL_grown (cellL_grown k2 (World.grownBy_alloc w4 (.cells #[.bool y] 4) none) (by simp)) hgrow (by simp [Value.ownBlock]; omega); clear hown hgrow) | (go_at_call 117; refine HHas.out.mono ?_; rintro e w4 ⟨rfl, hb4⟩; have HO4 := Lib.hid (own_keepL (show wr.drew.ownsRow w.heap.size 4 1 (.slice (some ⟨g, 0, none⟩) s.length c) s.length (evS ps s) from HO.out) hb4); have HB4 := Lib.hid (HB.out.drew.trans (hb4.mono hbs)); have hw4 := HB4.out.size; have k1 : w4.cell? ⟨b2, o2 + k * 3 + 1, none⟩ = some (.string opt) := (hb4.cell (p := ⟨b2, o2 + k * 3 + 1, none⟩) (show b2 < wr.heap.size by omega)).trans r1; have k2 : w4.cell? ⟨b2, o2 + k * 3 + 2, none⟩ = some (.string vl) := (hb4.cell (p := ⟨b2, o2 + k * 3 + 2, none⟩) (show b2 < wr.heap.size by omega)).trans r2; clear hb4))
    all_goals
     go_wp2_with fail
     go_roundw
     case rel => exact ⟨k + 1, .is opt vl :: s, g3, c3, by go_num, rfl, by omega, by simp; omega, HT, HOKR, HO3, HB3⟩
     case measure => simp [intOf]; omega
  · simp only [List.length_cons] at hsk
    have hc0 : wr.cell? ⟨g, q.length, none⟩ = some (.bool (a.ev ps)) := by
     rw [HO.out.cellAt q.length (by simp), evS_cons, List.getElem?_append_right (by rw [evS_length]; exact Nat.le_refl _), evS_length, Nat.sub_self]; rfl
    have hf0 := HO.out.frozenAt q.length
    have HO3 : Hid ((wr.setCell ⟨g, q.length, none⟩ (.bool (!a.ev ps))).ownsRow w.heap.size 4 1 (.slice (some ⟨g, 0, none⟩) (q.length + 1) c) (q.length + 1) (evS ps (.no a :: q))) := Lib.hid (by
     rw [evS_cons]
     exact own_set1 (evS_length ps q) (by have := HO.out; rwa [evS_cons] at this) _)
    have HB3 : Hid (Below w.heap.size w (wr.setCell ⟨g, q.length, none⟩ (.bool (!a.ev ps)))) := Lib.hid (HB.out.setCell (HO.out.lt g rfl).1 _)
    go_wp2_with fail
    go_roundw
    case rel => exact ⟨k + 1, .no a :: q, g, c, by go_num, rfl, by omega, by simp; omega, HT, HOKR, HO3, HB3⟩
    case measure => simp [intOf]; omega
  · simp only [List.length_cons] at hsk
    have hc0 : wr.cell? ⟨g, q.length, none⟩ = some (.bool (a.ev ps)) := by
     rw [HO.out.cellAt q.length (by simp; omega), evS_cons, evS_cons, List.append_assoc, List.getElem?_append_right (by rw [evS_length]; exact Nat.le_refl _), evS_length, Nat.sub_self]; rfl
    have hc1 : wr.cell? ⟨g, q.length + 1, none⟩ = some (.bool (b.ev ps)) := by
     rw [HO.out.cellAt (q.length + 1) (by simp), evS_cons, evS_cons, List.append_assoc, List.getElem?_append_right (by rw [evS_length]; omega), evS_length, show q.length + 1 - q.length = 1 by omega]; rfl
    have hf0 := HO.out.frozenAt q.length
    have HQ : Hid (∀ u, (wr.setCell ⟨g, q.length, none⟩ (.bool u)).ownsRow w.heap.size 4 1 (.slice (some ⟨g, 0, none⟩) (q.length + 1) c) (q.length + 1) (evS ps q ++ [.bool u])) := Lib.hid (fun u =>
     own_set2 (evS_length ps q) (by have := HO.out; rwa [evS_cons, evS_cons] at this) _)
    have HBQ : Hid (∀ u, Below w.heap.size w (wr.setCell ⟨g, q.length, none⟩ (.bool u))) := Lib.hid (fun u => HB.out.setCell (HO.out.lt g rfl).1 _)
    obtain ⟨x, hx⟩ : ∃ x, a.ev ps = x := ⟨_, rfl⟩
    have HX2 := Lib.hid hx
    rw [hx] at hc0
    clear hx
    have hcq : q.length + 1 ≤ c := by
     rcases HO.out.2 with ⟨h1, _⟩ | ⟨g', cap', cur, h1, _, _, hnc, _⟩
     · cases h1
     · cases h1; simp at hnc; omega
    cases x with
    | false =>
     have HO3 : Hid ((wr.setCell ⟨g, q.length, none⟩ (.bool false)).ownsRow w.heap.size 4 1 (.slice (some ⟨g, 0, none⟩) (q.length + 1) c) (q.length + 1) (evS ps (.and a b :: q))) := Lib.hid (by
      rw [evS_cons]
      have := HQ.out false
      simpa [CT.ev, HX2.out] using this)
     have HB3 := Lib.hid (HBQ.out false)
     go_wp2_with fail
     go_roundw
     case rel => exact ⟨k + 1, .and a b :: q, g, c, by go_num, rfl, by omega, by simp; omega, HT, HOKR, HO3, HB3⟩
     case measure => simp [intOf]; omega
    | true =>
     have HO3 : Hid ((wr.setCell ⟨g, q.length, none⟩ (.bool (b.ev ps))).ownsRow w.heap.size 4 1 (.slice (some ⟨g, 0, none⟩) (q.length + 1) c) (q.length + 1) (evS ps (.and a b :: q))) := Lib.hid (by
      rw [evS_cons]
      have := HQ.out (b.ev ps)
      simpa [CT.ev, HX2.out] using this)
     have HB3 := Lib.hid (HBQ.out (b.ev ps))
     go_wp2_with fail
     go_roundw
     case rel => exact ⟨k + 1, .and a b :: q, g, c, by go_num, rfl, by omega, by simp; omega, HT, HOKR, HO3, HB3⟩
     case measure => simp [intOf]; omega
  · simp only [List.length_cons] at hsk
    have hc0 : wr.cell? ⟨g, q.length, none⟩ = some (.bool (a.ev ps)) := by
     rw [HO.out.cellAt q.length (by simp; omega), evS_cons, evS_cons, List.append_assoc, List.getElem?_append_right (by rw [evS_length]; exact Nat.le_refl _), evS_length, Nat.sub_self]; rfl
    have hc1 : wr.cell? ⟨g, q.length + 1, none⟩ = some (.bool (b.ev ps)) := by
     rw [HO.out.cellAt (q.length + 1) (by simp), evS_cons, evS_cons, List.append_assoc, List.getElem?_append_right (by rw [evS_length]; omega), evS_length, show q.length + 1 - q.length = 1 by omega]; rfl
    have hf0 := HO.out.frozenAt q.length
    have HQ : Hid (∀ u, (wr.setCell ⟨g, q.length, none⟩ (.bool u)).ownsRow w.heap.size 4 1 (.slice (some ⟨g, 0, none⟩) (q.length + 1) c) (q.length + 1) (evS ps q ++ [.bool u])) := Lib.hid (fun u =>
     own_set2 (evS_length ps q) (by have := HO.out; rwa [evS_cons, evS_cons] at this) _)
    have HBQ : Hid (∀ u, Below w.heap.size w (wr.setCell ⟨g, q.length, none⟩ (.bool u))) := Lib.hid (fun u => HB.out.setCell (HO.out.lt g rfl).1 _)
    obtain ⟨x, hx⟩ : ∃ x, a.ev ps = x := ⟨_, rfl⟩
    have HX2 := Lib.hid hx
    rw [hx] at hc0
    clear hx
    have hcq : q.length + 1 ≤ c := by
     rcases HO.out.2 with ⟨h1, _⟩ | ⟨g', cap', cur, h1, _, _, hnc, _⟩
     · cases h1
     · cases h1; simp at hnc; omega
    cases x with
    | false =>
     have HO3 : Hid ((wr.setCell ⟨g, q.length, none⟩ (.bool (b.ev ps))).ownsRow w.heap.size 4 1 (.slice (some ⟨g, 0, none⟩) (q.length + 1) c) (q.length + 1) (evS ps (.or a b :: q))) := Lib.hid (by
      rw [evS_cons]
      have := HQ.out (b.ev ps)
      simpa [CT.ev, HX2.out] using this)
     have HB3 := Lib.hid (HBQ.out (b.ev ps))
     go_wp2_with fail
     go_roundw
     case rel => exact ⟨k + 1, .or a b :: q, g, c, by go_num, rfl, by omega, by simp; omega, HT, HOKR, HO3, HB3⟩
     case measure => simp [intOf]; omega
    | true =>
     have HO3 : Hid ((wr.setCell ⟨g, q.length, none⟩ (.bool true)).ownsRow w.heap.size 4 1 (.slice (some ⟨g, 0, none⟩) (q.length + 1) c) (q.length + 1) (evS ps (.or a b :: q))) := Lib.hid (by
      rw [evS_cons]
      have := HQ.out true
      simpa [CT.ev, HX2.out] using this)
     have HB3 := Lib.hid (HBQ.out true)
     go_wp2_with fail
     go_roundw
     case rel => exact ⟨k + 1, .or a b :: q, g, c, by go_num, rfl, by omega, by simp; omega, HT, HOKR, HO3, HB3⟩
     case measure => simp [intOf]; omega

end Go.Proofs.YtmnncinpepeocaaGreat
