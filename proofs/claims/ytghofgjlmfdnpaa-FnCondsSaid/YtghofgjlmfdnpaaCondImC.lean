/-
  The program's IsCond, OptionsIn and Holds.
-/
import Derived.Test.YtghofgjlmfdnpaaCondImB
import Derived.Test.YtghofgjlmfdnpaaCondOpts
import Derived.Test.YtghofgjlmfdnpaaCondEx
import Derived.WalkKit
import Derived.WalkSpells
import Derived.WalkSmall
import Derived.BigQuiet
import Derived.Deep.QuietTactic
import Derived.Deep.DeepCutAuto
import Derived.Lib.Hide
namespace Go.Proofs.Ytghofgjlmfdnpaa
open Go.RowKit

set_option maxRecDepth 100000 in
set_option maxHeartbeats 1000000 in
theorem im_IsCond : ImplIsCond := by
  intro v l w h hs hm
  have HT := Lib.hid (im_tree v l w h hs hm)
  obtain ⟨a, c, rfl⟩ := h.slice
  clear h hs
  go_enter Try.func26, Try.ntmps26
  go_wp2_with fail
  refine HT.out.mono ?_
  rintro e w1 ⟨h | h, hb⟩
  · obtain ⟨t, ht, hl, h30, rfl⟩ := h
    have HY : Hid (condB l = true) := Lib.hid (by rw [hl]; exact condB_yes (cond_post ht h30))
    have HB := Lib.hid hb
    clear hb hl h30 ht HT
    go_wp2_with fail
    go_ret
    exact ⟨by rw [HY.out]; rfl, HB.out⟩
  · obtain ⟨hl, rfl⟩ := h
    have HY := Lib.hid hl
    have HB := Lib.hid hb
    clear hb hl HT
    go_wp2_with fail
    go_ret
    exact ⟨by rw [HY.out]; rfl, HB.out⟩

/-- A place is returned, or -1. -/
def IdxRes (y : Bool) (w : World) (e : Ending) (w' : World) : Prop := ∃ z : Int, e = .returned (.int .i64 z) ∧ (y = true → 0 ≤ z) ∧ (y = false → z < 0) ∧ Below w.heap.size w w'
/-- A text is among texts. -/
def inB (ns : List ByteArray) (s : ByteArray) : Bool := decide (s ∈ ns)

set_option maxRecDepth 100000 in
set_option maxHeartbeats 1000000 in
theorem im_indexT (v : Value) (ns : List ByteArray) (s : ByteArray) (w : World) (h : Strs w v ns) (hm : ns.length ≤ 1048577) :
    Calls Try.prog 73 #[v, .string s] w (IdxRes (inB ns s) w) := by
  have HX := Lib.hid h
  obtain ⟨a, c, rfl⟩ : ∃ (a : Option Addr) (c : Nat), v = .slice a ns.length c := by
    rcases h with ⟨rfl, a, c, rfl⟩ | ⟨_, b, o, c, rfl, _⟩
    · exact ⟨a, c, rfl⟩
    · exact ⟨_, c, rfl⟩
  clear h
  go_enter Try.func73, Try.ntmps73
  go_wp2_with fail
  go_loopw [8] (fun i wr => ∃ k : Nat, k ≤ ns.length ∧ i = .int .i64 k ∧ Hid (∀ j, (hj : j < ns.length) → j < k → (ns[j]'hj) ≠ s) ∧ Hid (Below w.heap.size w wr)) (fun i _ => ns.length - (intOf i).toNat)
  case atStart => exact ⟨0, Nat.zero_le _, rfl, Lib.hid (fun j _ h => by omega), Lib.hid (Below.refl _ _)⟩
  case round =>
    obtain ⟨k, hk, rfl, HN, HB⟩ := hrel
    by_cases hlt : k < ns.length
    · obtain ⟨b2, o2, c2, hv2, hcell2⟩ : ∃ b o c : Nat, (Value.slice a ns.length c : Value) = Value.slice a ns.length c ∧ a = some ⟨b, o, none⟩ ∧ CellsS w b o ns := by
        rcases HX.out with ⟨h0, _⟩ | ⟨_, b, o, c', hv, _, hcell⟩
        · rw [h0] at hlt; simp at hlt
        · simp only [Value.slice.injEq] at hv
          exact ⟨b, o, c, rfl, hv.1, hcell⟩
      obtain ⟨rfl, hcell⟩ := hcell2
      have e1 := (hcell.below HB.out).at k hlt
      have hin : (ns[k]'hlt) ∈ ns := List.getElem_mem hlt
      clear hv2 hcell
      by_cases he : (ns[k]'hlt) = s
      · have HF : Hid (inB ns s = true) := Lib.hid (decide_eq_true (he ▸ hin))
        have hbq := str_eq he.symm
        clear he hin
        generalize ns[k]'hlt = x at *
        go_wp2_with fail
        go_ret
        exact ⟨k, rfl, fun _ => by omega, (fun h => by rw [HF.out] at h; cases h), HB.out⟩
      · have HN2 : Hid (∀ j, (hj : j < ns.length) → j < k + 1 → (ns[j]'hj) ≠ s) := Lib.hid (fun j hj h1 => by
          by_cases e : j = k
          · subst e; exact he
          · exact HN.out j hj (by omega))
        have hbq := str_ne (fun e => he e.symm)
        clear he hin
        generalize ns[k]'hlt = x at *
        go_wp2_with fail
        go_roundw
        case rel => exact ⟨k + 1, by omega, by go_num, HN2, HB⟩
        case measure => simp [intOf]; omega
    · have HF : Hid (inB ns s = false) := Lib.hid (decide_eq_false (fun hin => by
        obtain ⟨j, hj, e⟩ := List.getElem_of_mem hin
        exact HN.out j hj (by omega) e))
      go_wp2_with fail
      go_ret
      exact ⟨-1, rfl, (fun h => by rw [HF.out] at h; cases h), fun _ => by decide, HB.out⟩

set_option maxRecDepth 100000 in
set_option maxHeartbeats 1000000 in
theorem im_hasT (v : Value) (ns : List ByteArray) (s : ByteArray) (w : World) (h : Strs w v ns) (hm : ns.length ≤ 1048577) :
    Calls Try.prog 53 #[v, .string s] w (BoolRes (inB ns s) w) := by
  have HI := Lib.hid (im_indexT v ns s w h hm)
  clear h
  go_enter Try.func53, Try.ntmps53
  go_wp2_with fail
  refine HI.out.mono ?_
  rintro e w1 ⟨z, rfl, h1, h2, hb⟩
  have HB := Lib.hid hb
  have H1 := Lib.hid h1
  have H2 := Lib.hid h2
  clear h1 h2 hb HI
  by_cases hz : 0 ≤ z
  · have HY : Hid (inB ns s = true) := Lib.hid (by
      rcases Bool.eq_false_or_eq_true (inB ns s) with h | h
      · exact h
      · have := H2.out h; omega)
    go_wp2_with fail
    go_ret
    exact ⟨by rw [HY.out]; rfl, HB.out⟩
  · have HY : Hid (inB ns s = false) := Lib.hid (by
      rcases Bool.eq_false_or_eq_true (inB ns s) with h | h
      · have := H1.out h; omega
      · exact h)
    have hd : decide (0 ≤ z) = false := decide_eq_false hz
    go_wp2_with fail
    go_ret
    exact ⟨by rw [HY.out]; rfl, HB.out⟩

set_option maxRecDepth 100000 in
set_option maxHeartbeats 1000000 in
theorem im_indexP (v : Value) (ps : List PK) (o u : ByteArray) (w : World) (h : PK.Is w v ps) (hm : ps.length ≤ maxLen) :
    Calls Try.prog 128 #[v, .agg #[.string o, .string u]] w (IdxRes (hasP ps o u) w) := by
  unfold maxLen at hm
  have HX := Lib.hid h
  obtain ⟨a', c', rfl⟩ := h.slice
  clear h
  have HG0 := heap_alloc_new w (.cells #[.string o, .string u] 40)
  have HB0 : Below w.heap.size w (w.alloc (.cells #[.string o, .string u] 40)) := (Below.refl _ _).alloc (Nat.le_refl _) _
  go_enter Try.func128, Try.ntmps128
  go_wp2_with fail
  generalize w.alloc (.cells #[.string o, .string u] 40) = w0 at *
  go_loopw [8] (fun i wr => ∃ k : Nat, i = .int .i64 k ∧ k ≤ ps.length ∧ Hid (∀ p, p ∈ ps.take k → ¬(p.opt = o ∧ p.vl = u)) ∧ Hid (wr.heap[w.heap.size]? = some (.cells #[.string o, .string u] 40)) ∧ Hid (Below w.heap.size w wr)) (fun i _ => ps.length - (intOf i).toNat)
  case atStart => exact ⟨0, rfl, Nat.zero_le _, Lib.hid (fun p hp => by simp at hp), Lib.hid HG0, Lib.hid HB0⟩
  case round =>
    obtain ⟨k, rfl, hk, HN, HG, HB⟩ := hrel
    clear HG0 HB0
    by_cases hlt : k < ps.length
    rotate_left
    · have HY : Hid (hasP ps o u = false) := Lib.hid (hasP_to (by have := HN.out; rwa [List.take_of_length_le (by omega)] at this))
      go_wp2_with fail
      go_ret
      exact ⟨-1, rfl, (fun h => by rw [HY.out] at h; cases h), fun _ => by decide, HB.out⟩
    have HM : Hid ((ps[k]'hlt) ∈ ps) := Lib.hid (List.getElem_mem hlt)
    have HT : Hid (ps.take (k + 1) = ps.take k ++ [ps[k]'hlt]) := Lib.hid (List.take_succ_eq_append_getElem hlt)
    obtain ⟨b2, o2, c2, hv2, hc2, hcell2⟩ := HX.out.some (by omega)
    simp only [Value.slice.injEq] at hv2
    obtain ⟨rfl, _, rfl⟩ := hv2
    obtain ⟨r0, r1⟩ := (hcell2.below HB.out).at k hlt
    generalize ps[k]'hlt = x at *
    clear hcell2 hc2
    have HN2 : Hid (¬(x.opt = o ∧ x.vl = u) → ∀ p, p ∈ ps.take (k + 1) → ¬(p.opt = o ∧ p.vl = u)) := Lib.hid (fun hx p hp => by
      rw [HT.out] at hp
      rcases List.mem_append.1 hp with hp | hp
      · exact HN.out p hp
      · obtain rfl := List.mem_singleton.1 hp
        exact hx)
    have g0 := cell_of_row _ _ 0 _ _ _ HG.out
    have g1 := cell_of_row _ _ 1 _ _ _ HG.out
    have n1 : (k : Int) < (ps.length : Int) := by omega
    have n0 : (0 : Int) ≤ (k : Int) := by omega
    by_cases ho : x.opt = o
    · have bo := str_eq ho.symm
      by_cases hv : x.vl = u
      · have bv := str_eq hv.symm
        have HY : Hid (hasP ps o u = true) := Lib.hid (hasP_in HM.out ⟨ho, hv⟩)
        clear ho hv
        go_wp2_with fail
        go_quiet (fail)
        go_wp2_with fail
        go_ret
        exact ⟨k, rfl, fun _ => by omega, (fun h => by rw [HY.out] at h; cases h), below_drewN HB.out _⟩
      · have bv := str_ne (fun e => hv e.symm)
        have HS := Lib.hid (HN2.out (fun h => hv h.2))
        clear ho hv
        go_wp2_with fail
        go_quiet (fail)
        go_wp2_with fail
        go_roundw
        case rel => exact ⟨k + 1, by go_num, by omega, HS, Lib.hid HG.out, Lib.hid (below_drewN HB.out _)⟩
        case measure => simp [intOf]; omega
    · have bo := str_ne (fun e => ho e.symm)
      have HS := Lib.hid (HN2.out (fun h => ho h.1))
      clear ho
      go_wp2_with fail
      go_quiet (fail)
      go_wp2_with fail
      go_roundw
      case rel => exact ⟨k + 1, by go_num, by omega, HS, Lib.hid HG.out, Lib.hid (below_drewN HB.out _)⟩
      case measure => simp [intOf]; omega

set_option maxRecDepth 100000 in
set_option maxHeartbeats 1000000 in
theorem im_hasP (v : Value) (ps : List PK) (o u : ByteArray) (w : World) (h : PK.Is w v ps) (hm : ps.length ≤ maxLen) :
    Calls Try.prog 126 #[v, .agg #[.string o, .string u]] w (BoolRes (hasP ps o u) w) := by
  have HB0 : Below w.heap.size w (w.alloc (.cells #[.string o, .string u] 40)) := (Below.refl _ _).alloc (Nat.le_refl _) _
  have HI := Lib.hid (im_indexP v ps o u (w.alloc (.cells #[.string o, .string u] 40)) (h.below HB0) hm)
  clear h
  go_enter Try.func126, Try.ntmps126
  go_wp2_with fail
  generalize w.alloc (.cells #[.string o, .string u] 40) = w0 at *
  refine HI.out.mono ?_
  rintro e w1 ⟨z, rfl, h1, h2, hb⟩
  have HB := Lib.hid (HB0.trans (hb.mono HB0.size))
  have H1 := Lib.hid h1
  have H2 := Lib.hid h2
  clear h1 h2 hb HI
  by_cases hz : 0 ≤ z
  · have HY : Hid (hasP ps o u = true) := Lib.hid (by
      rcases Bool.eq_false_or_eq_true (hasP ps o u) with h | h
      · exact h
      · have := H2.out h; omega)
    go_wp2_with fail
    go_ret
    exact ⟨by rw [HY.out]; rfl, HB.out⟩
  · have HY : Hid (hasP ps o u = false) := Lib.hid (by
      rcases Bool.eq_false_or_eq_true (hasP ps o u) with h | h
      · have := H1.out h; omega
      · exact h)
    have hd : decide (0 ≤ z) = false := decide_eq_false hz
    go_wp2_with fail
    go_ret
    exact ⟨by rw [HY.out]; rfl, HB.out⟩

set_option maxRecDepth 100000 in
set_option maxHeartbeats 2000000 in
theorem im_OptionsIn : ImplOptionsIn := by
  intro v l w h hs hl
  obtain ⟨i0, hi, hz0, hz1, hz2⟩ := info_parts infoT
  have HC := Lib.hid (im_IsCond v l w h hs hl)
  have HX := Lib.hid h
  obtain ⟨a', c', rfl⟩ := h.slice
  unfold maxLen at hl
  clear h hs
  rcases Bool.eq_false_or_eq_true (condB l) with hc | hc
  rotate_left
  · have HR : Hid (optsR l = []) := Lib.hid (by unfold optsR; rw [hc]; rfl)
    rw [hc] at HC
    clear hc
    go_enter Try.func21, Try.ntmps21
    go_wp2_with fail
    refine HC.out.mono ?_
    rintro e w1 ⟨rfl, hb⟩
    have HB := Lib.hid hb
    clear hb
    go_wp2_with fail
    go_ret
    exact ⟨_, rfl, by rw [HR.out]; exact ⟨rfl, Or.inl ⟨rfl, rfl⟩⟩, HB.out⟩
  have HR : Hid (optsR l = optsL l) := Lib.hid (by unfold optsR; rw [hc]; rfl)
  have hl30 := (condB_iff.1 hc).1
  rw [hc] at HC
  clear hc
  go_enter Try.func21, Try.ntmps21
  go_wp2_with fail
  refine HC.out.mono ?_
  rintro e w0 ⟨rfl, hb⟩
  have HB0 := Lib.hid hb
  clear hb HC
  go_wp2_with fail
  go_loopw [3, 11] (fun x i wr => ∃ (k : Nat) (ns : List ByteArray) (a : Option Addr) (c : Nat), i = .int .i64 k ∧ x = .slice a ns.length c ∧ k ≤ l.length ∧ ns.length ≤ k ∧ Hid (ns = optsL (l.take k)) ∧ Hid (wr.ownsRow w.heap.size 9 1 (.slice a ns.length c) ns.length (cellsT ns)) ∧ Hid (Below w.heap.size w wr)) (fun _ i _ => (l.length - (intOf i).toNat))
  case atStart => exact ⟨0, [], none, 0, rfl, rfl, Nat.zero_le _, Nat.zero_le _, Lib.hid rfl, Lib.hid ⟨rfl, Or.inl ⟨rfl, rfl⟩⟩, HB0⟩
  case round =>
    obtain ⟨k, ns, a, c, rfl, rfl, hk, hnk, HN, HO, HB⟩ := hrel
    clear HB0
    by_cases hlt : k < l.length
    rotate_left
    · have HE : Hid (ns = optsL l) := Lib.hid (by rw [HN.out, List.take_of_length_le (by omega)])
      go_wp2_with fail
      go_ret
      exact ⟨_, rfl, by rw [HR.out, ← HE.out]; exact HO.out, HB.out⟩
    have HT := Lib.hid (optsL_take hlt)
    obtain ⟨b2, o2, c2, hv2, hc2, hcell2⟩ := HX.out.some (by omega)
    simp only [Value.slice.injEq] at hv2
    obtain ⟨rfl, _, rfl⟩ := hv2
    obtain ⟨r0, r1, r2⟩ := (hcell2.below HB.out).at k hlt
    generalize l[k]'hlt = x at *
    clear hcell2 hc2
    go_upto_region 7 with fail
    have HG := heap_alloc_new wr (.cells #[.int .i64 x.kind, .string x.opt, .string x.vl] 43)
    have HB1 := Lib.hid (HB.out.alloc HB.out.size (.cells #[.int .i64 x.kind, .string x.opt, .string x.vl] 43))
    have HO1 := Lib.hid (HO.out.alloc (.cells #[.int .i64 x.kind, .string x.opt, .string x.vl] 43))
    generalize wr.alloc (.cells #[.int .i64 x.kind, .string x.opt, .string x.vl] 43) = w1 at *
    have g0 := cell_of_row _ _ 0 _ _ _ HG
    have g1 := cell_of_row _ _ 1 _ _ _ HG
    clear r0 r1 r2
    by_cases hk1 : x.kind = 1
    rotate_left
    · have hb1 : (x.kind == 1) = false := beq_eq_false_iff_ne.2 hk1
      have HN2 : Hid (ns = optsL (l.take (k + 1))) := Lib.hid (by rw [HT.out, ← HN.out]; exact (if_neg (fun h => hk1 h.1)).symm)
      clear hk1
      go_wp2_with fail
      go_roundw
      case rel => exact ⟨k + 1, ns, a, c, by go_num, rfl, by omega, by omega, HN2, HO1, HB1⟩
      case measure => simp [intOf]; omega
    rw [hk1] at g0
    go_wp2_with fail
    refine (im_hasT _ ns x.opt _ (strs_of_rowT rfl HO1.out) (by omega)).mono ?_
    rintro e w2 ⟨rfl, hb⟩
    have HG2 := blk_below HG hb
    have HO2 := Lib.hid (own_keepL HO1.out hb)
    have HB2 := Lib.hid (HB1.out.trans (hb.mono HB1.out.size))
    clear hb g0 g1 HG HO1 HB1
    have g1 := cell_of_row _ _ 1 _ _ _ HG2
    by_cases hin : x.opt ∈ ns
    · have hf : inB ns x.opt = true := decide_eq_true hin
      have HN2 : Hid (ns = optsL (l.take (k + 1))) := Lib.hid (by rw [HT.out, ← HN.out]; exact (if_neg (fun h => h.2 hin)).symm)
      rw [hf]
      clear hin hk1 hf
      go_wp2_with fail
      go_roundw
      case rel => exact ⟨k + 1, ns, a, c, by go_num, rfl, by omega, by omega, HN2, HO2, HB2⟩
      case measure => simp [intOf]; omega
    · have hf : inB ns x.opt = false := decide_eq_false hin
      have HN2 : Hid (ns ++ [x.opt] = optsL (l.take (k + 1))) := Lib.hid (by rw [HT.out, ← HN.out]; exact (if_pos ⟨hk1, hin⟩).symm)
      rw [hf]
      clear hin hk1 hf
      have hbs := HB2.out.size
      go_wp2_with (at_builtin; refine wpList_append_own _ rfl _ _ 36 rfl w.heap.size 9 i0 (.string ByteArray.empty) 1 16 Try.underlying36 hi hz0 hz1 hz2 rfl (by decide) _ ns.length (cellsT ns) rfl (HO2.out.alloc _) ⟨w2.heap.size, 0, none⟩ 1 1 [.string x.opt] rfl rfl (newL1 _ _ _) (by intro u hu; simp at hu; subst hu; rfl) (by unfold maxLen; omega) (by omega) (by simp; omega) ?_)
      intro v3 w3 ho hg _
      obtain ⟨g3, c3, rfl⟩ := own_someL ho
      have HO3 : Hid (w3.ownsRow w.heap.size 9 1 (.slice (some ⟨g3, 0, none⟩) (ns.length + 1) c3) (ns.length + 1) (cellsT (ns ++ [x.opt]))) := Lib.hid (by rw [cellsT_snoc]; exact ho)
      have HB3 := Lib.hid ((HB2.out.alloc hbs (.cells #[.string x.opt] 9)).grown hg (by simp; omega) (fun j hj => (HO2.out.lt j hj).1))
      clear ho hg
      go_wp2_with fail
      go_roundw
      case rel => exact ⟨k + 1, ns ++ [x.opt], some ⟨g3, 0, none⟩, c3, by go_num, by simp, by omega, by simp; omega, HN2, by simpa using HO3, HB3⟩
      case measure => simp [intOf]; omega
end Go.Proofs.Ytghofgjlmfdnpaa
