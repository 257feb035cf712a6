/-
  The program's functions on calendars keep their contracts.
-/
import Derived.Test.YtkhonlcekjckoaaCalEx
import Derived.Test.YtkhonlcekjckoaaCalFind
import Derived.Test.YtkhonlcekjckoaaCalPlan
import Derived.Test.YtkhonlcekjckoaaCalImIs
import Derived.Test.YtkhonlcekjckoaaCalWork
import Derived.Test.YtkhonlcekjckoaaCalFindW
import Derived.Test.YtkhonlcekjckoaaCalFinI
import Derived.Test.YtkhonlcekjckoaaHold
import Derived.WalkKit
import Derived.WalkSpells
import Derived.WalkSmall
import Derived.BigQuiet
import Derived.Deep.QuietTactic
import Derived.IntWalk
import Derived.Lib.Hide
namespace Go.Proofs.Ytkhonlcekjckoaa
open Go.RowKit

theorem impl_IsCalendar : ImplIsCalendar := fun v ws es w h _ hm' => impl_isCal v ws es w h hm'
theorem impl_FinishDay : ImplFinishDay := fun v ws es d n w h _ hm' h0 h1 => impl_finish v ws es d n w h hm' h0 h1

theorem hon_yes {ws : List Int} {es : List (Int × Int)} {d : Nat} (h : On ws es d) : hon ws es d = hOf ws es d := by unfold hon; rw [if_pos h]; rfl
theorem hon_no {ws : List Int} {es : List (Int × Int)} {d : Int} (h : ¬On ws es d) : hon ws es d = 0 := if_neg h
theorem hbt_yes {ws : List Int} {es : List (Int × Int)} {a b : Int} (h : IsCal ws es) : hbt ws es a b = cnt (hOf ws es) a b := if_pos h
theorem hbt_no {ws : List Int} {es : List (Int × Int)} {a b : Int} (h : ¬IsCal ws es) : hbt ws es a b = 0 := if_neg h
theorem wbt_up {ws : List Int} {es : List (Int × Int)} {a b : Int} (h : IsCal ws es) (hab : a ≤ b) : wbt ws es a b = cnt (wOf ws es) a b := by unfold wbt; rw [if_pos h, wb_eq hab]
theorem wbt_dn {ws : List Int} {es : List (Int × Int)} {a b : Int} (h : IsCal ws es) (hab : b ≤ a) : wbt ws es a b = -cnt (wOf ws es) b a := by unfold wbt; rw [if_pos h, wb_eq hab, wb_neg]
theorem wbt_no {ws : List Int} {es : List (Int × Int)} {a b : Int} (h : ¬IsCal ws es) : wbt ws es a b = 0 := if_neg h

set_option maxRecDepth 100000 in
set_option maxHeartbeats 1000000 in
theorem impl_HoursOn : ImplHoursOn := by
  intro v ws es d w h _ hm'
  obtain ⟨vw, vx, rfl, hw, hx⟩ := h
  have HB : Below w.heap.size w (w.alloc (.cells #[vw, vx] 27)) := (Below.refl _ _).alloc (Nat.le_refl _) _
  have HR := heap_alloc_new w (.cells #[vw, vx] 27)
  have HC : Hid (Cal (w.alloc (.cells #[vw, vx] 27)) (.agg #[vw, vx]) ws es) := Lib.hid (Cal.below ⟨vw, vx, rfl, hw, hx⟩ HB)
  clear hw hx
  go_enter Try.func19, Try.ntmps19
  go_wp2_with fail
  generalize w.alloc (.cells #[vw, vx] 27) = w1 at *
  refine (impl_isCal _ ws es _ HC.out hm').mono ?_
  rintro e w2 ⟨rfl, hb⟩
  have HR2 := blk_below HR hb
  have HC2 := Lib.hid (HC.out.below hb)
  have HB2 := Lib.hid (HB.trans (hb.mono HB.size))
  have c0 := cell_of_row _ _ 0 _ _ _ HR2
  have c1 := cell_of_row _ _ 1 _ _ _ HR2
  clear hb HR HB HC
  by_cases hcal : IsCal ws es
  · rw [decide_eq_true hcal]
    by_cases hday : 0 ≤ d ∧ d ≤ 999
    · have HI := Lib.hid (inB_yes hday.1 hday.2)
      have HO : On ws es d := ⟨hcal, hday⟩
      obtain ⟨k, rfl⟩ : ∃ k : Nat, d = (k : Int) := ⟨d.toNat, by omega⟩
      have HY := Lib.hid (hon_yes HO)
      have HP := impl_planned (.agg #[vw, vx]) ws es k w2 HC2.out hcal (by omega)
      clear hcal HO hday
      go_wp2_with fail
      refine (impl_isDay _ _ _ HI.out).mono ?_
      rintro e w3 ⟨rfl, rfl⟩
      go_wp2_with fail
      refine HP.mono ?_
      rintro e w4 ⟨rfl, hb4⟩
      go_wp2_with fail
      go_ret
      exact ⟨by rw [HY.out]; rfl, HB2.out.trans (hb4.mono HB2.out.size)⟩
    · have HI := Lib.hid (inB_no (x := d) (lo := 0) (hi := 999) (by omega))
      have HY := Lib.hid (hon_no (ws := ws) (es := es) (d := d) (fun h => hday h.2))
      clear hcal hday
      go_wp2_with fail
      refine (impl_isDay _ _ _ HI.out).mono ?_
      rintro e w3 ⟨rfl, rfl⟩
      go_wp2_with fail
      go_ret
      exact ⟨by rw [HY.out]; rfl, HB2.out⟩
  · rw [decide_eq_false hcal]
    have HY := Lib.hid (hon_no (ws := ws) (es := es) (d := d) (fun h => hcal h.1))
    clear hcal
    go_wp2_with fail
    go_ret
    exact ⟨by rw [HY.out]; rfl, HB2.out⟩

set_option maxRecDepth 100000 in
set_option maxHeartbeats 1000000 in
theorem impl_HoursBetween : ImplHoursBetween := by
  intro v ws es a b w h _ hm'
  obtain ⟨vw, vx, rfl, hw, hx⟩ := h
  have HB : Below w.heap.size w (w.alloc (.cells #[vw, vx] 27)) := (Below.refl _ _).alloc (Nat.le_refl _) _
  have HR := heap_alloc_new w (.cells #[vw, vx] 27)
  have HC : Hid (Cal (w.alloc (.cells #[vw, vx] 27)) (.agg #[vw, vx]) ws es) := Lib.hid (Cal.below ⟨vw, vx, rfl, hw, hx⟩ HB)
  clear hw hx
  go_enter Try.func22, Try.ntmps22
  go_wp2_with fail
  generalize w.alloc (.cells #[vw, vx] 27) = w1 at *
  refine (impl_isCal _ ws es _ HC.out hm').mono ?_
  rintro e w2 ⟨rfl, hb⟩
  have HR2 := blk_below HR hb
  have HC2 := Lib.hid (HC.out.below hb)
  have HB2 := Lib.hid (HB.trans (hb.mono HB.size))
  have c0 := cell_of_row _ _ 0 _ _ _ HR2
  have c1 := cell_of_row _ _ 1 _ _ _ HR2
  clear hb HR HB HC
  by_cases hcal : IsCal ws es
  · rw [decide_eq_true hcal]
    have HY := Lib.hid (hbt_yes (a := a) (b := b) hcal)
    have HP := impl_workBetween (.agg #[vw, vx]) ws es a b w2 HC2.out hcal
    clear hcal
    go_wp2_with fail
    refine HP.mono ?_
    rintro e w4 ⟨rfl, hb4⟩
    go_wp2_with fail
    go_ret
    exact ⟨by rw [HY.out]; rfl, HB2.out.trans (hb4.mono HB2.out.size)⟩
  · rw [decide_eq_false hcal]
    have HY := Lib.hid (hbt_no (a := a) (b := b) hcal)
    clear hcal
    go_wp2_with fail
    go_ret
    exact ⟨by rw [HY.out]; rfl, HB2.out⟩

set_option maxRecDepth 100000 in
set_option maxHeartbeats 1000000 in
theorem impl_WorkdaysBetween : ImplWorkdaysBetween := by
  intro v ws es a b w h _ hm'
  obtain ⟨vw, vx, rfl, hw, hx⟩ := h
  have HB : Below w.heap.size w (w.alloc (.cells #[vw, vx] 27)) := (Below.refl _ _).alloc (Nat.le_refl _) _
  have HR := heap_alloc_new w (.cells #[vw, vx] 27)
  have HC : Hid (Cal (w.alloc (.cells #[vw, vx] 27)) (.agg #[vw, vx]) ws es) := Lib.hid (Cal.below ⟨vw, vx, rfl, hw, hx⟩ HB)
  clear hw hx
  go_enter Try.func17, Try.ntmps17
  go_wp2_with fail
  generalize w.alloc (.cells #[vw, vx] 27) = w1 at *
  refine (impl_isCal _ ws es _ HC.out hm').mono ?_
  rintro e w2 ⟨rfl, hb⟩
  have HR2 := blk_below HR hb
  have HC2 := Lib.hid (HC.out.below hb)
  have HB2 := Lib.hid (HB.trans (hb.mono HB.size))
  have c0 := cell_of_row _ _ 0 _ _ _ HR2
  have c1 := cell_of_row _ _ 1 _ _ _ HR2
  clear hb HR HB HC
  by_cases hcal : IsCal ws es
  · rw [decide_eq_true hcal]
    by_cases hab : b < a
    · have HY := Lib.hid (wbt_dn hcal (Int.le_of_lt hab))
      have HP := impl_workBetween (.agg #[vw, vx]) ws es b a w2 HC2.out hcal
      have hbd := cnt_bound (f := wOf ws es) (B := 1) (fun d => by have := wOf_bit hcal d; omega) b a
      have n1 : ¬a < b := by omega
      clear hcal
      generalize cnt (wOf ws es) b a = m at *
      go_wp2_with fail
      refine HP.mono ?_
      rintro e w4 ⟨rfl, hb4⟩
      go_wp2_with fail
      go_ret
      exact ⟨by rw [HY.out]; rfl, HB2.out.trans (hb4.mono HB2.out.size)⟩
    · by_cases hlt : a < b
      · have HY := Lib.hid (wbt_up hcal (Int.not_lt.1 hab))
        have HP := impl_workBetween (.agg #[vw, vx]) ws es a b w2 HC2.out hcal
        clear hcal
        generalize cnt (wOf ws es) a b = m at *
        go_wp2_with fail
        refine HP.mono ?_
        rintro e w4 ⟨rfl, hb4⟩
        go_wp2_with fail
        go_ret
        exact ⟨by rw [HY.out]; rfl, HB2.out.trans (hb4.mono HB2.out.size)⟩
      · obtain rfl : a = b := by omega
        have HY := Lib.hid (wbt_up hcal (Int.le_refl a))
        have HP := impl_workBetween (.agg #[vw, vx]) ws es a a w2 HC2.out hcal
        clear hcal
        generalize cnt (wOf ws es) a a = m at *
        go_wp2_with fail
        refine HP.mono ?_
        rintro e w4 ⟨rfl, hb4⟩
        go_wp2_with fail
        go_ret
        exact ⟨by rw [HY.out]; rfl, HB2.out.trans (hb4.mono HB2.out.size)⟩
  · rw [decide_eq_false hcal]
    have HY := Lib.hid (wbt_no (a := a) (b := b) hcal)
    clear hcal
    go_wp2_with fail
    go_ret
    exact ⟨by rw [HY.out]; rfl, HB2.out⟩

theorem addOk_zero {ws : List Int} {es : List (Int × Int)} {d : Int} (h : On ws es d) : AddRes ws es d 0 d true :=
  addRes_yes h ⟨h.2.1, h.2.2, wb_self d, fun _ => ⟨Int.le_refl _, fun x h1 h2 => by omega⟩, fun h => by omega⟩
theorem add_back {ws : List Int} {es : List (Int × Int)} {d n x : Int} {y : Bool} (h : On ws es d) (hn : n < 0) (hf : FindRes ws es (-1) (d - 1) n x y) : AddRes ws es d n x y := by
  rcases hf with ⟨rfl, p, z, hp, rfl, hl⟩ | ⟨rfl, rfl, hl⟩
  · exact find_dn h hn hp (by omega)
  · exact find_dn_none h (by omega)
theorem add_on {ws : List Int} {es : List (Int × Int)} {d n x : Int} (h : On ws es d) (hn : 0 < n) (hf : FindRes ws es 1 d n x true) : (0 ≤ x ∧ x ≤ 999) ∧ (x = 999 → AddRes ws es d n 0 false) ∧ (x ≠ 999 → AddRes ws es d n (x + 1) true) := by
  rcases hf with ⟨_, p, z, hp, rfl, hl⟩ | ⟨hf, _⟩
  · have hz := z.2
    have := find_up h hn hp (by omega)
    exact ⟨by omega, fun e => this.1 (by omega), fun e => this.2 (by omega)⟩
  · cases hf
theorem add_over {ws : List Int} {es : List (Int × Int)} {d n x : Int} (h : On ws es d) (hf : FindRes ws es 1 d n x false) : AddRes ws es d n 0 false := by
  rcases hf with ⟨hf, _⟩ | ⟨_, _, hl⟩
  · cases hf
  · exact find_up_none h (by omega)

set_option maxRecDepth 100000 in
set_option maxHeartbeats 1000000 in
theorem impl_AddWorkdays : ImplAddWorkdays := by
  intro v ws es d n w h _ hm' hn0 hn1
  obtain ⟨vw, vx, rfl, hw, hx⟩ := h
  have HB : Below w.heap.size w (w.alloc (.cells #[vw, vx] 27)) := (Below.refl _ _).alloc (Nat.le_refl _) _
  have HR := heap_alloc_new w (.cells #[vw, vx] 27)
  have HC : Hid (Cal (w.alloc (.cells #[vw, vx] 27)) (.agg #[vw, vx]) ws es) := Lib.hid (Cal.below ⟨vw, vx, rfl, hw, hx⟩ HB)
  clear hw hx
  go_enter Try.func15, Try.ntmps15
  go_wp2_with fail
  generalize w.alloc (.cells #[vw, vx] 27) = w1 at *
  refine (impl_isCal _ ws es _ HC.out hm').mono ?_
  rintro e w2 ⟨rfl, hb⟩
  have HR2 := blk_below HR hb
  have HC2 := Lib.hid (HC.out.below hb)
  have HB2 := Lib.hid (HB.trans (hb.mono HB.size))
  have c0 := cell_of_row _ _ 0 _ _ _ HR2
  have c1 := cell_of_row _ _ 1 _ _ _ HR2
  clear hb HR HB HC
  by_cases hcal : IsCal ws es
  · rw [decide_eq_true hcal]
    by_cases hday : 0 ≤ d ∧ d ≤ 999
    · have HI := Lib.hid (inB_yes hday.1 hday.2)
      have HO : Hid (On ws es d) := Lib.hid ⟨hcal, hday⟩
      have hd0 := hday.1
      have hd1 := hday.2
      rcases Int.lt_trichotomy n 0 with hn | hn | hn
      · have b0 : (n == 0) = false := beq_eq_false_iff_ne.2 (by omega)
        have HN := Lib.hid hn
        have HF := impl_findWorkday (.agg #[vw, vx]) ws es (d - 1) (-1) n w2 HC2.out hcal (Or.inr rfl) (by omega) (days_length_dn _ (by omega))
        clear hcal hday
        go_wp2_with fail
        refine (impl_isDay _ _ _ HI.out).mono ?_
        rintro e w3 ⟨rfl, rfl⟩
        go_wp2_with fail
        refine HF.mono ?_
        rintro e w4 ⟨x, y, rfl, hf, hb4⟩
        have HA := Lib.hid (add_back HO.out HN.out hf)
        clear hf
        go_wp2_with fail
        go_ret2
        exact ⟨x, y, rfl, HA.out, HB2.out.trans (hb4.mono HB2.out.size)⟩
      · subst hn
        have HA := Lib.hid (addOk_zero HO.out)
        clear hcal hday
        go_wp2_with fail
        refine (impl_isDay _ _ _ HI.out).mono ?_
        rintro e w3 ⟨rfl, rfl⟩
        go_wp2_with fail
        go_ret2
        exact ⟨_, _, rfl, HA.out, HB2.out⟩
      · have b0 : (n == 0) = false := beq_eq_false_iff_ne.2 (by omega)
        have b2 : decide (n < 0) = false := decide_eq_false (by omega)
        have HN := Lib.hid hn
        have HF := impl_findWorkday (.agg #[vw, vx]) ws es d 1 n w2 HC2.out hcal (Or.inl rfl) (by omega) (days_length_up _ (by omega))
        clear hcal hday
        go_wp2_with fail
        refine (impl_isDay _ _ _ HI.out).mono ?_
        rintro e w3 ⟨rfl, rfl⟩
        go_wp2_with fail
        refine HF.mono ?_
        rintro e w4 ⟨x, y, rfl, hf, hb4⟩
        cases y with
        | true =>
          have hx := add_on HO.out HN.out hf
          have hx0 := hx.1
          by_cases h9 : x = 999
          · have HA := Lib.hid (hx.2.1 h9)
            have b9 : (x == 999) = true := beq_iff_eq.2 h9
            clear hx hf h9
            go_wp2_with fail
            go_ret2
            exact ⟨_, _, rfl, HA.out, HB2.out.trans (hb4.mono HB2.out.size)⟩
          · have HA := Lib.hid (hx.2.2 h9)
            have b9 : (x == 999) = false := beq_eq_false_iff_ne.2 h9
            clear hx hf h9
            go_wp2_with fail
            go_ret2
            exact ⟨_, _, rfl, HA.out, HB2.out.trans (hb4.mono HB2.out.size)⟩
        | false =>
          have HA := Lib.hid (add_over HO.out hf)
          clear hf
          go_wp2_with fail
          go_ret2
          exact ⟨_, _, rfl, HA.out, HB2.out.trans (hb4.mono HB2.out.size)⟩
    · have HI := Lib.hid (inB_no (x := d) (lo := 0) (hi := 999) (by omega))
      have HA := Lib.hid (addRes_off (ws := ws) (es := es) (day := d) (n := n) (fun h => hday h.2))
      clear hcal hday
      go_wp2_with fail
      refine (impl_isDay _ _ _ HI.out).mono ?_
      rintro e w3 ⟨rfl, rfl⟩
      go_wp2_with fail
      go_ret2
      exact ⟨_, _, rfl, HA.out, HB2.out⟩
  · rw [decide_eq_false hcal]
    have HA := Lib.hid (addRes_off (ws := ws) (es := es) (day := d) (n := n) (fun h => hcal h.1))
    clear hcal
    go_wp2_with fail
    go_ret2
    exact ⟨_, _, rfl, HA.out, HB2.out⟩
end Go.Proofs.Ytkhonlcekjckoaa
