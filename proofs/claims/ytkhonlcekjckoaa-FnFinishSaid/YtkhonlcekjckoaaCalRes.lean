/-
  Calendars: what AddWorkdays and FinishDay answer, and what the laws say of it. No program is named here.
-/
import Derived.Test.YtkhonlcekjckoaaCalLib
import Derived.WalkKit
import Derived.Lib.Hide
namespace Go.Proofs.Ytkhonlcekjckoaa

section
variable {ws : List Int} {es : List (Int × Int)}
theorem wb_self (a : Int) : wb ws es a a = 0 := by unfold wb; omega
theorem wb_neg (a b : Int) : wb ws es b a = -wb ws es a b := by unfold wb; omega
theorem wb_add (a m b : Int) : wb ws es a m + wb ws es m b = wb ws es a b := by unfold wb; omega
theorem wb_succ {a : Int} {d : Nat} (hd : d < 1000) : wb ws es a ((d : Int) + 1) = wb ws es a d + wOf ws es d := by
  unfold wb
  rw [show ((d : Int) + 1) = ((d + 1 : Nat) : Int) by omega, cl_nat (by omega), cl_nat (by omega)]
  simp only [pre]
  omega
theorem wb_nonneg (h : IsCal ws es) {a b : Int} (hab : a ≤ b) : 0 ≤ wb ws es a b := by
  unfold wb
  have := pre_mono (f := wOf ws es) (fun d => by have := wOf_bit h d; omega) (cl_mono hab)
  omega
theorem wb_bound (h : IsCal ws es) (a b : Int) : -1000 ≤ wb ws es a b ∧ wb ws es a b ≤ 1000 := by
  unfold wb
  have hf : ∀ d, 0 ≤ wOf ws es d ∧ wOf ws es d ≤ 1 := fun d => by have := wOf_bit h d; omega
  have h1 := pre_bound hf (cl a)
  have h2 := pre_bound hf (cl b)
  have := cl_le a
  have := cl_le b
  omega

/-- The day that AddWorkdays finds. -/
def AddOk (ws : List Int) (es : List (Int × Int)) (day n b : Int) : Prop :=
  0 ≤ b ∧ b ≤ 999 ∧ wb ws es day b = n ∧ (0 ≤ n → day ≤ b ∧ ∀ x, day ≤ x → x < b → wb ws es day x < n) ∧ (n < 0 → b ≤ day ∧ ∀ x, b < x → x ≤ day → n < wb ws es day x)
/-- A valid calendar and a day of it. -/
def On (ws : List Int) (es : List (Int × Int)) (day : Int) : Prop := IsCal ws es ∧ 0 ≤ day ∧ day ≤ 999
instance (ws : List Int) (es : List (Int × Int)) (day : Int) : Decidable (On ws es day) := by unfold On; infer_instance
/-- What AddWorkdays answers. -/
def AddRes (ws : List Int) (es : List (Int × Int)) (day n x : Int) (y : Bool) : Prop :=
  (y = true ∧ On ws es day ∧ AddOk ws es day n x) ∨ (y = false ∧ x = 0 ∧ ¬(On ws es day ∧ ∃ b, AddOk ws es day n b))

theorem AddOk.one {day n b b' : Int} (h : AddOk ws es day n b) (h' : AddOk ws es day n b') : b = b' := by
  by_cases hn : 0 ≤ n
  · have h1 := (h.2.2.2.1 hn)
    have h2 := (h'.2.2.2.1 hn)
    rcases Int.lt_trichotomy b b' with c | c | c
    · have := h2.2 b h1.1 c; have := h.2.2.1; omega
    · exact c
    · have := h1.2 b' h2.1 c; have := h'.2.2.1; omega
  · have h1 := (h.2.2.2.2 (by omega))
    have h2 := (h'.2.2.2.2 (by omega))
    rcases Int.lt_trichotomy b b' with c | c | c
    · have := h1.2 b' c h2.1; have := h'.2.2.1; omega
    · exact c
    · have := h2.2 b c h1.1; have := h.2.2.1; omega
theorem AddRes.one {day n x x' : Int} {y y' : Bool} (h : AddRes ws es day n x y) (h' : AddRes ws es day n x' y') : x = x' ∧ y = y' := by
  rcases h with ⟨rfl, ho, h⟩ | ⟨rfl, rfl, h⟩ <;> rcases h' with ⟨rfl, ho', h'⟩ | ⟨rfl, rfl, h'⟩
  · exact ⟨h.one h', rfl⟩
  · exact absurd ⟨ho, _, h⟩ h'
  · exact absurd ⟨ho', _, h'⟩ h
  · exact ⟨rfl, rfl⟩
theorem addRes_off {day n : Int} (h : ¬On ws es day) : AddRes ws es day n 0 false := Or.inr ⟨rfl, rfl, fun h' => h h'.1⟩
theorem addRes_yes {day n b : Int} (ho : On ws es day) (h : AddOk ws es day n b) : AddRes ws es day n b true := Or.inl ⟨rfl, ho, h⟩
/-- Up to d the workdays are fewer than n: d is found, or nothing. -/
def Up (ws : List Int) (es : List (Int × Int)) (day n : Int) (d : Nat) : Prop := day ≤ d ∧ d ≤ 1000 ∧ wb ws es day d ≤ n ∧ ∀ x, day ≤ x → x < d → wb ws es day x < n
theorem up_start {day : Int} (h : On ws es day) {n : Int} (hn : 0 ≤ n) {d : Nat} (hd : day = d) : Up ws es day n d := by
  subst hd
  exact ⟨Int.le_refl _, by have := h.2.2; omega, by rw [wb_self]; exact hn, fun x h1 h2 => by omega⟩
theorem up_step {day n : Int} (h : On ws es day) {d : Nat} (hu : Up ws es day n d) (hlt : wb ws es day d < n) (hd : d < 1000) : Up ws es day n (d + 1) := by
  have h1 := hu.1
  have hb := wOf_bit h.1 d
  have hs := wb_succ (ws := ws) (es := es) (a := day) hd
  refine ⟨by omega, by omega, by push_cast; rw [hs]; omega, fun x h2 h3 => ?_⟩
  by_cases e : x = d
  · subst e; exact hlt
  · exact hu.2.2.2 x h2 (by omega)
theorem up_found {day n : Int} {d : Nat} (hu : Up ws es day n d) (he : wb ws es day d = n) (hd : d ≤ 999) (hn : 0 ≤ n) : AddOk ws es day n d :=
  ⟨by omega, by omega, he, fun _ => ⟨hu.1, hu.2.2.2⟩, fun h => by omega⟩
theorem up_none {day n : Int} {d : Nat} (hu : Up ws es day n d) (hd : d = 1000) (hn : 0 ≤ n) : AddRes ws es day n 0 false := by
  refine Or.inr ⟨rfl, rfl, fun ⟨_, b, hb⟩ => ?_⟩
  have h1 := hb.2.2.2.1 hn
  have h2 := hu.2.2.2 b h1.1 (by have := hb.2.1; omega)
  have := hb.2.2.1
  omega
/-- Down to d the workdays back are fewer. -/
def Down (ws : List Int) (es : List (Int × Int)) (day n : Int) (d : Nat) : Prop := (d : Int) ≤ day ∧ n ≤ wb ws es day d ∧ ∀ x, (d : Int) < x → x ≤ day → n < wb ws es day x
theorem down_start {day : Int} {n : Int} (hn : n ≤ 0) {d : Nat} (hd : day = d) : Down ws es day n d := by
  subst hd
  exact ⟨Int.le_refl _, by rw [wb_self]; exact hn, fun x h1 h2 => by omega⟩
theorem down_step {day n : Int} (h : On ws es day) {d : Nat} (hu : Down ws es day n (d + 1)) (hlt : n < wb ws es day ((d + 1 : Nat) : Int)) : Down ws es day n d := by
  have h1 := hu.1
  have hb := wOf_bit h.1 d
  have hs := wb_succ (ws := ws) (es := es) (a := day) (d := d) (by have := h.2.2; omega)
  push_cast at hlt
  rw [hs] at hlt
  refine ⟨by omega, by omega, fun x h2 h3 => ?_⟩
  by_cases e : x = ((d + 1 : Nat) : Int)
  · subst e; push_cast; rw [hs]; exact hlt
  · exact hu.2.2 x (by omega) h3
theorem down_found {day n : Int} (h : On ws es day) {d : Nat} (hu : Down ws es day n d) (he : wb ws es day d = n) (hn : n < 0) : AddOk ws es day n d :=
  ⟨by omega, by have := hu.1; have := h.2.2; omega, he, fun h => by omega, fun _ => ⟨hu.1, hu.2.2⟩⟩
theorem down_none {day n : Int} (hu : Down ws es day n 0) (he : n < wb ws es day (0 : Nat)) (hn : n < 0) : AddRes ws es day n 0 false := by
  refine Or.inr ⟨rfl, rfl, fun ⟨_, b, hb⟩ => ?_⟩
  have h1 := hb.2.2.2.2 hn
  have h2 := hb.2.2.1
  by_cases e : b = 0
  · subst e; simp at he; omega
  · have := hu.2.2 b (by have := hb.1; omega) h1.1; omega

/-- What the laws on workdays ask. -/
theorem add_zero {day b : Int} (h : AddOk ws es day 0 b) : b = day := by
  have h1 := h.2.2.2.1 (Int.le_refl _)
  by_cases e : b = day
  · exact e
  · have := h1.2 day (Int.le_refl _) (by omega); rw [wb_self] at this; omega
theorem wb_pred (hc : IsCal ws es) {day b : Int} (h0 : 0 ≤ day) (hlt : day < b) (hb : b ≤ 1000) : wb ws es day (b - 1) ≤ wb ws es day b ∧ wb ws es day b ≤ wb ws es day (b - 1) + 1 := by
  obtain ⟨d, rfl⟩ : ∃ d : Nat, b = (d : Int) + 1 := ⟨(b - 1).toNat, by omega⟩
  have hs := wb_succ (ws := ws) (es := es) (a := day) (d := d) (by omega)
  have hw := wOf_bit hc d
  rw [show ((d : Int) + 1 - 1) = d by omega, hs]
  omega
theorem add_up {day n b : Int} (ho : On ws es day) (h : AddOk ws es day n b) (hn : 0 < n) : day < b ∧ wb ws es day (b - 1) = n - 1 := by
  have h1 := h.2.2.2.1 (by omega)
  have hlt : day < b := by
    by_cases e : b = day
    · subst e; have := h.2.2.1; rw [wb_self] at this; omega
    · omega
  have h2 := h1.2 (b - 1) (by omega) (by omega)
  have h3 := wb_pred ho.1 ho.2.1 hlt (by have := h.2.1; omega)
  have h4 := h.2.2.1
  exact ⟨hlt, by omega⟩
theorem add_down {day n b : Int} (ho : On ws es day) (h : AddOk ws es day n b) (hn : n < 0) : b < day ∧ 0 < hOf ws es b.toNat ∧ wb ws es b day = -n := by
  have h1 := h.2.2.2.2 hn
  have hlt : b < day := by
    by_cases e : b = day
    · subst e; have := h.2.2.1; rw [wb_self] at this; omega
    · omega
  have h2 := h1.2 (b + 1) (by omega) (by omega)
  obtain ⟨d, rfl⟩ : ∃ d : Nat, b = (d : Int) := ⟨b.toNat, by have := h.1; omega⟩
  have hs := wb_succ (ws := ws) (es := es) (a := day) (d := d) (by have := h.2.1; omega)
  have h4 := h.2.2.1
  have hw := wOf_bit ho.1 d
  refine ⟨hlt, ?_, by rw [wb_neg, h4]⟩
  rw [Int.toNat_natCast]
  omega

/-- Hours between two days. -/
def hrs (ws : List Int) (es : List (Int × Int)) (a b : Int) : Int := cnt (hOf ws es) a b
theorem hrs_add {a m b : Int} (h1 : a ≤ m) (h2 : m ≤ b) : hrs ws es a m + hrs ws es m b = hrs ws es a b := by
  unfold hrs cnt
  rw [if_pos h1, if_pos h2, if_pos (by omega)]
  omega
theorem hrs_self (a : Int) : hrs ws es a a = 0 := by unfold hrs cnt; rw [if_pos (Int.le_refl _)]; omega
theorem hrs_succ {a : Int} {d : Nat} (ha : a ≤ d) (hd : d < 1000) : hrs ws es a ((d : Int) + 1) = hrs ws es a d + hOf ws es d := by
  unfold hrs cnt
  rw [if_pos ha, if_pos (by omega), show ((d : Int) + 1) = ((d + 1 : Nat) : Int) by omega, cl_nat (by omega), cl_nat (by omega)]
  simp only [pre]
  omega
theorem hrs_bound (h : IsCal ws es) (a b : Int) : 0 ≤ hrs ws es a b ∧ hrs ws es a b ≤ 24000 := cnt_bound (B := 24) (fun d => hOf_bound h d) a b
theorem hrs_mono (h : IsCal ws es) {a b c : Int} (h1 : a ≤ b) (h2 : b ≤ c) : hrs ws es a b ≤ hrs ws es a c := by
  have := hrs_add (ws := ws) (es := es) h1 h2
  have := (hrs_bound h b c).1
  omega

/-- The day that FinishDay finds. -/
def FinOk (ws : List Int) (es : List (Int × Int)) (day n d : Int) : Prop := day ≤ d ∧ d ≤ 999 ∧ n ≤ hrs ws es day (d + 1) ∧ hrs ws es day d < n
/-- What FinishDay answers. -/
def FinRes (ws : List Int) (es : List (Int × Int)) (day n x : Int) (y : Bool) : Prop :=
  (y = true ∧ (On ws es day ∧ 1 ≤ n) ∧ FinOk ws es day n x) ∨ (y = false ∧ x = 0 ∧ ¬((On ws es day ∧ 1 ≤ n) ∧ ∃ b, FinOk ws es day n b))
theorem FinOk.one (hc : IsCal ws es) {day n b b' : Int} (h : FinOk ws es day n b) (h' : FinOk ws es day n b') : b = b' := by
  rcases Int.lt_trichotomy b b' with c | c | c
  · have := hrs_mono hc (a := day) (b := b + 1) (c := b') (by have := h.1; omega) (by omega)
    have := h.2.2.1; have := h'.2.2.2; omega
  · exact c
  · have := hrs_mono hc (a := day) (b := b' + 1) (c := b) (by have := h'.1; omega) (by omega)
    have := h'.2.2.1; have := h.2.2.2; omega
theorem FinRes.one {day n x x' : Int} {y y' : Bool} (h : FinRes ws es day n x y) (h' : FinRes ws es day n x' y') : x = x' ∧ y = y' := by
  rcases h with ⟨rfl, ho, h⟩ | ⟨rfl, rfl, h⟩ <;> rcases h' with ⟨rfl, ho', h'⟩ | ⟨rfl, rfl, h'⟩
  · exact ⟨h.one ho.1.1 h', rfl⟩
  · exact absurd ⟨ho, _, h⟩ h'
  · exact absurd ⟨ho', _, h'⟩ h
  · exact ⟨rfl, rfl⟩
theorem finRes_off {day n : Int} (h : ¬(On ws es day ∧ 1 ≤ n)) : FinRes ws es day n 0 false := Or.inr ⟨rfl, rfl, fun h' => h h'.1⟩
theorem finRes_yes {day n b : Int} (ho : On ws es day) (hn : 1 ≤ n) (h : FinOk ws es day n b) : FinRes ws es day n b true := Or.inl ⟨rfl, ⟨ho, hn⟩, h⟩
theorem fin_none {day n : Int} (hc : IsCal ws es) (h : hrs ws es day 1000 < n) : FinRes ws es day n 0 false := by
  refine Or.inr ⟨rfl, rfl, fun ⟨_, b, hb'⟩ => ?_⟩
  have := hrs_mono hc (a := day) (b := b + 1) (c := 1000) (by have := hb'.1; omega) (by have := hb'.2.1; omega)
  have := hb'.2.2.1
  omega
end
end Go.Proofs.Ytkhonlcekjckoaa
