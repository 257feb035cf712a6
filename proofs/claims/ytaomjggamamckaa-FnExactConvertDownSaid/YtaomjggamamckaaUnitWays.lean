/-
  Units: in a table all ways agree. No program is named here.
-/
import Derived.Test.YtaomjggamamckaaUnitLib
import Derived.Test.YtaomjggamamckaaRatM
import Derived.Lib.Hide
namespace Go.Proofs.Ytaomjggamamckaa

/-- z is the product of x and y. -/
def QR (x y z : Int × Int) : Prop := z.1 * (x.2 * y.2) = (x.1 * y.1) * z.2
theorem qr_fwd {A X Y R U V : Int × Int} (hY : 0 < Y.2) (hX : 0 < X.2) (hR : 0 < R.2) (ih : QR A X Y) (u : QR Y R U) (v : QR X R V) : QR A V U := by
  obtain ⟨a, b⟩ := A; obtain ⟨c, d⟩ := X; obtain ⟨e, f⟩ := Y; obtain ⟨r, s⟩ := R; obtain ⟨g, h⟩ := U; obtain ⟨i, j⟩ := V
  simp only [QR] at *
  have hk : g * (b * j) * (f * s * d) = (a * i) * h * (f * s * d) := by grind
  exact Int.eq_of_mul_eq_mul_right (Int.ne_of_gt (Int.mul_pos (Int.mul_pos hY hR) hX)) hk
theorem qr_bwd {A X Y R U V : Int × Int} (hY : 0 < Y.2) (hX : 0 < X.2) (hR : 0 < R.1) (ih : QR A X Y) (u : QR U R Y) (v : QR V R X) : QR A V U := by
  obtain ⟨a, b⟩ := A; obtain ⟨c, d⟩ := X; obtain ⟨e, f⟩ := Y; obtain ⟨r, s⟩ := R; obtain ⟨g, h⟩ := U; obtain ⟨i, j⟩ := V
  simp only [QR] at *
  have hk : g * (b * j) * (r * f * d) = (a * i) * h * (r * f * d) := by grind
  exact Int.eq_of_mul_eq_mul_right (Int.ne_of_gt (Int.mul_pos (Int.mul_pos hR hY) hX)) hk
theorem posR_den {f : Int × Int} (h : PosR f) : 0 < f.2 := by have := posR_bound h; omega
theorem term9 {x : Int} (h0 : 0 ≤ x) (h1 : x ≤ 1000000000000000000) : rat.termB x = true := decide_eq_true (by omega)
theorem prod9 {x y : Int} (h0 : 1 ≤ x) (h1 : x ≤ 1000000000) (h2 : 1 ≤ y) (h3 : y ≤ 1000000000) : 0 < x * y ∧ x * y ≤ 1000000000000000000 := by
  refine ⟨Int.mul_pos (by omega) (by omega), ?_⟩
  calc x * y ≤ 1000000000 * y := Int.mul_le_mul_of_nonneg_right h1 (by omega)
    _ ≤ 1000000000 * 1000000000 := Int.mul_le_mul_of_nonneg_left h3 (by omega)
/-- The model's product is the product. -/
theorem mul_q {x y z : Int × Int} (hx : PosR x) (hy : PosR y) (h : rat.mulR x.1 x.2 y.1 y.2 = z) (hz : 0 < z.2) : QR x y z := by
  rw [rat.mulR_yes hx.1 hy.1] at h
  unfold QR
  rcases rat.mkR_cases (x.1 * y.1) (x.2 * y.2) with e | ⟨p, q, e, _, hpq⟩
  · rw [e] at h; rw [← h] at hz; exact absurd hz (by decide)
  · rw [e] at h; rw [← h]; exact hpq
theorem q_mul {x y z : Int × Int} (hx : PosR x) (hy : PosR y) (hz : PosR z) (h : QR x y z) : rat.mulR x.1 x.2 y.1 y.2 = z := by
  have bx := posR_bound hx
  have by' := posR_bound hy
  have p1 := prod9 bx.1 bx.2.1 by'.1 by'.2.1
  have p2 := prod9 bx.2.2.1 bx.2.2.2 by'.2.2.1 by'.2.2.2
  rw [rat.mulR_yes hx.1 hy.1]
  exact rat.mkR_eq hz.1 (Int.ne_of_gt p2.1) (term9 (Int.le_of_lt p1.1) p1.2) (term9 (Int.le_of_lt p2.1) p2.2) h
theorem div_q {x y z : Int × Int} (hx : PosR x) (hy : PosR y) (h : rat.divR x.1 x.2 y.1 y.2 = z) (hz : 0 < z.2) : QR z y x := by
  rw [rat.divR_yes hx.1 hy.1] at h
  unfold QR
  rcases rat.mkR_cases (x.1 * y.2) (x.2 * y.1) with e | ⟨p, q, e, _, hpq⟩
  · rw [e] at h; rw [← h] at hz; exact absurd hz (by decide)
  · rw [e] at h; rw [← h]
    show x.1 * (q * y.2) = (p * y.1) * x.2
    grind

/-- The factor of a unit in a list. -/
def lookU (ps : List UF) (t : ByteArray) : Option (Int × Int) := if fndI (namesOf ps) t < 0 then none else some (facI ps (fndI (namesOf ps) t))
theorem look_some {ps : List UF} {t : ByteArray} {f : Int × Int} (h : lookU ps t = some f) : (t, f) ∈ ps := by
  unfold lookU at h
  split at h
  · cases h
  · rename_i hf
    rcases fnd_cases (namesOf ps) t with ⟨k, hk, h1, h2, _⟩ | ⟨h1, _⟩
    · rw [h2] at h
      have hk2 : k < ps.length := by rw [namesOf_length] at hk; exact hk
      rw [facI_at hk2] at h
      have e1 : (ps[k]'hk2).1 = t := by rw [← h1]; simp [namesOf]
      have e2 : (ps[k]'hk2).2 = f := Option.some.inj h
      have : ps[k]'hk2 = (t, f) := by rw [← e1, ← e2]
      rw [← this]
      exact List.getElem_mem hk2
    · omega
theorem look_none {ps : List UF} {t : ByteArray} : lookU ps t = none ↔ fndI (namesOf ps) t < 0 := by
  unfold lookU
  split
  · rename_i h; exact ⟨fun _ => h, fun _ => rfl⟩
  · rename_i h; exact ⟨fun e => by simp at e, fun e => absurd e h⟩
theorem look_mem {ps : List UF} {t : ByteArray} : (∃ f, lookU ps t = some f) ↔ t ∈ namesOf ps := by
  constructor
  · rintro ⟨f, hf⟩
    have := look_some hf
    exact List.mem_map.2 ⟨_, this, rfl⟩
  · intro h
    cases e : lookU ps t with
    | some f => exact ⟨f, rfl⟩
    | none => rw [look_none, fnd_neg] at e; exact absurd h e
theorem look_rule {ps : List UF} {r : UR} (h : RuleH ps r) : (lookU ps r.src = none ∧ lookU ps r.dst = none) ∨ ∃ x y, lookU ps r.src = some x ∧ lookU ps r.dst = some y ∧ rat.mulR x.1 x.2 r.num r.den = y := by
  rcases h with ⟨h1, h2⟩ | ⟨h1, h2, h3⟩
  · exact Or.inl ⟨look_none.2 h1, look_none.2 h2⟩
  · exact Or.inr ⟨_, _, if_neg (by omega), if_neg (by omega), h3⟩

/-- A unit is reached by ways. -/
inductive Way (rs : List UR) (s : ByteArray) : UF → Prop where
  | base : Way rs s (s, 1, 1)
  | step {x : UF} {r : UR} : Way rs s x → r ∈ rs → (hopV r x).1 ≠ ByteArray.empty → 0 < (hopV r x).2.2 → Way rs s (hopV r x)
def AllWay (rs : List UR) (s : ByteArray) (ps : List UF) : Prop := ∀ p, p ∈ ps → Way rs s p
theorem addU_way {rs : List UR} {s : ByteArray} {ps : List UF} {r : UR} {x : UF} (hr : r ∈ rs) (hx : Way rs s x) (h : AllWay rs s ps) : AllWay rs s (addU ps (hopV r x)) := by
  unfold addU
  split
  · rename_i hc
    intro p hp
    rcases List.mem_append.1 hp with hp | hp
    · exact h p hp
    · obtain rfl := List.mem_singleton.1 hp
      exact Way.step hx hr hc.1 hc.2.1
  · exact h
theorem innerU_way {rs : List UR} {s : ByteArray} {x : UF} (hx : Way rs s x) : ∀ (l : List UR) (ps : List UF), (∀ r, r ∈ l → r ∈ rs) → AllWay rs s ps → AllWay rs s (innerU l x ps)
  | [], _, _, h => h
  | r :: l, ps, hr, h => innerU_way hx l (addU ps (hopV r x)) (fun q hq => hr q (List.mem_cons_of_mem _ hq)) (addU_way (hr r (List.mem_cons_self ..)) hx h)
theorem reachF_way {rs : List UR} {s : ByteArray} : ∀ (f i : Nat) (ps : List UF), AllWay rs s ps → AllWay rs s (reachF rs f i ps)
  | 0, _, _, h => h
  | f + 1, i, ps, h => by
    by_cases hi : i < ps.length
    · rw [reachF_on hi]
      exact reachF_way f (i + 1) _ (innerU_way (h _ (List.getElem_mem hi)) rs ps (fun _ hq => hq) h)
    · rw [reachF_off hi]; exact h
theorem reachU_way (rs : List UR) (s : ByteArray) : AllWay rs s (reachU rs s) :=
  reachF_way _ _ _ (fun p hp => by obtain rfl := List.mem_singleton.1 hp; exact Way.base)
theorem way_pos {rs : List UR} (hr : ∀ r, r ∈ rs → ruleOk r = true) {s : ByteArray} {p : UF} (h : Way rs s p) : PosR p.2 := by
  induction h with
  | base => exact posR_one
  | step hx hm hne hd ih =>
    rename_i x r
    have h2 := addU_pos (ps := []) (hr r hm) ih (fun p hp => by cases hp)
    rw [addU_yes hne hd (by simp [namesOf])] at h2
    exact h2 _ (by simp)
theorem innerU_pre (x : UF) (rs : List UR) (ps : List UF) : ps <+: innerU rs x ps := innerU_prefix x rs ps
theorem reachF_pre (rs : List UR) : ∀ (f i : Nat) (ps : List UF), ps <+: reachF rs f i ps
  | 0, _, _ => List.prefix_refl _
  | f + 1, i, ps => by
    by_cases hi : i < ps.length
    · rw [reachF_on hi]; exact (innerU_prefix _ rs ps).trans (reachF_pre rs f (i + 1) _)
    · rw [reachF_off hi]; exact List.prefix_refl _
theorem look_self (rs : List UR) (s : ByteArray) : lookU (reachU rs s) s = some (1, 1) := by
  obtain ⟨l, hl⟩ := reachF_pre rs (2 * rs.length + 2) 0 [(s, 1, 1)]
  have e : reachU rs s = (s, 1, 1) :: l := hl.symm
  have hf : fndI (namesOf (reachU rs s)) s = ((0 : Nat) : Int) := fnd_at (k := 0) (by rw [namesOf_length, e]; simp) (by simp [e, namesOf]) (fun j hj => by omega)
  unfold lookU
  rw [hf, if_neg (by omega), facI_at (by rw [e]; simp)]
  simp [e]

/-- From a unit of no rule nothing is reached. -/
theorem reach_alone {rs : List UR} {s : ByteArray} (h : ∀ r, r ∈ rs → r.src ≠ s ∧ r.dst ≠ s) : reachU rs s = [(s, 1, 1)] := by
  have hin : ∀ l : List UR, (∀ r, r ∈ l → r.src ≠ s ∧ r.dst ≠ s) → innerU l (s, 1, 1) [(s, 1, 1)] = [(s, 1, 1)] := by
    intro l
    induction l with
    | nil => intro _; rfl
    | cons r l ih =>
      intro hl
      have hr := hl r (List.mem_cons_self ..)
      show innerU l (s, 1, 1) (addU [(s, 1, 1)] (hopV r (s, 1, 1))) = _
      have hh : hopV r (s, 1, 1) = (ByteArray.empty, 0, 0) := by unfold hopV; rw [if_neg hr.1, if_neg hr.2]
      rw [hh, addU_no (fun hc => hc.1 rfl)]
      exact ih (fun q hq => hl q (List.mem_cons_of_mem _ hq))
  unfold reachU
  rw [show 2 * rs.length + 2 = (2 * rs.length + 1) + 1 from rfl, reachF_on (by simp)]
  rw [show ([(s, (1 : Int), (1 : Int))] : List UF)[0]'(by simp) = (s, 1, 1) from rfl, hin rs h]
  exact reachF_off (by simp)
/-- From every unit the rules agree. -/
theorem tab_rule {rs : List UR} (ht : IsTab rs) (s : ByteArray) : ∀ r, r ∈ rs → RuleH (reachU rs s) r := by
  by_cases h : ∃ r, r ∈ rs ∧ (r.src = s ∨ r.dst = s)
  · obtain ⟨r, hr, hs⟩ := h
    obtain ⟨k, hk, rfl⟩ := List.getElem_of_mem hr
    rcases hs with hs | hs
    · have := ht.2.2 (2 * k) (by omega)
      rw [start_even (by omega) (show 2 * k / 2 < rs.length by omega)] at this
      rw [show (rs[2 * k / 2]'(by omega)) = rs[k]'hk by congr 1; omega, hs] at this
      exact this
    · have := ht.2.2 (2 * k + 1) (by omega)
      rw [start_odd (by omega) (show (2 * k + 1) / 2 < rs.length by omega)] at this
      rw [show (rs[(2 * k + 1) / 2]'(by omega)) = rs[k]'hk by congr 1; omega, hs] at this
      exact this
  · have hn : ∀ r, r ∈ rs → r.src ≠ s ∧ r.dst ≠ s := fun r hr => ⟨fun e => h ⟨r, hr, Or.inl e⟩, fun e => h ⟨r, hr, Or.inr e⟩⟩
    intro r hr
    rw [reach_alone hn]
    have h1 := hn r hr
    refine ruleH_none (fnd_neg.2 (fun hm => ?_)) (fnd_neg.2 (fun hm => ?_))
    · simp [namesOf] at hm; exact h1.1 hm
    · simp [namesOf] at hm; exact h1.2 hm

theorem look_way {rs : List UR} {s t : ByteArray} {f : Int × Int} (h : lookU (reachU rs s) t = some f) : Way rs s (t, f) := reachU_way rs s _ (look_some h)

section
variable {rs : List UR} (ht : IsTab rs)
include ht
theorem look_pos {s t : ByteArray} {f : Int × Int} (h : lookU (reachU rs s) t = some f) : PosR f := reachU_pos ht.2.1 s _ (look_some h)
/-- What is reached from a unit that is reached is reached, by the product. -/
theorem way_look {s t : ByteArray} {f0 : Int × Int} (h0 : lookU (reachU rs s) t = some f0) {p : UF} (hp : Way rs t p) : ∃ g, lookU (reachU rs s) p.1 = some g ∧ QR f0 p.2 g := by
  induction hp with
  | base => exact ⟨f0, h0, by unfold QR; grind⟩
  | step hx hm hne hd ih =>
    rename_i x r
    obtain ⟨gx, hgx, hq⟩ := ih
    have hX := way_pos ht.2.1 hx
    have hR := ruleOk_pos (ht.2.1 r hm)
    have hGX := look_pos ht hgx
    have hru := look_rule (tab_rule ht s r hm)
    unfold hopV at hne hd ⊢
    by_cases h1 : r.src = x.1
    · rw [if_pos h1] at hne hd ⊢
      rw [h1, hgx] at hru
      rcases hru with ⟨e, _⟩ | ⟨x', y, e, hy, hm'⟩
      · cases e
      · obtain rfl := Option.some.inj e
        have hY := look_pos ht hy
        exact ⟨y, hy, qr_fwd (posR_den hGX) (posR_den hX) (posR_den hR) hq (mul_q hGX hR hm' (posR_den hY)) (mul_q hX hR rfl hd)⟩
    · rw [if_neg h1] at hne hd ⊢
      by_cases h2 : r.dst = x.1
      · rw [if_pos h2] at hne hd ⊢
        rw [h2, hgx] at hru
        rcases hru with ⟨_, e⟩ | ⟨y, x', hy, e, hm'⟩
        · cases e
        · obtain rfl := Option.some.inj e
          have hY := look_pos ht hy
          exact ⟨y, hy, qr_bwd (posR_den hGX) (posR_den hX) hR.2 hq (mul_q hY hR hm' (posR_den hGX)) (div_q hX hR rfl hd)⟩
      · rw [if_neg h2] at hne
        exact absurd rfl hne
/-- Ways lead back. -/
theorem way_back {s : ByteArray} {p : UF} (hp : Way rs s p) : ∃ g, lookU (reachU rs p.1) s = some g := by
  induction hp with
  | base => exact ⟨_, look_self rs s⟩
  | step hx hm hne hd ih =>
    rename_i x r
    obtain ⟨g, hg⟩ := ih
    have hru := look_rule (tab_rule ht (hopV r x).1 r hm)
    have hself := look_self rs (hopV r x).1
    have hxin : ∃ gx, lookU (reachU rs (hopV r x).1) x.1 = some gx := by
      unfold hopV at hru hself hne ⊢
      by_cases h1 : r.src = x.1
      · rw [if_pos h1] at hru hself ⊢
        rcases hru with ⟨_, e⟩ | ⟨x', y, e, _, _⟩
        · rw [hself] at e; cases e
        · rw [← h1]; exact ⟨x', e⟩
      · rw [if_neg h1] at hru hself hne ⊢
        by_cases h2 : r.dst = x.1
        · rw [if_pos h2] at hru hself ⊢
          rcases hru with ⟨e, _⟩ | ⟨x', y, _, e, _⟩
          · rw [hself] at e; cases e
          · rw [← h2]; exact ⟨y, e⟩
        · rw [if_neg h2] at hne; exact absurd rfl hne
    obtain ⟨gx, hgx⟩ := hxin
    obtain ⟨q, hq, _⟩ := way_look ht hgx (look_way hg)
    exact ⟨q, hq⟩
/-- There and back is 1. -/
theorem there_back {a b : ByteArray} {f : Int × Int} (h : lookU (reachU rs a) b = some f) : ∃ g, lookU (reachU rs b) a = some g ∧ rat.mulR f.1 f.2 g.1 g.2 = (1, 1) := by
  obtain ⟨g, hg⟩ := way_back ht (look_way h)
  obtain ⟨q, hq, hQ⟩ := way_look ht h (look_way hg)
  have e : q = (1, 1) := Option.some.inj (hq.symm.trans (look_self rs a))
  subst e
  exact ⟨g, hg, q_mul (look_pos ht h) (look_pos ht hg) posR_one hQ⟩
/-- Over a third unit. -/
theorem over_third {a b u : ByteArray} {f x : Int × Int} (h : lookU (reachU rs a) b = some f) (hu : lookU (reachU rs a) u = some x) : ∃ y, lookU (reachU rs u) b = some y ∧ rat.mulR x.1 x.2 y.1 y.2 = f := by
  obtain ⟨g, hg⟩ := way_back ht (look_way hu)
  obtain ⟨y, hy, _⟩ := way_look ht hg (look_way h)
  obtain ⟨q, hq, hQ⟩ := way_look ht hu (look_way hy)
  have e : q = f := Option.some.inj (hq.symm.trans h)
  subst e
  exact ⟨y, hy, q_mul (look_pos ht hu) (look_pos ht hy) (look_pos ht h) hQ⟩
end
end Go.Proofs.Ytaomjggamamckaa
