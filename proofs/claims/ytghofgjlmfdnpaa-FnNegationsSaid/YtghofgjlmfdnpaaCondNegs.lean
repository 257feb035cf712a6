/-
  The law FnNegations: its draw, its facts, its walk.
-/
import Derived.Test.YtghofgjlmfdnpaaCondChoice
import Derived.Test.YtghofgjlmfdnpaaCondImE
import Derived.Test.YtghofgjlmfdnpaaCondOpts
import Derived.Test.YtghofgjlmfdnpaaLawBig
import Derived.WalkKit
import Derived.WalkSpells
import Derived.WalkSmall
import Derived.BigQuiet
import Derived.Laws.AppendOwn
import Derived.Deep.QuietTactic
import Derived.Deep.DeepCutAuto
import Derived.Lib.Hide
namespace Go.Proofs.Ytghofgjlmfdnpaa
open Go.RowKit

/-- Nodes and picks, drawn. -/
def DrewHP (w : World) (e : Ending) (w' : World) : Prop := ∃ (v1 v2 : Value) (l : List CN) (ps : List PK), e = .returned (.tuple #[v1, v2]) ∧ CN.Is w' v1 l ∧ PK.Is w' v2 ps ∧ l.length ≤ 15 ∧ (∀ r, r ∈ l → CN.Sz r) ∧ ps.length ≤ 3 ∧ (∀ r, r ∈ ps → PK.Sz r) ∧ Below w.heap.size w w'

set_option maxRecDepth 100000 in
set_option maxHeartbeats 1000000 in
theorem draw_holds (a : Option Addr) (n c : Nat) (w : World) (hn : n ≤ 1048576) (hcode : CodeAt w.heap.size w a n) : Calls Try.prog 18 #[.slice a n c] w (DrewHP w) := by
  have HC0 := Lib.hid hcode
  clear hcode
  go_enter Try.func18, Try.ntmps18
  go_wp2_with fail
  refine (l1_new a n c _ hn HC0.out).mono ?_
  rintro e w1 ⟨b, rfl, hcur, hb1⟩
  have HC1 := Lib.hid (HC0.out.below hb1)
  have HU1 := Lib.hid hcur
  have HB1 := Lib.hid hb1
  have hblt := hcur.lt
  have hbb := hcur.1
  have hs1 := hb1.size
  clear hcur hb1 HC0
  go_wp2_with fail
  refine (l6_any w.heap.size b a n c _ hn HC1.out HU1.out hs1).mono ?_
  rintro e w2 ⟨g, q, l, rfl, hl1, hlK, hlz, hown, hd⟩
  have HZ := Lib.hid hlz
  have HO := Lib.hid hown
  have HD := Lib.hid hd
  have hs2 := hd.grown.size
  have HC2 := Lib.hid (HC1.out.below (hd.below hs1))
  clear hlz hown hd HC1 HU1
  go_wp2_with fail
  refine (l6_choice w.heap.size b a n c _ hn HC2.out HD.out.cur (by omega)).mono ?_
  rintro e w3 ⟨g3, q3, ps, rfl, hpK, hpz, hown, hd⟩
  have HO3 := Lib.hid (own_hdC HO.out hd.grown hblt)
  have HP3 := Lib.hid hown
  have HZP := Lib.hid hpz
  have HD3 := Lib.hid (HD.out.trans hd)
  clear hpz hown hd HO HD HC2
  go_wp2_with fail
  go_ret2
  exact ⟨_, _, l, ps, rfl, CN.is_of_row HO3.out, PK.is_of_row HP3.out, hlK, fun r hr => (by have := HZ.out r hr; unfold CN.Sz maxLen; omega), hpK, fun r hr => (by have := HZP.out r hr; unfold PK.Sz maxLen; omega), HB1.out.trans (HD3.out.below hs1)⟩

set_option maxRecDepth 100000 in
set_option maxHeartbeats 1000000 in
theorem laws_hasText (v : Value) (ns : List ByteArray) (s : ByteArray) (w : World) (h : Strs w v ns) (hm : ns.length ≤ 1048577) :
    Calls Try.prog 22 #[v, .string s] w (BoolRes (inB ns s) w) := by
  have HX := Lib.hid h
  obtain ⟨a, c, rfl⟩ : ∃ (a : Option Addr) (c : Nat), v = .slice a ns.length c := by
    rcases h with ⟨rfl, a, c, rfl⟩ | ⟨_, b, o, c, rfl, _⟩
    · exact ⟨a, c, rfl⟩
    · exact ⟨_, c, rfl⟩
  clear h
  go_enter Try.func22, Try.ntmps22
  go_wp2_with fail
  go_loopw [5] (fun i wr => ∃ k : Nat, k ≤ ns.length ∧ i = .int .i64 k ∧ Hid (∀ j, (hj : j < ns.length) → j < k → (ns[j]'hj) ≠ s) ∧ Hid (Below w.heap.size w wr)) (fun i _ => ns.length - (intOf i).toNat)
  case atStart => exact ⟨0, Nat.zero_le _, rfl, Lib.hid (fun j _ h => by omega), Lib.hid (Below.refl _ _)⟩
  case round =>
    obtain ⟨k, hk, rfl, HN, HB⟩ := hrel
    by_cases hlt : k < ns.length
    · obtain ⟨b2, o2, c2, hv2, hcell2⟩ : ∃ b o c : Nat, (Value.slice a ns.length c : Value) = Value.slice a ns.length c ∧ a = some ⟨b, o, none⟩ ∧ CellsS w b o ns := by
        rcases HX.out with ⟨h0, _⟩ | ⟨_, b, o, c', hv, _, hcell⟩
        · rw [h0] at hlt; simp at hlt
        · simp only [Value.slice.injEq] at hv
          exact ⟨b, o, c, rfl, hv.1, hcell⟩
      obtain ⟨rfl, hcell⟩ := hcell2
      have e1 := (hcell.below HB.out).at k hlt
      have hin : (ns[k]'hlt) ∈ ns := List.getElem_mem hlt
      clear hv2 hcell
      by_cases he : (ns[k]'hlt) = s
      · have HF : Hid (inB ns s = true) := Lib.hid (decide_eq_true (he ▸ hin))
        have hbq := str_eq he
        clear he hin
        generalize ns[k]'hlt = x at *
        go_wp2_with fail
        go_ret
        exact ⟨by rw [HF.out]; rfl, HB.out⟩
      · have HN2 : Hid (∀ j, (hj : j < ns.length) → j < k + 1 → (ns[j]'hj) ≠ s) := Lib.hid (fun j hj h1 => by
          by_cases e : j = k
          · subst e; exact he
          · exact HN.out j hj (by omega))
        have hbq := str_ne he
        clear he hin
        generalize ns[k]'hlt = x at *
        go_wp2_with fail
        go_roundw
        case rel => exact ⟨k + 1, by omega, by go_num, HN2, HB⟩
        case measure => simp [intOf]; omega
    · have HF : Hid (inB ns s = false) := Lib.hid (decide_eq_false (fun hin => by
        obtain ⟨j, hj, e⟩ := List.getElem_of_mem hin
        exact HN.out j hj (by omega) e))
      go_wp2_with fail
      go_ret
      exact ⟨by rw [HF.out]; rfl, HB.out⟩

/-- Negations stand behind leaves only. -/
def NegShape (l : List CN) : Prop := ∀ (i : Nat) (h : i < l.length), (l[i]'h).kind = 2 → ∃ h2 : i - 1 < l.length, 0 < i ∧ ((l[i - 1]'h2).kind = 0 ∨ (l[i - 1]'h2).kind = 1)
theorem shape_app {l m : List CN} (hl : NegShape l) (hm : NegShape m) : NegShape (l ++ m) := by
  intro i h hk
  rw [List.length_append] at h
  by_cases hi : i < l.length
  · rw [List.getElem_append_left hi] at hk
    obtain ⟨h2, h0, h3⟩ := hl i hi hk
    refine ⟨by rw [List.length_append]; omega, h0, ?_⟩
    rw [List.getElem_append_left h2]
    exact h3
  · rw [List.getElem_append_right (by omega)] at hk
    obtain ⟨h2, h0, h3⟩ := hm (i - l.length) (by omega) hk
    refine ⟨by rw [List.length_append]; omega, by omega, ?_⟩
    rw [List.getElem_append_right (by omega)]
    have e : i - 1 - l.length = i - l.length - 1 := by omega
    simp only [e]
    exact h3
theorem shape_one {x : CN} (h : x.kind ≠ 2) : NegShape [x] := by
  intro i hi hk
  match i, hi with
  | 0, _ => exact absurd hk h
theorem shape_no {x : CN} (h : x.kind = 0 ∨ x.kind = 1) : NegShape [x, ⟨2, eB, eB⟩] := by
  intro i hi hk
  match i, hi with
  | 0, _ =>
    have hk' : x.kind = 2 := hk
    omega
  | 1, _ => exact ⟨by show 0 < 2; decide, by decide, h⟩
theorem shape_neg : ∀ (t : CT) (z : Bool), NegShape (t.neg z).post
  | .tt, true => shape_no (Or.inl rfl)
  | .tt, false => shape_one (by show (0 : Int) ≠ 2; decide)
  | .is _ _, true => shape_no (Or.inr rfl)
  | .is _ _, false => shape_one (by show (1 : Int) ≠ 2; decide)
  | .no t, z => shape_neg t (!z)
  | .and a b, true => shape_app (shape_app (shape_neg a true) (shape_neg b true)) (shape_one (by show (4 : Int) ≠ 2; decide))
  | .and a b, false => shape_app (shape_app (shape_neg a false) (shape_neg b false)) (shape_one (by show (3 : Int) ≠ 2; decide))
  | .or a b, true => shape_app (shape_app (shape_neg a true) (shape_neg b true)) (shape_one (by show (3 : Int) ≠ 2; decide))
  | .or a b, false => shape_app (shape_app (shape_neg a false) (shape_neg b false)) (shape_one (by show (4 : Int) ≠ 2; decide))
/-- The opposite holds exactly when the condition does not. -/
theorem ev_neg (ps : List PK) : ∀ (t : CT) (z : Bool), (t.neg z).ev ps = (if z then !t.ev ps else t.ev ps)
  | .tt, true => rfl
  | .tt, false => rfl
  | .is _ _, true => rfl
  | .is _ _, false => rfl
  | .no t, z => by
    show (t.neg (!z)).ev ps = _
    rw [ev_neg ps t (!z)]
    show _ = if z = true then !(!t.ev ps) else !t.ev ps
    cases z <;> simp
  | .and a b, true => by show ((a.neg true).ev ps || (b.neg true).ev ps) = !(a.ev ps && b.ev ps); rw [ev_neg ps a true, ev_neg ps b true]; simp
  | .and a b, false => by show ((a.neg false).ev ps && (b.neg false).ev ps) = (a.ev ps && b.ev ps); rw [ev_neg ps a false, ev_neg ps b false]; simp
  | .or a b, true => by show ((a.neg true).ev ps && (b.neg true).ev ps) = !(a.ev ps || b.ev ps); rw [ev_neg ps a true, ev_neg ps b true]; simp
  | .or a b, false => by show ((a.neg false).ev ps || (b.neg false).ev ps) = (a.ev ps || b.ev ps); rw [ev_neg ps a false, ev_neg ps b false]; simp
/-- The picks of these options. -/
def lessP (ns : List ByteArray) (ps : List PK) : List PK := ps.filter (fun p => inB ns p.opt)
theorem has_less {ns : List ByteArray} {ps : List PK} {o v : ByteArray} (h : o ∈ ns) : hasP (lessP ns ps) o v = hasP ps o v := by
  unfold hasP lessP
  rw [List.any_filter]
  congr 1
  funext p
  by_cases hp : p.opt = o ∧ p.vl = v
  · have : inB ns p.opt = true := decide_eq_true (by rw [hp.1]; exact h)
    simp [this]
  · simp [hp]
theorem ev_less {ns : List ByteArray} {ps : List PK} : ∀ t : CT, (∀ x, x ∈ t.post → x.kind = 1 → x.opt ∈ ns) → t.ev (lessP ns ps) = t.ev ps
  | .tt, _ => rfl
  | .is o v, h => has_less (h ⟨1, o, v⟩ (by simp [CT.post]) rfl)
  | .no t, h => by
    show (!t.ev _) = !t.ev _
    rw [ev_less t (fun x hx hk => h x (by simp [CT.post, hx]) hk)]
  | .and a b, h => by
    show (a.ev _ && b.ev _) = (a.ev _ && b.ev _)
    rw [ev_less a (fun x hx hk => h x (by simp [CT.post, hx]) hk), ev_less b (fun x hx hk => h x (by simp [CT.post, hx]) hk)]
  | .or a b, h => by
    show (a.ev _ || b.ev _) = (a.ev _ || b.ev _)
    rw [ev_less a (fun x hx hk => h x (by simp [CT.post, hx]) hk), ev_less b (fun x hx hk => h x (by simp [CT.post, hx]) hk)]
theorem addO_mono {out : List ByteArray} {x : CN} {y : ByteArray} (h : y ∈ out) : y ∈ addO out x := by
  unfold addO
  split
  · exact List.mem_append_left _ h
  · exact h
theorem opts_mono : ∀ (l : List CN) (out : List ByteArray) (y : ByteArray), y ∈ out → y ∈ l.foldl addO out
  | [], _, _, h => h
  | x :: l, out, y, h => opts_mono l (addO out x) y (addO_mono h)
theorem opts_has : ∀ (l : List CN) (out : List ByteArray) (x : CN), x ∈ l → x.kind = 1 → x.opt ∈ l.foldl addO out
  | y :: l, out, x, hx, hk => by
    rcases List.mem_cons.1 hx with rfl | hx
    · refine opts_mono l _ _ ?_
      unfold addO
      by_cases h : x.opt ∈ out
      · rw [if_neg (fun hc => hc.2 h)]; exact h
      · rw [if_pos ⟨hk, h⟩]; simp
    · exact opts_has l _ x hx hk
theorem lessP_take {ns : List ByteArray} {ps : List PK} {k : Nat} (hk : k < ps.length) : lessP ns (ps.take (k + 1)) = if inB ns (ps[k]'hk).opt = true then lessP ns (ps.take k) ++ [ps[k]'hk] else lessP ns (ps.take k) := by
  unfold lessP
  rw [List.take_succ_eq_append_getElem hk, List.filter_append]
  by_cases h : inB ns (ps[k]'hk).opt = true
  · simp [h]
  · simp [h]
theorem lessP_len (ns : List ByteArray) (ps : List PK) : (lessP ns ps).length ≤ ps.length := List.length_filter_le _ _

/-- What the law asks. -/
theorem sz_post : ∀ t : CT, t.ok → ∀ r, r ∈ t.post → CN.Sz r
  | .tt, _, r, hr => by
    obtain rfl := List.mem_singleton.1 hr
    exact ⟨Nat.zero_le _, Nat.zero_le _⟩
  | .is o v, h, r, hr => by
    obtain rfl := List.mem_singleton.1 hr
    have h1 := code_size h.1
    have h2 := code_size h.2
    unfold CN.Sz maxLen
    exact ⟨by show o.size ≤ _; omega, by show v.size ≤ _; omega⟩
  | .no t, h, r, hr => by
    rcases List.mem_append.1 hr with hr | hr
    · exact sz_post t h r hr
    · obtain rfl := List.mem_singleton.1 hr
      exact ⟨Nat.zero_le _, Nat.zero_le _⟩
  | .and a b, h, r, hr => by
    rcases List.mem_append.1 hr with hr | hr
    · rcases List.mem_append.1 hr with hr | hr
      · exact sz_post a h.1 r hr
      · exact sz_post b h.2 r hr
    · obtain rfl := List.mem_singleton.1 hr
      exact ⟨Nat.zero_le _, Nat.zero_le _⟩
  | .or a b, h, r, hr => by
    rcases List.mem_append.1 hr with hr | hr
    · rcases List.mem_append.1 hr with hr | hr
      · exact sz_post a h.1 r hr
      · exact sz_post b h.2 r hr
    · obtain rfl := List.mem_singleton.1 hr
      exact ⟨Nat.zero_le _, Nat.zero_le _⟩
theorem cond_sz {l : List CN} (h : condB l = true) : ∀ r, r ∈ l → CN.Sz r := by
  obtain ⟨t, hok, rfl, _⟩ := cond_tree (condB_iff.1 h)
  exact sz_post t hok
theorem negs_facts {l : List CN} {ps : List PK} {m : List CN} {y : Bool} (hr : negR l = (m, y)) (hc : condB l = true) :
    NegShape m ∧ holdsB l (lessP (optsR l) ps) = holdsB l ps ∧ (y = true → condB m = true ∧ holdsB m ps = !holdsB l ps) := by
  obtain ⟨t, hok, rfl, hln⟩ := cond_tree (condB_iff.1 hc)
  rw [negR_in hok hln] at hr
  have ho : optsR t.post = t.post.foldl addO [] := by unfold optsR; rw [if_pos hc]; rfl
  refine ⟨?_, ?_, ?_⟩
  · by_cases h30 : (t.neg true).post.length ≤ 30
    · rw [if_pos h30] at hr
      obtain ⟨rfl, rfl⟩ := Prod.mk.inj hr
      exact shape_neg t true
    · rw [if_neg h30] at hr
      obtain ⟨rfl, rfl⟩ := Prod.mk.inj hr
      exact fun i hi _ => absurd hi (Nat.not_lt_zero _)
  · rw [holdsB_yes _ hok hln, holdsB_yes _ hok hln]
    exact ev_less t (fun x hx hk => by rw [ho]; exact opts_has _ _ x hx hk)
  · intro hy
    by_cases h30 : (t.neg true).post.length ≤ 30
    · rw [if_pos h30] at hr
      obtain ⟨rfl, _⟩ := Prod.mk.inj hr
      have hok2 := neg_ok t true hok
      refine ⟨condB_yes (cond_post hok2 h30), ?_⟩
      rw [holdsB_yes _ hok2 h30, holdsB_yes _ hok hln, ev_neg]
      rfl
    · rw [if_neg h30] at hr
      obtain ⟨_, rfl⟩ := Prod.mk.inj hr
      cases hy

set_option maxRecDepth 100000 in
set_option maxHeartbeats 4000000 in
theorem walk_FnNegations (a : Option Addr) (n c : Nat) (w : World) (hm : n ≤ maxLen) (hcode : CodeAt w.heap.size w a n) :
    Calls Try.prog 4 #[.slice a n c] w fun e w' => e = .returned (.bool true) ∧ Below w.heap.size w w' := by
  obtain ⟨i0, hi0, hz0, hz1, hz2⟩ := info_parts PK.info
  unfold maxLen at hm
  have HCO := Lib.hid hcode
  clear hcode
  by_cases hbig : 1048576 < n
  · have e0 : decide ((1048576 : Int) < (n : Int)) = true := decide_eq_true (by omega)
    go_enter Try.func4, Try.ntmps4
    go_wp2_with fail
    refine (laws_big a n c _).mono ?_
    rintro e w1 ⟨rfl, rfl⟩
    go_wp2
    go_ret
    exact ⟨rfl, Below.refl _ _⟩
  have e0 : decide ((1048576 : Int) < (n : Int)) = false := decide_eq_false (by omega)
  go_enter Try.func4, Try.ntmps4
  go_wp2_with fail
  refine (laws_big a n c _).mono ?_
  rintro e w0 ⟨rfl, rfl⟩
  go_wp2_with fail
  refine (draw_holds a n c _ (by omega) HCO.out).mono ?_
  rintro e w1 ⟨v1, v2, l, ps, rfl, hl, hp, hl15, hlz, hp3, hpz, hb⟩
  obtain ⟨a1, c1, rfl⟩ := hl.slice
  obtain ⟨a2, c2, rfl⟩ := hp.slice
  have HLZ := Lib.hid hlz
  have HPZ := Lib.hid hpz
  have HL1 := Lib.hid hl
  have HP1 := Lib.hid hp
  have B1 := Lib.hid hb
  clear hl hp hlz hpz hb hbig hm e0 HCO
  obtain ⟨m, y, hr⟩ : ∃ m y, negR l = (m, y) := ⟨_, _, rfl⟩
  have HR := Lib.hid hr
  have hm30 : m.length ≤ 30 := by have := negR_len l; rw [hr] at this; exact this
  clear hr
  go_wp2_with fail
  refine (im_NegateCond _ l _ HL1.out HLZ.out (by unfold maxLen; omega)).mono ?_
  rintro e w2 ⟨vN, rfl, hown, hb⟩
  rw [HR.out] at hown ⊢
  simp only at hown ⊢
  have B2 := Lib.hid (B1.out.trans (hb.mono B1.out.size))
  have HN2 := Lib.hid (CN.is_of_row hown)
  have HL2 := Lib.hid (HL1.out.below hb)
  have HP2 := Lib.hid (HP1.out.below hb)
  obtain ⟨a3, c3, rfl⟩ := HN2.out.slice
  clear hown hb B1 HL1 HP1
  have hnn : (y != y) = false := by simp
  go_wp2_with fail
  refine (spec_negateCond _ l _ HL2.out HLZ.out (by unfold maxLen; omega)).mono ?_
  rintro e w3 ⟨g3, c3', rfl, hown, hb⟩
  rw [HR.out]
  simp only
  have B3 := Lib.hid (B2.out.trans (hb.mono B2.out.size))
  have HN3 := Lib.hid (HN2.out.below hb)
  have HL3 := Lib.hid (HL2.out.below hb)
  have HP3 := Lib.hid (HP2.out.below hb)
  clear hown hb B2 HL2 HP2 HN2
  go_wp2_with fail
  refine (im_OptionsIn _ l _ HL3.out HLZ.out (by unfold maxLen; omega)).mono ?_
  rintro e w4 ⟨vT, rfl, hown, hb⟩
  have B4 := Lib.hid (B3.out.trans (hb.mono B3.out.size))
  have HN4 := Lib.hid (HN3.out.below hb)
  have HL4 := Lib.hid (HL3.out.below hb)
  have HP4 := Lib.hid (HP3.out.below hb)
  have HT4 := Lib.hid (strs_of_rowT rfl hown)
  have hns30 := optsR_len l
  obtain ⟨ns, hns⟩ : ∃ ns, optsR l = ns := ⟨_, rfl⟩
  have HNS := Lib.hid hns
  rw [hns] at HT4 hns30
  obtain ⟨a4, c4, rfl⟩ : ∃ (a : Option Addr) (c : Nat), vT = .slice a ns.length c := by
    rcases HT4.out with ⟨rfl, a, c, rfl⟩ | ⟨_, b, o, c, rfl, _⟩
    · exact ⟨a, c, rfl⟩
    · exact ⟨_, c, rfl⟩
  clear hown hb B3 HL3 HP3 HN3 hns
  have HO0 : Hid ((w4.alloc (.cells #[] 40)).ownsRow w4.heap.size 40 2 (.slice (some ⟨w4.heap.size, 0, none⟩) 0 0) 0 (PK.cells (lessP ns (ps.take 0)))) := Lib.hid (World.ownsRow_lit w4 #[] 0 (Nat.le_refl _) (Nat.zero_le _) rfl (e := 40) (size := 2))
  have HAL : Hid (Below w4.heap.size w4 (w4.alloc (.cells #[] 40))) := Lib.hid ((Below.refl _ _).alloc (Nat.le_refl _) _)
  go_wp2_with fail
  go_loopw [10, 11] (fun x i wr => ∃ (k q : Nat) (g : Nat) (ls : List PK), i = .int .i64 k ∧ x = .slice (some ⟨g, 0, none⟩) ls.length q ∧ k ≤ ps.length ∧ ls.length ≤ k ∧ Hid (ls = lessP ns (ps.take k)) ∧ Hid (wr.ownsRow w4.heap.size 40 2 (.slice (some ⟨g, 0, none⟩) ls.length q) ls.length (PK.cells ls)) ∧ Hid (Below w4.heap.size w4 wr)) (fun _ i _ => ps.length - (intOf i).toNat)
  case atStart => exact ⟨0, 0, w4.heap.size, [], rfl, rfl, Nat.zero_le _, Nat.zero_le _, Lib.hid rfl, HO0, HAL⟩
  case round =>
    obtain ⟨k, q, g, ls, rfl, rfl, hk, hlk, HLS, HO, HB⟩ := hrel
    clear HO0 HAL
    have hbs := HB.out.size
    have hb4 := B4.out.size
    by_cases hlt : k < ps.length
    · have HTK := Lib.hid (lessP_take (ns := ns) hlt)
      obtain ⟨b2, o2, c2', hv2, hc2, hcell2⟩ := HP4.out.some (by omega)
      simp only [Value.slice.injEq] at hv2
      obtain ⟨rfl, _, rfl⟩ := hv2
      have HCL := Lib.hid hcell2
      obtain ⟨r0, r1⟩ := (hcell2.below HB.out).at k hlt
      have hzk := HPZ.out _ (List.getElem_mem hlt)
      generalize ps[k]'hlt = x at *
      clear hcell2 hc2
      go_wp2_with fail
      refine (laws_hasText _ ns x.opt _ (HT4.out.below HB.out) (by omega)).mono ?_
      rintro e w6 ⟨rfl, hb⟩
      have HO6 := Lib.hid (own_keepL HO.out hb)
      have HB6 := Lib.hid (HB.out.trans (hb.mono HB.out.size))
      have hb2w : b2 < wr.heap.size := Nat.lt_of_lt_of_le HCL.out.1 hbs
      have q0 := (hb.cell (p := ⟨b2, o2 + k * 2, none⟩) hb2w).trans r0
      have q1 := (hb.cell (p := ⟨b2, o2 + k * 2 + 1, none⟩) hb2w).trans r1
      have hs6 := HB6.out.size
      clear hb r0 r1 HO HB
      rcases Bool.eq_false_or_eq_true (inB ns x.opt) with hin | hin
      · have HNX : Hid (ls ++ [x] = lessP ns (ps.take (k + 1))) := Lib.hid (by rw [HTK.out, if_pos hin, HLS.out])
        rw [hin]
        clear hin HTK
        go_wp2_with (at_builtin; refine wpList_append_own _ rfl _ _ 32 rfl w4.heap.size 40 i0 (.agg #[.string ByteArray.empty, .string ByteArray.empty]) 2 32 Try.underlying32 hi0 hz0 hz1 hz2 rfl (by decide) _ ls.length (PK.cells ls) rfl (HO6.out.alloc _) ⟨w6.heap.size, 0, none⟩ 1 1 [.string x.opt, .string x.vl] rfl rfl (newL2 _ _ _ _) (by intro z hz; simp at hz; rcases hz with rfl | rfl <;> rfl) (by unfold maxLen; omega) (by omega) (by simp; omega) ?_)
        intro v7 w7 ho hg _
        obtain ⟨g7, c7, rfl⟩ := own_someL ho
        have HO7 : Hid (w7.ownsRow w4.heap.size 40 2 (.slice (some ⟨g7, 0, none⟩) (ls.length + 1) c7) (ls.length + 1) (PK.cells (ls ++ [x]))) := Lib.hid (by rw [← PK.cells_push]; exact ho)
        have HB7 := Lib.hid ((HB6.out.alloc HB6.out.size (.cells #[.string x.opt, .string x.vl] 40)).grown hg (by simp; omega) (fun j hj => (HO6.out.lt j hj).1))
        clear ho hg
        go_wp2_with fail
        go_roundw
        case rel => exact ⟨k + 1, c7, g7, ls ++ [x], by go_num, by simp, by omega, by simp; omega, HNX, by simpa using HO7, HB7⟩
        case measure => simp [intOf]; omega
      · have HNX : Hid (ls = lessP ns (ps.take (k + 1))) := Lib.hid (by rw [HTK.out, if_neg (by rw [hin]; exact Bool.noConfusion), HLS.out])
        rw [hin]
        clear hin HTK
        go_wp2_with fail
        go_roundw
        case rel => exact ⟨k + 1, q, g, ls, by go_num, rfl, by omega, by omega, HNX, HO6, HB6⟩
        case measure => simp [intOf]; omega
    have HLP : Hid (ls = lessP ns ps) := Lib.hid (by rw [HLS.out, List.take_of_length_le (by omega)])
    have B5 := Lib.hid (B4.out.trans (HB.out.mono hb4))
    have HN5 := Lib.hid (HN4.out.below HB.out)
    have HL5 := Lib.hid (HL4.out.below HB.out)
    have HP5 := Lib.hid (HP4.out.below HB.out)
    have HS5 := Lib.hid (PK.is_of_row HO.out)
    have HSZ : Hid (∀ r, r ∈ ls → PK.Sz r) := Lib.hid (fun r hr => HPZ.out r (List.mem_filter.1 (show r ∈ lessP ns ps from HLP.out ▸ hr)).1)
    clear HN4 HL4 HP4 HT4 B4
    go_wp2_with fail
    refine (spec_isCond _ l _ HL5.out HLZ.out (by unfold maxLen; omega)).mono ?_
    rintro e w6 ⟨rfl, hb⟩
    have B6 := Lib.hid (B5.out.trans (hb.mono B5.out.size))
    have HN6 := Lib.hid (HN5.out.below hb)
    have HL6 := Lib.hid (HL5.out.below hb)
    have HP6 := Lib.hid (HP5.out.below hb)
    have HS6 := Lib.hid (HS5.out.below hb)
    clear hb B5 HN5 HL5 HP5 HS5 HO HB
    rcases Bool.eq_false_or_eq_true (condB l) with hc | hc
    rotate_left
    · have hR := HR.out
      rw [negR_no hc] at hR
      obtain ⟨rfl, rfl⟩ := Prod.mk.inj hR
      have hN0 : ns = [] := by rw [← HNS.out]; unfold optsR; rw [hc]; rfl
      subst hN0
      have HH := Lib.hid (im_Holds _ _ l ps w6 HL6.out HLZ.out (by unfold maxLen; omega) HP6.out HPZ.out (by unfold maxLen; omega))
      rw [holdsB_no hc] at HH
      rw [hc]
      clear hc hR
      go_wp2_with fail
      refine HH.out.mono ?_
      rintro e w7 ⟨rfl, hb⟩
      have B7 := Lib.hid (B6.out.trans (hb.mono B6.out.size))
      clear hb
      go_wp2_with fail
      go_ret
      exact ⟨rfl, B7.out⟩
    have HF := Lib.hid (negs_facts (ps := ps) HR.out hc)
    rw [HNS.out] at HF
    rw [hc]
    have HCL := Lib.hid hc
    clear hc
    go_wp2_with fail
    go_loop [12] (fun i => ∃ j : Nat, i = .int .i64 j ∧ j ≤ m.length) (fun i => m.length - (intOf i).toNat)
    case atStart => exact ⟨0, rfl, Nat.zero_le _⟩
    case round =>
      obtain ⟨j, rfl, hj⟩ := hrel
      by_cases hjl : j < m.length
      · obtain ⟨b5, o5, c5, hv5, hc5, hcell5⟩ := HN6.out.some (by omega)
        simp only [Value.slice.injEq] at hv5
        obtain ⟨rfl, _, rfl⟩ := hv5
        obtain ⟨r0, _, _⟩ := hcell5.at j hjl
        by_cases h2 : (m[j]'hjl).kind = 2
        · obtain ⟨h3, h0, h4⟩ := HF.out.1 j hjl h2
          obtain ⟨j', rfl⟩ : ∃ j', j = j' + 1 := ⟨j - 1, by omega⟩
          obtain ⟨q0, _, _⟩ := hcell5.at j' (by omega)
          have h4' : (m[j']'(by omega)).kind = 0 ∨ (m[j']'(by omega)).kind = 1 := h4
          rw [h2] at r0
          generalize m[j']'(by omega) = z at *
          clear h2 h3 h4 hcell5
          rcases h4' with h4 | h4
          · rw [h4] at q0
            clear h4
            go_wp2_with fail
            go_round
            case rel => exact ⟨j' + 2, by go_num, by omega⟩
            case measure => simp [intOf]; omega
          · rw [h4] at q0
            clear h4
            go_wp2_with fail
            go_round
            case rel => exact ⟨j' + 2, by go_num, by omega⟩
            case measure => simp [intOf]; omega
        · have hb2 : ((m[j]'hjl).kind == 2) = false := beq_eq_false_iff_ne.2 h2
          generalize m[j]'hjl = z at *
          clear h2 hcell5
          go_wp2_with fail
          go_round
          case rel => exact ⟨j + 1, by go_num, by omega⟩
          case measure => simp [intOf]; omega
      obtain ⟨yh, hyh⟩ : ∃ yh, holdsB l ps = yh := ⟨_, rfl⟩
      have HYH := Lib.hid hyh
      have HH1 := Lib.hid (im_Holds _ _ l ls w6 HL6.out HLZ.out (by unfold maxLen; omega) HS6.out HSZ.out (by unfold maxLen; omega))
      have hy1 : holdsB l ls = yh := by rw [HLP.out, HF.out.2.1, hyh]
      rw [hy1] at HH1
      clear hy1
      have HH2 : Hid (∀ W, Below w6.heap.size w6 W → Calls Try.prog 23 #[.slice a1 l.length c1, .slice a2 ps.length c2] W (BoolRes yh W)) := Lib.hid (fun W hW => by
        have := im_Holds _ _ l ps W (HL6.out.below hW) HLZ.out (by unfold maxLen; omega) (HP6.out.below hW) HPZ.out (by unfold maxLen; omega)
        rw [hyh] at this
        exact this)
      have hyy : (yh == yh) = true := by simp
      clear hyh
      go_wp2_with fail
      refine HH1.out.mono ?_
      rintro e w7 ⟨rfl, hb⟩
      have C7 := Lib.hid hb
      clear hb
      go_wp2_with fail
      refine (HH2.out _ C7.out).mono ?_
      rintro e w8 ⟨rfl, hb⟩
      have C8 := Lib.hid (C7.out.trans (hb.mono C7.out.size))
      clear hb C7
      cases y with
      | false =>
        go_wp2_with fail
        go_ret
        exact ⟨rfl, B6.out.trans (C8.out.mono B6.out.size)⟩
      | true =>
        have HC9 := Lib.hid (HF.out.2.2 rfl)
        have HMZ : Hid (∀ r, r ∈ m → CN.Sz r) := Lib.hid (cond_sz HC9.out.1)
        go_wp2_with fail
        refine (spec_isCond _ m _ (HN6.out.below C8.out) HMZ.out (by unfold maxLen; omega)).mono ?_
        rintro e w9 ⟨rfl, hb⟩
        rw [HC9.out.1]
        have C9 := Lib.hid (C8.out.trans (hb.mono C8.out.size))
        clear hb C8
        go_wp2_with fail
        refine (im_Holds _ _ m ps _ (HN6.out.below C9.out) HMZ.out (by unfold maxLen; omega) (HP6.out.below C9.out) HPZ.out (by unfold maxLen; omega)).mono ?_
        rintro e w10 ⟨rfl, hb⟩
        rw [HC9.out.2, HYH.out]
        have C10 := Lib.hid (C9.out.trans (hb.mono C9.out.size))
        clear hb C9
        go_wp2_with fail
        refine (HH2.out _ C10.out).mono ?_
        rintro e w11 ⟨rfl, hb⟩
        have C11 := Lib.hid (C10.out.trans (hb.mono C10.out.size))
        clear hb C10
        have hne : ((!yh) != yh) = true := by cases yh <;> rfl
        go_wp2_with fail
        go_ret
        exact ⟨rfl, B6.out.trans (C11.out.mono B6.out.size)⟩
end Go.Proofs.Ytghofgjlmfdnpaa
