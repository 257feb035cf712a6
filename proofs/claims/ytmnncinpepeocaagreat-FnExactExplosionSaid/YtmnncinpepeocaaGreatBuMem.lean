import Derived.Test.YtmnncinpepeocaaGreatStrucI
import Derived.Test.YtmnncinpepeocaaGreatBuWay
import Derived.WalkKit
import Derived.WalkSpells
import Derived.WalkSmall
import Derived.BigQuiet
import Derived.OneCell
import Derived.Deep.QuietTactic
import Derived.Deep.DeepCutAuto
import Derived.Deep.RegionHeld3
import Derived.StillTailTactics
import Derived.Laws.EntriesVeiled
import Derived.Laws.OwnMore
import Derived.Lib.Hide
namespace Go.Proofs.YtmnncinpepeocaaGreat
open Go.RowKit

/-- What a reckoning goes by. -/
structure MC where
 w0 : World
 v1 : Value
 v2 : Value
 ys : List BL
 lo : Nat
 hi : Nat
 c : ByteArray
 p : ByteArray → Bool
 q : Nat
 F : FuncId
 fs : Array Value
 bs : Nat
 bc : Nat
 bi : Nat
 bm : Nat
 bk : Nat
 br : Nat
 ba : Nat
 ks : List ByteArray
 lv : ByteArray → Nat
def MC.V (m : MC) (s : ByteArray) : Nat := pv m.ys m.c m.p m.q s
structure MC.Ok (m : MC) : Prop where
 hx : BX m.lo m.hi m.w0 m.v2 m.ys
 len : m.ys.length ≤ 24
 qty : ∀ x, x ∈ m.ys → 1 ≤ x.qty ∧ x.qty ≤ 1000
 par : ∀ x, x ∈ m.ys → x.par ∈ m.ks
 lvl : Lvl (m.ys.map edOf) m.lv
 lv12 : ∀ s, m.lv s < 12
 box : m.w0.heap[m.bs]? = some (.cells #[m.v1, m.v2] 71)
 code : m.w0.heap[m.bc]? = some (.cells #[.string m.c] 9)
 bet : m.w0.heap[m.bi]? = some (.cells #[.func (.func m.F) m.fs #[]] 76)
 hp : ∀ s, s ∈ m.ks → ∀ w', Below m.w0.heap.size m.w0 w' → Calls Tryz.prog m.F (m.fs.push (.string s)) w' (BoolRes (m.p s) w')
 ca : ∀ (args : Array Value) (w : World), (callFunc m.F args).run Tryz.prog w = .ok (.enter m.F args) w
 nd : m.ks.Nodup
 k12 : m.ks.length ≤ 12
 ksz : ∀ s, s ∈ m.ks → s.size ≤ maxLen
 low : m.w0.heap.size ≤ m.bm
 ak : m.bm < m.bk
 ar : m.bm < m.br
 aa : m.bm < m.ba
theorem MC.Ok.acy {m : MC} (h : m.Ok) : Acy (m.ys.map edOf) := ⟨m.lv, h.lvl, h.lv12⟩
def MC.askV (m : MC) : Value := .func (.func 115) #[] #[.pointer (some ⟨m.bk, 0, none⟩), .pointer (some ⟨m.br, 0, none⟩), .pointer (some ⟨m.ba, 0, none⟩)]
/-- What is known lies in memory. -/
structure MC.St (m : MC) (w : World) (L : ByteArray → Option Int) : Prop where
 bl : Below m.w0.heap.size m.w0 w
 mp : MapG mInt Tryz.prog 9 w m.bm (cntL m.ks L) L
 dom : ∀ s, L s ≠ none → s ∈ m.ks
 good : ∀ s v, L s = some v → v = capT (m.V s)
 has : L m.c ≠ none
 k1 : w.heap[m.bk]? = some (.cells #[.map (some m.bm)] 134)
 r1 : w.heap[m.br]? = some (.cells #[.func (.func 94) #[] #[.pointer (some ⟨m.bs, 0, none⟩), .pointer (some ⟨m.bc, 0, none⟩), .pointer (some ⟨m.bi, 0, none⟩)]] 135)
 a1 : w.heap[m.ba]? = some (.cells #[m.askV] 83)
theorem blk_grownM {w w' : World} {g b : Nat} {x : Obj} (h : w.heap[g]? = some x) (hg : w.grownBy w' (some b)) (hne : g ≠ b) : w'.heap[g]? = some x := (hg.block g (lt_of_heap h) (by simp; omega)).trans h
theorem MC.St.keep {m : MC} {w w' : World} {L : ByteArray → Option Int} (h : m.St w L) (hb : Below w.heap.size w w') : m.St w' L :=
 ⟨h.bl.trans (hb.mono h.bl.size), h.mp.below hb, h.dom, h.good, h.has, blk_below h.k1 hb, blk_below h.r1 hb, blk_below h.a1 hb⟩
theorem MC.St.put {m : MC} (ok : m.Ok) {w w' : World} {L : ByteArray → Option Int} {s : ByteArray} (h : m.St w L) (hs : s ∈ m.ks) (hl : L s = none) (hm : MapG mInt Tryz.prog 9 w' m.bm (cntL m.ks L + 1) (lookG1 L s (capT (m.V s)))) (hg : w.grownBy w' (some m.bm)) : m.St w' (lookG1 L s (capT (m.V s))) := by
 refine ⟨h.bl.grown hg h.bl.size (fun k hk => by cases hk; exact ok.low), by rw [cntL_new ok.nd hs hl]; exact hm, fun t ht => ?_, fun t v ht => ?_, ?_, blk_grownM h.k1 hg (by have := ok.ak; omega), blk_grownM h.r1 hg (by have := ok.ar; omega), blk_grownM h.a1 hg (by have := ok.aa; omega)⟩
 · by_cases e : t = s
   · rw [e]; exact hs
   · unfold lookG1 at ht; rw [if_neg e] at ht; exact h.dom t ht
 · unfold lookG1 at ht
   by_cases e : t = s
   · rw [if_pos e] at ht; rw [e]; exact (Option.some.inj ht).symm
   · rw [if_neg e] at ht; exact h.good t v ht
 · unfold lookG1
   by_cases e : m.c = s
   · rw [if_pos e]; simp
   · rw [if_neg e]; exact h.has
/-- What a call of the closure gives. -/
def MC.AskR (m : MC) (s : ByteArray) (L : ByteArray → Option Int) (w : World) (e : Ending) (w' : World) : Prop :=
 e = .returned (.int .i64 (capT (m.V s))) ∧ ∃ L', Hid (m.St w' L') ∧ Hid (∀ t, m.lv s < m.lv t → L' t = L t) ∧ Hid (w.grownBy w' (some m.bm))
def MC.RecR (m : MC) (s : ByteArray) (L : ByteArray → Option Int) (w : World) (e : Ending) (w' : World) : Prop :=
 e = .returned (.int .i64 (capT (m.V s))) ∧ ∃ L', Hid (m.St w' L') ∧ Hid (∀ t, m.lv s ≤ m.lv t → L' t = L t) ∧ Hid (w.grownBy w' (some m.bm))
def MC.AskC (m : MC) (d : Nat) : Prop := ∀ (s : ByteArray) (w : World) (L : ByteArray → Option Int), s ∈ m.ks → m.lv s < d → m.St w L → Calls Tryz.prog 115 #[.string s, .pointer (some ⟨m.bk, 0, none⟩), .pointer (some ⟨m.br, 0, none⟩), .pointer (some ⟨m.ba, 0, none⟩)] w (m.AskR s L w)
def MC.RecC (m : MC) (d : Nat) : Prop := ∀ (s : ByteArray) (w : World) (L : ByteArray → Option Int), s ∈ m.ks → s ≠ m.c → m.lv s < d → m.St w L → Calls Tryz.prog 94 #[.string s, m.askV, .pointer (some ⟨m.bs, 0, none⟩), .pointer (some ⟨m.bc, 0, none⟩), .pointer (some ⟨m.bi, 0, none⟩)] w (m.RecR s L w)

theorem zeroI (w : World) : (zeroValue 3).run Tryz.prog w = .ok (.int .i64 0) w := by kernel_rfl
set_option maxRecDepth 100000 in
set_option maxHeartbeats 1000000 in
theorem im_ask (m : MC) (ok : m.Ok) (d : Nat) (hr : m.RecC d) : m.AskC d := by
 intro s w L hs hd st
 have HS := Lib.hid st
 have HOK := Lib.hid ok
 have hsz := ok.ksz s hs
 have q0 := cell_of_row _ _ 0 _ _ _ st.k1
 have hn := cntL_le m.ks L
 have h12 := ok.k12
 cases hL : L s with
 | some v =>
  have HL := Lib.hid hL
  have hv := st.good s v hL
  subst hv
  clear hL ok st
  go_enter Tryz.func115, Tryz.ntmps115
  go_wp2_with (refine wpList_lookG_ok mInt _ rfl _ _ 134 rfl 9 3 Tryz.underlying9 Tryz.underlying134 (zeroI _) m.bm (cntL m.ks L) L rfl HS.out.mp s hsz rfl (some (capT (m.V s))) HL.out ?_)
  go_ret
  exact ⟨rfl, L, HS, Lib.hid (fun _ _ => rfl), Lib.hid (World.grownBy.refl _ _)⟩
 | none =>
  have HL := Lib.hid hL
  have hne : s ≠ m.c := fun e => st.has (by rw [← e]; exact hL)
  have HR := Lib.hid (hr s w L hs hne hd st)
  have q1 := cell_of_row _ _ 0 _ _ _ st.r1
  have q2 := cell_of_row _ _ 0 _ _ _ st.a1
  clear hL ok st hr hne
  unfold MC.askV at q2 HR
  go_enter Tryz.func115, Tryz.ntmps115
  go_wp2_with (refine wpList_lookG_ok mInt _ rfl _ _ 134 rfl 9 3 Tryz.underlying9 Tryz.underlying134 (zeroI _) m.bm (cntL m.ks L) L rfl HS.out.mp s hsz rfl none HL.out ?_)
  refine HR.out.mono ?_
  rintro e w1 ⟨rfl, L', HS1, HU, HG⟩
  clear HR q0 q1 q2
  have hL1 : L' s = none := by rw [HU.out s (Nat.le_refl _)]; exact HL.out
  have HL1 := Lib.hid hL1
  have q0 := cell_of_row _ _ 0 _ _ _ HS1.out.k1
  have hn1 := cntL_le m.ks L'
  clear hL1
  go_wp2_with (refine wpList_putG mInt _ rfl _ _ _ 134 rfl 9 3 Tryz.underlying9 Tryz.underlying134 m.bm (cntL m.ks L') L' rfl HS1.out.mp (by unfold maxLen; omega) s hsz rfl (capT (m.V s)) rfl ?_)
  intro w2 hm2 hg2
  have HS2 := Lib.hid (MC.St.put HOK.out HS1.out hs HL1.out hm2 hg2)
  have HG2 : Hid (w.grownBy w2 (some m.bm)) := Lib.hid (World.grownBy.trans HG.out hg2)
  clear hm2 hg2 q0
  go_wp2_with fail
  go_ret
  exact ⟨rfl, _, HS2, Lib.hid (fun t ht => by
   have hts : t ≠ s := fun e => by rw [e] at ht; omega
   unfold lookG1
   rw [if_neg hts]
   exact HU.out t (by omega)), HG2⟩

/-- What the reckoning for a part keeps. -/
def MC.RS (m : MC) (s : ByteArray) (L : ByteArray → Option Int) (w W' : World) : Prop := ∃ L', m.St W' L' ∧ (∀ t, m.lv s ≤ m.lv t → L' t = L t) ∧ w.grownBy W' (some m.bm)
theorem MC.RS.keep {m : MC} {s : ByteArray} {L : ByteArray → Option Int} {w W W' : World} (h : m.RS s L w W) (hb : Below W.heap.size W W') : m.RS s L w W' := by
 obtain ⟨L', h1, h2, h3⟩ := h
 exact ⟨L', h1.keep hb, h2, World.grownBy.trans h3 (grown_of_belowL hb _)⟩
theorem MC.RS.ask {m : MC} {s t : ByteArray} {L L' : ByteArray → Option Int} {w W W' : World} (h1 : ∀ u, m.lv s ≤ m.lv u → L' u = L u) (hg : w.grownBy W (some m.bm)) (ht : m.lv t < m.lv s) {L2 : ByteArray → Option Int} (h2 : m.St W' L2) (h3 : ∀ u, m.lv t < m.lv u → L2 u = L' u) (hg2 : W.grownBy W' (some m.bm)) : m.RS s L w W' :=
 ⟨L2, h2, fun u hu => by rw [h3 u (by omega), h1 u hu], World.grownBy.trans hg hg2⟩
theorem acc_step {m : MC} (ok : m.Ok) {s : ByteArray} {k : Nat} (hk : k < m.ys.length) (h : (m.ys[k]'hk).prt = s ∧ ((m.ys[k]'hk).par = m.c ∨ m.p (m.ys[k]'hk).par = true)) :
 ((accN m.ys m.c m.p m.q s (k + 1) : Nat) : Int) = ((accN m.ys m.c m.p m.q s k : Nat) : Int) + capT (m.V (m.ys[k]'hk).par) * (m.ys[k]'hk).qty := by
 have hq := ok.qty _ (List.getElem_mem hk)
 rw [accN_succ hk, if_pos h]
 unfold capT MC.V
 rw [Int.natCast_add, Int.natCast_mul, Int.toNat_of_nonneg (by omega)]
theorem cap_mul {n : Nat} (q : Int) (h : 1 ≤ q ∧ q ≤ 1000) : 0 ≤ capT n * q ∧ capT n * q ≤ 1000000001000 := by
 have h1 := capT_range n
 have h2 : capT n * q ≤ 1000000001 * 1000 := Int.mul_le_mul h1.2 h.2 (by omega) (by omega)
 exact ⟨Int.mul_nonneg h1.1 (by omega), Int.le_trans h2 (by decide)⟩
theorem acc_skip {m : MC} {s : ByteArray} {k : Nat} (hk : k < m.ys.length) (h : ¬((m.ys[k]'hk).prt = s ∧ ((m.ys[k]'hk).par = m.c ∨ m.p (m.ys[k]'hk).par = true))) :
 accN m.ys m.c m.p m.q s (k + 1) = accN m.ys m.c m.p m.q s k := by
 rw [accN_succ hk, if_neg h, Nat.add_zero]

set_option maxRecDepth 100000 in
set_option maxHeartbeats 4000000 in
theorem im_rec (m : MC) (ok : m.Ok) (d : Nat) (ha : m.AskC d) : m.RecC (d + 1) := by
 intro s w L hs hne hd st
 have HOK := Lib.hid ok
 have HS := Lib.hid st
 have HA := Lib.hid ha
 have HNE := Lib.hid hne
 have h24 := ok.len
 obtain ⟨a2, c2, e2⟩ := ok.hx.slice
 have hbx := blk_below ok.box st.bl
 rw [e2] at hbx
 have q1 := cell_of_row _ _ 1 _ _ _ hbx
 have HBL : Hid (∀ j, j ≤ m.ys.length → accN m.ys m.c m.p m.q s j ≤ 24000000024000) := Lib.hid (fun j hj => by
  have h1 := accN_le (c := m.c) (p := m.p) (q := m.q) (s := s) (fun x hx => (ok.qty x hx).2) j hj
  have h2 : j * 1000000001000 ≤ 24 * 1000000001000 := Nat.mul_le_mul_right _ (by omega)
  exact Nat.le_trans h1 h2)
 clear hbx st ok ha hne
 unfold MC.askV
 go_enter Tryz.func94, Tryz.ntmps94
 go_wp2_with fail
 go_loopw [8, 14] (fun u i wr => ∃ k : Nat, k ≤ m.ys.length ∧ i = .int .i64 k ∧ u = .int .i64 ((accN m.ys m.c m.p m.q s k : Nat) : Int) ∧ Hid (m.RS s L w wr)) (fun _ i _ => m.ys.length - (intOf i).toNat)
 case atStart => exact ⟨0, Nat.zero_le _, rfl, rfl, Lib.hid ⟨L, HS.out, fun _ _ => rfl, World.grownBy.refl _ _⟩⟩
 case round =>
  clear q1
  obtain ⟨k, hk, rfl, rfl, HR⟩ := hrel
  by_cases hlt : k < m.ys.length
  rotate_left
  · have hkn : k = m.ys.length := by omega
    subst hkn
    have HV := Lib.hid (accN_all HOK.out.acy HNE.out (fun x hx => (HOK.out.qty x hx).1) (p := m.p) (q := m.q) (s := s))
    obtain ⟨L', h1, h2, h3⟩ := HR.out
    have H1 := Lib.hid h1
    have H2 := Lib.hid h2
    have H3 := Lib.hid h3
    have hac := HBL.out _ (Nat.le_refl _)
    clear h1 h2 h3 HR
    generalize accN m.ys m.c m.p m.q s m.ys.length = acc at *
    go_wp2_with fail
    all_goals
     go_ret
     exact ⟨congrArg (fun z => Ending.returned (.int .i64 z)) (by have := HV.out; unfold MC.V; omega), L', H1, H2, H3⟩
  have HLT := Lib.hid hlt
  have hbw : Below m.w0.heap.size m.w0 wr := by obtain ⟨_, h1, _⟩ := HR.out; exact h1.bl
  have hcode := blk_below HOK.out.code hbw
  have hbet := blk_below HOK.out.bet hbw
  obtain ⟨b2, o2, c2', cs, hv2, hc2, hb2, hcl, hr5, hcell⟩ := (HOK.out.hx.below BLN.kept hbw).get k hlt
  rw [e2] at hv2
  simp only [Value.slice.injEq] at hv2
  obtain ⟨rfl, _, rfl⟩ := hv2
  obtain ⟨u5, rfl, h5⟩ := hr5
  obtain ⟨sa5, sc5, rfl⟩ := h5.slice
  have e0 := hcell 0 (by omega)
  have e1 := hcell 1 (by omega)
  have e2b := hcell 2 (by omega)
  have e3 := hcell 3 (by omega)
  have e4 := hcell 4 (by omega)
  have e5 := hcell 5 (by omega)
  simp only [List.getElem?_cons_zero, List.getElem?_cons_succ, Nat.add_zero] at e0 e1 e2b e3 e4 e5
  have HPAR := Lib.hid (HOK.out.par _ (List.getElem_mem hlt))
  have hqty := HOK.out.qty _ (List.getElem_mem hlt)
  have hlvx : m.lv (m.ys[k]'hlt).par < m.lv (m.ys[k]'hlt).prt := HOK.out.lvl _ (List.mem_map.2 ⟨_, List.getElem_mem hlt, rfl⟩)
  have HYES : Hid ((m.ys[k]'hlt).prt = s ∧ ((m.ys[k]'hlt).par = m.c ∨ m.p (m.ys[k]'hlt).par = true) → ((accN m.ys m.c m.p m.q s (k + 1) : Nat) : Int) = ((accN m.ys m.c m.p m.q s k : Nat) : Int) + capT (m.V (m.ys[k]'hlt).par) * (m.ys[k]'hlt).qty) := Lib.hid (fun h => acc_step HOK.out hlt h)
  have HNO : Hid (¬((m.ys[k]'hlt).prt = s ∧ ((m.ys[k]'hlt).par = m.c ∨ m.p (m.ys[k]'hlt).par = true)) → accN m.ys m.c m.p m.q s (k + 1) = accN m.ys m.c m.p m.q s k) := Lib.hid (fun h => acc_skip hlt h)
  have hacc := HBL.out k hk
  clear hcell h5 hc2 hb2 hcl hbw
  generalize m.ys[k]'hlt = x at *
  obtain ⟨W1, hW1⟩ : ∃ W, wr.alloc (.cells #[.string x.par, .string x.prt, .int .i64 x.qty, .int .i64 x.fr, .int .i64 x.un, .slice sa5 x.whn.length sc5] 94) = W := ⟨_, rfl⟩
  have HW1 := Lib.hid hW1
  have HA1 : Hid (W1.heap[wr.heap.size]? = some (.cells #[.string x.par, .string x.prt, .int .i64 x.qty, .int .i64 x.fr, .int .i64 x.un, .slice sa5 x.whn.length sc5] 94)) := Lib.hid (by rw [← hW1]; exact heap_alloc_new _ _)
  have hBA : Below wr.heap.size wr W1 := by rw [← hW1]; exact (Below.refl _ _).alloc (Nat.le_refl _) _
  have HR1 := Lib.hid (HR.out.keep hBA)
  have hcode := blk_below hcode hBA
  have hbet := blk_below hbet hBA
  have HLW : Hid (m.bm < wr.heap.size) := Lib.hid (by obtain ⟨_, h1, _⟩ := HR.out; exact h1.mp.lt)
  clear hW1 hBA HR
  go_upto_region 5 with fail
  rw [HW1.out]
  clear HW1 e0 e1 e2b e3 e4 e5
  have p0 := cell_of_row _ _ 0 _ _ _ HA1.out
  have p1 := cell_of_row _ _ 1 _ _ _ HA1.out
  have p2 := cell_of_row _ _ 2 _ _ _ HA1.out
  have q0 := cell_of_row _ _ 0 _ _ _ hcode
  have q3 := cell_of_row _ _ 0 _ _ _ hbet
  by_cases hp1 : x.prt = s
  rotate_left
  · have hn1 := str_ne hp1
    have HE := Lib.hid (HNO.out (fun h => hp1 h.1))
    clear hp1
    go_wp2_with fail
    go_roundw
    case rel => exact ⟨k + 1, HLT.out, by go_num, by rw [HE.out], HR1⟩
    case measure => have := HLT.out; simp [intOf]; omega
  have hy1 := str_eq hp1
  have hlvp : m.lv x.par < m.lv s := by rw [← hp1]; exact hlvx
  by_cases hp2 : x.par = m.c
  · have hy2 := str_eq hp2
    have HE := Lib.hid (HYES.out ⟨hp1, Or.inl hp2⟩)
    clear hp1 hp2
    have HR2 := HR1
    have HA2 := HA1
    have HVA := Lib.hid (capT_range (m.V x.par))
    go_upto_region 6 with fail
    have hrs := HR2.out
    have p0 := cell_of_row _ _ 0 _ _ _ HA2.out
    have p2 := cell_of_row _ _ 2 _ _ _ HA2.out
    have hbound : 0 ≤ capT (m.V x.par) * x.qty ∧ capT (m.V x.par) * x.qty ≤ 1000000001000 := cap_mul x.qty hqty
    have hva := HVA.out
    clear hcode hbet q0 q3
    refine wp_region_held_drew (S := (fun W' => Hid (m.RS s L w W') ∧ W'.cell? ⟨wr.heap.size, 0, none⟩ = some (.string x.par) ∧ W'.cell? ⟨wr.heap.size, 2, none⟩ = some (.int .i64 x.qty))) (by kernel_rfl) (⟨Lib.hid (HR2.out.keep (Below.refl _ _).drew), p0, p2⟩) (fun hHeld => ?_)
    refine wpAnyH_take (i := 0) (oi := { dst := some 34, op := Op.move (Operand.tmp 8), type := 3, pos := _, after := #[], guard := none }) (v := ?vr1x1) rfl (by kernel_rfl) (by kernel_rfl) (by kernel_rfl) (fun _ _ _ h => h) (Or.inl ⟨by rfl, ?yr1x1⟩) (by assumption) ?rr1x1
    case yr1x1 => (intro w' hSw; (try dsimp only at hSw); go_simp; (try with_reducible rfl))
    refine wpAnyH_take (i := 1) (oi := { dst := some 35, op := Op.move (Operand.tmp 1), type := 83, pos := _, after := #[], guard := none }) (v := ?vr1x2) rfl (by kernel_rfl) (by kernel_rfl) (by kernel_rfl) (fun _ _ _ h => h) (Or.inl ⟨by rfl, ?yr1x2⟩) (by assumption) ?rr1x2
    case yr1x2 => (intro w' hSw; (try dsimp only at hSw); go_simp; (try with_reducible rfl))
    refine wpAnyH_take (i := 2) (oi := { dst := some 36, op := Op.fieldAddr 94 (Operand.tmp 10) 0, type := 0, pos := _, after := #[], guard := none }) (v := ?vr1x3) rfl (by kernel_rfl) (by kernel_rfl) (by kernel_rfl) (fun _ _ _ h => h) (Or.inl ⟨by rfl, ?yr1x3⟩) (by assumption) ?rr1x3
    case yr1x3 => (intro w' hSw; (try dsimp only at hSw); go_simp; (try with_reducible rfl))
    (try simp only [Act.put, List.setIfInBounds_toArray, List.set_cons_zero, List.set_cons_succ])
    refine wpAnyH_take (i := 3) (oi := { dst := some 37, op := Op.load 9 (Operand.tmp 36), type := 9, pos := _, after := #[{ on := 2, ground := Ground.data }], guard := none }) (v := ?vr1x4) rfl (by kernel_rfl) (by kernel_rfl) (by kernel_rfl) (fun _ _ _ h => h) (Or.inl ⟨by rfl, ?yr1x4⟩) (by assumption) ?rr1x4
    case yr1x4 => (intro w' hSw; (try dsimp only at hSw); go_simp; (try with_reducible rfl))
    refine wpAnyH_take (i := 5) (oi := { dst := some 39, op := Op.fieldAddr 94 (Operand.tmp 10) 2, type := 0, pos := _, after := #[], guard := none }) (v := ?vr1x5) rfl (by kernel_rfl) (by kernel_rfl) (by kernel_rfl) (fun _ _ _ h => h) (Or.inl ⟨by rfl, ?yr1x5⟩) (by assumption) ?rr1x5
    case yr1x5 => (intro w' hSw; (try dsimp only at hSw); go_simp; (try with_reducible rfl))
    refine wpAnyH_take (i := 6) (oi := { dst := some 40, op := Op.load 3 (Operand.tmp 39), type := 3, pos := _, after := #[{ on := 5, ground := Ground.data }], guard := none }) (v := ?vr1x6) rfl (by kernel_rfl) (by kernel_rfl) (by kernel_rfl) (fun _ _ _ h => h) (Or.inl ⟨by rfl, ?yr1x6⟩) (by assumption) ?rr1x6
    case yr1x6 => (intro w' hSw; (try dsimp only at hSw); go_simp; (try with_reducible rfl))
    (try simp only [Act.put, List.setIfInBounds_toArray, List.set_cons_zero, List.set_cons_succ])
    refine wpAnyH_ready (rs := [4]) (by kernel_rfl) (by simp) ?_
    refine AllReadyH.cons (o := { dst := some 38, op := Op.call { callee := Callee.value (Operand.tmp 35), args := #[Operand.tmp 37], argTypes := #[9] }, type := 3, pos := _, after := #[{ on := 1, ground := Ground.data }, { on := 3, ground := Ground.data }], guard := none }) rfl (fun K hK => ?_) AllReadyH.nil
    go_simp
    have hS := (by assumption : Hid (m.RS s L w _) ∧ _); obtain ⟨L1, st1, hu1, hg1⟩ := hS.1.out; refine (HA.out x.par _ L1 HPAR.out (by omega) st1).mono ?_; rintro e w' ⟨rfl, L2, HS2, HU2, HG2⟩; have hS2 : Hid (m.RS s L w w') ∧ w'.cell? ⟨wr.heap.size, 0, none⟩ = some (.string x.par) ∧ w'.cell? ⟨wr.heap.size, 2, none⟩ = some (.int .i64 x.qty) := ⟨Lib.hid (MC.RS.ask hu1 hg1 hlvp HS2.out HU2.out HG2.out), cellL_grown hS.2.1 HG2.out (by simp; have := HLW.out; omega), cellL_grown hS.2.2 HG2.out (by simp; have := HLW.out; omega)⟩
    (try go_wp2_with fail)
    refine hK.out _ _ ?_ (fun hHeld => ?_)
    · (try dsimp only); first | with_reducible assumption | assumption
    clear hK K
    (try simp only [Act.put, List.setIfInBounds_toArray, List.set_cons_zero, List.set_cons_succ])
    refine wpAnyH_take (i := 7) (oi := { dst := some 41, op := Op.binOp BinOp.mul 3 (Operand.tmp 38) (Operand.tmp 40) 3, type := 3, pos := _, after := #[{ on := 4, ground := Ground.data }, { on := 6, ground := Ground.data }], guard := none }) (v := ?vr1x7) rfl (by kernel_rfl) (by kernel_rfl) (by kernel_rfl) (fun _ _ _ h => h) (Or.inl ⟨by rfl, ?yr1x7⟩) (by assumption) ?rr1x7
    case yr1x7 => (intro w' hSw; (try dsimp only at hSw); go_simp; (try with_reducible rfl))
    refine wpAnyH_take (i := 8) (oi := { dst := some 42, op := Op.binOp BinOp.add 3 (Operand.tmp 34) (Operand.tmp 41) 3, type := 3, pos := _, after := #[{ on := 0, ground := Ground.data }, { on := 7, ground := Ground.data }], guard := none }) (v := ?vr1x8) rfl (by kernel_rfl) (by kernel_rfl) (by kernel_rfl) (fun _ _ _ h => h) (Or.inl ⟨by rfl, ?yr1x8⟩) (by assumption) ?rr1x8
    case yr1x8 => (intro w' hSw; (try dsimp only at hSw); go_simp; (try with_reducible rfl))
    refine wpAnyH_take (i := 9) (oi := { dst := some 8, op := Op.assign (Operand.tmp 42), type := 3, pos := _, after := #[{ on := 8, ground := Ground.data }, { on := 4, ground := Ground.chain }, { on := 0, ground := Ground.phase }, { on := 1, ground := Ground.phase }, { on := 2, ground := Ground.phase }, { on := 3, ground := Ground.phase }, { on := 4, ground := Ground.phase }, { on := 5, ground := Ground.phase }, { on := 6, ground := Ground.phase }, { on := 7, ground := Ground.phase }, { on := 8, ground := Ground.phase }], guard := none }) (v := ?vr1x9) rfl (by kernel_rfl) (by kernel_rfl) (by kernel_rfl) (fun _ _ _ h => h) (Or.inl ⟨by rfl, ?yr1x9⟩) (by assumption) ?rr1x9
    case yr1x9 => (intro w' hSw; (try dsimp only at hSw); go_simp; (try with_reducible rfl))
    (try simp only [Act.put, List.setIfInBounds_toArray, List.set_cons_zero, List.set_cons_succ])
    refine wpAnyH_done (by kernel_rfl) ?_ _
    have hS := (by assumption : Hid (m.RS s L w _) ∧ _)
    have HR9 := Lib.hid hS.1.out
    go_wp2_with fail
    go_roundw
    case rel => exact ⟨k + 1, HLT.out, by go_num, by rw [HE.out, IntWalk.i64_in (capT (m.V x.par) * x.qty) (by omega), IntWalk.i64_in _ (by omega)], HR9⟩
    case measure => have := HLT.out; simp [intOf]; omega
  have hn2 := str_ne hp2
  have hca := HOK.out.ca
  have hbb : Below m.w0.heap.size m.w0 W1 := by obtain ⟨_, h1, _⟩ := HR1.out; exact h1.bl
  have HBE := Lib.hid (HOK.out.hp x.par HPAR.out W1 hbb)
  go_wp2_with fail
  refine HBE.out.mono ?_
  rintro e w2 ⟨rfl, hb⟩
  have HR2 := Lib.hid (HR1.out.keep hb)
  have HA2 := Lib.hid (blk_below HA1.out hb)
  have HVA := Lib.hid (capT_range (m.V x.par))
  clear hb HBE HR1 HA1 p0 p1 p2 hbb
  obtain ⟨y, hy⟩ : ∃ y, m.p x.par = y := ⟨_, rfl⟩
  have HY := Lib.hid hy
  rw [hy]
  clear hy hca
  have p0 := cell_of_row _ _ 0 _ _ _ HA2.out
  have p1 := cell_of_row _ _ 1 _ _ _ HA2.out
  have p2 := cell_of_row _ _ 2 _ _ _ HA2.out
  cases y with
  | false =>
   have HE := Lib.hid (HNO.out (fun h => by
    rcases h.2 with h2 | h2
    · exact hp2 h2
    · rw [HY.out] at h2; cases h2))
   go_wp2_with fail
   go_roundw
   case rel => exact ⟨k + 1, HLT.out, by go_num, by rw [HE.out], HR2⟩
   case measure => have := HLT.out; simp [intOf]; omega
  | true =>
   have HE := Lib.hid (HYES.out ⟨hp1, Or.inr HY.out⟩)
   clear hp1 hp2
   go_upto_region 6 with fail
   have hrs := HR2.out
   have p0 := cell_of_row _ _ 0 _ _ _ HA2.out
   have p2 := cell_of_row _ _ 2 _ _ _ HA2.out
   have hbound : 0 ≤ capT (m.V x.par) * x.qty ∧ capT (m.V x.par) * x.qty ≤ 1000000001000 := cap_mul x.qty hqty
   have hva := HVA.out
   clear hcode hbet q0 q3
   refine wp_region_held_drew (S := (fun W' => Hid (m.RS s L w W') ∧ W'.cell? ⟨wr.heap.size, 0, none⟩ = some (.string x.par) ∧ W'.cell? ⟨wr.heap.size, 2, none⟩ = some (.int .i64 x.qty))) (by kernel_rfl) (⟨Lib.hid (HR2.out.keep (Below.refl _ _).drew), p0, p2⟩) (fun hHeld => ?_)
   refine wpAnyH_take (i := 0) (oi := { dst := some 34, op := Op.move (Operand.tmp 8), type := 3, pos := _, after := #[], guard := none }) (v := ?vr2x1) rfl (by kernel_rfl) (by kernel_rfl) (by kernel_rfl) (fun _ _ _ h => h) (Or.inl ⟨by rfl, ?yr2x1⟩) (by assumption) ?rr2x1
   case yr2x1 => (intro w' hSw; (try dsimp only at hSw); go_simp; (try with_reducible rfl))
   refine wpAnyH_take (i := 1) (oi := { dst := some 35, op := Op.move (Operand.tmp 1), type := 83, pos := _, after := #[], guard := none }) (v := ?vr2x2) rfl (by kernel_rfl) (by kernel_rfl) (by kernel_rfl) (fun _ _ _ h => h) (Or.inl ⟨by rfl, ?yr2x2⟩) (by assumption) ?rr2x2
   case yr2x2 => (intro w' hSw; (try dsimp only at hSw); go_simp; (try with_reducible rfl))
   refine wpAnyH_take (i := 2) (oi := { dst := some 36, op := Op.fieldAddr 94 (Operand.tmp 10) 0, type := 0, pos := _, after := #[], guard := none }) (v := ?vr2x3) rfl (by kernel_rfl) (by kernel_rfl) (by kernel_rfl) (fun _ _ _ h => h) (Or.inl ⟨by rfl, ?yr2x3⟩) (by assumption) ?rr2x3
   case yr2x3 => (intro w' hSw; (try dsimp only at hSw); go_simp; (try with_reducible rfl))
   (try simp only [Act.put, List.setIfInBounds_toArray, List.set_cons_zero, List.set_cons_succ])
   refine wpAnyH_take (i := 3) (oi := { dst := some 37, op := Op.load 9 (Operand.tmp 36), type := 9, pos := _, after := #[{ on := 2, ground := Ground.data }], guard := none }) (v := ?vr2x4) rfl (by kernel_rfl) (by kernel_rfl) (by kernel_rfl) (fun _ _ _ h => h) (Or.inl ⟨by rfl, ?yr2x4⟩) (by assumption) ?rr2x4
   case yr2x4 => (intro w' hSw; (try dsimp only at hSw); go_simp; (try with_reducible rfl))
   refine wpAnyH_take (i := 5) (oi := { dst := some 39, op := Op.fieldAddr 94 (Operand.tmp 10) 2, type := 0, pos := _, after := #[], guard := none }) (v := ?vr2x5) rfl (by kernel_rfl) (by kernel_rfl) (by kernel_rfl) (fun _ _ _ h => h) (Or.inl ⟨by rfl, ?yr2x5⟩) (by assumption) ?rr2x5
   case yr2x5 => (intro w' hSw; (try dsimp only at hSw); go_simp; (try with_reducible rfl))
   refine wpAnyH_take (i := 6) (oi := { dst := some 40, op := Op.load 3 (Operand.tmp 39), type := 3, pos := _, after := #[{ on := 5, ground := Ground.data }], guard := none }) (v := ?vr2x6) rfl (by kernel_rfl) (by kernel_rfl) (by kernel_rfl) (fun _ _ _ h => h) (Or.inl ⟨by rfl, ?yr2x6⟩) (by assumption) ?rr2x6
   case yr2x6 => (intro w' hSw; (try dsimp only at hSw); go_simp; (try with_reducible rfl))
   (try simp only [Act.put, List.setIfInBounds_toArray, List.set_cons_zero, List.set_cons_succ])
   refine wpAnyH_ready (rs := [4]) (by kernel_rfl) (by simp) ?_
   refine AllReadyH.cons (o := { dst := some 38, op := Op.call { callee := Callee.value (Operand.tmp 35), args := #[Operand.tmp 37], argTypes := #[9] }, type := 3, pos := _, after := #[{ on := 1, ground := Ground.data }, { on := 3, ground := Ground.data }], guard := none }) rfl (fun K hK => ?_) AllReadyH.nil
   go_simp
   have hS := (by assumption : Hid (m.RS s L w _) ∧ _); obtain ⟨L1, st1, hu1, hg1⟩ := hS.1.out; refine (HA.out x.par _ L1 HPAR.out (by omega) st1).mono ?_; rintro e w' ⟨rfl, L2, HS2, HU2, HG2⟩; have hS2 : Hid (m.RS s L w w') ∧ w'.cell? ⟨wr.heap.size, 0, none⟩ = some (.string x.par) ∧ w'.cell? ⟨wr.heap.size, 2, none⟩ = some (.int .i64 x.qty) := ⟨Lib.hid (MC.RS.ask hu1 hg1 hlvp HS2.out HU2.out HG2.out), cellL_grown hS.2.1 HG2.out (by simp; have := HLW.out; omega), cellL_grown hS.2.2 HG2.out (by simp; have := HLW.out; omega)⟩
   (try go_wp2_with fail)
   refine hK.out _ _ ?_ (fun hHeld => ?_)
   · (try dsimp only); first | with_reducible assumption | assumption
   clear hK K
   (try simp only [Act.put, List.setIfInBounds_toArray, List.set_cons_zero, List.set_cons_succ])
   refine wpAnyH_take (i := 7) (oi := { dst := some 41, op := Op.binOp BinOp.mul 3 (Operand.tmp 38) (Operand.tmp 40) 3, type := 3, pos := _, after := #[{ on := 4, ground := Ground.data }, { on := 6, ground := Ground.data }], guard := none }) (v := ?vr2x7) rfl (by kernel_rfl) (by kernel_rfl) (by kernel_rfl) (fun _ _ _ h => h) (Or.inl ⟨by rfl, ?yr2x7⟩) (by assumption) ?rr2x7
   case yr2x7 => (intro w' hSw; (try dsimp only at hSw); go_simp; (try with_reducible rfl))
   refine wpAnyH_take (i := 8) (oi := { dst := some 42, op := Op.binOp BinOp.add 3 (Operand.tmp 34) (Operand.tmp 41) 3, type := 3, pos := _, after := #[{ on := 0, ground := Ground.data }, { on := 7, ground := Ground.data }], guard := none }) (v := ?vr2x8) rfl (by kernel_rfl) (by kernel_rfl) (by kernel_rfl) (fun _ _ _ h => h) (Or.inl ⟨by rfl, ?yr2x8⟩) (by assumption) ?rr2x8
   case yr2x8 => (intro w' hSw; (try dsimp only at hSw); go_simp; (try with_reducible rfl))
   refine wpAnyH_take (i := 9) (oi := { dst := some 8, op := Op.assign (Operand.tmp 42), type := 3, pos := _, after := #[{ on := 8, ground := Ground.data }, { on := 4, ground := Ground.chain }, { on := 0, ground := Ground.phase }, { on := 1, ground := Ground.phase }, { on := 2, ground := Ground.phase }, { on := 3, ground := Ground.phase }, { on := 4, ground := Ground.phase }, { on := 5, ground := Ground.phase }, { on := 6, ground := Ground.phase }, { on := 7, ground := Ground.phase }, { on := 8, ground := Ground.phase }], guard := none }) (v := ?vr2x9) rfl (by kernel_rfl) (by kernel_rfl) (by kernel_rfl) (fun _ _ _ h => h) (Or.inl ⟨by rfl, ?yr2x9⟩) (by assumption) ?rr2x9
   case yr2x9 => (intro w' hSw; (try dsimp only at hSw); go_simp; (try with_reducible rfl))
   (try simp only [Act.put, List.setIfInBounds_toArray, List.set_cons_zero, List.set_cons_succ])
   refine wpAnyH_done (by kernel_rfl) ?_ _
   have hS := (by assumption : Hid (m.RS s L w _) ∧ _)
   have HR9 := Lib.hid hS.1.out
   go_wp2_with fail
   go_roundw
   case rel => exact ⟨k + 1, HLT.out, by go_num, by rw [HE.out, IntWalk.i64_in (capT (m.V x.par) * x.qty) (by omega), IntWalk.i64_in _ (by omega)], HR9⟩
   case measure => have := HLT.out; simp [intOf]; omega

/-- The closure's contract. -/
theorem im_askAll (m : MC) (ok : m.Ok) : ∀ d, m.AskC d
 | 0 => fun _ _ _ _ h => absurd h (Nat.not_lt_zero _)
 | d + 1 => im_ask m ok (d + 1) (im_rec m ok d (im_askAll m ok d))
end Go.Proofs.YtmnncinpepeocaaGreat

namespace Go.Proofs.YtmnncinpepeocaaGreat
open Go.RowKit

set_option maxRecDepth 100000 in
set_option maxHeartbeats 1000000 in
/-- What memoized lays. -/
theorem im_memoized (bm b0 b1 b2 : Nat) (w : World) :
 Calls Tryz.prog 93 #[.map (some bm), .func (.func 94) #[] #[.pointer (some ⟨b0, 0, none⟩), .pointer (some ⟨b1, 0, none⟩), .pointer (some ⟨b2, 0, none⟩)]] w fun e w' =>
  e = .returned (.func (.func 115) #[] #[.pointer (some ⟨w.heap.size, 0, none⟩), .pointer (some ⟨w.heap.size + 1, 0, none⟩), .pointer (some ⟨w.heap.size + 1 + 1, 0, none⟩)]) ∧
  Hid (w'.heap[w.heap.size]? = some (.cells #[.map (some bm)] 134)) ∧ Hid (w'.heap[w.heap.size + 1]? = some (.cells #[.func (.func 94) #[] #[.pointer (some ⟨b0, 0, none⟩), .pointer (some ⟨b1, 0, none⟩), .pointer (some ⟨b2, 0, none⟩)]] 135)) ∧
  Hid (w'.heap[w.heap.size + 1 + 1]? = some (.cells #[.func (.func 115) #[] #[.pointer (some ⟨w.heap.size, 0, none⟩), .pointer (some ⟨w.heap.size + 1, 0, none⟩), .pointer (some ⟨w.heap.size + 1 + 1, 0, none⟩)]] 83)) ∧ Hid (Below w.heap.size w w') := by
 have hmf : ∀ (fn : Fn) (first cap : Array Value) (w : World), (Instr.makeFunc fn first cap).run Tryz.prog w = .ok (.func fn first cap) w := fun _ _ _ _ => rfl
 have hal := alloc3 w (.cells #[.map (some bm)] 134) (.cells #[.func (.func 94) #[] #[.pointer (some ⟨b0, 0, none⟩), .pointer (some ⟨b1, 0, none⟩), .pointer (some ⟨b2, 0, none⟩)]] 135) (.cells #[.nilFunc] 83)
 obtain ⟨W1, hW1⟩ : ∃ W, ((w.alloc (.cells #[.map (some bm)] 134)).alloc (.cells #[.func (.func 94) #[] #[.pointer (some ⟨b0, 0, none⟩), .pointer (some ⟨b1, 0, none⟩), .pointer (some ⟨b2, 0, none⟩)]] 135)).alloc (.cells #[.nilFunc] 83) = W := ⟨_, rfl⟩
 rw [hW1] at hal
 obtain ⟨hB, hz, h0, h1, h5⟩ := hal
 have HW1 := Lib.hid hW1
 have HB := Lib.hid hB
 have H0 := Lib.hid h0
 have H1 := Lib.hid h1
 have q0 := cell_of_row _ _ 0 _ _ _ h5
 have f0 := frozen_of_row _ _ 0 _ _ h5
 have H5 := Lib.hid h5
 clear hB h0 h1 h5 hW1
 go_enter Tryz.func93, Tryz.ntmps93
 go_upto_region 2 with fail
 rw [HW1.out]
 go_wp2_with fail
 go_ret
 exact ⟨rfl, Lib.hid (blk_other H0.out (by omega)), Lib.hid (blk_other H1.out (by omega)), Lib.hid (heap_setCell_same _ _ 0 _ _ _ H5.out), Lib.hid (HB.out.setCell (by simp; omega) _)⟩

/-- What piecesFrom gives. -/
def PcsRes (ys : List BL) (c : ByteArray) (p : ByteArray → Bool) (q : Nat) (ks : List ByteArray) (lv : ByteArray → Nat) (w : World) (e : Ending) (w' : World) : Prop :=
 ∃ (m : MC) (L : ByteArray → Option Int), e = .returned m.askV ∧ Hid m.Ok ∧ (m.ys = ys ∧ m.c = c ∧ m.p = p ∧ m.q = q ∧ m.ks = ks ∧ m.lv = lv) ∧ Hid (m.St w' L) ∧ Hid (Below w.heap.size w w') ∧ w.heap.size ≤ m.bm

set_option maxRecDepth 100000 in
set_option maxHeartbeats 1000000 in
theorem im_pieces (v1 v2 : Value) (ys : List BL) (lo hi : Nat) (c : ByteArray) (p : ByteArray → Bool) (q : Nat) (F : FuncId) (fs : Array Value) (ks : List ByteArray) (lv : ByteArray → Nat) (w : World) (h : BX lo hi w v2 ys) (hv1 : ∃ (a : Option Addr) (n k : Nat), v1 = .slice a n k)
 (hlen : ys.length ≤ 24) (hqt : ∀ x, x ∈ ys → 1 ≤ x.qty ∧ x.qty ≤ 1000) (hpar : ∀ x, x ∈ ys → x.par ∈ ks) (hlvl : Lvl (ys.map edOf) lv) (hlv12 : ∀ s, lv s < 12) (hc : c ∈ ks) (hq : q ≤ 1000000001)
 (hp : ∀ s, s ∈ ks → ∀ w', Below w.heap.size w w' → Calls Tryz.prog F (fs.push (.string s)) w' (BoolRes (p s) w')) (hca : ∀ (args : Array Value) (w : World), (callFunc F args).run Tryz.prog w = .ok (.enter F args) w)
 (hnd : ks.Nodup) (hk12 : ks.length ≤ 12) (hksz : ∀ s, s ∈ ks → s.size ≤ maxLen) :
 Calls Tryz.prog 54 #[.agg #[v1, v2], .string c, .int .i64 (q : Int), .func (.func F) fs #[]] w (PcsRes ys c p q ks lv w) := by
 have hmf : ∀ (fn : Fn) (first cap : Array Value) (w : World), (Instr.makeFunc fn first cap).run Tryz.prog w = .ok (.func fn first cap) w := fun _ _ _ _ => rfl
 obtain ⟨a1, n1, k1, rfl⟩ := hv1
 obtain ⟨a2, c2, rfl⟩ := h.slice
 have hal := alloc3 w (.cells #[.slice a1 n1 k1, .slice a2 ys.length c2] 71) (.cells #[.string c] 9) (.cells #[.func (.func F) fs #[]] 76)
 obtain ⟨W1, hW1⟩ : ∃ W, ((w.alloc (.cells #[.slice a1 n1 k1, .slice a2 ys.length c2] 71)).alloc (.cells #[.string c] 9)).alloc (.cells #[.func (.func F) fs #[]] 76) = W := ⟨_, rfl⟩
 rw [hW1] at hal
 obtain ⟨hB, hz, h0, h1, h5⟩ := hal
 have HW1 := Lib.hid hW1
 have HB := Lib.hid hB
 have HSZ := Lib.hid (hksz c hc)
 have HZ := Lib.hid hz
 let m : Nat → MC := fun n => ⟨W1, .slice a1 n1 k1, .slice a2 ys.length c2, ys, lo, hi, c, p, q, F, fs, w.heap.size, w.heap.size + 1, w.heap.size + 1 + 1, W1.heap.size, n, n + 1, n + 1 + 1, ks, lv⟩
 have hacy : Acy (ys.map edOf) := ⟨lv, hlvl, hlv12⟩
 have HOK : Hid (∀ n, W1.heap.size < n → (m n).Ok) := Lib.hid (fun n hn => ⟨h.below BLN.kept hB, hlen, hqt, hpar, hlvl, hlv12, h0, h1, h5, fun s hs w' hw => hp s hs w' (hB.trans (hw.mono hB.size)), hca, hnd, hk12, hksz, Nat.le_refl _, hn, Nat.lt_succ_of_lt hn, Nat.lt_succ_of_lt (Nat.lt_succ_of_lt hn)⟩)
 have HG : Hid (((q : Nat) : Int) = capT (pv ys c p q c)) := Lib.hid (by rw [pv_start hacy]; unfold capT; omega)
 have HC := Lib.hid (cntL_first hnd hc ((q : Nat) : Int))
 have q1 : (W1.alloc (.map #[] 0)).cell? ⟨w.heap.size + 1, 0, none⟩ = some (.string c) := cell_of_row _ _ 0 _ _ _ (blk_alloc h1 _)
 have HM0 : Hid (MapG mInt Tryz.prog 9 (W1.alloc (.map #[] 0)) W1.heap.size 0 lookG0) := Lib.hid (mapG_made mInt Tryz.prog 9 W1)
 have hmm := @run_makeMap Tryz.prog
 have HCM := Lib.hid hc
 clear h hW1 hB hz h0 h1 h5 hp hacy hqt hpar hlvl hlv12 hnd hksz hc hca
 go_enter Tryz.func54, Tryz.ntmps54
 go_upto_region 1 with fail
 rw [HW1.out]
 go_wp2_with (refine wpList_insG mInt _ rfl _ _ _ 134 rfl 9 3 Tryz.underlying9 Tryz.underlying134 W1.heap.size 0 lookG0 rfl HM0.out (by unfold maxLen; omega) c HSZ.out rfl (q : Int) rfl ?_)
 intro w2 hm2 hg2
 have HM2 := Lib.hid hm2
 have HB2 : Hid (Below W1.heap.size W1 w2) := Lib.hid (((Below.refl _ W1).alloc (Nat.le_refl _) (.map #[] 0)).grown hg2 (by simp) (fun j hj => by cases hj; omega))
 have hz2 : W1.heap.size + 1 ≤ w2.heap.size := by have := hg2.size; simpa using this
 clear hm2 hg2 hmm q1 HM0
 go_wp2_with fail
 refine (im_memoized _ _ _ _ w2).mono ?_
 rintro e w3 ⟨rfl, HK1, HR1, HA1, HB3⟩
 go_wp2_with fail
 go_ret
 have hbl : Below W1.heap.size W1 w3 := HB2.out.trans (HB3.out.mono HB2.out.size)
 refine ⟨m w2.heap.size, lookG1 lookG0 c ((q : Nat) : Int), rfl, Lib.hid (HOK.out _ (by omega)), ⟨rfl, rfl, rfl, rfl, rfl, rfl⟩, Lib.hid ⟨hbl, ?_, fun s hs => ?_, fun s v hv => ?_, ?_, HK1.out, HR1.out, HA1.out⟩, Lib.hid (HB.out.trans (hbl.mono HB.out.size)), HB.out.size⟩
 · show MapG mInt _ _ w3 W1.heap.size (cntL ks _) _
   rw [HC.out]
   exact HM2.out.below HB3.out
 · unfold lookG1 lookG0 at hs
   by_cases e : s = c
   · rw [e]; exact HCM.out
   · rw [if_neg e] at hs; exact absurd rfl hs
 · unfold lookG1 lookG0 at hv
   by_cases e : s = c
   · rw [if_pos e] at hv; rw [e, ← Option.some.inj hv]; exact HG.out
   · rw [if_neg e] at hv; cases hv
 · unfold lookG1
   show (if c = c then some _ else _) ≠ none
   rw [if_pos rfl]; simp
end Go.Proofs.YtmnncinpepeocaaGreat
