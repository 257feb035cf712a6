/-
 The program's products: a closure that lists, for each code, from what its parts have, and keeps what it has listed.
-/
import Derived.Test.YtmnncinpepeocaaGreatStrucI
import Derived.Test.YtmnncinpepeocaaGreatWyLib
import Derived.Test.YtmnncinpepeocaaGreatOwnN
import Derived.Test.YtmnncinpepeocaaGreatBuWay
import Derived.Test.YtmnncinpepeocaaGreatLevSpec
import Derived.Test.YtmnncinpepeocaaGreatBillSpec
import Derived.Test.YtmnncinpepeocaaGreatBuA
import Derived.WalkKit
import Derived.WalkSpells
import Derived.WalkSmall
import Derived.BigQuiet
import Derived.OneCell
import Derived.Maps.AppendAt
import Derived.Deep.QuietTactic
import Derived.Deep.DeepCutAuto
import Derived.Laws.EntriesVeiled
import Derived.Laws.OwnMore
import Derived.Lib.Hide
namespace Go.Proofs.YtmnncinpepeocaaGreat
open Go.RowKit

/-- What a listing goes by. -/
structure MW where
 w0 : World
 v1 : Value
 v2 : Value
 ys : List BL
 lo : Nat
 hi : Nat
 c : ByteArray
 bs : Nat
 bm : Nat
 bk : Nat
 br : Nat
 ba : Nat
 tp : Nat
 ks : List ByteArray
 lv : ByteArray → Nat
def MW.V (m : MW) (s : ByteArray) : List Nat := wW m.ys m.c s
structure MW.Ok (m : MW) : Prop where
 hx : BX m.lo m.hi m.w0 m.v2 m.ys
 len : m.ys.length ≤ 12
 qty : ∀ x, x ∈ m.ys → 1 ≤ x.qty ∧ x.qty ≤ 1000
 prt : ∀ x, x ∈ m.ys → x.prt ∈ m.ks
 lvl : Lvl (m.ys.map edOf) m.lv
 lv12 : ∀ s, m.lv s < 12
 box : m.w0.heap[m.bs]? = some (.cells #[m.v1, m.v2] 71)
 nd : m.ks.Nodup
 k12 : m.ks.length ≤ 12
 ksz : ∀ s, s ∈ m.ks → s.size ≤ maxLen
 low : m.w0.heap.size ≤ m.bm
 tm : m.bm < m.tp
 tk : m.bk < m.tp
 tr : m.br < m.tp
 ta : m.ba < m.tp
 nk : m.bk ≠ m.bm
 nr : m.br ≠ m.bm
 na : m.ba ≠ m.bm
def MW.askV (m : MW) : Value := .func (.func 116) #[] #[.pointer (some ⟨m.bk, 0, none⟩), .pointer (some ⟨m.br, 0, none⟩), .pointer (some ⟨m.ba, 0, none⟩)]
def MW.Row (m : MW) (w : World) (s : ByteArray) (sl : Sl3) : Prop := w.ownsRow (m.bm + 1) 3 1 sl.val (m.V s).length (cellsT (m.V s))
/-- What is known lies in memory. -/
structure MW.St (m : MW) (w : World) (L : ByteArray → Option Sl3) : Prop where
 bl : Below m.w0.heap.size m.w0 w
 tpl : m.tp ≤ w.heap.size
 mp : MapG mSl Tryz.prog 9 w m.bm (cntL m.ks L) L
 dom : ∀ s, L s ≠ none → s ∈ m.ks
 good : ∀ s sl, L s = some sl → m.Row w s sl
 has : L m.c ≠ none
 k1 : w.heap[m.bk]? = some (.cells #[.map (some m.bm)] 137)
 r1 : w.heap[m.br]? = some (.cells #[.func (.func 96) #[] #[.pointer (some ⟨m.bs, 0, none⟩)]] 138)
 a1 : w.heap[m.ba]? = some (.cells #[m.askV] 85)
theorem blk_grownW {w w' : World} {g : Nat} {o : Option Nat} {x : Obj} (h : w.heap[g]? = some x) (hg : w.grownBy w' o) (hne : some g ≠ o) : w'.heap[g]? = some x := (hg.block g (lt_of_heap h) hne).trans h
theorem row_grownW {w w' : World} {base e K n : Nat} {v : Value} {xs : List Value} {o : Option Nat} (h : w.ownsRow base e K v n xs) (hg : w.grownBy w' o) (hne : ∀ k, v.ownBlock = some k → o ≠ some k) : w'.ownsRow base e K v n xs :=
 h.kept hg (by
  cases hv : v.ownBlock with
  | none => exact Or.inl rfl
  | some j => exact Or.inr (fun e => hne j hv e.symm))
theorem MW.St.keep {m : MW} {w w' : World} {L : ByteArray → Option Sl3} (h : m.St w L) (hb : Below w.heap.size w w') : m.St w' L :=
 ⟨h.bl.trans (hb.mono h.bl.size), Nat.le_trans h.tpl hb.size, h.mp.below hb, h.dom, fun s sl hs => own_keepL (h.good s sl hs) hb, h.has, blk_below h.k1 hb, blk_below h.r1 hb, blk_below h.a1 hb⟩
/-- A list's own block apart from all that is stored. -/
def Av (L : ByteArray → Option Sl3) (v : Value) : Prop := ∀ t sl, L t = some sl → Apart sl.val v
theorem MW.St.push {m : MW} (ok : m.Ok) {w w' : World} {L : ByteArray → Option Sl3} {v : Value} (h : m.St w L) (hg : w.grownBy w' v.ownBlock) (hv : ∀ k, v.ownBlock = some k → m.tp ≤ k) (av : Av L v) : m.St w' L := by
 have hne : ∀ b, b < m.tp → some b ≠ v.ownBlock := fun b hb e => by have := hv b e.symm; omega
 refine ⟨h.bl.grown hg h.bl.size (fun k hk => ?_), Nat.le_trans h.tpl hg.size, h.mp.kept hg (hne _ ok.tm), h.dom, fun s sl hs => row_grownW (h.good s sl hs) hg (fun k hk => av s sl hs k hk), h.has, blk_grownW h.k1 hg (hne _ ok.tk), blk_grownW h.r1 hg (hne _ ok.tr), blk_grownW h.a1 hg (hne _ ok.ta)⟩
 have h1 := hv k hk
 have h2 := ok.low
 have h3 := ok.tm
 omega
theorem MW.St.put {m : MW} (ok : m.Ok) {w w' : World} {L : ByteArray → Option Sl3} {s : ByteArray} {sl : Sl3} (h : m.St w L) (hs : s ∈ m.ks) (hl : L s = none) (hr : m.Row w s sl) (hm : MapG mSl Tryz.prog 9 w' m.bm (cntL m.ks L + 1) (lookG1 L s sl)) (hg : w.grownBy w' (some m.bm)) : m.St w' (lookG1 L s sl) := by
 have hrow : ∀ t q, m.Row w t q → m.Row w' t q := fun t q hq => row_grownW hq hg (fun k hk e => by
  have h1 := (hq.lt k hk).1
  have h2 := Option.some.inj e
  omega)
 refine ⟨h.bl.grown hg h.bl.size (fun k hk => by cases hk; exact ok.low), Nat.le_trans h.tpl hg.size, by rw [cntL_new ok.nd hs hl]; exact hm, fun t ht => ?_, fun t v ht => ?_, ?_, blk_grownW h.k1 hg (fun e => ok.nk (Option.some.inj e)), blk_grownW h.r1 hg (fun e => ok.nr (Option.some.inj e)), blk_grownW h.a1 hg (fun e => ok.na (Option.some.inj e))⟩
 · by_cases e : t = s
   · rw [e]; exact hs
   · unfold lookG1 at ht; rw [if_neg e] at ht; exact h.dom t ht
 · unfold lookG1 at ht
   by_cases e : t = s
   · rw [if_pos e] at ht; rw [e, ← Option.some.inj ht]; exact hrow s sl hr
   · rw [if_neg e] at ht; exact hrow t v (h.good t v ht)
 · unfold lookG1
   by_cases e : m.c = s
   · rw [if_pos e]; simp
   · rw [if_neg e]; exact h.has
/-- What is stored anew lies in new blocks. -/
def NewL (L : ByteArray → Option Sl3) (w : World) (L' : ByteArray → Option Sl3) : Prop := ∀ t sl, L' t = some sl → L t = some sl ∨ ∀ j, sl.val.ownBlock = some j → w.heap.size ≤ j
/-- What a call of the closure gives. -/
def MW.AskR (m : MW) (s : ByteArray) (L : ByteArray → Option Sl3) (w : World) (e : Ending) (w' : World) : Prop :=
 ∃ (sl : Sl3) (L' : ByteArray → Option Sl3), e = .returned sl.val ∧ L' s = some sl ∧ Hid (m.St w' L') ∧ Hid (∀ t, m.lv t < m.lv s → L' t = L t) ∧ Hid (w.grownBy w' (some m.bm)) ∧ Hid (NewL L w L')
def MW.RecR (m : MW) (s : ByteArray) (L : ByteArray → Option Sl3) (w : World) (e : Ending) (w' : World) : Prop :=
 ∃ (sl : Sl3) (L' : ByteArray → Option Sl3), e = .returned sl.val ∧ Hid (m.Row w' s sl ∧ ∀ j, sl.val.ownBlock = some j → w.heap.size ≤ j) ∧ Hid (m.St w' L') ∧ Hid (∀ t, m.lv t ≤ m.lv s → L' t = L t) ∧ Hid (w.grownBy w' (some m.bm)) ∧ Hid (NewL L w L')
def MW.AskC (m : MW) (d : Nat) : Prop := ∀ (s : ByteArray) (w : World) (L : ByteArray → Option Sl3), s ∈ m.ks → 12 ≤ d + m.lv s → m.St w L → Calls Tryz.prog 116 #[.string s, .pointer (some ⟨m.bk, 0, none⟩), .pointer (some ⟨m.br, 0, none⟩), .pointer (some ⟨m.ba, 0, none⟩)] w (m.AskR s L w)
def MW.RecC (m : MW) (d : Nat) : Prop := ∀ (s : ByteArray) (w : World) (L : ByteArray → Option Sl3), s ∈ m.ks → s ≠ m.c → 12 ≤ d + m.lv s → m.St w L → Calls Tryz.prog 96 #[.string s, m.askV, .pointer (some ⟨m.bs, 0, none⟩)] w (m.RecR s L w)

theorem zeroSl (w : World) : (zeroValue 37).run Tryz.prog w = .ok (mSl.val mSl.z) w := by kernel_rfl
set_option maxRecDepth 100000 in
set_option maxHeartbeats 1000000 in
theorem im_askW (m : MW) (ok : m.Ok) (d : Nat) (hr : m.RecC d) : m.AskC d := by
 intro s w L hs hd st
 have HS := Lib.hid st
 have HOK := Lib.hid ok
 have hsz := ok.ksz s hs
 have q0 := cell_of_row _ _ 0 _ _ _ st.k1
 have hn := cntL_le m.ks L
 have h12 := ok.k12
 cases hL : L s with
 | some sl =>
  have HL := Lib.hid hL
  clear hL ok st
  go_enter Tryz.func116, Tryz.ntmps116
  go_wp2_with (refine wpList_lookG_ok mSl _ rfl _ _ 137 rfl 9 37 Tryz.underlying9 Tryz.underlying137 (zeroSl _) m.bm (cntL m.ks L) L rfl HS.out.mp s hsz rfl (some sl) HL.out ?_)
  go_ret
  exact ⟨sl, L, rfl, HL.out, HS, Lib.hid (fun _ _ => rfl), Lib.hid (World.grownBy.refl _ _), Lib.hid (fun _ _ h => Or.inl h)⟩
 | none =>
  have HL := Lib.hid hL
  have hne : s ≠ m.c := fun e => st.has (by rw [← e]; exact hL)
  have HR := Lib.hid (hr s w L hs hne hd st)
  have q1 := cell_of_row _ _ 0 _ _ _ st.r1
  have q2 := cell_of_row _ _ 0 _ _ _ st.a1
  clear hL ok st hr hne
  unfold MW.askV at q2 HR
  go_enter Tryz.func116, Tryz.ntmps116
  go_wp2_with (refine wpList_lookG_ok mSl _ rfl _ _ 137 rfl 9 37 Tryz.underlying9 Tryz.underlying137 (zeroSl _) m.bm (cntL m.ks L) L rfl HS.out.mp s hsz rfl none HL.out ?_)
  refine HR.out.mono ?_
  rintro e w1 ⟨sl, L', rfl, HRW, HS1, HU, HG, HNW⟩
  clear HR q0 q1 q2
  have hL1 : L' s = none := by rw [HU.out s (Nat.le_refl _)]; exact HL.out
  have HL1 := Lib.hid hL1
  have q0 := cell_of_row _ _ 0 _ _ _ HS1.out.k1
  have hn1 := cntL_le m.ks L'
  clear hL1
  go_wp2_with (refine wpList_putG mSl _ rfl _ _ _ 137 rfl 9 37 Tryz.underlying9 Tryz.underlying137 m.bm (cntL m.ks L') L' rfl HS1.out.mp (by unfold maxLen; omega) s hsz rfl sl rfl ?_)
  intro w2 hm2 hg2
  have HS2 := Lib.hid (MW.St.put HOK.out HS1.out hs HL1.out HRW.out.1 hm2 hg2)
  have HG2 : Hid (w.grownBy w2 (some m.bm)) := Lib.hid (World.grownBy.trans HG.out hg2)
  clear hm2 hg2 q0
  go_wp2_with fail
  go_ret
  exact ⟨sl, _, rfl, by unfold lookG1; rw [if_pos rfl], HS2, Lib.hid (fun t ht => by
   have hts : t ≠ s := fun e => by rw [e] at ht; omega
   unfold lookG1
   rw [if_neg hts]
   exact HU.out t (by omega)), HG2, Lib.hid (fun t q hq => by
   unfold lookG1 at hq
   by_cases e : t = s
   · rw [if_pos e] at hq
     rw [← Option.some.inj hq]
     exact Or.inr HRW.out.2
   · rw [if_neg e] at hq
     exact HNW.out t q hq)⟩

/-- What the listing for a code keeps. -/
def MW.RS (m : MW) (s : ByteArray) (L : ByteArray → Option Sl3) (w W' : World) (v : Value) : Prop := ∃ L', m.St W' L' ∧ (∀ t, m.lv t ≤ m.lv s → L' t = L t) ∧ w.grownBy W' (some m.bm) ∧ NewL L w L' ∧ Av L' v
/-- And within the inner loop. -/
structure MW.RI (m : MW) (L1 : ByteArray → Option Sl3) (w W' : World) (bx : Nat) (o : Obj) (v : Value) : Prop where
 st : m.St W' L1
 gr : w.grownBy W' (some m.bm)
 av : Av L1 v
 box : W'.heap[bx]? = some o
 nb : v.ownBlock ≠ some bx
theorem grown_app {w W W' : World} {b : Nat} {v : Value} (h : w.grownBy W (some b)) (hg : W.grownBy W' v.ownBlock) (hv : ∀ k, v.ownBlock = some k → w.heap.size ≤ k) : w.grownBy W' (some b) :=
 ⟨hg.os.trans h.os, hg.tape.trans h.tape, hg.output.trans h.output, Nat.le_trans h.size hg.size, fun k hk hne => (hg.block k (Nat.lt_of_lt_of_le hk h.size) (fun e => by have := hv k e.symm; omega)).trans (h.block k hk hne)⟩
/-- One more number in the list. -/
theorem MW.RI.push {m : MW} (ok : m.Ok) {L1 : ByteArray → Option Sl3} {w W W1 W' : World} {bx e K n i : Nat} {o : Obj} {v v' : Value} {xs : List Value} (h : m.RI L1 w W bx o v) (ht : m.tp ≤ w.heap.size) (hv : W.ownsRow w.heap.size e K v n xs)
 (hb : Below W.heap.size W W1) (hg : W1.grownBy W' v.ownBlock) (hn : v'.ownBlock = v.ownBlock ∨ v'.ownBlock = some i) (hi : W1.heap.size ≤ i) : m.RI L1 w W' bx o v' := by
 have hlt : ∀ k, v.ownBlock = some k → w.heap.size ≤ k ∧ k < W.heap.size := fun k hk => hv.lt k hk
 have s1 := h.st.keep hb
 have bx1 := blk_below h.box hb
 have hbx := lt_of_heap bx1
 refine ⟨s1.push ok hg (fun k hk => Nat.le_trans ht (hlt k hk).1) h.av, grown_app (World.grownBy.trans h.gr (grown_of_belowL hb _)) hg (fun k hk => (hlt k hk).1), fun t sl hs k hk => ?_, blk_grownW bx1 hg (fun e => h.nb e.symm), ?_⟩
 · rcases hn with e | e
   · rw [e]; exact h.av t sl hs k hk
   · rw [e]
     have := (s1.good t sl hs).lt k hk
     intro e2
     have := Option.some.inj e2
     omega
 · rcases hn with e | e
   · rw [e]; exact h.nb
   · rw [e]; intro e2; have := Option.some.inj e2; omega
theorem sl_of_own {w : World} {base e K n : Nat} {v : Value} {xs : List Value} (h : w.ownsRow base e K v n xs) : ∃ sl : Sl3, sl.val = v := by
 rcases h.2 with ⟨rfl, _⟩ | ⟨g, cap, cur, rfl, _⟩
 · exact ⟨⟨none, 0, 0⟩, rfl⟩
 · exact ⟨⟨some (g, 0), n, cap⟩, rfl⟩
/-- Ahead of the inner loop: what the part's list is, and that the own list is kept. -/
theorem MW.ask_in {m : MW} {s t : ByteArray} {L L0 : ByteArray → Option Sl3} {w W W' : World} {bx e K n : Nat} {o : Obj} {v : Value} {xs : List Value} (h1 : ∀ u, m.lv u ≤ m.lv s → L0 u = L u) (hg : w.grownBy W (some m.bm)) (hnw : NewL L w L0) (hav : Av L0 v)
 (hb : W.heap[bx]? = some o) (hnb : v.ownBlock ≠ some bx) (hbm : m.bm < bx) (hv : W.ownsRow w.heap.size e K v n xs) (hbw : m.bm < w.heap.size) (ht : m.lv s < m.lv t) {L1 : ByteArray → Option Sl3} (h2 : m.St W' L1) (h3 : ∀ u, m.lv u < m.lv t → L1 u = L0 u) (hg2 : W.grownBy W' (some m.bm)) (hn2 : NewL L0 W L1) :
 m.RI L1 w W' bx o v ∧ (∀ u, m.lv u ≤ m.lv s → L1 u = L u) ∧ NewL L w L1 ∧ W'.ownsRow w.heap.size e K v n xs := by
 refine ⟨⟨h2, World.grownBy.trans hg hg2, fun u sl hu k hk => ?_, blk_grownW hb hg2 (fun e => by have := Option.some.inj e; omega), hnb⟩, fun u hu => by rw [h3 u (by omega), h1 u hu], fun u sl hu => ?_, row_grownW hv hg2 (fun k hk e => by have h5 := (hv.lt k hk).1; have h6 := Option.some.inj e; omega)⟩
 · rcases hn2 u sl hu with h4 | h4
   · exact hav u sl h4 k hk
   · intro e
     have h5 := h4 k hk
     have h6 := (hv.lt k e).2
     omega
 · rcases hn2 u sl hu with h4 | h4
   · exact hnw u sl h4
   · exact Or.inr (fun j hj => Nat.le_trans hg.size (h4 j hj))

set_option maxRecDepth 100000 in
set_option maxHeartbeats 4000000 in
theorem im_recW (m : MW) (ok : m.Ok) (d : Nat) (ha : m.AskC d) : m.RecC (d + 1) := by
 intro s w L hs hne hd st
 obtain ⟨i0, hif, hz0, hz1, hz2⟩ := info_parts infoN
 have HOK := Lib.hid ok
 have HS := Lib.hid st
 have HA := Lib.hid ha
 have HNE := Lib.hid hne
 have h24 := ok.len
 have HTW := Lib.hid st.tpl
 have HBW : Hid (m.bm < w.heap.size) := Lib.hid (Nat.lt_of_lt_of_le ok.tm st.tpl)
 obtain ⟨a2, c2, e2⟩ := ok.hx.slice
 have hbx := blk_below ok.box st.bl
 rw [e2] at hbx
 have q1 := cell_of_row _ _ 1 _ _ _ hbx
 have HKL : Hid (∀ k, (wK m.ys m.c s k).length ≤ 8916100448256) := Lib.hid (fun k => wK_len ok.lvl ok.lv12 ok.len hne k)
 have HJL : Hid (∀ k (hk : k < m.ys.length) j, (m.ys[k]'hk).par = s → (wJ m.ys m.c s k (m.ys[k]'hk) j).length ≤ 8916100448256) := Lib.hid (fun k hk j hp => wJ_len ok.lvl ok.lv12 ok.len hne hk hp j)
 have HVS : Hid (m.V s = wK m.ys m.c s m.ys.length) := Lib.hid ((wW_step ok.lvl ok.lv12 hne).trans (wK_all _ _ _).symm)
 have HO0 : Hid (w.ownsRow w.heap.size 3 1 (.slice none (wK m.ys m.c s 0).length 0) (wK m.ys m.c s 0).length (cellsT (wK m.ys m.c s 0))) := Lib.hid (World.ownsRow_nil _ _ _ _)
 have HR0 : Hid (m.RS s L w w (.slice none (wK m.ys m.c s 0).length 0)) := Lib.hid ⟨L, HS.out, fun _ _ => rfl, World.grownBy.refl _ _, fun _ _ h => Or.inl h, fun _ _ _ _ _ h => by cases h⟩
 clear hbx st ok ha hne
 unfold MW.askV
 go_enter Tryz.func96, Tryz.ntmps96
 go_wp2_with fail
 go_loopw [6, 14] (fun u i wr => ∃ (k : Nat) (a' : Option Addr) (c' : Nat), k ≤ m.ys.length ∧ i = .int .i64 k ∧ u = .slice a' (wK m.ys m.c s k).length c' ∧ Hid (wr.ownsRow w.heap.size 3 1 (.slice a' (wK m.ys m.c s k).length c') (wK m.ys m.c s k).length (cellsT (wK m.ys m.c s k))) ∧ Hid (m.RS s L w wr (.slice a' (wK m.ys m.c s k).length c'))) (fun _ i _ => m.ys.length - (intOf i).toNat)
 case atStart => exact ⟨0, none, 0, Nat.zero_le _, rfl, rfl, HO0, HR0⟩
 case round =>
  clear q1 HO0 HR0
  obtain ⟨k, a', c', hk, rfl, rfl, HO, HR⟩ := hrel
  by_cases hlt : k < m.ys.length
  rotate_left
  · have hkn : k = m.ys.length := by omega
    have HRW : Hid (wr.ownsRow w.heap.size 3 1 (.slice a' (wK m.ys m.c s k).length c') (m.V s).length (cellsT (m.V s))) := Lib.hid (by rw [HVS.out, ← hkn]; exact HO.out)
    obtain ⟨L', h1, h2, h3, h4, h5⟩ := HR.out
    have H1 := Lib.hid h1
    have H2 := Lib.hid h2
    have H3 := Lib.hid h3
    have H4 := Lib.hid h4
    obtain ⟨sl, hsl⟩ := sl_of_own HO.out
    have HSL := Lib.hid hsl
    clear h1 h2 h3 h4 h5 HR hkn hsl
    go_wp2_with fail
    go_ret
    exact ⟨sl, L', by rw [HSL.out]; rfl, Lib.hid ⟨by unfold MW.Row; rw [HSL.out]; exact own_lower HRW.out (by have := HBW.out; omega), fun j hj => by rw [HSL.out] at hj; exact (HRW.out.lt j hj).1⟩, H1, H2, H3, H4⟩
  have HLT := Lib.hid hlt
  have hbw : Below m.w0.heap.size m.w0 wr := by obtain ⟨_, h1, _⟩ := HR.out; exact h1.bl
  obtain ⟨b2, o2, c2', cs, hv2, hc2, hb2, hcl, hr5, hcell⟩ := (HOK.out.hx.below BLN.kept hbw).get k hlt
  rw [e2] at hv2
  simp only [Value.slice.injEq] at hv2
  obtain ⟨rfl, _, rfl⟩ := hv2
  obtain ⟨u5, rfl, h5⟩ := hr5
  obtain ⟨sa5, sc5, rfl⟩ := h5.slice
  have e0 := hcell 0 (by omega)
  have e1 := hcell 1 (by omega)
  have e2b := hcell 2 (by omega)
  have e3 := hcell 3 (by omega)
  have e4 := hcell 4 (by omega)
  have e5 := hcell 5 (by omega)
  simp only [List.getElem?_cons_zero, List.getElem?_cons_succ, Nat.add_zero] at e0 e1 e2b e3 e4 e5
  have HPRT := Lib.hid (HOK.out.prt _ (List.getElem_mem hlt))
  have hqty := HOK.out.qty _ (List.getElem_mem hlt)
  have hlvx : m.lv (m.ys[k]'hlt).par < m.lv (m.ys[k]'hlt).prt := HOK.out.lvl _ (List.mem_map.2 ⟨_, List.getElem_mem hlt, rfl⟩)
  have HNO : Hid (¬(m.ys[k]'hlt).par = s → wK m.ys m.c s (k + 1) = wK m.ys m.c s k) := Lib.hid (fun h => by rw [wK_succ hlt]; unfold wX; rw [if_neg h, List.append_nil])
  have HYES : Hid ((m.ys[k]'hlt).par = s → wJ m.ys m.c s k (m.ys[k]'hlt) (wW m.ys m.c (m.ys[k]'hlt).prt).length = wK m.ys m.c s (k + 1)) := Lib.hid (fun h => wJ_all hlt h)
  have HJK := Lib.hid (fun j hp => HJL.out k hlt j hp)
  clear hcell h5 hc2 hb2 hcl hbw
  generalize m.ys[k]'hlt = x at *
  obtain ⟨W1, hW1⟩ : ∃ W, wr.alloc (.cells #[.string x.par, .string x.prt, .int .i64 x.qty, .int .i64 x.fr, .int .i64 x.un, .slice sa5 x.whn.length sc5] 94) = W := ⟨_, rfl⟩
  have HW1 := Lib.hid hW1
  have HA1 : Hid (W1.heap[wr.heap.size]? = some (.cells #[.string x.par, .string x.prt, .int .i64 x.qty, .int .i64 x.fr, .int .i64 x.un, .slice sa5 x.whn.length sc5] 94)) := Lib.hid (by rw [← hW1]; exact heap_alloc_new _ _)
  have hBA : Below wr.heap.size wr W1 := by rw [← hW1]; exact (Below.refl _ _).alloc (Nat.le_refl _) _
  have HBA := Lib.hid hBA
  have HR1 : Hid (m.RS s L w W1 (.slice a' (wK m.ys m.c s k).length c')) := Lib.hid (by
   obtain ⟨L', h1, h2, h3, h4, h5⟩ := HR.out
   exact ⟨L', h1.keep hBA, h2, World.grownBy.trans h3 (grown_of_belowL hBA _), h4, h5⟩)
  have HO1 := Lib.hid (own_keepL HO.out hBA)
  have HNB : Hid ((Value.slice a' (wK m.ys m.c s k).length c').ownBlock ≠ some wr.heap.size) := Lib.hid (fun h => by have := (HO.out.lt _ h).2; omega)
  have HWW : Hid (w.heap.size ≤ wr.heap.size) := Lib.hid (by obtain ⟨_, _, _, h3, _⟩ := HR.out; exact h3.size)
  clear hW1 hBA HR HO
  go_upto_region 5 with fail
  rw [HW1.out]
  clear HW1 e0 e1 e2b e3 e4 e5
  have p0 := cell_of_row _ _ 0 _ _ _ HA1.out
  have p1 := cell_of_row _ _ 1 _ _ _ HA1.out
  by_cases hp1 : x.par = s
  rotate_left
  · have hn1 := str_ne hp1
    have hn2 : (x.par.toList != s.toList) = true := by rw [bne, hn1]; rfl
    have HE := Lib.hid (HNO.out hp1)
    clear hp1 HNB HA1 HBA
    go_wp2_with fail
    go_roundw
    case rel => exact ⟨k + 1, a', c', HLT.out, by go_num, by rw [HE.out], by rw [HE.out]; exact HO1, by rw [HE.out]; exact HR1⟩
    case measure => have := HLT.out; simp [intOf]; omega
  have hy1 := str_eq hp1
  have hy2 : (x.par.toList != s.toList) = false := by rw [bne, hy1]; rfl
  have hlvp : m.lv s < m.lv x.prt := by rw [← hp1]; exact hlvx
  have HE := Lib.hid (HYES.out hp1)
  have HJB := Lib.hid (fun j => HJK.out j hp1)
  obtain ⟨L0, st0, hu0, hg0, hw0, av0⟩ := HR1.out
  have HU0 := Lib.hid hu0
  have HG0 := Lib.hid hg0
  have HN0 := Lib.hid hw0
  have HV0 := Lib.hid av0
  have HASK := Lib.hid (HA.out x.prt W1 L0 HPRT.out (by omega) st0)
  clear hp1 st0 hu0 hg0 hw0 av0 HR1 HNO HYES HJK HJL
  go_wp2_with fail
  refine HASK.out.mono ?_
  rintro e w2 ⟨sl, L1, rfl, hL1, HS1, HU1, HG1, HN1⟩
  obtain ⟨hRI, hU, hN, hOW⟩ := MW.ask_in HU0.out HG0.out HN0.out HV0.out HA1.out HNB.out (Nat.lt_of_lt_of_le HBW.out HWW.out) HO1.out HBW.out hlvp HS1.out HU1.out HG1.out HN1.out
  have hL1row := HS1.out.good _ _ hL1
  obtain ⟨ap, cp, hsl⟩ := own_sliceN hL1row
  have HROW : Hid (∀ W', m.St W' L1 → W'.ownsRow (m.bm + 1) 3 1 (.slice ap (m.V x.prt).length cp) (m.V x.prt).length (cellsT (m.V x.prt))) := Lib.hid (fun W' h => by rw [← hsl]; exact h.good _ _ hL1)
  rw [hsl]
  have HRI := Lib.hid hRI
  have HUU := Lib.hid hU
  have HNN := Lib.hid hN
  have HOW : Hid (w2.ownsRow w.heap.size 3 1 (.slice a' (wJ m.ys m.c s k x 0).length c') (wJ m.ys m.c s k x 0).length (cellsT (wJ m.ys m.c s k x 0))) := Lib.hid (by rw [wJ_zero]; exact hOW)
  have HRI0 : Hid (m.RI L1 w w2 wr.heap.size (.cells #[.string x.par, .string x.prt, .int .i64 x.qty, .int .i64 x.fr, .int .i64 x.un, .slice sa5 x.whn.length sc5] 94) (.slice a' (wJ m.ys m.c s k x 0).length c')) := Lib.hid (by rw [wJ_zero]; exact hRI)
  have HZ0 : Hid (wJ m.ys m.c s k x 0 = wK m.ys m.c s k) := Lib.hid (wJ_zero _ _ _ _ _)
  clear hRI hU hN hOW hL1row hsl HASK HU0 HG0 HN0 HV0 HS1 HU1 HG1 HN1 hL1 HA1 HNB HO1 p0 p1 HRI HBA
  obtain ⟨bx, hbx⟩ : ∃ b, wr.heap.size = b := ⟨_, rfl⟩
  rw [hbx] at HRI0 ⊢
  clear hbx
  go_wp2_with fail
  go_loopw [6, 27] (fun u i wx => ∃ (j : Nat) (a5 : Option Addr) (c5 : Nat), j ≤ (m.V x.prt).length ∧ i = .int .i64 j ∧ u = .slice a5 (wJ m.ys m.c s k x j).length c5 ∧ Hid (wx.ownsRow w.heap.size 3 1 (.slice a5 (wJ m.ys m.c s k x j).length c5) (wJ m.ys m.c s k x j).length (cellsT (wJ m.ys m.c s k x j))) ∧ Hid (m.RI L1 w wx bx (.cells #[.string x.par, .string x.prt, .int .i64 x.qty, .int .i64 x.fr, .int .i64 x.un, .slice sa5 x.whn.length sc5] 94) (.slice a5 (wJ m.ys m.c s k x j).length c5))) (fun _ i _ => (m.V x.prt).length - (intOf i).toNat)
  case atStart => exact ⟨0, a', c', Nat.zero_le _, rfl, by rw [HZ0.out], HOW, HRI0⟩
  case round =>
   clear HOW HRI0 HZ0
   obtain ⟨j, a5, c5, hj, rfl, rfl, HO, HRI⟩ := hrel
   by_cases hjl : j < (m.V x.prt).length
   rotate_left
   · have hje : j = (m.V x.prt).length := by omega
     have HE2 : Hid (wJ m.ys m.c s k x j = wK m.ys m.c s (k + 1)) := Lib.hid (by rw [hje]; exact HE.out)
     rw [HE2.out] at HO HRI ⊢
     clear hje
     go_wp2_with fail
     go_roundw
     case rel => exact ⟨k + 1, a5, c5, HLT.out, by go_num, rfl, HO, Lib.hid ⟨L1, HRI.out.st, HUU.out, HRI.out.gr, HNN.out, HRI.out.av⟩⟩
     case measure => have := HLT.out; simp [intOf]; omega
   have HJLT := Lib.hid hjl
   have hrow := HROW.out wr HRI.out.st
   obtain ⟨gp, cgp, hvp, hgp1, hgp2⟩ := own_pos hrow (show 0 < (m.V x.prt).length by omega)
   simp only [Value.slice.injEq] at hvp
   obtain ⟨rfl, _, rfl⟩ := hvp
   have hcell : wr.cell? ⟨gp, j, none⟩ = some (.int .i64 (capT ((m.V x.prt)[j]'hjl))) := by
    rw [hrow.cellAt j (by omega)]
    exact cellsT_get hjl
   have p2 := cell_of_row _ _ 2 _ _ _ HRI.out.box
   have HSUC : Hid (wJ m.ys m.c s k x (j + 1) = wJ m.ys m.c s k x j ++ [x.qty.toNat * (m.V x.prt)[j]'hjl]) := Lib.hid (wJ_succ hjl)
   have hlen := HJB.out j
   have hct := capT_times ((m.V x.prt)[j]'hjl) hqty.1
   have hcr := capT_range ((m.V x.prt)[j]'hjl)
   have hj0 : (0 : Int) ≤ (j : Int) := by omega
   have hj1 : (j : Int) < ((m.V x.prt).length : Int) := by omega
   clear hrow hj
   generalize (m.V x.prt)[j]'hjl = pr at *
   clear hjl
   have hqc : 0 ≤ x.qty * capT pr ∧ x.qty * capT pr ≤ 1000000001000 := by
    have h2 : x.qty * capT pr ≤ 1000 * 1000000001 := Int.mul_le_mul hqty.2 hcr.2 hcr.1 (by omega)
    exact ⟨Int.mul_nonneg (by omega) hcr.1, Int.le_trans h2 (by decide)⟩
   have hbsz : w.heap.size ≤ wr.heap.size := HRI.out.gr.size
   have hvl : (m.V x.prt).length ≤ 8916100448256 := wW_len HOK.out.len _ _
   have hw1 : IntKind.i64.wrap (x.qty * capT pr) = x.qty * capT pr := (IntKind.wrap_i64 _).trans (by omega)
   go_upto_region 9 with fail
   by_cases hc : x.qty * capT pr ≤ 1000000001
   · have hd : decide (1000000001 < x.qty * capT pr) = false := decide_eq_false (by omega)
     rw [if_pos hc] at hct
     go_wp2_with (at_builtin; refine wpList_append_own_at _ rfl _ _ 37 rfl w.heap.size 3 i0 (.int .i64 0) 1 8 Tryz.underlying37 hif hz0 hz1 hz2 rfl (by decide) (.slice a5 (wJ m.ys m.c s k x j).length c5) (wJ m.ys m.c s k x j).length (cellsT (wJ m.ys m.c s k x j)) rfl (own_keepL HO.out ((Below.refl _ _).alloc (Nat.le_refl _) _)) ⟨wr.heap.size, 0, none⟩ 1 1 [.int .i64 (capT (x.qty.toNat * pr))] rfl rfl (new_1 _ _ _) (by intro u hu; simp at hu; rcases hu with rfl; rfl) (by unfold maxLen; omega) (by omega) (by simp; omega) ?_)
     intro v5 w5 ho hg _ hnb
     rw [cellsT_snoc, ← HSUC.out] at ho
     have hln : (wJ m.ys m.c s k x j).length + 1 = (wJ m.ys m.c s k x (j + 1)).length := by rw [HSUC.out, List.length_append]; rfl
     rw [hln] at ho
     have HRI5 := Lib.hid (MW.RI.push HOK.out HRI.out HTW.out HO.out ((Below.refl _ _).alloc (Nat.le_refl _) _) hg hnb (by simp))
     obtain ⟨a6, c6, rfl⟩ := own_sliceN ho
     have HO5 := Lib.hid ho
     clear ho hg hnb hcell p2 hln HO HRI
     go_wp2_with fail
     go_roundw
     case rel => exact ⟨j + 1, a6, c6, HJLT.out, by go_num, rfl, HO5, HRI5⟩
     case measure => have := HJLT.out; simp [intOf]; omega
   · have hd : decide (1000000001 < x.qty * capT pr) = true := decide_eq_true (by omega)
     have hc2 : 1000000001 < x.qty * capT pr := by omega
     rw [if_neg hc] at hct
     go_wp2_with (at_builtin; refine wpList_append_own_at _ rfl _ _ 37 rfl w.heap.size 3 i0 (.int .i64 0) 1 8 Tryz.underlying37 hif hz0 hz1 hz2 rfl (by decide) (.slice a5 (wJ m.ys m.c s k x j).length c5) (wJ m.ys m.c s k x j).length (cellsT (wJ m.ys m.c s k x j)) rfl (own_keepL HO.out ((Below.refl _ _).alloc (Nat.le_refl _) _)) ⟨wr.heap.size, 0, none⟩ 1 1 [.int .i64 (capT (x.qty.toNat * pr))] rfl rfl (new_1 _ _ _) (by intro u hu; simp at hu; rcases hu with rfl; rfl) (by unfold maxLen; omega) (by omega) (by simp; omega) ?_)
     intro v5 w5 ho hg _ hnb
     rw [cellsT_snoc, ← HSUC.out] at ho
     have hln : (wJ m.ys m.c s k x j).length + 1 = (wJ m.ys m.c s k x (j + 1)).length := by rw [HSUC.out, List.length_append]; rfl
     rw [hln] at ho
     have HRI5 := Lib.hid (MW.RI.push HOK.out HRI.out HTW.out HO.out ((Below.refl _ _).alloc (Nat.le_refl _) _) hg hnb (by simp))
     obtain ⟨a6, c6, rfl⟩ := own_sliceN ho
     have HO5 := Lib.hid ho
     clear ho hg hnb hcell p2 hln HO HRI
     go_wp2_with fail
     go_roundw
     case rel => exact ⟨j + 1, a6, c6, HJLT.out, by go_num, rfl, HO5, HRI5⟩
     case measure => have := HJLT.out; simp [intOf]; omega
/-- The closure's contract. -/
theorem im_askAllW (m : MW) (ok : m.Ok) : ∀ d, m.AskC d
 | 0 => fun s _ _ _ h => absurd h (by have := ok.lv12 s; omega)
 | d + 1 => im_askW m ok (d + 1) (im_recW m ok d (im_askAllW m ok d))
end Go.Proofs.YtmnncinpepeocaaGreat
