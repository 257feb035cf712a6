/-
  The model's ParseCond.
-/
import Derived.Test.YtghofgjlmfdnpaaCondParse2
import Derived.Test.YtghofgjlmfdnpaaCondEx
import Derived.WalkKit
import Derived.WalkSpells
import Derived.WalkSmall
import Derived.BigQuiet
import Derived.Deep.QuietTactic
import Derived.Deep.DeepCutAuto
import Derived.Lib.Hide
namespace Go.Proofs.Ytghofgjlmfdnpaa
open Go.RowKit

theorem ext_size (s : ByteArray) (i j : Nat) : (s.extract i j).size ≤ s.size := by
  rw [ByteArray.size_extract]
  omega
/-- All names that have been read are no longer than the text. -/
def SzS (s : ByteArray) (l : List CN) : Prop := ∀ x, x ∈ l → x.opt.size ≤ s.size ∧ x.vl.size ≤ s.size
theorem SzS.snoc {s : ByteArray} {l : List CN} {x : CN} (h : SzS s l) (hx : x.opt.size ≤ s.size ∧ x.vl.size ≤ s.size) : SzS s (l ++ [x]) := fun y hy => by
  rcases List.mem_append.1 hy with hy | hy
  · exact h y hy
  · obtain rfl := List.mem_singleton.1 hy
    exact hx
def KeepZ (s : ByteArray) (S : RS → RS) : Prop := ∀ r : RS, SzS s r.out → SzS s (S r).out
theorem keepz_loop {s t : ByteArray} {x : CN} {S : RS → RS} (hS : KeepZ s S) (hx : x.opt.size ≤ s.size ∧ x.vl.size ≤ s.size) : ∀ (f : Nat) (r : RS), SzS s r.out → SzS s (rdLoop s t x S f r).out
  | 0, _, h => h
  | f + 1, r, h => by
    unfold rdLoop
    split
    · exact keepz_loop hS hx f _ (SzS.snoc (hS (r.on t.size) h) hx)
    · exact h
theorem keepz_and {s : ByteArray} {S : RS → RS} (hS : KeepZ s S) : KeepZ s (rdAnd s S) := fun r h => keepz_loop hS ⟨Nat.zero_le _, Nat.zero_le _⟩ _ _ (hS r h)
theorem keepz_or {s : ByteArray} {S : RS → RS} (hS : KeepZ s S) : KeepZ s (rdOr s S) := fun r h => keepz_loop (keepz_and hS) ⟨Nat.zero_le _, Nat.zero_le _⟩ _ _ (keepz_and hS r h)
theorem keepz_simple (s : ByteArray) : ∀ n : Nat, KeepZ s (rdSimple s n)
  | 0 => fun _ h => h
  | n + 1 => fun r h => by
    unfold rdSimple
    split
    · exact h
    · split
      · unfold rdShut
        split
        · exact keepz_or (keepz_simple s n) (r.on 1) h
        · exact keepz_or (keepz_simple s n) (r.on 1) h
      · split
        · exact SzS.snoc (keepz_simple s n (r.on 1) h) ⟨Nat.zero_le _, Nat.zero_le _⟩
        · unfold rdLeaf
          split
          · exact SzS.snoc h ⟨ext_size _ _ _, ext_size _ _ _⟩
          · exact SzS.snoc h ⟨Nat.zero_le _, Nat.zero_le _⟩

set_option maxRecDepth 100000 in
set_option maxHeartbeats 2000000 in
theorem spec_parseCond (s : ByteArray) (w : World) (hs : s.size ≤ 1048576) :
    Calls Try.prog 33 #[.string s] w (NodesAny (parR s) w) := by
  have hb0 := heap_alloc_new w (.cells #[.string s, .int .i64 0, .slice none 0 0, .bool false, .int .i64 0] 87)
  have HB0 : Below w.heap.size w (w.alloc (.cells #[.string s, .int .i64 0, .slice none 0 0, .bool false, .int .i64 0] 87)) := (Below.refl _ _).alloc (Nat.le_refl _) _
  have HR0 : Hid (RdS w.heap.size s ⟨0, [], false⟩ 0 (w.alloc (.cells #[.string s, .int .i64 0, .slice none 0 0, .bool false, .int .i64 0] 87))) := Lib.hid ⟨.slice none 0 0, hb0, ⟨rfl, Or.inl ⟨rfl, rfl⟩⟩, by simp⟩
  have HOR := Lib.hid (parse_or (rdAnd s (rdSimple s 31)) w.heap.size s 0 (goes_and (goes_simple s 31)) (parse_and (rdSimple s 31) w.heap.size s 0 (goes_simple s 31) (by have := parse_simples w.heap.size s hs 31 (Nat.le_refl _); simpa using this) hs) hs)
  obtain ⟨q, hq⟩ : ∃ q, rdOr s (rdSimple s 31) ⟨0, [], false⟩ = q := ⟨_, rfl⟩
  have HQ : Hid (rdLoop s tOr nOr (rdAnd s (rdSimple s 31)) s.size (rdAnd s (rdSimple s 31) ⟨0, [], false⟩) = q) := Lib.hid hq
  have hgo := goes_or (goes_simple s 31) ⟨0, [], false⟩ (Nat.zero_le _)
  have hkz : SzS s q.out := by rw [← hq]; exact keepz_or (keepz_simple s 31) ⟨0, [], false⟩ (fun x hx => by cases hx)
  rw [hq] at hgo
  simp only [List.length_nil] at hgo
  have hql : q.out.length ≤ 1048577 := by omega
  have HZ : Hid (∀ r, r ∈ q.out → CN.Sz r) := Lib.hid (fun r hr => by have := hkz r hr; unfold CN.Sz maxLen; omega)
  have HPR : Hid (parR s = if q.bad = false ∧ q.i = s.size ∧ condB q.out = true then (q.out, true) else ([], false)) := Lib.hid (by unfold parR; rw [hq])
  clear hgo hkz hq hb0
  have HE : Hid (∀ W : World, Below w.heap.size w W → (W.alloc (.cells #[] 43)).ownsRow w.heap.size 43 3 (.slice (some ⟨W.heap.size, 0, none⟩) 0 0) 0 (CN.cells [])) := Lib.hid (fun W hB => own_downL (World.ownsRow_lit W #[] 0 (Nat.le_refl _) (Nat.zero_le _) rfl (e := 43) (size := 3)) hB.size)
  go_enter Try.func33, Try.ntmps33
  go_wp2_with fail
  refine (HOR.out ⟨0, [], false⟩ _ HR0.out (Nat.zero_le _) (Nat.zero_le _)).mono ?_
  rintro e w1 ⟨rfl, hr, hb⟩
  simp only at hr
  rw [HQ.out] at hr
  obtain ⟨a5, c5, HG5, HO5⟩ := hr.cells
  have HB1 := Lib.hid (HB0.trans hb)
  have HO5 := Lib.hid HO5
  have g0 := cell_of_row _ _ 0 _ _ _ HG5
  have g1 := cell_of_row _ _ 1 _ _ _ HG5
  have g2 := cell_of_row _ _ 2 _ _ _ HG5
  have g3 := cell_of_row _ _ 3 _ _ _ HG5
  clear hr hb HR0 HOR HB0
  by_cases hbad : q.bad = true
  · have HN : Hid (parR s = ([], false)) := Lib.hid (by rw [HPR.out, if_neg (fun h => by rw [hbad] at h; cases h.1)])
    rw [hbad] at g3
    clear hbad
    go_wp2_with fail
    go_ret2
    exact ⟨_, by rw [HN.out]; rfl, by rw [HN.out]; exact HE.out _ HB1.out, HB1.out.alloc HB1.out.size _⟩
  have hbf : q.bad = false := by simpa using hbad
  rw [hbf] at g3
  by_cases hi : q.i = s.size
  rotate_left
  · have HN : Hid (parR s = ([], false)) := Lib.hid (by rw [HPR.out, if_neg (fun h => hi h.2.1)])
    have hbi : ((q.i : Int) != (s.size : Int)) = true := bne_iff_ne.2 (by omega)
    clear hbad hbf
    go_wp2_with fail
    go_ret2
    exact ⟨_, by rw [HN.out]; rfl, by rw [HN.out]; exact HE.out _ HB1.out, HB1.out.alloc HB1.out.size _⟩
  have hbi : ((q.i : Int) != (s.size : Int)) = false := by rw [hi]; simp
  have HHI := Lib.hid (And.intro hbf hi)
  clear hbad hbf hi
  have HC := Lib.hid (spec_isCond (.slice a5 q.out.length c5) q.out w1 (CN.is_of_row HO5.out) HZ.out (by unfold maxLen; omega))
  go_wp2_with fail
  refine HC.out.mono ?_
  rintro e w2 ⟨rfl, hb⟩
  have HG6 := blk_below HG5 hb
  have HO6 := Lib.hid (own_downL (own_keepL HO5.out hb) (show w.heap.size ≤ w.heap.size + 1 by omega))
  have HB2 := Lib.hid (HB1.out.trans (hb.mono HB1.out.size))
  clear hb g0 g1 g2 g3 HC
  have g2 := cell_of_row _ _ 2 _ _ _ HG6
  rcases Bool.eq_false_or_eq_true (condB q.out) with hc | hc
  · have HN : Hid (parR s = (q.out, true)) := Lib.hid (by rw [HPR.out, if_pos ⟨HHI.out.1, HHI.out.2, hc⟩])
    rw [hc]
    clear hc
    go_wp2_with fail
    go_ret2
    exact ⟨_, by rw [HN.out]; rfl, by rw [HN.out]; exact HO6.out, HB2.out⟩
  · have HN : Hid (parR s = ([], false)) := Lib.hid (by rw [HPR.out, if_neg (fun h => by rw [hc] at h; cases h.2.2)])
    rw [hc]
    clear hc
    go_wp2_with fail
    go_ret2
    exact ⟨_, by rw [HN.out]; rfl, by rw [HN.out]; exact HE.out _ HB2.out, HB2.out.alloc HB2.out.size _⟩
end Go.Proofs.Ytghofgjlmfdnpaa
