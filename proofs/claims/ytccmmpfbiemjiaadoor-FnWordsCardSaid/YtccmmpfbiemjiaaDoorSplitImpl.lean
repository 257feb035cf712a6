/-
  The walk of the program's SplitWords: it answers splitR, in memory of its own.
-/
import Derived.Test.YtccmmpfbiemjiaaDoorRows
import Derived.Test.YtccmmpfbiemjiaaDoorShelf
import Derived.Test.YtccmmpfbiemjiaaDoorStrs
import Derived.Test.YtccmmpfbiemjiaaDoorWordsLib
import Derived.Test.YtccmmpfbiemjiaaDoorSplitSpec
import Derived.WalkKit
import Derived.WalkSpells
import Derived.Lib.Split
import Derived.Lib.Hide
namespace Go.Proofs.YtccmmpfbiemjiaaDoor
open Go.RowKit

/-- The library's variable MaxLen holds some number. -/
def MaxLenAt (w : World) : Prop := (∃ m : Int, w.cell? ⟨3, 0, none⟩ = some (.int .i64 m)) ∧ 3 < w.heap.size

theorem MaxLenAt.below {w w' : World} (h : MaxLenAt w) (hb : Below w.heap.size w w') : MaxLenAt w' := by
  obtain ⟨⟨m, hm⟩, hlt⟩ := h
  exact ⟨⟨m, (hb.cell (p := ⟨3, 0, none⟩) hlt).trans hm⟩, Nat.lt_of_lt_of_le hlt hb.size⟩

theorem maxLen_of {w : World} (h : w.ShapedOpen Tryd.prog) : MaxLenAt w := by
  obtain ⟨m, hm⟩ := Tryd.laysM146.s1_3 w h
  exact ⟨⟨m, hm⟩, block_lt_of_cell hm⟩

/-- What SplitWords leaves: the pair, its words in a row of its own. -/
def SplitsOwn (s : ByteArray) (w : World) (e : Ending) (w' : World) : Prop :=
  ∃ v, e = .returned (.tuple #[v, .bool (splitR s.data.toList).2]) ∧ w'.ownsRow w.heap.size 9 1 v (splitR s.data.toList).1.length ((splitR s.data.toList).1.map Value.string) ∧ Below w.heap.size w w'

theorem ret_own {s : ByteArray} {w w' : World} {v : Value} {ss : List ByteArray} {b : Bool} {n : Nat} (h : splitR s.data.toList = (ss, b)) (hn : n = ss.length) (hs : w'.ownsRow w.heap.size 9 1 v n (ss.map Value.string)) (hb : Below w.heap.size w w') :
    SplitsOwn s w (.returned (.tuple #[v, .bool b])) w' := ⟨v, by rw [h], by rw [h, ← hn]; exact hs, hb⟩

theorem split_list (s : ByteArray) : (Lib.splitB ⟨#[32]⟩ 0 (Lib.countB s ⟨#[32]⟩) s).map (·.data.toList) = wordsL s.data.toList := by
  rw [Lib.splitB_data]
  exact split_words s.data.toList

theorem split_strs (s : ByteArray) : Lib.splitB ⟨#[32]⟩ 0 (Lib.countB s ⟨#[32]⟩) s = (wordsL s.data.toList).map strOf := by
  rw [← split_list, List.map_map]
  conv => lhs; rw [← List.map_id (Lib.splitB ⟨#[32]⟩ 0 (Lib.countB s ⟨#[32]⟩) s)]
  exact List.map_congr_left fun x _ => (strOf_data x).symm

theorem split_length (s : ByteArray) : (Lib.splitB ⟨#[32]⟩ 0 (Lib.countB s ⟨#[32]⟩) s).length = Lib.countB s ⟨#[32]⟩ + 1 :=
  Lib.splitB_all _ (by decide) 0 _ s rfl

set_option maxRecDepth 100000 in
set_option maxHeartbeats 1000000 in
theorem impl_split (s : ByteArray) (w : World) (hs : s.size ≤ 1048576) (hml : MaxLenAt w) :
    Calls Tryd.prog 14 #[.string s] w (SplitsOwn s w) := by
  obtain ⟨⟨m, hm⟩, _⟩ := hml
  by_cases hs0 : s.size = 0
  · have hne := empty_yes hs0
    have HP : Hid (splitR s.data.toList = ([], true)) := Lib.hid (by rw [list_yes hs0]; rfl)
    clear hs0
    go_enter Tryd.func14, Tryd.ntmps14
    go_wp2
    go_ret2
    exact ret_own HP.out rfl (World.ownsRow_nil _ _ _ _) (Below.refl _ _)
  · have hne := empty_no (s := s) (by omega)
    have hn0 := list_no (s := s) (by omega)
    have HM := Lib.hid hm
    clear hm
    go_enter Tryd.func14, Tryd.ntmps14
    go_wp2_with fail
    refine (Tryd.strings_Split s ⟨#[32]⟩ m _ (by omega) HM.out (by decide)).mono ?_
    rintro e w1 ⟨rfl, hw1⟩
    obtain ⟨L, hL⟩ : ∃ L, Lib.splitB ⟨#[32]⟩ 0 (Lib.countB s ⟨#[32]⟩) s = L := ⟨_, rfl⟩
    obtain ⟨n, hn⟩ : ∃ n, Lib.countB s ⟨#[32]⟩ + 1 = n := ⟨_, rfl⟩
    have hlen : L.length = n := by rw [← hL, ← hn]; exact split_length s
    have hLs : L = (wordsL s.data.toList).map strOf := by rw [← hL]; exact split_strs s
    have hLd : L.map (·.data.toList) = wordsL s.data.toList := by rw [← hL]; exact split_list s
    have hnb : n ≤ 1048577 := by
      have h1 := wordsL_length s.data.toList
      rw [← hLd, List.length_map, hlen, Array.length_toList] at h1
      have h2 : s.data.size = s.size := rfl
      omega
    rw [hn]
    rw [hL] at hw1
    have hown : w1.ownsRow w.heap.size 9 1 (.slice (some ⟨w.heap.size, 0, none⟩) n n) n (L.map Value.string) := by
      rw [hw1]
      have := World.ownsRow_lit (base := w.heap.size) (e := 9) (size := 1) w (L.map Value.string).toArray n (Nat.le_refl _) (by unfold maxLen; omega) (by simp [hlen])
      simpa using this
    have hb1 : Below w.heap.size w w1 := by rw [hw1]; exact (Below.refl _ _).alloc (Nat.le_refl _) _
    have hc : ∀ j, j < L.length → w1.cell? ⟨w.heap.size, 0 + j, none⟩ = some (.string (L.getD j ByteArray.empty)) := by
      intro j hj
      rw [Nat.zero_add, hown.cellAt j (by omega), List.getElem?_map, List.getElem?_eq_getElem hj, List.getD, List.getElem?_eq_getElem hj]
      rfl
    have HO := Lib.hid hown
    have HCC := Lib.hid hc
    have HLN := Lib.hid hlen
    clear hw1 hown hc
    go_wp2_with fail
    refine (Tryd.slices_Contains_string w.heap.size 0 n n L ⟨#[]⟩ _ (by rw [HLN.out]; exact Nat.le_refl _) (by omega) HCC.out).mono ?_
    rintro e w2 ⟨rfl, rfl⟩
    have hmem : Lib.containsS (L.take n) ⟨#[]⟩ = true ↔ [] ∈ wordsL s.data.toList := by
      rw [List.take_of_length_le (by rw [HLN.out]; exact Nat.le_refl _), Lib.containsS_iff, ← hLd]
      constructor
      · intro h
        exact List.mem_map.2 ⟨_, h, rfl⟩
      · intro h
        obtain ⟨x, hx, hx2⟩ := List.mem_map.1 h
        have e : x = (⟨#[]⟩ : ByteArray) := by rw [← strOf_data x, hx2]; rfl
        rw [← e]; exact hx
    by_cases hc : [] ∈ wordsL s.data.toList
    · have ec := hmem.2 hc
      have HP := Lib.hid (splitR_no hn0 hc)
      clear hmem hc hLs hLd hL hn hlen hn0
      rw [ec]
      go_wp2_with fail
      go_ret2
      exact ret_own HP.out rfl (World.ownsRow_nil _ _ _ _) hb1
    · have ec : Lib.containsS (L.take n) ⟨#[]⟩ = false := by
        cases h : Lib.containsS (L.take n) ⟨#[]⟩
        · rfl
        · exact absurd (hmem.1 h) hc
      have HP : Hid (splitR s.data.toList = (L, true)) := Lib.hid (by rw [splitR_yes hn0 hc, hLs])
      clear hmem hc hLs hLd hL hn hlen hn0
      rw [ec]
      go_wp2_with fail
      go_ret2
      exact ret_own HP.out HLN.out.symm HO.out hb1
end Go.Proofs.YtccmmpfbiemjiaaDoor
