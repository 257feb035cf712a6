/-
  The walks of JoinWords, the model's and the program's.
-/
import Derived.Test.YtccmmpfbiemjiaaRows
import Derived.Test.YtccmmpfbiemjiaaStrs
import Derived.Test.YtccmmpfbiemjiaaStrsWalk
import Derived.WalkKit
import Derived.WalkSpells
import Derived.Lib.Join
import Derived.Lib.Hide
namespace Go.Proofs.Ytccmmpfbiemjiaa
open Go.RowKit

/-- The strings joined with a space between each two, as bytes. -/
def joinL (ss : List ByteArray) : List UInt8 := Lib.join (ss.map (·.data.toList)) [32]
/-- The same as a string. -/
def joinS (ss : List ByteArray) : ByteArray := ⟨(joinL ss).toArray⟩


theorem ba_ext {a b : ByteArray} (h : a.data.toList = b.data.toList) : a = b := by
  cases a; cases b; simp only [ByteArray.mk.injEq] at *; exact Array.toList_inj.1 h
theorem ba_append (a b : ByteArray) : (a ++ b).data.toList = a.data.toList ++ b.data.toList := by
  show (ByteArray.append a b).data.toList = _
  simp [ByteArray.append]
theorem ba_length (s : ByteArray) : s.data.toList.length = s.size := by rw [Array.length_toList]; rfl

theorem joinL_succ {ss : List ByteArray} {k : Nat} (hk : k < ss.length) (h0 : 0 < k) : joinL (ss.take (k + 1)) = joinL (ss.take k) ++ [32] ++ (ss[k]'hk).data.toList := by
  match ss, hk with
  | x :: r, hk =>
    obtain ⟨j, rfl⟩ : ∃ j, k = j + 1 := ⟨k - 1, by omega⟩
    unfold joinL
    rw [List.take_succ_cons, List.take_succ_cons, List.map_cons, List.map_cons, Lib.join_cons, Lib.join_cons, List.map_take, List.map_take, Lib.joinTail_take_succ [32] _ j (r[j]'(by simpa using hk)).data.toList (by
      rw [List.getElem?_map, List.getElem?_eq_getElem (by simpa using hk)]; rfl)]
    simp [List.append_assoc]

theorem joinS_succ {ss : List ByteArray} {k : Nat} (hk : k < ss.length) (h0 : 0 < k) : joinS (ss.take k) ++ ⟨#[32]⟩ ++ (ss[k]'hk) = joinS (ss.take (k + 1)) := by
  apply ba_ext
  rw [ba_append, ba_append]
  unfold joinS
  rw [joinL_succ hk h0]

theorem joinS_one {ss : List ByteArray} (hk : 0 < ss.length) : (⟨#[]⟩ : ByteArray) ++ (ss[0]'hk) = joinS (ss.take 1) := by
  apply ba_ext
  rw [ba_append]
  match ss, hk with
  | x :: r, _ => simp [joinS, joinL, Lib.join_one]

theorem joinS_size (ss : List ByteArray) : (joinS ss).size ≤ ss.length + bytesOf ss := by
  rw [← ba_length]
  match ss with
  | [] => simp [joinS, joinL, Lib.join_nil]
  | x :: r =>
    have e : Lib.lens (r.map (·.data.toList)) = bytesOf r := by
      unfold Lib.lens bytesOf
      rw [List.map_map]
      congr 1
    have ex : x.data.toList.length = x.size := ba_length x
    simp only [joinS, joinL, List.map_cons, Lib.join_cons, List.length_append, Lib.joinTail_length, e, List.length_map, List.length_cons, List.length_nil, bytesOf, List.sum_cons] at *
    omega

theorem bytesOf_mem {ss : List ByteArray} {s : ByteArray} (h : s ∈ ss) : s.size ≤ bytesOf ss := by
  induction ss with
  | nil => cases h
  | cons x r ih =>
    simp only [bytesOf, List.map_cons, List.sum_cons] at *
    rcases List.mem_cons.1 h with e | e
    · subst e; exact Nat.le_add_right _ _
    · have := ih e; omega

theorem bytesOf_take (ss : List ByteArray) (k : Nat) : bytesOf (ss.take k) ≤ bytesOf ss := by
  induction ss generalizing k with
  | nil => simp [bytesOf]
  | cons x r ih =>
    cases k with
    | zero => simp [bytesOf]
    | succ k =>
      have := ih k
      simp only [bytesOf, List.take_succ_cons, List.map_cons, List.sum_cons] at *
      omega

set_option maxRecDepth 100000 in
set_option maxHeartbeats 400000 in
theorem spec_join (v : Value) (ss : List ByteArray) (w : World) (h : Strs w v ss) (hm : ss.length + bytesOf ss ≤ 1048576) :
    Calls Try.prog 8 #[v] w fun e w' => e = .returned (.string (joinS ss)) ∧ w' = w := by
  rcases h with ⟨rfl, a, c, rfl⟩ | ⟨hne, b, o, c, rfl, hc, hcell⟩
  · go_enter Try.func8, Try.ntmps8
    go_wp2
    go_loop [3, 4] (fun t i => i = .int .i64 0 ∧ t = .string ⟨#[]⟩) (fun _ _ => 0)
    case atStart => exact ⟨rfl, rfl⟩
    case round =>
      obtain ⟨rfl, rfl⟩ := hrel
      go_wp2
      go_ret
      exact ⟨rfl, rfl⟩
  · have H := Lib.hid hcell
    clear hcell hne
    go_enter Try.func8, Try.ntmps8
    go_wp2
    go_loop [3, 4] (fun t i => ∃ (k : Nat) (s : ByteArray), k ≤ ss.length ∧ i = .int .i64 k ∧ t = .string s ∧ Hid (s = joinS (ss.take k))) (fun _ i => ss.length - (intOf i).toNat)
    case atStart => exact ⟨0, ⟨#[]⟩, Nat.zero_le _, rfl, rfl, Lib.hid rfl⟩
    case round =>
      obtain ⟨k, s, hk, rfl, rfl, hsum⟩ := hrel
      by_cases hlt : k < ss.length
      · have hck := H.out.at k hlt
        have hsz := bytesOf_mem (List.getElem_mem hlt)
        have hsk : s.size ≤ 1048576 := by
          rw [hsum.out]
          have h1 := joinS_size (ss.take k)
          have h2 := bytesOf_take ss k
          have h3 : (ss.take k).length ≤ ss.length := List.length_take_le' _ _
          omega
        by_cases h0 : k = 0
        · subst h0
          have HN := Lib.hid (joinS_one hlt)
          obtain rfl : s = ⟨#[]⟩ := hsum.out
          rw [Nat.add_zero] at hck
          clear hsum
          go_wp2
          go_round
          case rel => exact ⟨1, _, by omega, rfl, rfl, Lib.hid HN.out⟩
          case measure => simp [intOf]; omega
        · have h1 : 0 < k := by omega
          have HN := Lib.hid (joinS_succ hlt h1)
          clear h0
          go_wp2
          go_round
          case rel => exact ⟨k + 1, _, by omega, by go_num, rfl, Lib.hid (by rw [hsum.out]; exact HN.out)⟩
          case measure => simp [intOf]; omega
      · have HA := Lib.hid (List.take_of_length_le (l := ss) (i := k) (Nat.le_of_not_lt hlt))
        go_wp2
        go_ret
        refine ⟨?_, rfl⟩
        show Ending.returned (Value.string s) = _
        rw [hsum.out, HA.out]
end Go.Proofs.Ytccmmpfbiemjiaa
