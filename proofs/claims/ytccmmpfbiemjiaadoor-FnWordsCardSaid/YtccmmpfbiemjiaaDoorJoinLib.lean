/-
  Strings joined with a space between each two, as bytes. No program is named here.
-/
import Derived.Test.YtccmmpfbiemjiaaDoorStrs
import Derived.WalkKit
import Derived.Lib.Join
namespace Go.Proofs.YtccmmpfbiemjiaaDoor
open Go.RowKit

/-- The strings joined with a space between each two, as bytes. -/
def joinL (ss : List ByteArray) : List UInt8 := Lib.join (ss.map (·.data.toList)) [32]
/-- The same as a string. -/
def joinS (ss : List ByteArray) : ByteArray := ⟨(joinL ss).toArray⟩


theorem ba_ext {a b : ByteArray} (h : a.data.toList = b.data.toList) : a = b := by
  cases a; cases b; simp only [ByteArray.mk.injEq] at *; exact Array.toList_inj.1 h
theorem ba_append (a b : ByteArray) : (a ++ b).data.toList = a.data.toList ++ b.data.toList := by
  show (ByteArray.append a b).data.toList = _
  simp [ByteArray.append]
theorem ba_length (s : ByteArray) : s.data.toList.length = s.size := by rw [Array.length_toList]; rfl

theorem joinL_succ {ss : List ByteArray} {k : Nat} (hk : k < ss.length) (h0 : 0 < k) : joinL (ss.take (k + 1)) = joinL (ss.take k) ++ [32] ++ (ss[k]'hk).data.toList := by
  match ss, hk with
  | x :: r, hk =>
    obtain ⟨j, rfl⟩ : ∃ j, k = j + 1 := ⟨k - 1, by omega⟩
    unfold joinL
    rw [List.take_succ_cons, List.take_succ_cons, List.map_cons, List.map_cons, Lib.join_cons, Lib.join_cons, List.map_take, List.map_take, Lib.joinTail_take_succ [32] _ j (r[j]'(by simpa using hk)).data.toList (by
      rw [List.getElem?_map, List.getElem?_eq_getElem (by simpa using hk)]; rfl)]
    simp [List.append_assoc]

theorem joinS_succ {ss : List ByteArray} {k : Nat} (hk : k < ss.length) (h0 : 0 < k) : joinS (ss.take k) ++ ⟨#[32]⟩ ++ (ss[k]'hk) = joinS (ss.take (k + 1)) := by
  apply ba_ext
  rw [ba_append, ba_append]
  unfold joinS
  rw [joinL_succ hk h0]

theorem joinS_one {ss : List ByteArray} (hk : 0 < ss.length) : (⟨#[]⟩ : ByteArray) ++ (ss[0]'hk) = joinS (ss.take 1) := by
  apply ba_ext
  rw [ba_append]
  match ss, hk with
  | x :: r, _ => simp [joinS, joinL, Lib.join_one]

theorem joinS_size (ss : List ByteArray) : (joinS ss).size ≤ ss.length + bytesOf ss := by
  rw [← ba_length]
  match ss with
  | [] => simp [joinS, joinL, Lib.join_nil]
  | x :: r =>
    have e : Lib.lens (r.map (·.data.toList)) = bytesOf r := by
      unfold Lib.lens bytesOf
      rw [List.map_map]
      congr 1
    have ex : x.data.toList.length = x.size := ba_length x
    simp only [joinS, joinL, List.map_cons, Lib.join_cons, List.length_append, Lib.joinTail_length, e, List.length_map, List.length_cons, List.length_nil, bytesOf, List.sum_cons] at *
    omega

theorem bytesOf_mem {ss : List ByteArray} {s : ByteArray} (h : s ∈ ss) : s.size ≤ bytesOf ss := by
  induction ss with
  | nil => cases h
  | cons x r ih =>
    simp only [bytesOf, List.map_cons, List.sum_cons] at *
    rcases List.mem_cons.1 h with e | e
    · subst e; exact Nat.le_add_right _ _
    · have := ih e; omega

theorem bytesOf_take (ss : List ByteArray) (k : Nat) : bytesOf (ss.take k) ≤ bytesOf ss := by
  induction ss generalizing k with
  | nil => simp [bytesOf]
  | cons x r ih =>
    cases k with
    | zero => simp [bytesOf]
    | succ k =>
      have := ih k
      simp only [bytesOf, List.take_succ_cons, List.map_cons, List.sum_cons] at *
      omega

end Go.Proofs.YtccmmpfbiemjiaaDoor
