import Derived.Test.YtmmkbaaodebafaaDoorJparse
namespace Go.Proofs.YtmmkbaaodebafaaDoor
open Go.RowKit Jr

theorem list_ext_getD {l m : List Nat} (h : l.length = m.length) (hg : ∀ i, i < l.length → l.getD i 0 = m.getD i 0) : l = m := by
  apply List.ext_getElem h
  intro i h1 h2
  have := hg i h1
  simpa [List.getD, h1, h2] using this
theorem seg_eq {z : Nat → Nat} {at0 n : Nat} {l : List Nat} (hl : l.length = n) (h : ∀ i, i < n → z (at0 + i) = l.getD i 0) : seg z at0 n = l :=
  list_ext_getD (by rw [seg_length, hl]) (fun i hi => by rw [seg_length] at hi; rw [seg_get _ _ _ _ hi]; exact h i hi)
theorem sOf_bs (s : ByteArray) : sOf (bs s) = s := by
  apply ByteArray.ext
  apply Array.toList_inj.1
  unfold sOf
  rw [strOfNums_data, bs, List.map_map, List.map_map]
  conv => rhs; rw [← List.map_id s.data.toList]
  apply List.map_congr_left
  intro x _
  simp
theorem sOf_sz (l : List Nat) : (sOf l).size = l.length := by unfold sOf; rw [strOfNums_size]; simp
theorem byt_sOf {l : List Nat} (hl : ∀ x ∈ l, x < 256) (i : Nat) (hi : i < l.length) : (((sOf l).data.toList.getD i 0).toNat) = l.getD i 0 := by
  unfold sOf
  rw [strOfNums_data]
  have := getD_lt hl i hi
  simp [List.getD, hi] at this ⊢
  omega
end Go.Proofs.YtmmkbaaodebafaaDoor
