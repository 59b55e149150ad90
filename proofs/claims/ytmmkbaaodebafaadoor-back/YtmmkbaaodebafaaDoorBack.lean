import Derived.Test.YtmmkbaaodebafaaDoorRec
import Derived.Test.YtmmkbaaodebafaaDoorKit
import Derived.Test.YtmmkbaaodebafaaDoorPparse
import Derived.Test.YtmmkbaaodebafaaDoorPframe
import Derived.Test.YtmmkbaaodebafaaDoorRframe
namespace Go.Proofs.YtmmkbaaodebafaaDoor
open Go.RowKit Jr

theorem may_ok {st d : ByteArray} {v p : Int} (h1 : st.size ≠ 0) (h2 : st.size ≤ 12) (h3 : d.size ≤ 24) (h4 : 1 ≤ v) (h5 : 0 ≤ p) : may st d v p = 0 := by
  unfold may; rw [if_neg (by omega), if_neg (by omega), if_neg (by omega)]
theorem frL_lt {st d : ByteArray} {v p : Nat} (h2 : st.size ≤ 12) : ∀ x ∈ frL st d v p, x < 256 := by
  intro x hx
  simp only [frL, List.mem_append] at hx
  rcases hx with (h | h) | h
  · exact digs_lt _ _ _ h
  · exact digs_lt _ _ _ h
  · exact payL_lt st d v p h2 x h
theorem byt_app (l : List Nat) (hl : ∀ x ∈ l, x < 256) (t : ByteArray) (i : Nat) (hi : i < l.length) : byt (sOf l ++ t) i = l.getD i 0 := by
  rw [← byt_sOf hl i hi]
  unfold byt
  have hz : i < (sOf l).data.toList.length := by have := sOf_sz l; simp only [ByteArray.size] at this; rw [Array.length_toList]; omega
  rw [ByteArray.data_append, Array.toList_append]
  congr 1
  simp only [List.getD]
  rw [List.getElem?_append_left hz]
/-- plain.Parse of a record with something behind it. -/
theorem pparse_whole (a : Nat → Addr) (st d t : ByteArray) (v p L : Nat) (w : World) (hs : Sen 3 w a) (hm : may st d v p = 0) (hv : v < 9223372036854775808) (hp : p < 9223372036854775808) (hL : 25 + st.size + d.size = L) (ht : t.size ≤ 1048576) :
    Calls Tryd.prog 12 #[.string (sOf (frL st d v p) ++ t)] w fun e w' => e = .returned (.tuple #[.agg (pev st v p d), .int .i64 L, .int .i64 0]) ∧ Below w.heap.size w w' := by
  obtain ⟨m0, m1, m2, _, _⟩ := may_zero hm
  have hsz : (sOf (frL st d v p) ++ t).size = L + t.size := by rw [ByteArray.size_append, sOf_sz, frL_length, hL]
  have h := pparse a (sOf (frL st d v p) ++ t) w hs (by omega)
  rw [hsz, parse_whole hm hv hp (by omega) (fun i hi => byt_app _ (frL_lt m1) t i (by rw [frL_length]; exact hi)), hL] at h
  exact h
/-- .. of a part of a record. -/
theorem pparse_part (a : Nat → Addr) (st d : ByteArray) (v p x : Nat) (w : World) (hs : Sen 3 w a) (hm : may st d v p = 0) (hx : x < 25 + st.size + d.size) :
    Calls Tryd.prog 12 #[.string (sOf ((frL st d v p).take x))] w fun e w' => e = .returned (.tuple #[.agg pz, .int .i64 0, .int .i64 1]) ∧ Below w.heap.size w w' := by
  obtain ⟨m0, m1, m2, _, _⟩ := may_zero hm
  have hl : ((frL st d v p).take x).length = x := by rw [List.length_take, frL_length]; omega
  have hsz : (sOf ((frL st d v p).take x)).size = x := by rw [sOf_sz, hl]
  have h := pparse a (sOf ((frL st d v p).take x)) w hs (by omega)
  rw [hsz, parse_part hm hx (fun i hi => by
    show byt _ i = _
    unfold byt
    rw [byt_sOf (fun y hy => frL_lt m1 y (List.mem_of_mem_take hy)) i (by omega)]
    simp [List.getD, hi])] at h
  exact h
end Go.Proofs.YtmmkbaaodebafaaDoor
