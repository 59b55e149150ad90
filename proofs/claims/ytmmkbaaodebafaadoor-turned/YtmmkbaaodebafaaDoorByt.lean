import Derived.Test.YtmmkbaaodebafaaDoorSum
import Derived.Lib.SmallJoins
import Derived.Lib.SlBytesRow
namespace Go.Proofs.YtmmkbaaodebafaaDoor
open Go.RowKit Jr

/-- A string's byte as a number. -/
def byt (s : ByteArray) (i : Nat) : Nat := (s.data.toList.getD i 0).toNat
theorem byt_lt (s : ByteArray) (i : Nat) : byt s i < 256 := UInt8.toNat_lt _
/-- The check of a string's bytes. -/
def chk (s : ByteArray) : Nat := 4294967295 ^^^ fz (byt s) s.size
theorem bw_cell (w : World) (s : ByteArray) (i : Nat) (hi : i < s.size) : (Lib.bytesWorld w 5 s).cell? ⟨w.heap.size, 0 + i, none⟩ = some (.int .u8 (byt s i : Nat)) := by
  rw [Nat.zero_add]; exact Lib.bytesWorld_cell w 5 s i hi
theorem bw_old (w : World) (s : ByteArray) (a : Addr) (ha : a.block < w.heap.size) : (Lib.bytesWorld w 5 s).cell? a = w.cell? a := Lib.bytesWorld_old w 5 s a ha
theorem bw_conv (w : World) (s : ByteArray) : (convert 9 23 (.string s)).run Tryd.prog w = .ok (.slice (some ⟨w.heap.size, 0, none⟩) s.size (grownCap w s.size 0 5)) (Lib.bytesWorld w 5 s) :=
  Lib.run_convert_string_bytes w 9 23 5 s Tryd.underlying9 Tryd.underlying23 Tryd.underlying5
theorem bw_back (w : World) (b : Nat) (s : ByteArray) (cap : Nat) (hc : ∀ i, i < s.size → w.cell? ⟨b, 0 + i, none⟩ = some (.int .u8 (byt s i : Nat))) :
    (convert 23 9 (.slice (some ⟨b, 0, none⟩) s.size cap)).run Tryd.prog w = .ok (.string s) w :=
  Lib.run_convert_whole w 23 5 9 Tryd.underlying23 Tryd.underlying5 Tryd.underlying9 b 0 s (fun i hi => by rw [hc i hi]; simp [byt, List.getD, hi]; rfl) cap

end Go.Proofs.YtmmkbaaodebafaaDoor
