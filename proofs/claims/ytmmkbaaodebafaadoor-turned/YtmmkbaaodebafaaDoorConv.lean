import Derived.Test.YtmmkbaaodebafaaDoorOwn
import Derived.Laws.BytesArg
namespace Go.Proofs.YtmmkbaaodebafaaDoor
open Go.RowKit

abbrev pev (st : ByteArray) (v p : Int) (d : ByteArray) : Array Value := #[.string st, .int .i64 v, .int .i64 p, .string d]
/-- The string of some bytes. -/
def sOf (l : List Nat) : ByteArray := strOfNums (l.map fun (x : Nat) => (x : Int))
theorem conv_cells (w : World) (b off n cap : Nat) (l : List Nat) (hn : l.length = n) (hc : ∀ i, i < n → w.cell? ⟨b, off + i, none⟩ = some (.int .u8 (l.getD i 0 : Nat))) :
    (convert 23 9 (.slice (some ⟨b, off, none⟩) n cap)).run Tryd.prog w = .ok (.string (sOf l)) w :=
  run_convert_bytes_arg w 23 5 Tryd.underlying23 Tryd.underlying5 b off n cap (l.map fun (x : Nat) => (x : Int)) (by simpa using hn) (fun i hi => by
    rw [hc i hi]; simp [List.getD, hn ▸ hi]) 9 Tryd.underlying9
theorem conv_own {w : World} {B g cap : Nat} {l : List Nat} (h : Own w B g cap l) (n : Nat) (hn : l.length = n) :
    (convert 23 9 (.slice (some ⟨g, 0, none⟩) n cap)).run Tryd.prog w = .ok (.string (sOf l)) w :=
  conv_cells w g 0 n cap l hn (fun i hi => by rw [Nat.zero_add]; exact h.cell i (by omega))
end Go.Proofs.YtmmkbaaodebafaaDoor
