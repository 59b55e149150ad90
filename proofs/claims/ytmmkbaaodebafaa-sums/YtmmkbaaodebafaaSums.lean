import Derived.Test.YtmmkbaaodebafaaPsum
import Derived.Test.YtmmkbaaodebafaaRsum
import Derived.Test.YtmmkbaaodebafaaRows
namespace Go.Proofs.Ytmmkbaaodebafaa
open Go.RowKit Jr

theorem sums_walk (s : ByteArray) (w : World) (hs : s.size ≤ maxLen) :
    Calls Try.prog 3 #[.string s] w fun e w' => e = .returned (.bool true) ∧ Below w.heap.size w w' := by
  by_cases hbig : (1073741824 : Int) < (s.size : Int)
  · go_enter Try.func3, Try.ntmps3
    go_wp2
    go_ret
    exact ⟨rfl, Below.refl _ _⟩
  · have kc := fun w => bw_conv w s
    have hW : w.heap.size < (Lib.bytesWorld w 5 s).heap.size := by rw [Lib.bytesWorld_size]; omega
    have kb := fun cap => bw_back (Lib.bytesWorld (Lib.bytesWorld w 5 s) 5 s) w.heap.size s cap (fun i hi => by rw [bw_old _ s _ hW]; exact bw_cell w s i hi)
    go_enter Try.func3, Try.ntmps3
    go_wp2_with (first
      | (go_at_call 5; refine (psum w.heap.size 0 s.size _ (byt s) _ hs (fun i _ => byt_lt s i) (fun i hi => bw_cell w s i hi)).mono ?_; rintro e w' ⟨rfl, rfl⟩)
      | (go_at_call 6; refine (rsum _ 0 s.size _ (byt s) _ hs (fun i _ => byt_lt s i) (fun i hi => bw_cell _ s i hi)).mono ?_; rintro e w' ⟨rfl, rfl⟩))
    go_ret
    exact ⟨rfl, (Joins.below_bytesWorld _ _ _ _ (Nat.le_refl _)).trans (Joins.below_bytesWorld _ _ _ _ (by omega))⟩
end Go.Proofs.Ytmmkbaaodebafaa
