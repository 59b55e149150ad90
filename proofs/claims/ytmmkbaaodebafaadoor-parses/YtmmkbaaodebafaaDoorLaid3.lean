import Derived.Test.YtmmkbaaodebafaaDoorSen
import Derived.Test.YtmmkbaaodebafaaDoorTie
import Derived.Test.YtmmkbaaodebafaaDoorCards
import Derived.ProofKit
import Derived.OpenShut
import Derived.ShutString
import Derived.Lay
import Derived.SevenTiedAt
namespace Go.Proofs.YtmmkbaaodebafaaDoor
open Go.RowKit

theorem own : ownKnob Tryd.prog.godebug = none := by kernel_rfl
set_option maxRecDepth 100000 in
theorem sen_of3 {W : World} (h : laidMetH Tryd.prog Rows.parsesRow.laid W) : ∃ a, Sen 3 W a := by
  rw [MakeChecks.laidMetH_plain _ _ _ (by kernel_rfl)] at h
  exact sents3 h
end Go.Proofs.YtmmkbaaodebafaaDoor
