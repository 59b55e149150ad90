import Derived.Test.YtmmkbaaodebafaaDoorSen
import Derived.Test.YtmmkbaaodebafaaDoorTie
import Derived.Test.YtmmkbaaodebafaaDoorCards
import Derived.ProofKit
import Derived.OpenShut
import Derived.ShutString
import Derived.LaidMore
import Derived.LaidSub
import Derived.LaidHandle
import Derived.SevenTiedAt
namespace Go.Proofs.YtmmkbaaodebafaaDoor
open Go.RowKit

theorem own : ownKnob Tryd.prog.godebug = none := by kernel_rfl
set_option maxRecDepth 100000 in
theorem sen_of6 {W : World} (h : laidMetH Tryd.prog Rows.framesRow.laid W) : ∃ a, Sen 5 W a := by
  have h1 := h.filter (fun x => x.2.handleName?.isNone)
  rw [MakeChecks.laidMetH_plain _ _ _ (by kernel_rfl)] at h1
  exact sents5 h1
theorem door_met (os : Os) (args : Array Value) : laidMetH Tryd.prog Rows.framesRow.laid ((World.doorLaid Tryd.prog 200 os).forCall (fun _ _ => 0) ⟨#[], args, []⟩).memory :=
  laidMetH_of_parts3 (fuel := 8) (laidMet_of_run' 8 (by kernel_rfl) (by kernel_rfl)) (by kernel_rfl) (by kernel_rfl)
end Go.Proofs.YtmmkbaaodebafaaDoor
