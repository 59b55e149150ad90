import Derived.Test.YtploagfjajlloaaGreatDoorRows
import Derived.ProofKit
import Derived.LaidMore
import Derived.LaidHandle
import Derived.Lay
namespace Go.Proofs.YtploagfjajlloaaGreatDoor
open Go.RowKit

def great : List String := ["math/bits.deBruijn32tab", "math/bits.deBruijn64tab", "internal/strconv.uint64pow10", "unicode/utf8.acceptRanges", "journal/api.ErrStream", "journal/api.ErrBatch", "journal/api.ErrData", "journal/api.ErrClosed", "journal/api.ErrFailed", "unicode/utf8.first"]
/-- A start for the witness: the door's run, and all but the handle laid by the law. -/
noncomputable def laidW (os : Os) : World := (World.doorLaid Tryz.prog 200 os).layVars Tryz.prog (Rows.opensRow.laid.filter fun x => great.contains x.1)
theorem laidW_os (os : Os) : (laidW os).os = os := World.layVars_os _ _ _
theorem filt1 : ((Rows.opensRow.laid.filter fun x => x.2.handleName?.isNone).filter fun x => great.contains x.1) = Rows.opensRow.laid.filter fun x => great.contains x.1 := by kernel_rfl
theorem filt2 : ((Rows.opensRow.laid.filter fun x => x.2.handleName?.isNone).filter fun x => !great.contains x.1) = [] := by kernel_rfl
theorem fits (os : Os) : (World.doorLaid Tryz.prog 200 os).layFits Tryz.prog (Rows.opensRow.laid.filter fun x => great.contains x.1) [] = true := by kernel_rfl
theorem ifaces (os : Os) : (World.doorLaid Tryz.prog 200 os).layIfaces Tryz.prog (Rows.opensRow.laid.filter fun x => great.contains x.1) (laidW os) = true := by kernel_rfl
theorem laidW_plain (os : Os) (args : Array Value) : laidMet Tryz.prog (Rows.opensRow.laid.filter fun x => x.2.handleName?.isNone) ((laidW os).forCall (fun _ _ => 0) ⟨#[], args, []⟩).memory := by
  have h : laidMet Tryz.prog (Rows.opensRow.laid.filter fun x => x.2.handleName?.isNone) (laidW os) :=
    laidMet_layVars (w0 := World.doorLaid Tryz.prog 200 os) great [] (by rw [filt1]; rfl) (by rw [filt1]; exact fits os) (by rw [filt1]; exact ifaces os) (by rw [filt2]; exact LaidIn.none)
  exact h.of_heap (by simp [World.memory, World.forCall, Input.heap])
theorem laidW_handle (os : Os) (args : Array Value) : (Rows.opensRow.laid.filter fun x => x.2.handleName?.isSome && x.2.funcsIn?.isNone).all (handleAtB Tryz.prog ((laidW os).forCall (fun _ _ => 0) ⟨#[], args, []⟩).memory) = true := by kernel_rfl
theorem door_met (os : Os) (args : Array Value) : laidMetH Tryz.prog Rows.opensRow.laid ((laidW os).forCall (fun _ _ => 0) ⟨#[], args, []⟩).memory :=
  laidMetH_of_parts3 (fuel := 8) (laidW_plain os args) (laidW_handle os args) (by kernel_rfl)
theorem laidW_shaped (os : Os) (args : Array Value) : ((laidW os).forCall (fun _ _ => 0) ⟨#[], args, []⟩).Shaped Tryz.prog := World.shaped_of_ZipB (by kernel_rfl) (by kernel_rfl)
end Go.Proofs.YtploagfjajlloaaGreatDoor
