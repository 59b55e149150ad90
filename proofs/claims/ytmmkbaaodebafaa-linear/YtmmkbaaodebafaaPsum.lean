import Derived.Test.YtmmkbaaodebafaaByt
namespace Go.Proofs.Ytmmkbaaodebafaa
open Go.RowKit Jr

theorem psum (b off len cap : Nat) (z : Nat → Nat) (w : World) (hl : len ≤ maxLen) (hz : ∀ i, i < len → z i < 256)
    (hc : ∀ i, i < len → w.cell? ⟨b, off + i, none⟩ = some (.int .u8 (z i : Nat))) :
    Calls Try.prog 5 #[.slice (some ⟨b, off, none⟩) len cap] w fun e w' => e = .returned (.int .u32 (4294967295 ^^^ fz z len : Nat)) ∧ w' = w := by
  have H : Hid (∀ i, i < len → w.cell? ⟨b, off + i, none⟩ = some (.int .u8 (z i : Nat))) := hc
  have H2 : Hid (∀ i, i < len → z i < 256) := hz
  clear hc hz
  go_enter Try.func5, Try.ntmps5
  go_wp2_with (go_at_call 7; refine (jsum b off len cap z _ hl H2.out H.out).mono ?_; rintro e w' ⟨rfl, rfl⟩)
  go_ret
  exact ⟨rfl, rfl⟩
end Go.Proofs.Ytmmkbaaodebafaa
