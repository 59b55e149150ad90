import Derived.Test.YtmmkbaaodebafaaDoorChecked
import Derived.Test.YtmmkbaaodebafaaDoorCrc
import Derived.WalkKit
import Derived.WalkLawsBesides
import Derived.Handy
import Derived.PlainAid
import Derived.Laws.BitsAllLaws
namespace Go.Proofs.YtmmkbaaodebafaaDoor
open Go.RowKit Jr

/-- What the loop has gathered of the first k bytes. -/
def fz (z : Nat → Nat) (k : Nat) : Nat := fold 4294967295 ((List.range k).map z)
theorem fz_succ (z : Nat → Nat) (k : Nat) : fz z (k + 1) = stps 8 (fz z k ^^^ z k) := by
  unfold fz; rw [List.range_succ, List.map_append]; exact fold_snoc _ _ _
theorem fz_lt (z : Nat → Nat) (k : Nat) (hz : ∀ i, i < k → z i < 256) : fz z k < 4294967296 := by
  unfold fz; apply fold_lt _ (by omega); intro b hb; simp at hb; obtain ⟨i, hi, rfl⟩ := hb; exact hz i hi

theorem jsum (b off len cap : Nat) (z : Nat → Nat) (w : World) (hl : len ≤ maxLen) (hz : ∀ i, i < len → z i < 256)
    (hc : ∀ i, i < len → w.cell? ⟨b, off + i, none⟩ = some (.int .u8 (z i : Nat))) :
    Calls Tryd.prog 31 #[.slice (some ⟨b, off, none⟩) len cap] w fun e w' => e = .returned (.int .u32 (4294967295 ^^^ fz z len : Nat)) ∧ w' = w := by
  unfold maxLen at hl
  go_enter Tryd.func31, Tryd.ntmps31
  go_wp2
  go_loop [3, 8] (fun s i => ∃ k : Nat, k ≤ len ∧ i = .int .i64 k ∧ s = .int .u32 (fz z k : Nat)) (fun _ i => len - (intOf i).toNat)
  case atStart => exact ⟨0, Nat.zero_le _, rfl, rfl⟩
  case round =>
    obtain ⟨k, hk, rfl, rfl⟩ := hrel
    have hcell : k < len → w.cell? ⟨b, off + k, none⟩ = some (.int .u8 (z k : Nat)) := fun h => hc k h
    by_cases hlt : k < len
    · have hzk := hz k hlt
      have hf := fz_lt z k (fun i hi => hz i (by omega))
      have hx := u32_xor_nat (fz z k) (z k) hf (by omega)
      go_wp2
      obtain ⟨S0, hS0⟩ : ∃ S0, S0 = fz z k ^^^ z k := ⟨_, rfl⟩
      have hS0' : S0 < 4294967296 := by rw [hS0]; exact xor_lt hf (by omega)
      rw [← hS0]
      have HS : Hid (S0 = fz z k ^^^ z k) := hS0
      clear hS0 hx
      go_loop [3, 16] (fun s i => ∃ j : Nat, j ≤ 8 ∧ i = .int .i64 j ∧ s = .int .u32 (stps j S0 : Nat)) (fun _ i => 8 - (intOf i).toNat)
      case atStart => exact ⟨0, by omega, rfl, rfl⟩
      case round =>
        obtain ⟨j, hj, rfl, rfl⟩ := hrel
        have hS := stps_lt j hS0'
        by_cases hj8 : j < 8
        · have e1 := stps_succ' j S0
          obtain ⟨S, hSd⟩ : ∃ S, S = stps j S0 := ⟨_, rfl⟩
          rw [← hSd] at hS e1
          rw [← hSd]
          have HE : Hid (stps (j + 1) S0 = stp S) := e1
          clear hSd e1
          by_cases hp : S % 2 = 1
          · have ha : bits .and .u32 (S : Int) 1 = 1 := by
              have := u32_and_nat S 1 hS (by omega); rw [nat_mask1, hp] at this; exact this
            have hx : bits .xor .u32 ((S : Int) / 2) 2197175160 = ((S / 2 ^^^ 2197175160 : Nat) : Int) := u32_xor_nat (S / 2) 2197175160 (by omega) (by omega)
            go_wp2
            go_round
            case rel => exact ⟨j + 1, by omega, by go_num, by rw [HE.out]; unfold stp; rw [if_pos hp]⟩
            case measure => simp [intOf]; omega
          · have ha : bits .and .u32 (S : Int) 1 = 0 := by
              have := u32_and_nat S 1 hS (by omega); rw [nat_mask1] at this; rw [show S % 2 = 0 by omega] at this; exact this
            go_wp2
            go_round
            case rel => exact ⟨j + 1, by omega, by go_num, by rw [HE.out]; unfold stp; rw [if_neg hp]; rfl⟩
            case measure => simp [intOf]; omega
        · go_wp2
          go_round
          case rel => exact ⟨k + 1, by omega, by go_num, by rw [fz_succ, ← HS.out]; rw [show j = 8 by omega]⟩
          case measure => simp [intOf]; omega
    · have hf := fz_lt z k (fun i hi => hz i (by omega))
      have hx : bits .xor .u32 IntKind.u32.max (fz z k : Nat) = ((4294967295 ^^^ fz z k : Nat) : Int) := u32_xor_nat 4294967295 (fz z k) (by omega) hf
      have hsg : IntKind.u32.signed = false := rfl
      go_wp2
      go_ret
      exact ⟨by rw [← show k = len by omega]; rfl, rfl⟩
end Go.Proofs.YtmmkbaaodebafaaDoor
