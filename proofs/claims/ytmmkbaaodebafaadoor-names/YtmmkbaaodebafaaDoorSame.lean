import Derived.Test.YtmmkbaaodebafaaDoorIs
import Derived.Deep.QuietTactic
import Derived.BigQuiet
import Derived.RegionTactic
namespace Go.Proofs.YtmmkbaaodebafaaDoor
open Go.RowKit

abbrev er (a : Nat → Addr) (i : Nat) : Value := .iface 114 (.pointer (some (a i)))
/-- The list of the errors, in block g. -/
def Lst (a : Nat → Addr) (w0 : World) (g : Nat) (w : World) : Prop := Sen 5 w a ∧ (∀ i, i < 5 → w.cell? ⟨g, i, none⟩ = some (er a i)) ∧ Below g w0 w ∧ g < w.heap.size
theorem lst_start {a : Nat → Addr} {w : World} (h : Sen 5 w a) : Lst a w w.heap.size (w.alloc (.cells #[er a 0, er a 1, er a 2, er a 3, er a 4] 45)) := by
  have hb : Below w.heap.size w (w.alloc (.cells #[er a 0, er a 1, er a 2, er a 3, er a 4] 45)) := (Below.refl _ _).alloc (Nat.le_refl _) _
  refine ⟨h.on hb (Nat.le_refl _), fun i hi => ?_, hb, by simp⟩
  match i, hi with
  | 0, _ | 1, _ | 2, _ | 3, _ | 4, _ => simp [World.cell?_alloc_at]
theorem Lst.drewN {a : Nat → Addr} {w0 w : World} {g : Nat} (h : Lst a w0 g w) (n : Nat) : Lst a w0 g (w.drewN n) :=
  ⟨h.1.on (below_drewN (Below.refl _ _) n) (Nat.le_refl _), fun i hi => by have := h.2.1 i hi; simpa using this, below_drewN h.2.2.1 n, by simpa using h.2.2.2⟩

set_option maxHeartbeats 2000000 in
theorem same_walk (a : Nat → Addr) (w : World) (hs : Sen 5 w a) :
    Calls Tryd.prog 8 #[] w fun e w' => e = .returned (.bool true) ∧ Below w.heap.size w w' := by
  have g0 := hs.g0 (by omega)
  have g1 := hs.g1 (by omega)
  have g2 := hs.g2 (by omega)
  have g3 := hs.g3 (by omega)
  have g4 := hs.g4 (by omega)
  have hl := lst_start hs
  go_enter Tryd.func8, Tryd.ntmps8
  go_wp2_with fail
  go_loopw [13] (fun i wr => ∃ k : Nat, k ≤ 5 ∧ i = .int .i64 k ∧ Lst a w w.heap.size wr) (fun i _ => 5 - (intOf i).toNat)
  case atStart => exact ⟨0, by omega, rfl, hl⟩
  case round =>
    obtain ⟨k, hk, rfl, hL⟩ := hrel
    clear g0 g1 g2 g3 g4 hl
    by_cases hlt : k < 5
    · have hc := hL.2.1 k hlt
      have HL : Hid (Lst a w w.heap.size wr) := hL
      clear hL
      go_wp2_with fail
      go_loopw [22] (fun j wr => ∃ m : Nat, m ≤ k ∧ j = .int .i64 m ∧ Lst a w w.heap.size wr) (fun j _ => k - (intOf j).toNat)
      case atStart => exact ⟨0, by omega, rfl, HL.out⟩
      case round =>
        rename_i wi
        clear HL hc
        obtain ⟨m, hm, rfl, hL⟩ := hrel
        by_cases hmk : m < k
        · have hc := hL.2.1 k hlt
          have hd := hL.2.1 m (by omega)
          have he := fun n => (hL.drewN n).1.eql k m hlt (by omega) (by omega)
          have i1 : (k : Int) < 5 := by omega
          have i2 : (m : Int) < 5 := by omega
          have HL : Hid (Lst a w w.heap.size wr) := hL
          clear hL
          go_wp2_with fail
          go_quiet (fail)
          go_wp2
          go_roundw
          case rel => exact ⟨m + 1, by omega, by go_num, HL.out.drewN _⟩
          case measure => simp [intOf]; omega
        · have HL : Hid (Lst a w w.heap.size wr) := hL
          clear hL
          go_wp2
          go_roundw
          case rel => exact ⟨k + 1, by omega, by go_num, HL.out⟩
          case measure => simp [intOf]; omega
    · have g2 := hL.1.g2 (by omega)
      have g3 := hL.1.g3 (by omega)
      have g4 := hL.1.g4 (by omega)
      have hb : Below wr.heap.size wr (wr.alloc (.cells #[er a 2] 49)) := (Below.refl _ _).alloc (Nat.le_refl _) _
      have hs2 := hL.1.on hb (Nat.le_refl _)
      have h2 := hs2.g2 (by omega)
      have h3 := hs2.g3 (by omega)
      have h4 := hs2.g4 (by omega)
      have hc2 : (wr.alloc (.cells #[er a 2] 49)).cell? ⟨wr.heap.size, 0, none⟩ = some (er a 2) := by simp [World.cell?_alloc_at]
      have HL : Hid (Lst a w w.heap.size wr) := hL
      have HS : Hid (Sen 5 (wr.alloc (.cells #[er a 2] 49)) a) := hs2
      clear hL hs2
      go_wp2_with fail
      go_at_call 17
      refine (is_fail a wr.heap.size 2 4 _ HS.out (by omega) (by omega) hc2 true (Or.inl ⟨rfl, rfl⟩)).mono ?_
      rintro e w' ⟨rfl, rfl⟩
      go_wp2_with fail
      go_at_call 17
      refine (is_fail a wr.heap.size 2 2 _ HS.out (by omega) (by omega) hc2 true (Or.inr (Or.inl ⟨by omega, rfl, rfl⟩))).mono ?_
      rintro e w' ⟨rfl, rfl⟩
      go_wp2_with fail
      go_at_call 17
      refine (is_fail a wr.heap.size 2 3 _ HS.out (by omega) (by omega) hc2 false (Or.inr (Or.inr ⟨by omega, by omega, rfl⟩))).mono ?_
      rintro e w' ⟨rfl, rfl⟩
      go_wp2
      go_ret
      exact ⟨rfl, HL.out.2.2.1.trans (hb.mono (by have := HL.out.2.2.2; omega))⟩
end Go.Proofs.YtmmkbaaodebafaaDoor
