import Derived.Test.YtmmkbaaodebafaaPsum
import Derived.RegionTactic
import Derived.Lib.SlBytesConst
import Derived.BigRegion
namespace Go.Proofs.Ytmmkbaaodebafaa
open Go.RowKit Jr

theorem fz_congr {x y : Nat → Nat} {n : Nat} (h : ∀ i, i < n → x i = y i) : fz x n = fz y n := by
  unfold fz; congr 1; apply List.map_congr_left; intro i hi; exact h i (by simpa using hi)
theorem xor6 (a b c x y z : Nat) : (a ^^^ b ^^^ c) ^^^ (x ^^^ y ^^^ z) = (a ^^^ x) ^^^ (b ^^^ y) ^^^ (c ^^^ z) := by
  apply Nat.eq_of_testBit_eq; intro i; simp only [Nat.testBit_xor]
  cases a.testBit i <;> cases b.testBit i <;> cases c.testBit i <;> cases x.testBit i <;> cases y.testBit i <;> cases z.testBit i <;> rfl
theorem fz_xor3 (x y z : Nat → Nat) (n : Nat) : fz (fun i => x i ^^^ y i ^^^ z i) n = fz x n ^^^ fz y n ^^^ fz z n := by
  induction n with
  | zero => show fold 4294967295 [] = fold 4294967295 [] ^^^ fold 4294967295 [] ^^^ fold 4294967295 []; decide +kernel
  | succ n ih => rw [fz_succ, fz_succ, fz_succ, fz_succ, ih, xor6, stps_xor, stps_xor]
theorem chk_xor3 (x y z : Nat → Nat) (n : Nat) : 4294967295 ^^^ fz (fun i => x i ^^^ y i ^^^ z i) n = (4294967295 ^^^ fz x n) ^^^ (4294967295 ^^^ fz y n) ^^^ (4294967295 ^^^ fz z n) := by
  rw [fz_xor3, ← xor6]; rfl
def dz (i : Nat) : Nat := 49 + i
theorem dz_sum : 4294967295 ^^^ fz dz 9 = 3808858755 := by decide +kernel
theorem byt_extract (A : ByteArray) (n i : Nat) (h : i < n) : byt (A.extract 0 n) i = byt A i := by
  unfold byt
  congr 1
  simp [List.getD, h]

theorem mk (w : World) (n : Nat) (hn : n ≤ 140737488351232) : (Instr.makeSlice 22 (.int .i64 n) (.int .i64 n)).run Try.prog w = .ok (.slice (some ⟨w.heap.size, 0, none⟩) n n) (w.alloc (.cells (madeCells #[.int .u8 0] n) 5)) := by
  have hi : (Try.prog.info? 5).map (fun i => (i.zero, i.size, i.bytes)) = some (some (.int .u8 0), 1, 1) := by kernel_rfl
  obtain ⟨i0, h1, h2, h3, h4⟩ := info_parts hi
  have := run_make (P := Try.prog) w 22 5 i0 (.int .u8 0) Try.underlying22 h1 h2 .i64 .i64 n n (by omega) (by omega) (by rw [h4]; omega) (by omega)
  rw [h3, Nat.mul_one] at this
  exact this

/-- What the loop has made of the row in block g behind k rounds. -/
def Lin (w0 : World) (x : Nat → Nat) (n g : Nat) (k : Nat) (wr : World) : Prop :=
  (∀ i, i < n → wr.cell? ⟨g, i, none⟩ = some (.int .u8 ((if i < k then x i else 0 : Nat) : Int))) ∧ (∀ i, i < n → wr.frozen? ⟨g, i, none⟩ = false) ∧ Below g w0 wr ∧ g < wr.heap.size
theorem lin_start (w : World) (x : Nat → Nat) (n : Nat) : Lin w x n w.heap.size 0 (w.alloc (.cells (madeCells #[.int .u8 0] n) 5)) := by
  refine ⟨fun i hi => ?_, fun i hi => ?_, (Below.refl _ _).alloc (Nat.le_refl _) _, by simp⟩
  · simp [World.cell?_alloc_at, madeCells, hi, Nat.mod_one]
  · simp [go_sem]
theorem lin_step {w wr : World} {x : Nat → Nat} {n g k : Nat} (h : Lin w x n g k wr) (hk : k < n) : Lin w x n g (k + 1) ((wr.setCell ⟨g, k, none⟩ (.int .u8 (x k : Nat))).drew) := by
  obtain ⟨h1, h2, h3, h4⟩ := h
  refine ⟨fun i hi => ?_, fun i hi => ?_, (h3.setCell (Nat.le_refl _) _).drew, by simpa [World.setCell] using h4⟩
  · have := h1 i hi
    by_cases e : i = k
    · subst e
      rw [if_pos (by omega)]
      show (wr.setCell ⟨g, i, none⟩ _).cell? ⟨g, i, none⟩ = _
      rw [World.cell?_setCell_same _ _ _ this]
    · show (wr.setCell ⟨g, k, none⟩ _).cell? ⟨g, i, none⟩ = _
      rw [World.cell?_setCell_other _ _ _ _ (fun h => e (by injection h with _ h2 _; exact h2.symm)), this]
      by_cases e2 : i < k
      · rw [if_pos e2, if_pos (by omega)]
      · rw [if_neg e2, if_neg (by omega)]
  · show (wr.setCell ⟨g, k, none⟩ _).frozen? ⟨g, i, none⟩ = _
    rw [World.frozen?_setCell]; exact h2 i hi
theorem byt_get (A : ByteArray) (k : Nat) (h : k < A.size) : ((A[k]'h).toNat : Int) = (byt A k : Nat) := by
  simp [byt, List.getD, h]; rfl
theorem byt_xor3 (A B C : ByteArray) (k : Nat) (hA : k < A.size) (hB : k < B.size) (hC : k < C.size) :
    bits .xor .u8 (bits .xor .u8 ((A[k]'hA).toNat : Int) ((B[k]'hB).toNat : Int)) ((C[k]'hC).toNat : Int) = ((byt A k ^^^ byt B k ^^^ byt C k : Nat) : Int) := by
  rw [byt_get, byt_get, byt_get, u8_xor_nat _ _ (byt_lt _ _) (byt_lt _ _), u8_xor_nat _ _ (Nat.xor_lt_two_pow (n := 8) (byt_lt _ _) (byt_lt _ _)) (byt_lt _ _)]

theorem dig_cell (w : World) (i : Nat) (hi : i < 9) : (w.alloc (.cells #[.int .u8 49, .int .u8 50, .int .u8 51, .int .u8 52, .int .u8 53, .int .u8 54, .int .u8 55, .int .u8 56, .int .u8 57] 5 (9, 10))).cell? ⟨w.heap.size, 0 + i, none⟩ = some (.int .u8 (dz i : Nat)) := by
  rw [World.cell?_alloc_mark]
  match i, hi with
  | 0, _ | 1, _ | 2, _ | 3, _ | 4, _ | 5, _ | 6, _ | 7, _ | 8, _ => rfl

set_option maxHeartbeats 2000000 in
theorem linear_walk (A B C : ByteArray) (n : Nat) (w : World) (hn : n ≤ 140737488351232)
    (h : (A.size = n ∧ n ≤ B.size ∧ n ≤ C.size) ∨ (B.size = n ∧ n < A.size ∧ n ≤ C.size) ∨ (C.size = n ∧ n < A.size ∧ A.size ≤ B.size) ∨ (C.size = n ∧ n < B.size ∧ B.size < A.size)) (hA : A.size ≤ maxLen) (hB : B.size ≤ maxLen) (_hC : C.size ≤ maxLen) :
    Calls Try.prog 4 #[.string A, .string B, .string C] w fun e w' => e = .returned (.bool true) ∧ Below w.heap.size w w' := by
  have hC := _hC
  unfold maxLen at hA hB hC
  have kmk := fun w => mk w n hn
  rcases h with ⟨h1, h2, h3⟩ | ⟨h1, h2, h3⟩ | ⟨h1, h2, h3⟩ | ⟨h1, h2, h3⟩
  all_goals
    go_enter Try.func4, Try.ntmps4
    go_wp2_with fail
    go_loopw [9] (fun i wr => ∃ k : Nat, k ≤ n ∧ i = .int .i64 k ∧ Lin w (fun i => byt A i ^^^ byt B i ^^^ byt C i) n w.heap.size k wr) (fun i _ => n - (intOf i).toNat)
    case atStart => exact ⟨0, Nat.zero_le _, rfl, lin_start _ _ _⟩
    case round =>
      obtain ⟨k, hk, rfl, hlin⟩ := hrel
      by_cases hlt : k < n
      · have hc := hlin.1 k hlt
        have hf := hlin.2.1 k hlt
        rw [if_neg (by omega)] at hc
        have iA : k < A.size := by omega
        have iB : k < B.size := by omega
        have iC : k < C.size := by omega
        have HL : Hid (Lin w (fun i => byt A i ^^^ byt B i ^^^ byt C i) n w.heap.size k wr) := hlin
        clear hlin
        go_wp2_with fail
        go_region
        go_wp2
        go_roundw
        case rel => exact ⟨k + 1, by omega, by go_num, by rw [byt_xor3 A B C k iA iB iC]; exact lin_step HL.out hlt⟩
        case measure => simp [intOf]; omega
      · have hkn : k = n := by omega
        subst hkn
        have HL : Hid (Lin w (fun i => byt A i ^^^ byt B i ^^^ byt C i) k w.heap.size k wr) := hlin
        clear hlin
        obtain ⟨A', hA'⟩ : ∃ A', A.extract 0 k = A' := ⟨_, rfl⟩
        obtain ⟨B', hB'⟩ : ∃ B', B.extract 0 k = B' := ⟨_, rfl⟩
        obtain ⟨C', hC'⟩ : ∃ C', C.extract 0 k = C' := ⟨_, rfl⟩
        have sA : A'.size = k := by rw [← hA']; simp; omega
        have sB : B'.size = k := by rw [← hB']; simp; omega
        have sC : C'.size = k := by rw [← hC']; simp; omega
        have kA := fun w => bw_conv w A'
        have kB := fun w => bw_conv w B'
        have kC := fun w => bw_conv w C'
        have km : k ≤ maxLen := by unfold maxLen; omega
        have kc := fun (w : World) (C : Array Value) (n c : Nat) => Lib.run_convert_bytes_const (P := Try.prog) w 22 5 C n c Try.underlying22 Try.underlying5
        go_wp2_with fail
        go_at_call 5
        refine (psum wr.heap.size 0 k _ (byt A') _ km (fun i _ => byt_lt A' i) (fun i hi => bw_cell wr A' i (by omega))).mono ?_
        rintro e w' ⟨rfl, rfl⟩
        go_wp2_with fail
        go_at_call 5
        refine (psum _ 0 k _ (byt B') _ km (fun i _ => byt_lt B' i) (fun i hi => bw_cell _ B' i (by omega))).mono ?_
        rintro e w' ⟨rfl, rfl⟩
        go_wp2_with fail
        go_at_call 5
        refine (psum _ 0 k _ (byt C') _ km (fun i _ => byt_lt C' i) (fun i hi => bw_cell _ C' i (by omega))).mono ?_
        rintro e w' ⟨rfl, rfl⟩
        go_wp2_with fail
        go_at_call 5
        refine (psum w.heap.size 0 k _ (fun i => byt A i ^^^ byt B i ^^^ byt C i) _ km (fun i _ => Nat.xor_lt_two_pow (n := 8) (Nat.xor_lt_two_pow (n := 8) (byt_lt _ _) (byt_lt _ _)) (byt_lt _ _)) (fun i hi => ?_)).mono ?_
        · have h4 := HL.out.2.2.2
          have h5 := HL.out.1 i hi
          rw [if_pos hi] at h5
          rw [bw_old _ _ _ (by simp only [Lib.bytesWorld_size]; omega), bw_old _ _ _ (by simp only [Lib.bytesWorld_size]; omega), bw_old _ _ _ h4, Nat.zero_add]
          exact h5
        rintro e w' ⟨rfl, rfl⟩
        have hfin : 4294967295 ^^^ fz (fun i => byt A i ^^^ byt B i ^^^ byt C i) k = (4294967295 ^^^ fz (byt A') k) ^^^ (4294967295 ^^^ fz (byt B') k) ^^^ (4294967295 ^^^ fz (byt C') k) := by
          rw [chk_xor3]
          rw [fz_congr (x := byt A) (y := byt A') (fun i hi => by rw [← hA', byt_extract _ _ _ hi]), fz_congr (x := byt B) (y := byt B') (fun i hi => by rw [← hB', byt_extract _ _ _ hi]), fz_congr (x := byt C) (y := byt C') (fun i hi => by rw [← hC', byt_extract _ _ _ hi])]
        have HF : Hid (4294967295 ^^^ fz (fun i => byt A i ^^^ byt B i ^^^ byt C i) k = (4294967295 ^^^ fz (byt A') k) ^^^ (4294967295 ^^^ fz (byt B') k) ^^^ (4294967295 ^^^ fz (byt C') k)) := hfin
        clear hfin
        have bA : 4294967295 ^^^ fz (byt A') k < 4294967296 := xor_lt (by omega) (fz_lt _ _ (fun i _ => byt_lt _ _))
        have bB : 4294967295 ^^^ fz (byt B') k < 4294967296 := xor_lt (by omega) (fz_lt _ _ (fun i _ => byt_lt _ _))
        have bC : 4294967295 ^^^ fz (byt C') k < 4294967296 := xor_lt (by omega) (fz_lt _ _ (fun i _ => byt_lt _ _))
        have BL := HL.out.2.2
        clear HL
        generalize 4294967295 ^^^ fz (byt A') k = cA at *
        generalize 4294967295 ^^^ fz (byt B') k = cB at *
        generalize 4294967295 ^^^ fz (byt C') k = cC at *
        generalize 4294967295 ^^^ fz (fun i => byt A i ^^^ byt B i ^^^ byt C i) k = cD at *
        go_wp2_with fail
        go_at_call 5
        refine (psum _ 0 9 _ dz _ (by decide) (fun i hi => by unfold dz; omega) (fun i hi => dig_cell _ i hi)).mono ?_
        rintro e w' ⟨rfl, rfl⟩
        rw [dz_sum]
        have x1 := u32_xor_nat cA cB bA bB
        have x2 := u32_xor_nat (cA ^^^ cB) cC (xor_lt bA bB) bC
        have hfin : cD = cA ^^^ cB ^^^ cC := HF.out
        clear HF
        subst hfin
        go_wp2
        go_ret
        refine ⟨rfl, ?_⟩
        refine Below.alloc ?_ (by simp only [Lib.bytesWorld_size]; omega) _
        exact BL.1.trans (((Joins.below_bytesWorld _ _ _ _ (by omega)).trans (Joins.below_bytesWorld _ _ _ _ (by simp only [Lib.bytesWorld_size]; omega))).trans (Joins.below_bytesWorld _ _ _ _ (by simp only [Lib.bytesWorld_size]; omega)))
end Go.Proofs.Ytmmkbaaodebafaa
