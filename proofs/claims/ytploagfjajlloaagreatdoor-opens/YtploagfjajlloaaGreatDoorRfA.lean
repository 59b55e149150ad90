import Derived.Test.YtploagfjajlloaaGreatDoorFr
import Derived.Test.YtploagfjajlloaaGreatDoorLogA
import Derived.Lib.Strings
namespace Go.Proofs.YtploagfjajlloaaGreatDoor
open Go.RowKit Jr

theorem str_ne {s t : ByteArray} (h : s ≠ t) : (s.toList == t.toList) = false := by
  rw [beq_eq_false_iff_ne, Lib.toList_data, Lib.toList_data]
  exact fun e => h (ByteArray.ext (Array.toList_inj.1 e))
theorem str_eq (s : ByteArray) : (s.toList == s.toList) = true := by simp
set_option maxHeartbeats 1000000 in
theorem rfind_some (g cap n : Nat) (N : Nat → ByteArray) (nm : ByteArray) (w : World) (hn : n ≤ 9223372036854775807)
    (hc : ∀ i, i < n → w.cell? ⟨g, i * 2, none⟩ = some (.string (N i))) (r : Int) (hr : (r = -1 ∧ ∀ i, i < n → N i ≠ nm) ∨ ∃ k : Nat, r = k ∧ k < n ∧ N k = nm ∧ ∀ i, i < k → N i ≠ nm) :
    Calls Tryz.prog 21 #[.slice (some ⟨g, 0, none⟩) n cap, .string nm] w fun e w' => e = .returned (.int .i64 r) ∧ w' = w := by
  go_enter Tryz.func21, Tryz.ntmps21
  go_wp2
  go_loop [5] (fun i => ∃ k : Nat, k ≤ n ∧ i = .int .i64 k ∧ ∀ j, j < k → N j ≠ nm) (fun i => n - (intOf i).toNat)
  case atStart => exact ⟨0, Nat.zero_le _, rfl, fun j hj => by omega⟩
  case round =>
    obtain ⟨k, hk, rfl, hb⟩ := hrel
    by_cases hlt : k < n
    · have c := hc k hlt
      by_cases he : N k = nm
      · go_wp2
        go_ret
        rcases hr with ⟨_, h⟩ | ⟨k', rfl, h1, h2, h3⟩
        · exact absurd he (h k hlt)
        · have : k = k' := by
            rcases Nat.lt_trichotomy k k' with h | h | h
            · exact absurd he (h3 k h)
            · exact h
            · exact absurd h2 (hb k' h)
          subst this; exact ⟨rfl, rfl⟩
      · have hq := str_ne he
        go_wp2
        go_round
        case rel => exact ⟨k + 1, by omega, by go_num, fun j hj => by
          rcases Nat.lt_or_ge j k with h | h
          · exact hb j h
          · rw [show j = k by omega]; exact he⟩
        case measure => simp [intOf]; omega
    · go_wp2
      go_ret
      rcases hr with ⟨rfl, h⟩ | ⟨k', rfl, h1, h2, h3⟩
      · exact ⟨rfl, rfl⟩
      · exact absurd h2 (hb k' (by omega))

theorem conv_one (w : World) (x : Nat) (y : Int) (hy : y = x) : (convert 59 9 (.slice (some ⟨w.heap.size, 0, none⟩) 1 1)).run Tryz.prog (w.alloc (.cells #[.int .u8 y] 5)) = .ok (.string (sOf [x])) (w.alloc (.cells #[.int .u8 y] 5)) :=
  conv_cells _ w.heap.size 0 1 1 [x] rfl (fun i hi => by
    obtain rfl : i = 0 := by omega
    subst hy
    simp [World.cell?_alloc_at])
theorem sOf_app (l m : List Nat) : sOf l ++ sOf m = sOf (l ++ m) := by
  apply ByteArray.ext
  unfold sOf
  simp [strOfNums]
set_option maxRecDepth 10000 in
set_option maxHeartbeats 1000000 in
theorem rname (b : Nat) (w : World) (hb : b < 9223372036854775808) :
    Calls Tryz.prog 23 #[.int .i64 b] w fun e w' => e = .returned (.string (nameOf b)) ∧ Below w.heap.size w w' := by
  go_enter Tryz.func23, Tryz.ntmps23
  go_wp2
  go_loopw [0, 3, 4] (fun x s i wr => ∃ k : Nat, k ≤ 8 ∧ i = .int .i64 k ∧ x = .int .i64 ((b / 10 ^ k : Nat) : Int) ∧ s = .string (sOf (dgs k b)) ∧ Below w.heap.size w wr) (fun _ _ i _ => 8 - (intOf i).toNat)
  case atStart => exact ⟨0, by omega, rfl, by simp, rfl, Below.refl _ _⟩
  case round =>
    obtain ⟨k, hk, rfl, rfl, rfl, hbl⟩ := hrel
    by_cases hlt : k < 8
    · obtain ⟨B, hB⟩ : ∃ B, B = b / 10 ^ k := ⟨_, rfl⟩
      have hBle : B ≤ b := by rw [hB]; exact Nat.div_le_self _ _
      have HB : Hid (B = b / 10 ^ k) := hB
      rw [← hB]
      clear hB
      obtain ⟨X, hX⟩ : ∃ X, X = B % 10 := ⟨_, rfl⟩
      have hX10 : X < 10 := by omega
      have hm : (B : Int).tmod 10 = X := by rw [hX]; rfl
      have HX : Hid (X = B % 10) := hX
      clear hX
      have hw1 : wrap64 (48 + (X : Int)) = 48 + X := by simp [wrap64]; omega
      have hw2 : (48 + (X : Int)) % 256 = 48 + X := by omega
      have hd : (B : Int).tdiv 10 = ((B / 10 : Nat) : Int) := rfl
      have kc := conv_one wr (48 + X) (48 + (X : Int)) (by omega)
      have bl2 : Hid (Below w.heap.size w (wr.alloc (.cells #[.int .u8 (48 + (X : Int))] 5))) := hbl.alloc hbl.size _
      have hsum : ¬ 9223372036854775807 < (sOf [48 + X]).size + (sOf (dgs k b)).size := by rw [sOf_sz, sOf_sz, dgs_length]; simp; omega
      go_wp2
      go_roundw
      case rel =>
        refine ⟨k + 1, by omega, by go_num, ?_, ?_, bl2.out⟩
        · rw [Nat.pow_succ, ← Nat.div_div_eq_div_mul, ← HB.out]; rfl
        · rw [sOf_app, List.singleton_append, HX.out, HB.out, dgs_push]
      case measure => simp [intOf]; omega
    · obtain rfl : k = 8 := by omega
      have hsum : ¬ 9223372036854775807 < 4 + (sOf (dgs 8 b)).size := by rw [sOf_sz, dgs_length]; omega
      have HE : Hid ((⟨#[115, 101, 103, 45]⟩ : ByteArray) ++ sOf (dgs 8 b) = nameOf b) := by
        show _ = _
        unfold nameOf nameL
        rw [← sOf_app]; congr 1
      have HBL : Hid (Below w.heap.size w wr) := hbl
      clear hbl
      go_wp2
      go_ret
      exact ⟨by rw [← HE.out]; rfl, HBL.out⟩

/-- How many of the first k events are of a stream. -/
def cntK (S : Nat → ByteArray) (nm : ByteArray) : Nat → Nat
  | 0 => 0
  | k + 1 => cntK S nm k + (if S k = nm then 1 else 0)
theorem cntK_le (S : Nat → ByteArray) (nm : ByteArray) (k : Nat) : cntK S nm k ≤ k := by
  induction k with
  | zero => simp [cntK]
  | succ k ih => simp only [cntK]; split <;> omega
set_option maxHeartbeats 1000000 in
theorem rversion_some (g cap n : Nat) (S : Nat → ByteArray) (nm : ByteArray) (w : World) (hn : n ≤ 9223372036854775807) (hc : ∀ i, i < n → w.cell? ⟨g, i * 4, none⟩ = some (.string (S i))) :
    Calls Tryz.prog 26 #[.slice (some ⟨g, 0, none⟩) n cap, .string nm] w fun e w' => e = .returned (.int .i64 (cntK S nm n)) ∧ w' = w := by
  go_enter Tryz.func26, Tryz.ntmps26
  go_wp2
  go_loop [5, 6] (fun c i => ∃ k : Nat, k ≤ n ∧ i = .int .i64 k ∧ c = .int .i64 (cntK S nm k)) (fun _ i => n - (intOf i).toNat)
  case atStart => exact ⟨0, Nat.zero_le _, rfl, rfl⟩
  case round =>
    obtain ⟨k, hk, rfl, rfl⟩ := hrel
    have hle := cntK_le S nm k
    by_cases hlt : k < n
    · have c := hc k hlt
      by_cases he : S k = nm
      · have e1 : cntK S nm (k + 1) = cntK S nm k + 1 := by simp [cntK, he]
        have hx := str_eq nm
        rw [he] at c
        obtain ⟨C, hC⟩ : ∃ C, cntK S nm k = C := ⟨_, rfl⟩
        rw [hC] at e1 hle ⊢
        have HE : Hid (cntK S nm (k + 1) = C + 1) := e1
        clear e1 hC
        go_wp2
        go_round
        case rel => exact ⟨k + 1, by omega, by go_num, by rw [HE.out]; go_num⟩
        case measure => simp [intOf]; omega
      · have hq := str_ne he
        have e1 : cntK S nm (k + 1) = cntK S nm k := by simp [cntK, he]
        have HE : Hid (cntK S nm (k + 1) = cntK S nm k) := e1
        clear e1
        go_wp2
        go_round
        case rel => exact ⟨k + 1, by omega, by go_num, by rw [HE.out]⟩
        case measure => simp [intOf]; omega
    · obtain rfl : k = n := by omega
      go_wp2
      go_ret
      exact ⟨rfl, rfl⟩
theorem rversion_nil (nm : ByteArray) (w : World) :
    Calls Tryz.prog 26 #[.slice none 0 0, .string nm] w fun e w' => e = .returned (.int .i64 0) ∧ w' = w := by
  go_enter Tryz.func26, Tryz.ntmps26
  go_wp2
  refine wp_loop_rounds 1 ?_
  rw [rounds_succ]
  go_wp2
  go_ret
  exact ⟨rfl, rfl⟩
theorem rfind_nil (nm : ByteArray) (w : World) :
    Calls Tryz.prog 21 #[.slice none 0 0, .string nm] w fun e w' => e = .returned (.int .i64 (-1)) ∧ w' = w := by
  go_enter Tryz.func21, Tryz.ntmps21
  go_wp2
  refine wp_loop_rounds 1 ?_
  rw [rounds_succ]
  go_wp2
  go_ret
  exact ⟨rfl, rfl⟩
end Go.Proofs.YtploagfjajlloaaGreatDoor
