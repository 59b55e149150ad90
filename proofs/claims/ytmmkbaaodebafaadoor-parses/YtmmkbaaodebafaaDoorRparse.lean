import Derived.Test.YtmmkbaaodebafaaDoorJparse
import Derived.Test.YtmmkbaaodebafaaDoorRsum
namespace Go.Proofs.YtmmkbaaodebafaaDoor
open Go.RowKit Jr

abbrev pzev : Array Value := #[.string ⟨#[]⟩, .int .i64 0, .int .i64 0, .string ⟨#[]⟩]
abbrev rres (v p : Int) (st d : ByteArray) (n ver : Int) : Value := .tuple #[.agg (pev st v p d), .int .i64 n, .int .i64 ver]
theorem rread04 (b off len cap : Nat) (z : Nat → Nat) (w : World) (hl : len ≤ maxLen) (hat : 4 ≤ len) (hz : ∀ i, i < len → z i < 256)
    (hc : ∀ i, i < len → w.cell? ⟨b, off + i, none⟩ = some (.int .u8 (z i : Nat))) :
    Calls Tryd.prog 24 #[.slice (some ⟨b, off, none⟩) len cap, .int .i64 0, .int .i64 4] w fun e w' => e = .returned (.int .u64 (un z 4 : Nat)) ∧ w' = w := by
  have h := rread b off len cap 0 4 z w hl (by omega) (by omega) hz hc
  simp only [Nat.zero_add] at h; exact h
theorem rread44 (b off len cap : Nat) (z : Nat → Nat) (w : World) (hl : len ≤ maxLen) (hat : 8 ≤ len) (hz : ∀ i, i < len → z i < 256)
    (hc : ∀ i, i < len → w.cell? ⟨b, off + i, none⟩ = some (.int .u8 (z i : Nat))) :
    Calls Tryd.prog 24 #[.slice (some ⟨b, off, none⟩) len cap, .int .i64 4, .int .i64 4] w fun e w' => e = .returned (.int .u64 (un (fun i => z (4 + i)) 4 : Nat)) ∧ w' = w :=
  rread b off len cap 4 4 z w hl (by omega) (by omega) hz hc
theorem rread8 (b off len cap at0 : Nat) (x : Int) (hx : x = (at0 : Nat)) (z : Nat → Nat) (w : World) (hl : len ≤ maxLen) (hat : at0 + 8 ≤ len) (hz : ∀ i, i < len → z i < 256)
    (hc : ∀ i, i < len → w.cell? ⟨b, off + i, none⟩ = some (.int .u8 (z i : Nat))) :
    Calls Tryd.prog 24 #[.slice (some ⟨b, off, none⟩) len cap, .int .i64 x, .int .i64 8] w fun e w' => e = .returned (.int .u64 (un (fun i => z (at0 + i)) 8 : Nat)) ∧ w' = w := by
  subst hx; exact rread b off len cap at0 8 z w hl (by omega) (by omega) hz hc

set_option maxHeartbeats 2000000 in
theorem rparse_short (b off len cap : Nat) (w : World) (hl : len < 8) :
    Calls Tryd.prog 13 #[.slice (some ⟨b, off, none⟩) len cap] w fun e w' => e = .returned (rres 0 0 ⟨#[]⟩ ⟨#[]⟩ 0 1) ∧ Below w.heap.size w w' := by
  go_enter Tryd.func13, Tryd.ntmps13
  go_wp2
  refine bodyPost_ret (v := rres 0 0 ⟨#[]⟩ ⟨#[]⟩ 0 1) (by simp [results, Tryd.results13, go_sem]) rfl ⟨rfl, ?_⟩
  go_grown

set_option maxRecDepth 10000 in
set_option maxHeartbeats 8000000 in
theorem rparse_rest (b off len cap N T C k : Nat) (V P : Int) (ST DD : ByteArray) (z : Nat → Nat) (R : Value) (w : World) (hl : 8 ≤ len) (hlm : len ≤ 9000000000000000000) (hc : len ≤ cap) (_hcm : cap ≤ 9223372036854775807) (hz : ∀ i, i < len → z i < 256)
    (hcell : ∀ i, i < len → w.cell? ⟨b, off + i, none⟩ = some (.int .u8 (z i : Nat))) (hb : b < w.heap.size)
    (HN : Hid (un z 4 = N)) (HT : Hid (un (fun i => z (4 + i)) 4 = T)) (HC : Hid (8 + N ≤ len → crc (seg z 8 N) = C)) (hN : N < 4294967296) (_hT : T < 4294967296) (hC : C < 4294967296)
    (hk : Hid (z 8 = k)) (HV : Hid (i64of (un (fun i => z (8 + (1 + k + i))) 8) = V)) (HP : Hid (i64of (un (fun i => z (8 + (9 + k + i))) 8) = P)) (HST : Hid (sOf (seg (fun i => z (8 + i)) 1 k) = ST)) (HDD : Hid (sOf (seg (fun i => z (8 + i)) (17 + k) (N - (17 + k))) = DD))
    (HR : Hid (((N < 18 ∨ 53 < N) ∧ R = rres 0 0 ⟨#[]⟩ ⟨#[]⟩ 0 2) ∨ (18 ≤ N ∧ N ≤ 53 ∧ len < 8 + N ∧ R = rres 0 0 ⟨#[]⟩ ⟨#[]⟩ 0 1) ∨
      (18 ≤ N ∧ N ≤ 53 ∧ 8 + N ≤ len ∧ (T ≠ C ∨ (T = C ∧ k = 0) ∨ (T = C ∧ k ≠ 0 ∧ 12 < k) ∨ (T = C ∧ k ≠ 0 ∧ k ≤ 12 ∧ N < k + 17) ∨ (T = C ∧ k ≠ 0 ∧ k ≤ 12 ∧ k + 17 ≤ N ∧ k + 41 < N)) ∧ R = rres 0 0 ⟨#[]⟩ ⟨#[]⟩ 0 2) ∨
      (18 ≤ N ∧ N ≤ 53 ∧ 8 + N ≤ len ∧ T = C ∧ k ≠ 0 ∧ k ≤ 12 ∧ k + 17 ≤ N ∧ N ≤ k + 41 ∧ ((V < 1 ∧ R = rres 0 0 ⟨#[]⟩ ⟨#[]⟩ 0 2) ∨ (1 ≤ V ∧ P < 0 ∧ R = rres 0 0 ⟨#[]⟩ ⟨#[]⟩ 0 2) ∨ (1 ≤ V ∧ 0 ≤ P ∧ R = rres V P ST DD (8 + N) 0))))) :
    Calls Tryd.prog 13 #[.slice (some ⟨b, off, none⟩) len cap] w fun e w' => e = .returned R ∧ Below w.heap.size w w' := by
  have hb1 : Below w.heap.size w (w.alloc (.cells pzev 30)) := (Below.refl _ _).alloc (Nat.le_refl _) _
  have C1 : Hid (∀ i, i < len → (w.alloc (.cells pzev 30)).cell? ⟨b, off + i, none⟩ = some (.int .u8 (z i : Nat))) := fun i hi => (hb1.cell (p := ⟨b, off + i, none⟩) hb).trans (hcell i hi)
  have C2 : Hid (∀ O i, i < len → ((w.alloc (.cells pzev 30)).alloc O).cell? ⟨b, off + i, none⟩ = some (.int .u8 (z i : Nat))) := fun O i hi => ((hb1.alloc (by simp) O).cell (p := ⟨b, off + i, none⟩) hb).trans (hcell i hi)
  have H2 : Hid (∀ i, i < len → z i < 256) := hz
  have HL : Hid (len ≤ maxLen) := by show len ≤ maxLen; unfold maxLen; omega
  have l8 : (8 : Int) ≤ cap := by omega
  have wN : IntKind.i64.wrap (N : Int) = N := by rw [IntKind.wrap_i64]; omega
  have wC : IntKind.u64.wrap (C : Int) = C := by rw [IntKind.wrap_u64]; omega
  obtain ⟨c8, hc8⟩ : ∃ c, cap - 8 = c := ⟨_, rfl⟩
  obtain ⟨o8, ho8⟩ : ∃ o, off + 8 = o := ⟨_, rfl⟩
  have HO8 : Hid (off + 8 = o8) := ho8
  have hc8' : len ≤ c8 + 8 := by omega
  have hc8m : c8 ≤ 9223372036854775807 := by omega
  clear hcell hz hb1
  go_enter Tryd.func13, Tryd.ntmps13
  go_upto_region 4 with (go_at_call 24; refine (rread04 b off len cap z _ HL.out (by omega) H2.out C1.out).mono ?_; rw [HN.out]; rintro e w' ⟨rfl, rfl⟩)
  rcases HR.out with ⟨h1, hR⟩ | ⟨h1, h2, h3, hR⟩ | ⟨h1, h2, h3, h4, hR⟩ | ⟨h1, h2, h3, h4, h5, h6, h7, h8, hR⟩
  · have HQ : Hid (R = rres 0 0 ⟨#[]⟩ ⟨#[]⟩ 0 2) := hR
    clear hR
    rcases h1 with h1 | h1
    all_goals
      go_wp2
      refine bodyPost_ret (v := rres 0 0 ⟨#[]⟩ ⟨#[]⟩ 0 2) (by simp [results, Tryd.results13, go_sem]) rfl ⟨by rw [HQ.out], ?_⟩
      go_grown
  · have HQ : Hid (R = rres 0 0 ⟨#[]⟩ ⟨#[]⟩ 0 1) := hR
    clear hR
    go_wp2
    refine bodyPost_ret (v := rres 0 0 ⟨#[]⟩ ⟨#[]⟩ 0 1) (by simp [results, Tryd.results13, go_sem]) rfl ⟨by rw [HQ.out], ?_⟩
    go_grown
  all_goals
    have t8 : (8 + (N : Int)).toNat = 8 + N := by omega
    have p8 : (0 : Int) ≤ 8 + (N : Int) := by omega
    have q8 : (8 : Int) ≤ 8 + (N : Int) := by omega
    have m8 : 8 + (N : Int) ≤ cap := by omega
    have n8 : ¬ cap = 8 := by omega
    have d8 : 8 + N - 8 = N := by omega
    have hk256 : k < 256 := by rw [← hk.out]; exact H2.out 8 (by omega)
    have ck : (w.alloc (.cells pzev 30)).cell? ⟨b, o8, none⟩ = some (.int .u8 (k : Nat)) := by rw [← hk.out, ← HO8.out]; exact C1.out 8 (by omega)
    go_upto_region 12 with (first
      | (go_at_call 24; refine (rread44 b off len cap z _ HL.out (by omega) H2.out C1.out).mono ?_; rw [HT.out]; rintro e w' ⟨rfl, rfl⟩)
      | (go_at_call 21; refine (rsum_cells b o8 N c8 (seg z 8 N) _ (seg_length _ _ _) (by unfold maxLen; omega) (fun x hx => by obtain ⟨i, hi, rfl⟩ := List.mem_map.1 hx; exact H2.out _ (by have := List.mem_range.1 hi; omega)) (fun i hi => by rw [← HO8.out, Nat.add_assoc, seg_get _ _ _ _ hi]; exact C1.out _ (by omega))).mono ?_; rw [HC.out h3]; rintro e w' ⟨rfl, rfl⟩))
  · have HQ : Hid (R = rres 0 0 ⟨#[]⟩ ⟨#[]⟩ 0 2) := hR
    clear hR
    rcases h4 with h4 | ⟨h4, h5⟩ | ⟨h4, h5, h6⟩ | ⟨h4, h5, h6, h7⟩ | ⟨h4, h5, h6, h7, h8⟩
    · have hTC : ((C : Int) != (T : Int)) = true := by simp; omega
      go_wp2
      refine bodyPost_ret (v := rres 0 0 ⟨#[]⟩ ⟨#[]⟩ 0 2) (by simp [results, Tryd.results13, go_sem]) rfl ⟨by rw [HQ.out], ?_⟩
      go_grown
    · go_wp2
      refine bodyPost_ret (v := rres 0 0 ⟨#[]⟩ ⟨#[]⟩ 0 2) (by simp [results, Tryd.results13, go_sem]) rfl ⟨by rw [HQ.out], ?_⟩
      go_grown
    all_goals
      have hk0 : ((k : Int) == 0) = false := by rw [beq_eq_false_iff_ne]; omega
      go_wp2
      refine bodyPost_ret (v := rres 0 0 ⟨#[]⟩ ⟨#[]⟩ 0 2) (by simp [results, Tryd.results13, go_sem]) rfl ⟨by rw [HQ.out], ?_⟩
      go_grown
  · have HRR := (show Hid ((V < 1 ∧ R = rres 0 0 ⟨#[]⟩ ⟨#[]⟩ 0 2) ∨ (1 ≤ V ∧ P < 0 ∧ R = rres 0 0 ⟨#[]⟩ ⟨#[]⟩ 0 2) ∨ (1 ≤ V ∧ 0 ≤ P ∧ R = rres V P ST DD (8 + N) 0)) from hR)
    have hk0 : ((k : Int) == 0) = false := by rw [beq_eq_false_iff_ne]; omega
    clear hR
    go_upto_region 14 with fail
    obtain ⟨o4, hif, ho4⟩ : ∃ o4, (if c8 = 17 + k then some ({ block := b, off := o8, spot := none } : Addr) else some ⟨b, o8 + (17 + k), none⟩) = some ⟨b, o4, none⟩ ∧ (17 + k < N → o4 = o8 + (17 + k)) := by
      by_cases h : c8 = 17 + k
      · exact ⟨o8, by rw [if_pos h], fun h' => by omega⟩
      · exact ⟨_, by rw [if_neg h], fun _ => rfl⟩
    have q1 : ∀ W : World, (∀ i, i < len → W.cell? ⟨b, off + i, none⟩ = some (.int .u8 (z i : Nat))) → (convert 23 9 (.slice (some ⟨b, o8 + 1, none⟩) k (c8 - 1))).run Tryd.prog W = .ok (.string ST) W := fun W h => by
      rw [← HST.out]
      exact conv_cells W b (o8 + 1) k (c8 - 1) (seg (fun i => z (8 + i)) 1 k) (seg_length _ _ _) (fun i hi => by rw [seg_get _ _ _ _ hi, ← HO8.out, ← h (8 + (1 + i)) (by omega)]; congr 2; omega)
    have q2 : ∀ W : World, (∀ i, i < len → W.cell? ⟨b, off + i, none⟩ = some (.int .u8 (z i : Nat))) → (convert 23 9 (.slice (some ⟨b, o4, none⟩) (N - (17 + k)) (c8 - (17 + k)))).run Tryd.prog W = .ok (.string DD) W := fun W h => by
      rw [← HDD.out]
      exact conv_cells W b o4 _ _ (seg (fun i => z (8 + i)) (17 + k) (N - (17 + k))) (seg_length _ _ _) (fun i hi => by rw [seg_get _ _ _ _ hi, ho4 (by omega), ← HO8.out, ← h (8 + (17 + k + i)) (by omega)]; congr 2; omega)
    have qa : Hid ((convert 23 9 (.slice (some ⟨b, o8 + 1, none⟩) k (c8 - 1))).run Tryd.prog (w.alloc (.cells pzev 30)).drew = .ok (.string ST) (w.alloc (.cells pzev 30)).drew ∧ (convert 23 9 (.slice (some ⟨b, o4, none⟩) (N - (17 + k)) (c8 - (17 + k)))).run Tryd.prog (w.alloc (.cells pzev 30)).drew = .ok (.string DD) (w.alloc (.cells pzev 30)).drew) := ⟨q1 _ C1.out, q2 _ C1.out⟩
    have qb : Hid (∀ O, (convert 23 9 (.slice (some ⟨b, o8 + 1, none⟩) k (c8 - 1))).run Tryd.prog ((w.alloc (.cells pzev 30)).alloc O).drew = .ok (.string ST) ((w.alloc (.cells pzev 30)).alloc O).drew ∧ (convert 23 9 (.slice (some ⟨b, o4, none⟩) (N - (17 + k)) (c8 - (17 + k)))).run Tryd.prog ((w.alloc (.cells pzev 30)).alloc O).drew = .ok (.string DD) ((w.alloc (.cells pzev 30)).alloc O).drew) := fun O => ⟨q1 _ (C2.out O), q2 _ (C2.out O)⟩
    clear q1 q2 ho4
    have t1 : (1 + (k : Int)).toNat = 1 + k := by omega
    have t17 : (17 + (k : Int)).toNat = 17 + k := by omega
    have d1 : 1 + k - 1 = k := by omega
    have p0 : (0 : Int) ≤ 1 + (k : Int) := by omega
    have p17 : (0 : Int) ≤ 17 + (k : Int) := by omega
    have l1 : 1 + (k : Int) ≤ c8 := by omega
    have ln : 17 + (k : Int) ≤ N := by omega
    have le1 : (1 : Int) ≤ 1 + (k : Int) := by omega
    have n1 : ¬ c8 = 1 := by omega
    have r1 : IntKind.i64.wrap (1 + (k : Int)) = 1 + (k : Int) := by rw [IntKind.wrap_i64]; omega
    have r17 : IntKind.i64.wrap (17 + (k : Int)) = 17 + (k : Int) := by rw [IntKind.wrap_i64]; omega
    go_region_held3 (fun w' => (convert 23 9 (.slice (some ⟨b, o8 + 1, none⟩) k (c8 - 1))).run Tryd.prog w' = .ok (.string ST) w' ∧ (convert 23 9 (.slice (some ⟨b, o4, none⟩) (N - (17 + k)) (c8 - (17 + k)))).run Tryd.prog w' = .ok (.string DD) w') (first | exact qa.out | exact qb.out _) (fail)
    clear qa qb hif t1 t17 d1 p0 p17 l1 ln le1 n1 r17
    obtain ⟨y, hy⟩ : ∃ y : Nat → Nat, y = fun i => z (8 + i) := ⟨_, rfl⟩
    have Y : Hid (∀ i, y i = z (8 + i)) := fun i => by rw [hy]
    obtain ⟨U1, hU1⟩ : ∃ U, un (fun i => y (1 + k + i)) 8 = U := ⟨_, rfl⟩
    obtain ⟨U2, hU2⟩ : ∃ U, un (fun i => y (9 + k + i)) 8 = U := ⟨_, rfl⟩
    have hV : IntKind.i64.wrap (U1 : Int) = V := by rw [← hU1, hy]; exact HV.out
    have hP : IntKind.i64.wrap (U2 : Int) = P := by rw [← hU2, hy]; exact HP.out
    have HU1 : Hid (un (fun i => y (1 + k + i)) 8 = U1) := hU1
    have HU2 : Hid (un (fun i => y (9 + k + i)) 8 = U2) := hU2
    have Y2 : Hid (∀ i, i < N → y i < 256) := fun i hi => by rw [Y.out]; exact H2.out _ (by omega)
    have Y3 : Hid (∀ i, i < N → (((w.alloc (.cells pzev 30)).alloc (.cells (pev ST 0 0 DD) 30)).drew).cell? ⟨b, o8 + i, none⟩ = some (.int .u8 (y i : Nat))) := fun i hi => by
      rw [Y.out, ← HO8.out, Nat.add_assoc]; exact C2.out (.cells (pev ST 0 0 DD) 30) _ (by omega)
    clear hy hU1 hU2
    have r9 : IntKind.i64.wrap (9 + (k : Int)) = 9 + (k : Int) := by rw [IntKind.wrap_i64]; omega
    have r8 : IntKind.i64.wrap (8 + (N : Int)) = 8 + (N : Int) := by rw [IntKind.wrap_i64]; omega
    go_upto_region 16 with (go_at_call 24; refine (rread8 b o8 N c8 (1 + k) (1 + (k : Int)) (by omega) y (((w.alloc (.cells pzev 30)).alloc (.cells (pev ST 0 0 DD) 30)).drew) (by unfold maxLen; omega) (by omega) Y2.out Y3.out).mono ?_; rw [HU1.out]; rintro e w' ⟨rfl, rfl⟩)
    go_upto_region 17 with (go_at_call 24; refine (rread8 b o8 N c8 (9 + k) (9 + (k : Int)) (by omega) y (((w.alloc (.cells pzev 30)).alloc (.cells (pev ST 0 0 DD) 30)).drew) (by unfold maxLen; omega) (by omega) Y2.out Y3.out).mono ?_; rw [HU2.out]; rintro e w' ⟨rfl, rfl⟩)
    rcases HRR.out with ⟨g1, hR⟩ | ⟨g1, g2, hR⟩ | ⟨g1, g2, hR⟩
    · have HQ : Hid (R = rres 0 0 ⟨#[]⟩ ⟨#[]⟩ 0 2) := hR
      clear hR
      go_wp2
      refine bodyPost_ret (v := rres 0 0 ⟨#[]⟩ ⟨#[]⟩ 0 2) (by simp [results, Tryd.results13, go_sem]) rfl ⟨by rw [HQ.out], ?_⟩
      go_grown
    · have HQ : Hid (R = rres 0 0 ⟨#[]⟩ ⟨#[]⟩ 0 2) := hR
      clear hR
      go_wp2
      refine bodyPost_ret (v := rres 0 0 ⟨#[]⟩ ⟨#[]⟩ 0 2) (by simp [results, Tryd.results13, go_sem]) rfl ⟨by rw [HQ.out], ?_⟩
      go_grown
    · have HQ : Hid (R = rres V P ST DD (8 + N) 0) := hR
      clear hR
      go_wp2
      refine bodyPost_ret (v := rres V P ST DD (8 + N) 0) (by simp [results, Tryd.results13, go_sem]) rfl ⟨by rw [HQ.out], ?_⟩
      go_grown
end Go.Proofs.YtmmkbaaodebafaaDoor
