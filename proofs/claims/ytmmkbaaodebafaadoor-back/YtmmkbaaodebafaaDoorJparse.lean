import Derived.Test.YtmmkbaaodebafaaDoorPayParse
import Derived.Laws.ResultCell
import Derived.Stop.Asserts
namespace Go.Proofs.YtmmkbaaodebafaaDoor
open Go.RowKit Jr

abbrev pres (v p : Int) (st d : ByteArray) (n ver : Int) : Value := .tuple #[.agg (ev v p st d), .int .i64 n, .int .i64 ver]

/-- Four cells that can be written. -/
def Four (W : World) (b : Nat) : Prop := (∀ i, i < 4 → W.frozen? ⟨b, i, none⟩ = false) ∧ W.cell? ⟨b, 0, none⟩ = some (.int .i64 0) ∧ W.cell? ⟨b, 1, none⟩ = some (.int .i64 0) ∧ W.cell? ⟨b, 2, none⟩ = some (.string ⟨#[]⟩) ∧ W.cell? ⟨b, 3, none⟩ = some (.string ⟨#[]⟩)
theorem Four.on {W W' : World} {b B : Nat} (h : Four W b) (hb : Below B W W') (hB : b < B) : Four W' b :=
  ⟨fun i hi => (hb.frozen hB).trans (h.1 i hi), (hb.cell hB).trans h.2.1, (hb.cell hB).trans h.2.2.1, (hb.cell hB).trans h.2.2.2.1, (hb.cell hB).trans h.2.2.2.2⟩
theorem four_alloc (w : World) (t : TypeId) : Four (w.alloc (.cells zev t)) w.heap.size := by
  refine ⟨fun i hi => by simp [go_sem], ?_, ?_, ?_, ?_⟩ <;> simp [World.cell?_alloc_at]

set_option maxHeartbeats 2000000 in
theorem jparse_short (b off len cap : Nat) (w : World) (hl : len < 8) :
    Calls Tryd.prog 22 #[.slice (some ⟨b, off, none⟩) len cap] w fun e w' => e = .returned (pres 0 0 ⟨#[]⟩ ⟨#[]⟩ 0 1) ∧ Below w.heap.size w w' := by
  go_enter Tryd.func22, Tryd.ntmps22
  go_wp2
  refine bodyPost_ret (v := pres 0 0 ⟨#[]⟩ ⟨#[]⟩ 0 1) (by simp [results, Tryd.results22, go_sem]) rfl ⟨rfl, ?_⟩
  go_grown

/-- What stands at the beginning of some bytes. -/
structure PT where
  v : Int
  p : Int
  st : ByteArray
  d : ByteArray
  n : Nat
  ver : Nat
def PT.short : PT := ⟨0, 0, ⟨#[]⟩, ⟨#[]⟩, 0, 1⟩
def PT.bad : PT := ⟨0, 0, ⟨#[]⟩, ⟨#[]⟩, 0, 2⟩
/-- The payload that n bytes tell. -/
def payV (y : Nat → Nat) (n : Nat) : PT :=
  ⟨i64of (un (fun i => y (1 + y 0 + i)) 8), i64of (un (fun i => y (9 + y 0 + i)) 8), sOf (seg y 1 (y 0)), sOf (seg y (17 + y 0) (n - (17 + y 0))), 8 + n, 0⟩
def parseV (z : Nat → Nat) (len : Nat) : PT :=
  if len < 8 then .short
  else if un z 4 < 18 ∨ 53 < un z 4 then .bad
  else if len < 8 + un z 4 then .short
  else if un (fun i => z (4 + i)) 4 ≠ crc (seg z 8 (un z 4)) then .bad
  else if un z 4 < z 8 + 17 then .bad
  else if may (payV (fun i => z (8 + i)) (un z 4)).st (payV (fun i => z (8 + i)) (un z 4)).d (payV (fun i => z (8 + i)) (un z 4)).v (payV (fun i => z (8 + i)) (un z 4)).p = 0 then payV (fun i => z (8 + i)) (un z 4)
  else .bad
abbrev presV (r : PT) : Value := pres r.v r.p r.st r.d r.n r.ver

set_option maxRecDepth 10000 in
set_option maxHeartbeats 4000000 in
theorem jparse_rest (a : Nat → Addr) (b off len cap N T C : Nat) (z : Nat → Nat) (R : Value) (w : World) (hs : Sen 3 w a) (hl : 8 ≤ len) (hlm : len ≤ 9000000000000000000) (hc : len ≤ cap) (hcm : cap ≤ 9223372036854775807) (hz : ∀ i, i < len → z i < 256)
    (hcell : ∀ i, i < len → w.cell? ⟨b, off + i, none⟩ = some (.int .u8 (z i : Nat))) (hb : b < w.heap.size)
    (HN : Hid (un z 4 = N)) (HT : Hid (un (fun i => z (4 + i)) 4 = T)) (HC : Hid (8 + N ≤ len → crc (seg z 8 N) = C)) (hN : N < 4294967296) (_hT : T < 4294967296) (hC : C < 4294967296)
    (HR : Hid (((N < 18 ∨ 53 < N) ∧ R = pres 0 0 ⟨#[]⟩ ⟨#[]⟩ 0 2) ∨ (18 ≤ N ∧ N ≤ 53 ∧ len < 8 + N ∧ R = pres 0 0 ⟨#[]⟩ ⟨#[]⟩ 0 1) ∨ (18 ≤ N ∧ N ≤ 53 ∧ 8 + N ≤ len ∧ T ≠ C ∧ R = pres 0 0 ⟨#[]⟩ ⟨#[]⟩ 0 2) ∨
      (18 ≤ N ∧ N ≤ 53 ∧ 8 + N ≤ len ∧ T = C ∧ ∃ (R' : Value), (∀ W : World, Sen 3 W a → b < W.heap.size → (∀ i, i < N → W.cell? ⟨b, off + 8 + i, none⟩ = some (.int .u8 (z (8 + i) : Nat))) → Calls Tryd.prog 32 #[.slice (some ⟨b, off + 8, none⟩) N (cap - 8)] W fun e w' => e = .returned R' ∧ Below W.heap.size W w') ∧
        ((∃ V P ST DD, R' = .tuple #[.agg (ev V P ST DD), .bool true] ∧ R = pres V P ST DD (8 + N) 0) ∨ (R' = .tuple #[.agg zev, .bool false] ∧ R = pres 0 0 ⟨#[]⟩ ⟨#[]⟩ 0 2))))) :
    Calls Tryd.prog 22 #[.slice (some ⟨b, off, none⟩) len cap] w fun e w' => e = .returned R ∧ Below w.heap.size w w' := by
  have hb1 : Below w.heap.size w (w.alloc (.cells zev 56)) := (Below.refl _ _).alloc (Nat.le_refl _) _
  have C1 : Hid (∀ i, i < len → (w.alloc (.cells zev 56)).cell? ⟨b, off + i, none⟩ = some (.int .u8 (z i : Nat))) := fun i hi => (hb1.cell (p := ⟨b, off + i, none⟩) hb).trans (hcell i hi)
  have S1 : Hid (Sen 3 (w.alloc (.cells zev 56)) a) := hs.on hb1 (Nat.le_refl _)
  have H2 : Hid (∀ i, i < len → z i < 256) := hz
  have n0 : ¬ cap = 0 := by omega
  have l4 : (4 : Int) ≤ cap := by omega
  have l8 : (8 : Int) ≤ cap := by omega
  have n4 : ¬ cap = 4 := by omega
  have wN : IntKind.i64.wrap (N : Int) = N := by rw [IntKind.wrap_i64]; omega
  have wC : IntKind.u64.wrap (C : Int) = C := by rw [IntKind.wrap_u64]; omega
  clear hs hcell hz hb1
  go_enter Tryd.func22, Tryd.ntmps22
  go_upto_region 4 with (go_at_call 30; refine (jnumber b off 4 cap z _ (by omega) (fun i hi => H2.out i (by omega)) (fun i hi => C1.out i (by omega))).mono ?_; rw [HN.out]; rintro e w' ⟨rfl, rfl⟩)
  rcases HR.out with ⟨h1, hR⟩ | ⟨h1, h2, h3, hR⟩ | ⟨h1, h2, h3, h4, hR⟩ | ⟨h1, h2, h3, h4, R', hcal, hR⟩
  · have HQ : Hid (R = pres 0 0 ⟨#[]⟩ ⟨#[]⟩ 0 2) := hR
    clear hR
    rcases h1 with h1 | h1
    all_goals
      go_wp2
      refine bodyPost_ret (v := pres 0 0 ⟨#[]⟩ ⟨#[]⟩ 0 2) (by simp [results, Tryd.results22, go_sem]) rfl ⟨by rw [HQ.out], ?_⟩
      go_grown
  · have HQ : Hid (R = pres 0 0 ⟨#[]⟩ ⟨#[]⟩ 0 1) := hR
    clear hR
    go_wp2
    refine bodyPost_ret (v := pres 0 0 ⟨#[]⟩ ⟨#[]⟩ 0 1) (by simp [results, Tryd.results22, go_sem]) rfl ⟨by rw [HQ.out], ?_⟩
    go_grown
  all_goals
    have t8 : (8 + (N : Int)).toNat = 8 + N := by omega
    have p8 : (0 : Int) ≤ 8 + (N : Int) := by omega
    have q8 : (8 : Int) ≤ 8 + (N : Int) := by omega
    have m8 : 8 + (N : Int) ≤ cap := by omega
    have n8 : ¬ cap = 8 := by omega
    have d8 : 8 + N - 8 = N := by omega
  · have HQ : Hid (R = pres 0 0 ⟨#[]⟩ ⟨#[]⟩ 0 2) := hR
    have hTC : ((T : Int) != (C : Int)) = true := by simp; omega
    clear hR
    go_wp2_with (first
      | (go_at_call 30; refine (jnumber b (off + 4) 4 (cap - 4) (fun i => z (4 + i)) _ (by omega) (fun i hi => H2.out _ (by omega)) (fun i hi => by rw [Nat.add_assoc]; exact C1.out _ (by omega))).mono ?_; rw [HT.out]; rintro e w' ⟨rfl, rfl⟩)
      | (go_at_call 31; refine (jsum_cells b (off + 8) N (cap - 8) (seg z 8 N) _ (seg_length _ _ _) (by unfold maxLen; omega) (fun x hx => by obtain ⟨i, hi, rfl⟩ := List.mem_map.1 hx; exact H2.out _ (by have := List.mem_range.1 hi; omega)) (fun i hi => by rw [Nat.add_assoc, seg_get _ _ _ _ hi]; exact C1.out _ (by omega))).mono ?_; rw [HC.out h3]; rintro e w' ⟨rfl, rfl⟩))
    refine bodyPost_ret (v := pres 0 0 ⟨#[]⟩ ⟨#[]⟩ 0 2) (by simp [results, Tryd.results22, go_sem]) rfl ⟨by rw [HQ.out], ?_⟩
    go_grown
  · subst h4
    have HQ := (show Hid ((∃ V P ST DD, R' = .tuple #[.agg (ev V P ST DD), .bool true] ∧ R = pres V P ST DD (8 + N) 0) ∨ (R' = .tuple #[.agg zev, .bool false] ∧ R = pres 0 0 ⟨#[]⟩ ⟨#[]⟩ 0 2)) from hR)
    have HK : Hid (Calls Tryd.prog 32 #[.slice (some ⟨b, off + 8, none⟩) N (cap - 8)] (w.alloc (.cells zev 56)) fun e w' => e = .returned R' ∧ Below (w.alloc (.cells zev 56)).heap.size (w.alloc (.cells zev 56)) w') := hcal _ S1.out (by simp; omega) (fun i hi => by rw [Nat.add_assoc]; exact C1.out _ (by omega))
    clear hR hcal
    go_upto_region 12 with (first
      | (go_at_call 30; refine (jnumber b (off + 4) 4 (cap - 4) (fun i => z (4 + i)) _ (by omega) (fun i hi => H2.out _ (by omega)) (fun i hi => by rw [Nat.add_assoc]; exact C1.out _ (by omega))).mono ?_; rw [HT.out]; rintro e w' ⟨rfl, rfl⟩)
      | (go_at_call 31; refine (jsum_cells b (off + 8) N (cap - 8) (seg z 8 N) _ (seg_length _ _ _) (by unfold maxLen; omega) (fun x hx => by obtain ⟨i, hi, rfl⟩ := List.mem_map.1 hx; exact H2.out _ (by have := List.mem_range.1 hi; omega)) (fun i hi => by rw [Nat.add_assoc, seg_get _ _ _ _ hi]; exact C1.out _ (by omega))).mono ?_; rw [HC.out h3]; rintro e w' ⟨rfl, rfl⟩))
    have hz1 : w.heap.size + 1 ≤ (w.alloc (.cells zev 56)).heap.size := by simp
    have F1 : Hid (Four (w.alloc (.cells zev 56)) w.heap.size) := four_alloc w 56
    have B1 : Hid (Below w.heap.size w (w.alloc (.cells zev 56))) := (Below.refl _ _).alloc (Nat.le_refl _) _
    rcases HQ.out with ⟨V, P, ST, DD, hR', hR⟩ | ⟨hR', hR⟩
    · rw [hR'] at HK
      have HQ2 : Hid (R = pres V P ST DD (8 + N) 0) := hR
      clear hR hR' HQ
      go_wp2_with (go_at_call 32; refine (HK.out).mono ?_; rintro e W2 ⟨rfl, hb2⟩; obtain ⟨f, c0, c1, c2, c3⟩ := F1.out.on hb2 (by omega); have f0 := f 0 (by omega); have f1 := f 1 (by omega); have f2 := f 2 (by omega); have f3 := f 3 (by omega); have hz2 : w.heap.size < W2.heap.size := Nat.lt_of_lt_of_le (by omega) hb2.size; have B2 : Hid (Below w.heap.size w W2) := B1.out.trans (hb2.mono (by omega)); clear f hb2)
      refine bodyPost_ret (v := pres V P ST DD (8 + N) 0) (by simp [results, Tryd.results22, go_sem, c0, c1, c2, c3, hz2]) rfl ⟨by rw [HQ2.out], ?_⟩
      exact ((((B2.out.setCell (by simp) _).setCell (by simp) _).setCell (by simp) _).setCell (by simp) _).alloc (by simpa [World.setCell] using Nat.le_of_lt hz2) _
    · rw [hR'] at HK
      have HQ2 : Hid (R = pres 0 0 ⟨#[]⟩ ⟨#[]⟩ 0 2) := hR
      clear hR hR' HQ
      go_wp2_with (go_at_call 32; refine (HK.out).mono ?_; rintro e W2 ⟨rfl, hb2⟩; obtain ⟨f, c0, c1, c2, c3⟩ := F1.out.on hb2 (by omega); have f0 := f 0 (by omega); have f1 := f 1 (by omega); have f2 := f 2 (by omega); have f3 := f 3 (by omega); have hz2 : w.heap.size < W2.heap.size := Nat.lt_of_lt_of_le (by omega) hb2.size; have B2 : Hid (Below w.heap.size w W2) := B1.out.trans (hb2.mono (by omega)); clear f hb2)
      refine bodyPost_ret (v := pres 0 0 ⟨#[]⟩ ⟨#[]⟩ 0 2) (by simp [results, Tryd.results22, go_sem, c0, c1, c2, c3, hz2]) rfl ⟨by rw [HQ2.out], ?_⟩
      exact ((((B2.out.setCell (by simp) _).setCell (by simp) _).setCell (by simp) _).setCell (by simp) _).alloc (by simpa [World.setCell] using Nat.le_of_lt hz2) _

theorem seg_lt {z : Nat → Nat} {at0 n len : Nat} (hz : ∀ i, i < len → z i < 256) (h : at0 + n ≤ len) : ∀ x ∈ seg z at0 n, x < 256 := fun x hx => by
  obtain ⟨i, hi, rfl⟩ := List.mem_map.1 hx
  exact hz _ (by have := List.mem_range.1 hi; omega)
theorem jparse (a : Nat → Addr) (b off len cap : Nat) (z : Nat → Nat) (w : World) (hs : Sen 3 w a) (hlm : len ≤ 9000000000000000000) (hc : len ≤ cap) (hcm : cap ≤ 9223372036854775807) (hz : ∀ i, i < len → z i < 256)
    (hcell : ∀ i, i < len → w.cell? ⟨b, off + i, none⟩ = some (.int .u8 (z i : Nat))) (hb : b < w.heap.size) :
    Calls Tryd.prog 22 #[.slice (some ⟨b, off, none⟩) len cap] w fun e w' => e = .returned (presV (parseV z len)) ∧ Below w.heap.size w w' := by
  by_cases hl : len < 8
  · have e : parseV z len = .short := by unfold parseV; rw [if_pos hl]
    rw [e]; exact jparse_short b off len cap w hl
  have hN := un_lt z 4 (fun i hi => hz i (by omega))
  have hT := un_lt (fun i => z (4 + i)) 4 (fun i hi => hz _ (by omega))
  by_cases h1 : un z 4 < 18 ∨ 53 < un z 4
  · have e : parseV z len = .bad := by unfold parseV; rw [if_neg hl, if_pos h1]
    rw [e]
    exact jparse_rest a b off len cap (un z 4) (un (fun i => z (4 + i)) 4) (if 8 + un z 4 ≤ len then crc (seg z 8 (un z 4)) else 0) z _ w hs (by omega) hlm hc hcm hz hcell hb rfl rfl (fun h => by rw [if_pos h]) hN hT
      (by split
          · exact crc_lt _ (seg_lt hz (by omega))
          · omega) (Or.inl ⟨h1, rfl⟩)
  by_cases h2 : len < 8 + un z 4
  · have e : parseV z len = .short := by unfold parseV; rw [if_neg hl, if_neg h1, if_pos h2]
    rw [e]
    exact jparse_rest a b off len cap (un z 4) (un (fun i => z (4 + i)) 4) 0 z _ w hs (by omega) hlm hc hcm hz hcell hb rfl rfl (fun h => by omega) hN hT (by omega) (Or.inr (Or.inl ⟨by omega, by omega, h2, rfl⟩))
  have hCl : crc (seg z 8 (un z 4)) < 4294967296 := crc_lt _ (seg_lt hz (by omega))
  by_cases h3 : un (fun i => z (4 + i)) 4 ≠ crc (seg z 8 (un z 4))
  · have e : parseV z len = .bad := by unfold parseV; rw [if_neg hl, if_neg h1, if_neg h2, if_pos h3]
    rw [e]
    exact jparse_rest a b off len cap (un z 4) (un (fun i => z (4 + i)) 4) _ z _ w hs (by omega) hlm hc hcm hz hcell hb rfl rfl (fun _ => rfl) hN hT hCl (Or.inr (Or.inr (Or.inl ⟨by omega, by omega, by omega, h3, rfl⟩)))
  by_cases h4 : un z 4 < z 8 + 17
  · have e : parseV z len = .bad := by unfold parseV; rw [if_neg hl, if_neg h1, if_neg h2, if_neg h3, if_pos h4]
    rw [e]
    exact jparse_rest a b off len cap (un z 4) (un (fun i => z (4 + i)) 4) _ z _ w hs (by omega) hlm hc hcm hz hcell hb rfl rfl (fun _ => rfl) hN hT hCl
      (Or.inr (Or.inr (Or.inr ⟨by omega, by omega, by omega, by omega, _, fun W _ hbW hcW => jpp_short b (off + 8) (un z 4) (cap - 8) (z 8) (fun i => z (8 + i)) W (by omega) (by omega) rfl (hz 8 (by omega)) (hcW 0 (by omega)) h4 hbW, Or.inr ⟨rfl, rfl⟩⟩)))
  have hgo : ∀ R R' : Value, ((may (payV (fun i => z (8 + i)) (un z 4)).st (payV (fun i => z (8 + i)) (un z 4)).d (payV (fun i => z (8 + i)) (un z 4)).v (payV (fun i => z (8 + i)) (un z 4)).p = 0 ∧ R' = .tuple #[.agg (ev (payV (fun i => z (8 + i)) (un z 4)).v (payV (fun i => z (8 + i)) (un z 4)).p (payV (fun i => z (8 + i)) (un z 4)).st (payV (fun i => z (8 + i)) (un z 4)).d), .bool true]) ∨
      (¬ may (payV (fun i => z (8 + i)) (un z 4)).st (payV (fun i => z (8 + i)) (un z 4)).d (payV (fun i => z (8 + i)) (un z 4)).v (payV (fun i => z (8 + i)) (un z 4)).p = 0 ∧ R' = .tuple #[.agg zev, .bool false])) →
      ((∃ V P ST DD, R' = .tuple #[.agg (ev V P ST DD), .bool true] ∧ R = pres V P ST DD (8 + (un z 4 : Nat)) 0) ∨ (R' = .tuple #[.agg zev, .bool false] ∧ R = pres 0 0 ⟨#[]⟩ ⟨#[]⟩ 0 2)) →
      Calls Tryd.prog 22 #[.slice (some ⟨b, off, none⟩) len cap] w fun e w' => e = .returned R ∧ Below w.heap.size w w' := fun R R' hR' hR =>
    jparse_rest a b off len cap (un z 4) (un (fun i => z (4 + i)) 4) _ z R w hs (by omega) hlm hc hcm hz hcell hb rfl rfl (fun _ => rfl) hN hT hCl
      (Or.inr (Or.inr (Or.inr ⟨by omega, by omega, by omega, by omega, R', fun W hsW hbW hcW => jpp_walk a b (off + 8) (un z 4) (cap - 8) (z 8) _ _ _ _ R' (fun i => z (8 + i)) W hsW (by omega) (by omega) (by omega) (by omega) rfl (fun i hi => hz _ (by omega)) hcW (by omega) hbW rfl rfl rfl rfl hR', hR⟩)))
  by_cases h5 : may (payV (fun i => z (8 + i)) (un z 4)).st (payV (fun i => z (8 + i)) (un z 4)).d (payV (fun i => z (8 + i)) (un z 4)).v (payV (fun i => z (8 + i)) (un z 4)).p = 0
  · have e : parseV z len = payV (fun i => z (8 + i)) (un z 4) := by unfold parseV; rw [if_neg hl, if_neg h1, if_neg h2, if_neg h3, if_neg h4, if_pos h5]
    rw [e]
    exact hgo _ _ (Or.inl ⟨h5, rfl⟩) (Or.inl ⟨_, _, _, _, rfl, rfl⟩)
  · have e : parseV z len = .bad := by unfold parseV; rw [if_neg hl, if_neg h1, if_neg h2, if_neg h3, if_neg h4, if_neg h5]
    rw [e]
    exact hgo _ _ (Or.inr ⟨h5, rfl⟩) (Or.inr ⟨rfl, rfl⟩)
end Go.Proofs.YtmmkbaaodebafaaDoor
