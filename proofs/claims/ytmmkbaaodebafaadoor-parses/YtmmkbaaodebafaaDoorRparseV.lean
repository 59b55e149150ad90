import Derived.Test.YtmmkbaaodebafaaDoorRparse
namespace Go.Proofs.YtmmkbaaodebafaaDoor
open Go.RowKit Jr

abbrev rresV (r : PT) : Value := rres r.v r.p r.st r.d r.n r.ver
theorem sOf_size (l : List Nat) : (sOf l).size = l.length := by unfold sOf; rw [strOfNums_size]; simp
theorem rparse (b off len cap : Nat) (z : Nat → Nat) (w : World) (hlm : len ≤ 9000000000000000000) (hc : len ≤ cap) (hcm : cap ≤ 9223372036854775807) (hz : ∀ i, i < len → z i < 256)
    (hcell : ∀ i, i < len → w.cell? ⟨b, off + i, none⟩ = some (.int .u8 (z i : Nat))) (hb : b < w.heap.size) :
    Calls Tryd.prog 13 #[.slice (some ⟨b, off, none⟩) len cap] w fun e w' => e = .returned (rresV (parseV z len)) ∧ Below w.heap.size w w' := by
  by_cases hl : len < 8
  · have e : parseV z len = .short := by unfold parseV; rw [if_pos hl]
    rw [e]; exact rparse_short b off len cap w hl
  have hN := un_lt z 4 (fun i hi => hz i (by omega))
  have hT := un_lt (fun i => z (4 + i)) 4 (fun i hi => hz _ (by omega))
  have go : ∀ (C : Nat) (R : Value), (8 + un z 4 ≤ len → crc (seg z 8 (un z 4)) = C) → C < 4294967296 → _ → Calls Tryd.prog 13 #[.slice (some ⟨b, off, none⟩) len cap] w fun e w' => e = .returned R ∧ Below w.heap.size w w' := fun C R h1 h2 h3 =>
    rparse_rest b off len cap (un z 4) (un (fun i => z (4 + i)) 4) C (z 8) _ _ _ _ z R w (by omega) hlm hc hcm hz hcell hb rfl rfl h1 hN hT h2 rfl rfl rfl rfl rfl h3
  by_cases h1 : un z 4 < 18 ∨ 53 < un z 4
  · have e : parseV z len = .bad := by unfold parseV; rw [if_neg hl, if_pos h1]
    rw [e]
    exact go (if 8 + un z 4 ≤ len then crc (seg z 8 (un z 4)) else 0) _ (fun h => by rw [if_pos h])
      (by split
          · exact crc_lt _ (seg_lt hz (by omega))
          · omega) (Or.inl ⟨h1, rfl⟩)
  by_cases h2 : len < 8 + un z 4
  · have e : parseV z len = .short := by unfold parseV; rw [if_neg hl, if_neg h1, if_pos h2]
    rw [e]
    exact go 0 _ (fun h => by omega) (by omega) (Or.inr (Or.inl ⟨by omega, by omega, h2, rfl⟩))
  have hCl : crc (seg z 8 (un z 4)) < 4294967296 := crc_lt _ (seg_lt hz (by omega))
  by_cases h3 : un (fun i => z (4 + i)) 4 ≠ crc (seg z 8 (un z 4))
  · have e : parseV z len = .bad := by unfold parseV; rw [if_neg hl, if_neg h1, if_neg h2, if_pos h3]
    rw [e]
    exact go _ _ (fun _ => rfl) hCl (Or.inr (Or.inr (Or.inl ⟨by omega, by omega, by omega, Or.inl h3, rfl⟩)))
  have h3' : un (fun i => z (4 + i)) 4 = crc (seg z 8 (un z 4)) := by omega
  by_cases h4 : un z 4 < z 8 + 17
  · have e : parseV z len = .bad := by unfold parseV; rw [if_neg hl, if_neg h1, if_neg h2, if_neg h3, if_pos h4]
    rw [e]
    refine go _ _ (fun _ => rfl) hCl (Or.inr (Or.inr (Or.inl ⟨by omega, by omega, by omega, ?_, rfl⟩)))
    by_cases k0 : z 8 = 0
    · exact Or.inr (Or.inl ⟨h3', k0⟩)
    by_cases k12 : 12 < z 8
    · exact Or.inr (Or.inr (Or.inl ⟨h3', k0, k12⟩))
    · exact Or.inr (Or.inr (Or.inr (Or.inl ⟨h3', k0, by omega, h4⟩)))
  have hst : (payV (fun i => z (8 + i)) (un z 4)).st.size = z 8 := by show (sOf _).size = _; rw [sOf_size, seg_length]
  have hd : (payV (fun i => z (8 + i)) (un z 4)).d.size = un z 4 - (17 + z 8) := by show (sOf _).size = _; rw [sOf_size, seg_length]
  have bad : ∀ x : Nat, may (payV (fun i => z (8 + i)) (un z 4)).st (payV (fun i => z (8 + i)) (un z 4)).d (payV (fun i => z (8 + i)) (un z 4)).v (payV (fun i => z (8 + i)) (un z 4)).p = x + 1 → parseV z len = .bad := fun x hx => by
    unfold parseV; rw [if_neg hl, if_neg h1, if_neg h2, if_neg h3, if_neg h4, if_neg (by rw [hx]; omega)]
  rcases may_cases (payV (fun i => z (8 + i)) (un z 4)).st (payV (fun i => z (8 + i)) (un z 4)).d (payV (fun i => z (8 + i)) (un z 4)).v (payV (fun i => z (8 + i)) (un z 4)).p with ⟨g1, h'⟩ | ⟨g1, g2, h'⟩ | ⟨g1, g2, g3, h'⟩ | ⟨g1, g2, g3, g4, h'⟩ | ⟨g1, g2, g3, g4, g5, h'⟩ | ⟨g1, g2, g3, g4, g5, h'⟩
  · rw [bad 0 h']
    exact go _ _ (fun _ => rfl) hCl (Or.inr (Or.inr (Or.inl ⟨by omega, by omega, by omega, Or.inr (Or.inl ⟨h3', by omega⟩), rfl⟩)))
  · rw [bad 0 h']
    exact go _ _ (fun _ => rfl) hCl (Or.inr (Or.inr (Or.inl ⟨by omega, by omega, by omega, Or.inr (Or.inr (Or.inl ⟨h3', by omega, by omega⟩)), rfl⟩)))
  · rw [bad 1 h']
    exact go _ _ (fun _ => rfl) hCl (Or.inr (Or.inr (Or.inl ⟨by omega, by omega, by omega, Or.inr (Or.inr (Or.inr (Or.inr ⟨h3', by omega, by omega, by omega, by omega⟩))), rfl⟩)))
  · rw [bad 2 h']
    exact go _ _ (fun _ => rfl) hCl (Or.inr (Or.inr (Or.inr ⟨by omega, by omega, by omega, h3', by omega, by omega, by omega, by omega, Or.inl ⟨g4, rfl⟩⟩)))
  · rw [bad 2 h']
    exact go _ _ (fun _ => rfl) hCl (Or.inr (Or.inr (Or.inr ⟨by omega, by omega, by omega, h3', by omega, by omega, by omega, by omega, Or.inr (Or.inl ⟨Int.not_lt.1 g4, g5, rfl⟩)⟩)))
  · have e : parseV z len = payV (fun i => z (8 + i)) (un z 4) := by unfold parseV; rw [if_neg hl, if_neg h1, if_neg h2, if_neg h3, if_neg h4, if_pos h']
    rw [e]
    exact go _ _ (fun _ => rfl) hCl (Or.inr (Or.inr (Or.inr ⟨by omega, by omega, by omega, h3', by omega, by omega, by omega, by omega, Or.inr (Or.inr ⟨Int.not_lt.1 g4, Int.not_lt.1 g5, rfl⟩)⟩)))
end Go.Proofs.YtmmkbaaodebafaaDoor
