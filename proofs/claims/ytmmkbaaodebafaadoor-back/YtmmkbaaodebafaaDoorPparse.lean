import Derived.Test.YtmmkbaaodebafaaDoorJparse
import Derived.Test.YtmmkbaaodebafaaDoorByt
import Derived.Test.YtmmkbaaodebafaaDoorPay
namespace Go.Proofs.YtmmkbaaodebafaaDoor
open Go.RowKit Jr

/-- Only block g has turned. -/
structure Only (g : Nat) (w w' : World) : Prop where
  os : w'.os = w.os
  tape : w'.tape = w.tape
  output : w'.output = w.output
  size : w'.heap.size = w.heap.size
  block : ∀ k, k ≠ g → w'.heap[k]? = w.heap[k]?
theorem Only.refl (g : Nat) (w : World) : Only g w w := ⟨rfl, rfl, rfl, rfl, fun _ _ => rfl⟩
theorem Only.set {g : Nat} {w w' : World} (h : Only g w w') (i : Nat) (v : Value) : Only g w (w'.setCell ⟨g, i, none⟩ v) :=
  ⟨h.os, h.tape, h.output, by simpa [World.setCell] using h.size, fun k hk => (Below.heap_setCell w' ⟨g, i, none⟩ v k hk).trans (h.block k hk)⟩
theorem Only.below {g B : Nat} {w w' : World} (h : Only g w w') (hB : B ≤ g) : Below B w w' := ⟨h.os, h.tape, h.output, Nat.le_of_eq h.size.symm, fun k hk => h.block k (by omega)⟩
theorem Only.cell {g : Nat} {w w' : World} (h : Only g w w') {p : Addr} (hp : p.block ≠ g) : w'.cell? p = w.cell? p := World.cell?_of_block (w := w) (h.block p.block hp)
theorem Only.frozen {g : Nat} {w w' : World} (h : Only g w w') {p : Addr} (hp : p.block ≠ g) : w'.frozen? p = w.frozen? p := World.frozen?_of_block (w := w) (h.block p.block hp)

set_option maxHeartbeats 1000000 in
theorem pevent (v p : Int) (st d : ByteArray) (w : World) :
    Calls Tryd.prog 23 #[.agg (ev v p st d)] w fun e w' => e = .returned (.agg (pev st v p d)) ∧ Below w.heap.size w w' := by
  go_enter Tryd.func23, Tryd.ntmps23
  go_wp2
  refine bodyPost_ret (v := .agg (pev st v p d)) (by simp [results, Tryd.results23, go_sem]) rfl ⟨rfl, ?_⟩
  go_grown

abbrev pz : Array Value := #[.string ⟨#[]⟩, .int .i64 0, .int .i64 0, .string ⟨#[]⟩]
/-- The four cells of an answer, not yet written. -/
def PFour (W : World) (b : Nat) : Prop := (∀ i, i < 4 → W.frozen? ⟨b, i, none⟩ = false) ∧ W.cell? ⟨b, 0, none⟩ = some (.string ⟨#[]⟩) ∧ W.cell? ⟨b, 1, none⟩ = some (.int .i64 0) ∧ W.cell? ⟨b, 2, none⟩ = some (.int .i64 0) ∧ W.cell? ⟨b, 3, none⟩ = some (.string ⟨#[]⟩)
theorem PFour.on {W W' : World} {b B : Nat} (h : PFour W b) (hb : Below B W W') (hB : b < B) : PFour W' b :=
  ⟨fun i hi => (hb.frozen hB).trans (h.1 i hi), (hb.cell hB).trans h.2.1, (hb.cell hB).trans h.2.2.1, (hb.cell hB).trans h.2.2.2.1, (hb.cell hB).trans h.2.2.2.2⟩
theorem pfour_alloc (w : World) (t : TypeId) : PFour (w.alloc (.cells pz t)) w.heap.size := by
  refine ⟨fun i hi => by simp [go_sem], ?_, ?_, ?_, ?_⟩ <;> simp [World.cell?_alloc_at]

theorem bw_free (w : World) (s : ByteArray) (i : Nat) (hi : i < s.size) : (Lib.bytesWorld w 5 s).frozen? ⟨w.heap.size, i, none⟩ = false := by
  have h := Lib.bytesWorld_at_new w 5 s
  have hz : (Lib.bytesCells w 5 s).size = grownCap w s.size 0 5 := by
    have := grownCap_ge w s.size 0 5
    simp [Lib.bytesCells]; omega
  have hg := grownCap_ge w s.size 0 5
  simp [World.frozen?, h]; omega

abbrev ppres (r : PT) : Value := .tuple #[.agg (pev r.st r.v r.p r.d), .int .i64 r.n, .int .i64 r.ver]
set_option maxRecDepth 10000 in
set_option maxHeartbeats 4000000 in
theorem pparse (a : Nat → Addr) (s : ByteArray) (w : World) (hs : Sen 3 w a) (hsz : s.size ≤ 4294967296) :
    Calls Tryd.prog 12 #[.string s] w fun e w' => e = .returned (ppres (parseV (byt s) s.size)) ∧ Below w.heap.size w w' := by
  have kc := fun w => bw_conv w s
  obtain ⟨r, hr⟩ : ∃ r, parseV (byt s) s.size = r := ⟨_, rfl⟩
  have HRr : Hid (parseV (byt s) s.size = r) := hr
  rw [hr]
  clear hr
  have hb1 : Below w.heap.size w (w.alloc (.cells pz 29)) := (Below.refl _ _).alloc (Nat.le_refl _) _
  have hb2 : Below (w.alloc (.cells pz 29)).heap.size (w.alloc (.cells pz 29)) (Lib.bytesWorld (w.alloc (.cells pz 29)) 5 s) := Joins.below_bytesWorld _ _ _ _ (Nat.le_refl _)
  have hz1 : (w.alloc (.cells pz 29)).heap.size = w.heap.size + 1 := by simp
  have hz2 : (Lib.bytesWorld (w.alloc (.cells pz 29)) 5 s).heap.size = w.heap.size + 2 := by rw [Lib.bytesWorld_size]; simp
  have hB2 : Below w.heap.size w (Lib.bytesWorld (w.alloc (.cells pz 29)) 5 s) := hb1.trans (hb2.mono (by omega))
  have F2 : PFour (Lib.bytesWorld (w.alloc (.cells pz 29)) 5 s) w.heap.size := (pfour_alloc w 29).on hb2 (by omega)
  have S2 : Sen 3 (Lib.bytesWorld (w.alloc (.cells pz 29)) 5 s) a := hs.on hB2 (Nat.le_refl _)
  have cB := bw_cell (w.alloc (.cells pz 29)) s
  have fB := bw_free (w.alloc (.cells pz 29)) s
  rw [hz1] at cB fB
  have hcap := grownCap_ge (w.alloc (.cells pz 29)) s.size 0 5
  have hcapm := grownCap_le_maxLen (w.alloc (.cells pz 29)) s.size 0 5 (by unfold maxLen; omega)
  unfold maxLen at hcapm
  clear hb1 hb2 hs
  have CB : Hid (∀ i, i < s.size → (Lib.bytesWorld (w.alloc (.cells pz 29)) 5 s).cell? ⟨w.heap.size + 1, 0 + i, none⟩ = some (.int .u8 (byt s i : Nat))) := cB
  have FB : Hid (∀ i, i < s.size → (Lib.bytesWorld (w.alloc (.cells pz 29)) 5 s).frozen? ⟨w.heap.size + 1, i, none⟩ = false) := fB
  have HZ2 : Hid ((Lib.bytesWorld (w.alloc (.cells pz 29)) 5 s).heap.size = w.heap.size + 2) := hz2
  clear cB fB hz1 hz2
  go_enter Tryd.func12, Tryd.ntmps12
  go_upto_region 2 with fail
  obtain ⟨cap, hcapd⟩ : ∃ cap, grownCap (w.alloc (.cells pz 29)) s.size 0 5 = cap := ⟨_, rfl⟩
  rw [hcapd] at hcap hcapm ⊢
  obtain ⟨W2, hW2⟩ : ∃ W2, W2 = Lib.bytesWorld (w.alloc (.cells pz 29)) 5 s := ⟨_, rfl⟩
  rw [← hW2] at hB2 F2 S2 CB FB HZ2 ⊢
  clear hcapd hW2
  go_upto_region 3 with (go_at_call 22; refine (jparse a (w.heap.size + 1) 0 s.size cap (byt s) W2 S2 (by omega) hcap hcapm (fun i _ => byt_lt s i) CB.out (by rw [HZ2.out]; omega)).mono ?_; rw [HRr.out]; rintro e W3 ⟨rfl, hb3⟩)
  have hz3 : w.heap.size + 2 ≤ W3.heap.size := by rw [← HZ2.out]; exact hb3.size
  have hb4 : Below W3.heap.size W3 (W3.alloc (.cells (ev r.v r.p r.st r.d) 56)) := (Below.refl _ _).alloc (Nat.le_refl _) _
  have X4 : Hid (Box (W3.alloc (.cells (ev r.v r.p r.st r.d) 56)) W3.heap.size r.v r.p r.st r.d) := box_alloc W3 r.v r.p r.st r.d 56
  have hb24 := hb3.trans (hb4.mono (by rw [HZ2.out]; omega))
  rw [HZ2.out] at hb24
  have F4 : Hid (PFour (W3.alloc (.cells (ev r.v r.p r.st r.d) 56)) w.heap.size) := F2.on hb24 (by omega)
  have B4 : Hid (Below w.heap.size w (W3.alloc (.cells (ev r.v r.p r.st r.d) 56))) := hB2.trans (hb24.mono (by omega))
  have E4 : Hid (∀ i, i < s.size → ∃ x, (W3.alloc (.cells (ev r.v r.p r.st r.d) 56)).cell? ⟨w.heap.size + 1, i, none⟩ = some (.int .u8 x)) := fun i hi => ⟨_, by rw [hb24.cell (p := ⟨w.heap.size + 1, i, none⟩) (by show w.heap.size + 1 < _; omega)]; have := CB.out i hi; rw [Nat.zero_add] at this; exact this⟩
  have G4 : Hid (∀ i, i < s.size → (W3.alloc (.cells (ev r.v r.p r.st r.d) 56)).frozen? ⟨w.heap.size + 1, i, none⟩ = false) := fun i hi => by rw [hb24.frozen (p := ⟨w.heap.size + 1, i, none⟩) (by show w.heap.size + 1 < _; omega)]; exact FB.out i hi
  obtain ⟨W4, hW4⟩ : ∃ W4, W4 = W3.alloc (.cells (ev r.v r.p r.st r.d) 56) := ⟨_, rfl⟩
  rw [← hW4] at X4 F4 B4 E4 G4 ⊢
  clear hW4 hb4 hb24 hb3 hB2 F2 S2 CB FB HZ2 kc
  go_wp2_with fail
  go_loopw [20] (fun i wr => ∃ k : Nat, k ≤ s.size ∧ i = .int .i64 k ∧ Only (w.heap.size + 1) W4 wr ∧ (∀ j, j < s.size → ∃ x, wr.cell? ⟨w.heap.size + 1, j, none⟩ = some (.int .u8 x)) ∧ (∀ j, j < s.size → wr.frozen? ⟨w.heap.size + 1, j, none⟩ = false)) (fun i _ => s.size - (intOf i).toNat)
  case atStart => exact ⟨0, Nat.zero_le _, rfl, Only.refl _ _, E4.out, G4.out⟩
  case round =>
    obtain ⟨k, hk, rfl, honly, hE, hG⟩ := hrel
    by_cases hlt : k < s.size
    · obtain ⟨x, hx⟩ := hE k hlt
      have hg := hG k hlt
      have HO : Hid (Only (w.heap.size + 1) W4 wr) := honly
      have HE : Hid (∀ j, j < s.size → ∃ x, wr.cell? ⟨w.heap.size + 1, j, none⟩ = some (.int .u8 x)) := hE
      have HG : Hid (∀ j, j < s.size → wr.frozen? ⟨w.heap.size + 1, j, none⟩ = false) := hG
      clear honly hE hG
      go_wp2
      go_roundw
      case rel =>
        refine ⟨k + 1, by omega, by go_num, HO.out.set _ _, fun j hj => ?_, fun j hj => ?_⟩
        · by_cases e : j = k
          · subst e; exact ⟨_, World.cell?_setCell_same _ _ _ hx⟩
          · obtain ⟨x', hx'⟩ := HE.out j hj
            exact ⟨x', by rw [World.cell?_setCell_other _ _ _ _ (fun h => e (by injection h with _ h2 _; exact h2.symm))]; exact hx'⟩
        · rw [World.frozen?_setCell]; exact HG.out j hj
      case measure => simp [intOf]; omega
    · obtain ⟨y0, y1, y2, y3⟩ := X4.out
      have z0 := (honly.cell (p := ⟨W3.heap.size, 0, none⟩) (by show W3.heap.size ≠ _; omega)).trans y0
      have z1 := (honly.cell (p := ⟨W3.heap.size, 1, none⟩) (by show W3.heap.size ≠ _; omega)).trans y1
      have z2 := (honly.cell (p := ⟨W3.heap.size, 2, none⟩) (by show W3.heap.size ≠ _; omega)).trans y2
      have z3 := (honly.cell (p := ⟨W3.heap.size, 3, none⟩) (by show W3.heap.size ≠ _; omega)).trans y3
      have F5 : Hid (PFour wr w.heap.size) := F4.out.on (honly.below (B := w.heap.size + 1) (Nat.le_refl _)) (by omega)
      have B5 : Hid (Below w.heap.size w wr) := B4.out.trans (honly.below (by omega))
      have hz5 : w.heap.size < wr.heap.size := cell_lt F5.out.2.1
      clear honly hE hG y0 y1 y2 y3
      go_wp2_with (go_at_call 23; refine (pevent r.v r.p r.st r.d wr).mono ?_; rintro e W6 ⟨rfl, hb6⟩; obtain ⟨f, c0, c1, c2, c3⟩ := F5.out.on hb6 hz5; have f0 := f 0 (by omega); have f1 := f 1 (by omega); have f2 := f 2 (by omega); have f3 := f 3 (by omega); have B6 : Hid (Below w.heap.size w W6) := B5.out.trans (hb6.mono (by omega)); clear f hb6)
      refine bodyPost_ret (v := ppres r) (by simp [results, Tryd.results12, go_sem, c0, c1, c2, c3]) rfl ⟨rfl, ?_⟩
      exact (((B6.out.setCell (by simp) _).setCell (by simp) _).setCell (by simp) _).setCell (by simp) _
end Go.Proofs.YtmmkbaaodebafaaDoor
