import Derived.Test.YtploagfjajlloaaGreatDoorFilA
import Derived.Test.YtploagfjajlloaaGreatDoorAppNum
import Derived.Test.YtploagfjajlloaaGreatDoorEvA
import Derived.Lib.SlBytesConst
namespace Go.Proofs.YtploagfjajlloaaGreatDoor
open Go.RowKit Jr

abbrev mk4 : List Nat := [74, 76, 49, 10]
theorem own_mk4 (w : World) : Own (w.alloc (.cells #[.int .u8 74, .int .u8 76, .int .u8 49, .int .u8 10] 5 (4, 5))) w.heap.size w.heap.size 4 mk4 :=
  own_alloc w mk4 _ 4 (4, 5) (Or.inr rfl) (by simp) (by simp) (fun i hi => by
    match i, hi with
    | 0, _ | 1, _ | 2, _ | 3, _ => rfl)
theorem hd12_lt (b : Nat) : ∀ x ∈ hd12 b, x < 256 := by
  intro x hx
  simp only [hd12, List.mem_append] at hx
  rcases hx with hx | hx
  · simp at hx; omega
  · exact digs_lt _ _ _ hx
theorem hd12_length (b : Nat) : (hd12 b).length = 12 := by simp [hd12, digs_length]

set_option maxRecDepth 10000 in
set_option maxHeartbeats 2000000 in
theorem rhead (b : Nat) (w : World) (hb : b < 9223372036854775808) :
    Calls Tryz.prog 39 #[.int .i64 b] w fun e w' => ∃ g cap, e = .returned (.slice (some ⟨g, 0, none⟩) 16 cap) ∧ Own w' w.heap.size g cap (hdL b) ∧ Below w.heap.size w w' := by
  have O1 : Hid (Own (w.alloc (.cells #[.int .u8 74, .int .u8 76, .int .u8 49, .int .u8 10] 5 (4, 5))) w.heap.size w.heap.size 4 mk4) := own_mk4 w
  have B1 : Hid (Below w.heap.size w (w.alloc (.cells #[.int .u8 74, .int .u8 76, .int .u8 49, .int .u8 10] 5 (4, 5)))) := (Below.refl _ _).alloc (Nat.le_refl _) _
  have z1 : w.heap.size < (w.alloc (.cells #[.int .u8 74, .int .u8 76, .int .u8 49, .int .u8 10] 5 (4, 5))).heap.size := by simp
  have wb : IntKind.u64.wrap (b : Int) = (b : Nat) := by rw [IntKind.wrap_u64]; omega
  have kid := Lib.run_convert_bytes_const (P := Tryz.prog) w 59 5 #[.int .u8 74, .int .u8 76, .int .u8 49, .int .u8 10] 4 4 Tryz.underlying59 Tryz.underlying5
  go_enter Tryz.func39, Tryz.ntmps39
  go_upto_region 2 with fail
  obtain ⟨W1, hW1⟩ : ∃ W, W = w.alloc (.cells #[.int .u8 74, .int .u8 76, .int .u8 49, .int .u8 10] 5 (4, 5)) := ⟨_, rfl⟩
  rw [← hW1] at O1 B1 z1 ⊢
  clear hW1
  go_upto_region 3 with (go_at_call 68; refine (rnumber8 b W1 (by omega)).mono ?_; rintro e W2 ⟨g2, c2, rfl, ho2, hb2⟩)
  have O2 : Hid (Own W2 w.heap.size w.heap.size 4 mk4) := O1.out.on hb2 z1
  have B2 : Hid (Below w.heap.size w W2) := B1.out.trans (hb2.mono B1.out.size)
  have hsrc := src_own ho2
  rw [digs_length] at hsrc
  obtain ⟨g3, c3, W3, HR, HO3, HB3⟩ := app_own' (n := 4) (m := 8) (k := 12) O2.out rfl (digs_length b 8) rfl B2.out.size (by rw [digs_length]; exact hsrc) (by omega)
  clear hsrc ho2 hb2 O1 B1 z1
  go_upto_region 4 with (at_builtin; refine wpList_app rfl _ _ _ _ rfl rfl rfl HR.out ?_)
  have B3 : Hid (Below w.heap.size w W3) := B2.out.trans HB3.out
  have O3 : Hid (Own W3 w.heap.size g3 c3 (hd12 b)) := HO3.out
  clear HR HO3 HB3 B2 O2
  obtain ⟨C, hC⟩ : ∃ C, crc (hd12 b) = C := ⟨_, rfl⟩
  have hcl : C < 4294967296 := by rw [← hC]; exact crc_lt _ (hd12_lt b)
  have HC : Hid (crc (hd12 b) = C) := hC
  clear hC
  have wC : IntKind.u64.wrap (C : Int) = (C : Nat) := by rw [IntKind.wrap_u64]; omega
  go_upto_region 5 with (go_at_call 41; refine (rsum_cells g3 0 12 c3 (hd12 b) W3 (hd12_length b) (by unfold maxLen; omega) (hd12_lt b) (fun i hi => by rw [Nat.zero_add]; exact O3.out.cell i (by rw [hd12_length]; exact hi))).mono ?_; rw [HC.out]; rintro e w' ⟨rfl, hw⟩; rw [hw]; clear hw)
  go_upto_region 6 with (go_at_call 68; refine (rnumber4 C W3 (by omega)).mono ?_; rintro e W4 ⟨g4, c4, rfl, ho4, hb4⟩)
  have O4 : Hid (Own W4 w.heap.size g3 c3 (hd12 b)) := O3.out.on hb4 O3.out.lt
  have B4 : Hid (Below w.heap.size w W4) := B3.out.trans (hb4.mono B3.out.size)
  have hsrc := src_own ho4
  rw [digs_length] at hsrc
  obtain ⟨g5, c5, W5, HR, HO5, HB5⟩ := app_own' (n := 12) (m := 4) (k := 16) O4.out (hd12_length b) (digs_length C 4) rfl B4.out.size (by rw [digs_length]; exact hsrc) (by omega)
  clear hsrc ho4 hb4 O3 B3
  go_wp2_with (at_builtin; refine wpList_app rfl _ _ _ _ rfl rfl rfl HR.out ?_)
  go_ret
  refine ⟨g5, c5, rfl, ?_, B4.out.trans HB5.out⟩
  have := HO5.out
  rw [← HC.out] at this
  exact this

theorem Own.of_heap {w w' : World} {B g cap : Nat} {l : List Nat} (h : Own w B g cap l) (hh : w'.heap = w.heap) : Own w' B g cap l :=
  ⟨h.base, by rw [hh]; exact h.lt, h.le, fun i hi => (World.cell?_of_block (by rw [hh])).trans (h.cell i hi), fun i h1 h2 => by rw [World.cell?_of_block (w := w) (w' := w') (by rw [hh])]; exact h.rest i h1 h2, fun i hi => (World.frozen?_of_block (by rw [hh])).trans (h.free i hi)⟩
/-- Sixteen bytes as a text. -/
theorem hd_str (c : ByteArray) (b : Nat) (hc : 16 ≤ c.size) : (sOf (hdL b) = c.extract 0 16) ↔ ∀ i, i < 16 → byt c i = (hdL b).getD i 0 := by
  have hlt : ∀ x ∈ hdL b, x < 256 := by
    intro x hx
    simp only [hdL, List.mem_append] at hx
    rcases hx with hx | hx
    · exact hd12_lt b x hx
    · exact digs_lt _ _ _ hx
  constructor
  · intro h i hi
    have h1 := byt_sOf hlt i (by rw [hdL_length]; exact hi)
    have h2 : byt (sOf (hdL b)) i = (hdL b).getD i 0 := h1
    rw [← h2, h, byt_extract c 16 i hc hi]
  · intro h
    have key : ∀ s t : ByteArray, s.size = t.size → (∀ i, i < s.size → byt s i = byt t i) → s = t := fun s t h1 h2 => by
      apply ByteArray.ext
      apply Array.ext
      · exact h1
      · intro i i1 i2
        have := h2 i i1
        unfold byt List.getD at this
        rw [List.getElem?_eq_getElem (by simpa using i1), List.getElem?_eq_getElem (by simpa using i2)] at this
        simpa [UInt8.toNat_inj] using this
    refine key _ _ (by rw [sOf_sz, hdL_length, size_extract0 c 16 hc]) (fun i hi => ?_)
    rw [sOf_sz, hdL_length] at hi
    rw [byt_extract c 16 i hc hi, h i hi]
    exact byt_sOf hlt i (by rw [hdL_length]; exact hi)

set_option maxRecDepth 10000 in
set_option maxHeartbeats 2000000 in
theorem rstarts (v : Value) (g : Nat) (c : ByteArray) (b : Nat) (w : World) (h : BS w v g c) (hb : b < 9223372036854775808) :
    Calls Tryz.prog 24 #[v, .int .i64 b] w fun e w' => e = .returned (.bool (hasHd c b)) ∧ Below w.heap.size w w' := by
  have HB0 : Hid (BS w v g c) := h
  obtain ⟨off, cap, rfl, h1, h2, h3⟩ := h.shape
  clear h h3
  go_enter Tryz.func24, Tryz.ntmps24
  go_upto_region 2 with (go_at_call 39; refine (rhead b w hb).mono ?_; rintro e W1 ⟨g1, c1, rfl, ho1, hb1⟩)
  have B1 : Hid (Below w.heap.size w W1) := hb1
  have q1 := fun (W : World) (hW : W.heap = W1.heap) => conv_own (w := W) (ho1.of_heap hW) 16 (hdL_length b)
  obtain ⟨_, _, e0, _, _, hcells⟩ := (HB0.out.on' hb1 HB0.out.lt).shape
  clear ho1 hb1
  by_cases hl : 16 ≤ c.size
  · have hcap : (16 : Int) ≤ cap := by omega
    have hl' : (16 : Int) ≤ c.size := by omega
    have n0 : ¬ cap = 0 := by omega
    have q2 : ∀ W : World, W.heap = W1.heap → (convert 59 9 (.slice (some ⟨g, off, none⟩) 16 cap)).run Tryz.prog W = .ok (.string (c.extract 0 16)) W := fun W hW => by
      injection e0 with e1 e2 e3
      injection e1 with e1
      injection e1 with _ e1 _
      subst e1
      have := byt_back W g off (c.extract 0 16) cap (fun i hi => by rw [size_extract0 c 16 hl] at hi; rw [byt_extract c 16 i hl hi]; exact (World.cell?_of_block (by rw [hW])).trans (hcells i (by omega)))
      rw [size_extract0 c 16 hl] at this; exact this
    have HE : Hid (((sOf (hdL b)).toList == (c.extract 0 16).toList) = hasHd c b ∧ ((c.extract 0 16).toList == (sOf (hdL b)).toList) = hasHd c b) := by
      show _ ∧ _
      cases hh : hasHd c b with
      | true =>
        have := (hd_str c b hl).2 (hasHd_iff.1 hh).2
        rw [this]; exact ⟨str_eq _, str_eq _⟩
      | false =>
        have hne : sOf (hdL b) ≠ c.extract 0 16 := fun e => by
          have := hasHd_iff.2 ⟨hl, (hd_str c b hl).1 e⟩
          rw [hh] at this; cases this
        exact ⟨str_ne hne, str_ne (Ne.symm hne)⟩
    have QQ : Hid ((convert 59 9 (.slice (some ⟨g, off, none⟩) 16 cap)).run Tryz.prog W1.drew = .ok (.string (c.extract 0 16)) W1.drew ∧ (convert 59 9 (.slice (some ⟨g1, 0, none⟩) 16 c1)).run Tryz.prog W1.drew = .ok (.string (sOf (hdL b))) W1.drew) := ⟨q2 W1.drew rfl, q1 W1.drew rfl⟩
    clear e0 hcells q1 q2
    go_region_held3 (fun w' => (convert 59 9 (.slice (some ⟨g, off, none⟩) 16 cap)).run Tryz.prog w' = .ok (.string (c.extract 0 16)) w' ∧ (convert 59 9 (.slice (some ⟨g1, 0, none⟩) 16 c1)).run Tryz.prog w' = .ok (.string (sOf (hdL b))) w') (exact QQ.out) (fail)
    all_goals
      go_wp2
      go_ret
      exact ⟨by rw [← HE.out.2]; rfl, B1.out.drew⟩
  · have hd : hasHd c b = false := by
      cases hh : hasHd c b with
      | false => rfl
      | true => exact absurd (hasHd_iff.1 hh).1 hl
    have HD : Hid (hasHd c b = false) := hd
    have hl' : decide ((16 : Int) ≤ c.size) = false := by simp; omega
    clear hd hcells e0 q1
    go_region
    go_wp2
    go_ret
    exact ⟨by rw [HD.out]; rfl, B1.out.drew⟩
end Go.Proofs.YtploagfjajlloaaGreatDoor
