import Derived.Test.YtploagfjajlloaaGreatDoorAlX
namespace Go.Proofs.YtploagfjajlloaaGreatDoor
open Go.RowKit Jr

set_option maxRecDepth 10000 in
set_option maxHeartbeats 4000000 in
theorem pclose (ps sb d : Nat) (lp : Addr) (w : World) (hps : w.heap[ps]? = some (psobj sb d)) (hsb : w.heap[sb]? = some (sobj (.pointer (some lp)) false)) :
    Calls Tryz.prog 17 #[.pointer (some ⟨ps, 0, none⟩)] w fun e w' => e = .returned (.agg (told 0)) ∧ Kp (· = sb) w w' := by
  have hb1 : Below w.heap.size w (w.alloc (.cells (told 0) 25)) := (Below.refl _ _).alloc (Nat.le_refl _) _
  have o1 : (w.alloc (.cells (told 0) 25)).heap[w.heap.size]? = some (.cells (told 0) 25 (0, 0)) := obj_new _ _
  obtain ⟨W0, hW0⟩ : ∃ W0, W0 = w.alloc (.cells (told 0) 25) := ⟨_, rfl⟩
  rw [← hW0] at o1 hb1
  have HO : Hid (W0.heap[w.heap.size]? = some (.cells (told 0) 25 (0, 0))) := o1
  have HB1 : Hid (Below w.heap.size w W0) := hb1
  have op0 := below_obj hb1 (heap_lt hps) hps
  have os0 := below_obj hb1 (heap_lt hsb) hsb
  have HOP : Hid (W0.heap[ps]? = some (psobj sb d)) := op0
  have HOS : Hid (W0.heap[sb]? = some (sobj (.pointer (some lp)) false)) := os0
  have hS0 : W0.drew.cell? ⟨ps, 0, none⟩ = some (.pointer (some ⟨sb, 0, none⟩)) ∧ W0.drew.cell? ⟨ps, 1, none⟩ = some (.pointer (some ⟨d, 0, none⟩)) := ⟨cell_obj op0, cell_obj op0⟩
  have hsw : sb < w.heap.size := heap_lt hsb
  clear hb1 o1 op0 os0 hps hsb
  go_enter Tryz.func17, Tryz.ntmps17
  go_upto_region 1 with fail
  have hW0' : w.alloc (.cells #[.int .i64 0, .string ⟨#[]⟩, .int .i64 0, .int .i64 0, .bool false] 25) = W0 := hW0.symm
  rw [hW0']
  clear hW0 hW0'
  refine wp_region_last (S := fun w' => w'.cell? ⟨ps, 0, none⟩ = some (.pointer (some ⟨sb, 0, none⟩)) ∧ w'.cell? ⟨ps, 1, none⟩ = some (.pointer (some ⟨d, 0, none⟩))) (by kernel_rfl) rfl (by kernel_rfl) ?_
  refine wpAnyH_take (i := 0) (v := ?_) rfl (by kernel_rfl) (by kernel_rfl) (by kernel_rfl) (fun _ _ _ h => h) (Or.inl ⟨by rfl, ?_⟩) (by assumption) ?_
  rotate_left
  · (intro w hSw; (try dsimp only at hSw); go_simp; try with_reducible rfl)
  try simp only [Act.put]
  refine wpAnyH_take (i := 1) (v := ?_) rfl (by kernel_rfl) (by kernel_rfl) (by kernel_rfl) (fun _ _ _ h => h) (Or.inl ⟨by rfl, ?_⟩) (by assumption) ?_
  rotate_left
  · (intro w hSw; (try dsimp only at hSw); go_simp; try with_reducible rfl)
  try simp only [Act.put]
  refine wpAnyH_take (i := 2) (v := ?_) rfl (by kernel_rfl) (by kernel_rfl) (by kernel_rfl) (fun _ _ _ h => h) (Or.inl ⟨by rfl, ?_⟩) (by assumption) ?_
  rotate_left
  · (intro w hSw; (try dsimp only at hSw); go_simp; try with_reducible rfl)
  try simp only [Act.put]
  refine wpAnyH_take (i := 3) (v := ?_) rfl (by kernel_rfl) (by kernel_rfl) (by kernel_rfl) (fun _ _ _ h => h) (Or.inl ⟨by rfl, ?_⟩) (by assumption) ?_
  rotate_left
  · (intro w hSw; (try dsimp only at hSw); go_simp; try with_reducible rfl)
  try simp only [Act.put]
  refine wpAnyH_take (i := 5) (v := ?_) rfl (by kernel_rfl) (by kernel_rfl) (by kernel_rfl) (fun _ _ _ h => h) (Or.inl ⟨by rfl, ?_⟩) (by assumption) ?_
  rotate_left
  · (intro w hSw; (try dsimp only at hSw); go_simp; try with_reducible rfl)
  try simp only [Act.put]
  refine wpAnyH_take (i := 6) (v := ?_) rfl (by kernel_rfl) (by kernel_rfl) (by kernel_rfl) (fun _ _ _ h => h) (Or.inl ⟨by rfl, ?_⟩) (by assumption) ?_
  rotate_left
  · (intro w hSw; (try dsimp only at hSw); go_simp; try with_reducible rfl)
  try simp only [Act.put]
  refine wpAnyH_take (i := 7) (v := ?_) rfl (by kernel_rfl) (by kernel_rfl) (by kernel_rfl) (fun _ _ _ h => h) (Or.inl ⟨by rfl, ?_⟩) (by assumption) ?_
  rotate_left
  · (intro w hSw; (try dsimp only at hSw); go_simp; try with_reducible rfl)
  try simp only [Act.put]
  refine wpAnyH_take (i := 8) (v := ?_) rfl (by kernel_rfl) (by kernel_rfl) (by kernel_rfl) (fun _ _ _ h => h) (Or.inl ⟨by rfl, ?_⟩) (by assumption) ?_
  rotate_left
  · (intro w hSw; (try dsimp only at hSw); go_simp; try with_reducible rfl)
  try simp only [Act.put]
  refine wpAnyH_ready (rs := [4]) (by kernel_rfl) (by simp) ?_
  refine AllReadyH.cons rfl (fun K hK => ?_) AllReadyH.nil
  go_simp
  refine Calls.mono (jclose sb lp W0.drew HOS.out) ?_
  rintro r W1 ⟨rfl, hk1⟩
  have op1 := hk1.obj (tag_ne (w := W0.drew) HOP.out HOS.out (by decide)) HOP.out
  have HO1 : Hid (W1.heap[w.heap.size]? = some (.cells (told 0) 25 (0, 0))) := hk1.obj (tag_ne (w := W0.drew) HO.out HOS.out (by decide)) HO.out
  have HOP1 : Hid (W1.heap[ps]? = some (psobj sb d)) := op1
  have HK1 : Hid (Kp (· = sb) w W1) := ((Kp.of_new HB1.out).trans (Kp.of_new (Below.refl _ _).drew)).trans hk1
  refine hK.out _ _ ⟨cell_obj op1, cell_obj op1⟩ (fun hS1 => ?_)
  clear hK K op1 hk1 HO HOP HOS HB1
  try simp only [Act.put]
  clear hS0
  refine wpAnyH_ready (rs := [9]) (by kernel_rfl) (by simp) ?_
  refine AllReadyH.cons rfl (fun K hK => ?_) AllReadyH.nil
  go_simp
  refine Calls.mono (of_nil _ W1) ?_
  rintro r W2 ⟨rfl, hb2⟩
  have op2 := below_obj hb2 (heap_lt HOP1.out) HOP1.out
  have o2 := below_obj hb2 (heap_lt HO1.out) HO1.out
  have HK2 : Hid (Kp (· = sb) w W2) := HK1.out.trans (Kp.of_new hb2)
  refine hK.out _ _ ⟨cell_obj op2, cell_obj op2⟩ (fun hS2 => ?_)
  clear hK K op2 hb2 HK1 HOP1 HO1
  try simp only [Act.put]
  clear hS1
  obtain ⟨f, c0, c1, c2, c3, c4⟩ := five_obj o2
  have f0 := f 0 (by omega)
  have f1 := f 1 (by omega)
  have f2 := f 2 (by omega)
  have f3 := f 3 (by omega)
  have f4 := f 4 (by omega)
  clear f o2
  refine wpAnyH_done (by kernel_rfl) ?_ _
  show wpList _ _ _ _ _ _
  go_wp2
  refine bodyPost_ret (v := .agg (told 0)) (by simp [results, Tryz.results17, go_sem, c0, c1, c2, c3, c4]) rfl ⟨rfl, ?_⟩
  exact HK2.out.andThen (kp_five W2 w.heap.size _ _ _ _ _) fun i hi e => by omega
end Go.Proofs.YtploagfjajlloaaGreatDoor
