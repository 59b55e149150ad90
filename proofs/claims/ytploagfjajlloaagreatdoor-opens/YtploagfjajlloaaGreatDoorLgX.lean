import Derived.Test.YtploagfjajlloaaGreatDoorLgA
import Derived.Test.YtploagfjajlloaaGreatDoorLast
namespace Go.Proofs.YtploagfjajlloaaGreatDoor
open Go.RowKit Jr

theorem infoEv : (Tryz.prog.info? 136).map (fun i => (i.zero, i.size, i.bytes)) = some (some (.agg #[.int .i64 0, .int .i64 0, .string ⟨#[]⟩, .string ⟨#[]⟩]), 4, 48) := by kernel_rfl
abbrev ebox (e : Ev) : Array Value := ev e.v e.p e.st e.d
/-- One event more at the end. -/
theorem lg_app1 (W : World) (g m z : Nat) (v : Value) (log : List Ev) (S : ByteArray → Value) (e : Ev) (h : LogIs W g m v log S) (hL : log.length ≤ 1000000000) (hz : W.heap[z]? = some (.cells (ebox e) 136 (0, 0))) (hzv : v.ownBlock ≠ some z) :
    ∃ q qc w2, Hid (∀ ty, (Builtin.append_ #[167, 167] ty #[v, .slice (some ⟨W.heap.size, 0, none⟩) 1 1]).run Tryz.prog (W.alloc (.cells (ebox e) 136)) = .ok (.slice (some q) (log.length + 1) qc) w2) ∧
      w2.cell? ⟨g, 0, none⟩ = some v ∧ w2.frozen? ⟨g, 0, none⟩ = false ∧ (w2.cell? ⟨z, 0, none⟩ = some (.int .i64 e.v) ∧ w2.cell? ⟨z, 1, none⟩ = some (.int .i64 e.p) ∧ w2.cell? ⟨z, 2, none⟩ = some (.string e.st) ∧ w2.cell? ⟨z, 3, none⟩ = some (.string e.d)) ∧
      Hid (LE (w2.setCell ⟨g, 0, none⟩ (.slice (some q) (log.length + 1) qc)) g m (.slice (some q) (log.length + 1) qc) (log ++ [e]) ∧ LS (w2.setCell ⟨g, 0, none⟩ (.slice (some q) (log.length + 1) qc)) m log S ∧ (w2.setCell ⟨g, 0, none⟩ (.slice (some q) (log.length + 1) qc)).heap[z]? = some (.cells (ebox e) 136 (0, 0)) ∧
        Kp (fun k => k = g ∨ v.ownBlock = some k) W (w2.setCell ⟨g, 0, none⟩ (.slice (some q) (log.length + 1) qc)) ∧ (v.ownBlock = some q.block ∨ W.heap.size ≤ q.block)) := by
  obtain ⟨v2, w2, HR, ho2, hg2, hob, q, qc, rfl⟩ := appN Tryz.underlying167 infoEv rfl (by decide) h.le.row [.int .i64 e.v, .int .i64 e.p, .string e.st, .string e.d] rfl (fun u hu => by
    simp at hu
    rcases hu with rfl | rfl | rfl | rfl <;> rfl) (by omega) (by unfold maxLen; omega) (Nat.zero_le _)
  have hk2 : Kp (fun k => v.ownBlock = some k) W w2 := Kp.of_grown hg2 (fun k e _ => e)
  have ntag : ∀ {k : Nat} {c : Array Value} {t : TypeId} {fr : Nat × Nat}, W.heap[k]? = some (.cells c t fr) → t ≠ 136 → ¬ v.ownBlock = some k := fun ho hne e => by
    obtain ⟨C, hC⟩ := row_tag h.le.row e
    exact tag_ne ho hC hne rfl
  have og : w2.heap[g]? = some (lobj v m) := hk2.obj (ntag h.le.obj (by decide)) h.le.obj
  have oz : w2.heap[z]? = some (.cells (ebox e) 136 (0, 0)) := hk2.obj hzv hz
  have hk3 : Kp (· = g) w2 (w2.setCell ⟨g, 0, none⟩ (.slice (some q) (log.length + 1) qc)) := (Kp.refl (· = g) w2).setCell (a := ⟨g, 0, none⟩) (fun _ => rfl) _
  refine ⟨q, qc, w2, HR, cell_obj og, frozen_obj og, ⟨cell_obj oz, cell_obj oz, cell_obj oz, cell_obj oz⟩, ⟨⟨?_, ?_⟩, ?_, ?_, ?_, ?_⟩⟩
  · rw [obj_setCell_same og]; rfl
  · rw [List.length_append, evc_snoc]
    exact row_on ho2 hk3 (fun k e => by obtain ⟨C, hC⟩ := row_tag ho2 e; exact tag_ne hC og (by decide))
  · have h2 : LS w2 m log S := h.ls.kp hk2 fun k hk e' => by
      rcases hk with rfl | ⟨s, hs⟩
      · obtain ⟨es, c, hm⟩ := h.ls.mobj
        obtain ⟨C, hC⟩ := row_tag h.le.row e'
        rw [hC] at hm; cases hm
      · obtain ⟨xs, hx⟩ := h.ls.str s
        obtain ⟨C, hC⟩ := row_tag hx hs
        exact ntag hC (by decide) e'
    exact h2.kp hk3 fun k hk e' => by
      subst e'
      rcases hk with rfl | ⟨s, hs⟩
      · obtain ⟨es, c, hm⟩ := h2.mobj
        rw [og] at hm; cases hm
      · obtain ⟨xs, hx⟩ := h2.str s
        obtain ⟨C, hC⟩ := row_tag hx hs
        exact tag_ne hC og (by decide) rfl
  · exact hk3.obj (fun e' => tag_ne oz og (by decide) e') oz
  · exact (hk2.mono fun k _ e => Or.inr e).trans (hk3.mono fun k _ e => Or.inl e)
  · rcases hob with h | ⟨k, h1, h2⟩
    · exact Or.inl h.symm
    · right
      have : q.block = k := Option.some.inj h2
      rw [this]; omega

theorem look_map {w : World} {m n : Nat} {D : DataW Value} {s : ByteArray} {v : Value} (hD : w.ownsMap Tryz.prog 9 RV m n D) (hat : D.atKey (.string s.data.toList) (.held (.slice none 0 0)) = .held v) (hs : s.size ≤ maxLen) : (Instr.lookup 177 (.map (some m)) (.string s) false).run Tryz.prog w = .ok v w := by
  obtain ⟨u, ps, hrun, hv⟩ := hD.lookup keyedS Tryz.underlying177 (zero91 w) rfl (keyS s hs)
  rw [hat] at hv
  simp only [RV, Option.some.injEq, Prod.mk.injEq, DataW.held.injEq] at hv
  rw [hv.1] at hrun; exact hrun
/-- .. and in its stream. -/
theorem lg_app2 (W : World) (m : Nat) (log : List Ev) (S : ByteArray → Value) (e : Ev) (h : LS W m log S) (hL : log.length ≤ 1000000000) (hst : e.st.size ≤ maxLen) :
    ∃ p n cap q qc w2, S e.st = .slice p n cap ∧ n = cnt log e.st ∧ Hid (∀ ty, (Builtin.append_ #[91, 91] ty #[.slice p n cap, .slice (some ⟨W.heap.size, 0, none⟩) 1 1]).run Tryz.prog (W.alloc (.cells #[.string e.d] 9)) = .ok (.slice (some q) (n + 1) qc) w2) ∧
      Hid (Kp (fun k => (S e.st).ownBlock = some k) W w2) ∧
      Hid (∃ D, w2.ownsMap Tryz.prog 9 RV m log.length D ∧ ∀ w3, w3.ownsMap Tryz.prog 9 RV m (log.length + 1) (D.put (.string e.st.data.toList) (.held (.slice (some q) (n + 1) qc))) → w2.grownBy w3 (some m) →
        LS w3 m (log ++ [e]) (fun s => if s = e.st then .slice (some q) (n + 1) qc else S s) ∧ Kp (fun k => SFoot m S k) W w3) ∧
      Hid ((S e.st).ownBlock = some q.block ∨ W.heap.size ≤ q.block) ∧ (Instr.lookup 177 (.map (some m)) (.string e.st) false).run Tryz.prog w2 = .ok (.slice p n cap) w2 := by
  obtain ⟨xs, hx⟩ := h.str e.st
  obtain ⟨p, cap, hS, hc, hm, -⟩ := row_shape hx
  have hcl := cnt_le log e.st
  obtain ⟨v2, w2, HR, ho2, hg2, hob, q, qc, rfl⟩ := appN Tryz.underlying91 infoS rfl (by decide) hx [.string e.d] rfl (fun u hu => by simp at hu; subst hu; rfl) (by omega) (by unfold maxLen; omega) (Nat.zero_le _)
  have hk2 : Kp (fun k => (S e.st).ownBlock = some k) W w2 := Kp.of_grown hg2 (fun k e _ => e)
  obtain ⟨es, c, hmo⟩ := h.mobj
  have hmn : ¬ (S e.st).ownBlock = some m := fun e' => by
    obtain ⟨C, hC⟩ := row_tag hx e'
    rw [hC] at hmo; cases hmo
  obtain ⟨D, ⟨es', c', hb', F0, hs0, hD0⟩, hIs, hat⟩ := h.map
  have hob' : (S e.st).ownBlock = some q.block ∨ W.heap.size ≤ q.block := by
    rcases hob with h | ⟨k, h1, h2⟩
    · exact Or.inl h.symm
    · right
      have : q.block = k := Option.some.inj h2
      rw [this]; omega
  refine ⟨p, cnt log e.st, cap, q, qc, w2, hS, rfl, ?_, hk2, ⟨D, ⟨es', c', hk2.obj hmn hb', F0, hs0, hD0⟩, fun w3 hw3 hg3 => ⟨⟨?_, fun s => ?_, fun s t b hne hs ht => ?_⟩, ?_⟩⟩, hob', by rw [← hS]; exact look_map ⟨es', c', hk2.obj hmn hb', F0, hs0, hD0⟩ (hat e.st) hst⟩
  · rw [← hS]; exact HR
  · refine ⟨_, by rw [List.length_append]; exact hw3, hIs.put _ _, fun s => ?_⟩
    by_cases hst : s = e.st
    · subst hst
      rw [if_pos rfl]
      exact Maps.atKey_put_same (k := .string e.st.data.toList) hIs (by trivial) _ _
    · rw [if_neg hst, ← hat s]
      exact Maps.atKey_put_other (fun e' => hst (by
        injection e' with e'
        have := congrArg (fun l => (⟨l.toArray⟩ : ByteArray)) e'
        exact ByteArray.ext (by simpa using this))) _ _
  · have hk3 : Kp (fun k => k = m) w2 w3 := Kp.of_grown hg3 (fun k e _ => (Option.some.inj e).symm)
    have hm2 : w2.heap[m]? = some (.map es c) := hk2.obj hmn hmo
    rw [cnt_append]
    by_cases hst : s = e.st
    · subst hst
      refine ⟨xs ++ [.string e.d], ?_⟩
      rw [if_pos rfl]
      have hc1 : cnt [e] e.st = 1 := by simp [cnt]
      rw [hc1]
      refine row_on ho2 hk3 (fun k e' hkm => ?_)
      subst hkm
      obtain ⟨C, hC⟩ := row_tag ho2 e'
      rw [hC] at hm2; cases hm2
    · obtain ⟨ys, hy⟩ := h.str s
      have hc0 : cnt [e] s = 0 := by simp [cnt, Ne.symm hst]
      rw [hc0, Nat.add_zero]
      simp only [if_neg hst]
      have hy2 := row_on hy hk2 (fun k e1 e2 => h.sep s e.st k hst e1 e2)
      refine ⟨ys, row_on hy2 hk3 (fun k e' hkm => ?_)⟩
      subst hkm
      obtain ⟨C, hC⟩ := row_tag hy2 e'
      rw [hC] at hm2; cases hm2
  · have key : ∀ t b, t ≠ e.st → some q.block = some b → (S t).ownBlock = some b → False := fun t b ht hb hSt => by
      obtain rfl := Option.some.inj hb
      rcases hob' with h1 | h1
      · exact h.sep t e.st _ ht hSt h1
      · have := h.lt (k := q.block) (Or.inr ⟨t, hSt⟩); omega
    by_cases h1 : s = e.st
    · rw [if_pos h1] at hs
      rw [if_neg (fun h2 => hne (h1.trans h2.symm))] at ht
      exact key t b (fun h2 => hne (h1.trans h2.symm)) hs ht
    · rw [if_neg h1] at hs
      by_cases h2 : t = e.st
      · rw [if_pos h2] at ht
        exact key s b h1 ht hs
      · rw [if_neg h2] at ht
        exact h.sep s t b hne hs ht
  · have hk3 : Kp (fun k => k = m) w2 w3 := Kp.of_grown hg3 (fun k e _ => (Option.some.inj e).symm)
    exact (hk2.mono fun k _ e' => Or.inr ⟨_, e'⟩).trans (hk3.mono fun k _ e' => Or.inl e')
end Go.Proofs.YtploagfjajlloaaGreatDoor
namespace Go.Proofs.YtploagfjajlloaaGreatDoor
open Go.RowKit Jr

set_option maxRecDepth 10000 in
set_option maxHeartbeats 4000000 in
theorem jadd (g m : Nat) (v : Value) (log : List Ev) (S : ByteArray → Value) (e : Ev) (w : World) (h : LogIs w g m v log S) (hL : log.length ≤ 1000000000) (hst : e.st.size ≤ maxLen) :
    Calls Tryz.prog 97 #[.pointer (some ⟨g, 0, none⟩), .agg (ebox e)] w fun r w' => r = .returned (.tuple #[]) ∧ ∃ v' S', LogIs w' g m v' (log ++ [e]) S' ∧ Kp (LFoot g m v S) w w' ∧ ∀ k, LFoot g m v' S' k → LFoot g m v S k ∨ w.heap.size ≤ k := by
  have HH : Hid (LogIs w g m v log S) := h
  have HST : Hid (e.st.size ≤ maxLen) := hst
  have hlt0 : Hid (∀ k, LFoot g m v S k → k < w.heap.size) := fun k hk => h.lt hk
  have hb1 : Below w.heap.size w (w.alloc (.cells (ebox e) 136)) := (Below.refl _ _).alloc (Nat.le_refl _) _
  have hl1 : LogIs (w.alloc (.cells (ebox e) 136)).drew g m v log S := (h.new hb1).new (Below.refl _ _).drew
  have oz1 : (w.alloc (.cells (ebox e) 136)).drew.heap[w.heap.size]? = some (.cells (ebox e) 136 (0, 0)) := obj_new _ _
  obtain ⟨p, n, rfl, hnc, hmx, -⟩ := row_shape h.le.row
  clear h hst
  obtain ⟨q1, k1, w1, HR1, d1, f1, z1, F1⟩ := lg_app1 _ g m w.heap.size _ log S e hl1 hL oz1 (fun e' => by have := hlt0.out _ (Or.inl (Or.inr e')); omega)
  obtain ⟨W0, hW0⟩ : ∃ W0, W0 = w.alloc (.cells (ebox e) 136) := ⟨_, rfl⟩
  rw [← hW0] at HR1 hl1 oz1 F1 hb1
  have hz0 : w.heap.size < W0.heap.size := heap_lt oz1
  have c0 : W0.drew.cell? ⟨g, 0, none⟩ = some (.slice p log.length n) := cell_obj hl1.le.obj
  have zc0 : W0.drew.cell? ⟨w.heap.size, 0, none⟩ = some (.int .i64 e.v) ∧ W0.drew.cell? ⟨w.heap.size, 1, none⟩ = some (.int .i64 e.p) ∧ W0.drew.cell? ⟨w.heap.size, 2, none⟩ = some (.string e.st) ∧ W0.drew.cell? ⟨w.heap.size, 3, none⟩ = some (.string e.d) := ⟨cell_obj oz1, cell_obj oz1, cell_obj oz1, cell_obj oz1⟩
  have hg0 : g < W0.heap.size := heap_lt hl1.le.obj
  have cA : (W0.drew.alloc (.cells (ebox e) 136)).cell? ⟨g, 0, none⟩ = some (.slice p log.length n) := (World.cell?_alloc_past _ _ _ (by exact hg0)).trans c0
  have zA : (W0.drew.alloc (.cells (ebox e) 136)).cell? ⟨w.heap.size, 0, none⟩ = some (.int .i64 e.v) ∧ (W0.drew.alloc (.cells (ebox e) 136)).cell? ⟨w.heap.size, 1, none⟩ = some (.int .i64 e.p) ∧ (W0.drew.alloc (.cells (ebox e) 136)).cell? ⟨w.heap.size, 2, none⟩ = some (.string e.st) ∧ (W0.drew.alloc (.cells (ebox e) 136)).cell? ⟨w.heap.size, 3, none⟩ = some (.string e.d) :=
    ⟨(World.cell?_alloc_past _ _ _ (by exact hz0)).trans zc0.1, (World.cell?_alloc_past _ _ _ (by exact hz0)).trans zc0.2.1, (World.cell?_alloc_past _ _ _ (by exact hz0)).trans zc0.2.2.1, (World.cell?_alloc_past _ _ _ (by exact hz0)).trans zc0.2.2.2⟩
  have HB1 : Hid (Below w.heap.size w W0) := hb1
  clear hl1 oz1 hb1
  go_enter Tryz.func97, Tryz.ntmps97
  go_upto_region 1 with fail
  rw [← hW0]
  clear hW0
  have hS0 : (W0.drew.cell? ⟨w.heap.size, 0, none⟩ = some (.int .i64 e.v) ∧ W0.drew.cell? ⟨w.heap.size, 1, none⟩ = some (.int .i64 e.p) ∧ W0.drew.cell? ⟨w.heap.size, 2, none⟩ = some (.string e.st) ∧ W0.drew.cell? ⟨w.heap.size, 3, none⟩ = some (.string e.d)) ∧ W0.drew.cell? ⟨g, 0, none⟩ = some (.slice p log.length n) := ⟨zc0, c0⟩
  refine wp_region_last (S := fun w' => (w'.cell? ⟨w.heap.size, 0, none⟩ = some (.int .i64 e.v) ∧ w'.cell? ⟨w.heap.size, 1, none⟩ = some (.int .i64 e.p) ∧ w'.cell? ⟨w.heap.size, 2, none⟩ = some (.string e.st) ∧ w'.cell? ⟨w.heap.size, 3, none⟩ = some (.string e.d)) ∧ w'.cell? ⟨g, 0, none⟩ = some (.slice p log.length n)) (by kernel_rfl) rfl (by kernel_rfl) ?_
  refine wpAnyH_take (i := 0) (v := ?_) rfl (by kernel_rfl) (by kernel_rfl) (by kernel_rfl) (fun _ _ _ h => h) (Or.inl ⟨by rfl, ?_⟩) (by assumption) ?_
  rotate_left
  · (intro w hSw; (try dsimp only at hSw); go_simp; try with_reducible rfl)
  try simp only [Act.put]
  refine wpAnyH_take (i := 1) (v := ?_) rfl (by kernel_rfl) (by kernel_rfl) (by kernel_rfl) (fun _ _ _ h => h) (Or.inl ⟨by rfl, ?_⟩) (by assumption) ?_
  rotate_left
  · (intro w hSw; (try dsimp only at hSw); go_simp; try with_reducible rfl)
  try simp only [Act.put]
  refine wpAnyH_take (i := 2) (v := ?_) rfl (by kernel_rfl) (by kernel_rfl) (by kernel_rfl) (fun _ _ _ h => h) (Or.inl ⟨by rfl, ?_⟩) (by assumption) ?_
  rotate_left
  · (intro w hSw; (try dsimp only at hSw); go_simp; try with_reducible rfl)
  try simp only [Act.put]
  refine wpAnyH_take (i := 3) (v := ?_) rfl (by kernel_rfl) (by kernel_rfl) (by kernel_rfl) (fun _ _ _ h => h) (Or.inl ⟨by rfl, ?_⟩) (by assumption) ?_
  rotate_left
  · (intro w hSw; (try dsimp only at hSw); go_simp; try with_reducible rfl)
  try simp only [Act.put]
  refine wpAnyH_take (i := 4) (v := ?_) rfl (by kernel_rfl) (by kernel_rfl) (by kernel_rfl) (fun _ _ _ h => h) (Or.inl ⟨by rfl, ?_⟩) (by assumption) ?_
  rotate_left
  · (intro w hSw; (try dsimp only at hSw); go_simp; try with_reducible rfl)
  try simp only [Act.put]
  refine wpAnyH_take (i := 5) (v := ?_) rfl (by kernel_rfl) (by kernel_rfl) (by kernel_rfl) (fun _ _ _ h => h) (Or.inl ⟨by rfl, ?_⟩) (by assumption) ?_
  rotate_left
  · (intro w hSw; (try dsimp only at hSw); go_simp; try with_reducible rfl)
  try simp only [Act.put]
  refine wpAnyH_ready (rs := [6]) (by kernel_rfl) (by simp) ?_
  refine AllReadyH.cons rfl (fun K hK => ?_) AllReadyH.nil
  go_simp
  refine hK.out _ _ ⟨zA, cA⟩ (fun hS1 => ?_)
  clear hK K
  try simp only [Act.put]
  clear hS0
  refine wpAnyH_ready (rs := [7]) (by kernel_rfl) (by simp) ?_
  refine AllReadyH.cons rfl (fun K hK => ?_) AllReadyH.nil
  refine step_app (vs := .slice p log.length n) (vx := .slice (some ⟨W0.heap.size, 0, none⟩) 1 1) rfl (.tmp 8) (.tmp 10) 167 167 rfl rfl rfl HR1.out ?_
  refine hK.out _ _ ⟨z1, d1⟩ (fun hS2 => ?_)
  clear hK K
  try simp only [Act.put]
  clear hS1
  refine wpAnyH_take (i := 8) (v := ?_) rfl (by kernel_rfl) (by kernel_rfl) (by kernel_rfl) (fun _ _ _ h => h) (Or.inl ⟨by rfl, ?_⟩) (by assumption) ?_
  rotate_left
  · (intro w hSw; (try dsimp only at hSw); go_simp; try with_reducible rfl)
  try simp only [Act.put]
  refine wpAnyH_take (i := 9) (v := ?_) rfl (by kernel_rfl) (by kernel_rfl) (by kernel_rfl) (fun _ _ _ h => h) (Or.inl ⟨by rfl, ?_⟩) (by assumption) ?_
  rotate_left
  · (intro w hSw; (try dsimp only at hSw); go_simp; try with_reducible rfl)
  try simp only [Act.put]
  refine wpAnyH_done (by kernel_rfl) ?_ _
  show wpList _ _ _ _ _ _
  go_wp2
  obtain ⟨W1, hW1⟩ : ∃ W1, W1 = w1.setCell ⟨g, 0, none⟩ (.slice (some q1) (log.length + 1) k1) := ⟨_, rfl⟩
  rw [← hW1] at F1 ⊢
  clear hW1 HR1 d1 f1 z1 hS2 cA zA c0 zc0
  obtain ⟨hle1, hls1, oz1, kp1, ob1⟩ := F1.out
  obtain ⟨p2, n2, c2, q2, k2, w2, hS2, -, HR2, KP2, MU, OB2, lk2⟩ := lg_app2 W1.drew m log S e (hls1.kp (F := fun _ => False) (Kp.of_new (Below.refl _ _).drew) (fun _ _ h => h)) hL HST.out
  have hls1' : LS W1.drew m log S := hls1.kp (F := fun _ => False) (Kp.of_new (Below.refl _ _).drew) (fun _ _ h => h)
  have hbA : Below W1.heap.size W1 (W1.drew.alloc (.cells #[.string e.d] 9)) := (Below.refl _ _).drew.alloc (Nat.le_refl _) _
  have hlsA : LS (W1.drew.alloc (.cells #[.string e.d] 9)) m log S := hls1.kp (F := fun _ => False) (Kp.of_new hbA) (fun _ _ h => h)
  have lk0 := hls1'.look e.st HST.out
  have lkA := hlsA.look e.st HST.out
  rw [hS2] at lk0 lkA
  have ozA : (W1.drew.alloc (.cells #[.string e.d] 9)).heap[w.heap.size]? = some (.cells (ebox e) 136 (0, 0)) := below_obj hbA (heap_lt oz1) oz1
  have ogA := below_obj hbA (heap_lt hle1.obj) hle1.obj
  have hn : ∀ {k : Nat} {c : Array Value} {t : TypeId} {fr : Nat × Nat}, W1.heap[k]? = some (.cells c t fr) → t ≠ 9 → ¬ (S e.st).ownBlock = some k := fun ho hne e' => by
    obtain ⟨xs, hx⟩ := hls1.str e.st
    obtain ⟨C, hC⟩ := row_tag hx e'
    exact tag_ne ho hC hne rfl
  have oz2 : w2.heap[w.heap.size]? = some (.cells (ebox e) 136 (0, 0)) := KP2.out.obj (hn oz1 (by decide)) oz1
  have og2 : w2.heap[g]? = some (lobj (.slice (some q1) (log.length + 1) k1) m) := KP2.out.obj (hn hle1.obj (by decide)) hle1.obj
  have hS0 : (W1.drew.cell? ⟨w.heap.size, 2, none⟩ = some (.string e.st) ∧ W1.drew.cell? ⟨w.heap.size, 3, none⟩ = some (.string e.d)) ∧ W1.drew.cell? ⟨g, 1, none⟩ = some (.map (some m)) ∧ (Instr.lookup 177 (.map (some m)) (.string e.st) false).run Tryz.prog W1.drew = .ok (.slice p2 n2 c2) W1.drew := ⟨⟨cell_obj oz1, cell_obj oz1⟩, cell_obj hle1.obj, lk0⟩
  have hSA : ((W1.drew.alloc (.cells #[.string e.d] 9)).cell? ⟨w.heap.size, 2, none⟩ = some (.string e.st) ∧ (W1.drew.alloc (.cells #[.string e.d] 9)).cell? ⟨w.heap.size, 3, none⟩ = some (.string e.d)) ∧ (W1.drew.alloc (.cells #[.string e.d] 9)).cell? ⟨g, 1, none⟩ = some (.map (some m)) ∧ (Instr.lookup 177 (.map (some m)) (.string e.st) false).run Tryz.prog (W1.drew.alloc (.cells #[.string e.d] 9)) = .ok (.slice p2 n2 c2) (W1.drew.alloc (.cells #[.string e.d] 9)) := ⟨⟨cell_obj ozA, cell_obj ozA⟩, cell_obj ogA, lkA⟩
  have hSB : (w2.cell? ⟨w.heap.size, 2, none⟩ = some (.string e.st) ∧ w2.cell? ⟨w.heap.size, 3, none⟩ = some (.string e.d)) ∧ w2.cell? ⟨g, 1, none⟩ = some (.map (some m)) ∧ (Instr.lookup 177 (.map (some m)) (.string e.st) false).run Tryz.prog w2 = .ok (.slice p2 n2 c2) w2 := ⟨⟨cell_obj oz2, cell_obj oz2⟩, cell_obj og2, lk2⟩
  have HLE : Hid (LE W1 g m (.slice (some q1) (log.length + 1) k1) (log ++ [e])) := hle1
  have HK1 : Hid (Kp (LFoot g m (.slice p log.length n) S) w W1) := (Kp.of_new HB1.out.drew).andThen kp1 (fun k hk hf => Or.inl hf)
  have HOB : Hid (((Value.slice p log.length n).ownBlock = some q1.block ∨ w.heap.size ≤ q1.block) ∧ ((S e.st).ownBlock = some q2.block ∨ w.heap.size ≤ q2.block)) := ⟨ob1.imp id fun h => Nat.le_trans HB1.out.size h, OB2.out.imp id fun h => Nat.le_trans HB1.out.size (Nat.le_trans kp1.size h)⟩
  have hzW1 : w.heap.size ≤ W1.heap.size := Nat.le_of_lt (heap_lt oz1)
  have HLS : Hid (LS W1 m log S) := hls1
  have HSE : Hid (S e.st = .slice p2 n2 c2) := hS2
  clear hle1 hls1 oz1 kp1 ob1 hls1' hbA hlsA lk0 lkA ozA ogA hn oz2 og2 lk2 hS2 OB2 F1
  refine wp_region_last (S := fun w' => (w'.cell? ⟨w.heap.size, 2, none⟩ = some (.string e.st) ∧ w'.cell? ⟨w.heap.size, 3, none⟩ = some (.string e.d)) ∧ w'.cell? ⟨g, 1, none⟩ = some (.map (some m)) ∧ (Instr.lookup 177 (.map (some m)) (.string e.st) false).run Tryz.prog w' = .ok (.slice p2 n2 c2) w') (by kernel_rfl) rfl (by kernel_rfl) ?_
  refine wpAnyH_take (i := 0) (v := ?_) rfl (by kernel_rfl) (by kernel_rfl) (by kernel_rfl) (fun _ _ _ h => h) (Or.inl ⟨by rfl, ?_⟩) (by assumption) ?_
  rotate_left
  · (intro w hSw; (try dsimp only at hSw); go_simp; try with_reducible rfl)
  try simp only [Act.put]
  refine wpAnyH_take (i := 1) (v := ?_) rfl (by kernel_rfl) (by kernel_rfl) (by kernel_rfl) (fun _ _ _ h => h) (Or.inl ⟨by rfl, ?_⟩) (by assumption) ?_
  rotate_left
  · (intro w hSw; (try dsimp only at hSw); go_simp; try with_reducible rfl)
  try simp only [Act.put]
  refine wpAnyH_take (i := 2) (v := ?_) rfl (by kernel_rfl) (by kernel_rfl) (by kernel_rfl) (fun _ _ _ h => h) (Or.inl ⟨by rfl, ?_⟩) (by assumption) ?_
  rotate_left
  · (intro w hSw; (try dsimp only at hSw); go_simp; try with_reducible rfl)
  try simp only [Act.put]
  refine wpAnyH_take (i := 3) (v := ?_) rfl (by kernel_rfl) (by kernel_rfl) (by kernel_rfl) (fun _ _ _ h => h) (Or.inl ⟨by rfl, ?_⟩) (by assumption) ?_
  rotate_left
  · (intro w hSw; (try dsimp only at hSw); go_simp; try with_reducible rfl)
  try simp only [Act.put]
  refine wpAnyH_take (i := 4) (v := ?_) rfl (by kernel_rfl) (by kernel_rfl) (by kernel_rfl) (fun _ _ _ h => h) (Or.inl ⟨by rfl, ?_⟩) (by assumption) ?_
  rotate_left
  · (intro w hSw; (try dsimp only at hSw); go_simp; try with_reducible rfl)
  try simp only [Act.put]
  refine wpAnyH_take (i := 5) (v := ?_) rfl (by kernel_rfl) (by kernel_rfl) (by kernel_rfl) (fun _ _ _ h => h) (Or.inl ⟨by rfl, ?_⟩) (by assumption) ?_
  rotate_left
  · (intro w hSw; (try dsimp only at hSw); go_simp; try with_reducible rfl)
  try simp only [Act.put]
  refine wpAnyH_take (i := 6) (v := ?_) rfl (by kernel_rfl) (by kernel_rfl) (by kernel_rfl) (fun _ _ _ h => h) (Or.inl ⟨by rfl, ?_⟩) (by assumption) ?_
  rotate_left
  · (intro w hSw; (try dsimp only at hSw); go_simp; try with_reducible rfl)
  try simp only [Act.put]
  refine wpAnyH_take (i := 7) (v := ?_) rfl (by kernel_rfl) (by kernel_rfl) (by kernel_rfl) (fun _ _ _ h => h) (Or.inl ⟨by rfl, ?_⟩) (by assumption) ?_
  rotate_left
  · (intro w hSw; (try dsimp only at hSw); go_simp; try with_reducible rfl)
  try simp only [Act.put]
  refine wpAnyH_take (i := 8) (v := ?_) rfl (by kernel_rfl) (by kernel_rfl) (by kernel_rfl) (fun _ _ _ h => h) (Or.inl ⟨by rfl, ?_⟩) (by assumption) ?_
  rotate_left
  · (intro w hSw; (try dsimp only at hSw); go_simp; try with_reducible rfl)
  try simp only [Act.put]
  refine wpAnyH_take (i := 9) (v := ?_) rfl (by kernel_rfl) (by kernel_rfl) (by kernel_rfl) (fun _ _ _ h => h) (Or.inl ⟨by rfl, ?_⟩) (by assumption) ?_
  rotate_left
  · (intro w hSw; (try dsimp only at hSw); go_simp; try with_reducible rfl)
  try simp only [Act.put]
  refine wpAnyH_take (i := 10) (v := ?_) rfl (by kernel_rfl) (by kernel_rfl) (by kernel_rfl) (fun _ _ _ h => h) (Or.inl ⟨by rfl, ?_⟩) (by assumption) ?_
  rotate_left
  · (intro w hSw; (try dsimp only at hSw); go_simp; try with_reducible rfl)
  try simp only [Act.put]
  refine wpAnyH_take (i := 11) (v := ?_) rfl (by kernel_rfl) (by kernel_rfl) (by kernel_rfl) (fun _ _ _ h => h) (Or.inl ⟨by rfl, ?_⟩) (by assumption) ?_
  rotate_left
  · (intro w hSw; (try dsimp only at hSw); go_simp; try with_reducible rfl)
  try simp only [Act.put]
  refine wpAnyH_take (i := 12) (v := ?_) rfl (by kernel_rfl) (by kernel_rfl) (by kernel_rfl) (fun _ _ _ h => h) (Or.inl ⟨by rfl, ?_⟩) (by assumption) ?_
  rotate_left
  · (intro w hSw; (try dsimp only at hSw); go_simp; try with_reducible rfl)
  try simp only [Act.put]
  refine wpAnyH_take (i := 13) (v := ?_) rfl (by kernel_rfl) (by kernel_rfl) (by kernel_rfl) (fun _ _ _ h => h) (Or.inl ⟨by rfl, ?_⟩) (by assumption) ?_
  rotate_left
  · (intro w hSw; (try dsimp only at hSw); go_simp; try with_reducible rfl)
  try simp only [Act.put]
  refine wpAnyH_take (i := 14) (v := ?_) rfl (by kernel_rfl) (by kernel_rfl) (by kernel_rfl) (fun _ _ _ h => h) (Or.inl ⟨by rfl, ?_⟩) (by assumption) ?_
  rotate_left
  · (intro w hSw; (try dsimp only at hSw); go_simp; try with_reducible rfl)
  try simp only [Act.put]
  refine wpAnyH_ready (rs := [15]) (by kernel_rfl) (by simp) ?_
  refine AllReadyH.cons rfl (fun K hK => ?_) AllReadyH.nil
  go_simp
  refine hK.out _ _ hSA (fun hS1 => ?_)
  clear hK K
  try simp only [Act.put]
  clear hS0
  refine wpAnyH_ready (rs := [16]) (by kernel_rfl) (by simp) ?_
  refine AllReadyH.cons rfl (fun K hK => ?_) AllReadyH.nil
  refine step_app (vs := .slice p2 n2 c2) (vx := .slice (some ⟨W1.heap.size, 0, none⟩) 1 1) rfl (.tmp 26) (.tmp 29) 91 91 rfl rfl rfl HR2.out ?_
  refine hK.out _ _ hSB (fun hS2 => ?_)
  clear hK K
  try simp only [Act.put]
  clear hS1
  refine wpAnyH_done (by kernel_rfl) ?_ _
  show wpList _ _ _ _ _ _
  obtain ⟨D, hD, hback⟩ := MU.out
  refine wpList_mapUpdate_own _ rfl _ _ _ 177 rfl 9 91 keyedS Tryz.underlying177 RV m log.length D rfl hD (by unfold maxLen; omega) (.string e.st) (.slice (some q2) (n2 + 1) k2) (.string e.st.data.toList) rfl rfl (keyS e.st HST.out) (.held (.slice (some q2) (n2 + 1) k2)) [] rfl ?_
  intro w3 ho3 hg3
  obtain ⟨hls3, kp3⟩ := hback w3 ho3 hg3
  have HQ : Hid (LS w3 m (log ++ [e]) (fun s => if s = e.st then .slice (some q2) (n2 + 1) k2 else S s) ∧ Kp (fun k => SFoot m S k) W1.drew w3) := ⟨hls3, kp3⟩
  clear hback ho3 hg3 hD hls3 kp3 hSA hSB hS2 HR2 KP2 MU
  go_wp2
  refine bodyPost_end (results_none rfl _ _ _) rfl ?_
  obtain ⟨hls3, kp3⟩ := HQ.out
  have hkd : Kp (fun k => SFoot m S k) W1 w3 := (Kp.of_new (Below.refl _ _).drew).trans kp3
  refine ⟨rfl, _, _, ⟨HLE.out.kp hkd fun k hk hs => ?_, hls3⟩, HK1.out.trans (hkd.mono fun k _ hk => Or.inr hk), fun k hk => ?_⟩
  · rcases hs with rfl | ⟨s, hs⟩
    · obtain ⟨es, c, hm⟩ := HLS.out.mobj
      rcases hk with rfl | hk
      · rw [HLE.out.obj] at hm; cases hm
      · obtain ⟨C, hC⟩ := row_tag HLE.out.row hk
        rw [hC] at hm; cases hm
    · obtain ⟨xs, hx⟩ := HLS.out.str s
      obtain ⟨C, hC⟩ := row_tag hx hs
      rcases hk with rfl | hk
      · exact tag_ne hC HLE.out.obj (by decide) rfl
      · obtain ⟨C', hC'⟩ := row_tag HLE.out.row hk
        exact tag_ne hC hC' (by decide) rfl
  · rcases hk with (rfl | hk) | rfl | ⟨s, hk⟩
    · exact Or.inl (Or.inl (Or.inl rfl))
    · obtain rfl : q1.block = k := Option.some.inj hk
      rcases HOB.out.1 with h1 | h1
      · exact Or.inl (Or.inl (Or.inr h1))
      · exact Or.inr h1
    · exact Or.inl (Or.inr (Or.inl rfl))
    · dsimp only at hk
      by_cases hs : s = e.st
      · rw [if_pos hs] at hk
        obtain rfl : q2.block = k := Option.some.inj hk
        rcases HOB.out.2 with h1 | h1
        · exact Or.inl (Or.inr (Or.inr ⟨_, h1⟩))
        · exact Or.inr h1
      · rw [if_neg hs] at hk
        exact Or.inl (Or.inr (Or.inr ⟨s, hk⟩))
end Go.Proofs.YtploagfjajlloaaGreatDoor
