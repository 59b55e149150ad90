import Derived.Test.YtploagfjajlloaaGreatDoorOpA
import Derived.Stop.Asserts
import Derived.Laws.ResultCell
import Derived.Deep.Cut
namespace Go.Proofs.YtploagfjajlloaaGreatDoor
open Go.RowKit Jr

abbrev told (n : Int) : Array Value := #[.int .i64 n, .string ⟨#[]⟩, .int .i64 0, .int .i64 0, .bool false]
theorem noVersion (v : Value) (w : World) : (Instr.typeAssert (.iface 289 v) 54 116 true).run Tryz.prog w = .ok (.tuple #[.pointer none, .bool false]) w := by kernel_rfl
theorem noFail (v : Value) (w : World) : (Instr.typeAssert (.iface 289 v) 54 119 true).run Tryz.prog w = .ok (.tuple #[.pointer none, .bool false]) w := by kernel_rfl

set_option maxHeartbeats 1000000 in
theorem of_nil (p : Option Addr) (w : World) : Calls Tryz.prog 20 #[.nilIface, .pointer p] w fun e w' => e = .returned (.agg (told 0)) ∧ Below w.heap.size w w' := by
  go_enter Tryz.func20, Tryz.ntmps20
  go_wp2
  refine bodyPost_ret (v := .agg (told 0)) (by simp [results, Tryz.results20, go_sem]) rfl ⟨rfl, ?_⟩
  go_grown

abbrev er (a : Nat → Addr) (i : Nat) : Value := .iface 289 (.pointer (some (a i)))
set_option maxRecDepth 10000 in
set_option maxHeartbeats 4000000 in
theorem of_failed (a : Nat → Addr) (w : World) (hs : Sen 5 w a) : Calls Tryz.prog 20 #[.iface 289 (.pointer (some (a 4))), .pointer none] w fun e w' => e = .returned (.agg (told 6)) ∧ Below w.heap.size w w' := by
  have nv := noVersion
  have nf := noFail
  have g0 := hs.g0 (by omega)
  have g1 := hs.g1 (by omega)
  have g2 := hs.g2 (by omega)
  have g3 := hs.g3 (by omega)
  have g4 := hs.g4 (by omega)
  have l0 := hs.l0 (by omega)
  have l1 := hs.l1 (by omega)
  have l2 := hs.l2 (by omega)
  have l3 := hs.l3 (by omega)
  have l4 := hs.l4 (by omega)
  have es := fun w => eqlE_same w (a 4)
  have hs2 := hs.on ((((Below.refl _ _).alloc (Nat.le_refl _) (.cells #[.int .i64 0, .string ⟨#[]⟩, .int .i64 0, .int .i64 0, .bool false] 25)).alloc (by simp) (.cells #[.nilIface, er a 0, er a 1, er a 2, .nilIface, er a 3, er a 4] 54))) (Nat.le_refl _)
  have e0 := hs2.eql 4 0 (by omega) (by omega) (by omega)
  have e1 := hs2.eql 4 1 (by omega) (by omega) (by omega)
  have e2 := hs2.eql 4 2 (by omega) (by omega) (by omega)
  have e3 := hs2.eql 4 3 (by omega) (by omega) (by omega)
  clear hs hs2
  go_enter Tryz.func20, Tryz.ntmps20
  go_wp2
  refine wp_loop_rounds 7 ?_
  rw [rounds_succ]
  go_wp2
  rw [rounds_succ]
  go_wp2
  rw [rounds_succ]
  go_wp2
  rw [rounds_succ]
  go_wp2
  rw [rounds_succ]
  go_wp2
  rw [rounds_succ]
  go_wp2
  rw [rounds_succ]
  go_wp2
  refine bodyPost_ret (v := .agg (told 6)) (by simp [results, Tryz.results20, go_sem]) rfl ⟨rfl, ?_⟩
  go_grown
end Go.Proofs.YtploagfjajlloaaGreatDoor
namespace Go.Proofs.YtploagfjajlloaaGreatDoor
open Go.RowKit Jr

set_option maxRecDepth 10000 in
set_option maxHeartbeats 2000000 in
theorem jopen_none (a : Nat → Addr) (w : World) (hs : Sen 5 w a) : Calls Tryz.prog 19 #[.nilIface] w fun e w' => e = .returned (.tuple #[.pointer none, er a 4]) ∧ Below w.heap.size w w' := by
  have g4 := hs.g4 (by omega)
  clear hs
  go_enter Tryz.func19, Tryz.ntmps19
  go_wp2_with fail
  open Go.BigFrame in go_big_quiet (fail)
  go_wp2
  go_ret2
  exact ⟨rfl, below_drewN (Below.refl _ _) _⟩

/-- Five cells that can be written. -/
def Five (W : World) (b : Nat) : Prop := (∀ i, i < 5 → W.frozen? ⟨b, i, none⟩ = false) ∧ W.cell? ⟨b, 0, none⟩ = some (.int .i64 0) ∧ W.cell? ⟨b, 1, none⟩ = some (.string ⟨#[]⟩) ∧ W.cell? ⟨b, 2, none⟩ = some (.int .i64 0) ∧ W.cell? ⟨b, 3, none⟩ = some (.int .i64 0) ∧ W.cell? ⟨b, 4, none⟩ = some (.bool false)
theorem five_obj {W : World} {b : Nat} (h : W.heap[b]? = some (.cells (told 0) 25 (0, 0))) : Five W b := ⟨fun _ _ => frozen_obj h, cell_obj h, cell_obj h, cell_obj h, cell_obj h, cell_obj h⟩
theorem kp_five (W : World) (b : Nat) (x0 x1 x2 x3 x4 : Value) : Kp (· = b) W (((((W.setCell ⟨b, 0, none⟩ x0).setCell ⟨b, 1, none⟩ x1).setCell ⟨b, 2, none⟩ x2).setCell ⟨b, 3, none⟩ x3).setCell ⟨b, 4, none⟩ x4) :=
  (((((Kp.refl (· = b) W).setCell (a := ⟨b, 0, none⟩) (fun _ => rfl) _).setCell (a := ⟨b, 1, none⟩) (fun _ => rfl) _).setCell (a := ⟨b, 2, none⟩) (fun _ => rfl) _).setCell (a := ⟨b, 3, none⟩) (fun _ => rfl) _).setCell (a := ⟨b, 4, none⟩) (fun _ => rfl) _
theorem Dk.other {w : World} {d : Nat} {dv : Value} {L : List DF} {c s x : Int} (h : Dk w d dv L c s x) {z : Nat} {C : Array Value} {t : TypeId} {fr : Nat × Nat} (ho : w.heap[z]? = some (.cells C t fr)) (h1 : t ≠ 65) (h2 : t ≠ 66) (h3 : t ≠ 69) (h4 : t ≠ 5) : ∀ k, DFoot d dv L k → ¬ k = z := fun k hk e => by
  subst e
  rcases hk with rfl | hk | ⟨f, hf, hk⟩
  · exact tag_ne ho h.obj h1 rfl
  · obtain ⟨C', hC'⟩ := row_tag h.row hk
    exact tag_ne ho hC' h2 rfl
  · have hfi := h.files f hf
    obtain ⟨C1, r1, t1⟩ := hfi.sb.tag
    obtain ⟨C2, r2, t2⟩ := hfi.nb.tag
    rcases hk with rfl | rfl | rfl
    · exact tag_ne ho hfi.obj h3 rfl
    · exact tag_ne ho t1 h4 rfl
    · exact tag_ne ho t2 h4 rfl

set_option maxRecDepth 10000 in
set_option maxHeartbeats 2000000 in
theorem popennone (a : Nat → Addr) (w : World) (hs : Sen 5 w a) : Calls Tryz.prog 5 #[] w fun e w' => e = .returned (.tuple #[.bool false, .agg (told 6)]) ∧ Below w.heap.size w w' := by
  have hb1 : Below w.heap.size w (w.alloc (.cells (told 0) 25)) := (Below.refl _ _).alloc (Nat.le_refl _) _
  have HS1 : Hid (Sen 5 (w.alloc (.cells (told 0) 25)) a) := hs.on hb1 (Nat.le_refl _)
  have o1 : (w.alloc (.cells (told 0) 25)).heap[w.heap.size]? = some (.cells (told 0) 25 (0, 0)) := obj_new _ _
  have HO : Hid ((w.alloc (.cells (told 0) 25)).heap[w.heap.size]? = some (.cells (told 0) 25 (0, 0))) := o1
  have HB1 : Hid (Below w.heap.size w (w.alloc (.cells (told 0) 25))) := hb1
  obtain ⟨W0, hW0⟩ : ∃ W0, W0 = w.alloc (.cells (told 0) 25) := ⟨_, rfl⟩
  rw [← hW0] at HS1 HO HB1
  clear hs hb1 o1
  go_enter Tryz.func5, Tryz.ntmps5
  go_upto_region 1 with fail
  have hW0' : w.alloc (.cells #[.int .i64 0, .string ⟨#[]⟩, .int .i64 0, .int .i64 0, .bool false] 25) = W0 := hW0.symm
  rw [hW0']
  clear hW0 hW0'
  go_upto_region 2 with (go_at_call 19; refine Calls.mono (jopen_none a W0 HS1.out) ?_; rintro e W1 ⟨rfl, hb1⟩)
  have HS2 : Hid (Sen 5 W1 a) := HS1.out.on hb1 (Nat.le_refl _)
  have HO2 : Hid (W1.heap[w.heap.size]? = some (.cells (told 0) 25 (0, 0))) := below_obj hb1 (heap_lt HO.out) HO.out
  have HB2 : Hid (Below w.heap.size w W1) := HB1.out.trans (hb1.mono HB1.out.size)
  clear hb1 HS1 HO HB1
  go_wp2_with (go_at_call 20; refine (of_failed a W1 HS2.out).mono ?_; rintro e W3 ⟨rfl, hb3⟩; obtain ⟨f, c0, c1, c2, c3, c4⟩ := five_obj (below_obj hb3 (heap_lt HO2.out) HO2.out); have f0 := f 0 (by omega); have f1 := f 1 (by omega); have f2 := f 2 (by omega); have f3 := f 3 (by omega); have f4 := f 4 (by omega); have HB3 : Hid (Below w.heap.size w W3) := HB2.out.trans (hb3.mono HB2.out.size); clear HS2 hb3 HB2 f HO2)
  refine bodyPost_ret (v := .tuple #[.bool false, .agg (told 6)]) (by simp [results, Tryz.results5, go_sem, c0, c1, c2, c3, c4]) rfl ⟨rfl, ?_⟩
  exact ((((HB3.out.setCell (by simp) _).setCell (by simp) _).setCell (by simp) _).setCell (by simp) _).setCell (by simp) _

abbrev psobj (sb d : Nat) : Obj := .cells #[.pointer (some ⟨sb, 0, none⟩), .pointer (some ⟨d, 0, none⟩)] 71 (0, 0)
/-- A store that was opened. -/
structure OSt (w : World) (ps sb d g m : Nat) (v : Value) (log : List Ev) (S : ByteArray → Value) : Prop where
  ps : w.heap[ps]? = some (psobj sb d)
  sb : w.heap[sb]? = some (sobj (.pointer (some ⟨g, 0, none⟩)) false)
  lg : LogIs w g m v log S

set_option maxRecDepth 10000 in
set_option maxHeartbeats 4000000 in
theorem popen (a : Nat → Addr) (d : Nat) (dv : Value) (L : List DF) (c s x : Int) (w0 w : World) (hs : Sen 3 w0 a) (ht : Tab w0) (hB : Below w0.heap.size w0 w) (hd : Dk w d dv L c s x) (hdB : w0.heap.size ≤ d) (hT : tot (L.map DF.nf) ≤ 67108864)
    (hL : L.length ≤ 1073741824) (hnd : (L.map DF.name).Nodup) (hnm : ∀ f ∈ L, f.name.size ≤ 9223372036854775807) :
    Calls Tryz.prog 8 #[.pointer (some ⟨d, 0, none⟩)] w fun e w' => ∃ ps sb g m v S dv' L' c' s' x', e = .returned (.tuple #[.pointer (some ⟨ps, 0, none⟩), .agg (told 0)]) ∧ OSt w' ps sb d g m v (logOf (L.map DF.nf)).1 S ∧ Dk w' d dv' L' c' s' x' ∧ Kp (DW d L) w w' ∧
      (∀ f' ∈ L', ∃ f ∈ L, f'.blk = f.blk) ∧ L'.map DF.nf = opn (L.map DF.nf) ∧ ((∀ f ∈ L, f.safe = f.now) → L'.map DF.sf = opn (L.map DF.nf)) ∧ (opn (L.map DF.nf) = L.map DF.nf → x' = x) ∧ w.heap.size ≤ sb := by
  have hb1 : Below w.heap.size w (w.alloc (.cells (told 0) 25)) := (Below.refl _ _).alloc (Nat.le_refl _) _
  have o1 : (w.alloc (.cells (told 0) 25)).heap[w.heap.size]? = some (.cells (told 0) 25 (0, 0)) := obj_new _ _
  obtain ⟨W0, hW0⟩ : ∃ W0, W0 = w.alloc (.cells (told 0) 25) := ⟨_, rfl⟩
  rw [← hW0] at o1 hb1
  have HO : Hid (W0.heap[w.heap.size]? = some (.cells (told 0) 25 (0, 0))) := o1
  have HB1 : Hid (Below w.heap.size w W0) := hb1
  have HJ : Hid _ := jopen a d dv L c s x w0 W0 hs ht (hB.trans (hb1.mono hB.size)) (hd.new hb1) hdB hT hL hnd hnm
  have hz0 : w.heap.size < W0.heap.size := heap_lt o1
  have HD0 : Hid (Dk W0 d dv L c s x) := hd.new hb1
  clear hs ht hB hd hT hnd hnm hb1 o1
  go_enter Tryz.func8, Tryz.ntmps8
  go_upto_region 1 with fail
  have hW0' : w.alloc (.cells #[.int .i64 0, .string ⟨#[]⟩, .int .i64 0, .int .i64 0, .bool false] 25) = W0 := hW0.symm
  rw [hW0']
  clear hW0 hW0'
  go_upto_region 4 with (go_at_call 19; refine Calls.mono HJ.out ?_; rintro e W1 ⟨sb, g, m, v, S, dv', L', c', s', x', rfl, hsb, hlg, hdk, hkp, hq1, hq2, hq3, hq4, hq5, hq6⟩)
  have HQ : Hid ((∀ f' ∈ L', ∃ f ∈ L, f'.blk = f.blk) ∧ L'.map DF.nf = opn (L.map DF.nf) ∧ ((∀ f ∈ L, f.safe = f.now) → L'.map DF.sf = opn (L.map DF.nf)) ∧ (opn (L.map DF.nf) = L.map DF.nf → x' = x) ∧ W0.heap.size ≤ sb ∧ ∀ k, LFoot g m v S k → W0.heap.size ≤ k) := ⟨hq1, hq2, hq3, hq4, hq5, hq6⟩
  have HO1 : Hid (W1.heap[w.heap.size]? = some (.cells (told 0) 25 (0, 0))) := hkp.obj (HD0.out.tagnot HO.out (by decide) (by decide)) HO.out
  have HS1 : Hid (W1.heap[sb]? = some (sobj (.pointer (some ⟨g, 0, none⟩)) false) ∧ LogIs W1 g m v (logOf (L.map DF.nf)).1 S ∧ Dk W1 d dv' L' c' s' x' ∧ Kp (DW d L) w W1) := ⟨hsb, hlg, hdk, (Kp.of_new HB1.out).trans hkp⟩
  clear hq1 hq2 hq3 hq4 hq5 hq6 hsb hlg hdk hkp HJ HO HD0 HB1
  have hbb : Below W1.heap.size W1 (W1.alloc (psobj sb d)) := (Below.refl _ _).alloc (Nat.le_refl _) _
  have HBB : Hid (Below W1.heap.size W1 (W1.alloc (psobj sb d))) := hbb
  have opp : (W1.alloc (psobj sb d)).heap[W1.heap.size]? = some (psobj sb d) := obj_new _ _
  have HOP : Hid ((W1.alloc (psobj sb d)).heap[W1.heap.size]? = some (psobj sb d)) := opp
  clear hbb opp
  go_wp2_with (go_at_call 20; refine (of_nil _ _).mono ?_; rintro e W3 ⟨rfl, hb3⟩; have HB3 : Hid (Below (W1.alloc (psobj sb d)).heap.size (W1.alloc (psobj sb d)) W3) := hb3; obtain ⟨f, c0, c1, c2, c3, c4⟩ := five_obj (below_obj hb3 (Nat.lt_of_lt_of_le (heap_lt HO1.out) HBB.out.size) (below_obj HBB.out (heap_lt HO1.out) HO1.out)); have f0 := f 0 (by omega); have f1 := f 1 (by omega); have f2 := f 2 (by omega); have f3 := f 3 (by omega); have f4 := f 4 (by omega); clear hb3 f)
  refine bodyPost_ret (v := .tuple #[.pointer (some ⟨W1.heap.size, 0, none⟩), .agg (told 0)]) (by simp [results, Tryz.results8, go_sem, c0, c1, c2, c3, c4]) rfl ?_
  obtain ⟨q1, q2, q3, q4, q5, q6⟩ := HQ.out
  obtain ⟨p1, p2, p3, p4⟩ := HS1.out
  have hbA := HBB.out
  have hbB := HB3.out
  have hk5 := kp_five W3 w.heap.size (.int .i64 0) (.string ⟨#[]⟩) (.int .i64 0) (.int .i64 0) (.bool false)
  have ot3 : W3.heap[w.heap.size]? = some (.cells (told 0) 25 (0, 0)) := below_obj hbB (Nat.lt_of_lt_of_le (heap_lt HO1.out) hbA.size) (below_obj hbA (heap_lt HO1.out) HO1.out)
  refine ⟨W1.heap.size, sb, g, m, v, S, dv', L', c', s', x', rfl, ⟨hk5.obj ?_ (below_obj hbB (heap_lt HOP.out) HOP.out), hk5.obj ?_ (below_obj hbB (Nat.lt_of_lt_of_le (heap_lt p1) hbA.size) (below_obj hbA (heap_lt p1) p1)), ((p2.new hbA).new hbB).kp hk5 fun k hf => ?_⟩, ((p3.new hbA).new hbB).kp hk5 (((p3.new hbA).new hbB).other ot3 (by decide) (by decide) (by decide) (by decide)), ((p4.trans (Kp.of_new hbA)).trans (Kp.of_new hbB)).andThen hk5 fun i hi e => by omega, q1, q2, q3, q4, by omega⟩
  · have := heap_lt HO1.out; omega
  · omega
  · have := q6 k hf; omega
end Go.Proofs.YtploagfjajlloaaGreatDoor
