import Derived.Test.YtploagfjajlloaaGreatDoorDkA
import Derived.Test.YtploagfjajlloaaGreatDoorConv
namespace Go.Proofs.YtploagfjajlloaaGreatDoor
open Go.RowKit Jr

def bl (c : ByteArray) : List Nat := (List.range c.size).map (byt c)
theorem bl_length (c : ByteArray) : (bl c).length = c.size := by simp [bl]
theorem bl_get (c : ByteArray) (i : Nat) (h : i < c.size) : (bl c).getD i 0 = byt c i := by simp [bl, List.getD, h]
/-- append([]byte{}, x...) -/
theorem app_fresh (w : World) (b off cap : Nat) (c : ByteArray) (hb : b < w.heap.size) (hc : ∀ i, i < c.size → w.cell? ⟨b, off + i, none⟩ = some (.int .u8 (byt c i : Nat))) (hsz : c.size ≤ 1000000000000) :
    ∃ v' g' w', Hid (∀ ty, (Builtin.append_ #[59, 59] ty #[.slice (some ⟨w.heap.size, 0, none⟩) 0 0, .slice (some ⟨b, off, none⟩) c.size cap]).run Tryz.prog (w.alloc (.cells #[] 5)) = .ok v' w') ∧ BS w' v' g' c ∧ w.heap.size ≤ g' ∧ Below w.heap.size w w' := by
  obtain ⟨i0, hi, hz, hs, hby⟩ := infoU8
  have hb1 : Below w.heap.size w (w.alloc (.cells #[] 5)) := (Below.refl _ _).alloc (Nat.le_refl _) _
  have hc1 : ∀ i, i < (bl c).length → (w.alloc (.cells #[] 5)).cell? ⟨b, off + i, none⟩ = some (.int .u8 ((bl c).getD i 0 : Nat)) := fun i hi => by
    rw [bl_length] at hi; rw [bl_get c i hi]; exact (hb1.cell (p := ⟨b, off + i, none⟩) hb).trans (hc i hi)
  have hsrc := src_cells (w.alloc (.cells #[] 5)) b off cap (bl c) hc1
  rw [← hs] at hsrc
  by_cases h0 : c.size = 0
  · have hm : bc (bl c) = [] := by have := bl_length c; rw [h0] at this; rw [List.eq_nil_of_length_eq_zero this]; rfl
    have hrun := fun ty => run_append_room_src (w.alloc (.cells #[] 5)) 59 59 ty 5 i0 Tryz.underlying59 hi w.heap.size 0 0 0 _ _ _ hsrc (by rw [bl_length]; omega) (fun j hj => by rw [hm] at hj; simp at hj) (fun j hj => by rw [hm] at hj; simp at hj)
    rw [hm, bl_length, h0] at hrun
    refine ⟨_, w.heap.size, _, fun ty => by rw [h0]; exact hrun ty, ?_, Nat.le_refl _, hb1⟩
    exact ⟨⟨0, 0, by rw [h0], by omega, by omega, fun i hi => by omega⟩, #[], (0, 0), obj_new w _⟩
  · have hold : (Builtin.firstCells i0.size 0 (.slice (some ⟨w.heap.size, 0, none⟩) 0 0)).run Tryz.prog (w.alloc (.cells #[] 5)).drew = .ok (#[] : Array Value) (w.alloc (.cells #[] 5)).drew :=
      run_firstCells_some _ i0.size 0 ⟨w.heap.size, 0, none⟩ 0 0 [] (by simp) (fun j u hj => by simp at hj)
    have hgc : (bl c).length ≤ grownCap (w.alloc (.cells #[] 5)) (0 + (bl c).length) 0 5 := by have := grownCap_ge (w.alloc (.cells #[] 5)) (0 + (bl c).length) 0 5; omega
    have hgm := grownCap_le_maxLen (w.alloc (.cells #[] 5)) (0 + (bl c).length) 0 5 (by rw [bl_length]; unfold maxLen; omega)
    have hrun := fun ty => run_append_grow_src (w.alloc (.cells #[] 5)) 59 59 ty 5 i0 (.int .u8 0) Tryz.underlying59 hi hz (some ⟨w.heap.size, 0, none⟩) 0 0 [] hold _ (bl c).length (bc (bl c)) hsrc (by rw [bl_length]; omega) (by rw [bl_length]; omega) (growslice_fits (by rw [bl_length]; omega) (by rw [hby, bl_length]; omega))
    refine ⟨_, (w.alloc (.cells #[] 5)).heap.size, _, fun ty => by rw [← bl_length c]; exact hrun ty, ?_, hb1.size, hb1.trans (((Below.refl _ _).drew.alloc hb1.size _))⟩
    have hown := own_alloc (w.alloc (.cells #[] 5)).drew (bl c) ((([] : List Value) ++ bc (bl c)).toArray ++ Builtin.zeroCells (Value.int .u8 0).cells (grownCap (w.alloc (.cells #[] 5)) (0 + (bl c).length) 0 5 - (0 + (bl c).length))) (grownCap (w.alloc (.cells #[] 5)) (0 + (bl c).length) 0 5) (0, 0) (Or.inl rfl) hgc
      (by rw [Array.size_append, size_zeroCells]; show (bc (bl c)).length + _ * 1 = _; rw [bc_length]; omega)
      (fun i hi' => by rw [Array.getElem?_append_left (by simpa [bc_length] using hi')]; simpa using bc_get (bl c) i hi')
    refine ⟨⟨0, _, by rw [bl_length, Nat.zero_add], by rw [← bl_length c]; simpa using hgc, ?_, fun i hi => ?_⟩, _, (0, 0), obj_new _ _⟩
    · unfold maxLen at hgm; rw [bl_length, Nat.zero_add] at hgm; omega
    · have := hown.cell i (by rw [bl_length]; exact hi)
      rw [bl_get c i hi] at this
      simp only [Nat.zero_add] at this ⊢; exact this

/-- One file has turned. -/
theorem Dk.file {w w' : World} {d : Nat} {v : Value} {L : List DF} {c s x : Int} (h : Dk w d v L c s x) {i : Nat} {f f' : DF} (hi : L[i]? = some f) (hk : Kp (· = f.blk) w w') (hf : FileIs w' f') (hb : f'.blk = f.blk) : Dk w' d v (L.set i f') c s x := by
  have hfi := h.files f (List.mem_of_getElem? hi)
  have hil : i < L.length := (List.getElem?_eq_some_iff.1 hi).1
  have hmap : (L.set i f').map DF.blk = L.map DF.blk := by
    apply List.ext_getElem?
    intro j
    simp only [List.getElem?_map, List.getElem?_set]
    split
    · rename_i e; subst e; simp [hi, hb]
    · rfl
  have hmap' : (L.set i f').map fptr = L.map fptr := by
    have e : ∀ l : List DF, l.map fptr = (l.map DF.blk).map fun b => Value.pointer (some ⟨b, 0, none⟩) := fun l => by simp [Function.comp_def]
    rw [e, e, hmap]
  refine ⟨hk.obj (tag_ne h.obj hfi.obj (by decide)) h.obj, ?_, fun e he => ?_, by rw [hmap]; exact h.nd⟩
  · rw [hmap', List.length_set]
    exact row_on h.row hk (fun k e => by obtain ⟨C, hC⟩ := row_tag h.row e; exact tag_ne hC hfi.obj (by decide))
  · obtain ⟨j, hj⟩ := List.getElem?_of_mem he
    rw [List.getElem?_set] at hj
    by_cases hij : i = j
    · rw [if_pos hij, if_pos hil] at hj
      obtain rfl := Option.some.inj hj
      exact hf
    · rw [if_neg hij] at hj
      have hei := h.files e (List.mem_of_getElem? hj)
      obtain ⟨C1, r1, t1⟩ := hei.sb.tag
      obtain ⟨C2, r2, t2⟩ := hei.nb.tag
      refine hei.of_same (hk.block _ (heap_lt hei.obj) fun ee => hij ?_) (hk.block _ (heap_lt t1) (tag_ne t1 hfi.obj (by decide))) (hk.block _ (heap_lt t2) (tag_ne t2 hfi.obj (by decide)))
      have hjl : j < L.length := (List.getElem?_eq_some_iff.1 hj).1
      have h1 : (L.map DF.blk)[i]? = some f.blk := by simp [hi]
      have h2 : (L.map DF.blk)[j]? = some f.blk := by simp [hj, ee]
      exact (List.getElem?_inj (by simpa using hil) h.nd).1 (h1.trans h2.symm)

/-- What the files find under a name. -/
structure At (L : List DF) (nm : ByteArray) (i : Nat) (f : DF) : Prop where
  get : L[i]? = some f
  name : f.name = nm
  first : ∀ (j : Nat) (f' : DF), j < i → L[j]? = some f' → f'.name ≠ nm

set_option maxRecDepth 10000 in
set_option maxHeartbeats 2000000 in
theorem dread (d : Nat) (v : Value) (L : List DF) (c s x : Int) (nm : ByteArray) (i : Nat) (f : DF) (w : World) (h : Dk w d v L c s x) (hat : At L nm i f) (hsz : f.now.size ≤ 1000000000000) :
    Calls Tryz.prog 210 #[.pointer (some ⟨d, 0, none⟩), .string nm] w fun e w' => ∃ v' g', e = .returned (.tuple #[v', .nilIface]) ∧ BS w' v' g' f.now ∧ w.heap.size ≤ g' ∧ Dk w' d v L (wrap64 (c + 1)) s x ∧ Kp (· = d) w w' := by
  have HO := h.obj
  have HH : Hid (Dk w d v L c s x) := h
  have HA : Hid (At L nm i f) := hat
  clear h hat
  go_enter Tryz.func210, Tryz.ntmps210
  go_upto_region 2 with (go_at_call 215; refine (denter d v c s x w HO).mono ?_; rintro e W1 ⟨rfl, hh1, hk1⟩)
  have h1 := HH.out.entered hk1 hh1
  have H1 : Hid (Dk W1 d v L (wrap64 (c + 1)) s x) := h1
  have K1 : Hid (Kp (· = d) w W1) := hk1
  have hfi := h1.files f (List.mem_of_getElem? HA.out.get)
  have cf : W1.cell? ⟨f.blk, 2, none⟩ = some f.nv := cell_obj hfi.obj
  obtain ⟨off, cap, hv, hl1, hl2, hcells⟩ := hfi.nb.shape
  rw [hv] at cf
  obtain ⟨v', g', W2, HR, hbs, hg', hb2⟩ := app_fresh W1 f.ng off cap f.now hfi.nb.lt hcells hsz
  have cf2 : (W1.alloc (.cells #[] 5)).cell? ⟨f.blk, 2, none⟩ = some (.slice (some ⟨f.ng, off, none⟩) f.now.size cap) := by
    rw [World.cell?_alloc_past _ _ _ (heap_lt hfi.obj)]; exact cf
  have HB : Hid (BS W2 v' g' f.now ∧ W1.heap.size ≤ g' ∧ Below W1.heap.size W1 W2) := ⟨hbs, hg', hb2⟩
  clear hbs hg' hb2 hcells hv hfi h1 hh1 hk1 HO
  go_upto_region 3 with (go_at_call 22; refine (dfind d v L _ s x nm (fptr f) W1 H1.out (Or.inr ⟨i, f, HA.out.get, rfl, HA.out.name, HA.out.first⟩)).mono ?_; rintro e w' ⟨rfl, rfl⟩)
  go_wp2_with (at_builtin; refine wpList_app rfl _ _ _ _ rfl rfl rfl HR.out ?_)
  refine bodyPost_ret (v := .tuple #[v', .nilIface]) (by simp [results, Tryz.results210, go_sem]) rfl ⟨v', g', rfl, HB.out.1, Nat.le_trans K1.out.size HB.out.2.1, H1.out.new HB.out.2.2, K1.out.trans (Kp.of_new HB.out.2.2)⟩
end Go.Proofs.YtploagfjajlloaaGreatDoor
namespace Go.Proofs.YtploagfjajlloaaGreatDoor
open Go.RowKit Jr

set_option maxRecDepth 10000 in
set_option maxHeartbeats 2000000 in
theorem dhalf_sync (d : Nat) (v : Value) (L : List DF) (c s x : Int) (p1 p2 : Nat) (R : World → Prop) (w : World) (h : Dk w d v L c s x)
    (hK : ∀ W, Dk W d v L (wrap64 (c + 1)) s x → Kp (· = d) w W → Calls Tryz.prog 217 #[.pointer (some ⟨p1, 0, none⟩), .pointer (some ⟨p2, 0, none⟩)] W fun e w' => e = .returned (.tuple #[]) ∧ R w') :
    Calls Tryz.prog 213 #[.pointer (some ⟨d, 0, none⟩), .func (.func 217) #[] #[.pointer (some ⟨p1, 0, none⟩), .pointer (some ⟨p2, 0, none⟩)]] w fun e w' => e = .returned .nilIface ∧ R w' := by
  have HO := h.obj
  have HH : Hid (Dk w d v L c s x) := h
  clear h
  go_enter Tryz.func213, Tryz.ntmps213
  go_upto_region 2 with (go_at_call 215; refine (denter d v c s x w HO).mono ?_; rintro e W1 ⟨rfl, hh1, hk1⟩)
  have H1 : Hid (Calls Tryz.prog 217 #[.pointer (some ⟨p1, 0, none⟩), .pointer (some ⟨p2, 0, none⟩)] W1 fun e w' => e = .returned (.tuple #[]) ∧ R w') := hK W1 (HH.out.entered hk1 hh1) hk1
  clear hh1 hk1 HH HO hK
  go_wp2_with (go_at_call 217; refine Calls.mono H1.out ?_; rintro e W2 ⟨rfl, hR⟩)
  go_ret
  exact ⟨rfl, hR⟩

set_option maxRecDepth 10000 in
set_option maxHeartbeats 2000000 in
theorem dhalf_remove (d : Nat) (v : Value) (L : List DF) (c s x : Int) (p1 p2 : Nat) (R : World → Prop) (w : World) (h : Dk w d v L c s x)
    (hK : ∀ W, Dk W d v L (wrap64 (c + 1)) s x → Kp (· = d) w W → Calls Tryz.prog 216 #[.pointer (some ⟨p1, 0, none⟩), .pointer (some ⟨p2, 0, none⟩)] W fun e w' => e = .returned (.tuple #[]) ∧ R w') :
    Calls Tryz.prog 213 #[.pointer (some ⟨d, 0, none⟩), .func (.func 216) #[] #[.pointer (some ⟨p1, 0, none⟩), .pointer (some ⟨p2, 0, none⟩)]] w fun e w' => e = .returned .nilIface ∧ R w' := by
  have HO := h.obj
  have HH : Hid (Dk w d v L c s x) := h
  clear h
  go_enter Tryz.func213, Tryz.ntmps213
  go_upto_region 2 with (go_at_call 215; refine (denter d v c s x w HO).mono ?_; rintro e W1 ⟨rfl, hh1, hk1⟩)
  have H1 : Hid (Calls Tryz.prog 216 #[.pointer (some ⟨p1, 0, none⟩), .pointer (some ⟨p2, 0, none⟩)] W1 fun e w' => e = .returned (.tuple #[]) ∧ R w') := hK W1 (HH.out.entered hk1 hh1) hk1
  clear hh1 hk1 HH HO hK
  go_wp2_with (go_at_call 216; refine Calls.mono H1.out ?_; rintro e W2 ⟨rfl, hR⟩)
  go_ret
  exact ⟨rfl, hR⟩

set_option maxRecDepth 10000 in
set_option maxHeartbeats 2000000 in
theorem dhalf_cut (d : Nat) (v : Value) (L : List DF) (c s x : Int) (p1 p2 p3 : Nat) (R : World → Prop) (w : World) (h : Dk w d v L c s x)
    (hK : ∀ W, Dk W d v L (wrap64 (c + 1)) s x → Kp (· = d) w W → Calls Tryz.prog 214 #[.pointer (some ⟨p1, 0, none⟩), .pointer (some ⟨p2, 0, none⟩), .pointer (some ⟨p3, 0, none⟩)] W fun e w' => e = .returned (.tuple #[]) ∧ R w') :
    Calls Tryz.prog 213 #[.pointer (some ⟨d, 0, none⟩), .func (.func 214) #[] #[.pointer (some ⟨p1, 0, none⟩), .pointer (some ⟨p2, 0, none⟩), .pointer (some ⟨p3, 0, none⟩)]] w fun e w' => e = .returned .nilIface ∧ R w' := by
  have HO := h.obj
  have HH : Hid (Dk w d v L c s x) := h
  clear h
  go_enter Tryz.func213, Tryz.ntmps213
  go_upto_region 2 with (go_at_call 215; refine (denter d v c s x w HO).mono ?_; rintro e W1 ⟨rfl, hh1, hk1⟩)
  have H1 : Hid (Calls Tryz.prog 214 #[.pointer (some ⟨p1, 0, none⟩), .pointer (some ⟨p2, 0, none⟩), .pointer (some ⟨p3, 0, none⟩)] W1 fun e w' => e = .returned (.tuple #[]) ∧ R w') := hK W1 (HH.out.entered hk1 hh1) hk1
  clear hh1 hk1 HH HO hK
  go_wp2_with (go_at_call 214; refine Calls.mono H1.out ?_; rintro e W2 ⟨rfl, hR⟩)
  go_ret
  exact ⟨rfl, hR⟩

set_option maxRecDepth 10000 in
set_option maxHeartbeats 2000000 in
theorem dsync1 (p1 p2 d : Nat) (v : Value) (L : List DF) (c s x : Int) (nm : ByteArray) (i : Nat) (f : DF) (w : World) (h : Dk w d v L c s x) (hat : At L nm i f) (hsz : f.now.size ≤ 1000000000000)
    (o1 : w.heap[p1]? = some (.cells #[.pointer (some ⟨d, 0, none⟩)] 30 (0, 0))) (o2 : w.heap[p2]? = some (.cells #[.string nm] 9 (0, 0))) :
    Calls Tryz.prog 217 #[.pointer (some ⟨p1, 0, none⟩), .pointer (some ⟨p2, 0, none⟩)] w fun e w' => e = .returned (.tuple #[]) ∧ ∃ v' g', Dk w' d v (L.set i { f with safe := f.now, sv := v', sg := g' }) c (wrap64 (s + 1)) x ∧ Kp (fun k => k = d ∨ k = f.blk) w w' := by
  have c1 : w.cell? ⟨p1, 0, none⟩ = some (.pointer (some ⟨d, 0, none⟩)) := cell_obj o1
  have c6 : w.cell? ⟨d, 6, none⟩ = some (.int .i64 s) := cell_obj h.obj
  have f6 : w.frozen? ⟨d, 6, none⟩ = false := frozen_obj h.obj
  have k1 : Kp (· = d) w (w.setCell ⟨d, 6, none⟩ (.int .i64 (wrap64 (s + 1)))) := (Kp.refl (· = d) w).setCell (a := ⟨d, 6, none⟩) (fun _ => rfl) _
  have h1 : Dk (w.setCell ⟨d, 6, none⟩ (.int .i64 (wrap64 (s + 1)))) d v L c (wrap64 (s + 1)) x := h.touch k1 (by show (w.setCell ⟨d, 6, none⟩ _).heap[d]? = _; rw [obj_setCell_same h.obj]; rfl)
  have e1 : (w.setCell ⟨d, 6, none⟩ (.int .i64 (wrap64 (s + 1)))).cell? ⟨p1, 0, none⟩ = some (.pointer (some ⟨d, 0, none⟩)) := k1.cell (tag_ne o1 h.obj (by decide)) c1
  have e2 : (w.setCell ⟨d, 6, none⟩ (.int .i64 (wrap64 (s + 1)))).cell? ⟨p2, 0, none⟩ = some (.string nm) := k1.cell (tag_ne o2 h.obj (by decide)) (cell_obj o2)
  go_enter Tryz.func217, Tryz.ntmps217
  go_upto_region 1 with fail
  obtain ⟨W1, hW1⟩ : ∃ W1, W1 = w.setCell ⟨d, 6, none⟩ (.int .i64 (wrap64 (s + 1))) := ⟨_, rfl⟩
  rw [← hW1] at k1 h1 e1 e2 ⊢
  have H1 : Hid (Dk W1 d v L c (wrap64 (s + 1)) x) := h1
  have K1 : Hid (Kp (· = d) w W1) := k1
  have HA : Hid (At L nm i f) := hat
  have hfi := h1.files f (List.mem_of_getElem? hat.get)
  have cf : W1.cell? ⟨f.blk, 2, none⟩ = some f.nv := cell_obj hfi.obj
  obtain ⟨off, cap, hv, hl1, hl2, hcells⟩ := hfi.nb.shape
  rw [hv] at cf
  obtain ⟨v', g', W2, HR, hbs, hg', hb2⟩ := app_fresh W1 f.ng off cap f.now hfi.nb.lt hcells hsz
  obtain ⟨o', k', hv', -⟩ := hbs.shape
  subst hv'
  have cf2 : (W1.alloc (.cells #[] 5)).cell? ⟨f.blk, 2, none⟩ = some (.slice (some ⟨f.ng, off, none⟩) f.now.size cap) := by
    rw [World.cell?_alloc_past _ _ _ (heap_lt hfi.obj)]; exact cf
  have o3 : W2.heap[f.blk]? = some (.cells (fcells f) 69 (0, 0)) := below_obj hb2 (heap_lt hfi.obj) hfi.obj
  have c3 : W2.cell? ⟨f.blk, 1, none⟩ = some f.sv := cell_obj o3
  have c3' : W2.cell? ⟨f.blk, 3, none⟩ = some (.bool true) := cell_obj o3
  have f3 : W2.frozen? ⟨f.blk, 1, none⟩ = false := frozen_obj o3
  have f3' : W2.frozen? ⟨f.blk, 3, none⟩ = false := frozen_obj o3
  have HF : Hid (FileIs ((W2.setCell ⟨f.blk, 1, none⟩ (.slice (some ⟨g', o', none⟩) f.now.size k')).setCell ⟨f.blk, 3, none⟩ (.bool true)) { f with safe := f.now, sv := .slice (some ⟨g', o', none⟩) f.now.size k', sg := g' }) := by
    obtain ⟨C1, r1, t1⟩ := hbs.tag
    obtain ⟨C2, r2, t2⟩ := hfi.nb.tag
    have t2' := below_obj hb2 (heap_lt t2) t2
    refine ⟨?_, hbs.of_same ?_, (hfi.nb.of_same (hb2.block _ (heap_lt t2))).of_same ?_⟩
    · rw [obj_setCell_same (obj_setCell_same o3)]; rfl
    · rw [obj_setCell_other (tag_ne t1 o3 (by decide)), obj_setCell_other (tag_ne t1 o3 (by decide))]
    · rw [obj_setCell_other (tag_ne t2' o3 (by decide)), obj_setCell_other (tag_ne t2' o3 (by decide))]
  have HK2 : Hid (Kp (· = f.blk) W1 ((W2.setCell ⟨f.blk, 1, none⟩ (.slice (some ⟨g', o', none⟩) f.now.size k')).setCell ⟨f.blk, 3, none⟩ (.bool true))) := ((Kp.of_new (F := (· = f.blk)) hb2).setCell (a := ⟨f.blk, 1, none⟩) (fun _ => rfl) _).setCell (a := ⟨f.blk, 3, none⟩) (fun _ => rfl) _
  clear hbs hg' hb2 hcells hv hfi h1 k1 c1 c6 f6 h hW1 hat o3
  go_upto_region 2 with (go_at_call 22; refine (dfind d v L _ _ x nm (fptr f) W1 H1.out (Or.inr ⟨i, f, HA.out.get, rfl, HA.out.name, HA.out.first⟩)).mono ?_; rintro e w' ⟨rfl, rfl⟩)
  go_wp2_with (at_builtin; refine wpList_app rfl _ _ _ _ rfl rfl rfl HR.out ?_)
  go_end0
  exact ⟨rfl, _, g', H1.out.file HA.out.get HK2.out HF.out rfl, (K1.out.mono (fun k _ e => Or.inl e)).trans (HK2.out.mono (fun k _ e => Or.inr e))⟩
end Go.Proofs.YtploagfjajlloaaGreatDoor
namespace Go.Proofs.YtploagfjajlloaaGreatDoor
open Go.RowKit Jr

theorem byt_extract (c : ByteArray) (n i : Nat) (_hn : n ≤ c.size) (hi : i < n) : byt (c.extract 0 n) i = byt c i := by
  have e : (c.extract 0 n).data.toList = c.data.toList.take n := by simp
  unfold byt
  rw [e]
  simp [List.getD, hi]
theorem size_extract0 (c : ByteArray) (n : Nat) (hn : n ≤ c.size) : (c.extract 0 n).size = n := by rw [ByteArray.size_extract]; omega

set_option maxRecDepth 10000 in
set_option maxHeartbeats 2000000 in
theorem dcut1 (p1 p2 p3 d : Nat) (v : Value) (L : List DF) (c s x : Int) (nm : ByteArray) (i : Nat) (f : DF) (n : Nat) (w : World) (h : Dk w d v L c s x) (hat : At L nm i f) (hsz : f.now.size ≤ 1000000000000) (hn : n ≤ f.now.size) (hn1 : 0 < n)
    (o1 : w.heap[p1]? = some (.cells #[.pointer (some ⟨d, 0, none⟩)] 30 (0, 0))) (o2 : w.heap[p2]? = some (.cells #[.string nm] 9 (0, 0))) (o3 : w.heap[p3]? = some (.cells #[.int .i64 n] 3 (0, 0))) :
    Calls Tryz.prog 214 #[.pointer (some ⟨p1, 0, none⟩), .pointer (some ⟨p2, 0, none⟩), .pointer (some ⟨p3, 0, none⟩)] w fun e w' => e = .returned (.tuple #[]) ∧ ∃ v' g', Dk w' d v (L.set i { f with now := f.now.extract 0 n, nv := v', ng := g' }) c s (wrap64 (x + 1)) ∧ Kp (fun k => k = d ∨ k = f.blk) w w' := by
  have c1 : w.cell? ⟨p1, 0, none⟩ = some (.pointer (some ⟨d, 0, none⟩)) := cell_obj o1
  have c7 : w.cell? ⟨d, 7, none⟩ = some (.int .i64 x) := cell_obj h.obj
  have f7 : w.frozen? ⟨d, 7, none⟩ = false := frozen_obj h.obj
  have k1 : Kp (· = d) w (w.setCell ⟨d, 7, none⟩ (.int .i64 (wrap64 (x + 1)))) := (Kp.refl (· = d) w).setCell (a := ⟨d, 7, none⟩) (fun _ => rfl) _
  have h1 : Dk (w.setCell ⟨d, 7, none⟩ (.int .i64 (wrap64 (x + 1)))) d v L c s (wrap64 (x + 1)) := h.touch k1 (by show (w.setCell ⟨d, 7, none⟩ _).heap[d]? = _; rw [obj_setCell_same h.obj]; rfl)
  have e1 : (w.setCell ⟨d, 7, none⟩ (.int .i64 (wrap64 (x + 1)))).cell? ⟨p1, 0, none⟩ = some (.pointer (some ⟨d, 0, none⟩)) := k1.cell (tag_ne o1 h.obj (by decide)) c1
  have e2 : (w.setCell ⟨d, 7, none⟩ (.int .i64 (wrap64 (x + 1)))).cell? ⟨p2, 0, none⟩ = some (.string nm) := k1.cell (tag_ne o2 h.obj (by decide)) (cell_obj o2)
  have e3 : (w.setCell ⟨d, 7, none⟩ (.int .i64 (wrap64 (x + 1)))).cell? ⟨p3, 0, none⟩ = some (.int .i64 n) := k1.cell (tag_ne o3 h.obj (by decide)) (cell_obj o3)
  have hnc : ∀ cap : Nat, f.now.size ≤ cap → (n : Int) ≤ (cap : Int) := fun cap h => by omega
  go_enter Tryz.func214, Tryz.ntmps214
  go_upto_region 1 with fail
  obtain ⟨W1, hW1⟩ : ∃ W1, W1 = w.setCell ⟨d, 7, none⟩ (.int .i64 (wrap64 (x + 1))) := ⟨_, rfl⟩
  rw [← hW1] at k1 h1 e1 e2 e3 ⊢
  have H1 : Hid (Dk W1 d v L c s (wrap64 (x + 1))) := h1
  have K1 : Hid (Kp (· = d) w W1) := k1
  have HA : Hid (At L nm i f) := hat
  have hfi := h1.files f (List.mem_of_getElem? hat.get)
  have cf : W1.cell? ⟨f.blk, 2, none⟩ = some f.nv := cell_obj hfi.obj
  obtain ⟨off, cap, hv, hl1, hl2, hcells⟩ := hfi.nb.shape
  rw [hv] at cf
  have hnc' := hnc cap hl1
  have hc0 : ¬ cap = 0 := by omega
  have hcells' : ∀ i, i < (f.now.extract 0 n).size → W1.drew.drew.cell? ⟨f.ng, off + i, none⟩ = some (.int .u8 (byt (f.now.extract 0 n) i : Nat)) := fun i hi => by
    rw [size_extract0 _ _ hn] at hi
    rw [byt_extract _ _ _ hn hi]; exact hcells i (by omega)
  obtain ⟨v', g', W2, HR, hbs, hg', hb2⟩ := app_fresh W1.drew.drew f.ng off cap (f.now.extract 0 n) hfi.nb.lt hcells' (by rw [size_extract0 _ _ hn]; omega)
  rw [size_extract0 _ _ hn] at HR
  obtain ⟨o', k', hv', -⟩ := hbs.shape
  subst hv'
  have HR' : Hid (∀ ty, (Builtin.append_ #[59, 59] ty #[.slice (some ⟨W1.heap.size, 0, none⟩) 0 0, .slice (some ⟨f.ng, off, none⟩) n cap]).run Tryz.prog (W1.alloc (.cells #[] 5)).drew.drew = .ok (.slice (some ⟨g', o', none⟩) (f.now.extract 0 n).size k') W2) := HR.out
  have hb2' : Below W1.heap.size W1 W2 := (Below.refl _ _).drew.drew.trans hb2
  have cf2 : (W1.alloc (.cells #[] 5)).cell? ⟨f.blk, 2, none⟩ = some (.slice (some ⟨f.ng, off, none⟩) f.now.size cap) := by
    rw [World.cell?_alloc_past _ _ _ (heap_lt hfi.obj)]; exact cf
  have e3' : (W1.alloc (.cells #[] 5)).cell? ⟨p3, 0, none⟩ = some (.int .i64 n) := by
    rw [World.cell?_alloc_past _ _ _ (cell_lt e3)]; exact e3
  have o4 : W2.heap[f.blk]? = some (.cells (fcells f) 69 (0, 0)) := below_obj hb2' (heap_lt hfi.obj) hfi.obj
  have c3 : W2.cell? ⟨f.blk, 2, none⟩ = some f.nv := cell_obj o4
  have f3 : W2.frozen? ⟨f.blk, 2, none⟩ = false := frozen_obj o4
  have HF : Hid (FileIs (W2.setCell ⟨f.blk, 2, none⟩ (.slice (some ⟨g', o', none⟩) (f.now.extract 0 n).size k')) { f with now := f.now.extract 0 n, nv := .slice (some ⟨g', o', none⟩) (f.now.extract 0 n).size k', ng := g' }) := by
    obtain ⟨C1, r1, t1⟩ := hbs.tag
    obtain ⟨C2, r2, t2⟩ := hfi.sb.tag
    have t2' := below_obj hb2' (heap_lt t2) t2
    refine ⟨?_, (hfi.sb.of_same (hb2'.block _ (heap_lt t2))).of_same ?_, hbs.of_same ?_⟩
    · rw [obj_setCell_same o4]; rfl
    · rw [obj_setCell_other (tag_ne t2' o4 (by decide))]
    · rw [obj_setCell_other (tag_ne t1 o4 (by decide))]
  have HK2 : Hid (Kp (· = f.blk) W1 (W2.setCell ⟨f.blk, 2, none⟩ (.slice (some ⟨g', o', none⟩) (f.now.extract 0 n).size k'))) := (Kp.of_new (F := (· = f.blk)) hb2').setCell (a := ⟨f.blk, 2, none⟩) (fun _ => rfl) _
  rw [size_extract0 _ _ hn] at HF HK2 HR'
  clear hbs hg' hb2 hb2' hcells hcells' hv hfi h1 k1 c1 c7 f7 h hW1 hat o4
  go_upto_region 2 with (go_at_call 22; refine (dfind d v L _ _ _ nm (fptr f) W1 H1.out (Or.inr ⟨i, f, HA.out.get, rfl, HA.out.name, HA.out.first⟩)).mono ?_; rintro e w' ⟨rfl, rfl⟩)
  go_region
  go_wp2
  go_region_law (refine step_app rfl _ _ _ _ rfl rfl rfl HR'.out ?_)
  all_goals
    go_wp2
    go_end0
    exact ⟨rfl, _, g', H1.out.file HA.out.get HK2.out HF.out rfl, (K1.out.mono (fun k _ e => Or.inl e)).trans (HK2.out.mono (fun k _ e => Or.inr e))⟩
end Go.Proofs.YtploagfjajlloaaGreatDoor
