import Derived.Test.YtploagfjajlloaaGreatDoorDkY
namespace Go.Proofs.YtploagfjajlloaaGreatDoor
open Go.RowKit Jr

def fl2 (l : List Fl) : List Value := l.flatMap fun f => [.string f.1, .string f.2]
theorem fl2_snoc (l : List Fl) (f : Fl) : fl2 (l ++ [f]) = fl2 l ++ [.string f.1, .string f.2] := by simp [fl2]
theorem fl2_get (l : List Fl) (k : Nat) (f : Fl) (h : l[k]? = some f) : (fl2 l)[k * 2]? = some (.string f.1) ∧ (fl2 l)[k * 2 + 1]? = some (.string f.2) := by
  induction l generalizing k with
  | nil => simp at h
  | cons g l ih =>
    cases k with
    | zero => simp at h; subst h; simp [fl2]
    | succ k =>
      obtain ⟨h1, h2⟩ := ih k (by simpa using h)
      have e : fl2 (g :: l) = .string g.1 :: .string g.2 :: fl2 l := rfl
      rw [e, show (k + 1) * 2 = k * 2 + 1 + 1 by omega, show k * 2 + 1 + 1 + 1 = k * 2 + 1 + 1 + 1 by rfl]
      simp only [List.getElem?_cons_succ]
      exact ⟨h1, h2⟩
theorem pf_of_row {w : World} {B : Nat} {v : Value} {l : List Fl} (h : w.ownsRow B 51 2 v l.length (fl2 l)) : PF w v l := by
  obtain ⟨p, cap, hv, h1, h2, h3⟩ := row_shape h
  unfold maxLen at h2
  refine ⟨p, cap, hv, h1, by omega, fun h0 => ?_⟩
  obtain ⟨g, hp, _, hg, hc⟩ := h3 h0
  refine ⟨g, 0, hp, hg, fun k f hk => ?_⟩
  have hkl := (List.getElem?_eq_some_iff.1 hk).1
  obtain ⟨e1, e2⟩ := fl2_get l k f hk
  rw [Nat.zero_add, hc _ (by omega), hc _ (by omega)]
  exact ⟨e1, e2⟩
theorem byt_back (w : World) (b off : Nat) (s : ByteArray) (cap : Nat) (hc : ∀ i, i < s.size → w.cell? ⟨b, off + i, none⟩ = some (.int .u8 (byt s i : Nat))) :
    (convert 59 9 (.slice (some ⟨b, off, none⟩) s.size cap)).run Tryz.prog w = .ok (.string s) w :=
  Lib.run_convert_whole w 59 5 9 Tryz.underlying59 Tryz.underlying5 Tryz.underlying9 b off s (fun i hi => by rw [hc i hi]; simp [byt, List.getD, hi]; rfl) cap

set_option maxRecDepth 10000 in
set_option maxHeartbeats 2000000 in
theorem dnow (d : Nat) (v : Value) (L : List DF) (c s x : Int) (w : World) (h : Dk w d v L c s x) (hL : L.length ≤ 1073741824) :
    Calls Tryz.prog 28 #[.pointer (some ⟨d, 0, none⟩)] w fun e w' => ∃ v', e = .returned v' ∧ PF w' v' (L.map DF.nf) ∧ Below w.heap.size w w' := by
  have H1 : Hid (Dk w d v L c s x) := h
  obtain ⟨p, cap, rfl, hcap, hmax, c0, HP⟩ := h.pack
  obtain ⟨n, hn⟩ : ∃ n, L.length = n := ⟨_, rfl⟩
  rw [hn] at hcap HP hL c0
  have HN : Hid (L.length = n) := hn
  clear hn h
  go_enter Tryz.func28, Tryz.ntmps28
  go_upto_region 3 with fail
  go_loopw [3, 11] (fun o i wr => ∃ (k : Nat) (q : Option Addr) (qc : Nat), k ≤ n ∧ i = .int .i64 k ∧ o = .slice q k qc ∧ Hid (wr.ownsRow w.heap.size 51 2 (.slice q k qc) k (fl2 ((L.take k).map DF.nf))) ∧ Below w.heap.size w wr) (fun _ i _ => n - (intOf i).toNat)
  case atStart => exact ⟨0, none, 0, Nat.zero_le _, by simp, by simp, by show World.ownsRow _ _ _ _ _ _ _; simpa [fl2] using World.ownsRow_nil w _ _ _, Below.refl _ _⟩
  case round =>
    obtain ⟨k, q, qc, hk, rfl, rfl, ho, hbl⟩ := hrel
    by_cases hlt : k < n
    · obtain ⟨g, rfl, hg2, hg⟩ := HP.out (by omega)
      have hLq : k < L.length := by rw [HN.out]; exact hlt
      obtain ⟨f, hf⟩ : ∃ f, L[k]? = some f := ⟨_, List.getElem?_eq_getElem hLq⟩
      have hff := (H1.out.new hbl).files f (List.mem_of_getElem? hf)
      have g1 : wr.cell? ⟨g, k, none⟩ = some (.pointer (some ⟨f.blk, 0, none⟩)) := by rw [hbl.cell (p := ⟨g, k, none⟩) hg2, hg k (by omega)]; simp [hf]
      have a0 : wr.cell? ⟨f.blk, 0, none⟩ = some (.string f.name) := cell_obj hff.obj
      have a2 : wr.cell? ⟨f.blk, 2, none⟩ = some f.nv := cell_obj hff.obj
      obtain ⟨off, fcap, hv, hl1, hl2, hcells⟩ := hff.nb.shape
      rw [hv] at a2
      have lf : f.blk < wr.heap.size := heap_lt hff.obj
      have kc := byt_back wr f.ng off f.now fcap hcells
      obtain ⟨v2, w2, HR, ho2, hg2', -, q2, qc2, hv2⟩ := appN (w := wr.drew) Tryz.underlying22 infoF rfl (by decide) ho.out [.string f.name, .string f.now] rfl (fun u hu => by simp at hu; rcases hu with rfl | rfl <;> rfl) (by omega) (by unfold maxLen; omega) hbl.size
      subst hv2
      have hgb := grown_below (w := wr.drew) ho.out hg2' hbl.size
      have HB : Hid (Below w.heap.size w w2) := hbl.drew.trans hgb
      have HO : Hid (w2.ownsRow w.heap.size 51 2 (.slice (some q2) (k + 1) qc2) (k + 1) (fl2 ((L.take (k + 1)).map DF.nf))) := by
        have e2 : L.take (k + 1) = L.take k ++ [f] := by rw [List.take_add_one, hf]; rfl
        show World.ownsRow _ _ _ _ _ _ _
        rw [e2, List.map_append, List.map_singleton, fl2_snoc]; exact ho2
      have HR' : Hid (∀ ty, (Builtin.append_ #[22, 22] ty #[.slice q k qc, .slice (some ⟨wr.heap.size, 0, none⟩) 1 1]).run Tryz.prog (wr.alloc (.cells #[.string f.name, .string f.now] 51)).drew = .ok (.slice (some q2) (k + 1) qc2) w2) := HR.out
      have al : Below wr.heap.size wr (wr.alloc (.cells #[.string f.name, .string f.now] 51)) := (Below.refl _ _).alloc (Nat.le_refl _) _
      have sw : ∀ W : World, Below w.heap.size w W → W.heap[f.blk]? = wr.heap[f.blk]? → W.heap[f.ng]? = wr.heap[f.ng]? → (W.cell? ⟨f.blk, 0, none⟩ = some (.string f.name) ∧ W.cell? ⟨f.blk, 2, none⟩ = some (.slice (some ⟨f.ng, off, none⟩) f.now.size fcap)) ∧ (convert 59 9 (.slice (some ⟨f.ng, off, none⟩) f.now.size fcap)).run Tryz.prog W = .ok (.string f.now) W := fun W _ e1 e2 => ⟨⟨(World.cell?_of_block e1).trans a0, (World.cell?_of_block e1).trans a2⟩, byt_back W f.ng off f.now fcap fun i hi => (World.cell?_of_block e2).trans (hcells i hi)⟩
      have hfl : f.blk < wr.heap.size := heap_lt hff.obj
      have hgl : f.ng < wr.heap.size := hff.nb.lt
      have s0 := sw wr.drew hbl.drew rfl rfl
      have s1 := sw (wr.alloc (.cells #[.string f.name, .string f.now] 51)).drew (hbl.trans (al.mono hbl.size)).drew (al.block _ hfl) (al.block _ hgl)
      have ntag : ∀ {i : Nat} {C : Array Value} {t : TypeId} {fr : Nat × Nat}, wr.heap[i]? = some (.cells C t fr) → t ≠ 51 → some i ≠ (Value.slice q k qc).ownBlock := fun hi hne e => by
        obtain ⟨C', hC'⟩ := row_tag ho.out e.symm
        exact tag_ne hi hC' hne rfl
      have s2 : _ := sw w2 HB.out (hg2'.block _ hfl (ntag hff.obj (by decide))) (by obtain ⟨C1, r1, t1⟩ := hff.nb.tag; exact hg2'.block _ hgl (ntag t1 (by decide)))
      clear hff hf hg hg2 hbl ho ho2 hg2' HR al sw ntag hcells hv kc hgb
      go_wp2
      go_region_held3 (fun w' => (w'.cell? ⟨f.blk, 0, none⟩ = some (.string f.name) ∧ w'.cell? ⟨f.blk, 2, none⟩ = some (.slice (some ⟨f.ng, off, none⟩) f.now.size fcap)) ∧ (convert 59 9 (.slice (some ⟨f.ng, off, none⟩) f.now.size fcap)).run Tryz.prog w' = .ok (.string f.now) w') (first | with_reducible exact s0 | with_reducible exact s1 | with_reducible exact s2) (refine step_app (vs := .slice q k qc) (vx := .slice (some ⟨wr.heap.size, 0, none⟩) 1 1) rfl (.tmp 15) (.tmp 26) 22 22 rfl rfl rfl HR'.out ?_)
      all_goals
        go_wp2
        go_roundw
        case rel => exact ⟨k + 1, some q2, qc2, by omega, by go_num, rfl, HO, HB.out⟩
        case measure => simp [intOf]; omega
    · obtain rfl : k = n := by omega
      have HB : Hid (Below w.heap.size w wr) := hbl
      have hk' : L.take k = L := List.take_of_length_le (by rw [HN.out]; exact Nat.le_refl _)
      have HO : Hid (wr.ownsRow w.heap.size 51 2 (.slice q k qc) (L.map DF.nf).length (fl2 (L.map DF.nf))) := by
        have := ho.out
        rw [hk'] at this
        show World.ownsRow _ _ _ _ _ _ _
        rw [List.length_map, HN.out]; exact this
      clear hbl ho hk'
      go_wp2
      go_ret
      exact ⟨_, rfl, pf_of_row HO.out, HB.out⟩

set_option maxRecDepth 10000 in
set_option maxHeartbeats 2000000 in
theorem dcertain (d : Nat) (v : Value) (L : List DF) (c s x : Int) (w : World) (h : Dk w d v L c s x) (hL : L.length ≤ 1073741824) :
    Calls Tryz.prog 29 #[.pointer (some ⟨d, 0, none⟩)] w fun e w' => ∃ v', e = .returned v' ∧ PF w' v' (L.map DF.sf) ∧ Below w.heap.size w w' := by
  have H1 : Hid (Dk w d v L c s x) := h
  obtain ⟨p, cap, rfl, hcap, hmax, c0, HP⟩ := h.pack
  obtain ⟨n, hn⟩ : ∃ n, L.length = n := ⟨_, rfl⟩
  rw [hn] at hcap HP hL c0
  have HN : Hid (L.length = n) := hn
  clear hn h
  go_enter Tryz.func29, Tryz.ntmps29
  go_upto_region 3 with fail
  go_loopw [3, 11] (fun o i wr => ∃ (k : Nat) (q : Option Addr) (qc : Nat), k ≤ n ∧ i = .int .i64 k ∧ o = .slice q k qc ∧ Hid (wr.ownsRow w.heap.size 51 2 (.slice q k qc) k (fl2 ((L.take k).map DF.sf))) ∧ Below w.heap.size w wr) (fun _ i _ => n - (intOf i).toNat)
  case atStart => exact ⟨0, none, 0, Nat.zero_le _, by simp, by simp, by show World.ownsRow _ _ _ _ _ _ _; simpa [fl2] using World.ownsRow_nil w _ _ _, Below.refl _ _⟩
  case round =>
    obtain ⟨k, q, qc, hk, rfl, rfl, ho, hbl⟩ := hrel
    by_cases hlt : k < n
    · obtain ⟨g, rfl, hg2, hg⟩ := HP.out (by omega)
      have hLq : k < L.length := by rw [HN.out]; exact hlt
      obtain ⟨f, hf⟩ : ∃ f, L[k]? = some f := ⟨_, List.getElem?_eq_getElem hLq⟩
      have hff := (H1.out.new hbl).files f (List.mem_of_getElem? hf)
      have g1 : wr.cell? ⟨g, k, none⟩ = some (.pointer (some ⟨f.blk, 0, none⟩)) := by rw [hbl.cell (p := ⟨g, k, none⟩) hg2, hg k (by omega)]; simp [hf]
      have a0 : wr.cell? ⟨f.blk, 0, none⟩ = some (.string f.name) := cell_obj hff.obj
      have a2 : wr.cell? ⟨f.blk, 1, none⟩ = some f.sv := cell_obj hff.obj
      obtain ⟨off, fcap, hv, hl1, hl2, hcells⟩ := hff.sb.shape
      rw [hv] at a2
      have lf : f.blk < wr.heap.size := heap_lt hff.obj
      have kc := byt_back wr f.sg off f.safe fcap hcells
      obtain ⟨v2, w2, HR, ho2, hg2', -, q2, qc2, hv2⟩ := appN (w := wr.drew) Tryz.underlying22 infoF rfl (by decide) ho.out [.string f.name, .string f.safe] rfl (fun u hu => by simp at hu; rcases hu with rfl | rfl <;> rfl) (by omega) (by unfold maxLen; omega) hbl.size
      subst hv2
      have hgb := grown_below (w := wr.drew) ho.out hg2' hbl.size
      have HB : Hid (Below w.heap.size w w2) := hbl.drew.trans hgb
      have HO : Hid (w2.ownsRow w.heap.size 51 2 (.slice (some q2) (k + 1) qc2) (k + 1) (fl2 ((L.take (k + 1)).map DF.sf))) := by
        have e2 : L.take (k + 1) = L.take k ++ [f] := by rw [List.take_add_one, hf]; rfl
        show World.ownsRow _ _ _ _ _ _ _
        rw [e2, List.map_append, List.map_singleton, fl2_snoc]; exact ho2
      have HR' : Hid (∀ ty, (Builtin.append_ #[22, 22] ty #[.slice q k qc, .slice (some ⟨wr.heap.size, 0, none⟩) 1 1]).run Tryz.prog (wr.alloc (.cells #[.string f.name, .string f.safe] 51)).drew = .ok (.slice (some q2) (k + 1) qc2) w2) := HR.out
      have al : Below wr.heap.size wr (wr.alloc (.cells #[.string f.name, .string f.safe] 51)) := (Below.refl _ _).alloc (Nat.le_refl _) _
      have sw : ∀ W : World, Below w.heap.size w W → W.heap[f.blk]? = wr.heap[f.blk]? → W.heap[f.sg]? = wr.heap[f.sg]? → (W.cell? ⟨f.blk, 0, none⟩ = some (.string f.name) ∧ W.cell? ⟨f.blk, 1, none⟩ = some (.slice (some ⟨f.sg, off, none⟩) f.safe.size fcap)) ∧ (convert 59 9 (.slice (some ⟨f.sg, off, none⟩) f.safe.size fcap)).run Tryz.prog W = .ok (.string f.safe) W := fun W _ e1 e2 => ⟨⟨(World.cell?_of_block e1).trans a0, (World.cell?_of_block e1).trans a2⟩, byt_back W f.sg off f.safe fcap fun i hi => (World.cell?_of_block e2).trans (hcells i hi)⟩
      have hfl : f.blk < wr.heap.size := heap_lt hff.obj
      have hgl : f.sg < wr.heap.size := hff.sb.lt
      have s0 := sw wr.drew hbl.drew rfl rfl
      have s1 := sw (wr.alloc (.cells #[.string f.name, .string f.safe] 51)).drew (hbl.trans (al.mono hbl.size)).drew (al.block _ hfl) (al.block _ hgl)
      have ntag : ∀ {i : Nat} {C : Array Value} {t : TypeId} {fr : Nat × Nat}, wr.heap[i]? = some (.cells C t fr) → t ≠ 51 → some i ≠ (Value.slice q k qc).ownBlock := fun hi hne e => by
        obtain ⟨C', hC'⟩ := row_tag ho.out e.symm
        exact tag_ne hi hC' hne rfl
      have s2 : _ := sw w2 HB.out (hg2'.block _ hfl (ntag hff.obj (by decide))) (by obtain ⟨C1, r1, t1⟩ := hff.sb.tag; exact hg2'.block _ hgl (ntag t1 (by decide)))
      clear hff hf hg hg2 hbl ho ho2 hg2' HR al sw ntag hcells hv kc hgb
      go_wp2
      go_region_held3 (fun w' => (w'.cell? ⟨f.blk, 0, none⟩ = some (.string f.name) ∧ w'.cell? ⟨f.blk, 1, none⟩ = some (.slice (some ⟨f.sg, off, none⟩) f.safe.size fcap)) ∧ (convert 59 9 (.slice (some ⟨f.sg, off, none⟩) f.safe.size fcap)).run Tryz.prog w' = .ok (.string f.safe) w') (first | with_reducible exact s0 | with_reducible exact s1 | with_reducible exact s2) (refine step_app (vs := .slice q k qc) (vx := .slice (some ⟨wr.heap.size, 0, none⟩) 1 1) rfl (.tmp 15) (.tmp 26) 22 22 rfl rfl rfl HR'.out ?_)
      all_goals
        go_wp2
        go_roundw
        case rel => exact ⟨k + 1, some q2, qc2, by omega, by go_num, rfl, HO, HB.out⟩
        case measure => simp [intOf]; omega
    · obtain rfl : k = n := by omega
      have HB : Hid (Below w.heap.size w wr) := hbl
      have hk' : L.take k = L := List.take_of_length_le (by rw [HN.out]; exact Nat.le_refl _)
      have HO : Hid (wr.ownsRow w.heap.size 51 2 (.slice q k qc) (L.map DF.sf).length (fl2 (L.map DF.sf))) := by
        have := ho.out
        rw [hk'] at this
        show World.ownsRow _ _ _ _ _ _ _
        rw [List.length_map, HN.out]; exact this
      clear hbl ho hk'
      go_wp2
      go_ret
      exact ⟨_, rfl, pf_of_row HO.out, HB.out⟩
end Go.Proofs.YtploagfjajlloaaGreatDoor
