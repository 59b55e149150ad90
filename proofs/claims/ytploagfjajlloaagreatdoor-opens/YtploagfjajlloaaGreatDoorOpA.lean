import Derived.Test.YtploagfjajlloaaGreatDoorOpX
import Derived.Test.YtploagfjajlloaaGreatDoorHdX
namespace Go.Proofs.YtploagfjajlloaaGreatDoor
open Go.RowKit Jr

abbrev sobj (lp : Value) (closed : Bool) : Obj := .cells #[.int .i32 0, .int .u32 0, .int .u32 0, .int .u32 0, .int .i32 0, .int .i32 0, lp, .bool closed] 115 (0, 0)
/-- The blocks that the disk writes. -/
def DW (d : Nat) (L : List DF) (k : Nat) : Prop := k = d ∨ ∃ f ∈ L, k = f.blk
theorem Dk.dwtag {w : World} {d : Nat} {dv : Value} {L : List DF} {c s x : Int} (h : Dk w d dv L c s x) {k : Nat} (hk : DW d L k) : ∃ C t, w.heap[k]? = some (.cells C t (0, 0)) ∧ (t = 65 ∨ t = 69) := by
  rcases hk with rfl | ⟨f, hf, rfl⟩
  · exact ⟨_, _, h.obj, Or.inl rfl⟩
  · exact ⟨_, _, (h.files f hf).obj, Or.inr rfl⟩
theorem Dk.tagnot {w : World} {d : Nat} {dv : Value} {L : List DF} {c s x : Int} (h : Dk w d dv L c s x) {k : Nat} {C : Array Value} {t : TypeId} {fr : Nat × Nat} (ho : w.heap[k]? = some (.cells C t fr)) (h1 : t ≠ 65) (h2 : t ≠ 69) : ¬ DW d L k := fun hk => by
  obtain ⟨C', t', ho', ht⟩ := h.dwtag hk
  rcases ht with rfl | rfl
  · exact tag_ne ho ho' h1 rfl
  · exact tag_ne ho ho' h2 rfl
theorem LogIs.disk {w w' : World} {g m : Nat} {v : Value} {log : List Ev} {S : ByteArray → Value} (h : LogIs w g m v log S) {d : Nat} {dv : Value} {L : List DF} {c s x : Int} (hd : Dk w d dv L c s x) (hk : Kp (DW d L) w w') : LogIs w' g m v log S := by
  refine h.kp hk fun k hf => ?_
  rcases hf with (rfl | hf) | rfl | ⟨t, hf⟩
  · exact hd.tagnot h.le.obj (by decide) (by decide)
  · obtain ⟨C, hC⟩ := row_tag h.le.row hf
    exact hd.tagnot hC (by decide) (by decide)
  · intro hdw
    obtain ⟨es, cl, hm⟩ := h.ls.mobj
    obtain ⟨C, t, ho, _⟩ := hd.dwtag hdw
    rw [ho] at hm; cases hm
  · obtain ⟨xs, hx⟩ := h.ls.str t
    obtain ⟨C, hC⟩ := row_tag hx hf
    exact hd.tagnot hC (by decide) (by decide)
theorem tidy_last {L : List DF} {ns : List ByteArray} {sz gd : Nat} (hT : tot (L.map DF.nf) ≤ 67108864) (hnd : (L.map DF.name).Nodup) (hm : ∀ x, x ∈ ns ↔ (∃ f ∈ L, f.name = x) ∧ isSeg x = true) {segs : List Sg} {log : List Ev} (hS : logOf (L.map DF.nf) = (log, segs)) (hz : sizes (L.map DF.nf) segs sz gd) :
    sgn segs = [] ∨ ∃ pre nm i f, sgn segs = pre ++ [nm] ∧ At (keepL L (rem ns (sgn segs))) nm i f ∧ sz = f.now.size ∧ gd ≤ f.now.size ∧ 0 < gd := by
  have hF := fin_of hT
  rw [hS] at hF
  rcases hz with ⟨rfl, _, _⟩ | ⟨spre, g, fl, hsg, hgf, hgd, hsz⟩
  · exact Or.inl rfl
  · right
    have hgm : g ∈ segs := by rw [hsg]; simp
    obtain ⟨f2, hf2, hn2, _, hle, h16⟩ := hF.seg g hgm
    rw [hgf] at hf2
    obtain rfl := Option.some.inj hf2
    have hb : ∃ fb, L[g.1]? = some fb ∧ fb.nf = fl := by
      rw [List.getElem?_map] at hgf
      cases hl : L[g.1]? with
      | none => rw [hl] at hgf; cases hgf
      | some fb => rw [hl] at hgf; exact ⟨fb, rfl, Option.some.inj hgf⟩
    obtain ⟨fb, hfb, rfl⟩ := hb
    have hfm := List.mem_of_getElem? hfb
    have hkeep : fb ∈ keepL L (rem ns (sgn segs)) := by
      unfold keepL
      rw [List.mem_filter]
      refine ⟨hfm, ?_⟩
      rw [keep_iff hm hfm]
      have : isIn (sgn segs) fb.name = true := isIn_iff.2 (List.mem_map.2 ⟨g, hgm, hn2.symm⟩)
      rw [this]; simp
    obtain ⟨i, f', hat⟩ := at_of_mem ⟨fb, hkeep, (hn2 : fb.name = nameOf g.2.2)⟩
    have hff : f' = fb := by
      have hnd' := keepL_nodup (rm := rem ns (sgn segs)) hnd
      obtain ⟨b, hb⟩ := List.getElem?_of_mem hkeep
      have e1 : ((keepL L (rem ns (sgn segs))).map DF.name)[i]? = some (nameOf g.2.2) := by rw [List.getElem?_map, hat.get]; exact congrArg some hat.name
      have e2 : ((keepL L (rem ns (sgn segs))).map DF.name)[b]? = some (nameOf g.2.2) := by rw [List.getElem?_map, hb]; exact congrArg some hn2
      have hal := (List.getElem?_eq_some_iff.1 hat.get).1
      have := (List.getElem?_inj (by simpa using hal) hnd').1 (e1.trans e2.symm)
      subst this
      have h3 := hat.get
      rw [hb] at h3
      exact (Option.some.inj h3).symm
    subst hff
    refine ⟨sgn spre, nameOf g.2.2, i, f', by rw [hsg, sgn_snoc], hat, hsz, ?_, ?_⟩
    · rw [hgd]; exact hle
    · omega
theorem opn_same {L : List DF} {ns : List ByteArray} {sz gd : Nat} (hT : tot (L.map DF.nf) ≤ 67108864) (hm : ∀ x, x ∈ ns ↔ (∃ f ∈ L, f.name = x) ∧ isSeg x = true) {segs : List Sg} {log : List Ev} (hS : logOf (L.map DF.nf) = (log, segs)) (hz : sizes (L.map DF.nf) segs sz gd) (he : opn (L.map DF.nf) = L.map DF.nf) : rem ns (sgn segs) = [] ∧ sz = gd := by
  have hF := fin_of hT
  have hlt := fin_lt hT
  have hall : ∀ f ∈ L, opF segs f.nf = some f.nf := by
    unfold opn at he
    rw [hS] at he
    have key : ∀ l : List Fl, l.filterMap (opF segs) = l → ∀ f ∈ l, opF segs f = some f := by
      intro l
      induction l with
      | nil => intro _ f hf; cases hf
      | cons a l ih =>
        intro h f hf
        rw [List.filterMap_cons] at h
        cases ha : opF segs a with
        | none =>
          rw [ha] at h
          have := congrArg List.length h
          have h2 := List.length_filterMap_le (opF segs) l
          simp at this; omega
        | some b =>
          rw [ha] at h
          simp only [List.cons.injEq] at h
          rcases List.mem_cons.1 hf with rfl | hf
          · rw [ha, h.1]
          · exact ih h.2 f hf
    exact fun f hf => key _ he f.nf (List.mem_map.2 ⟨f, hf, rfl⟩)
  rw [hS] at hF hlt
  refine ⟨?_, ?_⟩
  · rw [List.eq_nil_iff_forall_not_mem]
    intro nm hnm
    unfold rem at hnm
    rw [List.mem_filter, hm] at hnm
    obtain ⟨⟨⟨f, hf, rfl⟩, his⟩, hni⟩ := hnm
    have h1 := hall f hf
    unfold opF at h1
    rw [if_pos his] at h1
    rw [isIn_segBy] at hni
    cases hs : segBy segs f.name with
    | none => rw [show f.nf.1 = f.name from rfl, hs] at h1; cases h1
    | some g => rw [hs] at hni; simp at hni
  · rcases hz with ⟨_, rfl, rfl⟩ | ⟨spre, g, fl, hsg, hgf, hgd, hsz⟩
    · rfl
    · have hgm : g ∈ segs := by rw [hsg]; simp
      obtain ⟨f2, hf2, hn2, _, hle, h16⟩ := hF.seg g hgm
      rw [hgf] at hf2
      obtain rfl := Option.some.inj hf2
      have hfl := List.mem_of_getElem? hgf
      obtain ⟨fb, hfm, rfl⟩ := List.mem_map.1 hfl
      have h1 := hall fb hfm
      unfold opF at h1
      have his : isSeg fb.nf.1 = true := by rw [hn2]; exact isSeg_nameOf _
      rw [if_pos his, hn2, segBy_mem hF.inc hlt hgm] at h1
      simp only [Option.map_some, Option.some.injEq] at h1
      have h2 := congrArg (fun f : Fl => f.2.size) h1
      simp only [size_extract0 _ _ hle] at h2
      rw [hsz, hgd]; exact h2.symm

set_option maxRecDepth 10000 in
set_option maxHeartbeats 8000000 in
theorem jopen (a : Nat → Addr) (d : Nat) (dv : Value) (L : List DF) (c s x : Int) (w0 w : World) (hs : Sen 3 w0 a) (ht : Tab w0) (hB : Below w0.heap.size w0 w) (hd : Dk w d dv L c s x) (hdB : w0.heap.size ≤ d) (hT : tot (L.map DF.nf) ≤ 67108864)
    (hL : L.length ≤ 1073741824) (hnd : (L.map DF.name).Nodup) (hnm : ∀ f ∈ L, f.name.size ≤ 9223372036854775807) :
    Calls Tryz.prog 19 #[dif d] w fun e w' => ∃ sb g m v S dv' L' c' s' x', e = .returned (.tuple #[.pointer (some ⟨sb, 0, none⟩), .nilIface]) ∧ w'.heap[sb]? = some (sobj (.pointer (some ⟨g, 0, none⟩)) false) ∧ LogIs w' g m v (logOf (L.map DF.nf)).1 S ∧ Dk w' d dv' L' c' s' x' ∧ Kp (DW d L) w w' ∧
      (∀ f' ∈ L', ∃ f ∈ L, f'.blk = f.blk) ∧ L'.map DF.nf = opn (L.map DF.nf) ∧ ((∀ f ∈ L, f.safe = f.now) → L'.map DF.sf = opn (L.map DF.nf)) ∧ (opn (L.map DF.nf) = L.map DF.nf → x' = x) ∧ w.heap.size ≤ sb ∧ ∀ k, LFoot g m v S k → w.heap.size ≤ k := by
  have HS : Hid (Sen 3 w0 a) := hs
  have HT : Hid (Tab w0) := ht
  have HB : Hid (Below w0.heap.size w0 w) := hB
  have HDK : Hid (Dk w d dv L c s x) := hd
  have HTOT : Hid (tot (L.map DF.nf) ≤ 67108864) := hT
  have HND : Hid ((L.map DF.name).Nodup) := hnd
  have HNM : Hid (∀ f ∈ L, f.name.size ≤ 9223372036854775807) := hnm
  clear hs ht hB hd hT hnd hnm
  go_enter Tryz.func19, Tryz.ntmps19
  go_upto_region 6 with (go_at_call 33; refine Calls.mono (jnames d dv L c s x w HDK.out hL) ?_; rintro e W1 ⟨v1, rfl, hr1, hd1, hk1⟩; obtain ⟨p1, k1, rfl, -⟩ := row_shape hr1)
  have HR1 : Hid (W1.ownsRow w.heap.size 9 1 (.slice p1 L.length k1) L.length (L.reverse.map fun f => .string f.name)) := hr1
  have HD1 : Hid (Dk W1 d dv L (wrap64 (c + 1)) s x) := hd1
  have HK1 : Hid (Kp (· = d) w W1) := hk1
  clear hr1 hd1 hk1 HDK
  have HN1 : Hid (NR W1 (.slice p1 L.length k1) (L.reverse.map DF.name)) := by
    refine nr_of_row (B := w.heap.size) ?_
    rw [List.length_map, List.length_reverse, List.map_map]; exact HR1.out
  have hn0 : (L.reverse.map DF.name).Nodup := by
    rw [List.map_reverse]; exact (List.reverse_perm _).nodup_iff.2 HND.out
  have HSEG : Hid (Calls Tryz.prog 34 #[.slice p1 L.length k1] W1 fun e w' => ∃ (v' : Value) (ns : List ByteArray), e = .returned v' ∧ w'.ownsRow W1.heap.size 9 1 v' ns.length (ns.map .string) ∧ ns.Pairwise blt ∧ (∀ x, x ∈ ns ↔ x ∈ L.reverse.map DF.name ∧ isSeg x = true) ∧ ns.length ≤ (L.reverse.map DF.name).length ∧ Below W1.heap.size W1 w') :=
    jsegnames _ (L.reverse.map DF.name) W1 HN1.out hn0 (by simpa using hL) (fun nm hn => by obtain ⟨f, hf, rfl⟩ := List.mem_map.1 hn; exact HNM.out f (List.mem_reverse.1 hf))
  clear hn0
  go_upto_region 7 with (go_at_call 34; refine Calls.mono HSEG.out ?_; rintro e W2 ⟨v2, ns, rfl, hr2, hp2, hm2, hl2, hb2⟩; obtain ⟨p2, k2, rfl, -⟩ := row_shape hr2)
  have HM2 : Hid (∀ x, x ∈ ns ↔ (∃ f ∈ L, f.name = x) ∧ isSeg x = true) := fun y => by
    rw [hm2 y]
    constructor
    · rintro ⟨h1, h2⟩
      obtain ⟨f, hf, e⟩ := List.mem_map.1 h1
      exact ⟨⟨f, List.mem_reverse.1 hf, e⟩, h2⟩
    · rintro ⟨⟨f, hf, e⟩, h2⟩
      exact ⟨List.mem_map.2 ⟨f, List.mem_reverse.2 hf, e⟩, h2⟩
  have hnl : ns.length ≤ 1073741824 := by have : (L.reverse.map DF.name).length = L.length := by simp
                                          omega
  have HR2 : Hid (W2.ownsRow W1.heap.size 9 1 (.slice p2 ns.length k2) ns.length (ns.map .string)) := hr2
  have HP2 : Hid (ns.Pairwise blt) := hp2
  have HD2 : Hid (Dk W2 d dv L (wrap64 (c + 1)) s x) := HD1.out.new hb2
  have HK2 : Hid (Kp (· = d) w W2) := HK1.out.trans (Kp.of_new hb2)
  have HB2 : Hid (Below w0.heap.size w0 W2) := HB.out.trans (HK2.out.below (fun k e => by omega) HB.out.size)
  clear hr2 hp2 hm2 hl2 hb2 HR1 HD1 HK1 HN1
  go_upto_region 10 with (go_at_call 35; refine Calls.mono (jfind a d dv L (wrap64 (c + 1)) s x _ ns W1.heap.size w0 W2 HS.out HT.out HB2.out HD2.out hdB HTOT.out HR2.out HP2.out HM2.out hnl) ?_; rintro e W3 ⟨fb, g, m, rfl, fs, log, segs, v, S, sv, sz, gd, c3, hfs, hlo, hsz, hfr⟩)
  have HFR : Hid (FR W2 W3 d dv L s x fb g m log (sgn segs) sz gd v S sv c3) := hfr
  have HLO : Hid (logOf (L.map DF.nf) = (log, segs)) := by rw [← hfs]; exact hlo
  have HSZ : Hid (sizes (L.map DF.nf) segs sz gd) := by rw [← hfs]; exact hsz
  have HR3 : Hid (W3.ownsRow W1.heap.size 9 1 (.slice p2 ns.length k2) ns.length (ns.map .string)) := row_on HR2.out hfr.kp fun k e e' => by
    subst e'
    obtain ⟨C, hC⟩ := row_tag HR2.out e
    exact tag_ne hC HD2.out.obj (by decide) rfl
  have HBL : Hid ((sgn segs).Pairwise blt) := by
    have := fin_blt HTOT.out
    rw [HLO.out] at this; exact this
  have HSL : Hid ((sgn segs).length ≤ 1073741824) := by
    have h1 := fin_bnd HTOT.out
    have h2 := fin_of HTOT.out
    rw [HLO.out] at h1 h2
    have h3 : ∀ (l : List Sg) (n b : Nat), (l.Pairwise fun a b => a.2.2 < b.2.2) → (∀ g ∈ l, b ≤ g.2.2 ∧ g.2.2 ≤ n) → l.length ≤ n + 1 - b := by
      intro l
      induction l with
      | nil => intro n b _ _; simp
      | cons a l ih =>
        intro n b hp hb
        rw [List.pairwise_cons] at hp
        have ha := hb a (List.mem_cons_self ..)
        have := ih n (a.2.2 + 1) hp.2 fun g hg => ⟨hp.1 g hg, (hb g (List.mem_cons_of_mem _ hg)).2⟩
        simp only [List.length_cons]; omega
    have h4 := h3 segs log.length 0 h2.inc fun g hg => ⟨Nat.zero_le _, by obtain ⟨f, _, _, h, _⟩ := h2.seg g hg; exact h⟩
    show (sgn segs).length ≤ _
    have : (sgn segs).length = segs.length := by simp [sgn]
    simp only at h1
    omega
  clear hfr hfs hlo hsz HR2 HP2 HD2
  go_upto_region 13 with (go_at_call 36; refine Calls.mono (jtidy d dv L c3 s x _ ns W1.heap.size fb g sv (sgn segs) sz gd W2.heap.size W3 HFR.out.dk HR3.out HFR.out.fd HBL.out hL hnl HSL.out (fun f hf => Nat.le_trans (tot_mem (f := f.nf) (List.mem_map.2 ⟨f, hf, rfl⟩)) (Nat.le_trans HTOT.out (by omega))) (tidy_last HTOT.out HND.out HM2.out HLO.out HSZ.out)) ?_; rintro e W4 ⟨rfl, dv4, L4, c4, s4, x4, hd4, hk4, htd, hx4⟩)
  have HD4 : Hid (Dk W4 d dv4 L4 c4 s4 x4) := hd4
  have HK4 : Hid (Kp (DW d L) W3 W4) := hk4
  have of4 := HK4.out.obj (HFR.out.dk.tagnot HFR.out.fd.obj (by decide) (by decide)) HFR.out.fd.obj
  have e0 : W4.cell? ⟨fb, 0, none⟩ = some (.pointer (some ⟨g, 0, none⟩)) := cell_obj of4
  have HL4 : Hid (LogIs W4 g m v log S) := HFR.out.lg.disk HFR.out.dk hk4
  have HTD : Hid (TD L L4 ns (sgn segs) gd) := htd
  have HX4 : Hid (rem ns (sgn segs) = [] → sz = gd → x4 = x) := hx4
  clear hd4 hk4 htd hx4 of4
  go_wp2
  go_ret2
  have hb5 : Below W4.heap.size W4 (W4.alloc (sobj (.pointer (some ⟨g, 0, none⟩)) false)) := (Below.refl _ _).alloc (Nat.le_refl _) _
  have htd' := HTD.out
  have hlog1 : (logOf (L.map DF.nf)).1 = log := by rw [HLO.out]
  have hlog2 : (logOf (L.map DF.nf)).2 = segs := by rw [HLO.out]
  have hop := td_opn (L' := L4) (ns := ns) (sz := sz) (gd := gd) HTOT.out HND.out HM2.out (by rw [hlog2]; exact HSZ.out) (by rw [hlog2]; exact htd')
  have hk : Kp (DW d L) w W4 := ((HK2.out.trans HFR.out.kp).mono fun k _ e => Or.inl e).trans HK4.out
  have hz2 : w.heap.size ≤ W2.heap.size := HK2.out.size
  refine ⟨W4.heap.size, g, m, v, S, dv4, L4, c4, s4, x4, rfl, obj_new _ _, by rw [hlog1]; exact HL4.out.new hb5, HD4.out.new hb5, hk.trans (Kp.of_new hb5), htd'.1, hop.1, hop.2, fun he => ?_, hk.size, fun k hf => Nat.le_trans hz2 (HFR.out.lf k hf)⟩
  obtain ⟨h1, h2⟩ := opn_same HTOT.out HM2.out HLO.out HSZ.out he
  exact HX4.out h1 h2
end Go.Proofs.YtploagfjajlloaaGreatDoor
