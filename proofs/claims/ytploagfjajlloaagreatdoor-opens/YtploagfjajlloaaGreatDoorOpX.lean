import Derived.Test.YtploagfjajlloaaGreatDoorFdX
import Derived.Test.YtploagfjajlloaaGreatDoorLwA
namespace Go.Proofs.YtploagfjajlloaaGreatDoor
open Go.RowKit Jr

def segBy (segs : List Sg) (nm : ByteArray) : Option Sg := segs.find? fun g => decide (nameOf g.2.2 = nm)
/-- What Open makes of a file. -/
def opF (segs : List Sg) (f : Fl) : Option Fl := if isSeg f.1 = true then (segBy segs f.1).map fun g => (f.1, f.2.extract 0 g.2.1) else some f
def opn (fs : List Fl) : List Fl := fs.filterMap (opF (logOf fs).2)
theorem extract_all (c : ByteArray) (n : Nat) (h : c.size ≤ n) : c.extract 0 n = c := by
  apply ByteArray.ext
  rw [ByteArray.data_extract]
  rw [Array.extract_eq_self_of_le (by exact h)]
theorem segBy_some {segs : List Sg} {nm : ByteArray} {g : Sg} (h : segBy segs nm = some g) : g ∈ segs ∧ nameOf g.2.2 = nm := by
  unfold segBy at h
  exact ⟨List.mem_of_find?_eq_some h, by simpa using List.find?_some h⟩
theorem segBy_none {segs : List Sg} {nm : ByteArray} (h : segBy segs nm = none) : ∀ g ∈ segs, nameOf g.2.2 ≠ nm := by
  unfold segBy at h
  intro g hg
  simpa using List.find?_eq_none.1 h g hg
theorem inc_uniq {segs : List Sg} (h : segs.Pairwise fun a b => a.2.2 < b.2.2) {g g' : Sg} (hg : g ∈ segs) (hg' : g' ∈ segs) (e : g.2.2 = g'.2.2) : g = g' := by
  induction segs with
  | nil => cases hg
  | cons a segs ih =>
    rw [List.pairwise_cons] at h
    rcases List.mem_cons.1 hg with h1 | h1 <;> rcases List.mem_cons.1 hg' with h2 | h2
    · rw [h1, h2]
    · subst h1; have := h.1 _ h2; omega
    · subst h2; have := h.1 _ h1; omega
    · exact ih h.2 h1 h2
theorem segBy_mem {segs : List Sg} (h : segs.Pairwise fun a b => a.2.2 < b.2.2) (hb : ∀ g ∈ segs, g.2.2 < 100000000) {g : Sg} (hg : g ∈ segs) : segBy segs (nameOf g.2.2) = some g := by
  cases hs : segBy segs (nameOf g.2.2) with
  | none => exact absurd rfl (segBy_none hs g hg)
  | some g' =>
    obtain ⟨h1, h2⟩ := segBy_some hs
    have := nameOf_inj (hb g' h1) (hb g hg) h2
    rw [inc_uniq h h1 hg this]
theorem isIn_segBy (segs : List Sg) (nm : ByteArray) : isIn (sgn segs) nm = (segBy segs nm).isSome := by
  rw [Bool.eq_iff_iff, isIn_iff]
  unfold sgn
  rw [List.mem_map, Option.isSome_iff_exists]
  constructor
  · rintro ⟨g, hg, e⟩
    cases hs : segBy segs nm with
    | none => exact absurd e (segBy_none hs g hg)
    | some g' => exact ⟨g', rfl⟩
  · rintro ⟨g, hg⟩
    obtain ⟨h1, h2⟩ := segBy_some hg
    exact ⟨g, h1, h2⟩
theorem fin_lt {fs : List Fl} (hT : tot fs ≤ 67108864) : ∀ g ∈ (logOf fs).2, g.2.2 < 100000000 := fun g hg => by
  have h := logOf_fin (fs := fs) (by have := phi_tot fs 0; omega)
  have hb := fin_bnd hT
  obtain ⟨f, _, _, h3, _⟩ := h.seg g hg
  omega
theorem fin_of {fs : List Fl} (hT : tot fs ≤ 67108864) : Fin' fs (logOf fs) := logOf_fin (by have := phi_tot fs 0; omega)

theorem set_map_at {L : List DF} {nm : ByteArray} {i : Nat} {f : DF} (h : At L nm i f) (hnd : (L.map DF.name).Nodup) (φ : DF → Fl) (y : Fl) : (L.map φ).set i y = L.map fun f' => if f'.name = nm then y else φ f' := by
  apply List.ext_getElem?
  intro j
  have hi := (List.getElem?_eq_some_iff.1 h.get).1
  rw [List.getElem?_map]
  by_cases hj : i = j
  · subst hj
    rw [List.getElem?_set_self (by simpa using hi), h.get]
    simp [h.name]
  · rw [List.getElem?_set_ne hj, List.getElem?_map]
    cases hL : L[j]? with
    | none => rfl
    | some f' =>
      have hne : f'.name ≠ nm := fun e => by
        have hj' := (List.getElem?_eq_some_iff.1 hL).1
        have e1 : (L.map DF.name)[i]? = some nm := by rw [List.getElem?_map, h.get]; exact congrArg some h.name
        have e2 : (L.map DF.name)[j]? = some nm := by rw [List.getElem?_map, hL]; exact congrArg some e
        exact hj ((List.getElem?_inj (by simpa using hi) hnd).1 (e1.trans e2.symm))
      simp [hne]
theorem keep_map (L : List DF) (k : DF → Bool) (φ : DF → Fl) (ψ : Fl → Option Fl) (h : ∀ f ∈ L, (if k f then some (φ f) else none) = ψ f.nf) : (L.filter k).map φ = (L.map DF.nf).filterMap ψ := by
  induction L with
  | nil => rfl
  | cons a L ih =>
    have ih' := ih fun f hf => h f (List.mem_cons_of_mem _ hf)
    have ha := h a (List.mem_cons_self ..)
    simp only [List.map_cons, List.filterMap_cons, ← ha]
    by_cases hk : k a = true
    · rw [List.filter_cons_of_pos hk, List.map_cons, ih', if_pos hk]
    · rw [List.filter_cons_of_neg hk, ih', if_neg hk]
theorem keep_iff {L : List DF} {ns sg : List ByteArray} (hm : ∀ x, x ∈ ns ↔ (∃ f ∈ L, f.name = x) ∧ isSeg x = true) {f : DF} (hf : f ∈ L) : isIn (rem ns sg) f.name = (isSeg f.name && !isIn sg f.name) := by
  rw [Bool.eq_iff_iff, isIn_iff]
  unfold rem
  rw [List.mem_filter, hm, Bool.and_eq_true]
  constructor
  · rintro ⟨⟨_, h1⟩, h2⟩; exact ⟨h1, h2⟩
  · rintro ⟨h1, h2⟩; exact ⟨⟨⟨f, hf, rfl⟩, h1⟩, h2⟩
theorem keepL_nodup {L : List DF} {rm : List ByteArray} (h : (L.map DF.name).Nodup) : ((keepL L rm).map DF.name).Nodup := List.Nodup.sublist (List.Sublist.map _ List.filter_sublist) h

/-- The files behind tidy. -/
theorem td_opn {L L' : List DF} {ns : List ByteArray} {sz gd : Nat} (hT : tot (L.map DF.nf) ≤ 67108864) (hnd : (L.map DF.name).Nodup) (hm : ∀ x, x ∈ ns ↔ (∃ f ∈ L, f.name = x) ∧ isSeg x = true)
    (hz : sizes (L.map DF.nf) (logOf (L.map DF.nf)).2 sz gd) (h : TD L L' ns (sgn (logOf (L.map DF.nf)).2) gd) : L'.map DF.nf = opn (L.map DF.nf) ∧ ((∀ f ∈ L, f.safe = f.now) → L'.map DF.sf = opn (L.map DF.nf)) := by
  have hF := fin_of hT
  have hlt := fin_lt hT
  unfold opn
  generalize hS : (logOf (L.map DF.nf)).2 = segs at *
  have hinc : segs.Pairwise fun a b => a.2.2 < b.2.2 := by rw [← hS]; exact hF.inc
  obtain ⟨_, h⟩ := h
  rcases h with ⟨h0, rfl⟩ | ⟨pre, nm, i, f, hsp, hat, hn, hsf⟩
  · have hs0 : segs = [] := by
      cases segs with
      | nil => rfl
      | cons a b => simp [sgn] at h0
    subst hs0
    have key : (keepL L (rem ns (sgn []))).map DF.nf = (L.map DF.nf).filterMap (opF []) := by
      unfold keepL
      refine keep_map L _ DF.nf _ fun f hf => ?_
      rw [keep_iff hm hf]
      simp only [opF, segBy, sgn, isIn, List.map_nil, List.any_nil, Bool.not_false, Bool.and_true, List.find?_nil, Option.map_none]
      cases isSeg f.name <;> rfl
    refine ⟨key, fun hs => ?_⟩
    rw [← key]
    refine List.map_congr_left fun f hf => ?_
    have := hs f (List.mem_filter.1 hf).1
    simp [DF.sf, DF.nf, this]
  · rcases hz with ⟨hz, _⟩ | ⟨spre, g, fl, hsg, hgf, hgd, hsz⟩
    · rw [hz] at hsp; simp [sgn] at hsp
    · have hgm : g ∈ segs := by rw [hsg]; simp
      have hnm : nm = nameOf g.2.2 := by
        rw [hsg, sgn_snoc] at hsp
        have := congrArg List.getLast? hsp
        simpa using this.symm
      have hnd' := keepL_nodup (rm := rem ns (sgn segs)) hnd
      have key : (keepL L (rem ns (sgn segs))).map (fun f' => if f'.name = nm then (nm, f.now.extract 0 gd) else f'.nf) = (L.map DF.nf).filterMap (opF segs) := by
        unfold keepL
        refine keep_map L _ _ _ fun f' hf' => ?_
        rw [keep_iff hm hf']
        unfold opF
        show (if (!(isSeg f'.name && !isIn (sgn segs) f'.name)) = true then some (if f'.name = nm then (nm, f.now.extract 0 gd) else f'.nf) else none) = (if isSeg f'.name = true then (segBy segs f'.name).map (fun g => (f'.name, f'.now.extract 0 g.2.1)) else some f'.nf)
        by_cases his : isSeg f'.name = true
        · rw [if_pos his, his, isIn_segBy]
          cases hsb : segBy segs f'.name with
          | none => simp
          | some g' =>
            obtain ⟨hg1, hg2⟩ := segBy_some hsb
            simp only [Option.isSome_some, Bool.not_true, Bool.and_false, Bool.not_false, if_true, Option.map_some]
            by_cases hfn : f'.name = nm
            · rw [if_pos hfn]
              have hff : f' = f := by
                have hmem : f ∈ L := (List.mem_filter.1 (List.mem_of_getElem? hat.get)).1
                obtain ⟨a, ha⟩ := List.getElem?_of_mem hf'
                obtain ⟨b, hb⟩ := List.getElem?_of_mem hmem
                have e1 : (L.map DF.name)[a]? = some nm := by rw [List.getElem?_map, ha]; exact congrArg some hfn
                have e2 : (L.map DF.name)[b]? = some nm := by rw [List.getElem?_map, hb]; exact congrArg some hat.name
                have hal := (List.getElem?_eq_some_iff.1 ha).1
                have := (List.getElem?_inj (by simpa using hal) hnd).1 (e1.trans e2.symm)
                subst this
                rw [ha] at hb
                exact Option.some.inj hb
              have hgg : g' = g := inc_uniq hinc hg1 hgm (nameOf_inj (hlt g' hg1) (hlt g hgm) (by rw [hg2, hfn, hnm]))
              rw [hff, hgg, hgd, hat.name]
            · rw [if_neg hfn]
              have hdl : g' ∈ segs.dropLast := by
                rw [hsg] at hg1 ⊢
                rw [List.dropLast_concat]
                rcases List.mem_append.1 hg1 with h | h
                · exact h
                · simp at h; subst h
                  exact absurd (hg2.symm.trans hnm.symm) hfn
              have hdl' : g' ∈ (logOf (L.map DF.nf)).2.dropLast := by rw [hS]; exact hdl
              obtain ⟨f2, hf2, hsz2, _⟩ := hF.whole g' hdl'
              have hg1' : g' ∈ (logOf (L.map DF.nf)).2 := by rw [hS]; exact hg1
              obtain ⟨f3, hf3, hn3, _⟩ := hF.seg g' hg1'
              rw [hf2] at hf3
              obtain rfl := Option.some.inj hf3
              have hff : f'.nf = f2 := by
                obtain ⟨a, ha⟩ := List.getElem?_of_mem hf'
                have hal := (List.getElem?_eq_some_iff.1 ha).1
                have e1 : (L.map DF.name)[a]? = some f'.name := by rw [List.getElem?_map, ha]; rfl
                have hb : ∃ fb, L[g'.1]? = some fb ∧ fb.nf = f2 := by
                  rw [List.getElem?_map] at hf2
                  cases hl : L[g'.1]? with
                  | none => rw [hl] at hf2; cases hf2
                  | some fb => rw [hl] at hf2; exact ⟨fb, rfl, Option.some.inj hf2⟩
                obtain ⟨fb, hfb, hfe⟩ := hb
                have e2 : (L.map DF.name)[g'.1]? = some f'.name := by
                  rw [List.getElem?_map, hfb]
                  have : fb.name = f2.1 := by rw [← hfe]
                  show some fb.name = _
                  rw [this, hn3, hg2]
                have := (List.getElem?_inj (by simpa using hal) hnd).1 (e1.trans e2.symm)
                subst this
                rw [ha] at hfb
                rw [Option.some.inj hfb]; exact hfe
              have hsz3 : f'.now.size = g'.2.1 := by rw [hsz2, ← hff]
              rw [extract_all _ _ (by omega)]
        · have his' : isSeg f'.name = false := by simpa using his
          rw [if_neg his, his']
          have hfn : f'.name ≠ nm := fun e => his (by rw [e, hnm]; exact isSeg_nameOf _)
          rw [if_neg hfn]; rfl
      have hnf : L'.map DF.nf = (L.map DF.nf).filterMap (opF segs) := by
        rw [hn, set_map_at hat hnd', key]
      refine ⟨hnf, fun hs => ?_⟩
      rw [hsf, set_map_at hat hnd', ← key]
      refine List.map_congr_left fun f' hf' => ?_
      have := hs f' (List.mem_filter.1 hf').1
      simp [DF.sf, DF.nf, this]
end Go.Proofs.YtploagfjajlloaaGreatDoor
namespace Go.Proofs.YtploagfjajlloaaGreatDoor
open Go.RowKit Jr

theorem opF_cases {segs : List Sg} {f f' : Fl} (h : opF segs f = some f') : (isSeg f.1 = false ∧ f' = f) ∨ (isSeg f.1 = true ∧ ∃ g, segBy segs f.1 = some g ∧ f' = (f.1, f.2.extract 0 g.2.1)) := by
  unfold opF at h
  by_cases hs : isSeg f.1 = true
  · rw [if_pos hs] at h
    cases hb : segBy segs f.1 with
    | none => rw [hb] at h; cases h
    | some g => rw [hb] at h; injection h with h; exact Or.inr ⟨hs, g, rfl, h.symm⟩
  · rw [if_neg hs] at h
    injection h with h
    exact Or.inl ⟨by simpa using hs, h.symm⟩
theorem opF_name {segs : List Sg} {f f' : Fl} (h : opF segs f = some f') : f'.1 = f.1 := by
  rcases opF_cases h with ⟨_, rfl⟩ | ⟨_, g, _, rfl⟩ <;> rfl
theorem opF_size {segs : List Sg} {f f' : Fl} (h : opF segs f = some f') : f'.2.size ≤ f.2.size := by
  rcases opF_cases h with ⟨_, rfl⟩ | ⟨_, g, _, rfl⟩
  · exact Nat.le_refl _
  · show (f.2.extract 0 g.2.1).size ≤ _
    rw [ByteArray.size_extract]; omega
theorem fm_names (φ : Fl → Option Fl) (h : ∀ f f', φ f = some f' → f'.1 = f.1) (fs : List Fl) : ((fs.filterMap φ).map Prod.fst).Sublist (fs.map Prod.fst) := by
  induction fs with
  | nil => exact List.Sublist.slnil
  | cons f fs ih =>
    cases hf : φ f with
    | none => rw [List.filterMap_cons_none hf]; exact ih.cons _
    | some f' => rw [List.filterMap_cons_some hf, List.map_cons, List.map_cons, h f f' hf]; exact ih.cons_cons _
theorem fm_tot (φ : Fl → Option Fl) (h : ∀ f f', φ f = some f' → f'.2.size ≤ f.2.size) (fs : List Fl) : tot (fs.filterMap φ) ≤ tot fs := by
  induction fs with
  | nil => exact Nat.le_refl _
  | cons f fs ih =>
    cases hf : φ f with
    | none => rw [List.filterMap_cons_none hf]; simp only [tot]; omega
    | some f' =>
      have := h f f' hf
      rw [List.filterMap_cons_some hf]; simp only [tot]; omega
theorem opn_nodup {fs : List Fl} (h : (fs.map Prod.fst).Nodup) : ((opn fs).map Prod.fst).Nodup := List.Nodup.sublist (fm_names _ (fun _ _ => opF_name) fs) h
theorem opn_tot (fs : List Fl) : tot (opn fs) ≤ tot fs := fm_tot _ (fun _ _ => opF_size) fs
theorem opn_len (fs : List Fl) : (opn fs).length ≤ fs.length := List.length_filterMap_le _ _
theorem opn_name {fs : List Fl} {f' : Fl} (h : f' ∈ opn fs) : ∃ f ∈ fs, f'.1 = f.1 ∧ f'.2.size ≤ f.2.size := by
  obtain ⟨f, hf, ho⟩ := List.mem_filterMap.1 h
  exact ⟨f, hf, opF_name ho, opF_size ho⟩
theorem nxt_ext (fs : List Fl) (s : St) : ∃ t, (nxt fs s).1.2 = s.2 ++ t := by
  rcases nxt_cases fs s with ⟨_, e⟩ | ⟨_, _, _, _, _, _, e⟩ | ⟨i, f, _, _, _, _, e⟩
  · exact ⟨[], by rw [e]; simp⟩
  · exact ⟨[], by rw [e]; simp⟩
  · exact ⟨_, by rw [e]⟩
theorem logF_ext (fs : List Fl) : ∀ (n : Nat) (s : St), ∃ t, (logF fs n s).2 = s.2 ++ t
  | 0, s => ⟨[], by simp [logF]⟩
  | n + 1, s => by
    obtain ⟨t, ht⟩ := nxt_ext fs s
    simp only [logF]
    split
    · obtain ⟨t', ht'⟩ := logF_ext fs n (nxt fs s).1
      exact ⟨t ++ t', by rw [ht', ht, List.append_assoc]⟩
    · exact ⟨t, ht⟩
theorem findI_none_of {fs : List Fl} {nm : ByteArray} (h : ∀ f ∈ fs, f.1 ≠ nm) : findI fs nm = none := by
  unfold findI
  exact List.findIdx?_eq_none_iff.2 fun x hx => by simpa using h x hx
theorem nodup_uniq {fs : List Fl} (hnd : (fs.map Prod.fst).Nodup) {f g : Fl} (hf : f ∈ fs) (hg : g ∈ fs) (e : f.1 = g.1) : f = g := by
  induction fs with
  | nil => cases hf
  | cons a fs ih =>
    rw [List.map_cons, List.nodup_cons] at hnd
    rcases List.mem_cons.1 hf with h1 | h1 <;> rcases List.mem_cons.1 hg with h2 | h2
    · rw [h1, h2]
    · exact absurd (List.mem_map.2 ⟨g, h2, by rw [← e, h1]⟩) hnd.1
    · exact absurd (List.mem_map.2 ⟨f, h1, by rw [e, h2]⟩) hnd.1
    · exact ih hnd.2 h1 h2
theorem findI_of {fs : List Fl} {nm : ByteArray} {f : Fl} (hnd : (fs.map Prod.fst).Nodup) (hf : f ∈ fs) (hn : f.1 = nm) : ∃ i, findI fs nm = some i ∧ fs[i]? = some f := by
  cases h : findI fs nm with
  | none => exact absurd hn (findI_none h f hf)
  | some i =>
    obtain ⟨f', h1, h2⟩ := findI_some h
    exact ⟨i, rfl, by rw [h1, nodup_uniq hnd (List.mem_of_getElem? h1) hf (by rw [h2, hn])]⟩

/-- A cut file is read as before. -/
theorem take_cut {c : ByteArray} {log : List Ev} {N : Nat} (h : hasHd c N = true) : hasHd (c.extract 0 (take c log).2) N = true ∧ take (c.extract 0 (take c log).2) log = take c log ∧ (c.extract 0 (take c log).2).size = (take c log).2 := by
  obtain ⟨h16, hb⟩ := hasHd_iff.1 h
  have ht := takeF_facts c (c.size + 1) 16 log h16
  have e : take c log = takeF c (c.size + 1) 16 log := rfl
  rw [← e] at ht
  have hs := size_extract0 c (take c log).2 ht.2.1
  refine ⟨hasHd_iff.2 ⟨by omega, fun i hi => ?_⟩, ?_, hs⟩
  · rw [byt_extract c _ i ht.2.1 (by omega)]; exact hb i hi
  · have := takeF_cut (c := c) (c' := c.extract 0 (take c log).2) (c.size + 1) 16 log h16 (by rw [hs]; rfl) (fun i hi => byt_extract c _ i ht.2.1 (by omega)) ((c.extract 0 (take c log).2).size + 1) (by omega)
    rw [e]; rw [← e]; exact this
theorem cut_none {fs : List Fl} {segs : List Sg} (hlt : ∀ g ∈ segs, g.2.2 < 100000000) {N : Nat} (hN : N < 100000000) (h : ∀ g ∈ segs, g.2.2 ≠ N) : findI (fs.filterMap (opF segs)) (nameOf N) = none := by
  refine findI_none_of fun f' hf' e => ?_
  obtain ⟨f, hf, ho⟩ := List.mem_filterMap.1 hf'
  have hn := opF_name ho
  rcases opF_cases ho with ⟨hs, _⟩ | ⟨_, g, hg, _⟩
  · rw [← hn, e, isSeg_nameOf] at hs; cases hs
  · obtain ⟨h1, h2⟩ := segBy_some hg
    exact h g h1 (nameOf_inj (hlt g h1) hN (by rw [h2, ← hn, e]))
theorem cut_some {fs : List Fl} (hnd : (fs.map Prod.fst).Nodup) {segs : List Sg} (hinc : segs.Pairwise fun a b => a.2.2 < b.2.2) (hlt : ∀ g ∈ segs, g.2.2 < 100000000) {g : Sg} (hg : g ∈ segs) {f : Fl} (hf : f ∈ fs) (hn : f.1 = nameOf g.2.2) :
    ∃ i, findI (fs.filterMap (opF segs)) (nameOf g.2.2) = some i ∧ (fs.filterMap (opF segs))[i]? = some (f.1, f.2.extract 0 g.2.1) := by
  refine findI_of (List.Nodup.sublist (fm_names _ (fun _ _ => opF_name) fs) hnd) (List.mem_filterMap.2 ⟨f, hf, ?_⟩) hn
  unfold opF
  rw [hn, isSeg_nameOf, if_pos rfl, segBy_mem hinc hlt hg]; rfl

/-- The cut files have the same log. -/
theorem sim {fs : List Fl} (hT : tot fs ≤ 67108864) (hnd : (fs.map Prod.fst).Nodup) {S : St} (hinc : S.2.Pairwise fun a b => a.2.2 < b.2.2) (hlt : ∀ g ∈ S.2, g.2.2 < 100000000) : ∀ (n : Nat) (s s' : St), Inv fs s → logF fs n s = S → s'.1 = s.1 → s'.2.map Prod.snd = s.2.map Prod.snd →
    (logF (fs.filterMap (opF S.2)) n s').1 = S.1 ∧ (logF (fs.filterMap (opF S.2)) n s').2.map Prod.snd = S.2.map Prod.snd
  | 0, s, s', _, hS, h1, h2 => by
    simp only [logF] at hS ⊢
    subst hS; exact ⟨h1, h2⟩
  | n + 1, s, s', hI, hS, h1, h2 => by
    have hphi : phi fs 0 < 2600000000 := by have := phi_tot fs 0; omega
    have hb := hI.bnd
    have hN : s.1.length < 100000000 := by omega
    rcases nxt_cases fs s with ⟨hf, e⟩ | ⟨i, f, hf, hi, hn, hh, e⟩ | ⟨i, f, hf, hi, hn, hh, e⟩
    · have hS' : s = S := by rw [← hS]; simp [logF, e]
      subst hS'
      have : nxt (fs.filterMap (opF s.2)) s' = (s', false) := nxt_nil (by
        rw [h1]
        exact findI_none_of fun f' hf' => by
          obtain ⟨f, hf1, ho⟩ := List.mem_filterMap.1 hf'
          rw [opF_name ho]
          exact findI_none hf f hf1)
      have e2 : logF (fs.filterMap (opF s.2)) (n + 1) s' = s' := by simp [logF, this]
      rw [e2]
      exact ⟨h1, h2⟩
    · have hS' : s = S := by rw [← hS]; simp [logF, e]
      subst hS'
      have : nxt (fs.filterMap (opF s.2)) s' = (s', false) := nxt_nil (by
        rw [h1]
        exact cut_none hlt hN fun g hg => by
          obtain ⟨_, _, _, h3, _⟩ := hI.seg g hg
          omega)
      have e2 : logF (fs.filterMap (opF s.2)) (n + 1) s' = s' := by simp [logF, this]
      rw [e2]
      exact ⟨h1, h2⟩
    · obtain ⟨c1, c2, c3⟩ := take_cut (log := s.1) hh
      have hgm : (i, (take f.2 s.1).2, s.1.length) ∈ S.2 := by
        obtain ⟨t, ht⟩ := nxt_ext fs s
        rw [← hS]
        simp only [logF]
        split
        · obtain ⟨t', ht'⟩ := logF_ext fs n (nxt fs s).1
          rw [ht', e]; simp
        · rw [e]; simp
      obtain ⟨i', k1, k2⟩ := cut_some hnd hinc hlt hgm (List.mem_of_getElem? hi) hn
      have e' : nxt (fs.filterMap (opF S.2)) s' = (((take f.2 s.1).1, s'.2 ++ [(i', (take f.2 s.1).2, s.1.length)]), decide ((take f.2 s.1).2 = (take f.2 s.1).2 ∧ s.1.length < (take f.2 s.1).1.length)) := by
        unfold nxt
        rw [h1]
        simp only [k1, k2, c1, c2, c3, if_true]
      have hm : (s'.2 ++ [(i', (take f.2 s.1).2, s.1.length)]).map Prod.snd = (s.2 ++ [(i, (take f.2 s.1).2, s.1.length)]).map Prod.snd := by
        rw [List.map_append, List.map_append, h2]; rfl
      simp only [logF, e] at hS
      simp only [logF, e']
      by_cases hg : s.1.length < (take f.2 s.1).1.length
      · by_cases hz : (take f.2 s.1).2 = f.2.size
        · rw [if_pos (by simp [hz, hg])] at hS
          rw [if_pos (by simp [hg])]
          have hs := (hI.step hphi).2 (by rw [e]; simp [hz, hg])
          rw [e] at hs
          exact sim hT hnd hinc hlt n _ _ hs.1 hS rfl hm
        · rw [if_neg (by simp [hz])] at hS
          rw [if_pos (by simp [hg])]
          have hfin := (hI.step hphi).1
          rw [e] at hfin
          have hb2 := hfin.bnd
          simp only at hb2
          have hstop : nxt (fs.filterMap (opF S.2)) ((take f.2 s.1).1, s'.2 ++ [(i', (take f.2 s.1).2, s.1.length)]) = (((take f.2 s.1).1, s'.2 ++ [(i', (take f.2 s.1).2, s.1.length)]), false) := nxt_nil (cut_none hlt (by simp only; omega) fun g hgS => by
            rw [← hS] at hgS
            rcases List.mem_append.1 hgS with h | h
            · obtain ⟨_, _, _, h3, _⟩ := hI.seg g h
              simp only; omega
            · simp only [List.mem_singleton] at h
              subst h; simp only; omega)
          have : logF (fs.filterMap (opF S.2)) n ((take f.2 s.1).1, s'.2 ++ [(i', (take f.2 s.1).2, s.1.length)]) = ((take f.2 s.1).1, s'.2 ++ [(i', (take f.2 s.1).2, s.1.length)]) := by
            cases n with
            | zero => rfl
            | succ n => simp only [logF, hstop]; rfl
          rw [this, ← hS]
          exact ⟨rfl, hm⟩
      · rw [if_neg (by simp [hg])] at hS
        rw [if_neg (by simp [hg]), ← hS]
        exact ⟨rfl, hm⟩
theorem log_opn {fs : List Fl} (hT : tot fs ≤ 67108864) (hnd : (fs.map Prod.fst).Nodup) : (logOf (opn fs)).1 = (logOf fs).1 ∧ (logOf (opn fs)).2.map Prod.snd = (logOf fs).2.map Prod.snd :=
  sim hT hnd (fin_of hT).inc (fin_lt hT) 100000001 ([], []) ([], []) (Inv.start fs) rfl rfl rfl
theorem segBy_snd : ∀ {l m : List Sg} (_ : l.map Prod.snd = m.map Prod.snd) (nm : ByteArray), (segBy l nm).map Prod.snd = (segBy m nm).map Prod.snd
  | [], [], _, _ => rfl
  | [], _ :: _, h, _ => by simp at h
  | _ :: _, [], h, _ => by simp at h
  | a :: l, b :: m, h, nm => by
    simp only [List.map_cons, List.cons.injEq] at h
    have ih := segBy_snd h.2 nm
    unfold segBy at ih ⊢
    simp only [List.find?_cons, h.1]
    by_cases hd : nameOf b.2.2 = nm
    · simp [hd, h.1]
    · simpa [hd] using ih
/-- Over the cut files nothing is changed. -/
theorem opn_opn {fs : List Fl} (hT : tot fs ≤ 67108864) (hnd : (fs.map Prod.fst).Nodup) : opn (opn fs) = opn fs := by
  have hl := (log_opn hT hnd).2
  have key : ∀ f' ∈ opn fs, opF (logOf (opn fs)).2 f' = some f' := by
    intro f' hf'
    obtain ⟨f, _, ho⟩ := List.mem_filterMap.1 hf'
    rcases opF_cases ho with ⟨hs, rfl⟩ | ⟨hs, g, hg, rfl⟩
    · unfold opF; rw [hs]; rfl
    · have h2 := segBy_snd hl f.1
      rw [hg] at h2
      unfold opF
      cases hb : segBy (logOf (opn fs)).2 f.1 with
      | none => rw [hb] at h2; cases h2
      | some g' =>
        rw [hb] at h2
        injection h2 with h2
        simp only [hs, if_true, Option.map_some, h2]
        rw [extract_all _ _ (by rw [ByteArray.size_extract]; omega)]
  have all : ∀ (φ : Fl → Option Fl) (l : List Fl), (∀ f ∈ l, φ f = some f) → l.filterMap φ = l := by
    intro φ l
    induction l with
    | nil => intro _; rfl
    | cons a l ih =>
      intro h
      rw [List.filterMap_cons_some (h a (List.mem_cons_self ..)), ih fun f hf => h f (List.mem_cons_of_mem _ hf)]
  exact all _ _ key

theorem dd_facts (l : List Fl) : ∀ acc : List Fl, (acc.map Prod.fst).Nodup → ((l.foldl (fun acc f => if acc.any (fun g => decide (g.1 = f.1)) then acc else acc ++ [f]) acc).map Prod.fst).Nodup ∧ tot (l.foldl (fun acc f => if acc.any (fun g => decide (g.1 = f.1)) then acc else acc ++ [f]) acc) ≤ tot acc + tot l ∧ (∀ f ∈ l.foldl (fun acc f => if acc.any (fun g => decide (g.1 = f.1)) then acc else acc ++ [f]) acc, f ∈ acc ∨ f ∈ l) := by
  induction l with
  | nil => intro acc h; exact ⟨h, by simp [tot], fun f hf => Or.inl hf⟩
  | cons a l ih =>
    intro acc h
    simp only [List.foldl_cons]
    by_cases ha : acc.any (fun g => decide (g.1 = a.1)) = true
    · rw [if_pos ha]
      obtain ⟨h1, h2, h3⟩ := ih acc h
      refine ⟨h1, by simp only [tot]; omega, fun f hf => ?_⟩
      rcases h3 f hf with h | h
      · exact Or.inl h
      · exact Or.inr (List.mem_cons_of_mem _ h)
    · rw [if_neg ha]
      have hn : ∀ g ∈ acc, g.1 ≠ a.1 := fun g hg e => ha (List.any_eq_true.2 ⟨g, hg, by simpa using e⟩)
      have htot : ∀ m : List Fl, tot (m ++ [a]) = tot m + a.2.size := by
        intro m
        induction m with
        | nil => simp [tot]
        | cons b m ihm => simp only [List.cons_append, tot, ihm]; omega
      obtain ⟨h1, h2, h3⟩ := ih (acc ++ [a]) (by
        rw [List.map_append, List.nodup_append]
        refine ⟨h, by simp, fun x hx y hy e => ?_⟩
        simp only [List.map_cons, List.map_nil, List.mem_singleton] at hy
        obtain ⟨g, hg, rfl⟩ := List.mem_map.1 hx
        exact hn g hg (by rw [e, hy]))
      refine ⟨h1, by rw [htot] at h2; simp only [tot]; omega, fun f hf => ?_⟩
      rcases h3 f hf with h | h
      · rcases List.mem_append.1 h with h | h
        · exact Or.inl h
        · simp only [List.mem_singleton] at h; subst h; exact Or.inr (List.mem_cons_self ..)
      · exact Or.inr (List.mem_cons_of_mem _ h)
theorem dd_nodup (l : List Fl) : ((dd l).map Prod.fst).Nodup := (dd_facts l [] (by simp)).1
theorem dd_tot (l : List Fl) : tot (dd l) ≤ tot l := by simpa [tot, dd] using (dd_facts l [] (by simp)).2.1
theorem dd_mem {l : List Fl} {f : Fl} (h : f ∈ dd l) : f ∈ l := by
  rcases (dd_facts l [] (by simp)).2.2 f h with h | h
  · cases h
  · exact h
theorem dd_same_aux (l : List Fl) : ∀ acc : List Fl, ((acc ++ l).map Prod.fst).Nodup → l.foldl (fun acc f => if acc.any (fun g => decide (g.1 = f.1)) then acc else acc ++ [f]) acc = acc ++ l := by
  induction l with
  | nil => intro acc _; simp
  | cons a l ih =>
    intro acc h
    have ha : ¬ acc.any (fun g => decide (g.1 = a.1)) = true := by
      intro hx
      obtain ⟨g, hg, e⟩ := List.any_eq_true.1 hx
      rw [List.map_append, List.nodup_append] at h
      exact h.2.2 g.1 (List.mem_map.2 ⟨g, hg, rfl⟩) a.1 (by simp) (by simpa using e)
    simp only [List.foldl_cons]
    rw [if_neg ha, ih (acc ++ [a]) (by simpa using h)]
    simp
theorem dd_same {l : List Fl} (h : (l.map Prod.fst).Nodup) : dd l = l := by
  simpa [dd] using dd_same_aux l [] (by simpa using h)
theorem tot_bulk (l : List Fl) : tot l ≤ bulkL l := by
  induction l with
  | nil => simp [tot]
  | cons a l ih => simp only [tot, bulkL]; omega
end Go.Proofs.YtploagfjajlloaaGreatDoor
