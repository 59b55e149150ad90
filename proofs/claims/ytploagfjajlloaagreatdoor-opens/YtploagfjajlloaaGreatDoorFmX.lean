import Derived.Test.YtploagfjajlloaaGreatDoorSegX
import Derived.Test.YtploagfjajlloaaGreatDoorDkY
namespace Go.Proofs.YtploagfjajlloaaGreatDoor
open Go.RowKit Jr

def valU (p : Nat) (l : List UInt8) : Nat := l.foldl (fun a x => a * 10 + (x.toNat - 48)) p
theorem valU_bnd (l : List UInt8) : ∀ p, (∀ x ∈ l, 48 ≤ x.toNat ∧ x.toNat < 58) → p * 10 ^ l.length ≤ valU p l ∧ valU p l < (p + 1) * 10 ^ l.length := by
  induction l with
  | nil => intro p _; simp [valU]
  | cons a l ih =>
    intro p h
    have h1 := ih (p * 10 + (a.toNat - 48)) (fun x hx => h x (List.mem_cons_of_mem _ hx))
    have h2 := h a (List.mem_cons_self ..)
    have e : valU p (a :: l) = valU (p * 10 + (a.toNat - 48)) l := rfl
    rw [e, List.length_cons, Nat.pow_succ]
    have e1 : p * (10 ^ l.length * 10) = (p * 10) * 10 ^ l.length := by rw [Nat.mul_comm (10 ^ l.length), Nat.mul_assoc]
    have e2 : (p + 1) * (10 ^ l.length * 10) = (p * 10 + 10) * 10 ^ l.length := by rw [Nat.mul_comm (10 ^ l.length), ← Nat.mul_assoc, Nat.add_mul]
    rw [e1, e2]
    refine ⟨Nat.le_trans (Nat.mul_le_mul_right _ (by omega)) h1.1, Nat.lt_of_lt_of_le h1.2 (Nat.mul_le_mul_right _ (by omega))⟩
theorem valU_lt : ∀ (l m : List UInt8) (p q : Nat), l.length = m.length → (∀ x ∈ l, 48 ≤ x.toNat ∧ x.toNat < 58) → (∀ x ∈ m, 48 ≤ x.toNat ∧ x.toNat < 58) → p ≤ q → l < m → valU p l < valU q m
  | [], [], _, _, _, _, _, _, h => absurd h (List.lt_irrefl _)
  | [], _ :: _, _, _, hl, _, _, _, _ => by simp at hl
  | _ :: _, [], _, _, hl, _, _, _, _ => by simp at hl
  | a :: l, b :: m, p, q, hl, h1, h2, hpq, hlt => by
    have ha := h1 a (List.mem_cons_self ..)
    have hb := h2 b (List.mem_cons_self ..)
    have hl' : l.length = m.length := by simpa using hl
    rcases List.cons_lt_cons_iff.1 hlt with h | ⟨rfl, h⟩
    · have hab : a.toNat < b.toNat := h
      have k1 := (valU_bnd l (p * 10 + (a.toNat - 48)) (fun x hx => h1 x (List.mem_cons_of_mem _ hx))).2
      have k2 := (valU_bnd m (q * 10 + (b.toNat - 48)) (fun x hx => h2 x (List.mem_cons_of_mem _ hx))).1
      rw [hl'] at k1
      show valU (p * 10 + (a.toNat - 48)) l < valU (q * 10 + (b.toNat - 48)) m
      exact Nat.lt_of_lt_of_le k1 (Nat.le_trans (Nat.mul_le_mul_right _ (by omega)) k2)
    · exact valU_lt l m _ _ hl' (fun x hx => h1 x (List.mem_cons_of_mem _ hx)) (fun x hx => h2 x (List.mem_cons_of_mem _ hx)) (by show p * 10 + (a.toNat - 48) ≤ q * 10 + (a.toNat - 48); omega) h
theorem valU_dgs (n b : Nat) (hb : b < 10 ^ n) : valU 0 ((dgs n b).map UInt8.ofNat) = b := by
  have h0 := val_dgs n b hb
  unfold val at h0
  unfold valU
  rw [List.foldl_map]
  have : ∀ (l : List Nat) (p : Nat), (∀ x ∈ l, x < 256) → l.foldl (fun a x => a * 10 + ((UInt8.ofNat x).toNat - 48)) p = l.foldl (fun a x => a * 10 + (x - 48)) p := by
    intro l
    induction l with
    | nil => intro p _; rfl
    | cons a l ih =>
      intro p h
      have ha := h a (List.mem_cons_self ..)
      simp only [List.foldl_cons]
      have e : (UInt8.ofNat a).toNat = a := by simp [Nat.mod_eq_of_lt ha]
      rw [e]
      exact ih _ (fun x hx => h x (List.mem_cons_of_mem _ hx))
  rw [this _ _ (fun x hx => by have := dgs_mem _ _ x hx; omega)]
  exact h0
theorem dgsU_mem (n b : Nat) : ∀ x ∈ (dgs n b).map UInt8.ofNat, 48 ≤ x.toNat ∧ x.toNat < 58 := by
  intro x hx
  obtain ⟨y, hy, rfl⟩ := List.mem_map.1 hx
  have := dgs_mem n b y hy
  have e : (UInt8.ofNat y).toNat = y := by simp; omega
  rw [e]; exact this
theorem name_data (b : Nat) : (nameOf b).data.toList = [115, 101, 103, 45] ++ (dgs 8 b).map UInt8.ofNat := by
  unfold nameOf nameL
  rw [sOf_data, List.map_append]; rfl
theorem blt_name {a b : Nat} (hab : a < b) (hb : b < 100000000) : blt (nameOf a) (nameOf b) := by
  have ha : a < 100000000 := by omega
  show (nameOf a).data.toList < (nameOf b).data.toList
  rw [name_data, name_data]
  have key : (dgs 8 a).map UInt8.ofNat < (dgs 8 b).map UInt8.ofNat := by
    rcases Decidable.em ((dgs 8 a).map UInt8.ofNat < (dgs 8 b).map UInt8.ofNat) with h | h
    · exact h
    · exfalso
      by_cases e : (dgs 8 a).map UInt8.ofNat = (dgs 8 b).map UInt8.ofNat
      · have := congrArg (valU 0) e
        rw [valU_dgs 8 a ha, valU_dgs 8 b hb] at this
        omega
      · have h2 : (dgs 8 b).map UInt8.ofNat < (dgs 8 a).map UInt8.ofNat := by
          rcases Decidable.em ((dgs 8 b).map UInt8.ofNat < (dgs 8 a).map UInt8.ofNat) with h' | h'
          · exact h'
          · exact absurd (List.le_antisymm (List.not_lt.1 h') (List.not_lt.1 h)) e
        have := valU_lt _ _ 0 0 (by simp [dgs_length]) (dgsU_mem 8 b) (dgsU_mem 8 a) (Nat.le_refl _) h2
        rw [valU_dgs 8 a ha, valU_dgs 8 b hb] at this
        omega
  simp only [List.cons_append, List.nil_append]
  exact List.cons_lt_cons_iff.2 (Or.inr ⟨rfl, List.cons_lt_cons_iff.2 (Or.inr ⟨rfl, List.cons_lt_cons_iff.2 (Or.inr ⟨rfl, List.cons_lt_cons_iff.2 (Or.inr ⟨rfl, key⟩)⟩)⟩)⟩)

/-- The names of some segments. -/
def sgn (segs : List Sg) : List ByteArray := segs.map fun g => nameOf g.2.2
theorem sgn_snoc (segs : List Sg) (g : Sg) : sgn (segs ++ [g]) = sgn segs ++ [nameOf g.2.2] := by simp [sgn]
theorem sgn_blt {segs : List Sg} (h : segs.Pairwise fun a b => a.2.2 < b.2.2) (hb : ∀ g ∈ segs, g.2.2 < 100000000) : (sgn segs).Pairwise blt := by
  induction segs with
  | nil => exact List.Pairwise.nil
  | cons g segs ih =>
    rw [List.pairwise_cons] at h
    show List.Pairwise blt (nameOf g.2.2 :: sgn segs)
    rw [List.pairwise_cons]
    refine ⟨fun x hx => ?_, ih h.2 fun g hg => hb g (List.mem_cons_of_mem _ hg)⟩
    obtain ⟨g', hg', rfl⟩ := List.mem_map.1 hx
    exact blt_name (h.1 g' hg') (hb g' (List.mem_cons_of_mem _ hg'))
end Go.Proofs.YtploagfjajlloaaGreatDoor
namespace Go.Proofs.YtploagfjajlloaaGreatDoor
open Go.RowKit Jr

def sizes (fs : List Fl) (segs : List Sg) (sz gd : Nat) : Prop := (segs = [] ∧ sz = 0 ∧ gd = 0) ∨ ∃ pre g f, segs = pre ++ [g] ∧ fs[g.1]? = some f ∧ gd = g.2.1 ∧ sz = f.2.size
structure Going (fs : List Fl) (s : St) (sz gd : Nat) : Prop where
  inv : Inv fs s
  len : s.2.length ≤ s.1.length
  eq : sz = gd
  szs : sizes fs s.2 sz gd
  more : ∃ n, 100000001 ≤ n + s.1.length ∧ logOf fs = logF fs n s
structure Ended (fs : List Fl) (s : St) (sz gd : Nat) : Prop where
  fin : logOf fs = s
  len : s.2.length ≤ s.1.length + 1
  szs : sizes fs s.2 sz gd
  last : sz = gd → ∃ g ∈ s.2, g.2.2 = s.1.length
theorem Going.start (fs : List Fl) : Going fs ([], []) 0 0 := ⟨Inv.start fs, Nat.le_refl _, rfl, Or.inl ⟨rfl, rfl, rfl⟩, 100000001, by simp, rfl⟩
theorem Going.bnd {fs : List Fl} {s : St} {sz gd : Nat} (h : Going fs s sz gd) (hT : tot fs ≤ 67108864) : s.1.length ≤ 2581111 := by
  have h1 := h.inv.bnd
  have h2 := phi_tot fs 0
  omega
theorem Going.stop {fs : List Fl} {s : St} {sz gd : Nat} (h : Going fs s sz gd) (hT : tot fs ≤ 67108864) (hn : nxt fs s = (s, false)) : logOf fs = s := by
  obtain ⟨n, hn1, hn2⟩ := h.more
  have hb := h.bnd hT
  rw [hn2]
  cases n with
  | zero => omega
  | succ n => simp [logF, hn]
theorem Going.step {fs : List Fl} {s : St} {sz gd : Nat} (h : Going fs s sz gd) (hT : tot fs ≤ 67108864) {i : Nat} {f : Fl} (h1 : findI fs (nameOf s.1.length) = some i) (h2 : fs[i]? = some f) (h4 : hasHd f.2 s.1.length = true) :
    Going fs ((take f.2 s.1).1, s.2 ++ [(i, (take f.2 s.1).2, s.1.length)]) f.2.size (take f.2 s.1).2 ∨ Ended fs ((take f.2 s.1).1, s.2 ++ [(i, (take f.2 s.1).2, s.1.length)]) f.2.size (take f.2 s.1).2 := by
  have hb := h.bnd hT
  have hphi : phi fs 0 < 2600000000 := by have := phi_tot fs 0; omega
  have e : nxt fs s = (((take f.2 s.1).1, s.2 ++ [(i, (take f.2 s.1).2, s.1.length)]), decide ((take f.2 s.1).2 = f.2.size ∧ s.1.length < (take f.2 s.1).1.length)) := by
    unfold nxt; simp only [h1, h2, h4, if_true]
  obtain ⟨n, hn1, hn2⟩ := h.more
  have hd := (hasHd_iff.1 h4).1
  have ht := takeF_facts f.2 (f.2.size + 1) 16 s.1 hd
  change 16 ≤ (take f.2 s.1).2 ∧ (take f.2 s.1).2 ≤ f.2.size ∧ s.1.length ≤ (take f.2 s.1).1.length ∧ 26 * (take f.2 s.1).1.length + 16 ≤ (take f.2 s.1).2 + 26 * s.1.length at ht
  have hl := h.len
  have hsz : sizes fs (s.2 ++ [(i, (take f.2 s.1).2, s.1.length)]) f.2.size (take f.2 s.1).2 := Or.inr ⟨s.2, _, f, rfl, h2, rfl, rfl⟩
  cases n with
  | zero => omega
  | succ n =>
    have hs := h.inv.step hphi
    rw [e] at hs
    by_cases hb2 : (take f.2 s.1).2 = f.2.size ∧ s.1.length < (take f.2 s.1).1.length
    · left
      have hs2 := hs.2 (by simpa using hb2)
      refine ⟨hs2.1, ?_, hb2.1.symm, hsz, n, ?_, ?_⟩
      · show (s.2 ++ [_]).length ≤ (take f.2 s.1).1.length
        rw [List.length_append]; simp; omega
      · show 100000001 ≤ n + (take f.2 s.1).1.length
        omega
      · rw [hn2]; simp only [logF, e]
        rw [if_pos (by simpa using hb2)]
    · right
      refine ⟨?_, ?_, hsz, fun heq => ⟨(i, (take f.2 s.1).2, s.1.length), by simp, ?_⟩⟩
      · rw [hn2]; simp only [logF, e]
        rw [if_neg (by simpa using hb2)]
      · show (s.2 ++ [_]).length ≤ (take f.2 s.1).1.length + 1
        rw [List.length_append]; simp; omega
      · show s.1.length = (take f.2 s.1).1.length
        by_cases hlt : s.1.length < (take f.2 s.1).1.length
        · exact absurd ⟨heq.symm, hlt⟩ hb2
        · omega
theorem at_findI {L : List DF} {nm : ByteArray} {i : Nat} {f : DF} (h : At L nm i f) : findI (L.map DF.nf) nm = some i ∧ (L.map DF.nf)[i]? = some f.nf := by
  have hi := (List.getElem?_eq_some_iff.1 h.get).1
  have hg := (List.getElem?_eq_some_iff.1 h.get).2
  refine ⟨?_, by rw [List.getElem?_map, h.get]; rfl⟩
  unfold findI
  refine List.findIdx?_eq_some_iff_getElem.2 ⟨by simpa using hi, ?_, fun j hj => ?_⟩
  · simp only [List.getElem_map]; rw [hg]; simpa using h.name
  · simp only [List.getElem_map]
    have := h.first j L[j] hj (by simp)
    simpa using this
theorem findI_nil {L : List DF} {nm : ByteArray} (h : ∀ f ∈ L, f.name ≠ nm) : findI (L.map DF.nf) nm = none := by
  unfold findI
  refine List.findIdx?_eq_none_iff.2 fun x hx => ?_
  obtain ⟨f, hf, rfl⟩ := List.mem_map.1 hx
  simpa using h f hf
theorem nxt_nil {fs : List Fl} {s : St} (h : findI fs (nameOf s.1.length) = none) : nxt fs s = (s, false) := by
  unfold nxt; simp only [h]
theorem nxt_no {fs : List Fl} {s : St} {i : Nat} {f : Fl} (h1 : findI fs (nameOf s.1.length) = some i) (h2 : fs[i]? = some f) (h4 : hasHd f.2 s.1.length = false) : nxt fs s = (s, false) := by
  unfold nxt; simp only [h1, h2, h4]; rfl
theorem Going.notin {fs : List Fl} {s : St} {sz gd : Nat} (h : Going fs s sz gd) (hT : tot fs ≤ 67108864) : isIn (sgn s.2) (nameOf s.1.length) = false := by
  have hb := h.bnd hT
  rw [Bool.eq_false_iff]
  intro he
  obtain ⟨g, hg, hn⟩ := List.mem_map.1 (isIn_iff.1 he)
  obtain ⟨f, _, _, h3, _⟩ := h.inv.seg g hg
  have := nameOf_inj (a := g.2.2) (b := s.1.length) (by omega) (by omega) hn
  omega
theorem Ended.isin {fs : List Fl} {s : St} {sz gd : Nat} (h : Ended fs s sz gd) (e : sz = gd) : isIn (sgn s.2) (nameOf s.1.length) = true := by
  obtain ⟨g, hg, he⟩ := h.last e
  exact isIn_iff.2 (List.mem_map.2 ⟨g, hg, by rw [he]⟩)
theorem Going.blt {fs : List Fl} {s : St} {sz gd : Nat} (h : Going fs s sz gd) (hT : tot fs ≤ 67108864) : (sgn s.2).Pairwise blt := sgn_blt h.inv.inc fun g hg => by
  obtain ⟨f, _, _, h3, _⟩ := h.inv.seg g hg
  have := h.bnd hT; omega
theorem fin_bnd {fs : List Fl} (hT : tot fs ≤ 67108864) : (logOf fs).1.length ≤ 2581111 := by
  have h := logOf_fin (fs := fs) (by have := phi_tot fs 0; omega)
  have h1 := h.bnd
  have h2 := phi_tot fs 0
  omega
theorem fin_blt {fs : List Fl} (hT : tot fs ≤ 67108864) : (sgn (logOf fs).2).Pairwise Go.Proofs.YtploagfjajlloaaGreatDoor.blt := by
  have h := logOf_fin (fs := fs) (by have := phi_tot fs 0; omega)
  have hb := fin_bnd hT
  exact sgn_blt h.inc fun g hg => by
    obtain ⟨f, _, _, h3, _⟩ := h.seg g hg
    omega
theorem tot_mem {fs : List Fl} {f : Fl} (h : f ∈ fs) : f.2.size ≤ tot fs := by
  induction fs with
  | nil => cases h
  | cons g fs ih =>
    simp only [tot]
    rcases List.mem_cons.1 h with rfl | h
    · omega
    · have := ih h; omega
end Go.Proofs.YtploagfjajlloaaGreatDoor
