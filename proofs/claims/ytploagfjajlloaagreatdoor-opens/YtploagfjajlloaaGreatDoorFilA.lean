import Derived.Test.YtploagfjajlloaaGreatDoorNowA
import Derived.Deep.RegionHeldLaw
namespace Go.Proofs.YtploagfjajlloaaGreatDoor
open Go.RowKit Jr

/-- A file of the document's. -/
structure RF where
  name : ByteArray
  c : ByteArray
  v : Value
  g : Nat
abbrev RF.nc (f : RF) : Fl := (f.name, f.c)
def rfc (L : List RF) : List Value := L.flatMap fun f => [.string f.name, f.v]
theorem rfc_snoc (l : List RF) (f : RF) : rfc (l ++ [f]) = rfc l ++ [.string f.name, f.v] := by simp [rfc]
theorem rfc_get (l : List RF) (k : Nat) (f : RF) (h : l[k]? = some f) : (rfc l)[k * 2]? = some (.string f.name) ∧ (rfc l)[k * 2 + 1]? = some f.v := by
  induction l generalizing k with
  | nil => simp at h
  | cons g l ih =>
    cases k with
    | zero => simp at h; subst h; simp [rfc]
    | succ k =>
      obtain ⟨h1, h2⟩ := ih k (by simpa using h)
      have e : rfc (g :: l) = .string g.name :: g.v :: rfc l := by simp [rfc]
      rw [e, show (k + 1) * 2 = k * 2 + 1 + 1 by omega]
      simp only [List.getElem?_cons_succ]
      exact ⟨h1, h2⟩
structure RFs (w : World) (B : Nat) (v : Value) (L : List RF) : Prop where
  row : w.ownsRow B 61 2 v L.length (rfc L)
  bs : ∀ f ∈ L, BS w f.v f.g f.c
theorem RFs.lt {w : World} {B : Nat} {v : Value} {L : List RF} (h : RFs w B v L) {k : Nat} (hk : v.ownBlock = some k) : k < w.heap.size := (h.row.lt k hk).2
theorem RFs.new {w w' : World} {B : Nat} {v : Value} {L : List RF} (h : RFs w B v L) (hb : Below w.heap.size w w') : RFs w' B v L :=
  ⟨row_on' h.row hb (fun _ hk => h.lt hk), fun f hf => (h.bs f hf).on' hb (h.bs f hf).lt⟩
/-- Everything a reader wants of such a list. -/
theorem RFs.pack {w : World} {B : Nat} {v : Value} {L : List RF} (h : RFs w B v L) : ∃ p cap, v = .slice p L.length cap ∧ L.length ≤ cap ∧ cap ≤ 9223372036854775807 ∧
    Hid (0 < L.length → ∃ g, p = some ⟨g, 0, none⟩ ∧ g < w.heap.size ∧ ∀ (k : Nat) (f : RF), L[k]? = some f → w.cell? ⟨g, k * 2, none⟩ = some (.string f.name) ∧ w.cell? ⟨g, k * 2 + 1, none⟩ = some f.v) := by
  obtain ⟨p, cap, hv, h1, h2, h3⟩ := row_shape h.row
  unfold maxLen at h2
  refine ⟨p, cap, hv, h1, by omega, fun h0 => ?_⟩
  obtain ⟨g, hp, _, hg, hc⟩ := h3 h0
  refine ⟨g, hp, hg, fun k f hk => ?_⟩
  have hkl := (List.getElem?_eq_some_iff.1 hk).1
  obtain ⟨e1, e2⟩ := rfc_get L k f hk
  rw [hc _ (by omega), hc _ (by omega)]
  exact ⟨e1, e2⟩
/-- Find, by its answer. -/
theorem rfind (B : Nat) (v : Value) (L : List RF) (nm : ByteArray) (w : World) (h : RFs w B v L) (r : Int)
    (hr : (r = -1 ∧ ∀ f ∈ L, f.name ≠ nm) ∨ ∃ (k : Nat) (f : RF), r = k ∧ L[k]? = some f ∧ f.name = nm ∧ ∀ (j : Nat) (f' : RF), j < k → L[j]? = some f' → f'.name ≠ nm) :
    Calls Tryz.prog 21 #[v, .string nm] w fun e w' => e = .returned (.int .i64 r) ∧ w' = w := by
  obtain ⟨p, cap, hv, h1, h2, HP⟩ := h.pack
  by_cases h0 : 0 < L.length
  · obtain ⟨g, rfl, _, hc⟩ := HP.out h0
    subst hv
    refine rfind_some g cap L.length (fun i => ((L[i]?).map RF.name).getD ⟨#[]⟩) nm w (by omega) (fun i hi => ?_) r ?_
    · obtain ⟨f, hf⟩ : ∃ f, L[i]? = some f := ⟨_, List.getElem?_eq_getElem hi⟩
      rw [(hc i f hf).1, hf]; rfl
    · rcases hr with ⟨rfl, hn⟩ | ⟨k, f, rfl, hk, hn, hj⟩
      · refine Or.inl ⟨rfl, fun i hi => ?_⟩
        obtain ⟨f, hf⟩ : ∃ f, L[i]? = some f := ⟨_, List.getElem?_eq_getElem hi⟩
        rw [hf]; exact hn f (List.mem_of_getElem? hf)
      · refine Or.inr ⟨k, rfl, (List.getElem?_eq_some_iff.1 hk).1, by rw [hk]; exact hn, fun i hi => ?_⟩
        have hil : i < L.length := Nat.lt_trans hi (List.getElem?_eq_some_iff.1 hk).1
        obtain ⟨f', hf'⟩ : ∃ f, L[i]? = some f := ⟨_, List.getElem?_eq_getElem hil⟩
        rw [hf']; exact hj i f' hi hf'
  · obtain rfl : L = [] := List.eq_nil_of_length_eq_zero (by omega)
    obtain rfl : r = -1 := by rcases hr with ⟨h, _⟩ | ⟨k, f, _, hk, _⟩; exact h; simp at hk
    rcases h.row.2 with ⟨rfl, _⟩ | ⟨g, cap', cur, rfl, _⟩
    · exact rfind_nil nm w
    · exact rfind_some g cap' 0 (fun _ => ⟨#[]⟩) nm w (by omega) (fun i hi => by omega) (-1) (Or.inl ⟨rfl, fun i hi => by omega⟩)
theorem rat_of_mem {L : List RF} {nm : ByteArray} (h : ∃ f ∈ L, f.name = nm) : ∃ (k : Nat) (f : RF), L[k]? = some f ∧ f.name = nm ∧ ∀ (j : Nat) (f' : RF), j < k → L[j]? = some f' → f'.name ≠ nm := by
  induction L with
  | nil => obtain ⟨f, hf, _⟩ := h; cases hf
  | cons g L ih =>
    by_cases hg : g.name = nm
    · exact ⟨0, g, rfl, hg, fun j f' hj => by omega⟩
    · obtain ⟨f, hf, hn⟩ := h
      rcases List.mem_cons.1 hf with rfl | hf
      · exact absurd hn hg
      · obtain ⟨i, f, h1, h2, h3⟩ := ih ⟨f, hf, hn⟩
        refine ⟨i + 1, f, by simpa using h1, h2, fun j f' hj hf' => ?_⟩
        cases j with
        | zero => simp at hf'; subst hf'; exact hg
        | succ j => exact h3 j f' (by omega) (by simpa using hf')
theorem rany_name {L : List RF} {m : List Fl} (h : L.map RF.nc = m) (nm : ByteArray) : (m.any fun g => decide (g.1 = nm)) = true ↔ ∃ f ∈ L, f.name = nm := by
  subst h
  simp only [List.any_eq_true, List.mem_map, decide_eq_true_eq]
  constructor
  · rintro ⟨x, ⟨f, hf, rfl⟩, h⟩; exact ⟨f, hf, h⟩
  · rintro ⟨f, hf, h⟩; exact ⟨f.nc, ⟨f, hf, rfl⟩, h⟩

set_option maxRecDepth 10000 in
set_option maxHeartbeats 4000000 in
theorem lfiles (v : Value) (l : List Fl) (w : World) (h : PF w v l) (hn : l.length ≤ 1073741824) (hf : ∀ f ∈ l, f.2.size ≤ 1000000000000) :
    Calls Tryz.prog 6 #[v] w fun e w' => ∃ v' L, e = .returned v' ∧ RFs w' w.heap.size v' L ∧ L.map RF.nc = dd l ∧ Below w.heap.size w w' := by
  obtain ⟨p, cap, rfl, hcap, hmax, HP⟩ := h
  obtain ⟨n, hn'⟩ : ∃ n, l.length = n := ⟨_, rfl⟩
  rw [hn'] at hcap HP hn ⊢
  have HN : Hid (l.length = n) := hn'
  have HS : Hid (∀ f ∈ l, f.2.size ≤ 1000000000000) := hf
  clear hn' hf
  go_enter Tryz.func6, Tryz.ntmps6
  go_upto_region 3 with fail
  go_loopw [3, 4] (fun o i wr => ∃ (k : Nat) (L : List RF) (q : Option Addr) (qc : Nat), k ≤ n ∧ i = .int .i64 k ∧ o = .slice q L.length qc ∧ Hid (RFs wr w.heap.size (.slice q L.length qc) L ∧ L.map RF.nc = dd (l.take k)) ∧ Below w.heap.size w wr) (fun _ i _ => n - (intOf i).toNat)
  case atStart => exact ⟨0, [], none, 0, Nat.zero_le _, rfl, rfl, ⟨⟨World.ownsRow_nil _ _ _ _, by simp⟩, rfl⟩, Below.refl _ _⟩
  case round =>
    obtain ⟨k, L, q, qc, hk, rfl, rfl, hD, hbl⟩ := hrel
    by_cases hlt : k < n
    · obtain ⟨g, off, rfl, hg2, hg⟩ := HP.out (by omega)
      have hLq : k < l.length := by rw [HN.out]; exact hlt
      obtain ⟨f, hf⟩ : ∃ f, l[k]? = some f := ⟨_, List.getElem?_eq_getElem hLq⟩
      obtain ⟨g1, g2⟩ := hg k f hf
      have e1 : wr.cell? ⟨g, off + k * 2, none⟩ = some (.string f.1) := (hbl.cell (p := ⟨g, off + k * 2, none⟩) hg2).trans g1
      have e2 : wr.cell? ⟨g, off + k * 2 + 1, none⟩ = some (.string f.2) := (hbl.cell (p := ⟨g, off + k * 2 + 1, none⟩) hg2).trans g2
      have hfs : f.2.size ≤ 1000000000000 := HS.out f (List.mem_of_getElem? hf)
      have HTK : Hid (l.take (k + 1) = l.take k ++ [f]) := by show _ = _; rw [List.take_add_one, hf]; rfl
      have HR0 : Hid (RFs wr w.heap.size (.slice q L.length qc) L) := hD.out.1
      have HM : Hid (L.map RF.nc = dd (l.take k)) := hD.out.2
      have HB0 : Hid (Below w.heap.size w wr) := hbl
      have hLl : L.length ≤ k := by
        have h1 : L.length = (dd (l.take k)).length := by rw [← HM.out, List.length_map]
        have h2 := dd_length (l.take k)
        simp at h2; omega
      by_cases he : ∃ f' ∈ L, f'.name = f.1
      · obtain ⟨i, f', hi, hn1, hj⟩ := rat_of_mem he
        have HE : Hid (dd (l.take (k + 1)) = dd (l.take k)) := by
          show _ = _
          rw [HTK.out, dd_snoc, if_pos ((rany_name HM.out f.1).2 he)]
        have HC : Hid (Calls Tryz.prog 21 #[.slice q L.length qc, .string f.1] wr fun e w' => e = .returned (.int .i64 (i : Nat)) ∧ w' = wr) := rfind _ _ L f.1 wr HR0.out _ (Or.inr ⟨i, f', rfl, hi, hn1, hj⟩)
        clear he hi hn1 hj hD hbl hg hg2 g1 g2 hf hk
        go_wp2_with (go_at_call 21; refine Calls.mono HC.out ?_; rintro e w' ⟨rfl, hw⟩; rw [hw]; clear hw)
        go_roundw
        case rel => exact ⟨k + 1, L, q, qc, by omega, by go_num, rfl, ⟨HR0.out, by rw [HE.out]; exact HM.out⟩, HB0.out⟩
        case measure => simp [intOf]; omega
      · have HE : Hid (dd (l.take (k + 1)) = dd (l.take k) ++ [f]) := by
          show _ = _
          rw [HTK.out, dd_snoc, if_neg (fun h => he ((rany_name HM.out f.1).1 h))]
        have HC : Hid (Calls Tryz.prog 21 #[.slice q L.length qc, .string f.1] wr fun e w' => e = .returned (.int .i64 (-1)) ∧ w' = wr) := rfind _ _ L f.1 wr HR0.out _ (Or.inl ⟨rfl, fun f' hf' e => he ⟨f', hf', e⟩⟩)
        have kc := fun w => bw_conv w f.2
        have hA : Below wr.heap.size wr (Lib.bytesWorld wr.drew 5 f.2) := (Below.refl _ _).drew.trans (below_bw wr.drew f.2)
        have sA : (Lib.bytesWorld wr.drew 5 f.2).heap.size = wr.heap.size + 1 := Lib.bytesWorld_size _ _ _
        have RA := HR0.out.new hA
        have bA := bs_bw wr.drew f.2 (by unfold maxLen; omega)
        obtain ⟨v2, w2, HR, ho2, hg2', -, q2, qc2, hv2⟩ := appN Tryz.underlying28 infoRF rfl (by decide) RA.row [.string f.1, .slice (some ⟨wr.heap.size, 0, none⟩) f.2.size (grownCap wr.drew f.2.size 0 5)] rfl (fun u hu => by simp at hu; rcases hu with rfl | rfl <;> rfl) (by omega) (by unfold maxLen; omega) (by rw [sA]; exact Nat.le_trans hbl.size (Nat.le_succ _))
        subst hv2
        rw [sA] at HR
        have hgb := grown_below RA.row hg2' (by rw [sA]; exact Nat.le_trans hbl.size (Nat.le_succ _))
        have hbA : Below w.heap.size w (Lib.bytesWorld wr.drew 5 f.2) := hbl.trans (hA.mono hbl.size)
        have HB2 : Hid (Below w.heap.size w w2) := hbA.trans hgb
        have ntag : ∀ {i : Nat} {C : Array Value} {t : TypeId} {fr : Nat × Nat}, (Lib.bytesWorld wr.drew 5 f.2).heap[i]? = some (.cells C t fr) → t ≠ 61 → some i ≠ (Value.slice q L.length qc).ownBlock := fun hi hne e => by
          obtain ⟨C', hC'⟩ := row_tag RA.row e.symm
          exact tag_ne hi hC' hne rfl
        have HO : Hid (RFs w2 w.heap.size (.slice (some q2) (L.length + 1) qc2) (L ++ [⟨f.1, f.2, .slice (some ⟨wr.heap.size, 0, none⟩) f.2.size (grownCap wr.drew f.2.size 0 5), wr.heap.size⟩])) := by
          refine ⟨?_, fun e he' => ?_⟩
          · rw [rfc_snoc, List.length_append]; exact ho2
          · have kb : ∀ {v : Value} {g : Nat} {c : ByteArray}, BS (Lib.bytesWorld wr.drew 5 f.2) v g c → BS w2 v g c := fun hb => by
              obtain ⟨C1, r1, t1⟩ := hb.tag
              exact hb.of_same (hg2'.block _ hb.lt (ntag t1 (by decide)))
            rcases List.mem_append.1 he' with he' | he'
            · exact kb (RA.bs e he')
            · simp at he'; subst he'; exact kb bA
        have s0 : wr.drew.cell? ⟨g, off + k * 2, none⟩ = some (.string f.1) ∧ wr.drew.cell? ⟨g, off + k * 2 + 1, none⟩ = some (.string f.2) := ⟨e1, e2⟩
        have sB : (Lib.bytesWorld wr.drew 5 f.2).cell? ⟨g, off + k * 2, none⟩ = some (.string f.1) ∧ (Lib.bytesWorld wr.drew 5 f.2).cell? ⟨g, off + k * 2 + 1, none⟩ = some (.string f.2) := ⟨(hbA.cell (p := ⟨g, off + k * 2, none⟩) hg2).trans g1, (hbA.cell (p := ⟨g, off + k * 2 + 1, none⟩) hg2).trans g2⟩
        have hbY : Below w.heap.size w ((Lib.bytesWorld wr.drew 5 f.2).alloc (.cells #[.string f.1, .slice (some ⟨wr.heap.size, 0, none⟩) f.2.size (grownCap wr.drew f.2.size 0 5)] 61)) := hbA.alloc hbA.size _
        have sC : ((Lib.bytesWorld wr.drew 5 f.2).alloc (.cells #[.string f.1, .slice (some ⟨wr.heap.size, 0, none⟩) f.2.size (grownCap wr.drew f.2.size 0 5)] 61)).cell? ⟨g, off + k * 2, none⟩ = some (.string f.1) ∧ ((Lib.bytesWorld wr.drew 5 f.2).alloc (.cells #[.string f.1, .slice (some ⟨wr.heap.size, 0, none⟩) f.2.size (grownCap wr.drew f.2.size 0 5)] 61)).cell? ⟨g, off + k * 2 + 1, none⟩ = some (.string f.2) := ⟨(hbY.cell (p := ⟨g, off + k * 2, none⟩) hg2).trans g1, (hbY.cell (p := ⟨g, off + k * 2 + 1, none⟩) hg2).trans g2⟩
        have sD : w2.cell? ⟨g, off + k * 2, none⟩ = some (.string f.1) ∧ w2.cell? ⟨g, off + k * 2 + 1, none⟩ = some (.string f.2) := ⟨(HB2.out.cell (p := ⟨g, off + k * 2, none⟩) hg2).trans g1, (HB2.out.cell (p := ⟨g, off + k * 2 + 1, none⟩) hg2).trans g2⟩
        clear he hD hbl hg hg2 g1 g2 hf hk hA RA bA ho2 hg2' hgb hbA ntag hbY HR0 HB0
        go_wp2_with (go_at_call 21; refine Calls.mono HC.out ?_; rintro e w' ⟨rfl, hw⟩; rw [hw]; clear hw)
        go_region_held_law (fun w' => w'.cell? ⟨g, off + k * 2, none⟩ = some (.string f.1) ∧ w'.cell? ⟨g, off + k * 2 + 1, none⟩ = some (.string f.2)) (first | with_reducible exact s0 | with_reducible exact sB | with_reducible exact sC | with_reducible exact sD) (refine step_app (vs := .slice q L.length qc) (vx := .slice (some ⟨wr.heap.size + 1, 0, none⟩) 1 1) rfl (.tmp 21) (.tmp 34) 28 28 rfl rfl rfl HR.out ?_)
        all_goals
          go_wp2
          go_roundw
          case rel => exact ⟨k + 1, L ++ [⟨f.1, f.2, .slice (some ⟨wr.heap.size, 0, none⟩) f.2.size (grownCap wr.drew f.2.size 0 5), wr.heap.size⟩], some q2, qc2, by omega, by go_num, by rw [List.length_append]; rfl, ⟨by rw [List.length_append]; exact HO.out, by rw [HE.out, List.map_append, HM.out]; rfl⟩, HB2.out⟩
          case measure => simp [intOf]; omega
    · obtain rfl : k = n := by omega
      have hk' : l.take k = l := List.take_of_length_le (by rw [HN.out]; exact Nat.le_refl _)
      rw [hk'] at hD
      have HB : Hid (Below w.heap.size w wr) := hbl
      clear hbl
      go_wp2
      go_ret
      exact ⟨_, L, rfl, hD.out.1, hD.out.2, HB.out⟩
end Go.Proofs.YtploagfjajlloaaGreatDoor
