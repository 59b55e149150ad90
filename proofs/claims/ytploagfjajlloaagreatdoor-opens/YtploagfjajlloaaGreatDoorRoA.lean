import Derived.Test.YtploagfjajlloaaGreatDoorRlX
import Derived.Test.YtploagfjajlloaaGreatDoorOpX
import Derived.Test.YtploagfjajlloaaGreatDoorSegA
import Derived.Deep.RegionHeld3
namespace Go.Proofs.YtploagfjajlloaaGreatDoor
open Go.RowKit Jr

theorem gvc_get (l : List Sg) (k : Nat) (g : Sg) (h : l[k]? = some g) : (gvc l)[k * 2]? = some (.int .i64 (g.1 : Nat)) ∧ (gvc l)[k * 2 + 1]? = some (.int .i64 (g.2.1 : Nat)) := by
  induction l generalizing k with
  | nil => simp at h
  | cons a l ih =>
    cases k with
    | zero => simp at h; subst h; simp [gvc]
    | succ k =>
      obtain ⟨h1, h2⟩ := ih k (by simpa using h)
      have e : gvc (a :: l) = .int .i64 (a.1 : Nat) :: .int .i64 (a.2.1 : Nat) :: gvc l := by simp [gvc]
      rw [e, show (k + 1) * 2 = k * 2 + 1 + 1 by omega]
      simp only [List.getElem?_cons_succ]
      exact ⟨h1, h2⟩
/-- What the segments make of file k. -/
def cutK (k : Nat) (f : Fl) (S : List Sg) : List Fl := S.filterMap fun g => if g.1 = k then some (f.1, f.2.extract 0 g.2.1) else none
theorem cutK_snoc (k : Nat) (f : Fl) (S : List Sg) (g : Sg) : cutK k f (S ++ [g]) = cutK k f S ++ (if g.1 = k then [(f.1, f.2.extract 0 g.2.1)] else []) := by
  unfold cutK
  rw [List.filterMap_append]
  congr 1
  by_cases h : g.1 = k <;> simp [h]
theorem cutK_nil {k : Nat} {f : Fl} {S : List Sg} (h : ∀ g ∈ S, g.1 ≠ k) : cutK k f S = [] := by
  unfold cutK
  rw [List.filterMap_eq_nil_iff]
  intro g hg
  rw [if_neg (h g hg)]
theorem cutK_one {k : Nat} {f : Fl} {S : List Sg} (hp : S.Pairwise fun a b => a.2.2 < b.2.2) {g : Sg} (hg : g ∈ S) (hgk : g.1 = k) (hu : ∀ g' ∈ S, g'.1 = k → g' = g) : cutK k f S = [(f.1, f.2.extract 0 g.2.1)] := by
  induction S with
  | nil => cases hg
  | cons a S ih =>
    rw [List.pairwise_cons] at hp
    have e : cutK k f (a :: S) = (if a.1 = k then [(f.1, f.2.extract 0 a.2.1)] else []) ++ cutK k f S := by
      unfold cutK
      by_cases h : a.1 = k <;> simp [h]
    rw [e]
    by_cases ha : a.1 = k
    · have hag := hu a (List.mem_cons_self ..) ha
      rw [if_pos ha, cutK_nil (S := S) (fun g' hg' h' => by
        have := hu g' (List.mem_cons_of_mem _ hg') h'
        have h3 := hp.1 g' hg'
        rw [this, hag] at h3
        omega), hag]
      rfl
    · rw [if_neg ha]
      rcases List.mem_cons.1 hg with h | h
      · subst h; exact absurd hgk ha
      · rw [List.nil_append, ih hp.2 h fun g' hg' => hu g' (List.mem_cons_of_mem _ hg')]
theorem cut_at {fs : List Fl} (hT : tot fs ≤ 67108864) (hnd : (fs.map Prod.fst).Nodup) {k : Nat} {f : Fl} (hk : fs[k]? = some f) :
    (if isSeg f.1 = true then [] else [f]) ++ cutK k f (logOf fs).2 = (opF (logOf fs).2 f).toList := by
  have hF := fin_of hT
  have hlt := fin_lt hT
  have nm : ∀ g ∈ (logOf fs).2, g.1 = k → nameOf g.2.2 = f.1 := fun g hg e => by
    obtain ⟨f', h1, h2, _⟩ := hF.seg g hg
    rw [e, hk] at h1
    injection h1 with h1
    rw [h1, h2]
  unfold opF
  by_cases hs : isSeg f.1 = true
  · rw [if_pos hs, if_pos hs, List.nil_append]
    cases hb : segBy (logOf fs).2 f.1 with
    | none =>
      rw [cutK_nil fun g hg e => segBy_none hb g hg (nm g hg e)]; rfl
    | some g =>
      obtain ⟨h1, h2⟩ := segBy_some hb
      have hgk : g.1 = k := by
        obtain ⟨f', h3, h4, _⟩ := hF.seg g h1
        have e1 : (fs.map Prod.fst)[g.1]? = some f.1 := by rw [List.getElem?_map, h3, ← h2, ← h4]; rfl
        have e2 : (fs.map Prod.fst)[k]? = some f.1 := by rw [List.getElem?_map, hk]; rfl
        exact (List.getElem?_inj (by simpa using (List.getElem?_eq_some_iff.1 h3).1) hnd).1 (e1.trans e2.symm)
      rw [cutK_one hF.inc h1 hgk fun g' hg' e => inc_uniq hF.inc hg' h1 (nameOf_inj (hlt g' hg') (hlt g h1) (by rw [nm g' hg' e, h2]))]
      rfl
  · rw [if_neg hs, if_neg hs, cutK_nil fun g hg e => hs (by rw [← nm g hg e]; exact isSeg_nameOf _)]
    rfl
theorem cut_take {fs : List Fl} (hT : tot fs ≤ 67108864) (hnd : (fs.map Prod.fst).Nodup) {k : Nat} {f : Fl} (hk : fs[k]? = some f) :
    (fs.take k).filterMap (opF (logOf fs).2) ++ (if isSeg f.1 = true then [] else [f]) ++ cutK k f (logOf fs).2 = (fs.take (k + 1)).filterMap (opF (logOf fs).2) := by
  rw [List.append_assoc, cut_at hT hnd hk, List.take_add_one, hk, List.filterMap_append]
  congr 1
/-- A slice's beginning. -/
theorem BS.cut {w : World} {g off cap : Nat} {c : ByteArray} {s n : Nat} (h : BS w (.slice (some ⟨g, off, none⟩) s cap) g c) (hs : s = c.size) (hn : n ≤ c.size) : BS w (.slice (some ⟨g, off, none⟩) n cap) g (c.extract 0 n) := by
  obtain ⟨o, cp, hv, h1, h2, h3⟩ := h.shape
  injection hv with e1 _ e3
  injection e1 with e1
  injection e1 with _ e2 _
  subst e2 e3 hs
  have hsz := size_extract0 c n hn
  refine ⟨⟨off, cap, by rw [hsz], by omega, h2, fun i hi => ?_⟩, h.tag⟩
  rw [byt_extract c n i hn (by omega)]
  exact h3 i (by omega)
theorem RFs.base {w : World} {B : Nat} {v : Value} {L : List RF} (h : RFs w B v L) : RFs w 0 v L := ⟨row_base h.row (Nat.zero_le _), h.bs⟩
/-- One file more. -/
theorem RFs.add {w : World} {B : Nat} {v : Value} {L : List RF} (h : RFs w B v L) (f : RF) (hf : BS w f.v f.g f.c) (hn : L.length ≤ 4294967296) (hB : B ≤ w.heap.size) :
    ∃ q qc w2, Hid (∀ ty, (Builtin.append_ #[28, 28] ty #[v, .slice (some ⟨w.heap.size, 0, none⟩) 1 1]).run Tryz.prog (w.alloc (.cells [.string f.name, f.v].toArray 61)) = .ok (.slice (some q) (L.length + 1) qc) w2) ∧ RFs w2 B (.slice (some q) (L.length + 1) qc) (L ++ [f]) ∧ Below B w w2 := by
  have hv1 : f.v.oneCell' = true := by obtain ⟨_, _, e, _⟩ := hf.shape; rw [e]; rfl
  obtain ⟨v2, w2, HR, ho2, hg2, -, q, qc, rfl⟩ := appN Tryz.underlying28 infoRF rfl (by decide) h.row [.string f.name, f.v] rfl (fun u hu => by
    simp at hu
    rcases hu with rfl | rfl
    · rfl
    · exact hv1) (by omega) (by unfold maxLen; omega) hB
  have ntag : ∀ {i : Nat} {C : Array Value} {t : TypeId} {fr : Nat × Nat}, w.heap[i]? = some (.cells C t fr) → t ≠ 61 → some i ≠ v.ownBlock := fun hi hne e => by
    obtain ⟨C', hC'⟩ := row_tag h.row e.symm
    exact tag_ne hi hC' hne rfl
  have kb : ∀ {v : Value} {g : Nat} {c : ByteArray}, BS w v g c → BS w2 v g c := fun hb => by
    obtain ⟨C1, r1, t1⟩ := hb.tag
    exact hb.of_same (hg2.block _ hb.lt (ntag t1 (by decide)))
  refine ⟨q, qc, w2, HR, ⟨by rw [rfc_snoc, List.length_append]; exact ho2, fun e he => ?_⟩, grown_below h.row hg2 hB⟩
  rcases List.mem_append.1 he with he | he
  · exact kb (h.bs e he)
  · simp at he; subst he; exact kb hf

set_option maxRecDepth 10000 in
set_option maxHeartbeats 8000000 in
theorem ropened (v : Value) (R : List RF) (B : Nat) (w : World) (h : RFs w B v R) (hn : R.length ≤ 1073741824) (hT : tot (R.map RF.nc) ≤ 67108864) (hnd : ((R.map RF.nc).map Prod.fst).Nodup) (hnm : ∀ f ∈ R, f.name.size ≤ 9223372036854775807) :
    Calls Tryz.prog 10 #[v] w fun e w' => ∃ v' R', e = .returned v' ∧ RFs w' 0 v' R' ∧ R'.map RF.nc = opn (R.map RF.nc) ∧ Below w.heap.size w w' := by
  have HL : Hid _ := rlog v R B w h hn hT
  have HH : Hid (RFs w B v R) := h
  have HT : Hid (tot (R.map RF.nc) ≤ 67108864) := hT
  have HND : Hid (((R.map RF.nc).map Prod.fst).Nodup) := hnd
  have HNM : Hid (∀ f ∈ R, f.name.size ≤ 9223372036854775807) := hnm
  have HFN : Hid (∀ g ∈ (logOf (R.map RF.nc)).2, ∃ f, (R.map RF.nc)[g.1]? = some f ∧ g.2.1 ≤ f.2.size) := fun g hg => by
    obtain ⟨f, h1, _, _, h4, _⟩ := (fin_of hT).seg g hg
    exact ⟨f, h1, h4⟩
  have hSl : (logOf (R.map RF.nc)).2.length ≤ 2581112 := by
    have hF := fin_of hT
    have hb := fin_bnd hT
    have key : ∀ (S : List Sg) (b n : Nat), S.Pairwise (fun a b => a.2.2 < b.2.2) → (∀ g ∈ S, b ≤ g.2.2 ∧ g.2.2 ≤ n) → b ≤ n + 1 → S.length ≤ n + 1 - b := by
      intro S
      induction S with
      | nil => intro b n _ _ _; simp
      | cons a S ih =>
        intro b n hp hg hbn
        rw [List.pairwise_cons] at hp
        have ha := hg a (List.mem_cons_self ..)
        have := ih (a.2.2 + 1) n hp.2 (fun g hg' => ⟨hp.1 g hg', (hg g (List.mem_cons_of_mem _ hg')).2⟩) (by omega)
        rw [List.length_cons]; omega
    have := key _ 0 (logOf (R.map RF.nc)).1.length hF.inc (fun g hg => by
      obtain ⟨_, _, _, h3, _⟩ := hF.seg g hg
      exact ⟨Nat.zero_le _, h3⟩) (Nat.zero_le _)
    omega
  obtain ⟨S, hS⟩ : ∃ S, (logOf (R.map RF.nc)).2 = S := ⟨_, rfl⟩
  rw [hS] at HL HFN hSl
  have HS : Hid ((logOf (R.map RF.nc)).2 = S) := hS
  obtain ⟨m, hm⟩ : ∃ m, S.length = m := ⟨_, rfl⟩
  have HM : Hid (S.length = m) := hm
  rw [hm] at HL hSl
  obtain ⟨p, cap, rfl, hcap, hmax, HP⟩ := h.pack
  obtain ⟨nn, hnn⟩ : ∃ nn, R.length = nn := ⟨_, rfl⟩
  have HNN : Hid (R.length = nn) := hnn
  rw [hnn] at hcap hn HP HH HL ⊢
  clear h hT hnd hnm hnn hS hm
  go_enter Tryz.func10, Tryz.ntmps10
  go_upto_region 2 with (go_at_call 9; refine Calls.mono HL.out ?_; rintro e W1 ⟨lv, sv, rfl, -, hsr, hb1⟩)
  obtain ⟨sp, sc, rfl, hsc1, hsc2, hsp⟩ := row_shape hsr
  unfold maxLen at hsc2
  have HSR : Hid (W1.ownsRow w.heap.size 80 2 (.slice sp m sc) m (gvc S)) := hsr
  have HSP : Hid (0 < m → ∃ g, sp = some ⟨g, 0, none⟩ ∧ g < W1.heap.size ∧ ∀ (j : Nat) (x : Sg), S[j]? = some x → W1.cell? ⟨g, j * 2, none⟩ = some (.int .i64 (x.1 : Nat)) ∧ W1.cell? ⟨g, j * 2 + 1, none⟩ = some (.int .i64 (x.2.1 : Nat))) := fun h0 => by
    obtain ⟨g, hg1, _, hg2, hg3⟩ := hsp h0
    refine ⟨g, hg1, hg2, fun j x hx => ?_⟩
    have hjl := (List.getElem?_eq_some_iff.1 hx).1
    obtain ⟨y1, y2⟩ := gvc_get S j x hx
    have hm := HM.out
    rw [hg3 _ (by omega), hg3 _ (by omega)]
    exact ⟨y1, y2⟩
  have HB1 : Hid (Below w.heap.size w W1) := hb1
  clear hsp hsr hb1 HL
  go_upto_region 4 with fail
  go_loopw [5, 6] (fun o i wr => ∃ (k : Nat) (R' : List RF) (q : Option Addr) (n' qc : Nat), k ≤ nn ∧ i = .int .i64 k ∧ o = .slice q n' qc ∧ Hid (R'.length = n' ∧ RFs wr W1.heap.size o R' ∧ R'.map RF.nc = ((R.map RF.nc).take k).filterMap (opF S) ∧ Below W1.heap.size W1 wr)) (fun _ i _ => nn - (intOf i).toNat)
  case atStart => exact ⟨0, [], none, 0, 0, Nat.zero_le _, rfl, rfl, rfl, ⟨by simpa [rfc] using World.ownsRow_nil W1 _ _ _, by simp⟩, by simp, Below.refl _ _⟩
  case round =>
    obtain ⟨k, R', q, n', qc, hk, rfl, rfl, HI⟩ := hrel
    by_cases hlt : k < nn
    · obtain ⟨g, rfl, hgl, hc⟩ := HP.out (by omega)
      have hjl : k < R.length := by rw [HNN.out]; exact hlt
      obtain ⟨f, hf⟩ : ∃ f, R[k]? = some f := ⟨_, List.getElem?_eq_getElem hjl⟩
      have HFK : Hid ((R.map RF.nc)[k]? = some f.nc) := by show _ = _; rw [List.getElem?_map, hf]; rfl
      have hbs0 := HH.out.bs f (List.mem_of_getElem? hf)
      obtain ⟨o, c, hv, q1, q2, q3⟩ := hbs0.shape
      rw [hv] at hbs0
      have HBS : Hid (BS w (.slice (some ⟨f.g, o, none⟩) f.c.size c) f.g f.c) := hbs0
      have HC : Hid (w.cell? ⟨g, k * 2, none⟩ = some (.string f.name) ∧ w.cell? ⟨g, k * 2 + 1, none⟩ = some (.slice (some ⟨f.g, o, none⟩) f.c.size c)) := by
        rw [← hv]; exact hc k f hf
      have hBw0 : Below w.heap.size w wr := HB1.out.trans (HI.out.2.2.2.mono HB1.out.size)
      have e0 : wr.cell? ⟨g, k * 2, none⟩ = some (.string f.name) := (hBw0.cell (p := ⟨g, k * 2, none⟩) hgl).trans HC.out.1
      have e1 : wr.cell? ⟨g, k * 2 + 1, none⟩ = some (.slice (some ⟨f.g, o, none⟩) f.c.size c) := (hBw0.cell (p := ⟨g, k * 2 + 1, none⟩) hgl).trans HC.out.2
      have HSG : Hid (Calls Tryz.prog 27 #[.string f.name] wr fun e w' => e = .returned (.bool (isSeg f.name)) ∧ w' = wr) := rsegment f.name wr (HNM.out f (List.mem_of_getElem? hf))
      obtain ⟨BA, hBA⟩ : ∃ BA, BA = ((R.map RF.nc).take k).filterMap (opF S) ++ (if isSeg f.name = true then [] else [f.nc]) := ⟨_, rfl⟩
      have HBA : Hid (BA.length ≤ k + 1 ∧ BA ++ cutK k f.nc S = ((R.map RF.nc).take (k + 1)).filterMap (opF S)) := by
        refine ⟨?_, ?_⟩
        · rw [hBA, List.length_append]
          have e2 : (((R.map RF.nc).take k).filterMap (opF S)).length ≤ ((R.map RF.nc).take k).length := List.length_filterMap_le _ _
          rw [List.length_take] at e2
          have e3 : (if isSeg f.name = true then ([] : List Fl) else [f.nc]).length ≤ 1 := by split <;> simp
          omega
        · have := cut_take HT.out HND.out HFK.out
          rw [HS.out] at this
          rw [hBA]; exact this
      clear hbs0 q3 hc hf hjl hv
      go_upto_region 7 with (go_at_call 27; refine Calls.mono HSG.out ?_; rintro e w' ⟨rfl, hw⟩; rw [hw]; clear hw)
      clear HSG
      cases hsg : isSeg f.name with
      | true =>
        have HST : Hid (R'.length = n' ∧ RFs wr W1.heap.size (.slice q n' qc) R' ∧ R'.map RF.nc = BA ++ cutK k f.nc (S.take 0) ∧ Below W1.heap.size W1 wr) := by
          refine ⟨HI.out.1, HI.out.2.1, ?_, HI.out.2.2.2⟩
          rw [hBA, hsg, if_pos rfl, HI.out.2.2.1]; simp [cutK]
        clear hBA hsg HI hBw0
        go_upto_region 10 with fail
        go_loopw [5, 8] (fun o' t wr2 => ∃ (j : Nat) (R2 : List RF) (q2 : Option Addr) (n2 qc2 : Nat), j ≤ m ∧ t = .int .i64 j ∧ o' = .slice q2 n2 qc2 ∧ Hid (R2.length = n2 ∧ RFs wr2 W1.heap.size o' R2 ∧ R2.map RF.nc = BA ++ cutK k f.nc (S.take j) ∧ Below W1.heap.size W1 wr2)) (fun _ t _ => m - (intOf t).toNat)
        case atStart => exact ⟨0, _, _, _, _, Nat.zero_le _, rfl, rfl, HST.out⟩
        case round =>
          obtain ⟨j, R2, q2, n2, qc2, hj, rfl, rfl, HJ⟩ := hrel
          have hn2 : n2 ≤ 1076322938 := by
            have e1 := congrArg List.length HJ.out.2.2.1
            rw [List.length_map, HJ.out.1, List.length_append] at e1
            have e2 : (cutK k f.nc (S.take j)).length ≤ (S.take j).length := List.length_filterMap_le _ _
            rw [List.length_take] at e2
            have := HBA.out.1
            omega
          have hBw : Below w.heap.size w wr := HB1.out.trans (HJ.out.2.2.2.mono HB1.out.size)
          by_cases hjm : j < m
          · obtain ⟨gs, rfl, hgsl, hsc⟩ := HSP.out (by omega)
            have hjl : j < S.length := by rw [HM.out]; exact hjm
            obtain ⟨x, hx⟩ : ∃ x, S[j]? = some x := ⟨_, List.getElem?_eq_getElem hjl⟩
            have s0 : wr.cell? ⟨gs, j * 2, none⟩ = some (.int .i64 (x.1 : Nat)) := (HJ.out.2.2.2.cell (p := ⟨gs, j * 2, none⟩) hgsl).trans (hsc j x hx).1
            have htk : S.take (j + 1) = S.take j ++ [x] := by rw [List.take_add_one, hx]; rfl
            have HCK : Hid (cutK k f.nc (S.take (j + 1)) = cutK k f.nc (S.take j) ++ (if x.1 = k then [(f.name, f.c.extract 0 x.2.1)] else [])) := by
              show _ = _
              rw [htk, cutK_snoc]
            by_cases hxk : x.1 = k
            · have hxs : x.2.1 ≤ f.c.size := by
                obtain ⟨f', hf1, hf2⟩ := HFN.out x (List.mem_of_getElem? hx)
                rw [hxk, HFK.out] at hf1
                injection hf1 with hf1
                rw [← hf1] at hf2
                exact hf2
              have dx : ((x.1 : Int) == (k : Int)) = true := by simp [hxk]
              have hbs2 : BS wr (.slice (some ⟨f.g, o, none⟩) f.c.size c) f.g f.c := HBS.out.on' hBw HBS.out.lt
              obtain ⟨q3, qc3, w3, HAR, hal, hab⟩ := RFs.add (w := wr.drew) (HJ.out.2.1.new (Below.refl _ _).drew) ⟨f.name, f.c.extract 0 x.2.1, .slice (some ⟨f.g, o, none⟩) x.2.1 c, f.g⟩ ((hbs2.cut rfl hxs).on' (Below.refl _ _).drew hbs2.lt) (by rw [HJ.out.1]; omega) HJ.out.2.2.2.size
              rw [HJ.out.1] at HAR hal
              have HAR' : Hid (∀ ty, (Builtin.append_ #[28, 28] ty #[.slice q2 n2 qc2, .slice (some ⟨wr.heap.size, 0, none⟩) 1 1]).run Tryz.prog (wr.alloc (.cells #[.string f.name, .slice (some ⟨f.g, o, none⟩) x.2.1 c] 61)).drew = .ok (.slice (some q3) (n2 + 1) qc3) w3) := HAR.out
              have HAL : Hid (RFs w3 W1.heap.size (.slice (some q3) (n2 + 1) qc3) (R2 ++ [(⟨f.name, f.c.extract 0 x.2.1, .slice (some ⟨f.g, o, none⟩) x.2.1 c, f.g⟩ : RF)])) := hal
              have HB3 : Hid (Below W1.heap.size W1 w3) := HJ.out.2.2.2.drew.trans hab
              have al : Below wr.heap.size wr (wr.alloc (.cells #[.string f.name, .slice (some ⟨f.g, o, none⟩) x.2.1 c] 61)) := (Below.refl _ _).alloc (Nat.le_refl _) _
              have sw : ∀ W : World, Below W1.heap.size W1 W → W.cell? ⟨g, k * 2, none⟩ = some (.string f.name) ∧ W.cell? ⟨g, k * 2 + 1, none⟩ = some (.slice (some ⟨f.g, o, none⟩) f.c.size c) ∧ W.cell? ⟨gs, j * 2 + 1, none⟩ = some (.int .i64 (x.2.1 : Nat)) := fun W hW =>
                ⟨((HB1.out.trans (hW.mono HB1.out.size)).cell (p := ⟨g, k * 2, none⟩) hgl).trans HC.out.1, ((HB1.out.trans (hW.mono HB1.out.size)).cell (p := ⟨g, k * 2 + 1, none⟩) hgl).trans HC.out.2, (hW.cell (p := ⟨gs, j * 2 + 1, none⟩) hgsl).trans (hsc j x hx).2⟩
              have t0 := sw wr.drew HJ.out.2.2.2.drew
              have t1 := sw (wr.alloc (.cells #[.string f.name, .slice (some ⟨f.g, o, none⟩) x.2.1 c] 61)).drew (HJ.out.2.2.2.trans (al.mono HJ.out.2.2.2.size)).drew
              have t2 := sw w3 HB3.out
              have hxc : (x.2.1 : Int) ≤ c := by omega
              clear hal hab al sw hbs2 HAR hsc hx htk hBw hgsl
              go_upto_region 13 with fail
              go_region_held3 (fun w' => w'.cell? ⟨g, k * 2, none⟩ = some (.string f.name) ∧ w'.cell? ⟨g, k * 2 + 1, none⟩ = some (.slice (some ⟨f.g, o, none⟩) f.c.size c) ∧ w'.cell? ⟨gs, j * 2 + 1, none⟩ = some (.int .i64 (x.2.1 : Nat))) (first | with_reducible exact t0 | with_reducible exact t1 | with_reducible exact t2) (refine step_app (vs := .slice q2 n2 qc2) (vx := .slice (some ⟨wr.heap.size, 0, none⟩) 1 1) rfl (.tmp 48) (.tmp 66) 28 28 rfl rfl rfl HAR'.out ?_)
              all_goals
                go_wp2
                go_roundw
                case rel => exact ⟨j + 1, R2 ++ [(⟨f.name, f.c.extract 0 x.2.1, .slice (some ⟨f.g, o, none⟩) x.2.1 c, f.g⟩ : RF)], some q3, n2 + 1, qc3, by omega, by go_num, rfl, by rw [List.length_append, HJ.out.1]; rfl, HAL.out, by rw [HCK.out, if_pos hxk, List.map_append, HJ.out.2.2.1, List.append_assoc]; rfl, HB3.out⟩
                case measure => simp [intOf]; omega
            · have dx : ((x.1 : Int) == (k : Int)) = false := by simp; omega
              clear hsc hx htk hBw hgsl
              go_wp2
              go_roundw
              case rel => exact ⟨j + 1, R2, q2, n2, qc2, by omega, by go_num, rfl, HJ.out.1, HJ.out.2.1, by rw [HCK.out, if_neg hxk, List.append_nil]; exact HJ.out.2.2.1, HJ.out.2.2.2⟩
              case measure => simp [intOf]; omega
          · obtain rfl : j = m := by omega
            have htk : S.take j = S := List.take_of_length_le (by rw [HM.out]; exact Nat.le_refl _)
            rw [htk] at HJ
            clear hBw htk
            go_wp2
            go_roundw
            case rel => exact ⟨k + 1, R2, q2, n2, qc2, by omega, by go_num, rfl, HJ.out.1, HJ.out.2.1, by rw [HJ.out.2.2.1, HBA.out.2], HJ.out.2.2.2⟩
            case measure => simp [intOf]; omega
      | false =>
        have hbs2 : BS wr (.slice (some ⟨f.g, o, none⟩) f.c.size c) f.g f.c := HBS.out.on' hBw0 HBS.out.lt
        have hnk : n' ≤ 1073741824 := by
          have e1 := congrArg List.length HI.out.2.2.1
          rw [List.length_map, HI.out.1] at e1
          have e2 : (((R.map RF.nc).take k).filterMap (opF S)).length ≤ ((R.map RF.nc).take k).length := List.length_filterMap_le _ _
          rw [List.length_take] at e2
          omega
        obtain ⟨q4, qc4, w4, HAR, hal, hab⟩ := HI.out.2.1.add ⟨f.name, f.c, .slice (some ⟨f.g, o, none⟩) f.c.size c, f.g⟩ hbs2 (by rw [HI.out.1]; omega) HI.out.2.2.2.size
        rw [HI.out.1] at HAR hal
        have HST : Hid ((R' ++ [(⟨f.name, f.c, .slice (some ⟨f.g, o, none⟩) f.c.size c, f.g⟩ : RF)]).length = n' + 1 ∧ RFs w4 W1.heap.size (.slice (some q4) (n' + 1) qc4) (R' ++ [(⟨f.name, f.c, .slice (some ⟨f.g, o, none⟩) f.c.size c, f.g⟩ : RF)]) ∧ (R' ++ [(⟨f.name, f.c, .slice (some ⟨f.g, o, none⟩) f.c.size c, f.g⟩ : RF)]).map RF.nc = BA ++ cutK k f.nc (S.take 0) ∧ Below W1.heap.size W1 w4) := by
          refine ⟨by rw [List.length_append, HI.out.1]; rfl, hal, ?_, HI.out.2.2.2.trans hab⟩
          rw [hBA, hsg, if_neg (by simp), List.map_append, HI.out.2.2.1]; simp [cutK]
        clear hBA hsg hBw0 hal hab hbs2
        go_upto_region 10 with (at_builtin; refine wpList_app rfl _ _ _ _ rfl rfl rfl HAR.out ?_)
        clear e0 e1 HI HAR
        go_loopw [5, 8] (fun o' t wr2 => ∃ (j : Nat) (R2 : List RF) (q2 : Option Addr) (n2 qc2 : Nat), j ≤ m ∧ t = .int .i64 j ∧ o' = .slice q2 n2 qc2 ∧ Hid (R2.length = n2 ∧ RFs wr2 W1.heap.size o' R2 ∧ R2.map RF.nc = BA ++ cutK k f.nc (S.take j) ∧ Below W1.heap.size W1 wr2)) (fun _ t _ => m - (intOf t).toNat)
        case atStart => exact ⟨0, _, _, _, _, Nat.zero_le _, rfl, rfl, HST.out⟩
        case round =>
          obtain ⟨j, R2, q2, n2, qc2, hj, rfl, rfl, HJ⟩ := hrel
          have hn2 : n2 ≤ 1076322938 := by
            have e1 := congrArg List.length HJ.out.2.2.1
            rw [List.length_map, HJ.out.1, List.length_append] at e1
            have e2 : (cutK k f.nc (S.take j)).length ≤ (S.take j).length := List.length_filterMap_le _ _
            rw [List.length_take] at e2
            have := HBA.out.1
            omega
          have hBw : Below w.heap.size w wr := HB1.out.trans (HJ.out.2.2.2.mono HB1.out.size)
          by_cases hjm : j < m
          · obtain ⟨gs, rfl, hgsl, hsc⟩ := HSP.out (by omega)
            have hjl : j < S.length := by rw [HM.out]; exact hjm
            obtain ⟨x, hx⟩ : ∃ x, S[j]? = some x := ⟨_, List.getElem?_eq_getElem hjl⟩
            have s0 : wr.cell? ⟨gs, j * 2, none⟩ = some (.int .i64 (x.1 : Nat)) := (HJ.out.2.2.2.cell (p := ⟨gs, j * 2, none⟩) hgsl).trans (hsc j x hx).1
            have htk : S.take (j + 1) = S.take j ++ [x] := by rw [List.take_add_one, hx]; rfl
            have HCK : Hid (cutK k f.nc (S.take (j + 1)) = cutK k f.nc (S.take j) ++ (if x.1 = k then [(f.name, f.c.extract 0 x.2.1)] else [])) := by
              show _ = _
              rw [htk, cutK_snoc]
            by_cases hxk : x.1 = k
            · have hxs : x.2.1 ≤ f.c.size := by
                obtain ⟨f', hf1, hf2⟩ := HFN.out x (List.mem_of_getElem? hx)
                rw [hxk, HFK.out] at hf1
                injection hf1 with hf1
                rw [← hf1] at hf2
                exact hf2
              have dx : ((x.1 : Int) == (k : Int)) = true := by simp [hxk]
              have hbs2 : BS wr (.slice (some ⟨f.g, o, none⟩) f.c.size c) f.g f.c := HBS.out.on' hBw HBS.out.lt
              obtain ⟨q3, qc3, w3, HAR, hal, hab⟩ := RFs.add (w := wr.drew) (HJ.out.2.1.new (Below.refl _ _).drew) ⟨f.name, f.c.extract 0 x.2.1, .slice (some ⟨f.g, o, none⟩) x.2.1 c, f.g⟩ ((hbs2.cut rfl hxs).on' (Below.refl _ _).drew hbs2.lt) (by rw [HJ.out.1]; omega) HJ.out.2.2.2.size
              rw [HJ.out.1] at HAR hal
              have HAR' : Hid (∀ ty, (Builtin.append_ #[28, 28] ty #[.slice q2 n2 qc2, .slice (some ⟨wr.heap.size, 0, none⟩) 1 1]).run Tryz.prog (wr.alloc (.cells #[.string f.name, .slice (some ⟨f.g, o, none⟩) x.2.1 c] 61)).drew = .ok (.slice (some q3) (n2 + 1) qc3) w3) := HAR.out
              have HAL : Hid (RFs w3 W1.heap.size (.slice (some q3) (n2 + 1) qc3) (R2 ++ [(⟨f.name, f.c.extract 0 x.2.1, .slice (some ⟨f.g, o, none⟩) x.2.1 c, f.g⟩ : RF)])) := hal
              have HB3 : Hid (Below W1.heap.size W1 w3) := HJ.out.2.2.2.drew.trans hab
              have al : Below wr.heap.size wr (wr.alloc (.cells #[.string f.name, .slice (some ⟨f.g, o, none⟩) x.2.1 c] 61)) := (Below.refl _ _).alloc (Nat.le_refl _) _
              have sw : ∀ W : World, Below W1.heap.size W1 W → W.cell? ⟨g, k * 2, none⟩ = some (.string f.name) ∧ W.cell? ⟨g, k * 2 + 1, none⟩ = some (.slice (some ⟨f.g, o, none⟩) f.c.size c) ∧ W.cell? ⟨gs, j * 2 + 1, none⟩ = some (.int .i64 (x.2.1 : Nat)) := fun W hW =>
                ⟨((HB1.out.trans (hW.mono HB1.out.size)).cell (p := ⟨g, k * 2, none⟩) hgl).trans HC.out.1, ((HB1.out.trans (hW.mono HB1.out.size)).cell (p := ⟨g, k * 2 + 1, none⟩) hgl).trans HC.out.2, (hW.cell (p := ⟨gs, j * 2 + 1, none⟩) hgsl).trans (hsc j x hx).2⟩
              have t0 := sw wr.drew HJ.out.2.2.2.drew
              have t1 := sw (wr.alloc (.cells #[.string f.name, .slice (some ⟨f.g, o, none⟩) x.2.1 c] 61)).drew (HJ.out.2.2.2.trans (al.mono HJ.out.2.2.2.size)).drew
              have t2 := sw w3 HB3.out
              have hxc : (x.2.1 : Int) ≤ c := by omega
              clear hal hab al sw hbs2 HAR hsc hx htk hBw hgsl
              go_upto_region 13 with fail
              go_region_held3 (fun w' => w'.cell? ⟨g, k * 2, none⟩ = some (.string f.name) ∧ w'.cell? ⟨g, k * 2 + 1, none⟩ = some (.slice (some ⟨f.g, o, none⟩) f.c.size c) ∧ w'.cell? ⟨gs, j * 2 + 1, none⟩ = some (.int .i64 (x.2.1 : Nat))) (first | with_reducible exact t0 | with_reducible exact t1 | with_reducible exact t2) (refine step_app (vs := .slice q2 n2 qc2) (vx := .slice (some ⟨wr.heap.size, 0, none⟩) 1 1) rfl (.tmp 48) (.tmp 66) 28 28 rfl rfl rfl HAR'.out ?_)
              all_goals
                go_wp2
                go_roundw
                case rel => exact ⟨j + 1, R2 ++ [(⟨f.name, f.c.extract 0 x.2.1, .slice (some ⟨f.g, o, none⟩) x.2.1 c, f.g⟩ : RF)], some q3, n2 + 1, qc3, by omega, by go_num, rfl, by rw [List.length_append, HJ.out.1]; rfl, HAL.out, by rw [HCK.out, if_pos hxk, List.map_append, HJ.out.2.2.1, List.append_assoc]; rfl, HB3.out⟩
                case measure => simp [intOf]; omega
            · have dx : ((x.1 : Int) == (k : Int)) = false := by simp; omega
              clear hsc hx htk hBw hgsl
              go_wp2
              go_roundw
              case rel => exact ⟨j + 1, R2, q2, n2, qc2, by omega, by go_num, rfl, HJ.out.1, HJ.out.2.1, by rw [HCK.out, if_neg hxk, List.append_nil]; exact HJ.out.2.2.1, HJ.out.2.2.2⟩
              case measure => simp [intOf]; omega
          · obtain rfl : j = m := by omega
            have htk : S.take j = S := List.take_of_length_le (by rw [HM.out]; exact Nat.le_refl _)
            rw [htk] at HJ
            clear hBw htk
            go_wp2
            go_roundw
            case rel => exact ⟨k + 1, R2, q2, n2, qc2, by omega, by go_num, rfl, HJ.out.1, HJ.out.2.1, by rw [HJ.out.2.2.1, HBA.out.2], HJ.out.2.2.2⟩
            case measure => simp [intOf]; omega
    · obtain rfl : k = nn := by omega
      have htk : (R.map RF.nc).take k = R.map RF.nc := List.take_of_length_le (by rw [List.length_map, HNN.out]; exact Nat.le_refl _)
      rw [htk] at HI
      clear htk
      go_wp2
      go_ret
      refine ⟨_, R', rfl, HI.out.2.1.base, ?_, HB1.out.trans (HI.out.2.2.2.mono HB1.out.size)⟩
      rw [HI.out.2.2.1, ← HS.out]; rfl
end Go.Proofs.YtploagfjajlloaaGreatDoor
