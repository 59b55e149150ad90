import Derived.Test.YtploagfjajlloaaGreatDoorClA
import Derived.Test.YtploagfjajlloaaGreatDoorRsX
import Derived.Test.YtploagfjajlloaaGreatDoorFmX
import Derived.Test.YtploagfjajlloaaGreatDoorRpA
namespace Go.Proofs.YtploagfjajlloaaGreatDoor
open Go.RowKit Jr

set_option maxHeartbeats 1000000 in
theorem levent (v p : Int) (st d : ByteArray) (w : World) :
    Calls Tryz.prog 31 #[.agg (pev st v p d)] w fun e w' => e = .returned (.agg (pev st v p d)) ∧ Below w.heap.size w w' := by
  go_enter Tryz.func31, Tryz.ntmps31
  go_wp2
  refine bodyPost_ret (v := .agg (pev st v p d)) (by simp [results, Tryz.results31, go_sem]) rfl ⟨rfl, ?_⟩
  go_grown
theorem infoRE : (Tryz.prog.info? 75).map (fun i => (i.zero, i.size, i.bytes)) = some (some (.agg #[.string ⟨#[]⟩, .int .i64 0, .int .i64 0, .string ⟨#[]⟩]), 4, 48) := by kernel_rfl

set_option maxRecDepth 10000 in
set_option maxHeartbeats 4000000 in
theorem lall (ps sb d g m : Nat) (v : Value) (log : List Ev) (S : ByteArray → Value) (fr n : Int) (w : World) (h : OSt w ps sb d g m v log S) (h1 : -9223372036854775808 ≤ fr) (h2 : fr ≤ 9223372036854775807) (hn : log.length ≤ 1000000000) (hpl : (partL log fr n).length ≤ 1000000000) :
    Calls Tryz.prog 14 #[.pointer (some ⟨ps, 0, none⟩), .int .i64 fr, .int .i64 n] w fun e w' => ∃ lv, e = .returned (.tuple #[lv, .bool true]) ∧ w'.ownsRow w.heap.size 75 4 lv (partL log fr n).length (pvc (partL log fr n)) ∧ Kp (· = sb) w w' ∧ w'.heap[sb]? = some (sobj (.pointer (some ⟨g, 0, none⟩)) false) := by
  have HJ : Hid _ := pall ps sb d g m v log S fr n w h h1 h2 hn
  have hsw : sb < w.heap.size := heap_lt h.sb
  clear h
  obtain ⟨PL, hPL⟩ : ∃ PL, partL log fr n = PL := ⟨_, rfl⟩
  rw [hPL] at HJ hpl ⊢
  clear hPL
  go_enter Tryz.func14, Tryz.ntmps14
  go_upto_region 4 with (go_at_call 30; refine Calls.mono HJ.out ?_; rintro e W1 ⟨lv, rfl, hr1, hk1, hs1⟩; obtain ⟨p, cap, rfl, hcap, hmax, hp⟩ := row_shape hr1)
  unfold maxLen at hmax
  obtain ⟨N, hN⟩ : ∃ N, PL.length = N := ⟨_, rfl⟩
  have HN : Hid (PL.length = N) := hN
  have HP : Hid (0 < N → ∃ ge, p = some ⟨ge, 0, none⟩ ∧ ge < W1.heap.size ∧ ∀ j (e : Ev), PL[j]? = some e → W1.cell? ⟨ge, j * 4, none⟩ = some (.string e.st) ∧ W1.cell? ⟨ge, j * 4 + 1, none⟩ = some (.int .i64 e.v) ∧ W1.cell? ⟨ge, j * 4 + 2, none⟩ = some (.int .i64 e.p) ∧ W1.cell? ⟨ge, j * 4 + 3, none⟩ = some (.string e.d)) := fun h0 => by
    obtain ⟨ge, hpe, hob, hlt, hc⟩ := hp (by omega)
    refine ⟨ge, hpe, hlt, fun j e hj => ?_⟩
    have hjl := (List.getElem?_eq_some_iff.1 hj).1
    obtain ⟨g0, g1, g2, g3⟩ := pvc_get PL j e hj
    exact ⟨(hc _ (by omega)).trans g0, (hc _ (by omega)).trans g1, (hc _ (by omega)).trans g2, (hc _ (by omega)).trans g3⟩
  have HK1 : Hid (Kp (· = sb) w W1 ∧ W1.heap[sb]? = some (sobj (.pointer (some ⟨g, 0, none⟩)) false)) := ⟨hk1, hs1⟩
  have hz1 : w.heap.size ≤ W1.heap.size := hk1.size
  rw [hN] at hcap hpl ⊢
  clear hp hN hr1 hk1 hs1 HJ
  go_loopw [8, 11] (fun o i wr => ∃ (k : Nat) (q : Option Addr) (qc : Nat), k ≤ N ∧ i = .int .i64 k ∧ o = .slice q k qc ∧ Hid (wr.ownsRow W1.heap.size 75 4 o k (pvc (PL.take k))) ∧ Hid (Below W1.heap.size W1 wr)) (fun _ i _ => N - (intOf i).toNat)
  case atStart => exact ⟨0, none, 0, Nat.zero_le _, rfl, rfl, by show World.ownsRow _ _ _ _ _ _ _; simpa [pvc] using World.ownsRow_nil W1 _ _ _, Below.refl _ _⟩
  case round =>
    obtain ⟨k, q, qc, hk, rfl, rfl, hO, hbl⟩ := hrel
    by_cases hlt : k < N
    · obtain ⟨ge, rfl, hgl, hcells⟩ := HP.out (by omega)
      have hjl : k < PL.length := by rw [HN.out]; exact hlt
      obtain ⟨e, he⟩ : ∃ e, PL[k]? = some e := ⟨_, List.getElem?_eq_getElem hjl⟩
      obtain ⟨g0, g1, g2, g3⟩ := hcells k e he
      have e0 : wr.cell? ⟨ge, k * 4, none⟩ = some (.string e.st) := (hbl.out.cell (p := ⟨ge, k * 4, none⟩) hgl).trans g0
      have e1 : wr.cell? ⟨ge, k * 4 + 1, none⟩ = some (.int .i64 e.v) := (hbl.out.cell (p := ⟨ge, k * 4 + 1, none⟩) hgl).trans g1
      have e2 : wr.cell? ⟨ge, k * 4 + 2, none⟩ = some (.int .i64 e.p) := (hbl.out.cell (p := ⟨ge, k * 4 + 2, none⟩) hgl).trans g2
      have e3 : wr.cell? ⟨ge, k * 4 + 3, none⟩ = some (.string e.d) := (hbl.out.cell (p := ⟨ge, k * 4 + 3, none⟩) hgl).trans g3
      have htk : Hid (PL.take (k + 1) = PL.take k ++ [e]) := by show _ = _; rw [List.take_add_one, he]; rfl
      clear g0 g1 g2 g3 hcells hjl he
      go_upto_region 7 with (go_at_call 31; refine Calls.mono (levent e.v e.p e.st e.d wr) ?_; rintro r W2 ⟨rfl, hb2⟩)
      have hbA : Below W2.heap.size W2 (W2.alloc (.cells (pbox e) 75)) := (Below.refl _ _).alloc (Nat.le_refl _) _
      have oz : (W2.alloc (.cells (pbox e) 75)).heap[W2.heap.size]? = some (.cells (pbox e) 75 (0, 0)) := obj_new _ _
      obtain ⟨W3, hW3⟩ : ∃ W3, W3 = W2.alloc (.cells (pbox e) 75) := ⟨_, rfl⟩
      rw [← hW3] at hbA oz
      have hW3' : W2.alloc (.cells #[.string e.st, .int .i64 e.v, .int .i64 e.p, .string e.d] 75) = W3 := hW3.symm
      rw [hW3']
      have z0 : W3.cell? ⟨W2.heap.size, 0, none⟩ = some (.string e.st) := cell_obj oz
      have z1 : W3.cell? ⟨W2.heap.size, 1, none⟩ = some (.int .i64 e.v) := cell_obj oz
      have z2 : W3.cell? ⟨W2.heap.size, 2, none⟩ = some (.int .i64 e.p) := cell_obj oz
      have z3 : W3.cell? ⟨W2.heap.size, 3, none⟩ = some (.string e.d) := cell_obj oz
      obtain ⟨zb, hzb⟩ : ∃ zb, W2.heap.size = zb := ⟨_, rfl⟩
      rw [hzb] at z0 z1 z2 z3 ⊢
      have hb3 : Below wr.heap.size wr W3 := hb2.trans (hbA.mono hb2.size)
      have hO3 := row_on' hO.out hb3 (fun k e => (hO.out.lt k e).2)
      have hB3 : Below W1.heap.size W1 W3 := hbl.out.trans (hb3.mono hbl.out.size)
      obtain ⟨v4, w4, HR, ho4, hg4, -, p4, c4, rfl⟩ := appN Tryz.underlying35 infoRE rfl (by decide) hO3 [.string e.st, .int .i64 e.v, .int .i64 e.p, .string e.d] rfl (fun u hu => by
        simp at hu
        rcases hu with rfl | rfl | rfl | rfl <;> rfl) (by omega) (by unfold maxLen; omega) hB3.size
      have HB4 : Hid (Below W1.heap.size W1 w4) := hB3.trans (grown_below hO3 hg4 hB3.size)
      have HO4 : Hid (w4.ownsRow W1.heap.size 75 4 (.slice (some p4) (k + 1) c4) (k + 1) (pvc (PL.take (k + 1)))) := by
        rw [htk.out, pvc_snoc]; exact ho4
      clear hbA oz hW3 hW3' hzb hb2 hb3 hO3 hB3 ho4 hg4 hO hbl e0 e1 e2 e3
      go_wp2_with (at_builtin; refine wpList_app rfl _ _ _ _ rfl rfl rfl HR.out ?_)
      go_roundw
      case rel => exact ⟨k + 1, _, _, by omega, by go_num, rfl, HO4, HB4⟩
      case measure => simp [intOf]; omega
    · obtain rfl : k = N := by omega
      have ht : PL.take k = PL := List.take_of_length_le (by rw [HN.out]; exact Nat.le_refl _)
      rw [ht] at hO
      go_wp2
      go_ret2
      refine ⟨_, rfl, ?_, HK1.out.1.trans (Kp.of_new hbl.out), below_obj hbl.out (heap_lt HK1.out.2) HK1.out.2⟩
      show World.ownsRow _ _ _ _ (.slice q k qc) PL.length _
      rw [HN.out]
      exact row_base hO.out hz1
end Go.Proofs.YtploagfjajlloaaGreatDoor
namespace Go.Proofs.YtploagfjajlloaaGreatDoor
open Go.RowKit Jr

theorem cntK_cnt (log : List Ev) (nm : ByteArray) : ∀ k, k ≤ log.length → cntK (fun i => ((log[i]?).map Ev.st).getD nm) nm k = cnt (log.take k) nm
  | 0, _ => by simp [cntK, cnt]
  | k + 1, hk => by
    have hlt : k < log.length := by omega
    rw [cntK, cntK_cnt log nm k (by omega), List.take_add_one, List.getElem?_eq_getElem hlt]
    show _ = cnt (log.take k ++ [log[k]]) nm
    rw [cnt_append]
    simp [cnt]
theorem rversion (B : Nat) (v : Value) (log : List Ev) (nm : ByteArray) (w : World) (h : w.ownsRow B 75 4 v log.length (pvc log)) (hn : log.length ≤ 1000000000) :
    Calls Tryz.prog 26 #[v, .string nm] w fun e w' => e = .returned (.int .i64 (cnt log nm)) ∧ w' = w := by
  obtain ⟨p, cap, rfl, _, _, hp⟩ := row_shape h
  by_cases h0 : 0 < log.length
  · obtain ⟨g, rfl, _, _, hc⟩ := hp h0
    have := rversion_some g cap log.length (fun i => ((log[i]?).map Ev.st).getD nm) nm w (by omega) (fun i hi => by
      have hi' : log[i]? = some log[i] := List.getElem?_eq_getElem hi
      rw [hc _ (by omega), (pvc_get log i log[i] hi').1, hi']; rfl)
    rw [cntK_cnt log nm log.length (Nat.le_refl _), List.take_length] at this
    exact this
  · have hl : log = [] := List.eq_nil_of_length_eq_zero (by omega)
    subst hl
    rcases h.2 with ⟨e, _⟩ | ⟨g, cap', cur, e, _⟩
    · injection e with e1 _ e3
      subst e1 e3
      exact rversion_nil nm w
    · injection e with e1 _ e3
      subst e1
      exact rversion_some g cap 0 (fun _ => nm) nm w (by omega) (fun i hi => by omega)
theorem infoGd : (Tryz.prog.info? 80).map (fun i => (i.zero, i.size, i.bytes)) = some (some (.agg #[.int .i64 0, .int .i64 0]), 2, 16) := by kernel_rfl
def gvc (l : List Sg) : List Value := l.flatMap fun g => [.int .i64 (g.1 : Nat), .int .i64 (g.2.1 : Nat)]
theorem gvc_snoc (l : List Sg) (g : Sg) : gvc (l ++ [g]) = gvc l ++ [.int .i64 (g.1 : Nat), .int .i64 (g.2.1 : Nat)] := by simp [gvc]
def slen : Value → Nat
  | .slice _ n _ => n
  | _ => 0

/-- The two lists of the log under way. -/
structure RL (w0 wr : World) (lv gv : Value) (log : List Ev) (segs : List Sg) : Prop where
  le : wr.ownsRow w0.heap.size 75 4 lv log.length (pvc log)
  gd : wr.ownsRow w0.heap.size 80 2 gv segs.length (gvc segs)
  bel : Below w0.heap.size w0 wr
theorem RL.new {w0 w w' : World} {lv gv : Value} {log : List Ev} {segs : List Sg} (h : RL w0 w lv gv log segs) (hb : Below w.heap.size w w') : RL w0 w' lv gv log segs :=
  ⟨row_on' h.le hb (fun k e => (h.le.lt k e).2), row_on' h.gd hb (fun k e => (h.gd.lt k e).2), h.bel.trans (hb.mono h.bel.size)⟩
theorem RL.addEv {w0 W : World} {lv gv : Value} {log : List Ev} {segs : List Sg} (h : RL w0 W lv gv log segs) (e : Ev) (hn : log.length ≤ 1000000000) : ∃ p c w2,
    Hid (∀ ty, (Builtin.append_ #[35, 35] ty #[lv, .slice (some ⟨W.heap.size, 0, none⟩) 1 1]).run Tryz.prog (W.alloc (.cells [.string e.st, .int .i64 e.v, .int .i64 e.p, .string e.d].toArray 75)) = .ok (.slice (some p) (log.length + 1) c) w2) ∧ RL w0 w2 (.slice (some p) (log.length + 1) c) gv (log ++ [e]) segs := by
  obtain ⟨v2, w2, HR, ho2, hg2, -, p, c, rfl⟩ := appN Tryz.underlying35 infoRE rfl (by decide) h.le [.string e.st, .int .i64 e.v, .int .i64 e.p, .string e.d] rfl (fun u hu => by
    simp at hu
    rcases hu with rfl | rfl | rfl | rfl <;> rfl) (by omega) (by unfold maxLen; omega) h.bel.size
  have hk2 : Kp (fun k => lv.ownBlock = some k) W w2 := Kp.of_grown hg2 (fun k e _ => e)
  refine ⟨p, c, w2, HR, ⟨?_, row_on h.gd hk2 fun k hk e' => ?_, h.bel.trans (grown_below h.le hg2 h.bel.size)⟩⟩
  · rw [List.length_append, pvc_snoc]; exact ho2
  · obtain ⟨C, hC⟩ := row_tag h.gd hk
    obtain ⟨D, hD⟩ := row_tag h.le e'
    exact tag_ne hC hD (by decide) rfl
theorem RL.addGd {w0 W : World} {lv gv : Value} {log : List Ev} {segs : List Sg} (h : RL w0 W lv gv log segs) (g : Sg) (hn : segs.length ≤ 1000000000) : ∃ p c w2,
    Hid (∀ ty, (Builtin.append_ #[36, 36] ty #[gv, .slice (some ⟨W.heap.size, 0, none⟩) 1 1]).run Tryz.prog (W.alloc (.cells [.int .i64 (g.1 : Nat), .int .i64 (g.2.1 : Nat)].toArray 80)) = .ok (.slice (some p) (segs.length + 1) c) w2) ∧ RL w0 w2 lv (.slice (some p) (segs.length + 1) c) log (segs ++ [g]) := by
  obtain ⟨v2, w2, HR, ho2, hg2, -, p, c, rfl⟩ := appN Tryz.underlying36 infoGd rfl (by decide) h.gd [.int .i64 (g.1 : Nat), .int .i64 (g.2.1 : Nat)] rfl (fun u hu => by
    simp at hu
    rcases hu with rfl | rfl <;> rfl) (by omega) (by unfold maxLen; omega) h.bel.size
  have hk2 : Kp (fun k => gv.ownBlock = some k) W w2 := Kp.of_grown hg2 (fun k e _ => e)
  refine ⟨p, c, w2, HR, ⟨row_on h.le hk2 fun k hk e' => ?_, ?_, h.bel.trans (grown_below h.gd hg2 h.bel.size)⟩⟩
  · obtain ⟨C, hC⟩ := row_tag h.le hk
    obtain ⟨D, hD⟩ := row_tag h.gd e'
    exact tag_ne hC hD (by decide) rfl
  · rw [List.length_append, gvc_snoc]; exact ho2
theorem rlog_done {fs : List Fl} {log : List Ev} {segs : List Sg} {w W : World} {lv sv : Value} (e : logOf fs = (log, segs)) (h : RL w W lv sv log segs) :
    ∃ lv' sv', Ending.returned (.tuple #[lv, sv]) = .returned (.tuple #[lv', sv']) ∧ W.ownsRow w.heap.size 75 4 lv' (logOf fs).1.length (pvc (logOf fs).1) ∧ W.ownsRow w.heap.size 80 2 sv' (logOf fs).2.length (gvc (logOf fs).2) ∧ Below w.heap.size w W := by
  rw [e]; exact ⟨_, _, rfl, h.le, h.gd, h.bel⟩
theorem rfindI (R : List RF) (nm : ByteArray) : (findI (R.map RF.nc) nm = none ∧ ∀ f ∈ R, f.name ≠ nm) ∨
    ∃ (i : Nat) (f : RF), findI (R.map RF.nc) nm = some i ∧ R[i]? = some f ∧ (R.map RF.nc)[i]? = some f.nc ∧ f.name = nm ∧ ∀ (j : Nat) (f' : RF), j < i → R[j]? = some f' → f'.name ≠ nm := by
  by_cases h : ∃ f ∈ R, f.name = nm
  · obtain ⟨i, f, h1, h2, h3⟩ := rat_of_mem h
    have hi := (List.getElem?_eq_some_iff.1 h1).1
    have hg := (List.getElem?_eq_some_iff.1 h1).2
    refine Or.inr ⟨i, f, ?_, h1, by rw [List.getElem?_map, h1]; rfl, h2, h3⟩
    unfold findI
    refine List.findIdx?_eq_some_iff_getElem.2 ⟨by simpa using hi, ?_, fun j hj => ?_⟩
    · simp only [List.getElem_map]; rw [hg]; simpa using h2
    · simp only [List.getElem_map]
      have := h3 j R[j] hj (by simp)
      simpa using this
  · refine Or.inl ⟨?_, fun f hf e => h ⟨f, hf, e⟩⟩
    unfold findI
    refine List.findIdx?_eq_none_iff.2 fun x hx => ?_
    obtain ⟨f, hf, rfl⟩ := List.mem_map.1 hx
    have : f.name ≠ nm := fun e => h ⟨f, hf, e⟩
    simpa using this
theorem Going.next {fs : List Fl} {s : St} {sz gd : Nat} (h : Going fs s sz gd) (hT : tot fs ≤ 67108864) {i : Nat} {f : Fl} (h1 : findI fs (nameOf s.1.length) = some i) (h2 : fs[i]? = some f) (h4 : hasHd f.2 s.1.length = true) :
    ((take f.2 s.1).2 < f.2.size ∨ (take f.2 s.1).1.length = s.1.length → logOf fs = ((take f.2 s.1).1, s.2 ++ [(i, (take f.2 s.1).2, s.1.length)])) ∧
    ((take f.2 s.1).2 = f.2.size → s.1.length < (take f.2 s.1).1.length → Going fs ((take f.2 s.1).1, s.2 ++ [(i, (take f.2 s.1).2, s.1.length)]) f.2.size f.2.size) := by
  rcases h.step hT h1 h2 h4 with hg | he
  · have e1 := hg.eq
    have hlt : s.1.length < (take f.2 s.1).1.length := by
      obtain ⟨_, _, _, h3, _⟩ := hg.inv.seg (i, (take f.2 s.1).2, s.1.length) (by simp)
      exact h3
    refine ⟨fun hx => by omega, fun _ _ => ?_⟩
    rw [← e1] at hg ⊢
    exact hg
  · refine ⟨fun _ => he.fin, fun hx hlt => ?_⟩
    obtain ⟨g, hg, hge⟩ := he.last hx.symm
    simp only at hg hge
    rcases List.mem_append.1 hg with hg | hg
    · obtain ⟨_, _, _, h3, _⟩ := h.inv.seg g hg
      omega
    · simp only [List.mem_singleton] at hg
      subst hg
      simp only at hge
      omega

set_option maxRecDepth 10000 in
set_option maxHeartbeats 8000000 in
theorem rlog (v : Value) (R : List RF) (B : Nat) (w : World) (h : RFs w B v R) (hn : R.length ≤ 1073741824) (hT : tot (R.map RF.nc) ≤ 67108864) :
    Calls Tryz.prog 9 #[v] w fun e w' => ∃ lv sv, e = .returned (.tuple #[lv, sv]) ∧ w'.ownsRow w.heap.size 75 4 lv (logOf (R.map RF.nc)).1.length (pvc (logOf (R.map RF.nc)).1) ∧ w'.ownsRow w.heap.size 80 2 sv (logOf (R.map RF.nc)).2.length (gvc (logOf (R.map RF.nc)).2) ∧ Below w.heap.size w w' := by
  have HH : Hid (RFs w B v R) := h
  have HT : Hid (tot (R.map RF.nc) ≤ 67108864) := hT
  obtain ⟨p, cap, rfl, hcap, hmax, HP⟩ := h.pack
  obtain ⟨nn, hnn⟩ : ∃ nn, R.length = nn := ⟨_, rfl⟩
  have HNN : Hid (R.length = nn) := hnn
  rw [hnn] at hcap hn HP HH ⊢
  clear h hT hnn
  go_enter Tryz.func9, Tryz.ntmps9
  go_upto_region 3 with fail
  go_loopw [4, 5] (fun o q wr => ∃ (log : List Ev) (segs : List Sg) (sz : Nat) (lp : Option Addr) (lc : Nat) (gp : Option Addr) (gc : Nat), o = .slice lp log.length lc ∧ q = .slice gp segs.length gc ∧ Hid (RL w wr o q log segs ∧ Going (R.map RF.nc) (log, segs) sz sz)) (fun o _ _ => 100000001 - slen o)
  case atStart => exact ⟨[], [], 0, none, 0, none, 0, rfl, rfl, ⟨by simpa [pvc] using World.ownsRow_nil w _ _ _, by simpa [gvc] using World.ownsRow_nil w _ _ _, Below.refl _ _⟩, Going.start _⟩
  case round =>
    obtain ⟨log, segs, sz, lp, lc, gp, gc, rfl, rfl, hR⟩ := hrel
    obtain ⟨hrl, hgo⟩ := hR.out
    have hb := hgo.bnd HT.out
    simp only at hb
    have hsl : segs.length ≤ 2581111 := by have := hgo.len; simp only at this; omega
    obtain ⟨N, hN⟩ : ∃ N, log.length = N := ⟨_, rfl⟩
    have HN : Hid (log.length = N) := hN
    have HG : Hid (Going (R.map RF.nc) (log, segs) sz sz) := hgo
    have HR : Hid (RL w wr (.slice lp N lc) (.slice gp segs.length gc) log segs) := by rw [← hN]; exact hrl
    rw [hN] at hb ⊢
    clear hN hrl hgo hR
    go_upto_region 5 with (go_at_call 23; refine Calls.mono (rname N wr (by omega)) ?_; rintro e W1 ⟨rfl, hb1⟩)
    have HR1 : Hid (RL w W1 (.slice lp N lc) (.slice gp segs.length gc) log segs) := HR.out.new hb1
    have HF1 : Hid (RFs W1 B (.slice p nn cap) R) := HH.out.new HR1.out.bel
    clear hb1 HR
    rcases rfindI R (nameOf N) with ⟨hnone, hno⟩ | ⟨i, f, hsome, hif, hfn, hnm, hfirst⟩
    · have HF : Hid (Calls Tryz.prog 21 #[.slice p nn cap, .string (nameOf N)] W1 fun e w' => e = .returned (.int .i64 (-1)) ∧ w' = W1) := rfind B _ R (nameOf N) W1 HF1.out (-1) (Or.inl ⟨rfl, hno⟩)
      have HE : Hid (logOf (R.map RF.nc) = (log, segs)) := HG.out.stop HT.out (nxt_nil (by show findI _ (nameOf log.length) = _; rw [HN.out]; exact hnone))
      clear hnone hno
      go_wp2_with (go_at_call 21; refine Calls.mono HF.out ?_; rintro e w' ⟨rfl, hw⟩; rw [hw]; clear hw)
      go_ret2
      exact rlog_done HE.out HR1.out
    · have HF : Hid (Calls Tryz.prog 21 #[.slice p nn cap, .string (nameOf N)] W1 fun e w' => e = .returned (.int .i64 (i : Nat)) ∧ w' = W1) := rfind B _ R (nameOf N) W1 HF1.out i (Or.inr ⟨i, f, rfl, hif, hnm, hfirst⟩)
      have hil : i < nn := by rw [← HNN.out]; exact (List.getElem?_eq_some_iff.1 hif).1
      obtain ⟨g, rfl, hgl, hcl⟩ := HP.out (by omega)
      have hbs := HF1.out.bs f (List.mem_of_getElem? hif)
      have hbs0 := HH.out.bs f (List.mem_of_getElem? hif)
      have HBS : Hid (BS W1 f.v f.g f.c) := hbs
      obtain ⟨o, c, hv, q1, q2, q3⟩ := hbs0.shape
      have HC0 : Hid (∀ j, j < f.c.size → w.cell? ⟨f.g, o + j, none⟩ = some (.int .u8 (byt f.c j : Nat))) := q3
      have e1 : W1.cell? ⟨g, i * 2 + 1, none⟩ = some (.slice (some ⟨f.g, o, none⟩) f.c.size c) := by
        rw [← hv]; exact (HR1.out.bel.cell (p := ⟨g, i * 2 + 1, none⟩) hgl).trans (hcl i f hif).2
      rw [hv] at HBS
      have hS : f.c.size ≤ 67108864 := Nat.le_trans (tot_mem (List.mem_of_getElem? hfn)) HT.out
      have HSO : Hid (findI (R.map RF.nc) (nameOf (log, segs).1.length) = some i) := by show findI _ (nameOf log.length) = _; rw [HN.out]; exact hsome
      have HFN : Hid ((R.map RF.nc)[i]? = some f.nc) := hfn
      have hfg : f.g < w.heap.size := hbs0.lt
      clear hsome hif hnm hfirst hcl hbs hbs0 q3 hv hfn hgl
      go_upto_region 10 with (first | (go_at_call 21; refine Calls.mono HF.out ?_; rintro e w' ⟨rfl, hw⟩; rw [hw]; clear hw) | (go_at_call 24; refine Calls.mono (rstarts _ f.g f.c N W1 HBS.out (by omega)) ?_; rintro e W2 ⟨rfl, hb2⟩))
      have HR2 : Hid (RL w W2 (.slice lp N lc) (.slice gp segs.length gc) log segs) := HR1.out.new hb2
      clear hb2 HR1 HF1 HBS e1 HF
      cases hh : hasHd f.c N with
      | false =>
        have HE : Hid (logOf (R.map RF.nc) = (log, segs)) := HG.out.stop HT.out (nxt_no HSO.out HFN.out (by show hasHd f.c log.length = false; rw [HN.out]; exact hh))
        go_wp2
        go_ret2
        exact rlog_done HE.out HR2.out
      | true =>
        have HNX : Hid (((take f.c log).2 < f.c.size ∨ (take f.c log).1.length = N → logOf (R.map RF.nc) = ((take f.c log).1, segs ++ [(i, (take f.c log).2, N)])) ∧
            ((take f.c log).2 = f.c.size → N < (take f.c log).1.length → Going (R.map RF.nc) ((take f.c log).1, segs ++ [(i, (take f.c log).2, N)]) f.c.size f.c.size)) := by
          have := HG.out.next HT.out HSO.out HFN.out (by show hasHd f.c log.length = true; rw [HN.out]; exact hh)
          have hN := HN.out
          subst hN
          exact this
        have h16 : 16 ≤ f.c.size := (hasHd_iff.1 hh).1
        clear hh HG HSO HFN
        go_upto_region 13 with fail
        go_loopw [4, 11] (fun o' t wr2 => ∃ (k M : Nat) (log' : List Ev) (p' : Option Addr) (c' : Nat), 16 ≤ k ∧ k ≤ f.c.size ∧ t = .int .i64 k ∧ o' = .slice p' M c' ∧ Hid (log'.length = M ∧ RL w wr2 o' (.slice gp segs.length gc) log' segs) ∧ Hid (∃ fu, f.c.size - k < fu ∧ takeF f.c fu k log' = take f.c log) ∧ M ≤ N + k) (fun _ t _ => f.c.size - (intOf t).toNat)
        case atStart => exact ⟨16, N, log, lp, lc, Nat.le_refl _, h16, rfl, rfl, ⟨HN.out, HR2.out⟩, ⟨f.c.size + 1, by omega, rfl⟩, by omega⟩
        case round =>
          obtain ⟨k, M, log', p', c', hk16, hk, rfl, rfl, HI, HTK, hll⟩ := hrel
          have HTE : Hid (okNext log' (pAt f.c k) = false → take f.c log = (log', k)) := fun hno => by
            obtain ⟨fu, _, hf⟩ := HTK.out
            rw [← hf, takeF_stop hno fu]
          by_cases hlt : k < f.c.size
          · have hCr : ∀ j, j < f.c.size - k → wr.cell? ⟨f.g, o + k + j, none⟩ = some (.int .u8 (byt f.c (k + j) : Nat)) := fun j hj => by
              rw [Nat.add_assoc]
              exact (HI.out.2.bel.cell (p := ⟨f.g, o + (k + j), none⟩) hfg).trans (HC0.out (k + j) (by omega))
            obtain ⟨r, hr⟩ : ∃ r, pAt f.c k = r := ⟨_, rfl⟩
            have HP : Hid (Calls Tryz.prog 25 #[.slice (some ⟨f.g, o + k, none⟩) (f.c.size - k) (c - k)] wr fun e w' => e = .returned (rresV r) ∧ Below wr.heap.size wr w') := by
              have := rparse f.g (o + k) (f.c.size - k) (c - k) (fun j => byt f.c (k + j)) wr (by omega) (by omega) (by omega) (fun i _ => byt_lt f.c _) hCr (Nat.lt_of_lt_of_le hfg HI.out.2.bel.size)
              have e : parseV (fun j => byt f.c (k + j)) (f.c.size - k) = r := hr
              rw [e] at this
              exact this
            have HRR : Hid (pAt f.c k = r) := hr
            have hkc : (k : Int) ≤ c := by omega
            clear hr hCr
            go_upto_region 15 with (go_at_call 25; refine Calls.mono HP.out ?_; rintro e W3 ⟨rfl, hb3⟩)
            have hbA : Below W3.heap.size W3 (W3.alloc (.cells (pbox (evOf r)) 75)) := (Below.refl _ _).alloc (Nat.le_refl _) _
            have oz : (W3.alloc (.cells (pbox (evOf r)) 75)).heap[W3.heap.size]? = some (.cells (pbox (evOf r)) 75 (0, 0)) := obj_new _ _
            obtain ⟨W4, hW4⟩ : ∃ W4, W4 = W3.alloc (.cells (pbox (evOf r)) 75) := ⟨_, rfl⟩
            rw [← hW4] at hbA oz
            have hW4' : W3.alloc (.cells #[.string r.st, .int .i64 r.v, .int .i64 r.p, .string r.d] 75) = W4 := hW4.symm
            rw [hW4']
            have z0 : W4.cell? ⟨W3.heap.size, 0, none⟩ = some (.string r.st) := cell_obj oz
            have z1 : W4.cell? ⟨W3.heap.size, 1, none⟩ = some (.int .i64 r.v) := cell_obj oz
            have z2 : W4.cell? ⟨W3.heap.size, 2, none⟩ = some (.int .i64 r.p) := cell_obj oz
            have z3 : W4.cell? ⟨W3.heap.size, 3, none⟩ = some (.string r.d) := cell_obj oz
            obtain ⟨zb, hzb⟩ : ∃ zb, W3.heap.size = zb := ⟨_, rfl⟩
            rw [hzb] at z0 z1 z2 z3 ⊢
            have HI4 : Hid (log'.length = M ∧ RL w W4 (.slice p' M c') (.slice gp segs.length gc) log' segs) := ⟨HI.out.1, (HI.out.2.new hb3).new hbA⟩
            have HV : Hid (Calls Tryz.prog 26 #[.slice p' M c', .string r.st] W4 fun e w' => e = .returned (.int .i64 (cnt log' r.st)) ∧ w' = W4) := rversion _ _ log' r.st W4 HI4.out.2.le (by rw [HI.out.1]; omega)
            have hcnt : cnt log' r.st ≤ M := by rw [← HI.out.1]; exact cnt_le log' r.st
            clear hbA oz hW4 hW4' hzb hb3 HP HI
            obtain ⟨PV, hPV⟩ : ∃ PV, PV = rresV r := ⟨_, rfl⟩
            rw [← hPV]
            clear hPV
            go_upto_region 16 with (go_at_call 26; refine Calls.mono HV.out ?_; rintro e w' ⟨rfl, hw⟩; rw [hw]; clear hw)
            obtain ⟨p2, c2, w2, HGR, hgl⟩ := HI4.out.2.addGd (i, k, N) (by omega)
            have HGL : Hid (RL w w2 (.slice p' M c') (.slice (some p2) (segs.length + 1) c2) log' (segs ++ [(i, k, N)])) := hgl
            have STOP : Hid (okNext log' (pAt f.c k) = false → logOf (R.map RF.nc) = (log', segs ++ [(i, k, N)])) := fun hno => by
              have e := HTE.out hno
              have h := HNX.out.1 (Or.inl (by rw [e]; exact hlt))
              rw [e] at h; exact h
            clear hgl
            obtain ⟨V, hV⟩ : ∃ V, r.ver = V := ⟨_, rfl⟩
            rw [hV]
            obtain ⟨C, hC⟩ : ∃ C, cnt log' r.st = C := ⟨_, rfl⟩
            rw [hC] at hcnt ⊢
            by_cases hv : V = 0
            · have d0 : ((V : Int) != 0) = false := by simp [hv]
              by_cases hp : r.p = (M : Int)
              · have d1 : (r.p != (M : Int)) = false := by simp [hp]
                by_cases hvv : r.v = (C : Int) + 1
                · have d2 : (r.v != (C : Int) + 1) = false := by simp [hvv]
                  have hok : okNext log' (pAt f.c k) = true := by rw [HRR.out]; exact okNext_iff.2 ⟨hV.trans hv, by rw [HI4.out.1]; exact hp, by rw [hC]; exact hvv⟩
                  have hrn : 26 ≤ r.n ∧ k + r.n ≤ f.c.size := by
                    have := ok_n hok
                    rw [HRR.out] at this; exact this
                  obtain ⟨hrn0, hrn1⟩ := hrn
                  have HOK : Hid (okNext log' (pAt f.c k) = true) := hok
                  obtain ⟨p3, c3, w3, HAR, hal⟩ := HI4.out.2.addEv (evOf r) (by rw [HI4.out.1]; omega)
                  rw [HI4.out.1] at HAR hal
                  have HAL : Hid (RL w w3 (.slice (some p3) (M + 1) c3) (.slice gp segs.length gc) (log' ++ [evOf r]) segs) := hal
                  clear hok hal HGR HGL STOP hC hV hvv hp hv
                  go_wp2_with (at_builtin; refine wpList_app rfl _ _ _ _ rfl rfl rfl HAR.out ?_)
                  go_roundw
                  case rel =>
                    obtain ⟨fu, hf1, hf⟩ := HTK.out
                    refine ⟨k + r.n, M + 1, log' ++ [evOf r], some p3, c3, by omega, by omega, by go_num, rfl, ⟨by rw [List.length_append, HI4.out.1]; rfl, HAL.out⟩, ?_, by omega⟩
                    cases fu with
                    | zero => omega
                    | succ fu =>
                      refine ⟨fu, by omega, ?_⟩
                      rw [← hf]
                      simp only [takeF]
                      rw [if_pos HOK.out, HRR.out]
                  case measure => simp [intOf]; omega
                · have d2 : (r.v != (C : Int) + 1) = true := by simp [hvv]
                  have hno : okNext log' (pAt f.c k) = false := by rw [HRR.out, Bool.eq_false_iff]; intro h; exact hvv (by rw [← hC]; exact (okNext_iff.1 h).2.2)
                  have HEE : Hid (logOf (R.map RF.nc) = (log', segs ++ [(i, k, N)])) := STOP.out hno
                  have HDN : Hid (∃ lv sv, Ending.returned (.tuple #[.slice p' M c', .slice (some p2) (segs.length + 1) c2]) = .returned (.tuple #[lv, sv]) ∧ w2.ownsRow w.heap.size 75 4 lv (logOf (R.map RF.nc)).1.length (pvc (logOf (R.map RF.nc)).1) ∧ w2.ownsRow w.heap.size 80 2 sv (logOf (R.map RF.nc)).2.length (gvc (logOf (R.map RF.nc)).2) ∧ Below w.heap.size w w2) := rlog_done HEE.out HGL.out
                  clear hno STOP
                  go_wp2_with (at_builtin; refine wpList_app rfl _ _ _ _ rfl rfl rfl HGR.out ?_)
                  go_ret2
                  exact HDN.out
              · have d1 : (r.p != (M : Int)) = true := by simp [hp]
                have hno : okNext log' (pAt f.c k) = false := by rw [HRR.out, Bool.eq_false_iff]; intro h; exact hp (by rw [← HI4.out.1]; exact (okNext_iff.1 h).2.1)
                have HEE : Hid (logOf (R.map RF.nc) = (log', segs ++ [(i, k, N)])) := STOP.out hno
                have HDN : Hid (∃ lv sv, Ending.returned (.tuple #[.slice p' M c', .slice (some p2) (segs.length + 1) c2]) = .returned (.tuple #[lv, sv]) ∧ w2.ownsRow w.heap.size 75 4 lv (logOf (R.map RF.nc)).1.length (pvc (logOf (R.map RF.nc)).1) ∧ w2.ownsRow w.heap.size 80 2 sv (logOf (R.map RF.nc)).2.length (gvc (logOf (R.map RF.nc)).2) ∧ Below w.heap.size w w2) := rlog_done HEE.out HGL.out
                clear hno STOP
                go_wp2_with (at_builtin; refine wpList_app rfl _ _ _ _ rfl rfl rfl HGR.out ?_)
                go_ret2
                exact HDN.out
            · have d0 : ((V : Int) != 0) = true := by simpa using hv
              have hno : okNext log' (pAt f.c k) = false := by rw [HRR.out, Bool.eq_false_iff]; intro h; exact hv (hV.symm.trans (okNext_iff.1 h).1)
              have HEE : Hid (logOf (R.map RF.nc) = (log', segs ++ [(i, k, N)])) := STOP.out hno
              have HDN : Hid (∃ lv sv, Ending.returned (.tuple #[.slice p' M c', .slice (some p2) (segs.length + 1) c2]) = .returned (.tuple #[lv, sv]) ∧ w2.ownsRow w.heap.size 75 4 lv (logOf (R.map RF.nc)).1.length (pvc (logOf (R.map RF.nc)).1) ∧ w2.ownsRow w.heap.size 80 2 sv (logOf (R.map RF.nc)).2.length (gvc (logOf (R.map RF.nc)).2) ∧ Below w.heap.size w w2) := rlog_done HEE.out HGL.out
              clear hno STOP
              go_wp2_with (at_builtin; refine wpList_app rfl _ _ _ _ rfl rfl rfl HGR.out ?_)
              go_ret2
              exact HDN.out
          · obtain hke : k = f.c.size := by omega
            have hno : okNext log' (pAt f.c k) = false := by
              rw [Bool.eq_false_iff]; intro h
              have := ok_n h; omega
            have hte : take f.c log = (log', f.c.size) := by rw [← hke]; exact HTE.out hno
            obtain ⟨p2, c2, w2, HGR, hgl⟩ := HI.out.2.addGd (i, f.c.size, N) (by omega)
            have HGL : Hid (RL w w2 (.slice p' M c') (.slice (some p2) (segs.length + 1) c2) log' (segs ++ [(i, f.c.size, N)])) := hgl
            have hNM : N ≤ M := by
              have := (takeF_facts f.c (f.c.size + 1) 16 log h16).2.2.1
              have e : takeF f.c (f.c.size + 1) 16 log = take f.c log := rfl
              rw [e, hte, HN.out] at this
              rw [← HI.out.1]; exact this
            have HX : Hid ((M = N → logOf (R.map RF.nc) = (log', segs ++ [(i, f.c.size, N)])) ∧ (N < M → Going (R.map RF.nc) (log', segs ++ [(i, f.c.size, N)]) f.c.size f.c.size)) := by
              have h := HNX.out
              rw [hte] at h
              exact ⟨fun e => h.1 (Or.inr (by rw [← e]; exact HI.out.1)), fun e => h.2 rfl (by show N < log'.length; rw [HI.out.1]; exact e)⟩
            subst hke
            clear hno hte hgl HNX HTE HTK hlt
            go_upto_region 20 with (at_builtin; refine wpList_app rfl _ _ _ _ rfl rfl rfl HGR.out ?_)
            by_cases hM : M = N
            · have dM : ((M : Int) == (N : Int)) = true := by simp [hM]
              have HE : Hid (logOf (R.map RF.nc) = (log', segs ++ [(i, f.c.size, N)])) := HX.out.1 hM
              clear hM
              go_wp2
              go_ret2
              exact rlog_done HE.out HGL.out
            · have dM : ((M : Int) == (N : Int)) = false := by simp; omega
              go_wp2
              go_roundw
              case rel => exact ⟨log', segs ++ [(i, f.c.size, N)], f.c.size, p', c', some p2, c2, by rw [HI.out.1], by rw [List.length_append]; rfl, HGL.out, HX.out.2 (by omega)⟩
              case measure => simp [slen]; omega
end Go.Proofs.YtploagfjajlloaaGreatDoor
