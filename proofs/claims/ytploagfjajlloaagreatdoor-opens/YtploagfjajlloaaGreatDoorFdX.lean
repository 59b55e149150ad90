import Derived.Test.YtploagfjajlloaaGreatDoorFindB
namespace Go.Proofs.YtploagfjajlloaaGreatDoor
open Go.RowKit Jr

def segLen (fb : Nat) (w : World) : Nat := match w.cell? ⟨fb, 1, none⟩ with
  | some (.slice _ n _) => n
  | _ => 0
theorem FR.segLen {w wr : World} {d : Nat} {dv : Value} {L : List DF} {s x : Int} {fb g m : Nat} {log : List Ev} {nms : List ByteArray} {sz gd : Int} {v : Value} {S : ByteArray → Value} {sv : Value} {c : Int} (h : FR w wr d dv L s x fb g m log nms sz gd v S sv c) : Go.Proofs.YtploagfjajlloaaGreatDoor.segLen fb wr = nms.length := by
  obtain ⟨p, cap, rfl, _⟩ := row_shape h.fd.row
  have : wr.cell? ⟨fb, 1, none⟩ = some (.slice p nms.length cap) := cell_obj h.fd.obj
  unfold Go.Proofs.YtploagfjajlloaaGreatDoor.segLen; rw [this]
/-- What findLog hands back. -/
def FO (w w' : World) (d : Nat) (dv : Value) (L : List DF) (s x : Int) (fb g m : Nat) : Prop := ∃ (fs : List Fl) (log : List Ev) (segs : List Sg) (v : Value) (S : ByteArray → Value) (sv : Value) (sz gd : Nat) (c : Int), fs = L.map DF.nf ∧ logOf fs = (log, segs) ∧ sizes fs segs sz gd ∧ FR w w' d dv L s x fb g m log (sgn segs) sz gd v S sv c

theorem tab_under {w0 w : World} (h : Tab w0) (hb : Below w0.heap.size w0 w) : Tab w := Joins.tab_stays (g := 6) (by kernel_rfl) h hb (Nat.le_refl _)

theorem go_step {fs : List Fl} {log : List Ev} {segs : List Sg} {sz gd : Nat} (h : Going fs (log, segs) sz gd) (hT : tot fs ≤ 67108864) {i : Nat} {nm c : ByteArray} (h1 : findI fs (nameOf log.length) = some i) (h2 : fs[i]? = some (nm, c)) (h4 : hasHd c log.length = true) :
    Going fs ((take c log).1, segs ++ [(i, (take c log).2, log.length)]) c.size (take c log).2 ∨ Ended fs ((take c log).1, segs ++ [(i, (take c log).2, log.length)]) c.size (take c log).2 :=
  Going.step (s := (log, segs)) (f := (nm, c)) h hT h1 h2 h4

set_option maxRecDepth 10000 in
set_option maxHeartbeats 8000000 in
theorem jfind (a : Nat → Addr) (d : Nat) (dv : Value) (L : List DF) (c s x : Int) (nv : Value) (ns : List ByteArray) (Bn : Nat) (w0 w : World) (hs : Sen 3 w0 a) (ht : Tab w0) (hB : Below w0.heap.size w0 w) (hd : Dk w d dv L c s x) (hdB : w0.heap.size ≤ d) (hT : tot (L.map DF.nf) ≤ 67108864)
    (hnr : w.ownsRow Bn 9 1 nv ns.length (ns.map .string)) (hnb : ns.Pairwise blt) (hm : ∀ x, x ∈ ns ↔ (∃ f ∈ L, f.name = x) ∧ isSeg x = true) (hnl : ns.length ≤ 1073741824) :
    Calls Tryz.prog 35 #[dif d, nv] w fun e w' => ∃ fb g m, e = .returned (.tuple #[.pointer (some ⟨fb, 0, none⟩), .nilIface]) ∧ FO w w' d dv L s x fb g m := by
  have HS : Hid (Sen 3 w0 a) := hs
  have HT : Hid (Tab w0) := ht
  have HB : Hid (Below w0.heap.size w0 w) := hB
  have HTOT : Hid (tot (L.map DF.nf) ≤ 67108864) := hT
  have HNR : Hid (w.ownsRow Bn 9 1 nv ns.length (ns.map .string)) := hnr
  have HNB : Hid (ns.Pairwise blt) := hnb
  have HM : Hid (∀ x, x ∈ ns ↔ (∃ f ∈ L, f.name = x) ∧ isSeg x = true) := hm
  have HDK : Hid (Dk w d dv L c s x) := hd
  have HUN : Hid (∀ wr, Kp (· = d) w wr → Below w0.heap.size w0 wr) := fun wr hk => hB.trans (hk.below (fun k e => by omega) hB.size)
  have HNW : Hid (∀ wr, Kp (· = d) w wr → NR wr nv ns) := fun wr hk => nr_of_row (row_on hnr hk fun k e e' => by
    subst e'
    obtain ⟨C, hC⟩ := row_tag hnr e
    exact tag_ne hC hd.obj (by decide) rfl)
  obtain ⟨np, ncap, rfl, -, -, -⟩ := row_shape hnr
  clear hs ht hB hT hnr hnb hm hd
  go_enter Tryz.func35, Tryz.ntmps35
  go_upto_region 2 with (go_at_call 47; refine Calls.mono (jnewlog w) ?_; rintro e W1 ⟨rfl, hl1, hb1⟩)
  obtain ⟨W2, hW2⟩ : ∃ W2, W2 = W1.alloc (fobj (w.heap.size + 1) (.slice none 0 0) 0 0) := ⟨_, rfl⟩
  have hb2 : Below W1.heap.size W1 W2 := by rw [hW2]; exact (Below.refl _ _).alloc (Nat.le_refl _) _
  have hbw : Below w.heap.size w W2 := hb1.trans (hb2.mono hb1.size)
  have H0 : Hid (FR w W2 d dv L s x W1.heap.size (w.heap.size + 1) w.heap.size [] [] 0 0 (.slice none 0 0) (fun _ => .slice none 0 0) (.slice none 0 0) c) := by
    refine ⟨hl1.new hb2, ⟨by rw [hW2]; exact obj_new _ _, World.ownsRow_nil _ _ _ _⟩, HDK.out.new hbw, Kp.of_new hbw, fun k hk => ?_, (fun k e => by cases e), hb1.size, fun k hk => HDK.out.lt hk⟩
    rcases hk with (rfl | hk) | rfl | ⟨t, hk⟩
    · omega
    · cases hk
    · exact Nat.le_refl _
    · cases hk
  obtain ⟨fb, hfb⟩ : ∃ fb, W1.heap.size = fb := ⟨_, rfl⟩
  obtain ⟨g, hg⟩ : ∃ g, w.heap.size + 1 = g := ⟨_, rfl⟩
  obtain ⟨m, hmm⟩ : ∃ m, w.heap.size = m := ⟨_, rfl⟩
  have hW2' : W1.alloc (.cells #[.pointer (some ⟨w.heap.size + 1, 0, none⟩), .slice none 0 0, .int .i64 0, .int .i64 0] 101) = W2 := hW2.symm
  rw [hW2']
  rw [hfb, hg] at H0 ⊢
  have H1 : Hid (FR w W2 d dv L s x fb g m [] [] 0 0 (.slice none 0 0) (fun _ => .slice none 0 0) (.slice none 0 0) c) := by
    rw [← hmm]; exact H0
  clear H0 hW2 hW2' hb2 hbw hl1 hb1 hfb hg hmm
  go_loopw [] (fun wr => ∃ (log : List Ev) (segs : List Sg) (sz gd : Nat) (v : Value) (S : ByteArray → Value) (sv : Value) (c : Int), Hid (FR w wr d dv L s x fb g m log (sgn segs) sz gd v S sv c ∧ (Going (L.map DF.nf) (log, segs) sz gd ∨ Ended (L.map DF.nf) (log, segs) sz gd))) (fun wr => 100000003 - segLen fb wr)
  case atStart => exact ⟨[], [], 0, 0, _, _, _, c, H1.out, Or.inl (Going.start _)⟩
  case round =>
    obtain ⟨log, segs, sz, gd, v, S, sv, c', hR⟩ := hrel
    obtain ⟨hfr, hst⟩ := hR.out
    obtain ⟨sp, scap, rfl, hsc1, hsc2, -⟩ := row_shape hfr.fd.row
    unfold maxLen at hsc2
    have c1 : wr.cell? ⟨fb, 1, none⟩ = some (.slice sp (sgn segs).length scap) := cell_obj hfr.fd.obj
    have c2 : wr.cell? ⟨fb, 2, none⟩ = some (.int .i64 sz) := cell_obj hfr.fd.obj
    have c3 : wr.cell? ⟨fb, 3, none⟩ = some (.int .i64 gd) := cell_obj hfr.fd.obj
    have HFR : Hid (FR w wr d dv L s x fb g m log (sgn segs) sz gd v S (.slice sp (sgn segs).length scap) c') := hfr
    have HST : Hid (Going (L.map DF.nf) (log, segs) sz gd ∨ Ended (L.map DF.nf) (log, segs) sz gd) := hst
    have HSL : Hid (segLen fb wr = (sgn segs).length) := hfr.segLen
    clear hR hfr hst H1
    by_cases heq : gd = sz
    · subst heq
      go_wp2_with fail
      open Go.BigFrame in go_big_quiet (fail)
      obtain ⟨W1, hW1⟩ : ∃ W1, W1 = wr.drewN nq := ⟨_, rfl⟩
      have hbd : Below wr.heap.size wr W1 := by rw [hW1]; exact below_drewN (Below.refl _ _) _
      have hf1 := HFR.out.new hbd
      rw [← hW1]
      have HF1 : Hid (FR w W1 d dv L s x fb g m log (sgn segs) gd gd v S (.slice sp (sgn segs).length scap) c') := hf1
      have HLL : Hid (log.length ≤ 2581111) := by
        show _ ≤ _
        rcases HST.out with h | h
        · exact h.bnd HTOT.out
        · have := fin_bnd HTOT.out; rw [h.fin] at this; exact this
      have hll := HLL.out
      have hsl : (sgn segs).length ≤ 1000000 * 10 := by
        have : (sgn segs).length = segs.length := by simp [sgn]
        rcases HST.out with h | h
        · have := h.len; simp only at this; omega
        · have := h.len; simp only at this; omega
      have e0 : W1.cell? ⟨fb, 0, none⟩ = some (.pointer (some ⟨g, 0, none⟩)) := cell_obj hf1.fd.obj
      clear hbd hf1 hW1 c1 c2 c3 HFR
      go_upto_region 4 with (go_at_call 53; refine Calls.mono (jnext g m v log W1 HF1.out.lg.le) ?_; rintro e w' ⟨rfl, hw⟩; rw [hw]; clear hw)
      obtain ⟨N, hN⟩ : ∃ N, log.length = N := ⟨_, rfl⟩
      have HN : Hid (log.length = N) := hN
      rw [hN] at hll ⊢
      clear hN
      go_upto_region 5 with (go_at_call 54; refine Calls.mono (jsegname N W1 (by omega) (tab_under HT.out (HUN.out _ HF1.out.kp))) ?_; rintro e W2 ⟨rfl, hb2⟩)
      have hf2 := HF1.out.new hb2
      have HF2 : Hid (FR w W2 d dv L s x fb g m log (sgn segs) gd gd v S (.slice sp (sgn segs).length scap) c') := hf2
      have e1 : W2.cell? ⟨fb, 1, none⟩ = some (.slice sp (sgn segs).length scap) := cell_obj hf2.fd.obj
      clear hf2 hb2 HF1 e0
      obtain ⟨NM, hNM⟩ : ∃ NM, nameOf N = NM := ⟨_, rfl⟩
      have HNM : Hid (nameOf N = NM) := hNM
      rw [hNM]
      clear hNM
      have HBL : Hid ((sgn segs).Pairwise blt) := by
        show List.Pairwise _ _
        rcases HST.out with h | h
        · exact h.blt HTOT.out
        · have := fin_blt HTOT.out; rw [h.fin] at this; exact this
      rcases HST.out with hgo | hend
      · have hnin : isIn (sgn segs) NM = false := by
          have := hgo.notin HTOT.out
          rw [← HNM.out, ← HN.out]; exact this
        have HGO : Hid (Going (L.map DF.nf) (log, segs) gd gd) := hgo
        clear hgo HST
        by_cases hex : isIn ns NM = true
        · obtain ⟨i, f, hat⟩ := at_of_mem ((HM.out NM).1 (isIn_iff.1 hex)).1
          have HA : Hid (At L NM i f) := hat
          have hfsz : f.now.size ≤ 67108864 := Nat.le_trans (tot_mem (f := f.nf) (List.mem_map.2 ⟨f, List.mem_of_getElem? hat.get, rfl⟩)) HTOT.out
          clear hat
          have tok1 : True := trivial
          go_upto_region 6 with (first
            | (go_at_call 55; have _t := tok1; clear _t tok1; refine Calls.mono (jlisted (.slice sp (sgn segs).length scap) (sgn segs) NM W2 (nr_of_row HF2.out.fd.row) HBL.out (by omega)) ?_; rw [hnin]; rintro e W3 ⟨rfl, hb3⟩)
            | (go_at_call 55; refine Calls.mono (jlisted (.slice np ns.length ncap) ns NM W3 (HNW.out _ (HF2.out.new hb3).kp) HNB.out hnl) ?_; rw [hex]; rintro e W4 ⟨rfl, hb4⟩))
          have HF4 : Hid (FR w W4 d dv L s x fb g m log (sgn segs) gd gd v S (.slice sp (sgn segs).length scap) c') := (HF2.out.new hb3).new hb4
          clear hb3 hb4 HF2 e1 hex hnin
          go_upto_region 9 with (go_at_call 56; refine Calls.mono (jread d NM dv L c' s x i f W4 HF4.out.dk HA.out (by omega)) ?_; rintro e W5 ⟨bv, gb, rfl, hbs, hgb, hdk, hk⟩; obtain ⟨bo, bcap, rfl, hbc1, hbc2, -⟩ := hbs.shape)
          have HF5 : Hid (FR w W5 d dv L s x fb g m log (sgn segs) gd gd v S (.slice sp (sgn segs).length scap) (wrap64 (c' + 1))) := HF4.out.read hk hdk
          have HBS5 : Hid (BS W5 (.slice (some ⟨gb, bo, none⟩) f.now.size bcap) gb f.now) := hbs
          clear hdk hk HF4 hbs
          have HFI : Hid (findI (L.map DF.nf) (nameOf log.length) = some i ∧ (L.map DF.nf)[i]? = some (f.name, f.now)) := by
            rw [HN.out, HNM.out]; exact at_findI HA.out
          by_cases hh : hasHd f.now N = true
          · have h16 : 16 ≤ f.now.size := (hasHd_iff.1 hh).1
            have HHH : Hid (hasHd f.now log.length = true) := by rw [HN.out]; exact hh
            go_upto_region 10 with (go_at_call 57; refine Calls.mono (jhashead _ gb f.now N W5 HBS5.out (by omega)) ?_; rw [hh]; rintro e W6 ⟨rfl, hb6⟩)
            have hf6 := HF5.out.new hb6
            have hbs6 := HBS5.out.on' hb6 HBS5.out.lt
            have e1 : W6.cell? ⟨fb, 1, none⟩ = some (.slice sp (sgn segs).length scap) := cell_obj hf6.fd.obj
            obtain ⟨q, qc, w7, HR7, k7, r7, HF7⟩ := hf6.seg NM (by omega)
            have HBS7 : Hid (BS (w7.setCell ⟨fb, 1, none⟩ (.slice (some q) ((sgn segs).length + 1) qc)) (.slice (some ⟨gb, bo, none⟩) f.now.size bcap) gb f.now) := by
              obtain ⟨C, fr, tg⟩ := hbs6.tag
              refine hbs6.on HF7.out.2 ?_
              rintro (e | e)
              · exact tag_ne tg hf6.fd.obj (by decide) e
              · obtain ⟨C', hC'⟩ := row_tag hf6.fd.row e
                exact tag_ne tg hC' (by decide) rfl
            clear hb6 hf6 hbs6 HF5 HBS5 hh
            go_upto_region 11 with (at_builtin; refine wpList_app rfl _ _ _ _ rfl rfl rfl HR7.out ?_)
            obtain ⟨W7, hW7⟩ : ∃ W7, W7 = w7.setCell ⟨fb, 1, none⟩ (.slice (some q) ((sgn segs).length + 1) qc) := ⟨_, rfl⟩
            rw [← hW7] at HF7 HBS7 ⊢
            have hf7 := HF7.out.1
            have c2 : W7.cell? ⟨fb, 2, none⟩ = some (.int .i64 gd) := cell_obj hf7.fd.obj
            have r2 : W7.frozen? ⟨fb, 2, none⟩ = false := frozen_obj hf7.fd.obj
            have HF8 : Hid (FR w (W7.setCell ⟨fb, 2, none⟩ (.int .i64 f.now.size)) d dv L s x fb g m log (sgn segs ++ [NM]) f.now.size gd v S (.slice (some q) ((sgn segs).length + 1) qc) (wrap64 (c' + 1))) := hf7.setSz _
            have HBS8 : Hid (BS (W7.setCell ⟨fb, 2, none⟩ (.int .i64 f.now.size)) (.slice (some ⟨gb, bo, none⟩) f.now.size bcap) gb f.now) := by
              obtain ⟨C, fr, tg⟩ := HBS7.out.tag
              exact HBS7.out.on ((Kp.refl (· = fb) W7).setCell (a := ⟨fb, 2, none⟩) (fun _ => rfl) _) (tag_ne tg hf7.fd.obj (by decide))
            clear hf7 HF7 HBS7 HR7 k7 r7 e1 hW7
            go_upto_region 12 with fail
            obtain ⟨W8, hW8⟩ : ∃ W8, W8 = W7.setCell ⟨fb, 2, none⟩ (.int .i64 f.now.size) := ⟨_, rfl⟩
            rw [← hW8] at HF8 HBS8 ⊢
            clear hW8 c2 r2
            have hS0 : W8.drew.cell? ⟨fb, 0, none⟩ = some (.pointer (some ⟨g, 0, none⟩)) := cell_obj HF8.out.fd.obj
            obtain ⟨bo', hif, hbo⟩ : ∃ bo', (if bcap = 16 then some (⟨gb, bo, none⟩ : Addr) else some ⟨gb, bo + 16, none⟩) = some ⟨gb, bo', none⟩ ∧ (16 < bcap → bo' = bo + 16) := by
              by_cases e : bcap = 16
              · exact ⟨bo, by rw [if_pos e], fun h => by omega⟩
              · exact ⟨bo + 16, by rw [if_neg e], fun _ => rfl⟩
            have h16i : (16 : Int) ≤ f.now.size := by omega
            have h16c : (16 : Int) ≤ bcap := by omega
            refine wp_region_last (S := fun w' => w'.cell? ⟨fb, 0, none⟩ = some (.pointer (some ⟨g, 0, none⟩))) (by kernel_rfl) rfl (by kernel_rfl) ?_
            refine wpAnyH_take (i := 0) (v := ?_) rfl (by kernel_rfl) (by kernel_rfl) (by kernel_rfl) (fun _ _ _ h => h) (Or.inl ⟨by rfl, ?_⟩) (by assumption) ?_
            rotate_left
            · (intro w hSw; (try dsimp only at hSw); go_simp; try with_reducible rfl)
            try simp only [Act.put]
            refine wpAnyH_take (i := 1) (v := ?_) rfl (by kernel_rfl) (by kernel_rfl) (by kernel_rfl) (fun _ _ _ h => h) (Or.inl ⟨by rfl, ?_⟩) (by assumption) ?_
            rotate_left
            · (intro w hSw; (try dsimp only at hSw); go_simp; try with_reducible rfl)
            try simp only [Act.put]
            refine wpAnyH_take (i := 2) (v := ?_) rfl (by kernel_rfl) (by kernel_rfl) (by kernel_rfl) (fun _ _ _ h => h) (Or.inl ⟨by rfl, ?_⟩) (by assumption) ?_
            rotate_left
            · (intro w hSw; (try dsimp only at hSw); go_simp; try with_reducible rfl)
            try simp only [Act.put]
            refine wpAnyH_take (i := 3) (v := ?_) rfl (by kernel_rfl) (by kernel_rfl) (by kernel_rfl) (fun _ _ _ h => h) (Or.inl ⟨by rfl, ?_⟩) (by assumption) ?_
            rotate_left
            · (intro w hSw; (try dsimp only at hSw); go_simp; try with_reducible rfl)
            try simp only [Act.put]
            refine wpAnyH_take (i := 4) (v := ?_) rfl (by kernel_rfl) (by kernel_rfl) (by kernel_rfl) (fun _ _ _ h => h) (Or.inl ⟨by rfl, ?_⟩) (by assumption) ?_
            rotate_left
            · (intro w hSw; (try dsimp only at hSw); go_simp; try with_reducible rfl)
            try simp only [Act.put]
            refine wpAnyH_take (i := 5) (v := ?_) rfl (by kernel_rfl) (by kernel_rfl) (by kernel_rfl) (fun _ _ _ h => h) (Or.inl ⟨by rfl, ?_⟩) (by assumption) ?_
            rotate_left
            · (intro w hSw; (try dsimp only at hSw); go_simp; try with_reducible rfl)
            try simp only [Act.put]
            refine wpAnyH_take (i := 6) (v := ?_) rfl (by kernel_rfl) (by kernel_rfl) (by kernel_rfl) (fun _ _ _ h => h) (Or.inl ⟨by rfl, ?_⟩) (by assumption) ?_
            rotate_left
            · (intro w hSw; (try dsimp only at hSw); go_simp; try with_reducible rfl)
            try simp only [Act.put]
            refine wpAnyH_ready (rs := [7]) (by kernel_rfl) (by simp) ?_
            refine AllReadyH.cons rfl (fun K hK => ?_) AllReadyH.nil
            go_simp
            have HF8d := HF8.out.new (w' := W8.drew) (Below.refl _ _).drew
            have HBd : BS W8.drew (.slice (some ⟨gb, bo, none⟩) f.now.size bcap) gb f.now := HBS8.out.on' (Below.refl _ _).drew HBS8.out.lt
            have hlt16 := takeF_facts f.now (f.now.size + 1) 16 log h16
            change 16 ≤ (take f.now log).2 ∧ (take f.now log).2 ≤ f.now.size ∧ log.length ≤ (take f.now log).1.length ∧ _ at hlt16
            obtain ⟨TN, hTN⟩ : ∃ TN, (take f.now log).2 - 16 = TN := ⟨_, rfl⟩
            have HT2 : Hid ((take f.now log).2 = 16 + TN) := by show _ = _; omega
            have hTNb : TN ≤ 67108864 := by omega
            have hnf : ¬ LFoot g m v S gb := by
              obtain ⟨C, fr, tg⟩ := HBd.tag
              rintro ((e | e) | e | ⟨u, e⟩)
              · exact tag_ne tg HF8d.lg.le.obj (by decide) e
              · obtain ⟨C', hC'⟩ := row_tag HF8d.lg.le.row e
                exact tag_ne tg hC' (by decide) rfl
              · subst e
                obtain ⟨es, cl, hmo⟩ := HF8d.lg.ls.mobj
                rw [tg] at hmo; cases hmo
              · obtain ⟨xs, hx⟩ := HF8d.lg.ls.str u
                obtain ⟨C', hC'⟩ := row_tag hx e
                exact tag_ne tg hC' (by decide) rfl
            have hcl : ∀ j, j < f.now.size - 16 → W8.drew.cell? ⟨gb, bo' + j, none⟩ = some (.int .u8 (byt f.now (16 + j) : Nat)) := fun j hj => by
              obtain ⟨o2, k2, he, _, _, hce⟩ := HBd.shape
              injection he with he1 _ _
              injection he1 with he1
              injection he1 with _ he1 _
              subst he1
              rw [hbo (by omega), Nat.add_assoc]
              exact hce (16 + j) (by omega)
            have HJ := jtake a g m gb bo' (f.now.size - 16) (bcap - 16) v log S f.now w0 W8.drew HS.out (HUN.out _ HF8d.kp) HF8d.lg (fun k hk => Nat.le_trans HB.out.size (HF8d.lf k hk)) (by omega) (by omega) (by omega) HBd.lt hnf hcl (by have := HLL.out; omega)
            rw [hTN] at HJ
            clear hnf hcl HBd hlt16 hTN hbo
            refine Calls.mono HJ ?_
            clear HJ
            rintro e W9 ⟨rfl, v9, S9, hl9, hk9, hs9⟩
            have HF9 : Hid (FR w W9 d dv L s x fb g m (take f.now log).1 (sgn segs ++ [NM]) f.now.size gd v9 S9 (.slice (some q) ((sgn segs).length + 1) qc) (wrap64 (c' + 1))) := HF8d.took hl9 hk9 hs9
            clear hl9 hk9 hs9 HF8d
            have d0 : W9.cell? ⟨fb, 0, none⟩ = some (.pointer (some ⟨g, 0, none⟩)) := cell_obj HF9.out.fd.obj
            have d3 : W9.cell? ⟨fb, 3, none⟩ = some (.int .i64 gd) := cell_obj HF9.out.fd.obj
            have r3 : W9.frozen? ⟨fb, 3, none⟩ = false := frozen_obj HF9.out.fd.obj
            refine hK.out _ _ d0 (fun hS1 => ?_)
            clear hK K
            try simp only [Act.put]
            clear hS0 HF8 HBS8
            refine wpAnyH_take (i := 8) (v := ?_) rfl (by kernel_rfl) (by kernel_rfl) (by kernel_rfl) (fun _ _ _ h => h) (Or.inl ⟨by rfl, ?_⟩) (by assumption) ?_
            rotate_left
            · (intro w hSw; (try dsimp only at hSw); go_simp; try with_reducible rfl)
            try simp only [Act.put]
            refine wpAnyH_take (i := 9) (v := ?_) rfl (by kernel_rfl) (by kernel_rfl) (by kernel_rfl) (fun _ _ _ h => h) (Or.inl ⟨by rfl, ?_⟩) (by assumption) ?_
            rotate_left
            · (intro w hSw; (try dsimp only at hSw); go_simp; try with_reducible rfl)
            try simp only [Act.put]
            refine wpAnyH_take (i := 10) (v := ?_) rfl (by kernel_rfl) (by kernel_rfl) (by kernel_rfl) (fun _ _ _ h => h) (Or.inl ⟨by rfl, ?_⟩) (by assumption) ?_
            rotate_left
            · (intro w hSw; (try dsimp only at hSw); go_simp; try with_reducible rfl)
            try simp only [Act.put]
            refine wpAnyH_done (by kernel_rfl) ?_ _
            show wpList _ _ _ _ _ _
            go_wp2
            go_roundw
            case rel =>
              have h2 := HT2.out
              have e2 : (16 : Int) + TN = ((take f.now log).2 : Nat) := by omega
              have hF := HF9.out.setGd (16 + TN)
              rw [e2] at hF
              have hG := go_step HGO.out HTOT.out HFI.out.1 HFI.out.2 HHH.out
              have hn : sgn segs ++ [NM] = sgn (segs ++ [(i, (take f.now log).2, log.length)]) := by rw [sgn_snoc, ← HNM.out, ← HN.out]
              rw [hn] at hF
              rw [e2]
              generalize take f.now log = TT at hF hG ⊢
              exact ⟨TT.1, segs ++ [(i, TT.2, log.length)], f.now.size, TT.2, v9, S9, _, _, hF, hG⟩
            case measure =>
              have h1 := (HF9.out.setGd (16 + TN)).segLen
              rw [h1, HSL.out]
              simp; omega
          · have hh' : hasHd f.now N = false := by simpa using hh
            have HFIN : Hid (logOf (L.map DF.nf) = (log, segs) ∧ sizes (L.map DF.nf) segs gd gd) := ⟨HGO.out.stop HTOT.out (nxt_no (s := (log, segs)) (f := (f.name, f.now)) HFI.out.1 HFI.out.2 (by show hasHd f.now log.length = false; rw [HN.out]; exact hh')), HGO.out.szs⟩
            go_wp2_with (go_at_call 57; refine Calls.mono (jhashead _ gb f.now N W5 HBS5.out (by omega)) ?_; rw [hh']; rintro e W6 ⟨rfl, hb6⟩)
            go_ret2
            exact ⟨fb, g, m, rfl, _, log, segs, v, S, _, gd, gd, _, rfl, HFIN.out.1, HFIN.out.2, HF5.out.new hb6⟩
        · have hex' : isIn ns NM = false := by simpa using hex
          have HFIN : Hid (logOf (L.map DF.nf) = (log, segs) ∧ sizes (L.map DF.nf) segs gd gd) := by
            refine ⟨HGO.out.stop HTOT.out (nxt_nil (s := (log, segs)) ?_), HGO.out.szs⟩
            show findI (L.map DF.nf) (nameOf log.length) = none
            refine findI_nil fun f hf e => hex ?_
            rw [isIn_iff, HM.out]
            refine ⟨⟨f, hf, ?_⟩, ?_⟩
            · rw [e, HN.out, HNM.out]
            · rw [← HNM.out]; exact isSeg_nameOf N
          have tok1 : True := trivial
          go_wp2_with (first
            | (go_at_call 55; have _t := tok1; clear _t tok1; refine Calls.mono (jlisted (.slice sp (sgn segs).length scap) (sgn segs) NM W2 (nr_of_row HF2.out.fd.row) HBL.out (by omega)) ?_; rw [hnin]; rintro e W3 ⟨rfl, hb3⟩)
            | (go_at_call 55; refine Calls.mono (jlisted (.slice np ns.length ncap) ns NM W3 (HNW.out _ (HF2.out.new hb3).kp) HNB.out hnl) ?_; rw [hex']; rintro e W4 ⟨rfl, hb4⟩))
          go_ret2
          exact ⟨fb, g, m, rfl, _, log, segs, v, S, _, gd, gd, _, rfl, HFIN.out.1, HFIN.out.2, (HF2.out.new hb3).new hb4⟩
      · have hin : isIn (sgn segs) NM = true := by
          have := hend.isin rfl
          rw [← HNM.out, ← HN.out]; exact this
        have HFIN : Hid (logOf (L.map DF.nf) = (log, segs) ∧ sizes (L.map DF.nf) segs gd gd) := ⟨hend.fin, hend.szs⟩
        clear hend HST
        go_wp2_with (go_at_call 55; refine Calls.mono (jlisted _ (sgn segs) NM W2 (nr_of_row HF2.out.fd.row) HBL.out (by omega)) ?_; rw [hin]; rintro e W3 ⟨rfl, hb3⟩)
        go_ret2
        exact ⟨fb, g, m, rfl, _, log, segs, v, S, _, gd, gd, c', rfl, HFIN.out.1, HFIN.out.2, HF2.out.new hb3⟩
    · have d0 : ((gd : Int) == (sz : Int)) = false := by rw [beq_eq_false_iff_ne]; omega
      have hfin : logOf (L.map DF.nf) = (log, segs) ∧ sizes (L.map DF.nf) segs sz gd := by
        rcases HST.out with h | h
        · exact absurd h.eq.symm heq
        · exact ⟨h.fin, h.szs⟩
      have HFIN : Hid _ := hfin
      clear hfin
      go_wp2_with fail
      open Go.BigFrame in go_big_quiet (fail)
      go_wp2
      go_ret2
      exact ⟨fb, g, m, rfl, _, log, segs, v, S, _, sz, gd, c', rfl, HFIN.out.1, HFIN.out.2, HFR.out.new (below_drewN (Below.refl _ _) _)⟩
end Go.Proofs.YtploagfjajlloaaGreatDoor
namespace Go.Proofs.YtploagfjajlloaaGreatDoor
open Go.RowKit Jr

def rem (ns sg : List ByteArray) : List ByteArray := ns.filter fun n => !isIn sg n
def keepL (L : List DF) (rm : List ByteArray) : List DF := L.filter fun f => !isIn rm f.name
theorem keepL_nil (L : List DF) : keepL L [] = L := by
  unfold keepL
  exact List.filter_eq_self.2 fun f _ => by simp [isIn]
theorem keepL_snoc (L : List DF) (rm : List ByteArray) (nm : ByteArray) : (keepL L rm).filter (fun f => !decide (f.name = nm)) = keepL L (rm ++ [nm]) := by
  unfold keepL
  rw [List.filter_filter]
  congr 1
  funext f
  simp only [isIn, List.any_append, List.any_cons, List.any_nil, Bool.or_false]
  rw [Bool.eq_iff_iff]
  simp
  constructor
  · rintro ⟨h1, h2⟩; exact ⟨h2, fun e => h1 e.symm⟩
  · rintro ⟨h1, h2⟩; exact ⟨fun e => h2 e.symm, h1⟩
theorem keepL_length (L : List DF) (rm : List ByteArray) : (keepL L rm).length ≤ L.length := List.length_filter_le _ _
/-- What tidy makes of the files. -/
def TD (L L' : List DF) (ns sg : List ByteArray) (gd : Nat) : Prop := (∀ f' ∈ L', ∃ f ∈ L, f'.blk = f.blk) ∧
  ((sg = [] ∧ L' = keepL L (rem ns sg)) ∨ ∃ pre nm i f, sg = pre ++ [nm] ∧ At (keepL L (rem ns sg)) nm i f ∧ L'.map DF.nf = ((keepL L (rem ns sg)).map DF.nf).set i (nm, f.now.extract 0 gd) ∧ L'.map DF.sf = ((keepL L (rem ns sg)).map DF.sf).set i (nm, f.now.extract 0 gd))

theorem At.set {L : List DF} {nm : ByteArray} {i : Nat} {f f' : DF} (h : At L nm i f) (hn : f'.name = f.name) : At (L.set i f') nm i f' := by
  have hi := (List.getElem?_eq_some_iff.1 h.get).1
  refine ⟨by simp [hi], hn.trans h.name, fun j g hj hg => ?_⟩
  rw [List.getElem?_set_ne (by omega)] at hg
  exact h.first j g hj hg

set_option maxRecDepth 10000 in
set_option maxHeartbeats 8000000 in
theorem jtidy (d : Nat) (dv : Value) (L : List DF) (c s x : Int) (nv : Value) (ns : List ByteArray) (Bn fb g : Nat) (sv : Value) (sg : List ByteArray) (sz gd B : Nat) (w : World) (hd : Dk w d dv L c s x)
    (hnr : w.ownsRow Bn 9 1 nv ns.length (ns.map .string)) (hfd : FoundIs w fb g sv sg sz gd B) (hsg : sg.Pairwise blt) (hL : L.length ≤ 1073741824) (hnl : ns.length ≤ 1073741824) (hsgl : sg.length ≤ 1073741824) (hsz : ∀ f ∈ L, f.now.size ≤ 1000000000000)
    (hlast : sg = [] ∨ ∃ pre nm i f, sg = pre ++ [nm] ∧ At (keepL L (rem ns sg)) nm i f ∧ sz = f.now.size ∧ gd ≤ f.now.size ∧ 0 < gd) :
    Calls Tryz.prog 36 #[dif d, nv, .pointer (some ⟨fb, 0, none⟩)] w fun e w' => e = .returned .nilIface ∧ ∃ dv' L' c' s' x', Dk w' d dv' L' c' s' x' ∧ Kp (fun k => k = d ∨ ∃ f ∈ L, k = f.blk) w w' ∧ TD L L' ns sg gd ∧ (rem ns sg = [] → sz = gd → x' = x) := by
  have HDK : Hid (Dk w d dv L c s x) := hd
  have HNR : Hid (w.ownsRow Bn 9 1 nv ns.length (ns.map .string)) := hnr
  have HFD : Hid (FoundIs w fb g sv sg sz gd B) := hfd
  have HSG : Hid (sg.Pairwise blt) := hsg
  have HSZ : Hid (∀ f ∈ L, f.now.size ≤ 1000000000000) := hsz
  have HLA : Hid (sg = [] ∨ ∃ pre nm i f, sg = pre ++ [nm] ∧ At (keepL L (rem ns sg)) nm i f ∧ sz = f.now.size ∧ gd ≤ f.now.size ∧ 0 < gd) := hlast
  have HNW : Hid (∀ wr, Kp (· = d) w wr → NR wr nv ns) := fun wr hk => nr_of_row (row_on hnr hk fun k e e' => by
    subst e'
    obtain ⟨C, hC⟩ := row_tag hnr e
    exact tag_ne hC hd.obj (by decide) rfl)
  have HFW : Hid (∀ wr, Kp (· = d) w wr → FoundIs wr fb g sv sg sz gd B) := fun wr hk => ⟨hk.obj (tag_ne hfd.obj hd.obj (by decide)) hfd.obj, row_on hfd.row hk fun k e e' => by
    subst e'
    obtain ⟨C, hC⟩ := row_tag hfd.row e
    exact tag_ne hC hd.obj (by decide) rfl⟩
  obtain ⟨np, ncap, rfl, hnc1, hnc2, -⟩ := row_shape hnr
  obtain ⟨sp, scap, rfl, hsc1, hsc2, -⟩ := row_shape hfd.row
  unfold maxLen at hnc2 hsc2
  clear hd hnr hfd hsg hsz hlast
  obtain ⟨n, hn⟩ : ∃ n, ns.length = n := ⟨_, rfl⟩
  have HN : Hid (ns.length = n) := hn
  rw [hn] at hnc1 hnl HNR HNW ⊢
  clear hn
  go_enter Tryz.func36, Tryz.ntmps36
  go_upto_region 2 with fail
  go_loopw [14] (fun i wr => ∃ (k : Nat) (dv' : Value) (c' x' : Int), k ≤ n ∧ i = .int .i64 k ∧ Hid (Dk wr d dv' (keepL L (rem (ns.take k) sg)) c' s x' ∧ Kp (· = d) w wr ∧ (rem (ns.take k) sg = [] → x' = x))) (fun i _ => n - (intOf i).toNat)
  case atStart => exact ⟨0, dv, c, x, Nat.zero_le _, rfl, by rw [List.take_zero]; exact (show Dk w d dv (keepL L []) c s x by rw [keepL_nil]; exact HDK.out), Kp.refl _ _, fun _ => rfl⟩
  case round =>
    obtain ⟨k, dv', c', x', hk, rfl, hR⟩ := hrel
    obtain ⟨hD, hK, hX⟩ := hR.out
    by_cases hlt : k < n
    · obtain ⟨p, cap, he, _, _, HP⟩ := HNW.out wr hK
      injection he with he1 he2 he3
      subst he1 he3
      clear he2
      rw [HN.out] at HP
      obtain ⟨gn, rfl, hg2, hg⟩ := HP.out (by omega)
      have hLq : k < ns.length := by rw [HN.out]; exact hlt
      obtain ⟨nm, hf⟩ : ∃ f, ns[k]? = some f := ⟨_, List.getElem?_eq_getElem hLq⟩
      have e1 : wr.cell? ⟨gn, k, none⟩ = some (.string nm) := hg k nm hf
      have hfw := HFW.out wr hK
      have e2 : wr.cell? ⟨fb, 1, none⟩ = some (.slice sp sg.length scap) := cell_obj hfw.obj
      have HFD2 : Hid (FoundIs wr fb g (.slice sp sg.length scap) sg sz gd B) := hfw
      have htk : Hid (rem (ns.take (k + 1)) sg = rem (ns.take k) sg ++ (if !isIn sg nm then [nm] else [])) := take_filter (fun n => !isIn sg n) ns k nm hf
      have HR : Hid (Dk wr d dv' (keepL L (rem (ns.take k) sg)) c' s x' ∧ Kp (· = d) w wr ∧ (rem (ns.take k) sg = [] → x' = x)) := ⟨hD, hK, hX⟩
      clear hg hg2 hf hfw hD hK hX hR HP
      go_upto_region 4 with fail
      by_cases hin : isIn sg nm = true
      · rw [hin] at htk
        go_wp2_with (go_at_call 55; refine Calls.mono (jlisted _ sg nm wr (nr_of_row HFD2.out.row) HSG.out hsgl) ?_; rw [hin]; rintro e W1 ⟨rfl, hb1⟩)
        go_roundw
        case rel =>
          have ht := htk.out
          simp only [Bool.not_true, Bool.false_eq_true, if_false, List.append_nil] at ht
          exact ⟨k + 1, dv', c', x', by omega, by go_num, by rw [ht]; exact HR.out.1.new hb1, HR.out.2.1.trans (Kp.of_new hb1), by rw [ht]; exact HR.out.2.2⟩
        case measure => simp [intOf]; omega
      · have hin' : isIn sg nm = false := by simpa using hin
        rw [hin'] at htk
        go_upto_region 5 with (go_at_call 55; refine Calls.mono (jlisted _ sg nm wr (nr_of_row HFD2.out.row) HSG.out hsgl) ?_; rw [hin']; rintro e W1 ⟨rfl, hb1⟩)
        have HD1 : Hid (Dk W1 d dv' (keepL L (rem (ns.take k) sg)) c' s x') := HR.out.1.new hb1
        have HK1 : Hid (Kp (· = d) w W1) := HR.out.2.1.trans (Kp.of_new hb1)
        clear hb1 HR e1 e2 HFD2 hin hin'
        have HJ : Hid (Calls Tryz.prog 59 #[dif d, .string nm] W1 fun e w'' => e = .returned .nilIface ∧ ∃ W', (∃ v', Dk W' d v' (keepL L (rem (ns.take k) sg ++ [nm])) (wrap64 (c' + 1)) s (wrap64 (x' + 1))) ∧ Below W'.heap.size W' w'' ∧ Kp (· = d) W1 w'') := by
          refine jremove d nm (· = d) (fun W' => ∃ v', Dk W' d v' (keepL L (rem (ns.take k) sg ++ [nm])) (wrap64 (c' + 1)) s (wrap64 (x' + 1))) W1 (fun k e => by subst e; exact heap_lt HD1.out.obj) fun W hW => ?_
          refine Calls.mono (dremove d dv' (keepL L (rem (ns.take k) sg)) c' s x' nm W (HD1.out.new hW) (Nat.le_trans (keepL_length _ _) hL)) ?_
          rintro e w' ⟨rfl, v', hd', hk'⟩
          exact ⟨rfl, hk', v', by rw [← keepL_snoc]; exact hd'⟩
        go_wp2_with (go_at_call 59; refine Calls.mono HJ.out ?_; rintro e W2 ⟨rfl, W', ⟨v2, hd2⟩, hb2, hk2⟩)
        go_roundw
        case rel =>
          have ht := htk.out
          simp only [Bool.not_false, if_true] at ht
          exact ⟨k + 1, v2, wrap64 (c' + 1), wrap64 (x' + 1), by omega, by go_num, by rw [ht]; exact hd2.new hb2, HK1.out.trans hk2, fun h => by rw [ht] at h; simp at h⟩
        case measure => simp [intOf]; omega
    · obtain rfl : k = n := by omega
      have htk : ns.take k = ns := List.take_of_length_le (by rw [HN.out]; exact Nat.le_refl _)
      rw [htk] at hD hX
      have hfw := HFW.out wr hK
      have HFD2 : Hid (FoundIs wr fb g (.slice sp sg.length scap) sg sz gd B) := hfw
      have e2 : wr.cell? ⟨fb, 1, none⟩ = some (.slice sp sg.length scap) := cell_obj hfw.obj
      have e3 : wr.cell? ⟨fb, 2, none⟩ = some (.int .i64 sz) := cell_obj hfw.obj
      have e4 : wr.cell? ⟨fb, 3, none⟩ = some (.int .i64 gd) := cell_obj hfw.obj
      have HR : Hid (Dk wr d dv' (keepL L (rem ns sg)) c' s x' ∧ Kp (· = d) w wr ∧ (rem ns sg = [] → x' = x)) := ⟨hD, hK, hX⟩
      clear hD hK hX hR htk hlt
      rcases HLA.out with h0 | ⟨pre, nm, i, f, hsp, hat, hszf, hgd, hgd0⟩
      · have hl0 : sg.length = 0 := by rw [h0]; rfl
        have H0 : Hid (sg = []) := h0
        rw [hl0] at e2
        clear HLA h0 hl0
        go_wp2
        go_ret
        obtain ⟨h1, h2, h3⟩ := HR.out
        exact ⟨rfl, dv', keepL L (rem ns sg), c', s, x', h1, h2.mono fun k _ e => Or.inl e, ⟨fun f' hf' => ⟨f', (List.mem_filter.1 hf').1, rfl⟩, Or.inl ⟨H0.out, rfl⟩⟩, fun h _ => h3 h⟩
      · have hlen : sg.length = pre.length + 1 := by rw [hsp]; simp
        obtain ⟨p, cap, he, _, _, HP⟩ := nr_of_row hfw.row
        injection he with he1 he2 he3
        subst he1 he3
        clear he2
        obtain ⟨gs, rfl, hg2, hg⟩ := HP.out (by omega)
        have e5 : wr.cell? ⟨gs, pre.length, none⟩ = some (.string nm) := hg pre.length nm (by rw [hsp]; simp)
        have HSP : Hid (sg = pre ++ [nm]) := hsp
        have HA : Hid (At (keepL L (rem ns sg)) nm i f) := hat
        have HGD : Hid (sz = f.now.size ∧ gd ≤ f.now.size ∧ 0 < gd) := ⟨hszf, hgd, hgd0⟩
        have hfm : f ∈ L := (List.mem_filter.1 (List.mem_of_getElem? hat.get)).1
        have hf12 := HSZ.out f hfm
        have HFM : Hid (f ∈ L) := hfm
        obtain ⟨q, hq⟩ : ∃ q, pre.length = q := ⟨_, rfl⟩
        rw [hlen, hq] at e2 hsc1 hsgl
        rw [hq] at e5
        clear hlen hsp hat hg hg2 HP hfw HLA hfm hq hszf hgd hgd0
        go_upto_region 11 with fail
        open Go.BigFrame in go_big_quiet (fail)
        obtain ⟨W1, hW1⟩ : ∃ W1, W1 = wr.drewN nq := ⟨_, rfl⟩
        have hb1 : Below wr.heap.size wr W1 := by rw [hW1]; exact below_drewN (Below.refl _ _) _
        have HR1 : Hid (Dk W1 d dv' (keepL L (rem ns sg)) c' s x' ∧ Kp (· = d) w W1 ∧ (rem ns sg = [] → x' = x)) := ⟨HR.out.1.new hb1, HR.out.2.1.trans (Kp.of_new hb1), HR.out.2.2⟩
        have g3 : W1.cell? ⟨fb, 2, none⟩ = some (.int .i64 sz) := by rw [hW1]; exact e3
        have g4 : W1.cell? ⟨fb, 3, none⟩ = some (.int .i64 gd) := by rw [hW1]; exact e4
        have HFD3 : Hid (FoundIs W1 fb g (.slice (some ⟨gs, 0, none⟩) sg.length scap) sg sz gd B) := ⟨below_obj hb1 (heap_lt HFD2.out.obj) HFD2.out.obj, row_on' HFD2.out.row hb1 fun k e => (HFD2.out.row.lt k e).2⟩
        rw [← hW1]
        clear hW1 hb1 e2 e3 e4 e5 HR HFD2
        go_upto_region 12 with fail
        have SYNC : Hid (∀ W c1 x1 (f1 : DF) (L1 : List DF), Dk W d dv' L1 c1 s x1 → At L1 nm i f1 → f1.now.size ≤ 1000000000000 → Calls Tryz.prog 61 #[dif d, .string nm] W fun e w'' => e = .returned .nilIface ∧ ∃ W', (∃ v' g' c2 s2, Dk W' d dv' (L1.set i { f1 with safe := f1.now, sv := v', sg := g' }) c2 s2 x1) ∧ Below W'.heap.size W' w'' ∧ Kp (fun k => k = d ∨ k = f1.blk) W w'') := fun W c1 x1 f1 L1 hDk hAt hSz => by
          refine jsync d nm (fun k => k = d ∨ k = f1.blk) (fun W' => ∃ v' g' c2 s2, Dk W' d dv' (L1.set i { f1 with safe := f1.now, sv := v', sg := g' }) c2 s2 x1) W (fun k e => ?_) fun W2 hW2 => ?_
          · rcases e with rfl | rfl
            · exact heap_lt hDk.obj
            · exact heap_lt (hDk.files f1 (List.mem_of_getElem? hAt.get)).obj
          · refine Calls.mono (dsync d dv' L1 c1 s x1 nm i f1 W2 (hDk.new hW2) hAt hSz) ?_
            rintro e w' ⟨rfl, v', g', hd', hk'⟩
            exact ⟨rfl, hk', v', g', _, _, hd'⟩
        by_cases hsq : sz = gd
        · have d0 : ((sz : Int) != (gd : Int)) = false := by simp [hsq]
          open Go.BigFrame in go_big_quiet (fail)
          obtain ⟨W2, hW2⟩ : ∃ W2, W2 = W1.drewN nq := ⟨_, rfl⟩
          have hb2 : Below W1.heap.size W1 W2 := by rw [hW2]; exact below_drewN (Below.refl _ _) _
          have HR2 : Hid (Dk W2 d dv' (keepL L (rem ns sg)) c' s x' ∧ Kp (· = d) w W2 ∧ (rem ns sg = [] → x' = x)) := ⟨HR1.out.1.new hb2, HR1.out.2.1.trans (Kp.of_new hb2), HR1.out.2.2⟩
          rw [← hW2]
          clear hW2 hb2 HR1 g3 g4
          have HSY : Hid _ := SYNC.out W2 c' x' f (keepL L (rem ns sg)) HR2.out.1 HA.out hf12
          clear SYNC
          go_wp2_with (go_at_call 61; refine Calls.mono HSY.out ?_; rintro e W3 ⟨rfl, W', ⟨v3, g3, c3, s3, hd3⟩, hb3, hk3⟩)
          go_ret
          obtain ⟨h1, h2, h3⟩ := HR2.out
          have hfull : f.now.extract 0 gd = f.now := by
            have := HGD.out.1
            rw [← hsq, this]; simp
          refine ⟨rfl, dv', _, c3, s3, x', hd3.new hb3, (h2.mono fun k _ e => Or.inl e).trans (hk3.mono fun k _ e => ?_), ⟨fun f' hf' => ?_, Or.inr ⟨pre, nm, i, f, HSP.out, HA.out, ?_, ?_⟩⟩, fun h _ => h3 h⟩
          · rcases e with e | e
            · exact Or.inl e
            · exact Or.inr ⟨f, HFM.out, e⟩
          · rcases List.mem_or_eq_of_mem_set hf' with h | rfl
            · exact ⟨f', (List.mem_filter.1 h).1, rfl⟩
            · exact ⟨f, HFM.out, rfl⟩
          · rw [hfull, List.map_set, ← HA.out.name]
          · rw [hfull, List.map_set, ← HA.out.name]
        · have d0 : ((sz : Int) != (gd : Int)) = true := by rw [bne_iff_ne]; omega
          open Go.BigFrame in go_big_quiet (fail)
          obtain ⟨W2, hW2⟩ : ∃ W2, W2 = W1.drewN nq := ⟨_, rfl⟩
          have hb2 : Below W1.heap.size W1 W2 := by rw [hW2]; exact below_drewN (Below.refl _ _) _
          have HR2 : Hid (Dk W2 d dv' (keepL L (rem ns sg)) c' s x' ∧ Kp (· = d) w W2) := ⟨HR1.out.1.new hb2, HR1.out.2.1.trans (Kp.of_new hb2)⟩
          have j4 : W2.cell? ⟨fb, 3, none⟩ = some (.int .i64 gd) := by rw [hW2]; exact g4
          rw [← hW2]
          clear hW2 hb2 HR1 g3 g4
          have HCU : Hid (Calls Tryz.prog 60 #[dif d, .string nm, .int .i64 gd] W2 fun e w'' => e = .returned .nilIface ∧ ∃ W', (∃ v' g' c2 x2, Dk W' d dv' ((keepL L (rem ns sg)).set i { f with now := f.now.extract 0 gd, nv := v', ng := g' }) c2 s x2) ∧ Below W'.heap.size W' w'' ∧ Kp (fun k => k = d ∨ k = f.blk) W2 w'') := by
            refine jcut d gd nm (fun k => k = d ∨ k = f.blk) (fun W' => ∃ v' g' c2 x2, Dk W' d dv' ((keepL L (rem ns sg)).set i { f with now := f.now.extract 0 gd, nv := v', ng := g' }) c2 s x2) W2 (fun k e => ?_) fun W hW => ?_
            · rcases e with rfl | rfl
              · exact heap_lt HR2.out.1.obj
              · exact heap_lt (HR2.out.1.files f (List.mem_of_getElem? HA.out.get)).obj
            · refine Calls.mono (dcut d dv' (keepL L (rem ns sg)) c' s x' nm i f gd W (HR2.out.1.new hW) HA.out hf12 HGD.out.2.1 HGD.out.2.2) ?_
              rintro e w' ⟨rfl, v', g', hd', hk'⟩
              exact ⟨rfl, hk', v', g', _, _, hd'⟩
          go_upto_region 16 with (go_at_call 60; refine Calls.mono HCU.out ?_; rintro e W3 ⟨rfl, W', ⟨v3, g3, c3, x3, hd3⟩, hb3, hk3⟩)
          have HSY : Hid _ := SYNC.out W3 c3 x3 { f with now := f.now.extract 0 gd, nv := v3, ng := g3 } _ (hd3.new hb3) (HA.out.set rfl) (by show (f.now.extract 0 gd).size ≤ _; rw [size_extract0 _ _ HGD.out.2.1]; have := HGD.out.2.1; omega)
          have HK3 : Hid (Kp (fun k => k = d ∨ k = f.blk) w W3) := (HR2.out.2.mono fun k _ e => Or.inl e).trans hk3
          clear SYNC hd3 hb3 hk3 HCU HR2 j4
          go_wp2_with (go_at_call 61; refine Calls.mono HSY.out ?_; rintro e W4 ⟨rfl, W'', ⟨v4, g4, c4, s4, hd4⟩, hb4, hk4⟩)
          go_ret
          rw [List.set_set] at hd4
          refine ⟨rfl, dv', _, c4, s4, x3, hd4.new hb4, (HK3.out.trans hk4).mono fun k _ e => ?_, ⟨fun f' hf' => ?_, Or.inr ⟨pre, nm, i, f, HSP.out, HA.out, ?_, ?_⟩⟩, fun _ h => absurd h hsq⟩
          · rcases e with e | e
            · exact Or.inl e
            · exact Or.inr ⟨f, HFM.out, e⟩
          · rcases List.mem_or_eq_of_mem_set hf' with h | rfl
            · exact ⟨f', (List.mem_filter.1 h).1, rfl⟩
            · exact ⟨f, HFM.out, rfl⟩
          · rw [List.map_set, ← HA.out.name]
          · rw [List.map_set, ← HA.out.name]
end Go.Proofs.YtploagfjajlloaaGreatDoor
