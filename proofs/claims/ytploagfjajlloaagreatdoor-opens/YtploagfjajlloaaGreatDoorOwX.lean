import Derived.Test.YtploagfjajlloaaGreatDoorRoA
import Derived.Test.YtploagfjajlloaaGreatDoorRsX
import Derived.Test.YtploagfjajlloaaGreatDoorRaA
import Derived.Test.YtploagfjajlloaaGreatDoorClA
import Derived.Test.YtploagfjajlloaaGreatDoorNdB
namespace Go.Proofs.YtploagfjajlloaaGreatDoor
open Go.RowKit Jr

/-- Blocks that a call may turn are the disk's, a store's or a box of answers. -/
def Tg (F : Nat → Prop) (w : World) : Prop := ∀ k, F k → ∃ C t fr, w.heap[k]? = some (.cells C t fr) ∧ (t = 65 ∨ t = 69 ∨ t = 115 ∨ t = 25)
theorem Tg.no (w : World) : Tg (fun _ => False) w := fun _ h => h.elim
theorem Tg.sb {w : World} {sb : Nat} {lp : Value} {c : Bool} (h : w.heap[sb]? = some (sobj lp c)) : Tg (· = sb) w := fun k e => by
  subst e; exact ⟨_, _, _, h, Or.inr (Or.inr (Or.inl rfl))⟩
theorem Tg.box {w : World} {b : Nat} {C : Array Value} {fr : Nat × Nat} (h : w.heap[b]? = some (.cells C 25 fr)) : Tg (· = b) w := fun k e => by
  subst e; exact ⟨_, _, _, h, Or.inr (Or.inr (Or.inr rfl))⟩
theorem Tg.dw {w : World} {d : Nat} {dv : Value} {L : List DF} {c s x : Int} (h : Dk w d dv L c s x) : Tg (DW d L) w := fun k hk => by
  obtain ⟨C, t, ho, ht⟩ := h.dwtag hk
  refine ⟨C, t, _, ho, ?_⟩
  rcases ht with h | h
  · exact Or.inl h
  · exact Or.inr (Or.inl h)
theorem Tg.not {F : Nat → Prop} {w : World} (h : Tg F w) {k : Nat} {C : Array Value} {t : TypeId} {fr : Nat × Nat} (ho : w.heap[k]? = some (.cells C t fr)) (h1 : t ≠ 65) (h2 : t ≠ 69) (h3 : t ≠ 115) (h4 : t ≠ 25) : ¬ F k := fun hf => by
  obtain ⟨C', t', fr', ho', ht⟩ := h k hf
  rcases ht with rfl | rfl | rfl | rfl
  · exact tag_ne ho ho' h1 rfl
  · exact tag_ne ho ho' h2 rfl
  · exact tag_ne ho ho' h3 rfl
  · exact tag_ne ho ho' h4 rfl
theorem RFs.tg {F : Nat → Prop} {w w' : World} {B : Nat} {v : Value} {L : List RF} (h : RFs w B v L) (hk : Kp F w w') (ht : Tg F w) : RFs w' B v L :=
  ⟨row_on h.row hk (fun k e => by obtain ⟨C, hC⟩ := row_tag h.row e; exact ht.not hC (by decide) (by decide) (by decide) (by decide)), fun f hf => by
    obtain ⟨C, fr, hC⟩ := (h.bs f hf).tag
    exact (h.bs f hf).of_same (hk.block _ (h.bs f hf).lt (ht.not hC (by decide) (by decide) (by decide) (by decide)))⟩
theorem LogIs.tg {F : Nat → Prop} {w w' : World} {g m : Nat} {v : Value} {log : List Ev} {S : ByteArray → Value} (h : LogIs w g m v log S) (hk : Kp F w w') (ht : Tg F w) : LogIs w' g m v log S := by
  refine h.kp hk fun k hf => ?_
  rcases hf with (rfl | hf) | rfl | ⟨t, hf⟩
  · exact ht.not h.le.obj (by decide) (by decide) (by decide) (by decide)
  · obtain ⟨C, hC⟩ := row_tag h.le.row hf
    exact ht.not hC (by decide) (by decide) (by decide) (by decide)
  · intro hF
    obtain ⟨es, cl, hm⟩ := h.ls.mobj
    obtain ⟨C, t, fr, ho, _⟩ := ht _ hF
    rw [ho] at hm; cases hm
  · obtain ⟨xs, hx⟩ := h.ls.str t
    obtain ⟨C, hC⟩ := row_tag hx hf
    exact ht.not hC (by decide) (by decide) (by decide) (by decide)
/-- What the law holds on to. -/
structure Fx (w0 w : World) (wv lv : Value) (R : List RF) (log : List Ev) (b b2 : Nat) : Prop where
  bel : Below w0.heap.size w0 w
  want : RFs w 0 wv R
  lg : w.ownsRow 0 75 4 lv log.length (pvc log)
  box : w.heap[b]? = some (.cells (told 0) 25 (0, 0))
  box2 : w.heap[b2]? = some (.cells (told 0) 25 (0, 0))
theorem Fx.kp {F : Nat → Prop} {w0 w w' : World} {wv lv : Value} {R : List RF} {log : List Ev} {b b2 : Nat} (h : Fx w0 w wv lv R log b b2) (hk : Kp F w w') (ht : Tg F w) (hF : ∀ k, F k → w0.heap.size ≤ k) (hb : ¬ F b) (hb2 : ¬ F b2) : Fx w0 w' wv lv R log b b2 :=
  ⟨h.bel.trans (hk.below hF h.bel.size), h.want.tg hk ht, row_on h.lg hk (fun k e => by obtain ⟨C, hC⟩ := row_tag h.lg e; exact ht.not hC (by decide) (by decide) (by decide) (by decide)), hk.obj hb h.box, hk.obj hb2 h.box2⟩
theorem Fx.new {w0 w w' : World} {wv lv : Value} {R : List RF} {log : List Ev} {b b2 : Nat} (h : Fx w0 w wv lv R log b b2) (hb : Below w.heap.size w w') : Fx w0 w' wv lv R log b b2 :=
  h.kp (F := fun _ => False) (Kp.of_new hb) (Tg.no _) (fun _ hf => hf.elim) id id
theorem Fx.dw {w0 w w' : World} {wv lv : Value} {R : List RF} {log : List Ev} {b b2 d : Nat} {dv : Value} {L : List DF} {c s x : Int} (h : Fx w0 w wv lv R log b b2) (hd : Dk w d dv L c s x) (hk : Kp (DW d L) w w') (hF : ∀ k, DW d L k → w0.heap.size ≤ k) : Fx w0 w' wv lv R log b b2 :=
  h.kp hk (Tg.dw hd) hF (hd.tagnot h.box (by decide) (by decide)) (hd.tagnot h.box2 (by decide) (by decide))
theorem Fx.sb {w0 w w' : World} {wv lv : Value} {R : List RF} {log : List Ev} {b b2 sb : Nat} {lp : Value} {c : Bool} (h : Fx w0 w wv lv R log b b2) (hs : w.heap[sb]? = some (sobj lp c)) (hk : Kp (· = sb) w w') (hF : w0.heap.size ≤ sb) : Fx w0 w' wv lv R log b b2 :=
  h.kp hk (Tg.sb hs) (fun k e => by subst e; exact hF) (tag_ne h.box hs (by decide)) (tag_ne h.box2 hs (by decide))
abbrev tell5 (w : World) (b : Nat) : World := ((((w.setCell ⟨b, 0, none⟩ (.int .i64 0)).setCell ⟨b, 1, none⟩ (.string ⟨#[]⟩)).setCell ⟨b, 2, none⟩ (.int .i64 0)).setCell ⟨b, 3, none⟩ (.int .i64 0)).setCell ⟨b, 4, none⟩ (.bool false)
theorem five_told {W : World} {b : Nat} (h : W.heap[b]? = some (.cells (told 0) 25 (0, 0))) : (tell5 W b).heap[b]? = some (.cells (told 0) 25 (0, 0)) := by
  have h1 := obj_setCell_same (i := 0) (v := .int .i64 0) h
  have h2 := obj_setCell_same (i := 1) (v := .string ⟨#[]⟩) h1
  have h3 := obj_setCell_same (i := 2) (v := .int .i64 0) h2
  have h4 := obj_setCell_same (i := 3) (v := .int .i64 0) h3
  exact obj_setCell_same (i := 4) (v := .bool false) h4
theorem kp_tell (w : World) (b : Nat) : Kp (· = b) w (tell5 w b) := kp_five w b _ _ _ _ _
theorem box_tell {W : World} {b z : Nat} (hz : W.heap[z]? = some (.cells (told 0) 25 (0, 0))) (hb : W.heap[b]? = some (.cells (told 0) 25 (0, 0))) : (tell5 W z).heap[b]? = some (.cells (told 0) 25 (0, 0)) := by
  by_cases e : b = z
  · subst e; exact five_told hb
  · exact (kp_tell W z).obj e hb
/-- An answer stored into its box again. -/
theorem Fx.tell {w0 w : World} {wv lv : Value} {R : List RF} {log : List Ev} {b b2 : Nat} (h : Fx w0 w wv lv R log b b2) {z : Nat} (hz : w.heap[z]? = some (.cells (told 0) 25 (0, 0))) (hF : w0.heap.size ≤ z) : Fx w0 (tell5 w z) wv lv R log b b2 := by
  have hk := kp_tell w z
  have ht := Tg.box hz
  exact ⟨h.bel.trans (hk.below (fun k e => by subst e; exact hF) h.bel.size), h.want.tg hk ht, row_on h.lg hk (fun k e => by obtain ⟨C, hC⟩ := row_tag h.lg e; exact ht.not hC (by decide) (by decide) (by decide) (by decide)), box_tell hz h.box, box_tell hz h.box2⟩
theorem OSt.new {w w' : World} {ps sb d g m : Nat} {v : Value} {log : List Ev} {S : ByteArray → Value} (h : OSt w ps sb d g m v log S) (hb : Below w.heap.size w w') : OSt w' ps sb d g m v log S :=
  ⟨below_obj hb (heap_lt h.ps) h.ps, below_obj hb (heap_lt h.sb) h.sb, h.lg.new hb⟩
theorem OSt.tell {w : World} {ps sb d g m : Nat} {v : Value} {log : List Ev} {S : ByteArray → Value} (h : OSt w ps sb d g m v log S) {z : Nat} (hz : w.heap[z]? = some (.cells (told 0) 25 (0, 0))) : OSt (tell5 w z) ps sb d g m v log S :=
  ⟨(kp_tell w z).obj (tag_ne h.ps hz (by decide)) h.ps, (kp_tell w z).obj (tag_ne h.sb hz (by decide)) h.sb, h.lg.tg (kp_tell w z) (Tg.box hz)⟩
theorem Dk.tell {w : World} {d : Nat} {dv : Value} {L : List DF} {c s x : Int} (h : Dk w d dv L c s x) {z : Nat} (hz : w.heap[z]? = some (.cells (told 0) 25 (0, 0))) : Dk (tell5 w z) d dv L c s x :=
  h.kp (kp_tell w z) (h.other hz (by decide) (by decide) (by decide) (by decide))
theorem Dk.sbk {w w' : World} {d : Nat} {dv : Value} {L : List DF} {c s x : Int} (h : Dk w d dv L c s x) {sb : Nat} {lp : Value} {cl : Bool} (hs : w.heap[sb]? = some (sobj lp cl)) (hk : Kp (· = sb) w w') : Dk w' d dv L c s x :=
  h.kp hk (h.other hs (by decide) (by decide) (by decide) (by decide))
theorem PF.new {w w' : World} {v : Value} {l : List Fl} (h : PF w v l) (hb : Below w.heap.size w w') : PF w' v l := by
  obtain ⟨p, cap, h1, h2, h3, h4⟩ := h
  refine ⟨p, cap, h1, h2, h3, fun h0 => ?_⟩
  obtain ⟨g, off, e, hg, hc⟩ := h4.out h0
  exact ⟨g, off, e, Nat.lt_of_lt_of_le hg hb.size, fun k f hk => ⟨(hb.cell (p := ⟨g, off + k * 2, none⟩) hg).trans (hc k f hk).1, (hb.cell (p := ⟨g, off + k * 2 + 1, none⟩) hg).trans (hc k f hk).2⟩⟩
theorem lfewB (v : Value) (l : List Fl) (w : World) (h : PF w v l) (hs : ∀ f ∈ l, f.1.size ≤ 140737488355328 ∧ f.2.size ≤ 140737488355328) :
    Calls Tryz.prog 4 #[v] w fun e w' => ∃ b, e = .returned (.bool b) ∧ (b = true → l.length ≤ 1073741824 ∧ bulkL l ≤ 67108864) ∧ Below w.heap.size w w' :=
  (lfew v l w h hs).mono fun e w' ⟨hc, hb⟩ => by
    rcases hc with ⟨he, h1, h2⟩ | he
    · exact ⟨true, he, fun _ => ⟨h1, h2⟩, hb⟩
    · exact ⟨false, he, fun hx => (by cases hx), hb⟩
theorem bulk_mem {l : List Fl} {f : Fl} (h : f ∈ l) : f.2.size ≤ bulkL l ∧ f.1.size ≤ bulkL l := by
  induction l with
  | nil => cases h
  | cons a l ih =>
    simp only [bulkL]
    rcases List.mem_cons.1 h with rfl | h
    · omega
    · have := ih h; omega
theorem Sen.less {n m : Nat} {w : World} {a : Nat → Addr} (h : Sen n w a) (hm : m ≤ n) : Sen m w a := ⟨fun i hi => h.g i (by omega), fun i hi => h.row i (by omega), fun i j hi hj => h.ne i j (by omega) (by omega)⟩
theorem names_nd {L : List DF} (h : ((L.map DF.nf).map Prod.fst).Nodup) : (L.map DF.name).Nodup := by
  rw [List.map_map] at h; exact h
theorem names_nd' {L : List RF} (h : ((L.map RF.nc).map Prod.fst).Nodup) : (L.map RF.name).Nodup := by
  rw [List.map_map] at h; exact h
theorem now_size {L : List DF} {F : List Fl} (h : L.map DF.nf = F) (hF : ∀ f ∈ F, f.1.size ≤ 67108864 ∧ f.2.size ≤ 67108864) : ∀ f ∈ L, f.now.size ≤ 1000000000000 := fun f hf => by
  have := (hF f.nf (by rw [← h]; exact List.mem_map_of_mem hf)).2
  simp only at this; omega
theorem safe_size {L : List DF} {F : List Fl} (h : L.map DF.sf = F) (hF : ∀ f ∈ F, f.1.size ≤ 67108864 ∧ f.2.size ≤ 67108864) : ∀ f ∈ L, f.safe.size ≤ 1000000000000 := fun f hf => by
  have := (hF f.sf (by rw [← h]; exact List.mem_map_of_mem hf)).2
  simp only at this; omega
theorem name_size {L : List DF} {F : List Fl} (h : L.map DF.nf = F) (hF : ∀ f ∈ F, f.1.size ≤ 67108864 ∧ f.2.size ≤ 67108864) : ∀ f ∈ L, f.name.size ≤ 9223372036854775807 := fun f hf => by
  have := (hF f.nf (by rw [← h]; exact List.mem_map_of_mem hf)).1
  simp only at this; omega
theorem len_of {L : List DF} {F : List Fl} (h : L.map DF.nf = F) (hF : F.length ≤ 1073741824) : L.length ≤ 1073741824 := by rw [← h, List.length_map] at hF; exact hF
theorem len_of' {L : List RF} {F : List Fl} (h : L.map RF.nc = F) (hF : F.length ≤ 1073741824) : L.length ≤ 1073741824 := by rw [← h, List.length_map] at hF; exact hF
theorem names_of' {L : List RF} {F : List Fl} (h : L.map RF.nc = F) (hF : (F.map Prod.fst).Nodup) : (L.map RF.name).Nodup := names_nd' (by rw [h]; exact hF)
theorem partL_all (log : List Ev) : partL log 0 0 = log := by unfold partL startN; simp
theorem partL_len (log : List Ev) (fr n : Int) : (partL log fr n).length ≤ log.length := by
  unfold partL
  split
  · rw [List.length_take, List.length_drop]; omega
  · rw [List.length_drop]; omega
end Go.Proofs.YtploagfjajlloaaGreatDoor
namespace Go.Proofs.YtploagfjajlloaaGreatDoor
open Go.RowKit Jr

set_option maxRecDepth 10000 in
set_option maxHeartbeats 16000000 in
theorem opens_any (a : Nat → Addr) (v : Value) (l : List Fl) (fr n : Int) (w : World) (hs : Sen 5 w a) (ht : Tab w) (h : PF w v l) (hz : ∀ f ∈ l, f.1.size ≤ 140737488355328 ∧ f.2.size ≤ 140737488355328) (h1 : -9223372036854775808 ≤ fr) (h2 : fr ≤ 9223372036854775807) :
    Calls Tryz.prog 3 #[v, .int .i64 fr, .int .i64 n] w fun e w' => e = .returned (.bool true) ∧ Below w.heap.size w w' := by
  have HS : Hid (Sen 5 w a) := hs
  have HT : Hid (Tab w) := ht
  have HPF : Hid (PF w v l) := h
  have HZ : Hid (∀ f ∈ l, f.1.size ≤ 140737488355328 ∧ f.2.size ≤ 140737488355328) := hz
  have H12 : Hid (-9223372036854775808 ≤ fr ∧ fr ≤ 9223372036854775807) := ⟨h1, h2⟩
  clear hs ht h hz h1 h2
  go_enter Tryz.func3, Tryz.ntmps3
  go_upto_region 2 with (go_at_call 4; refine Calls.mono (lfewB v l w HPF.out HZ.out) ?_; rintro e W1 ⟨b, rfl, hbb, hb1⟩)
  cases b with
  | false =>
    clear hbb
    go_wp2
    go_ret
    exact ⟨rfl, hb1⟩
  | true =>
    obtain ⟨hl, hbk⟩ := hbb rfl
    have HBK : Hid (bulkL l ≤ 67108864) := hbk
    have HLN : Hid (l.length ≤ 1073741824) := hl
    have HB1 : Hid (Below w.heap.size w W1) := hb1
    clear hbb hl hbk hb1
    go_upto_region 5 with (go_at_call 5; refine Calls.mono (popennone a W1 (HS.out.on HB1.out (Nat.le_refl _))) ?_; rintro e W2 ⟨rfl, hb2⟩)
    have hbA : Below W2.heap.size W2 (W2.alloc (.cells (told 6) 25)) := (Below.refl _ _).alloc (Nat.le_refl _) _
    have oz : (W2.alloc (.cells (told 6) 25)).heap[W2.heap.size]? = some (.cells (told 6) 25 (0, 0)) := obj_new _ _
    obtain ⟨V2, hV2⟩ : ∃ V2, V2 = W2.alloc (.cells (told 6) 25) := ⟨_, rfl⟩
    rw [← hV2] at hbA oz
    have hV2' : W2.alloc (.cells #[.int .i64 6, .string ⟨#[]⟩, .int .i64 0, .int .i64 0, .bool false] 25) = V2 := hV2.symm
    rw [hV2']
    have c9 : V2.cell? ⟨W2.heap.size, 0, none⟩ = some (.int .i64 6) := cell_obj oz
    have HB2 : Hid (Below w.heap.size w V2) := by
      have hx := HB1.out.trans (hb2.mono HB1.out.size)
      exact hx.trans (hbA.mono hx.size)
    have HP2 : Hid (PF V2 v l) := HPF.out.new HB2.out
    have HF1 : Hid (∀ f ∈ l, f.2.size ≤ 1000000000000) := fun f hf => by
      have := (bulk_mem hf).1; have := HBK.out; omega
    obtain ⟨z9, hz9⟩ : ∃ z9, W2.heap.size = z9 := ⟨_, rfl⟩
    rw [hz9] at c9 ⊢
    clear hbA oz hV2 hV2' hb2 hz9 HB1
    go_upto_region 8 with (go_at_call 6; refine Calls.mono (lfiles v l V2 HP2.out HLN.out HF1.out) ?_; rintro e W3 ⟨fv, R, rfl, hR, hRm, hb3⟩)
    have HR3 : Hid (RFs W3 0 fv R) := hR.base
    have HRM : Hid (R.map RF.nc = dd l) := hRm
    have HB3 : Hid (Below w.heap.size w W3) := HB2.out.trans (hb3.mono HB2.out.size)
    have HP3 : Hid (PF W3 v l) := HPF.out.new HB3.out
    clear hR hRm hb3 HB2 HP2 c9
    go_upto_region 9 with (go_at_call 7; refine Calls.mono (newdisk v l W3 HP3.out HLN.out HF1.out) ?_; rintro e W4 ⟨rfl, dv, L, hD, hnf, hsf, hblk, hb4⟩)
    obtain ⟨d, hd⟩ : ∃ d, W3.heap.size = d := ⟨_, rfl⟩
    have hwd : w.heap.size ≤ d := by rw [← hd]; exact HB3.out.size
    have HB4 : Hid (Below w.heap.size w W4) := HB3.out.trans (hb4.mono HB3.out.size)
    have HR4 : Hid (RFs W4 0 fv R) := HR3.out.new hb4
    rw [hd] at hD hblk ⊢
    have HD4 : Hid (Dk W4 d dv L 0 0 0) := hD
    have HNF : Hid (L.map DF.nf = dd l) := hnf
    have HSF : Hid (∀ f ∈ L, f.safe = f.now) := fun f hf => by
      have e : L.map DF.nf = L.map DF.sf := by rw [hnf, hsf]
      have := List.map_inj_left.1 e f hf
      exact (congrArg Prod.snd this).symm
    have HDW : Hid (∀ k, DW d L k → w.heap.size ≤ k) := fun k hk => by
      rcases hk with rfl | ⟨f, hf, rfl⟩
      · exact hwd
      · exact Nat.le_trans hwd (hblk f hf)
    have HTT : Hid (tot (dd l) ≤ 67108864) := Nat.le_trans (Nat.le_trans (dd_tot l) (tot_bulk l)) HBK.out
    have HDL : Hid ((dd l).length ≤ 1073741824) := Nat.le_trans (dd_length l) HLN.out
    have HDN : Hid (((dd l).map Prod.fst).Nodup) := dd_nodup l
    have HDS : Hid (∀ f ∈ dd l, f.1.size ≤ 67108864 ∧ f.2.size ≤ 67108864) := fun f hf => by
      have := bulk_mem (dd_mem hf); have := HBK.out; exact ⟨by omega, by omega⟩
    clear hD hnf hsf hblk hb4 hd HB3 HR3 HP3 HF1 HPF HZ HBK HLN
    have HOP : Hid _ := popen a d dv L 0 0 0 w W4 (HS.out.less (by omega)) HT.out HB4.out HD4.out hwd (by rw [HNF.out]; exact HTT.out) (len_of HNF.out HDL.out) (names_nd (by rw [HNF.out]; exact HDN.out)) (name_size HNF.out HDS.out)
    rw [HNF.out] at HOP
    go_upto_region 10 with (go_at_call 8; refine Calls.mono HOP.out ?_; rintro e W5 ⟨ps, sb, g, m, lv0, S, dv5, L5, c5, s5, x5, rfl, hO, hD5, hk5, q1, q2, q3, q4, q5⟩)
    clear HOP q4
    obtain ⟨log, hlog⟩ : ∃ log, (logOf (dd l)).1 = log := ⟨_, rfl⟩
    obtain ⟨F, hF⟩ : ∃ F, opn (dd l) = F := ⟨_, rfl⟩
    have HLGL : Hid (log.length ≤ 2581111) := by rw [← hlog]; exact fin_bnd HTT.out
    have HFN : Hid ((F.map Prod.fst).Nodup) := by rw [← hF]; exact opn_nodup HDN.out
    have HFL : Hid (F.length ≤ 1073741824) := by rw [← hF]; exact Nat.le_trans (opn_len _) HDL.out
    have HFT : Hid (tot F ≤ 67108864) := by rw [← hF]; exact Nat.le_trans (opn_tot _) HTT.out
    have HFS : Hid (∀ f ∈ F, f.1.size ≤ 67108864 ∧ f.2.size ≤ 67108864) := by
      rw [← hF]; exact fun f hf => by
        obtain ⟨f0, h0, h1, h2⟩ := opn_name hf
        have := HDS.out f0 h0
        rw [h1]; exact ⟨this.1, by omega⟩
    have HFO : Hid (opn F = F ∧ (logOf F).1 = log) := by rw [← hF, ← hlog]; exact ⟨opn_opn HTT.out HDN.out, (log_opn HTT.out HDN.out).1⟩
    have HN5 : Hid (L5.map DF.nf = F) := by rw [← hF]; exact q2
    have HS5 : Hid (L5.map DF.sf = F) := by rw [← hF]; exact q3 HSF.out
    have HDW5 : Hid (∀ k, DW d L5 k → w.heap.size ≤ k) := fun k hk => by
      rcases hk with rfl | ⟨f', hf', rfl⟩
      · exact hwd
      · obtain ⟨f, hf, e⟩ := q1 f' hf'
        rw [e]; exact HDW.out _ (Or.inr ⟨f, hf, rfl⟩)
    have hsb : w.heap.size ≤ sb := Nat.le_trans HB4.out.size q5
    rw [hlog] at hO
    have hbA : Below W5.heap.size W5 (W5.alloc (.cells (told 0) 25)) := (Below.refl _ _).alloc (Nat.le_refl _) _
    have oz : (W5.alloc (.cells (told 0) 25)).heap[W5.heap.size]? = some (.cells (told 0) 25 (0, 0)) := obj_new _ _
    have hx5 := HB4.out.trans (hk5.below HDW.out HB4.out.size)
    obtain ⟨V5, hV5⟩ : ∃ V5, V5 = W5.alloc (.cells (told 0) 25) := ⟨_, rfl⟩
    rw [← hV5] at hbA oz
    have hV5' : W5.alloc (.cells #[.int .i64 0, .string ⟨#[]⟩, .int .i64 0, .int .i64 0, .bool false] 25) = V5 := hV5.symm
    rw [hV5']
    have HB5 : Hid (Below w.heap.size w V5) := hx5.trans (hbA.mono hx5.size)
    have HR5 : Hid (RFs V5 0 fv R) := (HR4.out.tg hk5 (Tg.dw HD4.out)).new hbA
    have HD5 : Hid (Dk V5 d dv5 L5 c5 s5 x5) := hD5.new hbA
    have HO5 : Hid (OSt V5 ps sb d g m lv0 log S) := hO.new hbA
    obtain ⟨z, hz⟩ : ∃ z, W5.heap.size = z := ⟨_, rfl⟩
    have hwz : w.heap.size ≤ z := by rw [← hz]; exact hx5.size
    rw [hz] at oz ⊢
    have HZ5 : Hid (V5.heap[z]? = some (.cells (told 0) 25 (0, 0))) := oz
    have c13 : V5.cell? ⟨z, 0, none⟩ = some (.int .i64 0) := cell_obj oz
    have HLG : Hid (Calls Tryz.prog 9 #[fv] V5 fun e w' => ∃ lv sv, e = .returned (.tuple #[lv, sv]) ∧ w'.ownsRow V5.heap.size 75 4 lv log.length (pvc log) ∧ Below V5.heap.size V5 w') := by
      have := rlog fv R 0 V5 HR5.out (len_of' HRM.out HDL.out) (by rw [HRM.out]; exact HTT.out)
      rw [HRM.out, hlog] at this
      exact this.mono fun e w' ⟨lv, sv, h1, h2, _, h4⟩ => ⟨lv, sv, h1, h2, h4⟩
    have HNR : Hid (∀ f ∈ R, f.name.size ≤ 9223372036854775807) := fun f hf => by
      have := (HDS.out f.nc (by rw [← HRM.out]; exact List.mem_map_of_mem hf)).1
      simp only at this; omega
    have HOF : Hid (opn (R.map RF.nc) = F) := by rw [HRM.out]; exact hF
    clear hF hlog hO hD5 hk5 q1 q2 q3 q5 hbA oz hx5 hV5 hV5' hz HB4 HR4 HD4 HNF HSF HDW
    go_upto_region 13 with (go_at_call 9; refine Calls.mono HLG.out ?_; rintro e W6 ⟨lv, gv, rfl, hlr, hb6⟩)
    have HL6 : Hid (W6.ownsRow 0 75 4 lv log.length (pvc log)) := row_base hlr (Nat.zero_le _)
    have HB6 : Hid (Below w.heap.size w W6) := HB5.out.trans (hb6.mono HB5.out.size)
    have HR6 : Hid (RFs W6 0 fv R) := HR5.out.new hb6
    have HD6 : Hid (Dk W6 d dv5 L5 c5 s5 x5) := HD5.out.new hb6
    have HO6 : Hid (OSt W6 ps sb d g m lv0 log S) := HO5.out.new hb6
    have HZ6 : Hid (W6.heap[z]? = some (.cells (told 0) 25 (0, 0))) := below_obj hb6 (heap_lt HZ5.out) HZ5.out
    clear hlr hb6 HB5 HR5 HD5 HO5 HZ5 c13 HLG
    go_upto_region 14 with (go_at_call 10; refine Calls.mono (ropened fv R 0 W6 HR6.out (len_of' HRM.out HDL.out) (by rw [HRM.out]; exact HTT.out) (by rw [HRM.out]; exact HDN.out) HNR.out) ?_; rintro e W7 ⟨wv, R7, rfl, hw7, hm7, hb7⟩)
    have HM7 : Hid (R7.map RF.nc = F) := by show _ = _; rw [hm7]; exact HOF.out
    have HX7 : Hid (Fx w W7 wv lv R7 log z z) := ⟨HB6.out.trans (hb7.mono HB6.out.size), hw7, row_on' HL6.out hb7 (fun k e => (HL6.out.lt k e).2), below_obj hb7 (heap_lt HZ6.out) HZ6.out, below_obj hb7 (heap_lt HZ6.out) HZ6.out⟩
    have HD7 : Hid (Dk W7 d dv5 L5 c5 s5 x5) := HD6.out.new hb7
    have HO7 : Hid (OSt W7 ps sb d g m lv0 log S) := HO6.out.new hb7
    clear hw7 hm7 hb7 HB6 HR6 HD6 HO6 HZ6 HL6 HNR HOF HRM HTT HDL HDN HDS
    go_upto_region 15 with (go_at_call 11; refine Calls.mono (lnow d dv5 L5 c5 s5 x5 W7 HD7.out (len_of HN5.out HFL.out) (now_size HN5.out HFS.out)) ?_; rintro e W8 ⟨iv, R8, rfl, hi8, hm8, hb8⟩)
    have HI8 : Hid (RFs W8 0 iv R8 ∧ R8.map RF.nc = F) := ⟨hi8.base, by rw [hm8, HN5.out, dd_same HFN.out]⟩
    have HX8 : Hid (Fx w W8 wv lv R7 log z z) := HX7.out.new hb8
    have HD8 : Hid (Dk W8 d dv5 L5 c5 s5 x5) := HD7.out.new hb8
    have HO8 : Hid (OSt W8 ps sb d g m lv0 log S) := HO7.out.new hb8
    clear hi8 hm8 hb8 HX7 HD7 HO7
    go_upto_region 16 with (go_at_call 12; refine Calls.mono (lcertain d dv5 L5 c5 s5 x5 W8 HD8.out (len_of HN5.out HFL.out) (safe_size HS5.out HFS.out)) ?_; rintro e W9 ⟨sv, R9, rfl, hi9, hm9, hb9⟩)
    have HI9 : Hid (RFs W9 0 iv R8 ∧ R8.map RF.nc = F) := ⟨HI8.out.1.new hb9, HI8.out.2⟩
    have HJ9 : Hid (RFs W9 0 sv R9 ∧ R9.map RF.nc = F) := ⟨hi9.base, by rw [hm9, HS5.out, dd_same HFN.out]⟩
    have HX9 : Hid (Fx w W9 wv lv R7 log z z) := HX8.out.new hb9
    have HD9 : Hid (Dk W9 d dv5 L5 c5 s5 x5) := HD8.out.new hb9
    have HO9 : Hid (OSt W9 ps sb d g m lv0 log S) := HO8.out.new hb9
    clear hi9 hm9 hb9 HX8 HD8 HO8 HI8
    go_upto_region 17 with (go_at_call 13; refine Calls.mono (ralike iv wv R8 R7 0 0 W9 HI9.out.1 HX9.out.want (by rw [HI9.out.2, HM7.out]) (names_of' HI9.out.2 HFN.out) (len_of' HI9.out.2 HFL.out)) ?_; rintro e W10 ⟨rfl, hb10⟩)
    have HJ10 : Hid (RFs W10 0 sv R9 ∧ R9.map RF.nc = F) := ⟨HJ9.out.1.new hb10, HJ9.out.2⟩
    have HX10 : Hid (Fx w W10 wv lv R7 log z z) := HX9.out.new hb10
    have HD10 : Hid (Dk W10 d dv5 L5 c5 s5 x5) := HD9.out.new hb10
    have HO10 : Hid (OSt W10 ps sb d g m lv0 log S) := HO9.out.new hb10
    clear hb10 HX9 HD9 HO9 HI9 HJ9
    go_upto_region 18 with (go_at_call 13; refine Calls.mono (ralike sv wv R9 R7 0 0 W10 HJ10.out.1 HX10.out.want (by rw [HJ10.out.2, HM7.out]) (names_of' HJ10.out.2 HFN.out) (len_of' HJ10.out.2 HFL.out)) ?_; rintro e W11 ⟨rfl, hb11⟩)
    have HX11 : Hid (Fx w W11 wv lv R7 log z z) := HX10.out.new hb11
    have HD11 : Hid (Dk W11 d dv5 L5 c5 s5 x5) := HD10.out.new hb11
    have HO11 : Hid (OSt W11 ps sb d g m lv0 log S) := HO10.out.new hb11
    clear hb11 HX10 HD10 HO10 HJ10
    have HPL : Hid ((partL log fr n).length ≤ 1000000000) := by have := partL_len log fr n; have := HLGL.out; show _ ≤ _; omega
    have HGL : Hid (log.length ≤ 1000000000) := by have := HLGL.out; show _ ≤ _; omega
    go_upto_region 19 with (go_at_call 14; refine Calls.mono (lall ps sb d g m lv0 log S fr n W11 HO11.out H12.out.1 H12.out.2 HGL.out HPL.out) ?_; rintro e W12 ⟨gt, rfl, hg12, hk12, hs12⟩)
    have HX12 : Hid (Fx w W12 wv lv R7 log z z) := HX11.out.sb HO11.out.sb hk12 hsb
    have HD12 : Hid (Dk W12 d dv5 L5 c5 s5 x5) := HD11.out.sbk HO11.out.sb hk12
    have HP12 : Hid (W12.heap[ps]? = some (psobj sb d) ∧ W12.heap[sb]? = some (sobj (.pointer (some ⟨g, 0, none⟩)) false)) := ⟨hk12.obj (tag_ne HO11.out.ps HO11.out.sb (by decide)) HO11.out.ps, hs12⟩
    have HG12 : Hid (ER W12 gt (partL log fr n)) := er_of_row hg12
    clear hg12 hk12 hs12 HX11 HD11 HO11
    go_upto_region 20 with (go_at_call 15; refine Calls.mono (lpart 0 lv log fr n W12 HX12.out.lg H12.out.1 H12.out.2 HGL.out) ?_; rintro e w' ⟨pv, rfl, hp, hw⟩; rw [hw] at hp ⊢; clear hw)
    have HP : Hid (ER W12 pv (partL log fr n)) := hp
    clear hp
    go_upto_region 21 with (go_at_call 16; refine Calls.mono (rsame gt pv (partL log fr n) W12 HG12.out HP.out HPL.out) ?_; rintro e W13 ⟨rfl, hb13⟩)
    have HX13 : Hid (Fx w W13 wv lv R7 log z z) := HX12.out.new hb13
    have HD13 : Hid (Dk W13 d dv5 L5 c5 s5 x5) := HD12.out.new hb13
    have HP13 : Hid (W13.heap[ps]? = some (psobj sb d) ∧ W13.heap[sb]? = some (sobj (.pointer (some ⟨g, 0, none⟩)) false)) := ⟨below_obj hb13 (heap_lt HP12.out.1) HP12.out.1, below_obj hb13 (heap_lt HP12.out.2) HP12.out.2⟩
    clear hb13 HX12 HD12 HP12 HG12 HP HPL
    go_upto_region 22 with (go_at_call 17; refine Calls.mono (pclose ps sb d ⟨g, 0, none⟩ W13 HP13.out.1 HP13.out.2) ?_; rintro e W14 ⟨rfl, hk14⟩)
    have hx14 : Fx w W14 wv lv R7 log z z := HX13.out.sb HP13.out.2 hk14 hsb
    have hd14 : Dk W14 d dv5 L5 c5 s5 x5 := HD13.out.sbk HP13.out.2 hk14
    have hbA : Below W14.heap.size W14 (W14.alloc (.cells (told 0) 25)) := (Below.refl _ _).alloc (Nat.le_refl _) _
    have oz : (W14.alloc (.cells (told 0) 25)).heap[W14.heap.size]? = some (.cells (told 0) 25 (0, 0)) := obj_new _ _
    obtain ⟨V14, hV14⟩ : ∃ V14, V14 = W14.alloc (.cells (told 0) 25) := ⟨_, rfl⟩
    rw [← hV14] at hbA oz
    have hV14' : W14.alloc (.cells #[.int .i64 0, .string ⟨#[]⟩, .int .i64 0, .int .i64 0, .bool false] 25) = V14 := hV14.symm
    rw [hV14']
    obtain ⟨z2, hz2⟩ : ∃ z2, W14.heap.size = z2 := ⟨_, rfl⟩
    have hwz2 : w.heap.size ≤ z2 := by rw [← hz2]; exact hx14.bel.size
    rw [hz2] at oz ⊢
    have c25 : V14.cell? ⟨z2, 0, none⟩ = some (.int .i64 0) := cell_obj oz
    have hy := hx14.new hbA
    have HX14 : Hid (Fx w V14 wv lv R7 log z z2) := ⟨hy.bel, hy.want, hy.lg, hy.box, oz⟩
    have HD14 : Hid (Dk V14 d dv5 L5 c5 s5 x5) := hd14.new hbA
    clear hx14 hd14 hbA oz hV14 hV14' hz2 hy hk14 HX13 HD13 HP13
    go_upto_region 25 with (go_at_call 18; refine Calls.mono (dcounts d dv5 c5 s5 x5 V14 HD14.out.obj) ?_; rintro e W15 ⟨rfl, hb15⟩)
    have HX15 : Hid (Fx w W15 wv lv R7 log z z2) := HX14.out.new hb15
    have HD15 : Hid (Dk W15 d dv5 L5 c5 s5 x5) := HD14.out.new hb15
    have HOP : Hid _ := popen a d dv5 L5 c5 s5 x5 w W15 (HS.out.less (by omega)) HT.out HX15.out.bel HD15.out hwd (by rw [HN5.out]; exact HFT.out) (len_of HN5.out HFL.out) (names_nd (by rw [HN5.out]; exact HFN.out)) (name_size HN5.out HFS.out)
    rw [HN5.out, HFO.out.1, HFO.out.2] at HOP
    clear hb15 HX14 HD14 c25
    go_upto_region 26 with (go_at_call 8; refine Calls.mono HOP.out ?_; rintro e W16 ⟨ps2, sb2, g2, m2, lv2, S2, dv6, L6, c6, s6, x6, rfl, hO, hD6, hk6, q1, q2, q3, q4, q5⟩; obtain ⟨ff, k0, k1, k2, k3, k4⟩ := five_obj (hk6.obj (HD15.out.tagnot HX15.out.box (by decide) (by decide)) HX15.out.box); have f0 := ff 0 (by omega); have f1 := ff 1 (by omega); have f2 := ff 2 (by omega); have f3 := ff 3 (by omega); have f4 := ff 4 (by omega); clear ff)
    obtain rfl : x6 = x5 := q4 trivial
    have hx16 : Fx w W16 wv lv R7 log z z2 := HX15.out.dw HD15.out hk6 HDW5.out
    have hV16 : tell5 W16 z = tell5 W16 z := rfl
    obtain ⟨V16, hV⟩ : ∃ V16, V16 = tell5 W16 z := ⟨_, rfl⟩
    rw [← hV] at hV16
    have hV' : ((((W16.setCell ⟨z, 0, none⟩ (.int .i64 0)).setCell ⟨z, 1, none⟩ (.string ⟨#[]⟩)).setCell ⟨z, 2, none⟩ (.int .i64 0)).setCell ⟨z, 3, none⟩ (.int .i64 0)).setCell ⟨z, 4, none⟩ (.bool false) = V16 := hV.symm
    rw [hV']
    have HX16 : Hid (Fx w V16 wv lv R7 log z z2) := by rw [hV]; exact hx16.tell hx16.box hwz
    have HD16 : Hid (Dk V16 d dv6 L6 c6 s6 x6) := by rw [hV]; exact hD6.tell hx16.box
    have HO16 : Hid (OSt V16 ps2 sb2 d g2 m2 lv2 log S2) := by rw [hV]; exact hO.tell hx16.box
    have HN6 : Hid (L6.map DF.nf = F) := q2
    have hsb2 : w.heap.size ≤ sb2 := Nat.le_trans HX15.out.bel.size q5
    have c13 : V16.cell? ⟨z, 0, none⟩ = some (.int .i64 0) := cell_obj HX16.out.box
    clear hx16 hV16 hV hV' hO hD6 hk6 q1 q2 q3 q4 q5 f0 f1 f2 f3 f4 k0 k1 k2 k3 k4 HX15 HD15 HOP HDW5
    have HPA : Hid (Calls Tryz.prog 14 #[.pointer (some ⟨ps2, 0, none⟩), .int .i64 0, .int .i64 0] V16 fun e w' => ∃ lv, e = .returned (.tuple #[lv, .bool true]) ∧ ER w' lv log ∧ Kp (· = sb2) V16 w' ∧ w'.heap[sb2]? = some (sobj (.pointer (some ⟨g2, 0, none⟩)) false)) := by
      have := lall ps2 sb2 d g2 m2 lv2 log S2 0 0 V16 HO16.out (by omega) (by omega) HGL.out (by rw [partL_all]; exact HGL.out)
      rw [partL_all] at this
      exact this.mono fun e w' ⟨lv, h1, h2, h3, h4⟩ => ⟨lv, h1, er_of_row h2, h3, h4⟩
    go_upto_region 29 with (go_at_call 14; refine Calls.mono HPA.out ?_; rintro e W17 ⟨gt2, rfl, hg17, hk17, hs17⟩)
    have HX17 : Hid (Fx w W17 wv lv R7 log z z2) := HX16.out.sb HO16.out.sb hk17 hsb2
    have HD17 : Hid (Dk W17 d dv6 L6 c6 s6 x6) := HD16.out.sbk HO16.out.sb hk17
    have HP17 : Hid (W17.heap[ps2]? = some (psobj sb2 d) ∧ W17.heap[sb2]? = some (sobj (.pointer (some ⟨g2, 0, none⟩)) false)) := ⟨hk17.obj (tag_ne HO16.out.ps HO16.out.sb (by decide)) HO16.out.ps, hs17⟩
    have HG17 : Hid (ER W17 gt2 log) := hg17
    clear hg17 hk17 hs17 HX16 HD16 HO16 c13 HPA
    go_upto_region 30 with (go_at_call 16; refine Calls.mono (rsame gt2 lv log W17 HG17.out (er_of_row HX17.out.lg) HGL.out) ?_; rintro e W18 ⟨rfl, hb18⟩)
    have HX18 : Hid (Fx w W18 wv lv R7 log z z2) := HX17.out.new hb18
    have HD18 : Hid (Dk W18 d dv6 L6 c6 s6 x6) := HD17.out.new hb18
    have HP18 : Hid (W18.heap[ps2]? = some (psobj sb2 d) ∧ W18.heap[sb2]? = some (sobj (.pointer (some ⟨g2, 0, none⟩)) false)) := ⟨below_obj hb18 (heap_lt HP17.out.1) HP17.out.1, below_obj hb18 (heap_lt HP17.out.2) HP17.out.2⟩
    clear hb18 HX17 HD17 HP17 HG17
    go_upto_region 31 with (go_at_call 17; refine Calls.mono (pclose ps2 sb2 d ⟨g2, 0, none⟩ W18 HP18.out.1 HP18.out.2) ?_; rintro e W19 ⟨rfl, hk19⟩; obtain ⟨ff, k0, k1, k2, k3, k4⟩ := five_obj (HX18.out.sb HP18.out.2 hk19 hsb2).box2; have f0 := ff 0 (by omega); have f1 := ff 1 (by omega); have f2 := ff 2 (by omega); have f3 := ff 3 (by omega); have f4 := ff 4 (by omega); clear ff)
    have hx19 : Fx w W19 wv lv R7 log z z2 := HX18.out.sb HP18.out.2 hk19 hsb2
    have hd19 : Dk W19 d dv6 L6 c6 s6 x6 := HD18.out.sbk HP18.out.2 hk19
    obtain ⟨V19, hV⟩ : ∃ V19, V19 = tell5 W19 z2 := ⟨_, rfl⟩
    have hV' : ((((W19.setCell ⟨z2, 0, none⟩ (.int .i64 0)).setCell ⟨z2, 1, none⟩ (.string ⟨#[]⟩)).setCell ⟨z2, 2, none⟩ (.int .i64 0)).setCell ⟨z2, 3, none⟩ (.int .i64 0)).setCell ⟨z2, 4, none⟩ (.bool false) = V19 := hV.symm
    rw [hV']
    have HX19 : Hid (Fx w V19 wv lv R7 log z z2) := by rw [hV]; exact hx19.tell hx19.box2 hwz2
    have HD19 : Hid (Dk V19 d dv6 L6 c6 s6 x6) := by rw [hV]; exact hd19.tell hx19.box2
    clear hx19 hd19 hV hV' hk19 f0 f1 f2 f3 f4 k0 k1 k2 k3 k4 HX18 HD18 HP18
    go_upto_region 32 with (go_at_call 11; refine Calls.mono (lnow d dv6 L6 c6 s6 x6 V19 HD19.out (len_of HN6.out HFL.out) (now_size HN6.out HFS.out)) ?_; rintro e W20 ⟨iv2, R20, rfl, hi20, hm20, hb20⟩)
    have HI20 : Hid (RFs W20 0 iv2 R20 ∧ R20.map RF.nc = F) := ⟨hi20.base, by rw [hm20, HN6.out, dd_same HFN.out]⟩
    have HX20 : Hid (Fx w W20 wv lv R7 log z z2) := HX19.out.new hb20
    have HD20 : Hid (Dk W20 d dv6 L6 c6 s6 x6) := HD19.out.new hb20
    clear hi20 hm20 hb20 HX19 HD19
    go_upto_region 33 with (go_at_call 13; refine Calls.mono (ralike iv2 wv R20 R7 0 0 W20 HI20.out.1 HX20.out.want (by rw [HI20.out.2, HM7.out]) (names_of' HI20.out.2 HFN.out) (len_of' HI20.out.2 HFL.out)) ?_; rintro e W21 ⟨rfl, hb21⟩)
    have HX21 : Hid (Fx w W21 wv lv R7 log z z2) := HX20.out.new hb21
    have HD21 : Hid (Dk W21 d dv6 L6 c6 s6 x6) := HD20.out.new hb21
    clear hb21 HX20 HD20 HI20
    go_upto_region 34 with (go_at_call 18; refine Calls.mono (dcounts d dv6 c6 s6 x6 W21 HD21.out.obj) ?_; rintro e W22 ⟨rfl, hb22⟩)
    have HX22 : Hid (Fx w W22 wv lv R7 log z z2) := HX21.out.new hb22
    have c25 : W22.cell? ⟨z2, 0, none⟩ = some (.int .i64 0) := cell_obj HX22.out.box2
    clear hb22 HX21 HD21
    go_wp2
    go_ret
    exact ⟨rfl, HX22.out.bel⟩
end Go.Proofs.YtploagfjajlloaaGreatDoor
