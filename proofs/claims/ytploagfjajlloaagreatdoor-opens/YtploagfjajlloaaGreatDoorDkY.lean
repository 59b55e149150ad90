import Derived.Test.YtploagfjajlloaaGreatDoorDkX
namespace Go.Proofs.YtploagfjajlloaaGreatDoor
open Go.RowKit Jr

theorem infoT (t : TypeId) (z : Value) (n b : Nat) (h : (Tryz.prog.info? t).map (fun i => (i.zero, i.size, i.bytes)) = some (some z, n, b)) : ∃ i, Tryz.prog.info? t = some i ∧ i.zero = some z ∧ i.size = n ∧ i.bytes = b := by
  obtain ⟨i0, h1, h2, h3, h4⟩ := info_parts h
  exact ⟨i0, h1, h2, h3, h4⟩
theorem cell_news (w : World) (l : List Value) (t : TypeId) : ∀ j u, l[j]? = some u → (w.alloc (.cells l.toArray t)).cell? ((⟨w.heap.size, 0, none⟩ : Addr).add j) = some u := by
  intro j u hj
  rw [Addr.add_lit, cell_obj (obj_new w _)]
  simpa using hj
/-- append(l, x), x of k cells. -/
theorem appN {w : World} {B : Nat} {t e : TypeId} {z : Value} {k b : Nat} (ht : Tryz.prog.underlying t = some (.slice e)) (hi : (Tryz.prog.info? e).map (fun i => (i.zero, i.size, i.bytes)) = some (some z, k, b)) (hz : z.cells.size = k) (hk : 0 < k) {v : Value} {n : Nat} {xs : List Value} (h : w.ownsRow B e k v n xs) (l : List Value) (hl : l.length = k) (hx : ∀ x ∈ l, x.oneCell' = true) (hn : (n + 1) * b ≤ 140737488355328) (hn2 : n + 1 ≤ maxLen) (hB : B ≤ w.heap.size) :
    ∃ v' w', Hid (∀ ty, (Builtin.append_ #[t, t] ty #[v, .slice (some ⟨w.heap.size, 0, none⟩) 1 1]).run Tryz.prog (w.alloc (.cells l.toArray e)) = .ok v' w') ∧ w'.ownsRow B e k v' (n + 1) (xs ++ l) ∧ w.grownBy w' v.ownBlock ∧ (v'.ownBlock = v.ownBlock ∨ ∃ q, w.heap.size < q ∧ v'.ownBlock = some q) ∧ ∃ p cap, v' = .slice (some p) (n + 1) cap := by
  obtain ⟨i0, h1, h2, h3, h4⟩ := infoT e z k b hi
  have hall : ∃ v' w', ∀ ty, (Builtin.append_ #[t, t] ty #[v, .slice (some ⟨w.heap.size, 0, none⟩) 1 1]).run Tryz.prog (w.alloc (.cells l.toArray e)) = .ok v' w' ∧ w'.ownsRow B e k v' (n + 1) (xs ++ l) ∧ (w.alloc (.cells l.toArray e)).grownBy w' v.ownBlock ∧ (v'.ownBlock = v.ownBlock ∨ v'.ownBlock = some (w.alloc (.cells l.toArray e)).heap.size) := by
    obtain ⟨v', w', r1, r2, r3, _, r5⟩ := run_append_own_at (P := Tryz.prog) (w.alloc (.cells l.toArray e)) B t 0 e i0 z k b ht h1 h2 h3 h4 hz hk v n xs (h.alloc _) ⟨w.heap.size, 0, none⟩ 1 1 l (by rw [hl, Nat.one_mul]) (cell_news _ _ _) hx hn2 hn (by simp; omega)
    have e : ∀ ty, (Builtin.append_ #[t, t] ty #[v, .slice (some ⟨w.heap.size, 0, none⟩) 1 1]) = (Builtin.append_ #[t, t] 0 #[v, .slice (some ⟨w.heap.size, 0, none⟩) 1 1]) := fun _ => rfl
    exact ⟨v', w', fun ty => ⟨by rw [e]; exact r1, r2, r3, r5⟩⟩
  obtain ⟨v', w', hr⟩ := hall
  obtain ⟨-, r2, r3, r5⟩ := hr 0
  refine ⟨v', w', fun ty => (hr ty).1, r2, (World.grownBy_alloc w _ _).trans r3, ?_, ?_⟩
  · rcases r5 with h | h
    · exact Or.inl h
    · exact Or.inr ⟨_, by simp, h⟩
  · obtain ⟨p, cap, e, _, _, h0⟩ := row_shape r2
    obtain ⟨g, hp, _⟩ := h0 (by omega)
    exact ⟨_, cap, by rw [e, hp]⟩
/-- What a row's growth leaves below its base. -/
theorem grown_below {w w' : World} {B : Nat} {e : TypeId} {k : Nat} {v : Value} {n : Nat} {xs : List Value} (h : w.ownsRow B e k v n xs) (hg : w.grownBy w' v.ownBlock) (hB : B ≤ w.heap.size) : Below B w w' :=
  ⟨hg.os, hg.tape, hg.output, hg.size, fun q hq => hg.block q (by omega) fun e => by have := (h.lt q e.symm).1; omega⟩

theorem row_base {w : World} {B B' : Nat} {e : TypeId} {k : Nat} {v : Value} {n : Nat} {xs : List Value} (h : w.ownsRow B e k v n xs) (hB : B' ≤ B) : w.ownsRow B' e k v n xs := by
  refine ⟨h.1, ?_⟩
  rcases h.2 with hn | ⟨g, cap, cur, rfl, hb, r⟩
  · exact .inl hn
  · exact .inr ⟨g, cap, cur, rfl, Nat.le_trans hB hb, r⟩
theorem infoS : (Tryz.prog.info? 9).map (fun i => (i.zero, i.size, i.bytes)) = some (some (.string ⟨#[]⟩), 1, 16) := by kernel_rfl
theorem infoPF : (Tryz.prog.info? 66).map (fun i => (i.zero, i.size, i.bytes)) = some (some (.pointer none), 1, 8) := by kernel_rfl
theorem infoF : (Tryz.prog.info? 51).map (fun i => (i.zero, i.size, i.bytes)) = some (some (.agg #[.string ⟨#[]⟩, .string ⟨#[]⟩]), 2, 32) := by kernel_rfl
theorem infoRF : (Tryz.prog.info? 61).map (fun i => (i.zero, i.size, i.bytes)) = some (some (.agg #[.string ⟨#[]⟩, .slice none 0 0]), 2, 40) := by kernel_rfl

set_option maxRecDepth 10000 in
set_option maxHeartbeats 2000000 in
theorem dnames (d : Nat) (v : Value) (L : List DF) (c s x : Int) (w : World) (h : Dk w d v L c s x) (hL : L.length ≤ 1073741824) :
    Calls Tryz.prog 209 #[.pointer (some ⟨d, 0, none⟩)] w fun e w' => ∃ v', e = .returned (.tuple #[v', .nilIface]) ∧ w'.ownsRow w.heap.size 9 1 v' L.length (L.reverse.map fun f => .string f.name) ∧ Dk w' d v L (wrap64 (c + 1)) s x ∧ Kp (· = d) w w' := by
  have HO := h.obj
  have HH : Hid (Dk w d v L c s x) := h
  clear h
  go_enter Tryz.func209, Tryz.ntmps209
  go_upto_region 4 with (go_at_call 215; refine (denter d v c s x w HO).mono ?_; rintro e W1 ⟨rfl, hh1, hk1⟩)
  have h1 := HH.out.entered hk1 hh1
  have H1 : Hid (Dk W1 d v L (wrap64 (c + 1)) s x) := h1
  have K1 : Hid (Kp (· = d) w W1) := hk1
  have hz1 : w.heap.size ≤ W1.heap.size := hk1.size
  obtain ⟨p, cap, rfl, hcap, hmax, hp⟩ := row_shape h1.row
  obtain ⟨n, hn⟩ : ∃ n, L.length = n := ⟨_, rfl⟩
  rw [hn] at hcap hp hL
  unfold maxLen at hmax
  have c0 : W1.cell? ⟨d, 0, none⟩ = some (.slice p n cap) := by rw [cell_obj h1.obj, ← hn]; rfl
  have HN : Hid (L.length = n) := hn
  have HP : Hid (0 < n → ∃ g, p = some ⟨g, 0, none⟩ ∧ g < W1.heap.size ∧ ∀ j, j < n → W1.cell? ⟨g, j, none⟩ = (L.map fptr)[j]?) := fun h0 => by
    obtain ⟨g, e, _, hg2, hg⟩ := hp h0
    exact ⟨g, e, hg2, fun j hj => hg j (by omega)⟩
  have hdl : d < W1.heap.size := heap_lt h1.obj
  clear hp hn h1 hh1 hk1 HH HO
  go_wp2
  go_loopw [4, 5] (fun o i wr => ∃ k : Nat, k ≤ n ∧ i = .int .i64 ((n : Int) - 1 - k) ∧ Hid (wr.ownsRow W1.heap.size 9 1 o k ((L.reverse.take k).map fun f => .string f.name)) ∧ Below W1.heap.size W1 wr) (fun _ i _ => (intOf i + 1).toNat)
  case atStart => exact ⟨0, Nat.zero_le _, by simp, by show World.ownsRow _ _ _ _ _ _ _; simpa using World.ownsRow_nil W1 _ _ _, Below.refl _ _⟩
  case round =>
    obtain ⟨k, hk, rfl, ho, hbl⟩ := hrel
    by_cases hlt : k < n
    · obtain ⟨g, rfl, hg2, hg⟩ := HP.out (by omega)
      obtain ⟨q, hq⟩ : ∃ q, q = n - 1 - k := ⟨_, rfl⟩
      have hqi : (n : Int) - 1 - k = q := by omega
      have hqn : q < n := by omega
      have hLq : q < L.length := by rw [HN.out]; exact hqn
      obtain ⟨f, hf⟩ : ∃ f, L[q]? = some f := ⟨_, List.getElem?_eq_getElem hLq⟩
      have hff := H1.out.files f (List.mem_of_getElem? hf)
      have e0 : wr.cell? ⟨d, 0, none⟩ = some (.slice (some ⟨g, 0, none⟩) n cap) := (hbl.cell (p := ⟨d, 0, none⟩) hdl).trans c0
      have e1 : wr.cell? ⟨g, q, none⟩ = some (.pointer (some ⟨f.blk, 0, none⟩)) := by rw [hbl.cell (p := ⟨g, q, none⟩) hg2, hg q hqn]; simp [hf]
      have e2 : wr.cell? ⟨f.blk, 0, none⟩ = some (.string f.name) := (hbl.cell (p := ⟨f.blk, 0, none⟩) (heap_lt hff.obj)).trans (cell_obj hff.obj)
      obtain ⟨v2, w2, HR, ho2, hg2', -, -⟩ := appN Tryz.underlying91 infoS rfl (by decide) ho.out [.string f.name] rfl (fun u hu => by simp at hu; subst hu; rfl) (by omega) (by unfold maxLen; omega) hbl.size
      have HB2 : Hid (Below W1.heap.size W1 w2) := hbl.trans (grown_below ho.out hg2' hbl.size)
      have HO2 : Hid (w2.ownsRow W1.heap.size 9 1 v2 (k + 1) ((L.reverse.take (k + 1)).map fun f => .string f.name)) := by
        have e : L.reverse[k]? = some f := by rw [List.getElem?_reverse (by rw [HN.out]; omega), HN.out, ← hq]; exact hf
        have e2 : L.reverse.take (k + 1) = L.reverse.take k ++ [f] := by rw [List.take_add_one, e]; rfl
        rw [e2, List.map_append]; exact ho2
      have HQ : Hid (q = n - 1 - k) := hq
      rw [hqi]
      clear ho2 hg2' hff hf hg hg2 hbl ho hk hq hqi
      go_wp2_with (at_builtin; refine wpList_app rfl _ _ _ _ rfl rfl rfl HR.out ?_)
      go_roundw
      case rel => exact ⟨k + 1, by omega, by have := HQ.out; congr 1; omega, HO2, HB2.out⟩
      case measure => have := HQ.out; simp [intOf]
    · obtain rfl : k = n := by omega
      have e1 : ((k : Int) - 1 - k) = -1 := by omega
      rw [e1]
      have HB : Hid (Below W1.heap.size W1 wr) := hbl
      clear hbl
      go_wp2
      go_ret2
      refine ⟨_, rfl, ?_, H1.out.new HB.out, K1.out.trans (Kp.of_new HB.out)⟩
      have := ho.out
      rw [List.take_of_length_le (by rw [List.length_reverse, HN.out]; exact Nat.le_refl _)] at this
      rw [HN.out]
      exact row_base this hz1
end Go.Proofs.YtploagfjajlloaaGreatDoor
namespace Go.Proofs.YtploagfjajlloaaGreatDoor
open Go.RowKit Jr

theorem Dk.pack {W : World} {d : Nat} {v : Value} {L : List DF} {c s x : Int} (h : Dk W d v L c s x) : ∃ p cap, v = .slice p L.length cap ∧ L.length ≤ cap ∧ cap ≤ 9223372036854775807 ∧ W.cell? ⟨d, 0, none⟩ = some (.slice p L.length cap) ∧
    Hid (0 < L.length → ∃ g, p = some ⟨g, 0, none⟩ ∧ g < W.heap.size ∧ ∀ j, j < L.length → W.cell? ⟨g, j, none⟩ = (L.map fptr)[j]?) := by
  obtain ⟨p, cap, hv, hcap, hmax, hp⟩ := row_shape h.row
  unfold maxLen at hmax
  refine ⟨p, cap, hv, hcap, by omega, by rw [cell_obj h.obj, hv]; rfl, fun h0 => ?_⟩
  obtain ⟨g, e, _, hg2, hg⟩ := hp h0
  exact ⟨g, e, hg2, fun j hj => hg j (by omega)⟩
theorem take_filter {α : Type} (P : α → Bool) (L : List α) (k : Nat) (f : α) (h : L[k]? = some f) : (L.take (k + 1)).filter P = (L.take k).filter P ++ (if P f then [f] else []) := by
  rw [List.take_add_one, h]
  simp [List.filter_cons]

set_option maxRecDepth 10000 in
set_option maxHeartbeats 2000000 in
theorem dremove1 (p1 p2 d : Nat) (v : Value) (L : List DF) (c s x : Int) (nm : ByteArray) (w : World) (h : Dk w d v L c s x) (hL : L.length ≤ 1073741824)
    (o1 : w.heap[p1]? = some (.cells #[.pointer (some ⟨d, 0, none⟩)] 30 (0, 0))) (o2 : w.heap[p2]? = some (.cells #[.string nm] 9 (0, 0))) :
    Calls Tryz.prog 216 #[.pointer (some ⟨p1, 0, none⟩), .pointer (some ⟨p2, 0, none⟩)] w fun e w' => e = .returned (.tuple #[]) ∧ ∃ v', Dk w' d v' (L.filter fun f => !decide (f.name = nm)) c s (wrap64 (x + 1)) ∧ Kp (· = d) w w' := by
  have c1 : w.cell? ⟨p1, 0, none⟩ = some (.pointer (some ⟨d, 0, none⟩)) := cell_obj o1
  have c7 : w.cell? ⟨d, 7, none⟩ = some (.int .i64 x) := cell_obj h.obj
  have f7 : w.frozen? ⟨d, 7, none⟩ = false := frozen_obj h.obj
  have k1 : Kp (· = d) w (w.setCell ⟨d, 7, none⟩ (.int .i64 (wrap64 (x + 1)))) := (Kp.refl (· = d) w).setCell (a := ⟨d, 7, none⟩) (fun _ => rfl) _
  have h1 : Dk (w.setCell ⟨d, 7, none⟩ (.int .i64 (wrap64 (x + 1)))) d v L c s (wrap64 (x + 1)) := h.touch k1 (by show (w.setCell ⟨d, 7, none⟩ _).heap[d]? = _; rw [obj_setCell_same h.obj]; rfl)
  have e1 : (w.setCell ⟨d, 7, none⟩ (.int .i64 (wrap64 (x + 1)))).cell? ⟨p1, 0, none⟩ = some (.pointer (some ⟨d, 0, none⟩)) := k1.cell (tag_ne o1 h.obj (by decide)) c1
  have e2 : (w.setCell ⟨d, 7, none⟩ (.int .i64 (wrap64 (x + 1)))).cell? ⟨p2, 0, none⟩ = some (.string nm) := k1.cell (tag_ne o2 h.obj (by decide)) (cell_obj o2)
  go_enter Tryz.func216, Tryz.ntmps216
  go_upto_region 1 with fail
  obtain ⟨W1, hW1⟩ : ∃ W1, W1 = w.setCell ⟨d, 7, none⟩ (.int .i64 (wrap64 (x + 1))) := ⟨_, rfl⟩
  rw [← hW1] at k1 h1 e1 e2 ⊢
  have H1 : Hid (Dk W1 d v L c s (wrap64 (x + 1))) := h1
  have K1 : Hid (Kp (· = d) w W1) := k1
  obtain ⟨p, cap, rfl, hcap, hmax, c0, HP⟩ := h1.pack
  obtain ⟨n, hn⟩ : ∃ n, L.length = n := ⟨_, rfl⟩
  rw [hn] at hcap HP hL c0
  have HN : Hid (L.length = n) := hn
  have hdl : d < W1.heap.size := heap_lt h1.obj
  have l1 := cell_lt e1
  have l2 := cell_lt e2
  simp only at l1 l2
  clear hn h1 k1 h c1 c7 f7 hW1 o1 o2
  go_upto_region 3 with fail
  go_loopw [2, 17] (fun o i wr => ∃ (k : Nat) (q : Option Addr) (qc : Nat), k ≤ n ∧ i = .int .i64 k ∧ o = .slice q ((L.take k).filter fun f => !decide (f.name = nm)).length qc ∧ Hid (wr.ownsRow W1.heap.size 66 1 (.slice q ((L.take k).filter fun f => !decide (f.name = nm)).length qc) ((L.take k).filter fun f => !decide (f.name = nm)).length (((L.take k).filter fun f => !decide (f.name = nm)).map fptr)) ∧ Below W1.heap.size W1 wr) (fun _ i _ => n - (intOf i).toNat)
  case atStart => exact ⟨0, none, 0, Nat.zero_le _, by simp, by simp, by show World.ownsRow _ _ _ _ _ _ _; simpa using World.ownsRow_nil W1 _ _ _, Below.refl _ _⟩
  case round =>
    obtain ⟨k, q, qc, hk, rfl, rfl, ho, hbl⟩ := hrel
    by_cases hlt : k < n
    · obtain ⟨g, rfl, hg2, hg⟩ := HP.out (by omega)
      have hLq : k < L.length := by rw [HN.out]; exact hlt
      obtain ⟨f, hf⟩ : ∃ f, L[k]? = some f := ⟨_, List.getElem?_eq_getElem hLq⟩
      have hff := H1.out.files f (List.mem_of_getElem? hf)
      have g1 : wr.cell? ⟨g, k, none⟩ = some (.pointer (some ⟨f.blk, 0, none⟩)) := by rw [hbl.cell (p := ⟨g, k, none⟩) hg2, hg k (by omega)]; simp [hf]
      have g2 : wr.cell? ⟨f.blk, 0, none⟩ = some (.string f.name) := (hbl.cell (p := ⟨f.blk, 0, none⟩) (heap_lt hff.obj)).trans (cell_obj hff.obj)
      have g3 : wr.cell? ⟨p2, 0, none⟩ = some (.string nm) := (hbl.cell (p := ⟨p2, 0, none⟩) l2).trans e2
      have hlen : ((L.take k).filter fun f => !decide (f.name = nm)).length ≤ k := Nat.le_trans (List.length_filter_le _ _) (by simp; omega)
      have htf := take_filter (fun f : DF => !decide (f.name = nm)) L k f hf
      by_cases he : f.name = nm
      · have hx := str_eq nm
        rw [if_neg (by simp [he]), List.append_nil] at htf
        rw [he] at g2
        have HO : Hid (wr.ownsRow W1.heap.size 66 1 (.slice q ((L.take (k + 1)).filter fun f => !decide (f.name = nm)).length qc) ((L.take (k + 1)).filter fun f => !decide (f.name = nm)).length (((L.take (k + 1)).filter fun f => !decide (f.name = nm)).map fptr)) := by show World.ownsRow _ _ _ _ _ _ _; rw [htf]; exact ho.out
        have HT : Hid (((L.take (k + 1)).filter fun f => !decide (f.name = nm)).length = ((L.take k).filter fun f => !decide (f.name = nm)).length) := by show _ = _; rw [htf]
        have HB : Hid (Below W1.heap.size W1 wr) := hbl
        clear hff hf hg hg2 hbl ho hk htf hlen
        go_wp2
        go_region
        go_wp2
        go_roundw
        case rel => exact ⟨k + 1, q, qc, by omega, by go_num, by rw [HT.out], HO, HB.out.drew⟩
        case measure => simp [intOf]; omega
      · have hq := str_ne he
        rw [if_pos (by simp [he])] at htf
        obtain ⟨v2, w2, HR, ho2, hg2', -, q2, qc2, hv2⟩ := appN (w := wr.drew) Tryz.underlying62 infoPF rfl (by decide) ho.out [fptr f] rfl (fun u hu => by simp at hu; subst hu; rfl) (by omega) (by unfold maxLen; omega) hbl.size
        subst hv2
        have HB : Hid (Below W1.heap.size W1 w2) := hbl.drew.trans (grown_below (w := wr.drew) ho.out hg2' hbl.size)
        have HT : Hid (((L.take (k + 1)).filter fun f => !decide (f.name = nm)).length = ((L.take k).filter fun f => !decide (f.name = nm)).length + 1) := by show _ = _; rw [htf, List.length_append]; rfl
        have HO : Hid (w2.ownsRow W1.heap.size 66 1 (.slice (some q2) ((L.take (k + 1)).filter fun f => !decide (f.name = nm)).length qc2) ((L.take (k + 1)).filter fun f => !decide (f.name = nm)).length (((L.take (k + 1)).filter fun f => !decide (f.name = nm)).map fptr)) := by
          show World.ownsRow _ _ _ _ _ _ _; rw [HT.out, htf, List.map_append]; exact ho2
        have HR' : Hid (∀ ty, (Builtin.append_ #[62, 62] ty #[.slice q ((L.take k).filter fun f => !decide (f.name = nm)).length qc, .slice (some ⟨wr.heap.size, 0, none⟩) 1 1]).run Tryz.prog (wr.alloc (.cells #[fptr f] 66)).drew = .ok (.slice (some q2) (((L.take k).filter fun f => !decide (f.name = nm)).length + 1) qc2) w2) := HR.out
        clear hff hf hg hg2 hbl ho hk htf hlen ho2 hg2' HR
        go_wp2
        go_region
        go_wp2_with (at_builtin; refine wpList_app rfl _ _ _ _ rfl rfl rfl HR'.out ?_)
        go_roundw
        case rel => exact ⟨k + 1, some q2, qc2, by omega, by go_num, by rw [HT.out], HO, HB.out⟩
        case measure => simp [intOf]; omega
    · obtain rfl : k = n := by omega
      have hk' : L.take k = L := List.take_of_length_le (by rw [HN.out]; exact Nat.le_refl _)
      rw [hk'] at ho ⊢
      obtain ⟨M, hM⟩ : ∃ M, (L.filter fun f => !decide (f.name = nm)).length = M := ⟨_, rfl⟩
      rw [hM] at ho ⊢
      have z1 : wr.cell? ⟨p1, 0, none⟩ = some (.pointer (some ⟨d, 0, none⟩)) := (hbl.cell (p := ⟨p1, 0, none⟩) l1).trans e1
      have H2 := H1.out.new hbl
      have z2 : wr.cell? ⟨d, 0, none⟩ = some (.slice p L.length cap) := cell_obj H2.obj
      have z3 : wr.frozen? ⟨d, 0, none⟩ = false := frozen_obj H2.obj
      have HK2 : Hid (Kp (· = d) wr (wr.setCell ⟨d, 0, none⟩ (.slice q M qc))) := (Kp.refl (· = d) wr).setCell (a := ⟨d, 0, none⟩) (fun _ => rfl) _
      have HD : Hid (Dk (wr.setCell ⟨d, 0, none⟩ (.slice q M qc)) d (.slice q M qc) (L.filter fun f => !decide (f.name = nm)) c s (wrap64 (x + 1))) := by
        refine ⟨?_, ?_, fun f hf => ?_, ?_⟩
        · show (wr.setCell ⟨d, 0, none⟩ _).heap[d]? = _; rw [obj_setCell_same H2.obj]; rfl
        · rw [hM]
          exact row_on (row_base ho.out (Nat.zero_le _)) HK2.out (fun k e => by obtain ⟨C, hC⟩ := row_tag ho.out e; exact tag_ne hC H2.obj (by decide))
        · have hfi := H2.files f (List.mem_filter.1 hf).1
          obtain ⟨C1, r1, t1⟩ := hfi.sb.tag
          obtain ⟨C2, r2, t2⟩ := hfi.nb.tag
          exact hfi.of_same (HK2.out.block _ (heap_lt hfi.obj) (tag_ne hfi.obj H2.obj (by decide))) (HK2.out.block _ (heap_lt t1) (tag_ne t1 H2.obj (by decide))) (HK2.out.block _ (heap_lt t2) (tag_ne t2 H2.obj (by decide)))
        · exact H2.nd.sublist (List.Sublist.map _ List.filter_sublist)
      have HB : Hid (Below W1.heap.size W1 wr) := hbl
      clear hbl ho H2
      go_wp2
      go_end0
      exact ⟨rfl, _, HD.out, (K1.out.trans (Kp.of_new HB.out)).trans HK2.out⟩
end Go.Proofs.YtploagfjajlloaaGreatDoor
namespace Go.Proofs.YtploagfjajlloaaGreatDoor
open Go.RowKit Jr

theorem mkf : ∀ (fn : Fn) (first cap : Array Value) (w : World), (Instr.makeFunc fn first cap).run Tryz.prog w = .ok (.func fn first cap) w := fun _ _ _ _ => rfl

set_option maxRecDepth 10000 in
set_option maxHeartbeats 2000000 in
theorem dsync (d : Nat) (v : Value) (L : List DF) (c s x : Int) (nm : ByteArray) (i : Nat) (f : DF) (w : World) (h : Dk w d v L c s x) (hat : At L nm i f) (hsz : f.now.size ≤ 1000000000000) :
    Calls Tryz.prog 212 #[.pointer (some ⟨d, 0, none⟩), .string nm] w fun e w' => e = .returned .nilIface ∧ ∃ v' g', Dk w' d v (L.set i { f with safe := f.now, sv := v', sg := g' }) (wrap64 (c + 1)) (wrap64 (s + 1)) x ∧ Kp (fun k => k = d ∨ k = f.blk) w w' := by
  have hmf := mkf
  have hb1 : Below w.heap.size w ((w.alloc (.cells #[.pointer (some ⟨d, 0, none⟩)] 30)).alloc (.cells #[.string nm] 9)) := ((Below.refl _ _).alloc (Nat.le_refl _) _).alloc (by simp) _
  have h1 := h.new hb1
  have o1 : ((w.alloc (.cells #[.pointer (some ⟨d, 0, none⟩)] 30)).alloc (.cells #[.string nm] 9)).heap[w.heap.size]? = some (.cells #[.pointer (some ⟨d, 0, none⟩)] 30 (0, 0)) := obj_alloc (obj_new _ _)
  have o2 : ((w.alloc (.cells #[.pointer (some ⟨d, 0, none⟩)] 30)).alloc (.cells #[.string nm] 9)).heap[w.heap.size + 1]? = some (.cells #[.string nm] 9 (0, 0)) := by
    have := obj_new (w.alloc (.cells #[.pointer (some ⟨d, 0, none⟩)] 30)) (.cells #[.string nm] 9)
    simpa using this
  have HC : Hid (Calls Tryz.prog 213 #[.pointer (some ⟨d, 0, none⟩), .func (.func 217) #[] #[.pointer (some ⟨w.heap.size, 0, none⟩), .pointer (some ⟨w.heap.size + 1, 0, none⟩)]] ((w.alloc (.cells #[.pointer (some ⟨d, 0, none⟩)] 30)).alloc (.cells #[.string nm] 9)) fun e w' => e = .returned .nilIface ∧ ∃ v' g', Dk w' d v (L.set i { f with safe := f.now, sv := v', sg := g' }) (wrap64 (c + 1)) (wrap64 (s + 1)) x ∧ Kp (fun k => k = d ∨ k = f.blk) w w') :=
    dhalf_sync d v L c s x _ _ _ _ h1 fun W hW kW => (dsync1 _ _ d v L _ s x nm i f W hW hat hsz (kW.obj (tag_ne o1 h1.obj (by decide)) o1) (kW.obj (tag_ne o2 h1.obj (by decide)) o2)).mono fun e w' ⟨he, v', g', hd, hk⟩ => ⟨he, v', g', hd, ((Kp.of_new hb1).trans (kW.mono fun k _ e => Or.inl e)).trans hk⟩
  clear h hat h1 hb1 o1 o2
  go_enter Tryz.func212, Tryz.ntmps212
  go_wp2_with (go_at_call 213; refine Calls.mono HC.out ?_; rintro e W2 ⟨rfl, hR⟩)
  go_ret
  exact ⟨rfl, hR⟩

set_option maxRecDepth 10000 in
set_option maxHeartbeats 2000000 in
theorem dremove (d : Nat) (v : Value) (L : List DF) (c s x : Int) (nm : ByteArray) (w : World) (h : Dk w d v L c s x) (hL : L.length ≤ 1073741824) :
    Calls Tryz.prog 211 #[.pointer (some ⟨d, 0, none⟩), .string nm] w fun e w' => e = .returned .nilIface ∧ ∃ v', Dk w' d v' (L.filter fun f => !decide (f.name = nm)) (wrap64 (c + 1)) s (wrap64 (x + 1)) ∧ Kp (· = d) w w' := by
  have hmf := mkf
  have hb1 : Below w.heap.size w ((w.alloc (.cells #[.pointer (some ⟨d, 0, none⟩)] 30)).alloc (.cells #[.string nm] 9)) := ((Below.refl _ _).alloc (Nat.le_refl _) _).alloc (by simp) _
  have h1 := h.new hb1
  have o1 : ((w.alloc (.cells #[.pointer (some ⟨d, 0, none⟩)] 30)).alloc (.cells #[.string nm] 9)).heap[w.heap.size]? = some (.cells #[.pointer (some ⟨d, 0, none⟩)] 30 (0, 0)) := obj_alloc (obj_new _ _)
  have o2 : ((w.alloc (.cells #[.pointer (some ⟨d, 0, none⟩)] 30)).alloc (.cells #[.string nm] 9)).heap[w.heap.size + 1]? = some (.cells #[.string nm] 9 (0, 0)) := by
    have := obj_new (w.alloc (.cells #[.pointer (some ⟨d, 0, none⟩)] 30)) (.cells #[.string nm] 9)
    simpa using this
  have HC : Hid (Calls Tryz.prog 213 #[.pointer (some ⟨d, 0, none⟩), .func (.func 216) #[] #[.pointer (some ⟨w.heap.size, 0, none⟩), .pointer (some ⟨w.heap.size + 1, 0, none⟩)]] ((w.alloc (.cells #[.pointer (some ⟨d, 0, none⟩)] 30)).alloc (.cells #[.string nm] 9)) fun e w' => e = .returned .nilIface ∧ ∃ v', Dk w' d v' (L.filter fun f => !decide (f.name = nm)) (wrap64 (c + 1)) s (wrap64 (x + 1)) ∧ Kp (· = d) w w') :=
    dhalf_remove d v L c s x _ _ _ _ h1 fun W hW kW => (dremove1 _ _ d v L _ s x nm W hW hL (kW.obj (tag_ne o1 h1.obj (by decide)) o1) (kW.obj (tag_ne o2 h1.obj (by decide)) o2)).mono fun e w' ⟨he, v', hd, hk⟩ => ⟨he, v', hd, ((Kp.of_new hb1).trans kW).trans hk⟩
  clear h h1 hb1 o1 o2
  go_enter Tryz.func211, Tryz.ntmps211
  go_wp2_with (go_at_call 213; refine Calls.mono HC.out ?_; rintro e W2 ⟨rfl, hR⟩)
  go_ret
  exact ⟨rfl, hR⟩

set_option maxRecDepth 10000 in
set_option maxHeartbeats 2000000 in
theorem dcut (d : Nat) (v : Value) (L : List DF) (c s x : Int) (nm : ByteArray) (i : Nat) (f : DF) (n : Nat) (w : World) (h : Dk w d v L c s x) (hat : At L nm i f) (hsz : f.now.size ≤ 1000000000000) (hn : n ≤ f.now.size) (hn1 : 0 < n) :
    Calls Tryz.prog 207 #[.pointer (some ⟨d, 0, none⟩), .string nm, .int .i64 n] w fun e w' => e = .returned .nilIface ∧ ∃ v' g', Dk w' d v (L.set i { f with now := f.now.extract 0 n, nv := v', ng := g' }) (wrap64 (c + 1)) s (wrap64 (x + 1)) ∧ Kp (fun k => k = d ∨ k = f.blk) w w' := by
  have hmf := mkf
  have hb1 : Below w.heap.size w (((w.alloc (.cells #[.pointer (some ⟨d, 0, none⟩)] 30)).alloc (.cells #[.string nm] 9)).alloc (.cells #[.int .i64 n] 3)) := (((Below.refl _ _).alloc (Nat.le_refl _) _).alloc (by simp) _).alloc (by simp; omega) _
  have h1 := h.new hb1
  have o1 : (((w.alloc (.cells #[.pointer (some ⟨d, 0, none⟩)] 30)).alloc (.cells #[.string nm] 9)).alloc (.cells #[.int .i64 n] 3)).heap[w.heap.size]? = some (.cells #[.pointer (some ⟨d, 0, none⟩)] 30 (0, 0)) := obj_alloc (obj_alloc (obj_new _ _))
  have o2 : (((w.alloc (.cells #[.pointer (some ⟨d, 0, none⟩)] 30)).alloc (.cells #[.string nm] 9)).alloc (.cells #[.int .i64 n] 3)).heap[w.heap.size + 1]? = some (.cells #[.string nm] 9 (0, 0)) := by
    have := obj_new (w.alloc (.cells #[.pointer (some ⟨d, 0, none⟩)] 30)) (.cells #[.string nm] 9)
    exact obj_alloc (by simpa using this)
  have o3 : (((w.alloc (.cells #[.pointer (some ⟨d, 0, none⟩)] 30)).alloc (.cells #[.string nm] 9)).alloc (.cells #[.int .i64 n] 3)).heap[w.heap.size + 2]? = some (.cells #[.int .i64 n] 3 (0, 0)) := by
    have := obj_new ((w.alloc (.cells #[.pointer (some ⟨d, 0, none⟩)] 30)).alloc (.cells #[.string nm] 9)) (.cells #[.int .i64 n] 3)
    simpa using this
  have HC : Hid (Calls Tryz.prog 213 #[.pointer (some ⟨d, 0, none⟩), .func (.func 214) #[] #[.pointer (some ⟨w.heap.size, 0, none⟩), .pointer (some ⟨w.heap.size + 1, 0, none⟩), .pointer (some ⟨w.heap.size + 2, 0, none⟩)]] (((w.alloc (.cells #[.pointer (some ⟨d, 0, none⟩)] 30)).alloc (.cells #[.string nm] 9)).alloc (.cells #[.int .i64 n] 3)) fun e w' => e = .returned .nilIface ∧ ∃ v' g', Dk w' d v (L.set i { f with now := f.now.extract 0 n, nv := v', ng := g' }) (wrap64 (c + 1)) s (wrap64 (x + 1)) ∧ Kp (fun k => k = d ∨ k = f.blk) w w') :=
    dhalf_cut d v L c s x _ _ _ _ _ h1 fun W hW kW => (dcut1 _ _ _ d v L _ s x nm i f n W hW hat hsz hn hn1 (kW.obj (tag_ne o1 h1.obj (by decide)) o1) (kW.obj (tag_ne o2 h1.obj (by decide)) o2) (kW.obj (tag_ne o3 h1.obj (by decide)) o3)).mono fun e w' ⟨he, v', g', hd, hk⟩ => ⟨he, v', g', hd, ((Kp.of_new hb1).trans (kW.mono fun k _ e => Or.inl e)).trans hk⟩
  clear h h1 hb1 o1 o2 o3 hat
  go_enter Tryz.func207, Tryz.ntmps207
  go_wp2_with (go_at_call 213; refine Calls.mono HC.out ?_; rintro e W2 ⟨rfl, hR⟩)
  go_ret
  exact ⟨rfl, hR⟩

set_option maxHeartbeats 1000000 in
theorem dcounts (d : Nat) (v : Value) (c s x : Int) (w : World) (h : DObj w d v c s x) :
    Calls Tryz.prog 18 #[.pointer (some ⟨d, 0, none⟩)] w fun e w' => e = .returned (.tuple #[.int .i64 s, .int .i64 x]) ∧ Below w.heap.size w w' := by
  have c6 : w.cell? ⟨d, 6, none⟩ = some (.int .i64 s) := cell_obj h
  have c7 : w.cell? ⟨d, 7, none⟩ = some (.int .i64 x) := cell_obj h
  clear h
  go_enter Tryz.func18, Tryz.ntmps18
  go_wp2
  go_region
  go_wp2
  go_ret2
  exact ⟨rfl, (Below.refl _ _).drew⟩
end Go.Proofs.YtploagfjajlloaaGreatDoor
namespace Go.Proofs.YtploagfjajlloaaGreatDoor
open Go.RowKit Jr

/-- The first of each name. -/
def dd (l : List Fl) : List Fl := l.foldl (fun acc f => if acc.any (fun g => decide (g.1 = f.1)) then acc else acc ++ [f]) []
theorem dd_snoc (l : List Fl) (f : Fl) : dd (l ++ [f]) = if (dd l).any (fun g => decide (g.1 = f.1)) then dd l else dd l ++ [f] := by
  unfold dd; rw [List.foldl_append]; rfl
theorem dd_len (l acc : List Fl) : (l.foldl (fun acc f => if acc.any (fun g => decide (g.1 = f.1)) then acc else acc ++ [f]) acc).length ≤ acc.length + l.length := by
  induction l generalizing acc with
  | nil => simp
  | cons f l ih =>
    simp only [List.foldl_cons, List.length_cons]
    refine Nat.le_trans (ih _) ?_
    split <;> simp <;> omega
theorem dd_length (l : List Fl) : (dd l).length ≤ l.length := by simpa [dd] using dd_len l []
/-- A list of files as pairs of texts. -/
def PF (w : World) (v : Value) (l : List Fl) : Prop := ∃ p cap, v = .slice p l.length cap ∧ l.length ≤ cap ∧ cap ≤ 9223372036854775807 ∧
  Hid (0 < l.length → ∃ g off, p = some ⟨g, off, none⟩ ∧ g < w.heap.size ∧ ∀ (k : Nat) (f : Fl), l[k]? = some f → w.cell? ⟨g, off + k * 2, none⟩ = some (.string f.1) ∧ w.cell? ⟨g, off + k * 2 + 1, none⟩ = some (.string f.2))

theorem bs_bw (w : World) (s : ByteArray) (hs : s.size ≤ maxLen) : BS (Lib.bytesWorld w 5 s) (.slice (some ⟨w.heap.size, 0, none⟩) s.size (grownCap w s.size 0 5)) w.heap.size s := by
  have h1 := grownCap_ge w s.size 0 5
  have h2 := grownCap_le_maxLen w s.size 0 5 hs
  unfold maxLen at h2
  exact ⟨⟨0, _, rfl, h1, by omega, fun i hi => bw_cell w s i hi⟩, _, _, Lib.bytesWorld_at_new w 5 s⟩
theorem below_bw (w : World) (s : ByteArray) : Below w.heap.size w (Lib.bytesWorld w 5 s) := Joins.below_bytesWorld _ _ _ _ (Nat.le_refl _)

abbrev DF.nf (f : DF) : Fl := (f.name, f.now)
abbrev DF.sf (f : DF) : Fl := (f.name, f.safe)
theorem at_of_mem {L : List DF} {nm : ByteArray} (h : ∃ f ∈ L, f.name = nm) : ∃ i f, At L nm i f := by
  induction L with
  | nil => obtain ⟨f, hf, _⟩ := h; cases hf
  | cons g L ih =>
    by_cases hg : g.name = nm
    · exact ⟨0, g, rfl, hg, fun j f' hj => by omega⟩
    · obtain ⟨f, hf, hn⟩ := h
      rcases List.mem_cons.1 hf with rfl | hf
      · exact absurd hn hg
      · obtain ⟨i, f, hat⟩ := ih ⟨f, hf, hn⟩
        refine ⟨i + 1, f, by simpa using hat.get, hat.name, fun j f' hj hf' => ?_⟩
        cases j with
        | zero => simp at hf'; subst hf'; exact hg
        | succ j => exact hat.first j f' (by omega) (by simpa using hf')
theorem any_name {L : List DF} {m : List Fl} (h : L.map DF.nf = m) (nm : ByteArray) : (m.any fun g => decide (g.1 = nm)) = true ↔ ∃ f ∈ L, f.name = nm := by
  subst h
  simp only [List.any_eq_true, List.mem_map, decide_eq_true_eq]
  constructor
  · rintro ⟨x, ⟨f, hf, rfl⟩, h⟩; exact ⟨f, hf, h⟩
  · rintro ⟨f, hf, h⟩; exact ⟨f.nf, ⟨f, hf, rfl⟩, h⟩
abbrev flbox (f : Fl) : Array Value := #[.string f.1, .string f.2]

/-- One file more. -/
theorem nd_app (B : World) (d z N M : Nat) (v : Value) (L : List DF) (f : Fl) (sv nv : Value) (sg ng : Nat) (h : Dk B d v L 0 0 0) (hN : B.heap.size = N) (hM : N + 1 = M) (hL : L.length + 1 ≤ 1073741825) (hs : BS B sv sg f.2) (hn : BS B nv ng f.2) (hz : B.heap[z]? = some (.cells (flbox f) 51 (0, 0))) :
    ∃ q qc w2, Hid (∀ ty, (Builtin.append_ #[62, 62] ty #[v, .slice (some ⟨M, 0, none⟩) 1 1]).run Tryz.prog ((B.alloc (.cells #[.string f.1, sv, nv, .bool true] 69)).alloc (.cells #[.pointer (some ⟨N, 0, none⟩)] 66)) = .ok (.slice (some q) (L.length + 1) qc) w2) ∧
      w2.cell? ⟨d, 0, none⟩ = some v ∧ w2.frozen? ⟨d, 0, none⟩ = false ∧ Hid (Dk (w2.setCell ⟨d, 0, none⟩ (.slice (some q) (L.length + 1) qc)) d (.slice (some q) (L.length + 1) qc) (L ++ [⟨N, f.1, f.2, f.2, sv, sg, nv, ng⟩]) 0 0 0 ∧ Kp (fun k => k = d ∨ v.ownBlock = some k) B (w2.setCell ⟨d, 0, none⟩ (.slice (some q) (L.length + 1) qc))) ∧
      (w2.cell? ⟨z, 0, none⟩ = some (.string f.1) ∧ w2.cell? ⟨z, 1, none⟩ = some (.string f.2)) ∧ ((w2.setCell ⟨d, 0, none⟩ (.slice (some q) (L.length + 1) qc)).cell? ⟨z, 0, none⟩ = some (.string f.1) ∧ (w2.setCell ⟨d, 0, none⟩ (.slice (some q) (L.length + 1) qc)).cell? ⟨z, 1, none⟩ = some (.string f.2)) ∧ Hid (v.ownBlock = some q.block ∨ N ≤ q.block) := by
  subst hN hM
  have hbX : Below B.heap.size B (B.alloc (.cells #[.string f.1, sv, nv, .bool true] 69)) := (Below.refl _ _).alloc (Nat.le_refl _) _
  have hX := h.new hbX
  have oX : (B.alloc (.cells #[.string f.1, sv, nv, .bool true] 69)).heap[B.heap.size]? = some (.cells #[.string f.1, sv, nv, .bool true] 69 (0, 0)) := obj_new _ _
  obtain ⟨v2, w2, HR, ho2, hg2, hob, q, qc, rfl⟩ := appN Tryz.underlying62 infoPF rfl (by decide) hX.row [.pointer (some ⟨B.heap.size, 0, none⟩)] rfl (fun u hu => by simp at hu; subst hu; rfl) (by omega) (by unfold maxLen; omega) (Nat.zero_le _)
  have hk2 : Kp (fun k => v.ownBlock = some k) (B.alloc (.cells #[.string f.1, sv, nv, .bool true] 69)) w2 := Kp.of_grown hg2 (fun k e _ => e)
  have ntag : ∀ {k : Nat} {c : Array Value} {t : TypeId} {fr : Nat × Nat}, (B.alloc (.cells #[.string f.1, sv, nv, .bool true] 69)).heap[k]? = some (.cells c t fr) → t ≠ 66 → ¬ v.ownBlock = some k := fun ho hne e => by
    obtain ⟨C, hC⟩ := row_tag hX.row e
    exact tag_ne ho hC hne rfl
  have od : w2.heap[d]? = some (.cells (dcells v 0 0 0) 65 (0, 0)) := hk2.obj (ntag hX.obj (by decide)) hX.obj
  have oz : w2.heap[z]? = some (.cells (flbox f) 51 (0, 0)) := hk2.obj (ntag (obj_alloc hz) (by decide)) (obj_alloc hz)
  have ozs : (w2.setCell ⟨d, 0, none⟩ (.slice (some q) (L.length + 1) qc)).heap[z]? = some (.cells (flbox f) 51 (0, 0)) := by rw [obj_setCell_other (tag_ne oz od (by decide))]; exact oz
  have hk3 : Kp (· = d) w2 (w2.setCell ⟨d, 0, none⟩ (.slice (some q) (L.length + 1) qc)) := (Kp.refl (· = d) w2).setCell (a := ⟨d, 0, none⟩) (fun _ => rfl) _
  have hsz : (B.alloc (.cells #[.string f.1, sv, nv, .bool true] 69)).heap.size = B.heap.size + 1 := by simp
  refine ⟨q, qc, w2, ?_, cell_obj od, frozen_obj od, ⟨⟨?_, ?_, fun e he => ?_, ?_⟩, ?_⟩, ⟨cell_obj oz, cell_obj oz⟩, ⟨cell_obj ozs, cell_obj ozs⟩, ?_⟩
  · have := HR.out
    rw [hsz] at this
    exact this
  · show (w2.setCell ⟨d, 0, none⟩ _).heap[d]? = _; rw [obj_setCell_same od]; rfl
  · rw [List.length_append, List.map_append]
    exact row_on ho2 hk3 (fun k e => by obtain ⟨C, hC⟩ := row_tag ho2 e; exact tag_ne hC od (by decide))
  · have keep : ∀ {k : Nat} {c : Array Value} {t : TypeId} {fr : Nat × Nat}, (B.alloc (.cells #[.string f.1, sv, nv, .bool true] 69)).heap[k]? = some (.cells c t fr) → t ≠ 66 → t ≠ 65 → (w2.setCell ⟨d, 0, none⟩ (.slice (some q) (L.length + 1) qc)).heap[k]? = (B.alloc (.cells #[.string f.1, sv, nv, .bool true] 69)).heap[k]? := fun ho h1 h2 => by
      have := hk2.obj (ntag ho h1) ho
      rw [obj_setCell_other (tag_ne this od h2), this, ho]
    have kf : ∀ e, FileIs (B.alloc (.cells #[.string f.1, sv, nv, .bool true] 69)) e → FileIs (w2.setCell ⟨d, 0, none⟩ (.slice (some q) (L.length + 1) qc)) e := fun e he => by
      obtain ⟨C1, r1, t1⟩ := he.sb.tag
      obtain ⟨C2, r2, t2⟩ := he.nb.tag
      exact he.of_same (keep he.obj (by decide) (by decide)) (keep t1 (by decide) (by decide)) (keep t2 (by decide) (by decide))
    rcases List.mem_append.1 he with he | he
    · exact kf e (hX.files e he)
    · simp at he; subst he
      exact kf _ ⟨oX, hs.on' hbX hs.lt, hn.on' hbX hn.lt⟩
  · rw [List.map_append, List.nodup_append]
    refine ⟨hX.nd, by simp, fun a ha b hb => ?_⟩
    simp at hb; subst hb
    obtain ⟨e, he, rfl⟩ := List.mem_map.1 ha
    exact Nat.ne_of_lt (heap_lt (h.files e he).obj)
  · exact ((Kp.of_new hbX).trans (hk2.mono fun k _ e => Or.inr e)).trans (hk3.mono fun k _ e => Or.inl e)
  · rcases hob with h | ⟨k, h1, h2⟩
    · exact Or.inl h.symm
    · right
      have : q.block = k := Option.some.inj h2
      rw [this]; omega

end Go.Proofs.YtploagfjajlloaaGreatDoor
