import Derived.Test.YtploagfjajlloaaGreatDoorSegX
namespace Go.Proofs.YtploagfjajlloaaGreatDoor
open Go.RowKit Jr

theorem mkHd (w : World) : (Instr.makeSlice 59 (.int .i64 0) (.int .i64 16)).run Tryz.prog w = .ok (.slice (some ⟨w.heap.size, 0, none⟩) 0 16) (w.alloc (.cells (madeCells #[.int .u8 0] 16) 5)) := by
  obtain ⟨i0, h1, h2, h3, h4⟩ := infoU8
  have := run_make (P := Tryz.prog) w 59 5 i0 (.int .u8 0) Tryz.underlying59 h1 h2 .i64 .i64 0 16 (by omega) (by omega) (by rw [h4]; omega) (by omega)
  rw [h3, Nat.mul_one] at this
  exact this
theorem own_mdHd (w : World) : Own (w.alloc (.cells (madeCells #[.int .u8 0] 16) 5)) w.heap.size w.heap.size 16 [] :=
  own_alloc w [] _ 16 (0, 0) (Or.inl rfl) (Nat.zero_le _) (size_madeCells _ _) (fun i hi => by simp at hi)
theorem hdL_lt (b : Nat) : ∀ x ∈ hdL b, x < 256 := by
  intro x hx
  simp only [hdL, List.mem_append] at hx
  rcases hx with hx | hx
  · exact hd12_lt b x hx
  · exact digs_lt _ _ _ hx

set_option maxRecDepth 10000 in
set_option maxHeartbeats 2000000 in
theorem jhead (b : Nat) (w : World) (hb : b < 9223372036854775808) :
    Calls Tryz.prog 94 #[.int .i64 b] w fun e w' => ∃ g cap, e = .returned (.slice (some ⟨g, 0, none⟩) 16 cap) ∧ Own w' w.heap.size g cap (hdL b) ∧ Below w.heap.size w w' := by
  have wb : IntKind.u64.wrap (b : Int) = (b : Nat) := by rw [IntKind.wrap_u64]; omega
  have kmk := mkHd
  obtain ⟨g2, c2, W2, HR, HO2, HB2⟩ := app_own' (n := 0) (m := 4) (k := 4) (own_mdHd w) rfl (l' := bs ⟨#[74, 76, 49, 10]⟩) rfl rfl (by simp) (src_str _ ⟨#[74, 76, 49, 10]⟩) (by omega)
  have B2 : Hid (Below w.heap.size w W2) := ((Below.refl _ _).alloc (Nat.le_refl _) _).trans HB2.out
  have O2 : Hid (Own W2 w.heap.size g2 c2 mk4) := HO2.out
  clear HO2 HB2
  go_enter Tryz.func94, Tryz.ntmps94
  go_upto_region 2 with (at_builtin; refine wpList_app rfl _ _ _ _ rfl rfl rfl HR.out ?_)
  clear HR
  go_upto_region 3 with (go_at_call 136; refine (jappend8 w.heap.size g2 c2 4 mk4 b W2 O2.out rfl B2.out.size (by omega) (by omega)).mono ?_; rintro e W3 ⟨g3, c3, rfl, ho3, hb3⟩)
  have O3 : Hid (Own W3 w.heap.size g3 c3 (hd12 b)) := ho3
  have B3 : Hid (Below w.heap.size w W3) := B2.out.trans hb3
  clear ho3 hb3 O2 B2
  obtain ⟨C, hC⟩ : ∃ C, crc (hd12 b) = C := ⟨_, rfl⟩
  have hcl : C < 4294967296 := by rw [← hC]; exact crc_lt _ (hd12_lt b)
  have HC : Hid (crc (hd12 b) = C) := hC
  clear hC
  have wC : IntKind.u64.wrap (C : Int) = (C : Nat) := by rw [IntKind.wrap_u64]; omega
  go_wp2_with (first
    | (go_at_call 137; refine (jsum_cells g3 0 12 c3 (hd12 b) W3 (hd12_length b) (by unfold maxLen; omega) (hd12_lt b) (fun i hi => by rw [Nat.zero_add]; exact O3.out.cell i (by rw [hd12_length]; exact hi))).mono ?_; rw [HC.out]; rintro e w' ⟨rfl, hw⟩; rw [hw]; clear hw)
    | (go_at_call 136; refine (jappend4 w.heap.size g3 c3 12 (hd12 b) C W3 O3.out (hd12_length b) B3.out.size (by omega) (by omega)).mono ?_; rintro e W4 ⟨g4, c4, rfl, ho4, hb4⟩))
  go_ret
  refine ⟨g4, c4, rfl, ?_, B3.out.trans hb4⟩
  rw [← HC.out] at ho4
  exact ho4

def ints (l : List Nat) : List Int := l.map Int.ofNat
theorem ints_length (l : List Nat) : (ints l).length = l.length := by simp [ints]
theorem ints_getD (l : List Nat) (i : Nat) : (ints l).getD i 0 = ((l.getD i 0 : Nat) : Int) := by
  unfold ints List.getD
  rw [List.getElem?_map]
  cases l[i]? <;> rfl
theorem pre_hd (c : ByteArray) (b : Nat) : Lib.hasPrefix (Lib.bytesOf (ints (bl c))) (Lib.bytesOf (ints (hdL b))) = hasHd c b := by
  have e : ∀ l : List Nat, Lib.bytesOf (ints l) = l.map UInt8.ofNat := fun l => by simp [Lib.bytesOf, ints]
  rw [e, e, Bool.eq_iff_iff, hasHd_iff]
  unfold Lib.hasPrefix
  rw [List.isPrefixOf_iff_prefix, List.prefix_iff_eq_take, List.length_map, hdL_length]
  have hbl := bl_length c
  constructor
  · intro h
    have hl := congrArg List.length h
    simp only [List.length_map, hdL_length, List.length_take, hbl] at hl
    refine ⟨by omega, fun i hi => ?_⟩
    have h1 := congrArg (fun l => l[i]?) h
    simp only [List.getElem?_map, List.getElem?_take, if_pos hi] at h1
    rw [List.getElem?_eq_getElem (by rw [hdL_length]; exact hi), List.getElem?_eq_getElem (by rw [hbl]; omega)] at h1
    simp only [Option.map_some, Option.some.injEq] at h1
    have hx := getD_lt (hdL_lt b) i (by rw [hdL_length]; exact hi)
    have hy := bl_get c i (by omega)
    unfold List.getD at hx hy
    rw [List.getElem?_eq_getElem (by rw [hdL_length]; exact hi)] at hx
    rw [List.getElem?_eq_getElem (by rw [hbl]; omega)] at hy
    simp only [Option.getD_some] at hx hy
    unfold List.getD
    rw [List.getElem?_eq_getElem (by rw [hdL_length]; exact hi), Option.getD_some, ← hy]
    have hz : (bl c)[i]'(by rw [hbl]; omega) < 256 := by rw [hy]; exact byt_lt c i
    have h2 := congrArg UInt8.toNat h1
    simp only [UInt8.toNat_ofNat'] at h2
    omega
  · rintro ⟨h16, h⟩
    apply List.ext_getElem?
    intro i
    rw [List.getElem?_take]
    split
    · rename_i hi
      have hy := bl_get c i (by omega)
      have hh := h i hi
      unfold List.getD at hy hh
      rw [List.getElem?_eq_getElem (by rw [hbl]; omega)] at hy
      rw [List.getElem?_eq_getElem (by rw [hdL_length]; exact hi)] at hh
      simp only [Option.getD_some] at hy hh
      rw [List.getElem?_map, List.getElem?_map, List.getElem?_eq_getElem (by rw [hdL_length]; exact hi), List.getElem?_eq_getElem (by rw [hbl]; omega), hy, hh]
    · rename_i hi
      rw [List.getElem?_eq_none (by rw [List.length_map, hdL_length]; omega)]

theorem hp_hd (g off g1 cap c1 : Nat) (c : ByteArray) (b B : Nat) (w : World) (h1 : c.size ≤ cap) (h : ∀ i, i < c.size → w.cell? ⟨g, off + i, none⟩ = some (.int .u8 (byt c i : Nat))) (ho : Own w B g1 c1 (hdL b)) :
    Calls Tryz.prog 93 #[.slice (some ⟨g, off, none⟩) c.size cap, .slice (some ⟨g1, 0, none⟩) 16 c1] w fun e w' => e = .returned (.bool (hasHd c b)) ∧ w' = w := by
  rw [← pre_hd]
  refine Tryz.bytes_HasPrefix_all (some ⟨g, off, none⟩) (some ⟨g1, 0, none⟩) c.size cap 16 c1 (ints (bl c)) (ints (hdL b)) w (by rw [ints_length, bl_length]) (by rw [ints_length, hdL_length]) h1 (fun _ => ⟨g, off, rfl, fun i hi => ?_⟩) (fun _ => ⟨g1, 0, rfl, fun i hi => ?_⟩)
  · rw [h i hi, ints_getD, bl_get c i hi]
  · rw [Nat.zero_add, ho.cell i (by rw [hdL_length]; exact hi), ints_getD]

set_option maxRecDepth 10000 in
set_option maxHeartbeats 2000000 in
theorem jhashead (v : Value) (g : Nat) (c : ByteArray) (b : Nat) (w : World) (h : BS w v g c) (hb : b < 9223372036854775808) :
    Calls Tryz.prog 57 #[v, .int .i64 b] w fun e w' => e = .returned (.bool (hasHd c b)) ∧ Below w.heap.size w w' := by
  have HB0 := h.lt
  obtain ⟨off, cap, rfl, h1, h2, h3⟩ := h.shape
  have H3 : Hid (∀ i, i < c.size → w.cell? ⟨g, off + i, none⟩ = some (.int .u8 (byt c i : Nat))) := h3
  clear h h3
  go_enter Tryz.func57, Tryz.ntmps57
  go_wp2_with (first
    | (go_at_call 94; refine (jhead b w hb).mono ?_; rintro e W1 ⟨g1, c1, rfl, ho1, hb1⟩)
    | (go_at_call 93; refine Calls.mono (hp_hd g off g1 cap c1 c b w.heap.size W1 h1 (fun i hi => (hb1.cell (p := ⟨g, off + i, none⟩) HB0).trans (H3.out i hi)) ho1) ?_; rintro e w' ⟨rfl, hw⟩; rw [hw]; clear hw))
  go_ret
  exact ⟨rfl, hb1⟩
end Go.Proofs.YtploagfjajlloaaGreatDoor
namespace Go.Proofs.YtploagfjajlloaaGreatDoor
open Go.RowKit Jr Go.Sort

theorem sorted_lt (l : List (List UInt8)) (hn : l.Nodup) : (l.mergeSort fun x y => decide (x ≤ y)).Pairwise (fun a b => a < b) := by
  have h1 := List.pairwise_mergeSort (le := fun x y : List UInt8 => decide (x ≤ y)) (fun a b c h1 h2 => by simp at *; exact List.le_trans h1 h2) (fun a b => by simp; exact List.le_total a b) l
  have h2 : (l.mergeSort fun x y => decide (x ≤ y)).Nodup := (List.mergeSort_perm l _).nodup_iff.2 hn
  refine (h1.and h2).imp fun {a b} h => ?_
  obtain ⟨h, hne⟩ := h
  rcases Decidable.em (a < b) with h3 | h3
  · exact h3
  · exact absurd (List.le_antisymm (by simpa using h) (List.not_lt.1 h3)) hne
theorem compact_lt (ts : List (List UInt8)) (h : ts.Pairwise (fun a b => a < b)) : Lib.compact ts = ts := by
  refine Lib.compact_all ts fun j hj => ?_
  cases j with
  | zero => exact Lib.keeps_lt_one _ 0 (by omega)
  | succ j =>
    refine Lib.keeps_pos fun e => ?_
    have hlt := List.pairwise_iff_getElem.1 h j (j + 1) (by omega) hj (by omega)
    simp [getElem!_pos, hj, show j < ts.length by omega] at e
    rw [e] at hlt
    exact List.lt_irrefl _ hlt
def unB (l : List UInt8) : ByteArray := ⟨l.toArray⟩
theorem unB_data (s : ByteArray) : unB s.data.toList = s := by simp [unB]
theorem data_unB (l : List UInt8) : (unB l).data.toList = l := by simp [unB]
theorem enc_unB (ts : List (List UInt8)) : (ts.map unB).map Value.string = ts.map encStr := by
  rw [List.map_map]; exact List.map_congr_left fun x _ => by simp [encStr, unB]

theorem jsort2 (v : Value) (fs : List ByteArray) (B : Nat) (w : World) (h : w.ownsRow B 9 1 v fs.length (fs.map .string)) (hnd : fs.Nodup) (hn : fs.length ≤ 1073741824) :
    Calls Tryz.prog 51 #[v] w fun e w1 => e = .returned (.tuple #[]) ∧ Below B w w1 ∧
      ∃ ns : List ByteArray, ns.Pairwise blt ∧ (∀ x, x ∈ ns ↔ x ∈ fs) ∧ ns.length = fs.length ∧ w1.ownsRow B 9 1 v ns.length (ns.map .string) := by
  by_cases h0 : fs.length = 0
  · obtain rfl : fs = [] := List.eq_nil_of_length_eq_zero h0
    obtain ⟨p, cap, rfl, -⟩ := row_shape h
    refine Calls.mono (Tryz.slices_Sort_string_none p cap w) ?_
    rintro e w' ⟨rfl, rfl⟩
    exact ⟨rfl, Below.refl _ _, [], List.Pairwise.nil, by simp, rfl, h⟩
  · have hv : v ≠ .slice none 0 0 := fun e => by
      subst e
      rcases h.2 with ⟨_, e2⟩ | ⟨g, cap, cur, e2, _⟩
      · exact h0 e2
      · cases e2
    have h' : w.ownsRow B 9 1 v fs.length ((fs.map (·.data.toList)).map encStr) := by rw [Lib.map_encStr]; exact h
    obtain ⟨g, cap, rfl, hb, hg, hc1, hc2, hl, hH⟩ := Lib.holds_of_ownsRow h' hv
    obtain ⟨C, hC⟩ := row_tag h rfl
    have hcs : C.size = cap * 1 := by
      rcases h.2 with ⟨e0, _⟩ | ⟨g', cap', cur, e0, _, hg', _, _, hs, _⟩
      · cases e0
      · injection e0 with e1 _ e3
        injection e1 with e1
        injection e1 with e1
        subst e1; subst e3
        rw [hC] at hg'
        injection hg' with hg'
        injection hg' with hg'
        rw [hg']; exact hs
    have hs := Tryz.slices_Sort_string g 0 cap (fs.map (·.data.toList)) w hH hg (by rw [hl]; omega)
    rw [hl] at hs
    refine Calls.mono hs ?_
    rintro e w1 ⟨rfl, n, os, rfl⟩
    have hnd' : (fs.map (·.data.toList)).Nodup := List.Pairwise.map _ (fun a b hab e => hab (by rw [← unB_data a, ← unB_data b, e])) hnd
    have hlen : ((fs.map (·.data.toList)).mergeSort fun x y => decide (x ≤ y)).length = fs.length := by rw [List.length_mergeSort, hl]
    refine ⟨rfl, ?_, (((fs.map (·.data.toList)).mergeSort fun x y => decide (x ≤ y)).map unB), ?_, fun x => ?_, by rw [List.length_map, hlen], ?_⟩
    · have hgr := grownBy_sorted (w := w) (g := g) (n := n) (os := os) ((fs.map (·.data.toList)).mergeSort fun x y => decide (x ≤ y)).toArray
      exact ⟨hgr.os, hgr.tape, hgr.output, hgr.size, fun q hq => hgr.block q (by omega) fun e => by injection e with e; omega⟩
    · refine List.Pairwise.map _ (fun a b hab => ?_) (sorted_lt _ hnd')
      show (unB a).data.toList < (unB b).data.toList
      rw [data_unB, data_unB]; exact hab
    · simp only [List.mem_map, List.mem_mergeSort]
      constructor
      · rintro ⟨y, ⟨z, hz, rfl⟩, rfl⟩; rw [unB_data]; exact hz
      · intro hx; exact ⟨_, ⟨x, hx, rfl⟩, unB_data x⟩
    · rw [enc_unB, List.length_map, hlen]
      have := ownsRow_sorted (n := n) (os := os) (cap := cap) (ss := fs.map (·.data.toList)) (ts := (fs.map (·.data.toList)).mergeSort fun x y => decide (x ≤ y)) (by rw [List.length_mergeSort]) hb hC (by rw [hl]; exact hc1) hc2 hcs
      rw [hl] at this
      exact this
theorem jcompact2 (v : Value) (ns : List ByteArray) (B : Nat) (w : World) (h : w.ownsRow B 9 1 v ns.length (ns.map .string)) (hs : ns.Pairwise blt) (hn : ns.length ≤ 1073741824) :
    Calls Tryz.prog 52 #[v] w fun e w1 => e = .returned v ∧ Below B w w1 ∧ w1.ownsRow B 9 1 v ns.length (ns.map .string) := by
  by_cases h0 : ns.length = 0
  · obtain rfl : ns = [] := List.eq_nil_of_length_eq_zero h0
    obtain ⟨p, cap, rfl, -⟩ := row_shape h
    refine Calls.mono (Tryz.slices_Compact_string_empty p cap w) ?_
    rintro e w' ⟨rfl, rfl⟩
    exact ⟨rfl, Below.refl _ _, h⟩
  · have hv : v ≠ .slice none 0 0 := fun e => by
      subst e
      rcases h.2 with ⟨_, e2⟩ | ⟨g, cap, cur, e2, _⟩
      · exact h0 e2
      · cases e2
    have h' : w.ownsRow B 9 1 v ns.length ((ns.map (·.data.toList)).map encStr) := by rw [Lib.map_encStr]; exact h
    obtain ⟨g, cap, rfl, hb, hg, hc1, hc2, hl, hH⟩ := Lib.holds_of_ownsRow h' hv
    have hc := Tryz.slices_Compact_string g 0 cap (ns.map (·.data.toList)) w hH (by rw [hl]; omega) (by rw [hl]; exact hc1)
    have hlt : (ns.map (·.data.toList)).Pairwise (fun a b => a < b) := List.Pairwise.map _ (fun a b hab => hab) hs
    rw [compact_lt _ hlt, Nat.sub_self, List.replicate_zero, List.append_nil, hl] at hc
    refine Calls.mono hc ?_
    rintro e w1 ⟨rfl, q, rfl⟩
    refine ⟨rfl, Lib.below_putRow (Below.refl _ _) hb, ?_⟩
    have := Lib.ownsRow_putRow (q := q) (k := ns.length) (ys := ns.map (·.data.toList)) h' (by simp) (Nat.le_refl _)
    rw [List.take_of_length_le (by simp), Lib.map_encStr] at this
    exact this

set_option maxRecDepth 10000 in
set_option maxHeartbeats 2000000 in
theorem jsegnames (v : Value) (ns0 : List ByteArray) (w : World) (h : NR w v ns0) (hnd : ns0.Nodup) (hn : ns0.length ≤ 1073741824) (hsz : ∀ nm ∈ ns0, nm.size ≤ 9223372036854775807) :
    Calls Tryz.prog 34 #[v] w fun e w' => ∃ (v' : Value) (ns : List ByteArray), e = .returned v' ∧ w'.ownsRow w.heap.size 9 1 v' ns.length (ns.map .string) ∧ ns.Pairwise blt ∧ (∀ x, x ∈ ns ↔ x ∈ ns0 ∧ isSeg x = true) ∧ ns.length ≤ ns0.length ∧ Below w.heap.size w w' := by
  obtain ⟨p, cap, rfl, hcap, hmax, HP⟩ := h
  obtain ⟨n, hn'⟩ : ∃ n, ns0.length = n := ⟨_, rfl⟩
  rw [hn'] at hcap HP hn ⊢
  have HN : Hid (ns0.length = n) := hn'
  have HS : Hid (∀ nm ∈ ns0, nm.size ≤ 9223372036854775807) := hsz
  have HD : Hid (ns0.Nodup) := hnd
  clear hn' hsz hnd
  go_enter Tryz.func34, Tryz.ntmps34
  go_upto_region 3 with fail
  go_loopw [3, 8] (fun o i wr => ∃ (k : Nat) (q : Option Addr) (m qc : Nat), k ≤ n ∧ i = .int .i64 k ∧ o = .slice q m qc ∧ m ≤ k ∧ Hid (m = ((ns0.take k).filter isSeg).length ∧ wr.ownsRow w.heap.size 9 1 o m (((ns0.take k).filter isSeg).map .string)) ∧ Hid (Below w.heap.size w wr)) (fun _ i _ => n - (intOf i).toNat)
  case atStart => exact ⟨0, none, 0, 0, Nat.zero_le _, rfl, rfl, Nat.le_refl _, ⟨by simp, by simpa using World.ownsRow_nil w _ _ _⟩, Below.refl _ _⟩
  case round =>
    obtain ⟨k, q, m, qc, hk, rfl, rfl, hmk, hO, hbl⟩ := hrel
    by_cases hlt : k < n
    · obtain ⟨g, rfl, hg2, hg⟩ := HP.out (by omega)
      have hLq : k < ns0.length := by rw [HN.out]; exact hlt
      obtain ⟨nm, hf⟩ : ∃ f, ns0[k]? = some f := ⟨_, List.getElem?_eq_getElem hLq⟩
      have e1 : wr.cell? ⟨g, k, none⟩ = some (.string nm) := (hbl.out.cell (p := ⟨g, k, none⟩) hg2).trans (hg k nm hf)
      have hnsz := HS.out nm (List.mem_of_getElem? hf)
      have htk : Hid ((ns0.take (k + 1)).filter isSeg = (ns0.take k).filter isSeg ++ (if isSeg nm then [nm] else [])) := take_filter isSeg ns0 k nm hf
      clear hg hg2 hf
      go_upto_region 5 with fail
      by_cases hi : isSeg nm = true
      · rw [hi] at htk
        go_upto_region 6 with (go_at_call 50; refine (jisseg nm wr hnsz).mono ?_; rw [hi]; rintro e W1 ⟨rfl, hb1⟩)
        have hO1 := row_on' hO.out.2 hb1 (fun k e => (hO.out.2.lt k e).2)
        have hBW : Below w.heap.size w W1 := hbl.out.trans (hb1.mono hbl.out.size)
        obtain ⟨v2, w2, HR, ho2, hg2', -, p2, cap2, rfl⟩ := appN Tryz.underlying91 infoS rfl (by decide) hO1 [.string nm] rfl (fun u hu => by simp at hu; subst hu; rfl) (by omega) (by unfold maxLen; omega) hBW.size
        have HB2 : Hid (Below w.heap.size w w2) := hBW.trans (grown_below hO1 hg2' hBW.size)
        have HO2 : Hid (m + 1 = ((ns0.take (k + 1)).filter isSeg).length ∧ w2.ownsRow w.heap.size 9 1 (.slice (some p2) (m + 1) cap2) (m + 1) (((ns0.take (k + 1)).filter isSeg).map .string)) := by
          refine ⟨?_, ?_⟩
          · rw [htk.out]; simp; exact hO.out.1
          · rw [htk.out, List.map_append]; exact ho2
        clear hb1 hO1 hBW ho2 hg2' hO hbl htk
        go_wp2_with (at_builtin; refine wpList_app rfl _ _ _ _ rfl rfl rfl HR.out ?_)
        go_roundw
        case rel => exact ⟨k + 1, _, m + 1, _, by omega, by go_num, rfl, by omega, HO2, HB2⟩
        case measure => simp [intOf]; omega
      · have hi' : isSeg nm = false := by simpa using hi
        rw [hi'] at htk
        go_wp2_with (go_at_call 50; refine (jisseg nm wr hnsz).mono ?_; rw [hi']; rintro e W1 ⟨rfl, hb1⟩)
        go_roundw
        case rel => exact ⟨k + 1, _, m, _, by omega, by go_num, rfl, by omega, ⟨by rw [htk.out]; simpa using hO.out.1, by rw [htk.out]; simpa using row_on' hO.out.2 hb1 (fun k e => (hO.out.2.lt k e).2)⟩, hbl.out.trans (hb1.mono hbl.out.size)⟩
        case measure => simp [intOf]; omega
    · obtain rfl : k = n := by omega
      have ht : ns0.take k = ns0 := List.take_of_length_le (by rw [HN.out]; exact Nat.le_refl _)
      have hfl : (ns0.filter isSeg).length ≤ 1073741824 := by
        have := List.length_filter_le isSeg ns0
        have := HN.out; omega
      have HO : Hid (wr.ownsRow w.heap.size 9 1 (.slice q m qc) (ns0.filter isSeg).length ((ns0.filter isSeg).map .string)) := by
        have h1 := hO.out
        rw [ht] at h1
        obtain ⟨h1, h2⟩ := h1
        rw [← h1]; exact h2
      clear hO ht
      go_upto_region 9 with (go_at_call 51; refine Calls.mono (jsort2 _ (ns0.filter isSeg) w.heap.size wr HO.out (HD.out.filter _) hfl) ?_; rintro e W1 ⟨rfl, hb1, ns, hs1, hm1, hl1, ho1⟩)
      have HO1 : Hid (W1.ownsRow w.heap.size 9 1 (.slice q m qc) ns.length (ns.map .string)) := ho1
      have HM1 : Hid (ns.Pairwise blt ∧ (∀ x, x ∈ ns ↔ x ∈ ns0.filter isSeg) ∧ ns.length = (ns0.filter isSeg).length) := ⟨hs1, hm1, hl1⟩
      have HBW : Hid (Below w.heap.size w W1) := hbl.out.trans hb1
      clear ho1 hs1 hm1 hl1 hb1 hbl HO
      go_wp2_with (go_at_call 52; refine Calls.mono (jcompact2 _ ns w.heap.size W1 HO1.out HM1.out.1 (by rw [HM1.out.2.2]; exact hfl)) ?_; rintro e W2 ⟨rfl, hb2, ho2⟩)
      go_ret
      refine ⟨_, ns, rfl, ho2, HM1.out.1, fun x => ?_, ?_, HBW.out.trans hb2⟩
      · rw [HM1.out.2.1 x, List.mem_filter]
      · rw [HM1.out.2.2]; have := List.length_filter_le isSeg ns0; have := HN.out; omega
end Go.Proofs.YtploagfjajlloaaGreatDoor
