import Derived.Test.YtploagfjajlloaaGreatDoorAlX
namespace Go.Proofs.YtploagfjajlloaaGreatDoor
open Go.RowKit Jr

/-- Events that are read. -/
def ER (w : World) (v : Value) (evs : List Ev) : Prop := ∃ p cap, v = .slice p evs.length cap ∧ evs.length ≤ cap ∧ cap ≤ 9223372036854775807 ∧
  Hid (0 < evs.length → ∃ g off, p = some ⟨g, off, none⟩ ∧ g < w.heap.size ∧ ∀ (k : Nat) (e : Ev), evs[k]? = some e → w.cell? ⟨g, off + k * 4, none⟩ = some (.string e.st) ∧ w.cell? ⟨g, off + k * 4 + 1, none⟩ = some (.int .i64 e.v) ∧ w.cell? ⟨g, off + k * 4 + 2, none⟩ = some (.int .i64 e.p) ∧ w.cell? ⟨g, off + k * 4 + 3, none⟩ = some (.string e.d))
theorem er_of_row {w : World} {B : Nat} {v : Value} {evs : List Ev} (h : w.ownsRow B 75 4 v evs.length (pvc evs)) : ER w v evs := by
  obtain ⟨p, cap, hv, h1, h2, h3⟩ := row_shape h
  unfold maxLen at h2
  refine ⟨p, cap, hv, h1, by omega, fun h0 => ?_⟩
  obtain ⟨g, hp, _, hg, hc⟩ := h3 h0
  refine ⟨g, 0, hp, hg, fun k e hk => ?_⟩
  have hkl := (List.getElem?_eq_some_iff.1 hk).1
  obtain ⟨g0, g1, g2, g3⟩ := pvc_get evs k e hk
  rw [Nat.zero_add]
  exact ⟨(hc _ (by omega)).trans g0, (hc _ (by omega)).trans g1, (hc _ (by omega)).trans g2, (hc _ (by omega)).trans g3⟩

set_option maxRecDepth 10000 in
set_option maxHeartbeats 2000000 in
theorem rsame (v v' : Value) (evs : List Ev) (w : World) (h : ER w v evs) (h' : ER w v' evs) (hn : evs.length ≤ 1000000000) :
    Calls Tryz.prog 16 #[v, v'] w fun e w' => e = .returned (.bool true) ∧ Below w.heap.size w w' := by
  obtain ⟨p, cap, rfl, hcap, hmax, HP⟩ := h
  obtain ⟨p', cap', rfl, hcap', hmax', HP'⟩ := h'
  obtain ⟨n, hn'⟩ : ∃ n, evs.length = n := ⟨_, rfl⟩
  rw [hn'] at hcap hcap' HP HP' hn ⊢
  have HN : Hid (evs.length = n) := hn'
  clear hn'
  go_enter Tryz.func16, Tryz.ntmps16
  go_upto_region 4 with fail
  go_loopw [5] (fun i wr => ∃ (k : Nat), k ≤ n ∧ i = .int .i64 k ∧ Below w.heap.size w wr) (fun i _ => n - (intOf i).toNat)
  case atStart => exact ⟨0, Nat.zero_le _, rfl, Below.refl _ _⟩
  case round =>
    obtain ⟨k, hk, rfl, hbl⟩ := hrel
    by_cases hlt : k < n
    · obtain ⟨g, off, rfl, hgl, hc⟩ := HP.out (by omega)
      obtain ⟨g', off', rfl, hgl', hc'⟩ := HP'.out (by omega)
      have hjl : k < evs.length := by rw [HN.out]; exact hlt
      obtain ⟨e, he⟩ : ∃ e, evs[k]? = some e := ⟨_, List.getElem?_eq_getElem hjl⟩
      obtain ⟨a0, a1, a2, a3⟩ := hc k e he
      obtain ⟨b0, b1, b2, b3⟩ := hc' k e he
      have e0 : wr.cell? ⟨g, off + k * 4, none⟩ = some (.string e.st) := (hbl.cell (p := ⟨g, off + k * 4, none⟩) hgl).trans a0
      have e1 : wr.cell? ⟨g, off + k * 4 + 1, none⟩ = some (.int .i64 e.v) := (hbl.cell (p := ⟨g, off + k * 4 + 1, none⟩) hgl).trans a1
      have e2 : wr.cell? ⟨g, off + k * 4 + 2, none⟩ = some (.int .i64 e.p) := (hbl.cell (p := ⟨g, off + k * 4 + 2, none⟩) hgl).trans a2
      have e3 : wr.cell? ⟨g, off + k * 4 + 3, none⟩ = some (.string e.d) := (hbl.cell (p := ⟨g, off + k * 4 + 3, none⟩) hgl).trans a3
      have f0 : wr.cell? ⟨g', off' + k * 4, none⟩ = some (.string e.st) := (hbl.cell (p := ⟨g', off' + k * 4, none⟩) hgl').trans b0
      have f1 : wr.cell? ⟨g', off' + k * 4 + 1, none⟩ = some (.int .i64 e.v) := (hbl.cell (p := ⟨g', off' + k * 4 + 1, none⟩) hgl').trans b1
      have f2 : wr.cell? ⟨g', off' + k * 4 + 2, none⟩ = some (.int .i64 e.p) := (hbl.cell (p := ⟨g', off' + k * 4 + 2, none⟩) hgl').trans b2
      have f3 : wr.cell? ⟨g', off' + k * 4 + 3, none⟩ = some (.string e.d) := (hbl.cell (p := ⟨g', off' + k * 4 + 3, none⟩) hgl').trans b3
      have HBL : Hid (Below w.heap.size w wr) := hbl
      have hx := str_eq e.st
      have hy := str_eq e.d
      clear a0 a1 a2 a3 b0 b1 b2 b3 hc hc' he hjl hbl
      go_upto_region 6 with fail
      open Go.BigFrame in go_big_quiet (fail)
      go_wp2
      go_roundw
      case rel => exact ⟨k + 1, by omega, by go_num, below_drewN HBL.out _⟩
      case measure => simp [intOf]; omega
    · have HBL : Hid (Below w.heap.size w wr) := hbl
      clear hbl
      obtain rfl : k = n := by omega
      go_wp2
      go_ret
      exact ⟨rfl, HBL.out⟩
end Go.Proofs.YtploagfjajlloaaGreatDoor
namespace Go.Proofs.YtploagfjajlloaaGreatDoor
open Go.RowKit Jr

set_option maxRecDepth 10000 in
set_option maxHeartbeats 8000000 in
theorem lpart (B : Nat) (v : Value) (log : List Ev) (fr n : Int) (w : World) (h : w.ownsRow B 75 4 v log.length (pvc log)) (_h1 : -9223372036854775808 ≤ fr) (_h2 : fr ≤ 9223372036854775807) (hn : log.length ≤ 1000000000) :
    Calls Tryz.prog 15 #[v, .int .i64 fr, .int .i64 n] w fun e w' => ∃ v', e = .returned v' ∧ ER w' v' (partL log fr n) ∧ w' = w := by
  obtain ⟨p, cap, rfl, hcap, hmax, hp⟩ := row_shape h
  unfold maxLen at hmax
  obtain ⟨k0, hk0⟩ : ∃ k0, startN fr log.length = k0 := ⟨_, rfl⟩
  have hk0l : k0 ≤ log.length := by rw [← hk0]; exact startN_le _ _
  obtain ⟨p', hif, hp'⟩ : ∃ p', (if cap = k0 then p else Option.map (fun x => x.add (k0 * 4)) p) = p' ∧ (k0 < cap → p' = Option.map (fun x => x.add (k0 * 4)) p) := by
    by_cases e : cap = k0
    · exact ⟨p, by rw [if_pos e], fun h => by omega⟩
    · exact ⟨_, by rw [if_neg e], fun _ => rfl⟩
  have hfin : ∀ (evs : List Ev) (cap2 : Nat), (∃ m, evs = (log.drop k0).take m) → evs.length ≤ cap2 → cap2 ≤ 9223372036854775807 → evs = partL log fr n → ER w (.slice p' evs.length cap2) (partL log fr n) := fun evs cap2 hm hc1 hc2 he => by
    rw [← he]
    refine ⟨p', cap2, rfl, hc1, hc2, fun h0 => ?_⟩
    obtain ⟨m, rfl⟩ := hm
    have hdl : 0 < (log.drop k0).length := by rw [List.length_take] at h0; omega
    rw [List.length_drop] at hdl
    obtain ⟨ge, hpe, _, hgl, hc⟩ := hp (by omega)
    refine ⟨ge, k0 * 4, by rw [hp' (by omega), hpe]; simp [Addr.add]; intro h; exact h.symm, hgl, fun k e hk => ?_⟩
    have hk2 : log[k0 + k]? = some e := by
      rw [List.getElem?_take] at hk
      split at hk
      · rw [List.getElem?_drop] at hk; exact hk
      · cases hk
    have hkl := (List.getElem?_eq_some_iff.1 hk2).1
    obtain ⟨g0, g1, g2, g3⟩ := pvc_get log (k0 + k) e hk2
    rw [Nat.add_mul] at g0 g1 g2 g3
    exact ⟨(hc _ (by omega)).trans g0, (hc _ (by omega)).trans g1, (hc _ (by omega)).trans g2, (hc _ (by omega)).trans g3⟩
  have HFIN : Hid (∀ (evs : List Ev) (cap2 : Nat), (∃ m, evs = (log.drop k0).take m) → evs.length ≤ cap2 → cap2 ≤ 9223372036854775807 → evs = partL log fr n → ER w (.slice p' evs.length cap2) (partL log fr n)) := hfin
  have hpart : partL log fr n = if 0 < n ∧ n < (((log.drop k0).length : Nat) : Int) then (log.drop k0).take n.toNat else log.drop k0 := by unfold partL; rw [hk0]
  obtain ⟨M, hM⟩ : ∃ M, log.length - k0 = M := ⟨_, rfl⟩
  have hdl : (log.drop k0).length = M := by rw [List.length_drop]; exact hM
  rw [hdl] at hpart
  have HPT : Hid (partL log fr n = if 0 < n ∧ n < (M : Int) then (log.drop k0).take n.toNat else log.drop k0) := hpart
  have HDL : Hid ((log.drop k0).length = M) := hdl
  obtain ⟨N, hN⟩ : ∃ N, log.length = N := ⟨_, rfl⟩
  rw [hN] at hcap hn hk0l hM hk0 ⊢
  have hkc : (k0 : Int) ≤ cap := by omega
  have hkn : (k0 : Int) ≤ N := by omega
  have hcM : M ≤ cap - k0 := by omega
  have hcm : cap - k0 ≤ 9223372036854775807 := by omega
  have HK0 : Hid (startN fr N = k0) := hk0
  clear h hp hp' hfin hpart hdl hk0 hN
  have FULL : Hid (¬ (0 < n ∧ n < (M : Int)) → ER w (.slice p' M (cap - k0)) (partL log fr n)) := fun hno => by
    have := HFIN.out (log.drop k0) (cap - k0) ⟨(log.drop k0).length, by rw [List.take_length]⟩ (by rw [HDL.out]; exact hcM) hcm (by rw [HPT.out, if_neg hno])
    rw [HDL.out] at this; exact this
  have CUT : Hid (0 < n → n < (M : Int) → ∃ q : Nat, n = q ∧ ER w (.slice p' q (cap - k0)) (partL log fr n)) := fun ha hb => by
    refine ⟨n.toNat, by omega, ?_⟩
    have hlen : ((log.drop k0).take n.toNat).length = n.toNat := by rw [List.length_take, HDL.out]; omega
    have := HFIN.out ((log.drop k0).take n.toNat) (cap - k0) ⟨n.toNat, rfl⟩ (by rw [hlen]; omega) hcm (by rw [HPT.out, if_pos ⟨ha, hb⟩])
    rw [hlen] at this; exact this
  clear HFIN HPT
  by_cases hneg : fr < 0
  · have hz : k0 = 0 := by have := HK0.out; unfold startN at this; rw [if_pos (by omega)] at this; exact this.symm
    subst hz
    have hpp : p' = p := by
      rw [← hif]
      by_cases e : cap = 0
      · rw [if_pos e]
      · rw [if_neg e]
        cases p with
        | none => rfl
        | some a => simp [Addr.add]
    subst hpp
    rw [Nat.sub_zero] at FULL CUT hcM hcm
    clear hif
    go_enter Tryz.func15, Tryz.ntmps15
    go_upto_region 6 with fail
    by_cases hn0 : 0 < n
    · by_cases hnM : n < (M : Int)
      · obtain ⟨q, hq, her⟩ := CUT.out hn0 hnM
        have HER : Hid (ER w (.slice p' q cap) (partL log fr n)) := her
        subst hq
        clear her CUT FULL
        have hqM : q ≤ cap := by omega
        go_wp2
        go_ret
        exact ⟨_, rfl, HER.out, rfl⟩
      · have HER : Hid (ER w (.slice p' M cap) (partL log fr n)) := FULL.out (fun h => hnM h.2)
        clear CUT FULL
        go_wp2
        go_ret
        exact ⟨_, rfl, HER.out, rfl⟩
    · have HER : Hid (ER w (.slice p' M cap) (partL log fr n)) := FULL.out (fun h => hn0 h.1)
      clear CUT FULL
      go_wp2
      go_ret
      exact ⟨_, rfl, HER.out, rfl⟩
  · by_cases hbig : (N : Int) < fr
    · have hz : k0 = N := by have := HK0.out; unfold startN at this; rw [if_neg (by omega)] at this; omega
      subst hz
      go_enter Tryz.func15, Tryz.ntmps15
      go_upto_region 6 with fail
      by_cases hn0 : 0 < n
      · by_cases hnM : n < (M : Int)
        · exact absurd hnM (by omega)
        · have HER : Hid (ER w (.slice p' M (cap - k0)) (partL log fr n)) := FULL.out (fun h => hnM h.2)
          clear CUT FULL
          go_wp2
          go_ret
          exact ⟨_, rfl, HER.out, rfl⟩
      · have HER : Hid (ER w (.slice p' M (cap - k0)) (partL log fr n)) := FULL.out (fun h => hn0 h.1)
        clear CUT FULL
        go_wp2
        go_ret
        exact ⟨_, rfl, HER.out, rfl⟩
    · have hz : fr = (k0 : Int) := by
        have := HK0.out
        unfold startN at this
        split at this <;> omega
      subst hz
      go_enter Tryz.func15, Tryz.ntmps15
      go_upto_region 6 with fail
      by_cases hn0 : 0 < n
      · by_cases hnM : n < (M : Int)
        · obtain ⟨q, hq, her⟩ := CUT.out hn0 hnM
          have HER : Hid (ER w (.slice p' q (cap - k0)) (partL log (k0 : Int) n)) := her
          subst hq
          clear her CUT FULL
          have hqM : q ≤ cap - k0 := by omega
          go_wp2
          go_ret
          exact ⟨_, rfl, HER.out, rfl⟩
        · have HER : Hid (ER w (.slice p' M (cap - k0)) (partL log (k0 : Int) n)) := FULL.out (fun h => hnM h.2)
          clear CUT FULL
          go_wp2
          go_ret
          exact ⟨_, rfl, HER.out, rfl⟩
      · have HER : Hid (ER w (.slice p' M (cap - k0)) (partL log (k0 : Int) n)) := FULL.out (fun h => hn0 h.1)
        clear CUT FULL
        go_wp2
        go_ret
        exact ⟨_, rfl, HER.out, rfl⟩
end Go.Proofs.YtploagfjajlloaaGreatDoor
