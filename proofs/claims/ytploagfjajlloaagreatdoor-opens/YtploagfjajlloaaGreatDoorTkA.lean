import Derived.Test.YtploagfjajlloaaGreatDoorLgX
import Derived.BigQuiet
import Derived.Deep.QuietTactic
namespace Go.Proofs.YtploagfjajlloaaGreatDoor
open Go.RowKit Jr

theorem LogIs.under {w w' : World} {g m : Nat} {v : Value} {log : List Ev} {S : ByteArray → Value} (h : LogIs w g m v log S) (hb : Below w.heap.size w w') : LogIs w' g m v log S := h.new hb

set_option maxRecDepth 10000 in
set_option maxHeartbeats 4000000 in
theorem jtake (a : Nat → Addr) (g m b o n cap : Nat) (v : Value) (log : List Ev) (S : ByteArray → Value) (c : ByteArray) (w0 w : World) (hs : Sen 3 w0 a) (hB : Below w0.heap.size w0 w) (h : LogIs w g m v log S) (hF : ∀ k, LFoot g m v S k → w0.heap.size ≤ k)
    (hn : 16 + n = c.size) (hc : n ≤ cap) (hcm : cap ≤ 9223372036854775807) (hbl : b < w.heap.size) (hbn : ¬ LFoot g m v S b) (hcell : ∀ i, i < n → w.cell? ⟨b, o + i, none⟩ = some (.int .u8 (byt c (16 + i) : Nat))) (hL : log.length + c.size ≤ 900000000) :
    Calls Tryz.prog 58 #[.pointer (some ⟨g, 0, none⟩), .slice (some ⟨b, o, none⟩) n cap] w fun e w' => e = .returned (.int .i64 ((take c log).2 - 16 : Nat)) ∧ ∃ v' S', LogIs w' g m v' (take c log).1 S' ∧ Kp (LFoot g m v S) w w' ∧ ∀ k, LFoot g m v' S' k → LFoot g m v S k ∨ w.heap.size ≤ k := by
  have HS : Hid (Sen 3 w0 a) := hs
  have HB : Hid (Below w0.heap.size w0 w) := hB
  have HF : Hid (∀ k, LFoot g m v S k → w0.heap.size ≤ k) := hF
  have HBN : Hid (¬ LFoot g m v S b) := hbn
  have HCE : Hid (∀ i, i < n → w.cell? ⟨b, o + i, none⟩ = some (.int .u8 (byt c (16 + i) : Nat))) := hcell
  have HN : Hid (16 + n = c.size) := hn
  have HH : Hid (LogIs w g m v log S) := h
  have hcs : c.size ≤ 900000000 := by omega
  have HL : Hid (log.length + c.size ≤ 900000000) := hL
  have hn9 : n ≤ 900000000 := by omega
  have HW0 : Hid (w0.heap.size ≤ w.heap.size) := hB.size
  clear hs hB hF hbn hcell hn h hL hcs
  go_enter Tryz.func58, Tryz.ntmps58
  go_upto_region 2 with fail
  go_loopw [5] (fun t wr => ∃ (k : Nat) (v' : Value) (log' : List Ev) (S' : ByteArray → Value), k ≤ n ∧ t = .int .i64 k ∧ Hid (LogIs wr g m v' log' S' ∧ Kp (LFoot g m v S) w wr ∧ ∀ k, LFoot g m v' S' k → LFoot g m v S k ∨ w.heap.size ≤ k) ∧ Hid (∃ f, c.size - (16 + k) < f ∧ takeF c f (16 + k) log' = take c log) ∧ Hid (log'.length ≤ log.length + k)) (fun t _ => n - (intOf t).toNat)
  case atStart => exact ⟨0, v, log, S, Nat.zero_le _, rfl, ⟨HH.out, Kp.refl _ _, fun k hk => Or.inl hk⟩, ⟨c.size + 1, by omega, rfl⟩, Nat.le_refl _⟩
  case round =>
    obtain ⟨k, v', log', S', hk, rfl, hI, hT, hl⟩ := hrel
    obtain ⟨hlog, hkp, hsub⟩ := hI.out
    have hBr : Below w0.heap.size w0 wr := HB.out.trans (hkp.below HF.out HW0.out)
    have HSr : Hid (Sen 3 wr a) := HS.out.on hBr (Nat.le_refl _)
    have hblr : b < wr.heap.size := Nat.lt_of_lt_of_le hbl hkp.size
    obtain ⟨off', hif, hoff⟩ : ∃ off', (if cap = k then some (⟨b, o, none⟩ : Addr) else some ⟨b, o + k, none⟩) = some ⟨b, off', none⟩ ∧ (k < cap → off' = o + k) := by
      by_cases e : cap = k
      · exact ⟨o, by rw [if_pos e], fun h => by omega⟩
      · exact ⟨o + k, by rw [if_neg e], fun _ => rfl⟩
    have hCr : ∀ i, i < n - k → wr.cell? ⟨b, off' + i, none⟩ = some (.int .u8 (byt c (16 + k + i) : Nat)) := fun i hi => by
      rw [hoff (by omega), Nat.add_assoc, Nat.add_assoc]
      exact hkp.cell (p := ⟨b, o + (k + i), none⟩) HBN.out (HCE.out (k + i) (by omega))
    have hkc : (k : Int) ≤ cap := by omega
    have hkn : (k : Int) ≤ n := by omega
    obtain ⟨r, hr⟩ : ∃ r, pAt c (16 + k) = r := ⟨_, rfl⟩
    have HP : Hid (Calls Tryz.prog 95 #[.slice (some ⟨b, off', none⟩) (n - k) (cap - k)] wr fun e w' => e = .returned (presV r) ∧ Below wr.heap.size wr w') := by
      have := jparse a b off' (n - k) (cap - k) (fun i => byt c (16 + k + i)) wr HSr.out (by omega) (by omega) (by omega) (fun i _ => byt_lt c _) hCr hblr
      have e : parseV (fun i => byt c (16 + k + i)) (n - k) = r := by
        rw [← hr]; unfold pAt
        have : c.size - (16 + k) = n - k := by have := HN.out; omega
        rw [this]
      rw [e] at this
      exact this
    have HR : Hid (pAt c (16 + k) = r) := hr
    have HLG : Hid (LogIs wr g m v' log' S') := hlog
    clear hr hlog hkp hsub hCr hoff hBr HSr
    go_upto_region 3 with (go_at_call 95; refine Calls.mono HP.out ?_; rintro e W1 ⟨rfl, hb1⟩)
    obtain ⟨W2, hW2⟩ : ∃ W2, W2 = W1.alloc (.cells (ev r.v r.p r.st r.d) 136) := ⟨_, rfl⟩
    have hb2 : Below wr.heap.size wr W2 := by rw [hW2]; exact hb1.alloc hb1.size _
    have ob2 : W2.heap[W1.heap.size]? = some (.cells (ev r.v r.p r.st r.d) 136 (0, 0)) := by rw [hW2]; exact obj_new _ _
    have hl2 : LogIs W2 g m v' log' S' := HLG.out.new hb2
    have e0 : W2.cell? ⟨W1.heap.size, 0, none⟩ = some (.int .i64 r.v) := cell_obj ob2
    have e1 : W2.cell? ⟨W1.heap.size, 1, none⟩ = some (.int .i64 r.p) := cell_obj ob2
    have e2 : W2.cell? ⟨W1.heap.size, 2, none⟩ = some (.string r.st) := cell_obj ob2
    have e3 : W2.cell? ⟨W1.heap.size, 3, none⟩ = some (.string r.d) := cell_obj ob2
    have HL2 : Hid (∀ q, LogIs (W2.drewN q) g m v' log' S') := fun q => hl2.new (below_drewN (Below.refl _ _) q)
    have HB2 : Hid (Below wr.heap.size wr W2) := hb2
    have hle : log'.length ≤ 900000000 := by have := HL.out; have := hl.out; have := HN.out; omega
    have hW2' : W1.alloc (.cells #[.int .i64 r.v, .int .i64 r.p, .string r.st, .string r.d] 136) = W2 := hW2.symm
    rw [hW2']
    obtain ⟨z, hz⟩ : ∃ z, W1.heap.size = z := ⟨_, rfl⟩
    rw [hz] at e0 e1 e2 e3 ob2 ⊢
    clear hW2 hW2' hb1 hb2 hl2 ob2 hz HP hif
    obtain ⟨PV, hPV⟩ : ∃ PV, PV = presV r := ⟨_, rfl⟩
    rw [← hPV]
    obtain ⟨AV, hAV⟩ : ∃ AV, AV = Value.agg (ev r.v r.p r.st r.d) := ⟨_, rfl⟩
    rw [← hAV]
    clear hPV hAV
    obtain ⟨V, hV⟩ : ∃ V, r.ver = V := ⟨_, rfl⟩
    rw [hV]
    have STOP : Hid (okNext log' (pAt c (16 + k)) = false → ∀ q, Ending.returned (.int .i64 k) = Ending.returned (.int .i64 ((take c log).2 - 16 : Nat)) ∧ ∃ v' S', LogIs (W2.drewN q) g m v' (take c log).1 S' ∧ Kp (LFoot g m v S) w (W2.drewN q) ∧ ∀ k, LFoot g m v' S' k → LFoot g m v S k ∨ w.heap.size ≤ k) := fun hno q => by
      obtain ⟨f, _, hf⟩ := hT.out
      rw [takeF_stop hno f] at hf
      rw [← hf]
      obtain ⟨_, hkp, hsub⟩ := hI.out
      refine ⟨by simp, v', S', HL2.out q, hkp.trans (Kp.of_new (below_drewN HB2.out q)), hsub⟩
    by_cases hv : V = 0
    · have hst : r.st.size ≤ 12 := by
        have h0 : (parseV (fun i => byt c (16 + k + i)) (c.size - (16 + k))).ver = 0 := by
          have := HR.out; unfold pAt at this; rw [this]; exact hV.trans hv
        obtain ⟨_, _, _, _, _, _, h7, h8⟩ := whole_facts h0
        rw [← h7] at h8
        have hr := HR.out; unfold pAt at hr
        rw [hr] at h8
        exact (may_zero h8).2.1
      have HST : Hid (r.st.size ≤ maxLen) := by show _ ≤ _; unfold maxLen; omega
      have hcnt := cnt_le log' r.st
      have d0 : ((V : Int) != 0) = false := by simp [hv]
      by_cases hp : r.p = (log'.length : Int)
      · have d1 : (r.p != (log'.length : Int)) = false := by simp [hp]
        by_cases hvv : r.v = (cnt log' r.st : Int) + 1
        · have d2 : (r.v != (cnt log' r.st : Int) + 1) = false := by simp [hvv]
          have hok : okNext log' (pAt c (16 + k)) = true := by rw [HR.out]; exact okNext_iff.2 ⟨hV.trans hv, hp, hvv⟩
          have hrn : 26 ≤ r.n ∧ k + r.n ≤ n := by
            have := ok_n hok
            rw [HR.out] at this
            have := HN.out; omega
          obtain ⟨hrn0, hrn1⟩ := hrn
          have HOK : Hid (okNext log' (pAt c (16 + k)) = true) := hok
          clear hvv hp hv hok STOP
          open Go.BigFrame in go_big_quiet (first | (go_at_call 53; refine Calls.quiet_of_same (jnext g m v' log' _ (HL2.out _).le)) | (go_at_call 96; refine Calls.quiet_of_same (jversion g m v' log' S' r.st _ (HL2.out _) HST.out)))
          obtain ⟨W3, hW3⟩ : ∃ W3, W3 = W2.drewN nq := ⟨_, rfl⟩
          have HL3 : Hid (LogIs W3 g m v' log' S') := by show LogIs W3 g m v' log' S'; rw [hW3]; exact HL2.out nq
          have HB3 : Hid (Below wr.heap.size wr W3) := by show Below _ _ _; rw [hW3]; exact below_drewN HB2.out nq
          have g0 : W3.cell? ⟨z, 0, none⟩ = some (.int .i64 r.v) := by rw [hW3]; exact e0
          have g1 : W3.cell? ⟨z, 1, none⟩ = some (.int .i64 r.p) := by rw [hW3]; exact e1
          have g2 : W3.cell? ⟨z, 2, none⟩ = some (.string r.st) := by rw [hW3]; exact e2
          have g3 : W3.cell? ⟨z, 3, none⟩ = some (.string r.d) := by rw [hW3]; exact e3
          rw [← hW3]
          clear hW3 e0 e1 e2 e3 HL2 HB2 d0 d1 d2 hcnt hst
          go_wp2_with (go_at_call 97; refine Calls.mono (jadd g m v' log' S' (evOf r) W3 HL3.out (by omega) HST.out) ?_; rintro e W4 ⟨rfl, v2, S2, hl4, hk4, hs4⟩)
          go_roundw
          case rel =>
            obtain ⟨f, hf1, hf⟩ := hT.out
            obtain ⟨_, hkp, hsub⟩ := hI.out
            refine ⟨k + r.n, v2, log' ++ [evOf r], S2, by omega, by go_num, ⟨hl4, ?_, fun q hq => ?_⟩, ?_, ?_⟩
            · refine (hkp.trans (Kp.of_new HB3.out)).andThen hk4 fun i hi hf => ?_
              rcases hsub i hf with h | h
              · exact h
              · omega
            · rcases hs4 q hq with h | h
              · exact hsub q h
              · right; have := HB3.out.size; have := hkp.size; omega
            · cases f with
              | zero => omega
              | succ f =>
                refine ⟨f, by have := HN.out; omega, ?_⟩
                rw [← hf]
                simp only [takeF]
                rw [if_pos HOK.out, HR.out, Nat.add_assoc]
            · have := hl.out
              show (log' ++ [evOf r]).length ≤ _
              rw [List.length_append]; simp; omega
          case measure => simp [intOf]; omega
        · have d2 : (r.v != (cnt log' r.st : Int) + 1) = true := by simp [hvv]
          have hno : okNext log' (pAt c (16 + k)) = false := by rw [HR.out, Bool.eq_false_iff]; intro h; exact hvv (okNext_iff.1 h).2.2
          have HNO : Hid _ := STOP.out hno
          clear hvv hp hv hno STOP
          open Go.BigFrame in go_big_quiet (first | (go_at_call 53; refine Calls.quiet_of_same (jnext g m v' log' _ (HL2.out _).le)) | (go_at_call 96; refine Calls.quiet_of_same (jversion g m v' log' S' r.st _ (HL2.out _) HST.out)))
          go_wp2
          go_ret
          exact HNO.out nq
      · have d1 : (r.p != (log'.length : Int)) = true := by simp [hp]
        have hno : okNext log' (pAt c (16 + k)) = false := by rw [HR.out, Bool.eq_false_iff]; intro h; exact hp (okNext_iff.1 h).2.1
        have HNO : Hid _ := STOP.out hno
        clear hp hv hno STOP
        open Go.BigFrame in go_big_quiet (first | (go_at_call 53; refine Calls.quiet_of_same (jnext g m v' log' _ (HL2.out _).le)) | (go_at_call 96; refine Calls.quiet_of_same (jversion g m v' log' S' r.st _ (HL2.out _) HST.out)))
        go_wp2
        go_ret
        exact HNO.out nq
    · have hd : ((V : Int) != 0) = true := by simpa using hv
      have hno : okNext log' (pAt c (16 + k)) = false := by rw [HR.out, Bool.eq_false_iff]; intro h; exact hv (hV.symm.trans (okNext_iff.1 h).1)
      have HNO : Hid _ := STOP.out hno
      clear hno STOP
      open Go.BigFrame in go_big_quiet (fail)
      go_wp2
      go_ret
      exact HNO.out nq
end Go.Proofs.YtploagfjajlloaaGreatDoor
