import Derived.Test.YtploagfjajlloaaGreatDoorStX
namespace Go.Proofs.YtploagfjajlloaaGreatDoor
open Go.RowKit Jr

/-- Where the events from a position on begin. -/
def startN (fr : Int) (n : Nat) : Nat := if fr ≤ 0 then 0 else min fr.toNat n
theorem startN_le (fr : Int) (n : Nat) : startN fr n ≤ n := by unfold startN; split <;> omega

set_option maxRecDepth 10000 in
set_option maxHeartbeats 1000000 in
theorem jstart (fr : Int) (n : Nat) (w : World) (h1 : -9223372036854775808 ≤ fr) (h2 : fr ≤ 9223372036854775807) (_hn : n ≤ 1000000000) :
    Calls Tryz.prog 71 #[.int .i64 fr, .int .i64 0, .int .i64 n] w fun e w' => e = .returned (.int .i64 (startN fr n)) ∧ w' = w := by
  by_cases h : fr ≤ 0
  · have e : startN fr n = 0 := by unfold startN; rw [if_pos h]
    rw [e]
    go_enter Tryz.func71, Tryz.ntmps71
    go_wp2
    go_ret
    exact ⟨rfl, rfl⟩
  · obtain ⟨f, rfl⟩ : ∃ f : Nat, fr = f := ⟨fr.toNat, by omega⟩
    have e : startN (f : Int) n = min f n := by unfold startN; rw [if_neg h]; simp
    rw [e]
    go_enter Tryz.func71, Tryz.ntmps71
    go_wp2
    go_ret
    refine ⟨?_, rfl⟩
    show Ending.returned (Value.int .i64 (min (f : Int) (n : Int))) = Ending.returned (Value.int .i64 ((min f n : Nat) : Int))
    rw [show min (f : Int) (n : Int) = ((min f n : Nat) : Int) from by omega]

/-- What All tells, from a position on, till the caller stops. -/
def partL (log : List Ev) (fr n : Int) : List Ev := if 0 < n ∧ n < (((log.drop (startN fr log.length)).length : Nat) : Int) then (log.drop (startN fr log.length)).take n.toNat else log.drop (startN fr log.length)

theorem YS.nottag {w : World} {rb sx lb nb : Nat} {lv : Value} {evs : List Ev} {stop : Bool} {n : Int} {B : Nat} (h : YS w rb sx lb nb lv evs stop n B) {k : Nat} {C : Array Value} {t : TypeId} {fr : Nat × Nat} (ho : w.heap[k]? = some (.cells C t fr)) (h1 : t ≠ 4) (h2 : t ≠ 83) : k ≠ rb ∧ k ≠ sx ∧ k ≠ lb := ⟨tag_ne ho h.r h1, tag_ne ho h.s h1, tag_ne ho h.l h2⟩

set_option maxRecDepth 10000 in
set_option maxHeartbeats 8000000 in
theorem jall1 (b1 b2 sb g m : Nat) (v : Value) (log : List Ev) (fr n : Int) (rb sx lb nb B : Nat) (w : World) (h1 : -9223372036854775808 ≤ fr) (h2 : fr ≤ 9223372036854775807) (hn : log.length ≤ 1000000000)
    (o1 : w.heap[b1]? = some (.cells #[.pointer (some ⟨sb, 0, none⟩)] 52 (0, 0))) (o2 : w.heap[b2]? = some (.cells #[.int .i64 fr] 2 (0, 0))) (hsb : w.heap[sb]? = some (sobj (.pointer (some ⟨g, 0, none⟩)) false)) (hle : LE w g m v log)
    (hy : YS w rb sx lb nb (.slice none 0 0) [] false n B) (hB : B ≤ w.heap.size) :
    Calls Tryz.prog 69 #[.func (.func 43) #[] #[.pointer (some ⟨rb, 0, none⟩), .pointer (some ⟨sx, 0, none⟩), .pointer (some ⟨lb, 0, none⟩), .pointer (some ⟨nb, 0, none⟩)], .pointer (some ⟨b1, 0, none⟩), .pointer (some ⟨b2, 0, none⟩)] w fun e w' => e = .returned (.tuple #[]) ∧ ∃ lv stop, YS w' rb sx lb nb lv (partL log fr n) stop n B ∧ Kp (fun k => (k = rb ∨ k = sx ∨ k = lb) ∨ k = sb) w w' ∧ w'.heap[sb]? = some (sobj (.pointer (some ⟨g, 0, none⟩)) false) := by
  have c1 : w.cell? ⟨b1, 0, none⟩ = some (.pointer (some ⟨sb, 0, none⟩)) := cell_obj o1
  have HSB : Hid (w.heap[sb]? = some (sobj (.pointer (some ⟨g, 0, none⟩)) false)) := hsb
  have HLE : Hid (LE w g m v log) := hle
  have HY : Hid (YS w rb sx lb nb (.slice none 0 0) [] false n B) := hy
  have HO2 : Hid (w.heap[b2]? = some (.cells #[.int .i64 fr] 2 (0, 0))) := o2
  obtain ⟨p, cap, rfl, hcap, hmax, hp⟩ := row_shape hle.row
  unfold maxLen at hmax
  have HP : Hid (0 < log.length → ∃ ge, p = some ⟨ge, 0, none⟩ ∧ (∃ C, w.heap[ge]? = some (.cells C 136 (0, 0))) ∧ ∀ j (e : Ev), log[j]? = some e → w.cell? ⟨ge, j * 4, none⟩ = some (.int .i64 e.v) ∧ w.cell? ⟨ge, j * 4 + 1, none⟩ = some (.int .i64 e.p) ∧ w.cell? ⟨ge, j * 4 + 2, none⟩ = some (.string e.st) ∧ w.cell? ⟨ge, j * 4 + 3, none⟩ = some (.string e.d)) := fun h0 => by
    obtain ⟨ge, hpe, hob, _, hc⟩ := hp h0
    obtain ⟨C, hC⟩ := row_tag hle.row hob
    refine ⟨ge, hpe, ⟨C, hC⟩, fun j e hj => ?_⟩
    have hjl := (List.getElem?_eq_some_iff.1 hj).1
    obtain ⟨g0, g1, g2, g3⟩ := evc_get log j e hj
    exact ⟨(hc _ (by omega)).trans g0, (hc _ (by omega)).trans g1, (hc _ (by omega)).trans g2, (hc _ (by omega)).trans g3⟩
  clear hsb hle hy o1 o2 hp
  go_enter Tryz.func69, Tryz.ntmps69
  go_upto_region 1 with (go_at_call 70; refine Calls.mono (jevents sb g m _ log w HSB.out HLE.out) ?_; rintro e W1 ⟨rfl, hk1, hs1⟩)
  have HK1 : Hid (Kp (· = sb) w W1) := hk1
  have HY1 : Hid (YS W1 rb sx lb nb (.slice none 0 0) [] false n B) := by
    have hh := HY.out
    exact hh.kp hk1 (tag_ne hh.r HSB.out (by decide)) (tag_ne hh.s HSB.out (by decide)) (tag_ne hh.l HSB.out (by decide)) (tag_ne hh.n HSB.out (by decide)) (fun k e => by cases e)
  have c2 : W1.cell? ⟨b2, 0, none⟩ = some (.int .i64 fr) := cell_obj (hk1.obj (tag_ne HO2.out HSB.out (by decide)) HO2.out)
  have HS1 : Hid (W1.heap[sb]? = some (sobj (.pointer (some ⟨g, 0, none⟩)) false)) := hs1
  clear hk1 hs1 c1
  obtain ⟨k0, hk0⟩ : ∃ k0, startN fr log.length = k0 := ⟨_, rfl⟩
  have hk0l : k0 ≤ log.length := by rw [← hk0]; exact startN_le _ _
  have HK0 : Hid (startN fr log.length = k0) := hk0
  have HJS : Hid (Calls Tryz.prog 71 #[.int .i64 fr, .int .i64 0, .int .i64 log.length] W1 fun e w' => e = .returned (.int .i64 k0) ∧ w' = W1) := by
    rw [← hk0]; exact jstart fr log.length W1 h1 h2 hn
  clear hk0
  obtain ⟨N, hN⟩ : ∃ N, log.length = N := ⟨_, rfl⟩
  have HN : Hid (log.length = N) := hN
  rw [hN] at hcap hn hk0l HJS ⊢
  clear hN
  have hkc : (k0 : Int) ≤ cap := by omega
  have hkn : (k0 : Int) ≤ N := by omega
  obtain ⟨p', hif, hp'⟩ : ∃ p', (if cap = k0 then p else Option.map (fun x => x.add (k0 * 4)) p) = p' ∧ (k0 < cap → p' = Option.map (fun x => x.add (k0 * 4)) p) := by
    by_cases e : cap = k0
    · exact ⟨p, by rw [if_pos e], fun h => by omega⟩
    · exact ⟨_, by rw [if_neg e], fun _ => rfl⟩
  go_upto_region 2 with (go_at_call 71; refine Calls.mono HJS.out ?_; rintro e w' ⟨rfl, hw⟩; rw [hw]; clear hw)
  clear hif c2 HJS
  obtain ⟨M, hM⟩ : ∃ M, N - k0 = M := ⟨_, rfl⟩
  rw [hM]
  have HM : Hid ((log.drop k0).length = M) := by
    show _ = _
    rw [List.length_drop, HN.out]; exact hM
  have HYL : Hid (∀ k C t fr', w.heap[k]? = some (.cells C t fr') → t ≠ 4 → t ≠ 83 → t ≠ 115 → ¬ ((k = rb ∨ k = sx ∨ k = lb) ∨ k = sb)) := fun k C t fr' ho a1 a2 a3 hc => by
    have := HY.out.nottag ho a1 a2
    rcases hc with (rfl | rfl | rfl) | rfl
    · exact this.1 rfl
    · exact this.2.1 rfl
    · exact this.2.2 rfl
    · exact tag_ne ho HSB.out a3 rfl
  go_loopw [16] (fun i wr => ∃ (j : Nat) (lv : Value), j ≤ M ∧ i = .int .i64 j ∧ Hid (YS wr rb sx lb nb lv ((log.drop k0).take j) false n B ∧ Kp (fun k => (k = rb ∨ k = sx ∨ k = lb) ∨ k = sb) w wr ∧ (∀ k, lv.ownBlock = some k → w.heap.size ≤ k) ∧ wr.heap[sb]? = some (sobj (.pointer (some ⟨g, 0, none⟩)) false)) ∧ Hid (n ≤ 0 ∨ (j : Int) < n)) (fun i _ => M - (intOf i).toNat)
  case atStart => exact ⟨0, _, Nat.zero_le _, rfl, ⟨HY1.out, HK1.out.mono (fun k _ e => Or.inr e), (fun k e => by cases e), HS1.out⟩, by by_cases h : n ≤ 0; exact Or.inl h; exact Or.inr (by omega)⟩
  case round =>
    obtain ⟨j, lv, hj, rfl, hR, hnj⟩ := hrel
    obtain ⟨hys, hkp, hlv, hsb⟩ := hR.out
    by_cases hlt : j < M
    · obtain ⟨ge, rfl, ⟨C, hC⟩, hcells⟩ := HP.out (by rw [HN.out]; omega)
      have hp2 : p' = some ⟨ge, k0 * 4, none⟩ := by rw [hp' (by omega)]; simp [Addr.add]; intro h; exact h.symm
      subst hp2
      have hjl : k0 + j < log.length := by rw [HN.out]; omega
      obtain ⟨e, he⟩ : ∃ e, log[k0 + j]? = some e := ⟨_, List.getElem?_eq_getElem hjl⟩
      obtain ⟨g0, g1, g2, g3⟩ := hcells (k0 + j) e he
      rw [Nat.add_mul] at g0 g1 g2 g3
      have hnf := HYL.out ge C _ _ hC (by decide) (by decide) (by decide)
      have e0 : wr.cell? ⟨ge, k0 * 4 + j * 4, none⟩ = some (.int .i64 e.v) := hkp.cell (p := ⟨ge, k0 * 4 + j * 4, none⟩) hnf g0
      have e1 : wr.cell? ⟨ge, k0 * 4 + j * 4 + 1, none⟩ = some (.int .i64 e.p) := hkp.cell (p := ⟨ge, k0 * 4 + j * 4 + 1, none⟩) hnf g1
      have e2 : wr.cell? ⟨ge, k0 * 4 + j * 4 + 2, none⟩ = some (.string e.st) := hkp.cell (p := ⟨ge, k0 * 4 + j * 4 + 2, none⟩) hnf g2
      have e3 : wr.cell? ⟨ge, k0 * 4 + j * 4 + 3, none⟩ = some (.string e.d) := hkp.cell (p := ⟨ge, k0 * 4 + j * 4 + 3, none⟩) hnf g3
      have htk : Hid ((log.drop k0).take (j + 1) = (log.drop k0).take j ++ [e]) := by
        show _ = _
        rw [List.take_add_one, List.getElem?_drop, he]; rfl
      have hlen : ((log.drop k0).take j).length = j := by rw [List.length_take, HM.out]; omega
      have HR : Hid (YS wr rb sx lb nb lv ((log.drop k0).take j) false n B ∧ Kp (fun k => (k = rb ∨ k = sx ∨ k = lb) ∨ k = sb) w wr ∧ (∀ k, lv.ownBlock = some k → w.heap.size ≤ k) ∧ wr.heap[sb]? = some (sobj (.pointer (some ⟨g, 0, none⟩)) false)) := ⟨hys, hkp, hlv, hsb⟩
      clear g0 g1 g2 g3 hcells hnf hC he hjl hys hkp hlv hR hsb
      go_upto_region 4 with fail
      have hbA : Below wr.heap.size wr (wr.alloc (.cells (ebox e) 136)) := (Below.refl _ _).alloc (Nat.le_refl _) _
      have oz : (wr.alloc (.cells (ebox e) 136)).heap[wr.heap.size]? = some (.cells (ebox e) 136 (0, 0)) := obj_new _ _
      obtain ⟨W2, hW2⟩ : ∃ W2, W2 = wr.alloc (.cells (ebox e) 136) := ⟨_, rfl⟩
      rw [← hW2] at hbA oz
      have hW2' : wr.alloc (.cells #[.int .i64 e.v, .int .i64 e.p, .string e.st, .string e.d] 136) = W2 := hW2.symm
      rw [hW2']
      have z0 : W2.cell? ⟨wr.heap.size, 0, none⟩ = some (.int .i64 e.v) := cell_obj oz
      have z1 : W2.cell? ⟨wr.heap.size, 1, none⟩ = some (.int .i64 e.p) := cell_obj oz
      have z2 : W2.cell? ⟨wr.heap.size, 2, none⟩ = some (.string e.st) := cell_obj oz
      have z3 : W2.cell? ⟨wr.heap.size, 3, none⟩ = some (.string e.d) := cell_obj oz
      obtain ⟨zb, hzb⟩ : ∃ zb, wr.heap.size = zb := ⟨_, rfl⟩
      rw [hzb] at z0 z1 z2 z3 ⊢
      have HBA : Hid (Below wr.heap.size wr W2) := hbA
      have HYW : Hid (∀ st, (((j : Int) + 1) == n) = st → Calls Tryz.prog 43 #[.agg (ebox e), .pointer (some ⟨rb, 0, none⟩), .pointer (some ⟨sx, 0, none⟩), .pointer (some ⟨lb, 0, none⟩), .pointer (some ⟨nb, 0, none⟩)] W2 fun r w' => r = .returned (.bool (!st)) ∧ ∃ lv', YS w' rb sx lb nb lv' ((log.drop k0).take (j + 1)) st n B ∧ Kp (YFoot rb sx lb lv) W2 w' ∧ ∀ k, lv'.ownBlock = some k → lv.ownBlock = some k ∨ W2.heap.size ≤ k) := fun st hst => by
        rw [htk.out]
        exact pyield rb sx lb nb lv ((log.drop k0).take j) n B e st W2 (HR.out.1.new hbA) (by rw [hlen]; omega) (Nat.le_trans hB (Nat.le_trans HR.out.2.1.size hbA.size)) (by rw [hlen]; exact hst)
      have HKQ : Hid (∀ (W3 : World) (lv' : Value), Kp (YFoot rb sx lb lv) W2 W3 → (∀ k, lv'.ownBlock = some k → lv.ownBlock = some k ∨ W2.heap.size ≤ k) → Kp (fun k => (k = rb ∨ k = sx ∨ k = lb) ∨ k = sb) w W3 ∧ (∀ k, lv'.ownBlock = some k → w.heap.size ≤ k) ∧ W3.heap[sb]? = some (sobj (.pointer (some ⟨g, 0, none⟩)) false)) := fun W3 lv' hk hl => by
        obtain ⟨hys, hkp, hlv, hsb⟩ := HR.out
        refine ⟨(hkp.trans (Kp.of_new HBA.out)).andThen hk fun i hi hf => ?_, fun k hk' => ?_, ?_⟩
        · rcases hf with h | h | h | h
          · exact Or.inl (Or.inl h)
          · exact Or.inl (Or.inr (Or.inl h))
          · exact Or.inl (Or.inr (Or.inr h))
          · have := hlv i h; omega
        · rcases hl k hk' with h | h
          · exact hlv k h
          · exact Nat.le_trans hkp.size (Nat.le_trans HBA.out.size h)
        · have hn3 := hys.nottag hsb (by decide) (by decide)
          refine hk.obj ?_ (below_obj HBA.out (heap_lt hsb) hsb)
          rintro (h | h | h | h)
          · exact hn3.1 h
          · exact hn3.2.1 h
          · exact hn3.2.2 h
          · obtain ⟨C', hC'⟩ := row_tag hys.row h
            exact tag_ne hsb hC' (by decide) rfl
      clear hbA oz hW2 hW2' hzb e0 e1 e2 e3 hlen HR
      by_cases hst : ((j : Int) + 1) = n
      · have hst' : (((j : Int) + 1) == n) = true := by simpa using hst
        have HC : Hid _ := HYW.out true hst'
        clear HYW
        go_wp2_with (go_at_call 43; refine Calls.mono HC.out ?_; rintro r W3 ⟨rfl, lv3, hy3, hk3, hl3⟩)
        refine bodyPost_ret (results_none rfl _ _ _) rfl ⟨rfl, lv3, true, ?_, (HKQ.out W3 lv3 hk3 hl3).1, (HKQ.out W3 lv3 hk3 hl3).2.2⟩
        have e4 : (log.drop k0).take (j + 1) = partL log fr n := by
          unfold partL
          rw [HK0.out, HM.out]
          by_cases hnM : 0 < n ∧ n < (M : Int)
          · rw [if_pos hnM]
            have : n.toNat = j + 1 := by omega
            rw [this]
          · rw [if_neg hnM]
            have : M = j + 1 := by omega
            rw [List.take_of_length_le (by rw [HM.out]; omega)]
        rw [← e4]; exact hy3
      · have hst' : (((j : Int) + 1) == n) = false := by simpa using hst
        have HC : Hid _ := HYW.out false hst'
        clear HYW
        go_wp2_with (go_at_call 43; refine Calls.mono HC.out ?_; rintro r W3 ⟨rfl, lv3, hy3, hk3, hl3⟩)
        go_roundw
        case rel =>
          obtain ⟨q1, q2, q3⟩ := HKQ.out W3 lv3 hk3 hl3
          exact ⟨j + 1, lv3, by omega, by go_num, ⟨hy3, q1, q2, q3⟩, by have := hnj.out; show n ≤ 0 ∨ ((j + 1 : Nat) : Int) < n; omega⟩
        case measure => simp [intOf]; omega
    · obtain rfl : j = M := by omega
      have HR : Hid (YS wr rb sx lb nb lv ((log.drop k0).take j) false n B ∧ Kp (fun k => (k = rb ∨ k = sx ∨ k = lb) ∨ k = sb) w wr ∧ wr.heap[sb]? = some (sobj (.pointer (some ⟨g, 0, none⟩)) false)) := ⟨hys, hkp, hsb⟩
      clear hys hkp hlv hR hsb
      go_wp2
      refine bodyPost_end (results_none rfl _ _ _) rfl ⟨rfl, lv, false, ?_, HR.out.2.1, HR.out.2.2⟩
      have e4 : (log.drop k0).take j = partL log fr n := by
        unfold partL
        rw [HK0.out, HM.out, List.take_of_length_le (by rw [HM.out]; omega), if_neg (by have := hnj.out; omega)]
      rw [← e4]; exact HR.out.1
end Go.Proofs.YtploagfjajlloaaGreatDoor
namespace Go.Proofs.YtploagfjajlloaaGreatDoor
open Go.RowKit Jr

set_option maxRecDepth 10000 in
set_option maxHeartbeats 1000000 in
theorem jall (sb : Nat) (fr : Int) (w : World) :
    Calls Tryz.prog 42 #[.pointer (some ⟨sb, 0, none⟩), .int .i64 fr] w fun e w' => ∃ b1 b2, e = .returned (.func (.func 69) #[] #[.pointer (some ⟨b1, 0, none⟩), .pointer (some ⟨b2, 0, none⟩)]) ∧ w'.heap[b1]? = some (.cells #[.pointer (some ⟨sb, 0, none⟩)] 52 (0, 0)) ∧ w'.heap[b2]? = some (.cells #[.int .i64 fr] 2 (0, 0)) ∧ Below w.heap.size w w' := by
  have hmf := mkf
  go_enter Tryz.func42, Tryz.ntmps42
  go_wp2
  go_ret
  refine ⟨w.heap.size, w.heap.size + 1, rfl, obj_alloc (obj_new _ _), ?_, ((Below.refl _ _).alloc (Nat.le_refl _) _).alloc (by simp) _⟩
  have := obj_new (w.alloc (.cells #[.pointer (some ⟨sb, 0, none⟩)] 52)) (.cells #[.int .i64 fr] 2)
  simpa using this

theorem funNil (b1 b2 : Value) (w : World) : (binOp BinOp.eql 131 (.func (.func 69) #[] #[b1, b2]) .nilFunc).run Tryz.prog w = .ok (.bool false) w := by kernel_rfl

set_option maxRecDepth 10000 in
set_option maxHeartbeats 4000000 in
theorem pall (ps sb d g m : Nat) (v : Value) (log : List Ev) (S : ByteArray → Value) (fr n : Int) (w : World) (h : OSt w ps sb d g m v log S) (h1 : -9223372036854775808 ≤ fr) (h2 : fr ≤ 9223372036854775807) (hn : log.length ≤ 1000000000) :
    Calls Tryz.prog 30 #[.pointer (some ⟨ps, 0, none⟩), .int .i64 fr, .int .i64 n] w fun e w' => ∃ lv, e = .returned (.tuple #[lv, .bool true]) ∧ w'.ownsRow w.heap.size 87 4 lv (partL log fr n).length (pvc (partL log fr n)) ∧ Kp (· = sb) w w' ∧ w'.heap[sb]? = some (sobj (.pointer (some ⟨g, 0, none⟩)) false) := by
  have hmf := mkf
  have hfn := funNil
  obtain ⟨W0, hW0⟩ : ∃ W0, W0 = ((w.alloc (.cells #[.int .i64 n] 3)).alloc (.cells #[.slice none 0 0] 83)).alloc (.cells #[.bool false] 4) := ⟨_, rfl⟩
  have hb0 : Below w.heap.size w W0 := by rw [hW0]; exact (((Below.refl _ _).alloc (Nat.le_refl _) _).alloc (by simp) _).alloc (by simp; omega) _
  have on : W0.heap[w.heap.size]? = some (.cells #[.int .i64 n] 3 (0, 0)) := by rw [hW0]; exact obj_alloc (obj_alloc (obj_new _ _))
  have ol : W0.heap[w.heap.size + 1]? = some (.cells #[.slice none 0 0] 83 (0, 0)) := by
    have := obj_new (w.alloc (.cells #[.int .i64 n] 3)) (.cells #[.slice none 0 0] 83)
    rw [hW0]; exact obj_alloc (by simpa using this)
  have or : W0.heap[w.heap.size + 1 + 1]? = some (.cells #[.bool false] 4 (0, 0)) := by
    have := obj_new ((w.alloc (.cells #[.int .i64 n] 3)).alloc (.cells #[.slice none 0 0] 83)) (.cells #[.bool false] 4)
    rw [hW0]; simpa using this
  have opp := below_obj hb0 (heap_lt h.ps) h.ps
  have cp : W0.cell? ⟨ps, 0, none⟩ = some (.pointer (some ⟨sb, 0, none⟩)) := cell_obj opp
  have HB0 : Hid (Below w.heap.size w W0) := hb0
  have HN : Hid (W0.heap[w.heap.size]? = some (.cells #[.int .i64 n] 3 (0, 0))) := on
  have HL : Hid (W0.heap[w.heap.size + 1]? = some (.cells #[.slice none 0 0] 83 (0, 0))) := ol
  have HR : Hid (W0.heap[w.heap.size + 1 + 1]? = some (.cells #[.bool false] 4 (0, 0))) := or
  have HSB : Hid (W0.heap[sb]? = some (sobj (.pointer (some ⟨g, 0, none⟩)) false)) := below_obj hb0 (heap_lt h.sb) h.sb
  have HLE : Hid (LE W0 g m v log) := (h.lg.new hb0).le
  have hsw : sb < w.heap.size := heap_lt h.sb
  clear h hb0 on ol or opp
  go_enter Tryz.func30, Tryz.ntmps30
  go_upto_region 1 with fail
  have hW0' : ((w.alloc (.cells #[.int .i64 n] 3)).alloc (.cells #[.slice none 0 0] 83)).alloc (.cells #[.bool false] 4) = W0 := hW0.symm
  rw [hW0']
  clear hW0 hW0'
  go_upto_region 4 with (go_at_call 42; refine Calls.mono (jall sb fr W0) ?_; rintro e W1 ⟨b1, b2, rfl, o1, o2, hb1⟩)
  have or1 := below_obj hb1 (heap_lt HR.out) HR.out
  have r1 : W1.cell? ⟨w.heap.size + 1 + 1, 0, none⟩ = some (.bool false) := cell_obj or1
  have rf1 : W1.frozen? ⟨w.heap.size + 1 + 1, 0, none⟩ = false := frozen_obj or1
  have hkr : Kp (· = w.heap.size + 1 + 1) W1 (W1.setCell ⟨w.heap.size + 1 + 1, 0, none⟩ (.bool true)) := (Kp.refl (· = w.heap.size + 1 + 1) W1).setCell (a := ⟨w.heap.size + 1 + 1, 0, none⟩) (fun _ => rfl) _
  have hbs : Below (W1.setCell ⟨w.heap.size + 1 + 1, 0, none⟩ (.bool true)).heap.size (W1.setCell ⟨w.heap.size + 1 + 1, 0, none⟩ (.bool true)) ((W1.setCell ⟨w.heap.size + 1 + 1, 0, none⟩ (.bool true)).alloc (.cells #[.bool false] 4)) := (Below.refl _ _).alloc (Nat.le_refl _) _
  have keep : ∀ {k : Nat} {C : Array Value} {t : TypeId} {fr' : Nat × Nat}, W1.heap[k]? = some (.cells C t fr') → t ≠ 4 → ((W1.setCell ⟨w.heap.size + 1 + 1, 0, none⟩ (.bool true)).alloc (.cells #[.bool false] 4)).heap[k]? = some (.cells C t fr') := fun {k C t fr'} ho hne => by
    have hk := hkr.obj (tag_ne ho or1 hne) ho
    exact below_obj hbs (heap_lt hk) hk
  have HY : Hid (YS ((W1.setCell ⟨w.heap.size + 1 + 1, 0, none⟩ (.bool true)).alloc (.cells #[.bool false] 4)) (w.heap.size + 1 + 1) W1.heap.size (w.heap.size + 1) w.heap.size (.slice none 0 0) [] false n w.heap.size) := by
    have hr : (W1.setCell ⟨w.heap.size + 1 + 1, 0, none⟩ (.bool true)).heap[w.heap.size + 1 + 1]? = some (.cells #[.bool true] 4 (0, 0)) := box_set or1
    have hsx := obj_new (W1.setCell ⟨w.heap.size + 1 + 1, 0, none⟩ (.bool true)) (.cells #[.bool false] 4)
    rw [size_setCell] at hsx
    exact ⟨below_obj hbs (heap_lt hr) hr, hsx, keep (below_obj hb1 (heap_lt HL.out) HL.out) (by decide), keep (below_obj hb1 (heap_lt HN.out) HN.out) (by decide), World.ownsRow_nil _ _ _ _, by have := heap_lt or1; omega⟩
  have HO1 : Hid (((W1.setCell ⟨w.heap.size + 1 + 1, 0, none⟩ (.bool true)).alloc (.cells #[.bool false] 4)).heap[b1]? = some (.cells #[.pointer (some ⟨sb, 0, none⟩)] 52 (0, 0))) := keep o1 (by decide)
  have HO2 : Hid (((W1.setCell ⟨w.heap.size + 1 + 1, 0, none⟩ (.bool true)).alloc (.cells #[.bool false] 4)).heap[b2]? = some (.cells #[.int .i64 fr] 2 (0, 0))) := keep o2 (by decide)
  have HS3 : Hid (((W1.setCell ⟨w.heap.size + 1 + 1, 0, none⟩ (.bool true)).alloc (.cells #[.bool false] 4)).heap[sb]? = some (sobj (.pointer (some ⟨g, 0, none⟩)) false)) := keep (below_obj hb1 (heap_lt HSB.out) HSB.out) (by decide)
  have hbw : Below w.heap.size w ((W1.setCell ⟨w.heap.size + 1 + 1, 0, none⟩ (.bool true)).alloc (.cells #[.bool false] 4)) := (HB0.out.trans (hb1.mono HB0.out.size)).trans ((hkr.below (B := w.heap.size) (fun k e => by omega) (Nat.le_trans HB0.out.size hb1.size)).trans (hbs.mono (Nat.le_trans (Nat.le_trans HB0.out.size hb1.size) hkr.size)))
  have HL3 : Hid (LE ((W1.setCell ⟨w.heap.size + 1 + 1, 0, none⟩ (.bool true)).alloc (.cells #[.bool false] 4)) g m v log) := by
    have h0 : LE W1 g m v log := HLE.out.kp (F := fun _ => False) (Kp.of_new hb1) (fun _ _ h => h)
    refine (h0.kp hkr fun k hf e' => ?_).kp (F := fun _ => False) (Kp.of_new hbs) (fun _ _ h => h)
    subst e'
    rcases hf with e' | hf
    · exact tag_ne or1 h0.obj (by decide) e'
    · obtain ⟨C, hC⟩ := row_tag h0.row hf
      exact tag_ne or1 hC (by decide) rfl
  have HBW : Hid (Below w.heap.size w ((W1.setCell ⟨w.heap.size + 1 + 1, 0, none⟩ (.bool true)).alloc (.cells #[.bool false] 4))) := hbw
  obtain ⟨W3, hW3⟩ : ∃ W3, W3 = (W1.setCell ⟨w.heap.size + 1 + 1, 0, none⟩ (.bool true)).alloc (.cells #[.bool false] 4) := ⟨_, rfl⟩
  rw [← hW3] at HY HO1 HO2 HS3 HL3 HBW
  clear o1 o2 hb1 hkr hbs keep hbw or1 HB0 HN HL HR HSB HLE cp
  go_upto_region 6 with fail
  rw [← hW3]
  obtain ⟨sx, hsx⟩ : ∃ sx, W1.heap.size = sx := ⟨_, rfl⟩
  rw [hsx] at HY ⊢
  have hsxl : sx < W3.heap.size := heap_lt HY.out.s
  have HSX : Hid (w.heap.size ≤ sx) := by
    have h1 : w.heap.size + 1 + 1 < W1.heap.size := cell_lt r1
    show _ ≤ _; omega
  clear hW3 r1 rf1 hsx
  go_upto_region 7 with (go_at_call 69; refine Calls.mono (jall1 b1 b2 sb g m v log fr n (w.heap.size + 1 + 1) sx (w.heap.size + 1) w.heap.size w.heap.size W3 h1 h2 hn HO1.out HO2.out HS3.out HL3.out HY.out HBW.out.size) ?_; rintro e W4 ⟨rfl, lv, stop, hy4, hk4, hs4⟩)
  obtain ⟨lp, lc, rfl, -⟩ := row_shape hy4.row
  have HQ : Hid (YS W4 (w.heap.size + 1 + 1) sx (w.heap.size + 1) w.heap.size (.slice lp (partL log fr n).length lc) (partL log fr n) stop n w.heap.size ∧ Kp (fun k => (k = w.heap.size + 1 + 1 ∨ k = sx ∨ k = w.heap.size + 1) ∨ k = sb) W3 W4 ∧ W4.heap[sb]? = some (sobj (.pointer (some ⟨g, 0, none⟩)) false)) := ⟨hy4, hk4, hs4⟩
  clear hk4 hs4 HY HO1 HO2 HS3 HL3
  obtain ⟨lb, hlb⟩ : ∃ lb, w.heap.size + 1 = lb := ⟨_, rfl⟩
  have hlbw : w.heap.size < lb := by omega
  rw [hlb] at hy4 HQ ⊢
  obtain ⟨rb, hrb⟩ : ∃ rb, lb + 1 = rb := ⟨_, rfl⟩
  have hrbw : lb < rb := by omega
  rw [hrb] at hy4 HQ ⊢
  clear hlb hrb
  have lfz : W4.drew.frozen? ⟨lb, 0, none⟩ = false := frozen_obj hy4.l
  have hS0 : W4.drew.cell? ⟨lb, 0, none⟩ = some (.slice lp (partL log fr n).length lc) ∧ W4.drew.cell? ⟨rb, 0, none⟩ = some (.bool true) := ⟨cell_obj hy4.l, cell_obj hy4.r⟩
  have ol5 : (W4.setCell ⟨lb, 0, none⟩ (.slice lp (partL log fr n).length lc)).drew.heap[lb]? = some (.cells #[.slice lp (partL log fr n).length lc] 83 (0, 0)) := box_set (a := .slice lp (partL log fr n).length lc) hy4.l
  have or5 : (W4.setCell ⟨lb, 0, none⟩ (.slice lp (partL log fr n).length lc)).drew.heap[rb]? = some (.cells #[.bool true] 4 (0, 0)) := by show (W4.setCell _ _).heap[rb]? = _; rw [obj_setCell_other (by show rb ≠ lb; omega)]; exact hy4.r
  have hS5 : (W4.setCell ⟨lb, 0, none⟩ (.slice lp (partL log fr n).length lc)).drew.cell? ⟨lb, 0, none⟩ = some (.slice lp (partL log fr n).length lc) ∧ (W4.setCell ⟨lb, 0, none⟩ (.slice lp (partL log fr n).length lc)).drew.cell? ⟨rb, 0, none⟩ = some (.bool true) := ⟨cell_obj ol5, cell_obj or5⟩
  have rfz4 : W4.frozen? ⟨rb, 0, none⟩ = false := frozen_obj hy4.r
  have or6 : ((W4.setCell ⟨lb, 0, none⟩ (.slice lp (partL log fr n).length lc)).setCell ⟨rb, 0, none⟩ (.bool true)).drew.heap[rb]? = some (.cells #[.bool true] 4 (0, 0)) := box_set or5
  have ol6 : ((W4.setCell ⟨lb, 0, none⟩ (.slice lp (partL log fr n).length lc)).setCell ⟨rb, 0, none⟩ (.bool true)).drew.heap[lb]? = some (.cells #[.slice lp (partL log fr n).length lc] 83 (0, 0)) := by show ((W4.setCell _ _).setCell _ _).heap[lb]? = _; rw [obj_setCell_other (by show lb ≠ rb; omega)]; exact ol5
  have c6r : ((W4.setCell ⟨lb, 0, none⟩ (.slice lp (partL log fr n).length lc)).setCell ⟨rb, 0, none⟩ (.bool true)).drew.cell? ⟨rb, 0, none⟩ = some (.bool true) := cell_obj or6
  have c6l : ((W4.setCell ⟨lb, 0, none⟩ (.slice lp (partL log fr n).length lc)).setCell ⟨rb, 0, none⟩ (.bool true)).drew.cell? ⟨lb, 0, none⟩ = some (.slice lp (partL log fr n).length lc) := cell_obj ol6
  clear hy4 ol5 or5 or6 ol6
  refine wp_region_last (S := fun w' => w'.cell? ⟨lb, 0, none⟩ = some (.slice lp (partL log fr n).length lc) ∧ w'.cell? ⟨rb, 0, none⟩ = some (.bool true)) (by kernel_rfl) rfl (by kernel_rfl) ?_
  refine wpAnyH_take (i := 0) (v := ?_) rfl (by kernel_rfl) (by kernel_rfl) (by kernel_rfl) (fun _ _ _ h => h) (Or.inl ⟨by rfl, ?_⟩) (by assumption) ?_
  rotate_left
  · (intro w hSw; (try dsimp only at hSw); go_simp; try with_reducible rfl)
  try simp only [Act.put]
  refine wpAnyH_take (i := 1) (v := ?_) rfl (by kernel_rfl) (by kernel_rfl) (by kernel_rfl) (fun _ _ _ h => h) (Or.inl ⟨by rfl, ?_⟩) (by assumption) ?_
  rotate_left
  · (intro w hSw; (try dsimp only at hSw); go_simp; try with_reducible rfl)
  try simp only [Act.put]
  refine wpAnyH_ready (rs := [2]) (by kernel_rfl) (by simp) ?_
  refine AllReadyH.cons rfl (fun K hK => ?_) AllReadyH.nil
  have hc0 := hS0.1
  go_simp
  refine hK.out _ _ hS5 (fun hS1 => ?_)
  clear hK K
  try simp only [Act.put]
  clear hS0 hc0
  refine wpAnyH_done (by kernel_rfl) ?_ _
  show wpList _ _ _ _ _ _
  have hc5 := hS5.2
  go_wp2
  refine bodyPost_ret (v := .tuple #[.slice lp (partL log fr n).length lc, .bool true]) (by simp [results, Tryz.results30, go_sem, c6r, c6l]) rfl ?_
  obtain ⟨hy4, hk4, hs4⟩ := HQ.out
  have hkw : Kp (· = sb) w W4 := (Kp.of_new HBW.out).andThen hk4 fun i hi e => by
    have := HSX.out
    rcases e with (e | e | e) | e
    · omega
    · omega
    · omega
    · exact e
  have hk6 : Kp (fun k => k = lb ∨ k = rb) W4 ((W4.setCell ⟨lb, 0, none⟩ (.slice lp (partL log fr n).length lc)).setCell ⟨rb, 0, none⟩ (.bool true)).drew := (((Kp.refl _ W4).setCell (a := ⟨lb, 0, none⟩) (fun _ => Or.inl rfl) _).setCell (a := ⟨rb, 0, none⟩) (fun _ => Or.inr rfl) _).drew
  refine ⟨_, rfl, row_on hy4.row hk6 fun k e e' => ?_, hkw.andThen hk6 fun i hi e => by omega, hk6.obj (by omega) hs4⟩
  obtain ⟨C, hC⟩ := row_tag hy4.row e
  rcases e' with rfl | rfl
  · exact tag_ne hC hy4.l (by decide) rfl
  · exact tag_ne hC hy4.r (by decide) rfl
end Go.Proofs.YtploagfjajlloaaGreatDoor
