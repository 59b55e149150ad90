import Derived.Test.YtmmkbaaodebafaaDoorEvErr
import Derived.Test.YtmmkbaaodebafaaDoorNumber
import Derived.Test.YtmmkbaaodebafaaDoorSumC
import Derived.Test.YtmmkbaaodebafaaDoorAppNum
import Derived.Deep.RegionHeld3
import Derived.Deep.Cut
namespace Go.Proofs.YtmmkbaaodebafaaDoor
open Go.RowKit Jr

theorem sizeU8 (w : World) : (Go.sizeOf 5).run Tryd.prog w = .ok 1 w := by kernel_rfl
theorem ht23 : Tryd.prog.underlying 23 = some (.slice (Tryd.prog.elem 23)) := by kernel_rfl
theorem elem23 : Tryd.prog.elem 23 = 5 := by kernel_rfl
/-- b[l:h], its first element within the capacity. -/
theorem slc (b o len cap l h : Nat) (hlh : l ≤ h) (hh : h ≤ cap) (hl : l < cap) (W : World) :
    (Instr.slice 23 (.slice (some ⟨b, o, none⟩) len cap) (some (.int .i64 (l : Int))) (some (.int .i64 (h : Int))) none).run Tryd.prog W = .ok (.slice (some ⟨b, o + l, none⟩) (h - l) (cap - l)) W := by
  rw [run_slice_lh W 23 _ _ _ ht23 .i64 .i64 _ _ (by omega) (by omega) (by omega), elem23, sizeU8]
  have hne : ¬ cap = l := by omega
  by_cases h0 : l = 0
  · subst h0
    simp [Result.andThen, sliced, Addr.add, hne]
  · simp [Result.andThen, sliced, Addr.add, hne, h0]
/-- b[l:]. -/
theorem slc_l (b o len cap l : Nat) (hl : l ≤ len) (hc : len ≤ cap) :
    ∃ o', (∀ W : World, (Instr.slice 23 (.slice (some ⟨b, o, none⟩) len cap) (some (.int .i64 (l : Int))) none none).run Tryd.prog W = .ok (.slice (some ⟨b, o', none⟩) (len - l) (cap - l)) W) ∧ (l < len → o' = o + l) := by
  by_cases hne : cap = l
  · refine ⟨o, fun W => ?_, fun h => by omega⟩
    rw [run_slice_l W 23 _ _ _ ht23 .i64 _ (by omega) (by omega), elem23, sizeU8]
    simp [Result.andThen, sliced, hne]
  · refine ⟨o + l, fun W => ?_, fun _ => rfl⟩
    rw [run_slice_l W 23 _ _ _ ht23 .i64 _ (by omega) (by omega), elem23, sizeU8]
    by_cases h0 : l = 0
    · subst h0
      simp [Result.andThen, sliced, Addr.add, hne]
    · simp [Result.andThen, sliced, Addr.add, hne, h0]

/-- The bytes from 'at' on, n of them. -/
def seg (z : Nat → Nat) (at0 n : Nat) : List Nat := (List.range n).map fun i => z (at0 + i)
theorem seg_length (z : Nat → Nat) (at0 n : Nat) : (seg z at0 n).length = n := by simp [seg]
theorem seg_get (z : Nat → Nat) (at0 n i : Nat) (h : i < n) : (seg z at0 n).getD i 0 = z (at0 + i) := by simp [seg, List.getD, h]

abbrev zev : Array Value := #[.int .i64 0, .int .i64 0, .string ⟨#[]⟩, .string ⟨#[]⟩]
/-- What a number of eight bytes is as int64. -/
def i64of (n : Nat) : Int := IntKind.i64.wrap (n : Int)

theorem errv_some (a : Nat → Addr) {st d : ByteArray} {v p : Int} (h : ¬ may st d v p = 0) : ∃ y, errv a (may st d v p) = .iface 114 (.pointer (some y)) := by
  rcases may_cases st d v p with ⟨_, h'⟩ | ⟨_, _, h'⟩ | ⟨_, _, _, h'⟩ | ⟨_, _, _, _, h'⟩ | ⟨_, _, _, _, _, h'⟩ | ⟨_, _, _, _, _, h'⟩
  all_goals first | exact absurd h' h | (rw [h']; exact ⟨_, rfl⟩)
set_option maxRecDepth 10000 in
set_option maxHeartbeats 8000000 in
theorem jpp_walk (a : Nat → Addr) (b off n c k : Nat) (V P : Int) (ST DD : ByteArray) (R : Value) (z : Nat → Nat) (w : World) (hs : Sen 3 w a) (hn : n ≤ 53) (hn1 : 18 ≤ n) (hc : n ≤ c) (_hcm : c ≤ 9223372036854775807) (hk : z 0 = k) (hz : ∀ i, i < n → z i < 256)
    (hcell : ∀ i, i < n → w.cell? ⟨b, off + i, none⟩ = some (.int .u8 (z i : Nat))) (h17 : k + 17 ≤ n) (hb : b < w.heap.size)
    (HV : Hid (i64of (un (fun i => z (1 + k + i)) 8) = V)) (HP : Hid (i64of (un (fun i => z (9 + k + i)) 8) = P)) (HST : Hid (sOf (seg z 1 k) = ST)) (HDD : Hid (sOf (seg z (17 + k) (n - (17 + k))) = DD))
    (HR : Hid ((may ST DD V P = 0 ∧ R = .tuple #[.agg (ev V P ST DD), .bool true]) ∨ (¬ may ST DD V P = 0 ∧ R = .tuple #[.agg zev, .bool false]))) :
    Calls Tryd.prog 32 #[.slice (some ⟨b, off, none⟩) n c] w fun e w' => e = .returned R ∧ Below w.heap.size w w' := by
  have c0 := hcell 0 (by omega)
  rw [hk, Nat.add_zero] at c0
  have hk256 : k < 256 := by rw [← hk]; exact hz 0 (by omega)
  have hb1 : Below w.heap.size w (w.alloc (.cells zev 56)) := (Below.refl _ _).alloc (Nat.le_refl _) _
  have C1 : Hid (∀ i, i < n → (w.alloc (.cells zev 56)).cell? ⟨b, off + i, none⟩ = some (.int .u8 (z i : Nat))) := fun i hi => (hb1.cell (p := ⟨b, off + i, none⟩) hb).trans (hcell i hi)
  have C2 : Hid (∀ O i, i < n → ((w.alloc (.cells zev 56)).alloc O).cell? ⟨b, off + i, none⟩ = some (.int .u8 (z i : Nat))) := fun O i hi => ((hb1.alloc (by simp) O).cell (p := ⟨b, off + i, none⟩) hb).trans (hcell i hi)
  have H2 : Hid (∀ i, i < n → z i < 256) := hz
  have hbX : Below w.heap.size w ((w.alloc (.cells zev 56)).alloc (.cells (ev V P ST DD) 56)).drew := (hb1.alloc (by simp) _).drew
  have HSX : Hid (Sen 3 ((w.alloc (.cells zev 56)).alloc (.cells (ev V P ST DD) 56)).drew a) := hs.on hbX (Nat.le_refl _)
  have HBX : Hid (Below w.heap.size w ((w.alloc (.cells zev 56)).alloc (.cells (ev V P ST DD) 56)).drew) := hbX
  have sST : ST.size = k := by rw [← HST.out]; unfold sOf; rw [strOfNums_size]; simp [seg_length]
  have sDD : DD.size = n - (17 + k) := by rw [← HDD.out]; unfold sOf; rw [strOfNums_size]; simp [seg_length]
  have MST : Hid (ST.size ≤ maxLen) := by show ST.size ≤ maxLen; unfold maxLen; omega
  have MDD : Hid (DD.size ≤ maxLen) := by show DD.size ≤ maxLen; unfold maxLen; omega
  obtain ⟨U1, hU1⟩ : ∃ U, un (fun i => z (1 + k + i)) 8 = U := ⟨_, rfl⟩
  obtain ⟨U2, hU2⟩ : ∃ U, un (fun i => z (9 + k + i)) 8 = U := ⟨_, rfl⟩
  have hV : IntKind.i64.wrap (U1 : Int) = V := by rw [← hU1]; exact HV.out
  have hP : IntKind.i64.wrap (U2 : Int) = P := by rw [← hU2]; exact HP.out
  have HU1 : Hid (un (fun i => z (1 + k + i)) 8 = U1) := hU1
  have HU2 : Hid (un (fun i => z (9 + k + i)) 8 = U2) := hU2
  clear hcell hz hs hk hb1 hbX sST sDD HV HP hU1 hU2
  go_enter Tryd.func32, Tryd.ntmps32
  go_upto_region 5 with fail
  obtain ⟨o4, hif, ho4⟩ : ∃ o4, (if c = 17 + k then some ({ block := b, off := off, spot := none } : Addr) else some ⟨b, off + (17 + k), none⟩) = some ⟨b, o4, none⟩ ∧ (17 + k < n → o4 = off + (17 + k)) := by
    by_cases h : c = 17 + k
    · exact ⟨off, by rw [if_pos h], fun h' => by omega⟩
    · exact ⟨_, by rw [if_neg h], fun _ => rfl⟩
  have q1 : ∀ W : World, (∀ i, i < n → W.cell? ⟨b, off + i, none⟩ = some (.int .u8 (z i : Nat))) → (convert 23 9 (.slice (some ⟨b, off + 1, none⟩) k (c - 1))).run Tryd.prog W = .ok (.string (sOf (seg z 1 k))) W := fun W h =>
    conv_cells W b (off + 1) k (c - 1) (seg z 1 k) (seg_length _ _ _) (fun i hi => by rw [seg_get _ _ _ _ hi, ← h (1 + i) (by omega), Nat.add_assoc])
  have q2 : ∀ W : World, (∀ i, i < n → W.cell? ⟨b, off + i, none⟩ = some (.int .u8 (z i : Nat))) → (convert 23 9 (.slice (some ⟨b, o4, none⟩) (n - (17 + k)) (c - (17 + k)))).run Tryd.prog W = .ok (.string (sOf (seg z (17 + k) (n - (17 + k))))) W := fun W h =>
    conv_cells W b o4 _ _ (seg z (17 + k) (n - (17 + k))) (seg_length _ _ _) (fun i hi => by rw [seg_get _ _ _ _ hi, ho4 (by omega), ← h (17 + k + i) (by omega), Nat.add_assoc])
  have qa : Hid ((convert 23 9 (.slice (some ⟨b, off + 1, none⟩) k (c - 1))).run Tryd.prog (w.alloc (.cells zev 56)).drew = .ok (.string (sOf (seg z 1 k))) (w.alloc (.cells zev 56)).drew ∧ (convert 23 9 (.slice (some ⟨b, o4, none⟩) (n - (17 + k)) (c - (17 + k)))).run Tryd.prog (w.alloc (.cells zev 56)).drew = .ok (.string (sOf (seg z (17 + k) (n - (17 + k))))) (w.alloc (.cells zev 56)).drew) := ⟨q1 _ C1.out, q2 _ C1.out⟩
  have qb : Hid (∀ O, (convert 23 9 (.slice (some ⟨b, off + 1, none⟩) k (c - 1))).run Tryd.prog ((w.alloc (.cells zev 56)).alloc O).drew = .ok (.string (sOf (seg z 1 k))) ((w.alloc (.cells zev 56)).alloc O).drew ∧ (convert 23 9 (.slice (some ⟨b, o4, none⟩) (n - (17 + k)) (c - (17 + k)))).run Tryd.prog ((w.alloc (.cells zev 56)).alloc O).drew = .ok (.string (sOf (seg z (17 + k) (n - (17 + k))))) ((w.alloc (.cells zev 56)).alloc O).drew) := fun O => ⟨q1 _ (C2.out O), q2 _ (C2.out O)⟩
  rw [HST.out, HDD.out] at qa
  rw [HST.out, HDD.out] at qb
  clear q1 q2 ho4
  have r9 : IntKind.i64.wrap (1 + (k : Int) + 8) = 1 + (k : Int) + 8 := by rw [IntKind.wrap_i64]; omega
  have t1 : (1 + (k : Int)).toNat = 1 + k := by omega
  have t9 : (1 + (k : Int) + 8).toNat = 9 + k := by omega
  have t17 : (1 + (k : Int) + 16).toNat = 17 + k := by omega
  have d1 : 9 + k - (1 + k) = 8 := by omega
  have d9 : 17 + k - (9 + k) = 8 := by omega
  have p0 : (0 : Int) ≤ 1 + (k : Int) := by omega
  have p9 : (0 : Int) ≤ 1 + (k : Int) + 8 := by omega
  have p17 : (0 : Int) ≤ 1 + (k : Int) + 16 := by omega
  have l1 : 1 + (k : Int) ≤ c := by omega
  have l9 : 1 + (k : Int) + 8 ≤ c := by omega
  have l17 : 1 + (k : Int) + 16 ≤ c := by omega
  have ln : 1 + (k : Int) + 16 ≤ n := by omega
  have le1 : (1 : Int) ≤ 1 + (k : Int) := by omega
  have le2 : (1 : Int) + (k : Int) ≤ 1 + k + 8 := by omega
  have le3 : (1 : Int) + (k : Int) + 8 ≤ 1 + k + 16 := by omega
  have n0 : ¬ c = 1 := by omega
  have n1 : ¬ c = 1 + k := by omega
  have n9 : ¬ c = 9 + k := by omega
  have tok1 : True := trivial
  go_region_held3 (fun w' => (convert 23 9 (.slice (some ⟨b, off + 1, none⟩) k (c - 1))).run Tryd.prog w' = .ok (.string ST) w' ∧ (convert 23 9 (.slice (some ⟨b, o4, none⟩) (n - (17 + k)) (c - (17 + k)))).run Tryd.prog w' = .ok (.string DD) w') (first | exact qa.out | exact qb.out _)
    (first
      | (go_at_call 30; have _t := tok1; clear _t tok1; refine (jnumber b (off + (1 + k)) 8 (c - (1 + k)) (fun i => z (1 + k + i)) _ (by omega) (fun i hi => H2.out _ (by omega)) (fun i hi => ?_)).mono ?_; rotate_left; rw [HU1.out]; rotate_left; (first | (rw [Nat.add_assoc]; exact C1.out _ (by omega)) | (rw [Nat.add_assoc]; exact C2.out _ _ (by omega))); rintro e w' ⟨rfl, rfl⟩)
      | (go_at_call 30; refine (jnumber b (off + (9 + k)) 8 (c - (9 + k)) (fun i => z (9 + k + i)) _ (by omega) (fun i hi => H2.out _ (by omega)) (fun i hi => ?_)).mono ?_; rotate_left; rw [HU2.out]; rotate_left; (first | (rw [Nat.add_assoc]; exact C1.out _ (by omega)) | (rw [Nat.add_assoc]; exact C2.out _ _ (by omega))); rintro e w' ⟨rfl, rfl⟩))
  all_goals
    clear qa qb hV hP hif t1 t9 t17 d1 d9 p0 p9 p17 l1 l9 l17 ln le1 le2 le3 n0 n1 n9 r9
  all_goals
    rcases HR.out with ⟨hm, hR⟩ | ⟨hm, hR⟩
    · have HM : Hid (may ST DD V P = 0) := hm
      have HQ : Hid (R = .tuple #[.agg (ev V P ST DD), .bool true]) := hR
      clear hm hR
      go_wp2_with (go_at_call 27; refine (jeventError a V P ST DD _ HSX.out MST.out MDD.out).mono ?_; rw [HM.out, show errv a 0 = .nilIface from rfl]; rintro e w' ⟨rfl, rfl⟩)
      refine bodyPost_ret (v := .tuple #[.agg (ev V P ST DD), .bool true]) (by simp [results, Tryd.results32, go_sem]) rfl ⟨by rw [HQ.out], ?_⟩
      go_grown
    · obtain ⟨y, hy⟩ := errv_some a hm
      have HY : Hid (errv a (may ST DD V P) = .iface 114 (.pointer (some y))) := hy
      have HQ : Hid (R = .tuple #[.agg zev, .bool false]) := hR
      clear hm hy hR
      go_wp2_with (go_at_call 27; refine (jeventError a V P ST DD _ HSX.out MST.out MDD.out).mono ?_; rw [HY.out]; rintro e w' ⟨rfl, rfl⟩)
      refine bodyPost_ret (v := .tuple #[.agg zev, .bool false]) (by simp [results, Tryd.results32, go_sem]) rfl ⟨by rw [HQ.out], ?_⟩
      go_grown

set_option maxHeartbeats 2000000 in
theorem jpp_short (b off n c k : Nat) (z : Nat → Nat) (w : World) (hn : n ≤ 53) (hn1 : 18 ≤ n) (hk : z 0 = k) (hk256 : k < 256)
    (hcell : w.cell? ⟨b, off, none⟩ = some (.int .u8 (z 0 : Nat))) (h17 : n < k + 17) (hb : b < w.heap.size) :
    Calls Tryd.prog 32 #[.slice (some ⟨b, off, none⟩) n c] w fun e w' => e = .returned (.tuple #[.agg zev, .bool false]) ∧ Below w.heap.size w w' := by
  rw [hk] at hcell
  clear hk
  have h0 : (0 : Int) < n := by omega
  go_enter Tryd.func32, Tryd.ntmps32
  go_wp2
  refine bodyPost_ret (v := .tuple #[.agg zev, .bool false]) (by simp [results, Tryd.results32, go_sem]) rfl ⟨rfl, ?_⟩
  go_grown
end Go.Proofs.YtmmkbaaodebafaaDoor
