import Derived.Test.YtploagfjajlloaaGreatDoorJparse
import Derived.Test.YtploagfjajlloaaGreatDoorByt
namespace Go.Proofs.YtploagfjajlloaaGreatDoor
open Go.RowKit Jr

theorem list_ext_getD {l m : List Nat} (h : l.length = m.length) (hg : ∀ i, i < l.length → l.getD i 0 = m.getD i 0) : l = m := by
  apply List.ext_getElem h
  intro i h1 h2
  have := hg i h1
  simpa [List.getD, h1, h2] using this
theorem seg_eq {z : Nat → Nat} {at0 n : Nat} {l : List Nat} (hl : l.length = n) (h : ∀ i, i < n → z (at0 + i) = l.getD i 0) : seg z at0 n = l :=
  list_ext_getD (by rw [seg_length, hl]) (fun i hi => by rw [seg_length] at hi; rw [seg_get _ _ _ _ hi]; exact h i hi)
theorem sOf_bs (s : ByteArray) : sOf (bs s) = s := by
  apply ByteArray.ext
  apply Array.toList_inj.1
  unfold sOf
  rw [strOfNums_data, bs, List.map_map, List.map_map]
  conv => rhs; rw [← List.map_id s.data.toList]
  apply List.map_congr_left
  intro x _
  simp
theorem sOf_sz (l : List Nat) : (sOf l).size = l.length := by unfold sOf; rw [strOfNums_size]; simp
theorem byt_sOf {l : List Nat} (hl : ∀ x ∈ l, x < 256) (i : Nat) (hi : i < l.length) : (((sOf l).data.toList.getD i 0).toNat) = l.getD i 0 := by
  unfold sOf
  rw [strOfNums_data]
  have := getD_lt hl i hi
  simp [List.getD, hi] at this ⊢
  omega
end Go.Proofs.YtploagfjajlloaaGreatDoor
namespace Go.Proofs.YtploagfjajlloaaGreatDoor
open Go.RowKit Jr

/-- An event of a log. -/
structure Ev where
  v : Int
  p : Int
  st : ByteArray
  d : ByteArray
def evOf (r : PT) : Ev := ⟨r.v, r.p, r.st, r.d⟩
/-- How many events a stream has. -/
def cnt : List Ev → ByteArray → Nat
  | [], _ => 0
  | e :: l, s => (if e.st = s then 1 else 0) + cnt l s
theorem cnt_append (l m : List Ev) (s : ByteArray) : cnt (l ++ m) s = cnt l s + cnt m s := by
  induction l with
  | nil => simp [cnt]
  | cons e l ih => simp only [List.cons_append, cnt, ih]; omega
theorem cnt_le (l : List Ev) (s : ByteArray) : cnt l s ≤ l.length := by
  induction l with
  | nil => simp [cnt]
  | cons e l ih => simp only [cnt, List.length_cons]; split <;> omega

/-- What stands at place k of some bytes. -/
def pAt (c : ByteArray) (k : Nat) : PT := parseV (fun i => byt c (k + i)) (c.size - k)
def okNext (log : List Ev) (r : PT) : Bool := decide (r.ver = 0 ∧ r.p = log.length ∧ r.v = cnt log r.st + 1)
theorem okNext_iff {log : List Ev} {r : PT} : okNext log r = true ↔ r.ver = 0 ∧ r.p = log.length ∧ r.v = cnt log r.st + 1 := by simp [okNext]

theorem whole_facts {z : Nat → Nat} {len : Nat} (h : (parseV z len).ver = 0) :
    8 ≤ len ∧ 18 ≤ un z 4 ∧ un z 4 ≤ 53 ∧ 8 + un z 4 ≤ len ∧ un (fun i => z (4 + i)) 4 = crc (seg z 8 (un z 4)) ∧ z 8 + 17 ≤ un z 4 ∧ parseV z len = payV (fun i => z (8 + i)) (un z 4) ∧
      may (payV (fun i => z (8 + i)) (un z 4)).st (payV (fun i => z (8 + i)) (un z 4)).d (payV (fun i => z (8 + i)) (un z 4)).v (payV (fun i => z (8 + i)) (un z 4)).p = 0 := by
  unfold parseV at h ⊢
  by_cases h1 : len < 8
  · rw [if_pos h1] at h; exact absurd h (by decide)
  rw [if_neg h1] at h ⊢
  by_cases h2 : un z 4 < 18 ∨ 53 < un z 4
  · rw [if_pos h2] at h; exact absurd h (by decide)
  rw [if_neg h2] at h ⊢
  by_cases h3 : len < 8 + un z 4
  · rw [if_pos h3] at h; exact absurd h (by decide)
  rw [if_neg h3] at h ⊢
  by_cases h4 : un (fun i => z (4 + i)) 4 ≠ crc (seg z 8 (un z 4))
  · rw [if_pos h4] at h; exact absurd h (by decide)
  rw [if_neg h4] at h ⊢
  by_cases h5 : un z 4 < z 8 + 17
  · rw [if_pos h5] at h; exact absurd h (by decide)
  rw [if_neg h5] at h ⊢
  by_cases h6 : may (payV (fun i => z (8 + i)) (un z 4)).st (payV (fun i => z (8 + i)) (un z 4)).d (payV (fun i => z (8 + i)) (un z 4)).v (payV (fun i => z (8 + i)) (un z 4)).p = 0
  · rw [if_pos h6]
    exact ⟨by omega, by omega, by omega, by omega, by simpa using h4, by omega, rfl, h6⟩
  · rw [if_neg h6] at h; exact absurd h (by decide)
theorem whole_n {z : Nat → Nat} {len : Nat} (h : (parseV z len).ver = 0) : 26 ≤ (parseV z len).n ∧ (parseV z len).n ≤ len ∧ (parseV z len).n = 8 + un z 4 := by
  obtain ⟨h1, h2, h3, h4, _, _, h7, _⟩ := whole_facts h
  rw [h7]; show 26 ≤ 8 + un z 4 ∧ 8 + un z 4 ≤ len ∧ 8 + un z 4 = 8 + un z 4
  omega
theorem seg_congr {z z' : Nat → Nat} {a n : Nat} (h : ∀ i, i < n → z' (a + i) = z (a + i)) : seg z' a n = seg z a n := by
  unfold seg
  exact List.map_congr_left fun i hi => h i (List.mem_range.1 hi)
theorem payV_congr {y y' : Nat → Nat} {n : Nat} (h0 : y 0 + 17 ≤ n) (h : ∀ i, i < n → y' i = y i) : payV y' n = payV y n := by
  unfold payV
  have e0 : y' 0 = y 0 := h 0 (by omega)
  rw [e0]
  have e1 : un (fun i => y' (1 + y 0 + i)) 8 = un (fun i => y (1 + y 0 + i)) 8 := un_congr fun i hi => h _ (by omega)
  have e2 : un (fun i => y' (9 + y 0 + i)) 8 = un (fun i => y (9 + y 0 + i)) 8 := un_congr fun i hi => h _ (by omega)
  rw [e1, e2, seg_congr (z := y) (z' := y') (a := 1) (n := y 0) (fun i hi => h _ (by omega)), seg_congr (z := y) (z' := y') (a := 17 + y 0) (n := n - (17 + y 0)) (fun i hi => h _ (by omega))]
theorem whole_congr {z z' : Nat → Nat} {len len' : Nat} (h : (parseV z len).ver = 0) (hz : ∀ i, i < (parseV z len).n → z' i = z i) (hl : (parseV z len).n ≤ len') : parseV z' len' = parseV z len := by
  obtain ⟨h1, h2, h3, h4, h5, h6, h7, h8⟩ := whole_facts h
  have hn := (whole_n h).2.2
  rw [hn] at hz hl
  have e4 : un z' 4 = un z 4 := un_congr fun i hi => hz i (by omega)
  have eT : un (fun i => z' (4 + i)) 4 = un (fun i => z (4 + i)) 4 := un_congr fun i hi => hz _ (by omega)
  have eS : seg z' 8 (un z 4) = seg z 8 (un z 4) := seg_congr fun i hi => hz _ (by omega)
  have e8 : z' 8 = z 8 := hz 8 (by omega)
  have eP : payV (fun i => z' (8 + i)) (un z 4) = payV (fun i => z (8 + i)) (un z 4) := payV_congr (y := fun i => z (8 + i)) h6 fun i hi => hz _ (by omega)
  rw [h7]
  unfold parseV
  rw [e4, if_neg (by omega), if_neg (by omega), if_neg (by omega), eT, eS, if_neg (by simp [h5]), e8, if_neg (by omega), eP, if_pos h8]

/-- The records at the beginning. -/
def takeF (c : ByteArray) : Nat → Nat → List Ev → List Ev × Nat
  | 0, k, log => (log, k)
  | n + 1, k, log => if okNext log (pAt c k) then takeF c n (k + (pAt c k).n) (log ++ [evOf (pAt c k)]) else (log, k)
theorem takeF_stop {c : ByteArray} {k : Nat} {log : List Ev} (h : okNext log (pAt c k) = false) (n : Nat) : takeF c n k log = (log, k) := by
  cases n with
  | zero => rfl
  | succ n => simp [takeF, h]
theorem ok_n {c : ByteArray} {k : Nat} {log : List Ev} (h : okNext log (pAt c k) = true) : 26 ≤ (pAt c k).n ∧ k + (pAt c k).n ≤ c.size := by
  have := whole_n (okNext_iff.1 h).1
  unfold pAt; omega
theorem takeF_fuel (c : ByteArray) : ∀ (n m k : Nat) (log : List Ev), c.size - k < n → c.size - k < m → takeF c n k log = takeF c m k log
  | 0, _, _, _, h, _ => by omega
  | _ + 1, 0, _, _, _, h => by omega
  | n + 1, m + 1, k, log, hn, hm => by
    simp only [takeF]
    split
    · rename_i h
      have := ok_n h
      exact takeF_fuel c n m _ _ (by omega) (by omega)
    · rfl
theorem takeF_facts (c : ByteArray) : ∀ (n k : Nat) (log : List Ev), k ≤ c.size → k ≤ (takeF c n k log).2 ∧ (takeF c n k log).2 ≤ c.size ∧ log.length ≤ (takeF c n k log).1.length ∧ 26 * (takeF c n k log).1.length + k ≤ (takeF c n k log).2 + 26 * log.length
  | 0, k, log, hk => by simp [takeF]; omega
  | n + 1, k, log, hk => by
    simp only [takeF]
    split
    · rename_i h
      have := ok_n h
      have ih := takeF_facts c n (k + (pAt c k).n) (log ++ [evOf (pAt c k)]) (by omega)
      simp only [List.length_append, List.length_cons, List.length_nil] at ih
      omega
    · simp; omega
theorem takeF_end (c : ByteArray) : ∀ (n k : Nat) (log : List Ev), c.size - k < n → okNext (takeF c n k log).1 (pAt c (takeF c n k log).2) = false
  | 0, _, _, h => by omega
  | n + 1, k, log, hn => by
    simp only [takeF]
    split
    · rename_i h
      have := ok_n h
      exact takeF_end c n _ _ (by omega)
    · rename_i h; simpa using h
/-- Behind the cut the same is read. -/
theorem takeF_cut {c c' : ByteArray} : ∀ (n k : Nat) (log : List Ev), k ≤ c.size → c'.size = (takeF c n k log).2 → (∀ i, i < c'.size → byt c' i = byt c i) → ∀ m, c'.size - k < m → takeF c' m k log = takeF c n k log
  | 0, k, log, _, hs, hb, m, hm => by
    simp only [takeF] at hs ⊢
    refine takeF_stop ?_ m
    cases h : okNext log (pAt c' k) with
    | false => rfl
    | true => have := ok_n h; omega
  | n + 1, k, log, hk, hs, hb, m, hm => by
    simp only [takeF] at hs ⊢
    by_cases h : okNext log (pAt c k) = true
    · rw [if_pos h] at hs ⊢
      have hn := ok_n h
      have hf := takeF_facts c n (k + (pAt c k).n) (log ++ [evOf (pAt c k)]) (by omega)
      have e : pAt c' k = pAt c k := by
        have hv := (okNext_iff.1 h).1
        exact whole_congr hv (fun i hi => by
          have hi' : i < (pAt c k).n := hi
          exact hb _ (by omega)) (by show (pAt c k).n ≤ _; omega)
      cases m with
      | zero => omega
      | succ m =>
        simp only [takeF]
        rw [e, if_pos h]
        exact takeF_cut n _ _ (by omega) hs hb m (by omega)
    · rw [if_neg h] at hs ⊢
      refine takeF_stop ?_ m
      cases h' : okNext log (pAt c' k) with
      | false => rfl
      | true => have := ok_n h'; simp only at hs; omega
/-- The records behind a head. -/
def take (c : ByteArray) (log : List Ev) : List Ev × Nat := takeF c (c.size + 1) 16 log
end Go.Proofs.YtploagfjajlloaaGreatDoor
namespace Go.Proofs.YtploagfjajlloaaGreatDoor
open Go.RowKit Jr

/-- n digits of a number. -/
def dgs : Nat → Nat → List Nat
  | 0, _ => []
  | n + 1, b => dgs n (b / 10) ++ [48 + b % 10]
theorem dgs_length (n b : Nat) : (dgs n b).length = n := by
  induction n generalizing b with
  | zero => rfl
  | succ n ih => simp [dgs, ih]
theorem dgs_mem (n b : Nat) : ∀ x ∈ dgs n b, 48 ≤ x ∧ x < 58 := by
  induction n generalizing b with
  | zero => simp [dgs]
  | succ n ih =>
    intro x hx
    simp only [dgs, List.mem_append, List.mem_singleton] at hx
    rcases hx with hx | hx
    · exact ih _ x hx
    · omega
theorem dgs_push (n b : Nat) : (48 + b / 10 ^ n % 10) :: dgs n b = dgs (n + 1) b := by
  induction n generalizing b with
  | zero => simp [dgs]
  | succ n ih =>
    rw [dgs, dgs, ← ih (b / 10), Nat.div_div_eq_div_mul, Nat.pow_succ, Nat.mul_comm]; rfl
def val (l : List Nat) : Nat := l.foldl (fun a x => a * 10 + (x - 48)) 0
theorem val_dgs (n b : Nat) (h : b < 10 ^ n) : val (dgs n b) = b := by
  induction n generalizing b with
  | zero => simp [val, dgs]; omega
  | succ n ih =>
    have := ih (b / 10) (by rw [Nat.pow_succ] at h; omega)
    unfold val at this ⊢
    simp only [dgs, List.foldl_append, this, List.foldl_cons, List.foldl_nil]
    omega
def nameL (b : Nat) : List Nat := [115, 101, 103, 45] ++ dgs 8 b
/-- The name of the segment with a base. -/
def nameOf (b : Nat) : ByteArray := sOf (nameL b)
theorem nameL_length (b : Nat) : (nameL b).length = 12 := by simp [nameL, dgs_length]
theorem nameL_lt (b : Nat) : ∀ x ∈ nameL b, x < 256 := by
  intro x hx
  simp only [nameL, List.mem_append] at hx
  rcases hx with hx | hx
  · simp at hx; omega
  · have := dgs_mem _ _ x hx; omega
theorem nameOf_size (b : Nat) : (nameOf b).size = 12 := by unfold nameOf; rw [sOf_sz, nameL_length]
theorem nameOf_byt (b i : Nat) (h : i < 12) : byt (nameOf b) i = (nameL b).getD i 0 := byt_sOf (nameL_lt b) i (by rw [nameL_length]; exact h)
def num (nm : ByteArray) : Nat := val ((List.range 8).map fun i => byt nm (4 + i))
theorem num_nameOf {b : Nat} (h : b < 100000000) : num (nameOf b) = b := by
  have e : ((List.range 8).map fun i => byt (nameOf b) (4 + i)) = dgs 8 b := by
    refine list_ext_getD (by simp [dgs_length]) (fun i hi => ?_)
    simp at hi
    have : ((List.range 8).map fun i => byt (nameOf b) (4 + i)).getD i 0 = byt (nameOf b) (4 + i) := by simp [List.getD, hi]
    rw [this, nameOf_byt _ _ (by omega)]
    unfold nameL
    rw [getD_append_right _ _ _ (by simp)]
    congr 1; simp
  unfold num; rw [e]; exact val_dgs 8 b h
theorem nameOf_inj {a b : Nat} (ha : a < 100000000) (hb : b < 100000000) (h : nameOf a = nameOf b) : a = b := by
  rw [← num_nameOf ha, h, num_nameOf hb]
/-- Is a name one of a segment? -/
def isSeg (nm : ByteArray) : Bool := decide (nm.size = 12) && ((List.range 4).all fun i => decide (byt nm i = [115, 101, 103, 45].getD i 0)) && (List.range 8).all fun i => decide (48 ≤ byt nm (4 + i)) && decide (byt nm (4 + i) ≤ 57)
theorem isSeg_iff {nm : ByteArray} : isSeg nm = true ↔ nm.size = 12 ∧ (∀ i, i < 4 → byt nm i = [115, 101, 103, 45].getD i 0) ∧ ∀ i, i < 8 → 48 ≤ byt nm (4 + i) ∧ byt nm (4 + i) ≤ 57 := by
  simp only [isSeg, Bool.and_eq_true, decide_eq_true_eq, List.all_eq_true, List.mem_range, and_assoc]
theorem isSeg_nameOf (b : Nat) : isSeg (nameOf b) = true := by
  refine isSeg_iff.2 ⟨nameOf_size b, fun i hi => ?_, fun i hi => ?_⟩
  · rw [nameOf_byt _ _ (by omega)]; unfold nameL; rw [getD_append_left _ _ _ (by simp; omega)]
  · rw [nameOf_byt _ _ (by omega)]; unfold nameL; rw [getD_append_right _ _ _ (by simp)]
    have hl : 4 + i - [115, 101, 103, 45].length = i := by simp
    rw [hl]
    have hm : (dgs 8 b).getD i 0 ∈ dgs 8 b := by
      have : i < (dgs 8 b).length := by rw [dgs_length]; exact hi
      simp [List.getD, this]
    have := dgs_mem _ _ _ hm
    omega

abbrev Fl := ByteArray × ByteArray
/-- Which file, its good length, its base. -/
abbrev Sg := Nat × Nat × Nat
abbrev St := List Ev × List Sg
/-- The bytes of the segments from a base on. -/
def phi : List Fl → Nat → Nat
  | [], _ => 0
  | f :: fs, b => (if b ≤ num f.1 then f.2.size else 0) + phi fs b
theorem phi_mono (fs : List Fl) {b c : Nat} (h : b ≤ c) : phi fs c ≤ phi fs b := by
  induction fs with
  | nil => simp [phi]
  | cons f fs ih => simp only [phi]; split <;> split <;> omega
theorem phi_step {fs : List Fl} {i : Nat} {f : Fl} {b c : Nat} (hi : fs[i]? = some f) (hf : num f.1 = b) (h : b < c) : phi fs c + f.2.size ≤ phi fs b := by
  induction fs generalizing i with
  | nil => simp at hi
  | cons g fs ih =>
    cases i with
    | zero =>
      simp at hi; subst hi
      have := phi_mono fs (Nat.le_of_lt h)
      simp only [phi]
      rw [if_neg (by omega), if_pos (by omega)]; omega
    | succ i =>
      have := ih (by simpa using hi)
      simp only [phi]; split <;> split <;> omega
def tot : List Fl → Nat
  | [] => 0
  | f :: fs => f.2.size + tot fs
theorem phi_tot (fs : List Fl) (b : Nat) : phi fs b ≤ tot fs := by
  induction fs with
  | nil => simp [phi]
  | cons f fs ih => simp only [phi, tot]; split <;> omega
/-- The bytes of a head. -/
def hd12 (b : Nat) : List Nat := [74, 76, 49, 10] ++ digs b 8
def hdL (b : Nat) : List Nat := hd12 b ++ digs (crc (hd12 b)) 4
theorem hdL_length (b : Nat) : (hdL b).length = 16 := by simp [hdL, hd12, digs_length]
def hasHd (c : ByteArray) (b : Nat) : Bool := decide (16 ≤ c.size) && (List.range 16).all fun i => decide (byt c i = (hdL b).getD i 0)
theorem hasHd_iff {c : ByteArray} {b : Nat} : hasHd c b = true ↔ 16 ≤ c.size ∧ ∀ i, i < 16 → byt c i = (hdL b).getD i 0 := by
  simp only [hasHd, Bool.and_eq_true, decide_eq_true_eq, List.all_eq_true, List.mem_range]

def findI (fs : List Fl) (nm : ByteArray) : Option Nat := fs.findIdx? (fun f => decide (f.1 = nm))
theorem findI_some {fs : List Fl} {nm : ByteArray} {i : Nat} (h : findI fs nm = some i) : ∃ f, fs[i]? = some f ∧ f.1 = nm := by
  unfold findI at h
  obtain ⟨hl, hp, _⟩ := List.findIdx?_eq_some_iff_getElem.1 h
  exact ⟨fs[i], by simp [hl], by simpa using hp⟩
theorem findI_none {fs : List Fl} {nm : ByteArray} (h : findI fs nm = none) : ∀ f ∈ fs, f.1 ≠ nm := by
  unfold findI at h
  intro f hf
  simpa using List.findIdx?_eq_none_iff.1 h f hf
/-- One segment more. -/
def nxt (fs : List Fl) (s : St) : St × Bool :=
  match findI fs (nameOf s.1.length) with
  | none => (s, false)
  | some i =>
    match fs[i]? with
    | none => (s, false)
    | some f => if hasHd f.2 s.1.length then (((take f.2 s.1).1, s.2 ++ [(i, (take f.2 s.1).2, s.1.length)]), decide ((take f.2 s.1).2 = f.2.size ∧ s.1.length < (take f.2 s.1).1.length)) else (s, false)
def logF (fs : List Fl) : Nat → St → St
  | 0, s => s
  | n + 1, s => if (nxt fs s).2 then logF fs n (nxt fs s).1 else (nxt fs s).1
/-- How a step goes. -/
theorem nxt_cases (fs : List Fl) (s : St) :
    (findI fs (nameOf s.1.length) = none ∧ nxt fs s = (s, false)) ∨
    (∃ i f, findI fs (nameOf s.1.length) = some i ∧ fs[i]? = some f ∧ f.1 = nameOf s.1.length ∧ hasHd f.2 s.1.length = false ∧ nxt fs s = (s, false)) ∨
    (∃ i f, findI fs (nameOf s.1.length) = some i ∧ fs[i]? = some f ∧ f.1 = nameOf s.1.length ∧ hasHd f.2 s.1.length = true ∧
      nxt fs s = (((take f.2 s.1).1, s.2 ++ [(i, (take f.2 s.1).2, s.1.length)]), decide ((take f.2 s.1).2 = f.2.size ∧ s.1.length < (take f.2 s.1).1.length))) := by
  unfold nxt
  cases h : findI fs (nameOf s.1.length) with
  | none => exact Or.inl ⟨rfl, rfl⟩
  | some i =>
    obtain ⟨f, hf, hn⟩ := findI_some h
    cases hh : hasHd f.2 s.1.length with
    | false => exact Or.inr (Or.inl ⟨i, f, rfl, hf, hn, hh, by simp only [hf, hh]; rfl⟩)
    | true => exact Or.inr (Or.inr ⟨i, f, rfl, hf, hn, hh, by simp only [hf, hh]; rfl⟩)
/-- Where the log goes on. -/
structure Inv (fs : List Fl) (s : St) : Prop where
  bnd : 26 * s.1.length + phi fs s.1.length ≤ phi fs 0
  seg : ∀ g ∈ s.2, ∃ f, fs[g.1]? = some f ∧ f.1 = nameOf g.2.2 ∧ g.2.2 < s.1.length ∧ g.2.1 = f.2.size ∧ 16 ≤ g.2.1
  inc : s.2.Pairwise fun a b => a.2.2 < b.2.2
/-- Where it has ended. -/
structure Fin' (fs : List Fl) (s : St) : Prop where
  bnd : 26 * s.1.length ≤ phi fs 0
  seg : ∀ g ∈ s.2, ∃ f, fs[g.1]? = some f ∧ f.1 = nameOf g.2.2 ∧ g.2.2 ≤ s.1.length ∧ g.2.1 ≤ f.2.size ∧ 16 ≤ g.2.1
  whole : ∀ g ∈ s.2.dropLast, ∃ f, fs[g.1]? = some f ∧ g.2.1 = f.2.size ∧ g.2.2 < s.1.length
  inc : s.2.Pairwise fun a b => a.2.2 < b.2.2
theorem Inv.fin {fs : List Fl} {s : St} (h : Inv fs s) : Fin' fs s :=
  ⟨by have := h.bnd; omega, fun g hg => by obtain ⟨f, h1, h2, h3, h4, h5⟩ := h.seg g hg; exact ⟨f, h1, h2, by omega, by omega, h5⟩,
   fun g hg => by obtain ⟨f, h1, h2, h3, h4, h5⟩ := h.seg g (List.dropLast_subset _ hg); exact ⟨f, h1, h4, h3⟩, h.inc⟩
theorem Inv.start (fs : List Fl) : Inv fs ([], []) := ⟨by simp, by simp, by simp⟩
theorem Inv.step {fs : List Fl} {s : St} (h : Inv fs s) (hT : phi fs 0 < 2600000000) : Fin' fs (nxt fs s).1 ∧ ((nxt fs s).2 = true → Inv fs (nxt fs s).1 ∧ s.1.length < (nxt fs s).1.1.length) := by
  have hb := h.bnd
  rcases nxt_cases fs s with ⟨_, e⟩ | ⟨_, _, _, _, _, _, e⟩ | ⟨i, f, h1, h2, h3, h4, e⟩
  · rw [e]; exact ⟨h.fin, fun hx => by cases hx⟩
  · rw [e]; exact ⟨h.fin, fun hx => by cases hx⟩
  · rw [e]
    have hd := (hasHd_iff.1 h4).1
    have ht := takeF_facts f.2 (f.2.size + 1) 16 s.1 hd
    have hn : num f.1 = s.1.length := by rw [h3]; exact num_nameOf (by omega)
    change 16 ≤ (take f.2 s.1).2 ∧ (take f.2 s.1).2 ≤ f.2.size ∧ s.1.length ≤ (take f.2 s.1).1.length ∧ 26 * (take f.2 s.1).1.length + 16 ≤ (take f.2 s.1).2 + 26 * s.1.length at ht
    have hp := phi_step (c := s.1.length + 1) h2 hn (by omega)
    have hinc : (s.2 ++ [(i, (take f.2 s.1).2, s.1.length)]).Pairwise fun a b => a.2.2 < b.2.2 := by
      rw [List.pairwise_append]
      exact ⟨h.inc, by simp, fun a ha b hb' => by
        simp at hb'; subst hb'
        obtain ⟨_, _, _, h6, _⟩ := h.seg a ha
        exact h6⟩
    refine ⟨⟨by show 26 * (take f.2 s.1).1.length ≤ _; omega, fun g hg => ?_, fun g hg => ?_, hinc⟩, fun hx => ?_⟩
    · simp only [List.mem_append, List.mem_singleton] at hg
      rcases hg with hg | rfl
      · obtain ⟨f', g1, g2, g3, g4, g5⟩ := h.seg g hg
        exact ⟨f', g1, g2, by show _ ≤ (take f.2 s.1).1.length; omega, by omega, g5⟩
      · exact ⟨f, h2, h3, ht.2.2.1, ht.2.1, ht.1⟩
    · simp only [List.dropLast_concat] at hg
      obtain ⟨f', g1, g2, g3, g4, g5⟩ := h.seg g hg
      exact ⟨f', g1, g4, by show _ < (take f.2 s.1).1.length; omega⟩
    · simp only [decide_eq_true_eq] at hx
      have hp2 := phi_mono fs (b := s.1.length + 1) (c := (take f.2 s.1).1.length) (by omega)
      refine ⟨⟨by show 26 * (take f.2 s.1).1.length + phi fs (take f.2 s.1).1.length ≤ _; omega, fun g hg => ?_, hinc⟩, hx.2⟩
      simp only [List.mem_append, List.mem_singleton] at hg
      rcases hg with hg | rfl
      · obtain ⟨f', g1, g2, g3, g4, g5⟩ := h.seg g hg
        exact ⟨f', g1, g2, by show _ < (take f.2 s.1).1.length; omega, g4, g5⟩
      · exact ⟨f, h2, h3, hx.2, hx.1, ht.1⟩
/-- The log of some files. -/
def logOf (fs : List Fl) : St := logF fs 100000001 ([], [])
theorem logF_fin {fs : List Fl} (hT : phi fs 0 < 2600000000) : ∀ (n : Nat) (s : St), Inv fs s → Fin' fs (logF fs n s)
  | 0, _, h => h.fin
  | n + 1, s, h => by
    have := h.step hT
    simp only [logF]
    split
    · rename_i hx; exact logF_fin hT n _ (this.2 hx).1
    · exact this.1
theorem logOf_fin {fs : List Fl} (hT : phi fs 0 < 2600000000) : Fin' fs (logOf fs) := logF_fin hT _ _ (Inv.start fs)
end Go.Proofs.YtploagfjajlloaaGreatDoor
