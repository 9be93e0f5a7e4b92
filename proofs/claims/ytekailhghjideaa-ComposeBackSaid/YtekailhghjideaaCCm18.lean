/- Part 19 of the proof: Hm, Hw, Hr2, CmPb. -/
import Derived.Deep.Cut
import Derived.Deep.CutBlock
import Derived.Test.YtekailhghjideaaCCm17

namespace Go.Proofs.Ytekailhghjideaa
open Go Go.RowKit

theorem rsn_take (E : List Value) (n m k x : Nat) (h : k + m ≤ n) : rsn (E.take n) m k x = rsn E m k x := by
  unfold rsn
  rw [List.length_take]
  by_cases h1 : k + m ≤ E.length
  · rw [if_pos h1, if_pos (by omega)]
  · rw [if_neg h1, if_neg (by omega)]
theorem rdk_take (E : List Value) (n kd k : Nat) (hk : kd < 4) (h : k + wid kd ≤ n) : rdk (E.take n) kd k = rdk E kd k := by
  rcases kd with _ | _ | _ | _ | kd
  · have h : k + 1 ≤ n := h
    show ((rsn (E.take n) 1 k _ : Nat) : Int) = _
    rw [rsn_take _ _ _ _ _ h, byteAt_take (by omega)]; rfl
  · have h : k + 2 ≤ n := h
    show ((rsn (E.take n) 2 k _ : Nat) : Int) = _
    rw [rsn_take _ _ _ _ _ h, rd2_take (by omega)]; rfl
  · have h : k + 2 ≤ n := h
    show s16 (rsn (E.take n) 2 k _) = _
    rw [rsn_take _ _ _ _ _ h, rd2_take (by omega)]; rfl
  · have h : k + 4 ≤ n := h
    show ((rsn (E.take n) 4 k _ : Nat) : Int) = _
    rw [rsn_take _ _ _ _ _ h, rd4_take (by omega)]; rfl
  · omega
theorem rdk1_in (E : List Value) (k : Nat) (h : k + 2 ≤ E.length) : rdk E 1 k = ((rd2 E k : Nat) : Int) := by
  show ((rsn E 2 k _ : Nat) : Int) = _
  unfold rsn; rw [if_pos h]
theorem rdk2_in (E : List Value) (k : Nat) (h : k + 2 ≤ E.length) : rdk E 2 k = s16 (rd2 E k) := by
  show s16 (rsn E 2 k _) = _
  unfold rsn; rw [if_pos h]
theorem rdk3_in (E : List Value) (k : Nat) (h : k + 4 ≤ E.length) : rdk E 3 k = ((rd4 E k : Nat) : Int) := by
  show ((rsn E 4 k _ : Nat) : Int) = _
  unfold rsn; rw [if_pos h]
theorem rdk1_out (E : List Value) (k : Nat) (h : E.length < k + 2) : rdk E 1 k = 0 := by
  show ((rsn E 2 k _ : Nat) : Int) = _
  unfold rsn; rw [if_neg (by omega)]; rfl
theorem rdk3_out (E : List Value) (k : Nat) (h : E.length < k + 4) : rdk E 3 k = 0 := by
  show ((rsn E 4 k _ : Nat) : Int) = _
  unfold rsn; rw [if_neg (by omega)]; rfl
theorem rdk1_b (E : List Value) (h8 : Bytes8 E) (k : Nat) : 0 ≤ rdk E 1 k ∧ rdk E 1 k ≤ 65535 := by
  have h1 : rsn E 2 k (rd2 E k) < 65536 := rsn_lt (rd2_lt h8 k)
  have h2 : rdk E 1 k = ((rsn E 2 k (rd2 E k) : Nat) : Int) := rfl
  omega
theorem s16_b {x : Nat} (h : x < 65536) : -32768 ≤ s16 x ∧ s16 x ≤ 32767 := by unfold s16; split <;> omega
theorem rdk2_b (E : List Value) (h8 : Bytes8 E) (k : Nat) : -32768 ≤ rdk E 2 k ∧ rdk E 2 k ≤ 32767 := s16_b (rsn_lt (rd2_lt h8 k))
theorem free_rd : ∀ (n k : Nat), freeRun (fun kd k (_ : Int) => k + wid kd) n k = k + n
  | 0, k => rfl
  | n + 1, k => by
    rw [freeRun_succ, free_rd n]
    have : wid 0 = 1 := rfl
    omega
theorem free_wr : ∀ (n : Nat) (L : List Value), freeRun (fun kd (L : List Value) x => L ++ bek kd x) n L = L ++ List.replicate n (.int .u8 0)
  | 0, L => by simp [freeRun]
  | n + 1, L => by
    rw [freeRun_succ, free_wr n, List.append_assoc]
    rfl
theorem wid0 : wid 0 = 1 := rfl
theorem wid1 : wid 1 = 2 := rfl
theorem wid2 : wid 2 = 2 := rfl
theorem wid3 : wid 3 = 4 := rfl
theorem intAt_get {cs : Array Value} {o : Nat} {x : Int} (h : cs[o]? = some (.int .i64 x)) : intAt cs o = x := by unfold intAt; rw [h]
theorem boolAt_get {cs : Array Value} {o : Nat} {x : Bool} (h : cs[o]? = some (.bool x)) : boolAt cs o = x := by unfold boolAt; rw [h]

/-- May these bytes be glyphs, lines, a head? -/
def okG (E : List Value) : Bool := (decide (6 ≤ E.length) && (rd4 E 0 == 20480) && decide (1 ≤ rd2 E 4)) || (decide (32 ≤ E.length) && (rd4 E 0 == 65536) && decide (1 ≤ rd2 E 4))
def valG (E : List Value) : Value := .agg #[.int .i64 (rd2 E 4 : Nat), .bool (rd4 E 0 == 65536)]
def okL (E : List Value) : Bool := decide (36 ≤ E.length) && (rd2 E 0 == 1) && (rd2 E 2 == 0) && (rd2 E 32 == 0) && decide (1 ≤ rd2 E 34)
def valL (E : List Value) : Value := .agg #[.int .i64 (s16 (rd2 E 4)), .int .i64 (s16 (rd2 E 6)), .int .i64 (s16 (rd2 E 8)), .int .i64 (rd2 E 34 : Nat)]
def okH (E : List Value) : Bool := decide (54 ≤ E.length) && (rd2 E 0 == 1) && (rd2 E 2 == 0) && (rd4 E 12 == 1594834165) && decide (16 ≤ rd2 E 18) && decide (rd2 E 18 ≤ 16384) && decide (rd2 E 50 < 2) && (rd2 E 52 == 0)
def valH (E : List Value) : Value := .agg #[.int .i64 (rd2 E 18 : Nat), .int .i64 (rd2 E 16 : Nat), .int .i64 (s16 (rd2 E 36)), .int .i64 (s16 (rd2 E 38)), .int .i64 (s16 (rd2 E 40)), .int .i64 (s16 (rd2 E 42)), .int .i64 (rd2 E 44 : Nat), .int .i64 (rd2 E 46 : Nat), .bool (rd2 E 50 == 1)]

theorem jst {v x : Int} (h : v = x) : (decide (x ≤ v) && decide (v ≤ x)) = true := by subst h; simp
theorem njst {v x : Int} (h : ¬ v = x) : (decide (x ≤ v) && decide (v ≤ x)) = false := by
  cases h1 : decide (x ≤ v) <;> cases h2 : decide (v ≤ x) <;> simp_all <;> omega
theorem rng {v a b : Int} (h : a ≤ v) (h2 : v ≤ b) (m : Bool) : ((m && decide (a ≤ v)) && decide (v ≤ b)) = m := by rw [decide_eq_true h, decide_eq_true h2]; simp
theorem nrng {v a b : Int} (h : ¬ (a ≤ v ∧ v ≤ b)) (m : Bool) : ((m && decide (a ≤ v)) && decide (v ≤ b)) = false := by
  by_cases h1 : a ≤ v
  · rw [decide_eq_false (fun h2 => h ⟨h1, h2⟩), Bool.and_false]
  · rw [decide_eq_false h1, Bool.and_false, Bool.false_and]

/-- The bounds of what is read. -/
structure FB (f : Nat → Nat → Int) : Prop where
  b1 : ∀ k, 0 ≤ f 1 k ∧ f 1 k ≤ 65535
  b2 : ∀ k, -32768 ≤ f 2 k ∧ f 2 k ≤ 32767
theorem runL_yes (f : Nat → Nat → Int) (B : FB f) (h0 : f 1 0 = 1) (h1 : f 1 2 = 0) (h5 : f 1 32 = 0) (h6 : 1 ≤ f 1 34) :
    runAll (fun kd k _ => k + wid kd) (fun kd k _ => f kd k) dsL 0 zL = (true, 36, #[.int .i64 (f 2 4), .int .i64 (f 2 6), .int .i64 (f 2 8), .int .i64 (f 1 34)]) := by
  have c0 := jst h0; have c1 := jst h1; have c5 := jst h5
  have r4 := rng (B.b2 4).1 (B.b2 4).2; have r6 := rng (B.b2 6).1 (B.b2 6).2; have r8 := rng (B.b2 8).1 (B.b2 8).2; have r34 := rng h6 (B.b1 34).2
  simp only [dsL, zL, runAll_cons, runAll_nil, fdRun, numRun_cons, numRun_nil, free_rd, wid1, wid2, Nat.zero_add, Nat.reduceAdd, c0, c1, c5, r4, r6, r8, r34, if_true]
  rfl
theorem runL_no (f : Nat → Nat → Int) (B : FB f) (h : ¬ (f 1 0 = 1 ∧ f 1 2 = 0 ∧ f 1 32 = 0 ∧ 1 ≤ f 1 34)) :
    (runAll (fun kd k _ => k + wid kd) (fun kd k _ => f kd k) dsL 0 zL).1 = false := by
  have r4 := rng (B.b2 4).1 (B.b2 4).2; have r6 := rng (B.b2 6).1 (B.b2 6).2; have r8 := rng (B.b2 8).1 (B.b2 8).2
  by_cases h0 : f 1 0 = 1
  · have c0 := jst h0
    by_cases h1 : f 1 2 = 0
    · have c1 := jst h1
      by_cases h5 : f 1 32 = 0
      · have c5 := jst h5
        have r34 := nrng (v := f 1 34) (a := 1) (b := 65535) (fun hh => h ⟨h0, h1, h5, hh.1⟩)
        simp only [dsL, zL, runAll_cons, runAll_nil, fdRun, numRun_cons, numRun_nil, free_rd, wid1, wid2, Nat.zero_add, Nat.reduceAdd, c0, c1, c5, r4, r6, r8, r34, if_true, if_false, Bool.false_eq_true]
      · have c5 := njst h5
        simp only [dsL, zL, runAll_cons, runAll_nil, fdRun, numRun_cons, numRun_nil, free_rd, wid1, wid2, Nat.zero_add, Nat.reduceAdd, c0, c1, c5, r4, r6, r8, if_true, if_false, Bool.false_eq_true]
    · have c1 := njst h1
      simp only [dsL, zL, runAll_cons, runAll_nil, fdRun, numRun_cons, numRun_nil, free_rd, wid1, wid2, Nat.zero_add, Nat.reduceAdd, c0, c1, if_true, if_false, Bool.false_eq_true]
  · have c0 := njst h0
    simp only [dsL, zL, runAll_cons, runAll_nil, fdRun, numRun_cons, numRun_nil, free_rd, wid1, wid2, Nat.zero_add, Nat.reduceAdd, c0, if_true, if_false, Bool.false_eq_true]

theorem runG_yes (f : Nat → Nat → Int) (B : FB f) (t : Bool) (h0 : f 3 0 = if t then 65536 else 20480) (h1 : 1 ≤ f 1 4) :
    runAll (fun kd k _ => k + wid kd) (fun kd k _ => f kd k) dsG 0 zG = (true, if t then 32 else 6, #[.int .i64 (f 1 4), .bool t]) := by
  have r4 := rng h1 (B.b1 4).2
  cases t
  · have e1 : (f 3 0 == 20480) = true := by rw [h0]; rfl
    have e2 : (f 3 0 == 65536) = false := by rw [h0]; rfl
    simp only [dsG, zG, runAll_cons, runAll_nil, fdRun, numRun_cons, numRun_nil, free_rd, wid1, wid3, Nat.zero_add, Nat.reduceAdd, eithRun, condRun, e1, e2, r4, if_true, Bool.true_or]
    rfl
  · have e1 : (f 3 0 == 20480) = false := by rw [h0]; rfl
    have e2 : (f 3 0 == 65536) = true := by rw [h0]; rfl
    simp only [dsG, zG, runAll_cons, runAll_nil, fdRun, numRun_cons, numRun_nil, free_rd, wid1, wid3, Nat.zero_add, Nat.reduceAdd, eithRun, condRun, e1, e2, r4, if_true, Bool.or_true]
    rfl
theorem runG_no (f : Nat → Nat → Int) (h : ¬ ((f 3 0 = 65536 ∨ f 3 0 = 20480) ∧ 1 ≤ f 1 4)) :
    (runAll (fun kd k _ => k + wid kd) (fun kd k _ => f kd k) dsG 0 zG).1 = false := by
  by_cases h0 : f 3 0 = 65536 ∨ f 3 0 = 20480
  · have e1 : ((f 3 0 == 20480) || (f 3 0 == 65536)) = true := by rcases h0 with h | h <;> rw [h] <;> rfl
    have r4 := nrng (v := f 1 4) (a := 1) (b := 65535) (fun hh => h ⟨h0, hh.1⟩)
    simp only [dsG, zG, runAll_cons, runAll_nil, fdRun, numRun_cons, numRun_nil, wid1, wid3, Nat.zero_add, Nat.reduceAdd, eithRun, e1, r4, if_true, if_false, Bool.false_eq_true]
  · have e1 : ((f 3 0 == 20480) || (f 3 0 == 65536)) = false := by simp; omega
    simp only [dsG, zG, runAll_cons, runAll_nil, fdRun, numRun_cons, numRun_nil, wid1, wid3, Nat.zero_add, Nat.reduceAdd, eithRun, e1, if_false, Bool.false_eq_true]

set_option maxHeartbeats 4000000 in
theorem runH_yes (f : Nat → Nat → Int) (B : FB f) (h0 : f 1 0 = 1) (h1 : f 1 2 = 0) (h2 : f 3 12 = 1594834165) (h3 : 16 ≤ f 1 18) (h4 : f 1 18 ≤ 16384) (h5 : f 1 50 = 0 ∨ f 1 50 = 1) (h6 : f 1 52 = 0) :
    runAll (fun kd k _ => k + wid kd) (fun kd k _ => f kd k) dsH 0 zH = (true, 54, #[.int .i64 (f 1 18), .int .i64 (f 1 16), .int .i64 (f 2 36), .int .i64 (f 2 38), .int .i64 (f 2 40), .int .i64 (f 2 42), .int .i64 (f 1 44), .int .i64 (f 1 46), .bool (f 1 50 == 1)]) := by
  have c0 := jst h0; have c1 := jst h1; have c2 := jst h2; have c6 := jst h6
  have r16 := rng (B.b1 16).1 (B.b1 16).2; have r18 := rng h3 h4; have r36 := rng (B.b2 36).1 (B.b2 36).2; have r38 := rng (B.b2 38).1 (B.b2 38).2; have r40 := rng (B.b2 40).1 (B.b2 40).2; have r42 := rng (B.b2 42).1 (B.b2 42).2; have r44 := rng (B.b1 44).1 (B.b1 44).2; have r46 := rng (B.b1 46).1 (B.b1 46).2
  have e5 : ((f 1 50 == 0) || (f 1 50 == 1)) = true := by rcases h5 with h | h <;> rw [h] <;> rfl
  simp only [dsH, zH, runAll_cons, runAll_nil, fdRun, numRun_cons, numRun_nil, free_rd, wid1, wid2, wid3, Nat.zero_add, Nat.reduceAdd, eithRun, c0, c1, c2, c6, r16, r18, r36, r38, r40, r42, r44, r46, e5, if_true]
  rfl
set_option maxHeartbeats 4000000 in
theorem runH_no (f : Nat → Nat → Int) (B : FB f) (h : ¬ (f 1 0 = 1 ∧ f 1 2 = 0 ∧ f 3 12 = 1594834165 ∧ (16 ≤ f 1 18 ∧ f 1 18 ≤ 16384) ∧ (f 1 50 = 0 ∨ f 1 50 = 1) ∧ f 1 52 = 0)) :
    (runAll (fun kd k _ => k + wid kd) (fun kd k _ => f kd k) dsH 0 zH).1 = false := by
  have r16 := rng (B.b1 16).1 (B.b1 16).2; have r36 := rng (B.b2 36).1 (B.b2 36).2; have r38 := rng (B.b2 38).1 (B.b2 38).2; have r40 := rng (B.b2 40).1 (B.b2 40).2; have r42 := rng (B.b2 42).1 (B.b2 42).2; have r44 := rng (B.b1 44).1 (B.b1 44).2; have r46 := rng (B.b1 46).1 (B.b1 46).2
  by_cases h0 : f 1 0 = 1
  rotate_left
  · have c0 := njst h0
    simp only [dsH, zH, runAll_cons, runAll_nil, fdRun, numRun_cons, numRun_nil, free_rd, wid1, wid2, wid3, Nat.zero_add, Nat.reduceAdd, c0, if_true, if_false, Bool.false_eq_true]
  have c0 := jst h0
  by_cases h1 : f 1 2 = 0
  rotate_left
  · have c1 := njst h1
    simp only [dsH, zH, runAll_cons, runAll_nil, fdRun, numRun_cons, numRun_nil, free_rd, wid1, wid2, wid3, Nat.zero_add, Nat.reduceAdd, c0, c1, if_true, if_false, Bool.false_eq_true]
  have c1 := jst h1
  by_cases h2 : f 3 12 = 1594834165
  rotate_left
  · have c2 := njst h2
    simp only [dsH, zH, runAll_cons, runAll_nil, fdRun, numRun_cons, numRun_nil, free_rd, wid1, wid2, wid3, Nat.zero_add, Nat.reduceAdd, c0, c1, c2, if_true, if_false, Bool.false_eq_true]
  have c2 := jst h2
  by_cases h3 : 16 ≤ f 1 18 ∧ f 1 18 ≤ 16384
  rotate_left
  · have r18 := nrng h3
    simp only [dsH, zH, runAll_cons, runAll_nil, fdRun, numRun_cons, numRun_nil, free_rd, wid1, wid2, wid3, Nat.zero_add, Nat.reduceAdd, c0, c1, c2, r16, r18, if_true, if_false, Bool.false_eq_true]
  have r18 := rng h3.1 h3.2
  by_cases h5 : f 1 50 = 0 ∨ f 1 50 = 1
  rotate_left
  · have e5 : ((f 1 50 == 0) || (f 1 50 == 1)) = false := by simp; omega
    simp only [dsH, zH, runAll_cons, runAll_nil, fdRun, numRun_cons, numRun_nil, free_rd, wid1, wid2, wid3, Nat.zero_add, Nat.reduceAdd, eithRun, c0, c1, c2, r16, r18, r36, r38, r40, r42, r44, r46, e5, if_true, if_false, Bool.false_eq_true]
  have e5 : ((f 1 50 == 0) || (f 1 50 == 1)) = true := by rcases h5 with h | h <;> rw [h] <;> rfl
  have c6 := njst (v := f 1 52) (x := 0) (fun h6 => h ⟨h0, h1, h2, h3, h5, h6⟩)
  simp only [dsH, zH, runAll_cons, runAll_nil, fdRun, numRun_cons, numRun_nil, free_rd, wid1, wid2, wid3, Nat.zero_add, Nat.reduceAdd, eithRun, c0, c1, c2, c6, r16, r18, r36, r38, r40, r42, r44, r46, e5, if_true, if_false, Bool.false_eq_true]

theorem fbOf (E : List Value) (h8 : Bytes8 E) : FB (fun kd k => rdk E kd k) := ⟨fun k => rdk1_b E h8 k, fun k => rdk2_b E h8 k⟩
theorem bytes_take {E : List Value} (h8 : Bytes8 E) (n : Nat) : Bytes8 (E.take n) := fun u hu => h8 u (List.mem_of_mem_take hu)

/-- What is answered of these bytes. -/
theorem rdL_eq (E : List Value) (h8 : Bytes8 E) : ((rdRun (E.take 36) dsL zL).1 && decide ((rdRun (E.take 36) dsL zL).2.1 ≤ (E.take 36).length)) = okL E ∧ (okL E = true → mkL (rdRun (E.take 36) dsL zL).2.2 = valL E) := by
  have hl : (E.take 36).length = min 36 E.length := List.length_take
  have B := fbOf _ (bytes_take h8 36)
  have t := fun kd k hk h => rdk_take E 36 kd k hk h
  cases hok : okL E with
  | true =>
    unfold okL at hok
    simp only [Bool.and_eq_true, decide_eq_true_eq, beq_iff_eq] at hok
    obtain ⟨⟨⟨⟨hlen, h0⟩, h1⟩, h5⟩, h6⟩ := hok
    have e := runL_yes _ B (by show rdk (E.take 36) 1 0 = 1; rw [t _ _ (by decide) (by decide), rdk1_in E _ (by omega), h0]; rfl) (by show rdk (E.take 36) 1 2 = 0; rw [t _ _ (by decide) (by decide), rdk1_in E _ (by omega), h1]; rfl) (by show rdk (E.take 36) 1 32 = 0; rw [t _ _ (by decide) (by decide), rdk1_in E _ (by omega), h5]; rfl) (by show 1 ≤ rdk (E.take 36) 1 34; rw [t _ _ (by decide) (by decide), rdk1_in E _ (by omega)]; omega)
    have e : rdRun (E.take 36) dsL zL = _ := e
    rw [e]
    refine ⟨by rw [hl]; simp; omega, fun _ => ?_⟩
    unfold valL
    rw [← rdk2_in E 4 (by omega), ← rdk2_in E 6 (by omega), ← rdk2_in E 8 (by omega), ← rdk1_in E 34 (by omega), ← t 2 4 (by decide) (by decide), ← t 2 6 (by decide) (by decide), ← t 2 8 (by decide) (by decide), ← t 1 34 (by decide) (by decide)]
    rfl
  | false =>
    refine ⟨?_, fun h => (nomatch h)⟩
    have e := runL_no _ B (by
      rintro ⟨h0, h1, h5, h6⟩
      have h0 : rdk (E.take 36) 1 0 = 1 := h0
      have h1 : rdk (E.take 36) 1 2 = 0 := h1
      have h5 : rdk (E.take 36) 1 32 = 0 := h5
      have h6 : 1 ≤ rdk (E.take 36) 1 34 := h6
      rw [t _ _ (by decide) (by decide)] at h0 h1 h5 h6
      rcases Nat.lt_or_ge E.length 36 with hlen | hlen
      · rw [rdk1_out E 34 (by omega)] at h6; omega
      · rw [rdk1_in E _ (by omega)] at h0 h1 h5 h6
        unfold okL at hok
        rw [decide_eq_true hlen, show rd2 E 0 = 1 by omega, show rd2 E 2 = 0 by omega, show rd2 E 32 = 0 by omega, decide_eq_true (show 1 ≤ rd2 E 34 by omega)] at hok
        cases hok)
    have e : (rdRun (E.take 36) dsL zL).1 = false := e
    rw [e]; rfl
theorem rdG_eq (E : List Value) (h8 : Bytes8 E) : ((rdRun (E.take 32) dsG zG).1 && decide ((rdRun (E.take 32) dsG zG).2.1 ≤ (E.take 32).length)) = okG E ∧ (okG E = true → mkG (rdRun (E.take 32) dsG zG).2.2 = valG E) := by
  have hl : (E.take 32).length = min 32 E.length := List.length_take
  have B := fbOf _ (bytes_take h8 32)
  have t := fun kd k hk h => rdk_take E 32 kd k hk h
  by_cases hy : (rdk (E.take 32) 3 0 = 65536 ∨ rdk (E.take 32) 3 0 = 20480) ∧ 1 ≤ rdk (E.take 32) 1 4
  · obtain ⟨h0, h1⟩ := hy
    have h6 : 6 ≤ E.length := by
      rcases Nat.lt_or_ge E.length 6 with h | h
      · rw [t _ _ (by decide) (by decide), rdk1_out E 4 (by omega)] at h1; omega
      · exact h
    obtain ⟨tt, htt⟩ : ∃ tt : Bool, rdk (E.take 32) 3 0 = if tt then 65536 else 20480 := by rcases h0 with h | h; exact ⟨true, h⟩; exact ⟨false, h⟩
    have e := runG_yes _ B tt htt h1
    have e : rdRun (E.take 32) dsG zG = _ := e
    rw [e]
    have h4 := htt
    rw [t _ _ (by decide) (by decide), rdk3_in E 0 (by omega)] at h4
    rw [t _ _ (by decide) (by decide), rdk1_in E 4 (by omega)] at h1
    have hv : valG E = .agg #[.int .i64 (rdk (E.take 32) 1 4), .bool tt] := by
      unfold valG
      rw [t 1 4 (by decide) (by decide), rdk1_in E 4 (by omega)]
      cases tt
      · have : rd4 E 0 = 20480 := by simp at h4; omega
        rw [this]; rfl
      · have : rd4 E 0 = 65536 := by simp at h4; omega
        rw [this]; rfl
    refine ⟨?_, fun _ => by rw [hv]; rfl⟩
    rw [hl]
    unfold okG
    have d1 : decide (1 ≤ rd2 E 4) = true := by simp; omega
    have d6 : decide (6 ≤ E.length) = true := by simp; omega
    rw [d1, d6]
    cases tt
    · have : rd4 E 0 = 20480 := by simp at h4; omega
      rw [this]; simp; omega
    · have : rd4 E 0 = 65536 := by simp at h4; omega
      rw [this]; simp; omega
  · have e := runG_no _ hy
    have e : (rdRun (E.take 32) dsG zG).1 = false := e
    have ok : okG E = false := by
      cases hok : okG E
      · rfl
      · exfalso
        unfold okG at hok
        simp only [Bool.or_eq_true, Bool.and_eq_true, decide_eq_true_eq, beq_iff_eq] at hok
        have h6 : 6 ≤ E.length := by omega
        refine hy ⟨?_, ?_⟩
        · rw [t _ _ (by decide) (by decide), rdk3_in E 0 (by omega)]; omega
        · rw [t _ _ (by decide) (by decide), rdk1_in E 4 (by omega)]; omega
    rw [e, ok]
    exact ⟨rfl, fun h => (nomatch h)⟩
theorem rdH_eq (E : List Value) (h8 : Bytes8 E) : ((rdRun (E.take 54) dsH zH).1 && decide ((rdRun (E.take 54) dsH zH).2.1 ≤ (E.take 54).length)) = okH E ∧ (okH E = true → mkH (rdRun (E.take 54) dsH zH).2.2 = valH E) := by
  have hl : (E.take 54).length = min 54 E.length := List.length_take
  have B := fbOf _ (bytes_take h8 54)
  have t := fun kd k hk h => rdk_take E 54 kd k hk h
  by_cases hy : rdk (E.take 54) 1 0 = 1 ∧ rdk (E.take 54) 1 2 = 0 ∧ rdk (E.take 54) 3 12 = 1594834165 ∧ (16 ≤ rdk (E.take 54) 1 18 ∧ rdk (E.take 54) 1 18 ≤ 16384) ∧ (rdk (E.take 54) 1 50 = 0 ∨ rdk (E.take 54) 1 50 = 1) ∧ rdk (E.take 54) 1 52 = 0
  · have e := runH_yes _ B hy.1 hy.2.1 hy.2.2.1 hy.2.2.2.1.1 hy.2.2.2.1.2 hy.2.2.2.2.1 hy.2.2.2.2.2
    have e : rdRun (E.take 54) dsH zH = _ := e
    rw [e]
    rcases Nat.lt_or_ge E.length 54 with hlen | hlen
    · have ok : okH E = false := by unfold okH; rw [decide_eq_false (by omega)]; rfl
      rw [ok, hl]
      refine ⟨?_, fun h => (nomatch h)⟩
      simp; omega
    · rw [t _ _ (by decide) (by decide), t _ _ (by decide) (by decide), t _ _ (by decide) (by decide), t _ _ (by decide) (by decide), t _ _ (by decide) (by decide), t _ _ (by decide) (by decide), rdk1_in E _ (by omega), rdk1_in E _ (by omega), rdk3_in E _ (by omega), rdk1_in E _ (by omega), rdk1_in E _ (by omega), rdk1_in E _ (by omega)] at hy
      obtain ⟨h0, h1, h2, h3, h5, h6⟩ := hy
      refine ⟨?_, fun _ => ?_⟩
      · unfold okH
        rw [decide_eq_true hlen, show rd2 E 0 = 1 by omega, show rd2 E 2 = 0 by omega, show rd4 E 12 = 1594834165 by omega, show rd2 E 52 = 0 by omega, decide_eq_true (show 16 ≤ rd2 E 18 by omega), decide_eq_true (show rd2 E 18 ≤ 16384 by omega), decide_eq_true (show rd2 E 50 < 2 by omega), hl]
        simp; omega
      · unfold valH
        have e50 : (rdk (E.take 54) 1 50 == 1) = (rd2 E 50 == 1) := by
          rw [t _ _ (by decide) (by decide), rdk1_in E _ (by omega)]
          rcases h5 with h | h
          · rw [h, show rd2 E 50 = 0 by omega]; rfl
          · rw [h, show rd2 E 50 = 1 by omega]; rfl
        rw [← e50, ← rdk1_in E 18 (by omega), ← rdk1_in E 16 (by omega), ← rdk2_in E 36 (by omega), ← rdk2_in E 38 (by omega), ← rdk2_in E 40 (by omega), ← rdk2_in E 42 (by omega), ← rdk1_in E 44 (by omega), ← rdk1_in E 46 (by omega),
          ← t 1 18 (by decide) (by decide), ← t 1 16 (by decide) (by decide), ← t 2 36 (by decide) (by decide), ← t 2 38 (by decide) (by decide), ← t 2 40 (by decide) (by decide), ← t 2 42 (by decide) (by decide), ← t 1 44 (by decide) (by decide), ← t 1 46 (by decide) (by decide)]
        rfl
  · have e := runH_no _ B hy
    have e : (rdRun (E.take 54) dsH zH).1 = false := e
    have ok : okH E = false := by
      cases hok : okH E
      · rfl
      · exfalso
        unfold okH at hok
        simp only [Bool.and_eq_true, decide_eq_true_eq, beq_iff_eq] at hok
        obtain ⟨⟨⟨⟨⟨⟨⟨hlen, h0⟩, h1⟩, h2⟩, h3⟩, h4⟩, h5⟩, h6⟩ := hok
        refine hy ?_
        rw [t _ _ (by decide) (by decide), t _ _ (by decide) (by decide), t _ _ (by decide) (by decide), t _ _ (by decide) (by decide), t _ _ (by decide) (by decide), t _ _ (by decide) (by decide), rdk1_in E _ (by omega), rdk1_in E _ (by omega), rdk3_in E _ (by omega), rdk1_in E _ (by omega), rdk1_in E _ (by omega), rdk1_in E _ (by omega)]
        omega
    rw [e, ok]
    exact ⟨rfl, fun h => (nomatch h)⟩

end Go.Proofs.Ytekailhghjideaa

namespace Go.Proofs.Ytekailhghjideaa
open Go Go.RowKit

set_option linter.unusedSimpArgs false

def z8s (n : Nat) : List Value := List.replicate n (.int .u8 0)
theorem z8s_len (n : Nat) : (z8s n).length = n := by simp [z8s]
theorem z8s_bytes (n : Nat) : Bytes8 (z8s n) := fun u hu => ⟨0, by omega, (List.mem_replicate.1 hu).2⟩
theorem be2_len (x : Int) : (be2 x).length = 2 := rfl
theorem be4_len (x : Int) : (be4 x).length = 4 := rfl
def inS (x : Int) : Bool := decide (-32768 ≤ x) && decide (x ≤ 32767)
def inW (x : Int) : Bool := decide (0 ≤ x) && decide (x ≤ 65535)
def mayG (a0 : Int) : Bool := decide (1 ≤ a0) && decide (a0 ≤ 65535)
def mayL (a0 a1 a2 a3 : Int) : Bool := inS a0 && inS a1 && inS a2 && mayG a3
def mayH (a0 a1 a2 a3 a4 a5 a6 a7 : Int) : Bool := decide (16 ≤ a0) && decide (a0 ≤ 16384) && inW a1 && inW a6 && inW a7 && inS a2 && inS a3 && inS a4 && inS a5
def putGs (a0 : Int) (b1 : Bool) : List Value := be4 (if b1 then 65536 else 20480) ++ be2 a0 ++ (if b1 then z8s 26 else [])
def putLs (a0 a1 a2 a3 : Int) : List Value := be2 1 ++ be2 0 ++ be2 a0 ++ be2 a1 ++ be2 a2 ++ z8s 22 ++ be2 0 ++ be2 a3
def putHs (a0 a1 a2 a3 a4 a5 a6 a7 : Int) (b8 : Bool) : List Value := be2 1 ++ be2 0 ++ z8s 8 ++ be4 1594834165 ++ be2 a1 ++ be2 a0 ++ z8s 16 ++ be2 a2 ++ be2 a3 ++ be2 a4 ++ be2 a5 ++ be2 a6 ++ be2 a7 ++ z8s 2 ++ be2 (if b8 then 1 else 0) ++ be2 0
theorem putGs_bytes (a0 : Int) (b1 : Bool) : Bytes8 (putGs a0 b1) := ((be4_bytes _).append (be2_bytes _)).append (by cases b1; exact fun u hu => (by cases hu); exact z8s_bytes 26)
theorem putLs_bytes (a0 a1 a2 a3 : Int) : Bytes8 (putLs a0 a1 a2 a3) := (((((((be2_bytes _).append (be2_bytes _)).append (be2_bytes _)).append (be2_bytes _)).append (be2_bytes _)).append (z8s_bytes 22)).append (be2_bytes _)).append (be2_bytes _)
theorem putHs_bytes (a0 a1 a2 a3 a4 a5 a6 a7 : Int) (b8 : Bool) : Bytes8 (putHs a0 a1 a2 a3 a4 a5 a6 a7 b8) := (((((((((((((((be2_bytes _).append (be2_bytes _)).append (z8s_bytes 8)).append (be4_bytes _)).append (be2_bytes _)).append (be2_bytes _)).append (z8s_bytes 16)).append (be2_bytes _)).append (be2_bytes _)).append (be2_bytes _)).append (be2_bytes _)).append (be2_bytes _)).append (be2_bytes _)).append (z8s_bytes 2)).append (be2_bytes _)).append (be2_bytes _)
theorem putGs_len (a0 : Int) (b1 : Bool) : (putGs a0 b1).length = if b1 then 32 else 6 := by cases b1 <;> rfl
theorem putLs_len (a0 a1 a2 a3 : Int) : (putLs a0 a1 a2 a3).length = 36 := rfl
theorem putHs_len (a0 a1 a2 a3 a4 a5 a6 a7 : Int) (b8 : Bool) : (putHs a0 a1 a2 a3 a4 a5 a6 a7 b8).length = 54 := rfl

theorem bek1 (x : Int) : bek 1 x = be2 x := rfl
theorem bek2 (x : Int) : bek 2 x = be2 x := rfl
theorem bek3 (x : Int) : bek 3 x = be4 x := rfl
theorem free_wr2 (n : Nat) (L : List Value) : freeRun (fun kd (L : List Value) x => L ++ bek kd x) n L = L ++ z8s n := free_wr n L
theorem self_in (x : Int) : (decide (x ≤ x) && decide (x ≤ x)) = true := by simp
theorem rngB {v a b : Int} (m : Bool) : ((m && decide (a ≤ v)) && decide (v ≤ b)) = (m && (decide (a ≤ v) && decide (v ≤ b))) := Bool.and_assoc _ _ _
theorem wrG_run (a0 : Int) (b1 : Bool) : (wrRun dsG #[.int .i64 a0, .bool b1]).1 = mayG a0 ∧ (mayG a0 = true → (wrRun dsG #[.int .i64 a0, .bool b1]).2.1 = putGs a0 b1) := by
  have hm : mayG a0 = decide (1 ≤ a0 ∧ a0 ≤ 65535) := by unfold mayG; simp
  have i0 : ∀ b, intAt #[.int .i64 a0, .bool b] 0 = a0 := fun _ => rfl
  have b0 : ∀ b, boolAt #[.int .i64 a0, .bool b] 1 = b := fun _ => rfl
  have s0 : ∀ b c, (#[Value.int .i64 a0, .bool b].setIfInBounds 1 (.bool c)) = #[.int .i64 a0, .bool c] := fun _ _ => rfl
  have s1 : ∀ b, (#[Value.int .i64 a0, .bool b].setIfInBounds 0 (.int .i64 a0)) = #[.int .i64 a0, .bool b] := fun _ => rfl
  have e1 : ((20480 : Int) == 65536) = false := rfl
  have e2 : ((65536 : Int) == 65536) = true := rfl
  rw [hm]
  by_cases h : 1 ≤ a0 ∧ a0 ≤ 65535 <;> cases b1 <;> simp [wrRun, dsG, runAll_cons, runAll_nil, fdRun, numRun_cons, numRun_nil, eithRun, condRun, i0, b0, s0, s1, h, bek1, bek3, free_wr2, putGs, e1, e2]
theorem wrL_run (a0 a1 a2 a3 : Int) : (wrRun dsL #[.int .i64 a0, .int .i64 a1, .int .i64 a2, .int .i64 a3]).1 = mayL a0 a1 a2 a3 ∧ (mayL a0 a1 a2 a3 = true → (wrRun dsL #[.int .i64 a0, .int .i64 a1, .int .i64 a2, .int .i64 a3]).2.1 = putLs a0 a1 a2 a3) := by
  have i0 : intAt #[.int .i64 a0, .int .i64 a1, .int .i64 a2, .int .i64 a3] 0 = a0 := rfl
  have i1 : intAt #[.int .i64 a0, .int .i64 a1, .int .i64 a2, .int .i64 a3] 1 = a1 := rfl
  have i2 : intAt #[.int .i64 a0, .int .i64 a1, .int .i64 a2, .int .i64 a3] 2 = a2 := rfl
  have i3 : intAt #[.int .i64 a0, .int .i64 a1, .int .i64 a2, .int .i64 a3] 3 = a3 := rfl
  have s0 : (#[Value.int .i64 a0, .int .i64 a1, .int .i64 a2, .int .i64 a3].setIfInBounds 0 (.int .i64 a0)) = #[.int .i64 a0, .int .i64 a1, .int .i64 a2, .int .i64 a3] := rfl
  have s1 : (#[Value.int .i64 a0, .int .i64 a1, .int .i64 a2, .int .i64 a3].setIfInBounds 1 (.int .i64 a1)) = #[.int .i64 a0, .int .i64 a1, .int .i64 a2, .int .i64 a3] := rfl
  have s2 : (#[Value.int .i64 a0, .int .i64 a1, .int .i64 a2, .int .i64 a3].setIfInBounds 2 (.int .i64 a2)) = #[.int .i64 a0, .int .i64 a1, .int .i64 a2, .int .i64 a3] := rfl
  have s3 : (#[Value.int .i64 a0, .int .i64 a1, .int .i64 a2, .int .i64 a3].setIfInBounds 3 (.int .i64 a3)) = #[.int .i64 a0, .int .i64 a1, .int .i64 a2, .int .i64 a3] := rfl
  have h2 : ((((true && (decide (-32768 ≤ a0) && decide (a0 ≤ 32767))) && (decide (-32768 ≤ a1) && decide (a1 ≤ 32767))) && (decide (-32768 ≤ a2) && decide (a2 ≤ 32767)))) = (inS a0 && inS a1 && inS a2) := rfl
  have h3 : (true && (decide (1 ≤ a3) && decide (a3 ≤ 65535))) = mayG a3 := rfl
  simp only [wrRun, dsL, runAll_cons, runAll_nil, fdRun, numRun_cons, numRun_nil, i0, i1, i2, i3, s0, s1, s2, s3, rngB, h2, h3, self_in, bek1, bek2, free_wr2, if_true, List.nil_append, List.append_assoc]
  cases h4 : (inS a0 && inS a1 && inS a2) <;> cases h5 : mayG a3 <;> simp only [mayL, h4, h5, Bool.false_eq_true, if_false, if_true, Bool.and_true, Bool.and_false, Bool.true_and, Bool.false_and, true_and, and_true, false_implies, true_implies, implies_true, reduceCtorEq, and_self, putLs, List.append_assoc]
theorem wrH_run (a0 a1 a2 a3 a4 a5 a6 a7 : Int) (b8 : Bool) : (wrRun dsH #[.int .i64 a0, .int .i64 a1, .int .i64 a2, .int .i64 a3, .int .i64 a4, .int .i64 a5, .int .i64 a6, .int .i64 a7, .bool b8]).1 = mayH a0 a1 a2 a3 a4 a5 a6 a7 ∧ (mayH a0 a1 a2 a3 a4 a5 a6 a7 = true → (wrRun dsH #[.int .i64 a0, .int .i64 a1, .int .i64 a2, .int .i64 a3, .int .i64 a4, .int .i64 a5, .int .i64 a6, .int .i64 a7, .bool b8]).2.1 = putHs a0 a1 a2 a3 a4 a5 a6 a7 b8) := by
  obtain ⟨X, hX⟩ : ∃ X : Array Value, X = #[.int .i64 a0, .int .i64 a1, .int .i64 a2, .int .i64 a3, .int .i64 a4, .int .i64 a5, .int .i64 a6, .int .i64 a7, .bool b8] := ⟨_, rfl⟩
  have i0 : intAt X 0 = a0 := by rw [hX]; rfl
  have s0 : X.setIfInBounds 0 (.int .i64 a0) = X := by rw [hX]; rfl
  have i1 : intAt X 1 = a1 := by rw [hX]; rfl
  have s1 : X.setIfInBounds 1 (.int .i64 a1) = X := by rw [hX]; rfl
  have i2 : intAt X 2 = a2 := by rw [hX]; rfl
  have s2 : X.setIfInBounds 2 (.int .i64 a2) = X := by rw [hX]; rfl
  have i3 : intAt X 3 = a3 := by rw [hX]; rfl
  have s3 : X.setIfInBounds 3 (.int .i64 a3) = X := by rw [hX]; rfl
  have i4 : intAt X 4 = a4 := by rw [hX]; rfl
  have s4 : X.setIfInBounds 4 (.int .i64 a4) = X := by rw [hX]; rfl
  have i5 : intAt X 5 = a5 := by rw [hX]; rfl
  have s5 : X.setIfInBounds 5 (.int .i64 a5) = X := by rw [hX]; rfl
  have i6 : intAt X 6 = a6 := by rw [hX]; rfl
  have s6 : X.setIfInBounds 6 (.int .i64 a6) = X := by rw [hX]; rfl
  have i7 : intAt X 7 = a7 := by rw [hX]; rfl
  have s7 : X.setIfInBounds 7 (.int .i64 a7) = X := by rw [hX]; rfl
  have j8 : boolAt X 8 = b8 := by rw [hX]; rfl
  have t8 : X.setIfInBounds 8 (.bool b8) = X := by rw [hX]; rfl
  rw [← hX]
  have e0 : ((if b8 then (1 : Int) else 0) == 1) = b8 := by cases b8 <;> rfl
  have e1 : (((if b8 then (1 : Int) else 0) == 0) || b8) = true := by cases b8 <;> rfl
  have h1 : (true && (decide (0 ≤ a1) && decide (a1 ≤ 65535))) = inW a1 := rfl
  have h0 : (true && (decide (16 ≤ a0) && decide (a0 ≤ 16384))) = (decide (16 ≤ a0) && decide (a0 ≤ 16384)) := rfl
  have h2 : (((((true && (decide (-32768 ≤ a2) && decide (a2 ≤ 32767))) && (decide (-32768 ≤ a3) && decide (a3 ≤ 32767))) && (decide (-32768 ≤ a4) && decide (a4 ≤ 32767)))) && (decide (-32768 ≤ a5) && decide (a5 ≤ 32767))) = (inS a2 && inS a3 && inS a4 && inS a5) := rfl
  have h6 : ((true && (decide (0 ≤ a6) && decide (a6 ≤ 65535))) && (decide (0 ≤ a7) && decide (a7 ≤ 65535))) = (inW a6 && inW a7) := rfl
  clear hX
  have hm : mayH a0 a1 a2 a3 a4 a5 a6 a7 = ((decide (16 ≤ a0) && decide (a0 ≤ 16384)) && inW a1 && (inW a6 && inW a7) && (inS a2 && inS a3 && inS a4 && inS a5)) := by
    unfold mayH
    simp only [Bool.and_assoc]
  rw [hm]
  simp only [wrRun, dsH, runAll_cons, runAll_nil, fdRun, numRun_cons, numRun_nil, eithRun, i0, i1, i2, i3, i4, i5, i6, i7, j8, s0, s1, s2, s3, s4, s5, s6, s7, t8, e0, e1, rngB, h0, h1, h2, h6, self_in, bek1, bek2, bek3, free_wr2, if_true, List.nil_append, List.append_assoc]
  cases k1 : inW a1 <;> cases k0 : (decide (16 ≤ a0) && decide (a0 ≤ 16384)) <;> cases k2 : (inS a2 && inS a3 && inS a4 && inS a5) <;> cases k6 : (inW a6 && inW a7) <;> simp only [Bool.false_eq_true, if_false, if_true, Bool.and_true, Bool.and_false, Bool.true_and, Bool.false_and, true_and, and_true, false_implies, true_implies, implies_true, reduceCtorEq, and_self, putHs, List.append_assoc]


end Go.Proofs.Ytekailhghjideaa

namespace Go.Proofs.Ytekailhghjideaa
open Go Go.RowKit

set_option linter.unusedVariables false
set_option linter.unusedSimpArgs false
/-- The reference's writer, made since world w0. -/
def RWS (w0 w : World) (q R : Nat) (L : List Value) : Prop := ∃ fp, RWr w q R false L fp ∧ Below w0.heap.size w0 w ∧ ∀ b ∈ fp, w0.heap.size ≤ b
theorem RWS.old {w0 w : World} {q R : Nat} {L : List Value} (h : RWS w0 w q R L) : Below w0.heap.size w0 w := h.elim fun _ h => h.2.1
theorem RWS.below {w0 w w1 : World} {q R : Nat} {L : List Value} (h : RWS w0 w q R L) (k : Below w.heap.size w w1) : RWS w0 w1 q R L := by
  obtain ⟨fp, hW, b, hf⟩ := h
  exact ⟨fp, hW.only (Only.of_below k []) (fun _ _ h => (nomatch h)), b.trans (k.mono b.size), hf⟩
def RWrote (w0 : World) (q R : Nat) (L E : List Value) (e : Ending) (w' : World) : Prop := e = .returned (.tuple #[]) ∧ RWS w0 w' q R (L ++ E)
theorem rws_put {w0 w : World} {q R : Nat} {L E : List Value} {f : FuncId} {args : Array Value} (h : RWS w0 w q R L) (hx : L.length + E.length ≤ R)
    (hc : ∀ fp, RWr w q R false L fp → Calls Try.prog f args w fun e w' => e = .returned (.tuple #[]) ∧ RPut w w' q R false L fp E) :
    Calls Try.prog f args w (RWrote w0 q R L E) := by
  obtain ⟨fp, hW, b, hf⟩ := h
  refine (hc fp hW).mono fun e w' ⟨he, fp', h1, h2, h3⟩ => ⟨he, fp', ?_, ?_, fun x hx => ?_⟩
  · have e1 : putF R false L E = false := by unfold putF; simp; exact hx
    rw [e1] at h1
    unfold putL at h1
    rw [e1, if_neg (by simp)] at h1
    exact h1
  · exact b.trans (h2.to_below b.size hf)
  · rcases h3 x hx with h | h
    · exact hf x h
    · have := b.size; omega
theorem rws_u2 (w0 w : World) (q R : Nat) (L : List Value) (x : Int) (h : RWS w0 w q R L) (hx : L.length + 2 ≤ R) (hR : R ≤ 1099511627776) :
    Calls Try.prog 33 #[.pointer (some ⟨q, 0, none⟩), .int .i64 2, .int .i64 x] w (RWrote w0 q R L (be2 x)) := rws_put h hx fun fp hW => ru2_any q R false L fp x w hW hR
theorem rws_u4 (w0 w : World) (q R : Nat) (L : List Value) (x : Int) (h : RWS w0 w q R L) (hx : L.length + 4 ≤ R) (hR : R ≤ 1099511627776) :
    Calls Try.prog 33 #[.pointer (some ⟨q, 0, none⟩), .int .i64 4, .int .i64 x] w (RWrote w0 q R L (be4 x)) := rws_put h hx fun fp hW => ru4_any q R false L fp x w hW hR
/-- The cells of a new row of bytes 0. -/
def zcs (n : Nat) : Array Value := (z8s n).toArray
theorem zcs_get (n j : Nat) (u : Value) (h : (z8s n)[j]? = some u) : (zcs n)[j]? = some u := by unfold zcs; simpa using h
theorem make_zcs (n : Nat) (hn : n ≤ 1000) (w : World) : (Instr.makeSlice 22 (.int .i64 (n : Nat)) (.int .i64 (n : Nat))).run Try.prog w = .ok (.slice (some ⟨w.heap.size, 0, none⟩) n n) (w.alloc (.cells (zcs n) 5)) := by
  have h := run_make_row' (P := Try.prog) 22 5 (.int .u8 0) 1 Try.underlying22 u8Info rfl .i64 .i64 n (by omega) (by omega) w
  rw [made_zeros] at h
  exact h
theorem rws_zeros (w0 w : World) (q R n k : Nat) (L : List Value) (hk : k = w.heap.size) (h : RWS w0 w q R L) (hx : L.length + n ≤ R) (hR : R ≤ 1099511627776) :
    Calls Try.prog 34 #[.pointer (some ⟨q, 0, none⟩), .slice (some ⟨k, 0, none⟩) n n] (w.alloc (.cells (zcs n) 5)) (RWrote w0 q R L (z8s n)) := by
  subst hk
  exact rws_put (h.below ((Below.refl _ _).alloc (Nat.le_refl _) _)) (by rw [z8s_len]; exact hx) fun fp hW => rdata_any q R false L fp _ n n _ (z8s n) _ hW hR (lists_new w (zcs n) 5 (z8s n) (fun j u hu => zcs_get n j u hu)) (z8s_len n) (Nat.le_refl _) (z8s_bytes n)
theorem rws_new (w0 w : World) (R : Nat) (T : TypeId) (hT : T = 62) (hb : Below w0.heap.size w0 w) : RWS w0 (w.alloc (.cells #[.slice none 0 0, .int .i64 (R : Nat), .bool false] T)) w.heap.size R [] := by
  subst hT
  refine ⟨[w.heap.size], ⟨.slice none 0 0, Blk.new w _ _, ⟨rfl, .inl ⟨rfl, rfl⟩⟩, fun u hu => (by cases hu), Nat.zero_le _, rfl⟩, hb.trans ((Below.refl w.heap.size w).alloc (Nat.le_refl _) _ |>.mono hb.size), fun b hb2 => ?_⟩
  have := hb.size
  simp at hb2
  omega
/-- What is put. -/
def GaveR (w : World) (L : List Value) (e : Ending) (w' : World) : Prop := ∃ A c, e = .returned (.slice A L.length c) ∧ Lists w' w'.heap.size A L ∧ L.length ≤ c ∧ Below w.heap.size w w'
theorem RWS.give {w0 w : World} {q R : Nat} {L : List Value} (h : RWS w0 w q R L) : ∃ A c, w.cell? ⟨q, 0, none⟩ = some (.slice A L.length c) ∧ Lists w w.heap.size A L ∧ L.length ≤ c := by
  obtain ⟨fp, ⟨bv, hb, ho, _⟩, _⟩ := h
  obtain ⟨A, c, rfl, hl, hc⟩ := own_lists ho
  exact ⟨A, c, hb.cell 0, hl, hc⟩


end Go.Proofs.Ytekailhghjideaa

namespace Go.Proofs.Ytekailhghjideaa
open Go Go.RowKit
set_option linter.unusedVariables false
set_option linter.unusedSimpArgs false

/-- The reference's writer, made since world w0, beside rows that it leaves as they are. -/
def RWK (w0 w : World) (q R : Nat) (L : List Value) (KS : List (Nat × TypeId × Array Value)) : Prop := ∃ fp, RWr w q R false L fp ∧ Below w0.heap.size w0 w ∧ (∀ b ∈ fp, w0.heap.size ≤ b) ∧ ∀ x ∈ KS, x.1 ∉ fp ∧ Blk w x.1 x.2.1 x.2.2
theorem RWS.keep {w0 w : World} {q R : Nat} {L : List Value} (h : RWS w0 w q R L) : RWK w0 w q R L [] := by
  obtain ⟨fp, a, b, c⟩ := h
  exact ⟨fp, a, b, c, fun x hx => (nomatch hx)⟩
theorem RWK.drop {w0 w : World} {q R : Nat} {L : List Value} {KS : List (Nat × TypeId × Array Value)} (h : RWK w0 w q R L KS) : RWS w0 w q R L := by
  obtain ⟨fp, a, b, c, _⟩ := h
  exact ⟨fp, a, b, c⟩
theorem RWK.new {w0 w : World} {q R : Nat} {L : List Value} {KS : List (Nat × TypeId × Array Value)} (h : RWK w0 w q R L KS) (T : TypeId) (cs : Array Value) (k : Nat) (hk : k = w.heap.size) : RWK w0 (w.alloc (.cells cs T)) q R L ((k, T, cs) :: KS) := by
  subst hk
  obtain ⟨fp, a, b, c, d⟩ := h
  have al : Below w.heap.size w (w.alloc (.cells cs T)) := (Below.refl _ _).alloc (Nat.le_refl _) _
  refine ⟨fp, a.only (Only.of_below al []) (fun _ _ h => (nomatch h)), b.trans (al.mono b.size), c, fun x hx => ?_⟩
  rcases List.mem_cons.1 hx with rfl | hx
  · exact ⟨fun h => absurd (a.lt _ h) (Nat.lt_irrefl _), Blk.new w T cs⟩
  · exact ⟨(d x hx).1, (d x hx).2.below al⟩
theorem RWK.below {w0 w w1 : World} {q R : Nat} {L : List Value} {KS : List (Nat × TypeId × Array Value)} (h : RWK w0 w q R L KS) (k : Below w.heap.size w w1) : RWK w0 w1 q R L KS := by
  obtain ⟨fp, a, b, c, d⟩ := h
  exact ⟨fp, a.only (Only.of_below k []) (fun _ _ h => (nomatch h)), b.trans (k.mono b.size), c, fun x hx => ⟨(d x hx).1, (d x hx).2.below k⟩⟩
theorem RWK.blk {w0 w : World} {q R : Nat} {L : List Value} {KS : List (Nat × TypeId × Array Value)} (h : RWK w0 w q R L KS) {k : Nat} {T : TypeId} {cs : Array Value} (hk : (k, T, cs) ∈ KS) : Blk w k T cs := by
  obtain ⟨fp, a, b, c, d⟩ := h
  exact (d _ hk).2
def RWroteK (w0 : World) (q R : Nat) (L E : List Value) (KS : List (Nat × TypeId × Array Value)) (e : Ending) (w' : World) : Prop := e = .returned (.tuple #[]) ∧ RWK w0 w' q R (L ++ E) KS
theorem rwk_put {w0 w : World} {q R : Nat} {L E : List Value} {KS : List (Nat × TypeId × Array Value)} {f : FuncId} {args : Array Value} (h : RWK w0 w q R L KS) (hx : L.length + E.length ≤ R)
    (hc : ∀ fp, RWr w q R false L fp → Calls Try.prog f args w fun e w' => e = .returned (.tuple #[]) ∧ RPut w w' q R false L fp E) :
    Calls Try.prog f args w (RWroteK w0 q R L E KS) := by
  obtain ⟨fp, hW, b, hf, hk⟩ := h
  refine (hc fp hW).mono fun e w' ⟨he, fp', h1, h2, h3⟩ => ⟨he, fp', ?_, ?_, fun x hx => ?_, fun x hx => ⟨fun hn => ?_, ?_⟩⟩
  · have e1 : putF R false L E = false := by unfold putF; simp; exact hx
    rw [e1] at h1
    unfold putL at h1
    rw [e1, if_neg (by simp)] at h1
    exact h1
  · exact b.trans (h2.to_below b.size hf)
  · rcases h3 x hx with h | h
    · exact hf x h
    · have := b.size; omega
  · rcases h3 _ hn with h | h
    · exact (hk x hx).1 h
    · have := (hk x hx).2.lt
      omega
  · exact (hk x hx).2.only h2 (hk x hx).1
theorem rwk_u1 (w0 w : World) (q R : Nat) (L : List Value) (KS : List (Nat × TypeId × Array Value)) (x : Int) (h : RWK w0 w q R L KS) (hx : L.length + 1 ≤ R) (hR : R ≤ 1099511627776) :
    Calls Try.prog 33 #[.pointer (some ⟨q, 0, none⟩), .int .i64 1, .int .i64 x] w (RWroteK w0 q R L (be1 x) KS) := rwk_put h hx fun fp hW => ru1_any q R false L fp x w hW hR
theorem rwk_u2 (w0 w : World) (q R : Nat) (L : List Value) (KS : List (Nat × TypeId × Array Value)) (x : Int) (h : RWK w0 w q R L KS) (hx : L.length + 2 ≤ R) (hR : R ≤ 1099511627776) :
    Calls Try.prog 33 #[.pointer (some ⟨q, 0, none⟩), .int .i64 2, .int .i64 x] w (RWroteK w0 q R L (be2 x) KS) := rwk_put h hx fun fp hW => ru2_any q R false L fp x w hW hR
/-- What a part's bytes are: its flags, its glyph, two numbers, those of its matrix. -/
def putX (F g : Int) (s : Bool) (u v : Int) (ns : List Int) : List Value := be2 F ++ be2 g ++ (if s then be1 u ++ be1 v else be2 u ++ be2 v) ++ ns.flatMap be2
theorem mid_part {w : World} {k : Nat} {T : TypeId} {v0 v1 v2 v3 v4 v5 v6 v7 v8 v9 v10 : Value} (h : Blk w k T #[v0, v1, v2, v3, v4, v5, v6, v7, v8, v9, v10]) : w.rangeAt k 1 [v1, v2, v3, v4] := by
  intro j v hv
  match j, hv with
  | 0, hv => exact (h.cell 1).trans hv
  | 1, hv => exact (h.cell 2).trans hv
  | 2, hv => exact (h.cell 3).trans hv
  | 3, hv => exact (h.cell 4).trans hv
theorem two_ge (a b : Int) : decide (a ≥ b) = decide (b ≤ a) := rfl
theorem putX_len (F g : Int) (s : Bool) (u v : Int) (ns : List Int) : (putX F g s u v ns).length = 4 + (if s then 2 else 4) + 2 * ns.length := by
  have h : ∀ l : List Int, (l.flatMap be2).length = 2 * l.length := fun l => by
    induction l with
    | nil => rfl
    | cons x l ih => rw [List.flatMap_cons, List.length_append, ih]; simp [be2]; omega
  unfold putX
  simp only [List.length_append, h]
  cases s <;> simp [be1, be2]
theorem nums_get {ns : List Int} {j : Nat} {z : Int} (h : ns[j]? = some z) : (intCells ns).toArray[j]? = some (.int .i64 z) := by
  simp [intCells, h]
def f1Of (mm t : Bool) : Int := if mm then 0 else if t then 2050 else 4098
def smOf (mm : Bool) (x y p qq : Int) : Bool := if mm then decide (p < 256) && decide (qq < 256) else decide ((-128) ≤ x) && (decide (x < 128) && (decide ((-128) ≤ y) && decide (y < 128)))
def f2Of (F : Int) (s : Bool) : Int := if s then F else bits .or .i64 F 1
def f3Of (F fm : Int) : Int := if fm = 0 then F else bits .or .i64 F fm
def f4Of (F : Int) (more : Bool) : Int := if more then bits .or .i64 F 32 else F
end Go.Proofs.Ytekailhghjideaa
