/- Part 11 of the proof: CmJ. -/
import Derived.Deep.WholeRow
import Derived.Test.YtekailhghjideaaCCm9

namespace Go.Proofs.Ytekailhghjideaa
open Go Go.RowKit
set_option linter.unusedVariables false
set_option linter.unusedSimpArgs false
variable {q : Nat → Prop}

theorem readPart_any (p : Nat) (bs : List Value) (k f : Nat) (w : World) (h : RS q w p bs (k + 2)) (hq : ∀ b, q b → b < w.heap.size) (hp : p < w.heap.size) (hL : bs.length ≤ 4611686018427387904) (hf : f < 65536) :
    Calls Try.prog 21 #[.pointer (some ⟨p, 0, none⟩), .int .i64 f] w fun e w' => e = .returned (.tuple #[prV (prtOf bs f k), .bool (okPrt bs f k)]) ∧ RS q w' p bs (endP f k) ∧ Only w w' [p] := by
  have e3 := bits_3 f hf
  obtain ⟨⟨m1, m2, m3, m4⟩, hm⟩ : ∃ m, m = matL (nums2 bs (k + 4 + 2 * widA f) (matN f)) := ⟨_, rfl⟩
  cases h0 : bt f 0 <;> cases h1 : bt f 1 <;> cases h2 : (frm f).isSome <;> simp only [h0, h1, if_true, if_false, Bool.false_eq_true] at e3
  · refine (readPart_0n p bs k f (matN f) w h hq hp hL hf rfl h2 _ _ _ m1 m2 m3 m4 _ rfl rfl rfl hm.symm rfl e3 h0 h1).mono fun e w' ⟨a, b, c⟩ => ⟨?_, b, c⟩
    rw [a]
    simp only [prV, prL, prtOf, okPrt, h1, h2, ← hm, if_true, if_false, Bool.false_eq_true, Bool.true_and, Bool.false_and]
  · refine (readPart_0y p bs k f (matN f) w h hq hp hL hf rfl h2 _ _ _ m1 m2 m3 m4 _ rfl rfl rfl hm.symm rfl e3 h0 h1).mono fun e w' ⟨a, b, c⟩ => ⟨?_, b, c⟩
    rw [a]
    simp only [prV, prL, prtOf, okPrt, h1, h2, ← hm, if_true, if_false, Bool.false_eq_true, Bool.true_and, Bool.false_and]
  · refine (readPart_2n p bs k f (matN f) w h hq hp hL hf rfl h2 _ _ _ m1 m2 m3 m4 _ rfl rfl rfl hm.symm rfl e3 h0 h1).mono fun e w' ⟨a, b, c⟩ => ⟨?_, b, c⟩
    rw [a]
    simp only [prV, prL, prtOf, okPrt, h1, h2, ← hm, if_true, if_false, Bool.false_eq_true, Bool.true_and, Bool.false_and]
  · refine (readPart_2y p bs k f (matN f) w h hq hp hL hf rfl h2 _ _ _ m1 m2 m3 m4 _ rfl rfl rfl hm.symm rfl e3 h0 h1).mono fun e w' ⟨a, b, c⟩ => ⟨?_, b, c⟩
    rw [a]
    simp only [prV, prL, prtOf, okPrt, h1, h2, ← hm, if_true, if_false, Bool.false_eq_true, Bool.true_and, Bool.false_and]
  · refine (readPart_1n p bs k f (matN f) w h hq hp hL hf rfl h2 _ _ _ m1 m2 m3 m4 _ rfl rfl rfl hm.symm rfl e3 h0 h1).mono fun e w' ⟨a, b, c⟩ => ⟨?_, b, c⟩
    rw [a]
    simp only [prV, prL, prtOf, okPrt, h1, h2, ← hm, if_true, if_false, Bool.false_eq_true, Bool.true_and, Bool.false_and]
  · refine (readPart_1y p bs k f (matN f) w h hq hp hL hf rfl h2 _ _ _ m1 m2 m3 m4 _ rfl rfl rfl hm.symm rfl e3 h0 h1).mono fun e w' ⟨a, b, c⟩ => ⟨?_, b, c⟩
    rw [a]
    simp only [prV, prL, prtOf, okPrt, h1, h2, ← hm, if_true, if_false, Bool.false_eq_true, Bool.true_and, Bool.false_and]
  · refine (readPart_3n p bs k f (matN f) w h hq hp hL hf rfl h2 _ _ _ m1 m2 m3 m4 _ rfl rfl rfl hm.symm rfl e3 h0 h1).mono fun e w' ⟨a, b, c⟩ => ⟨?_, b, c⟩
    rw [a]
    simp only [prV, prL, prtOf, okPrt, h1, h2, ← hm, if_true, if_false, Bool.false_eq_true, Bool.true_and, Bool.false_and]
  · refine (readPart_3y p bs k f (matN f) w h hq hp hL hf rfl h2 _ _ _ m1 m2 m3 m4 _ rfl rfl rfl hm.symm rfl e3 h0 h1).mono fun e w' ⟨a, b, c⟩ => ⟨?_, b, c⟩
    rw [a]
    simp only [prV, prL, prtOf, okPrt, h1, h2, ← hm, if_true, if_false, Bool.false_eq_true, Bool.true_and, Bool.false_and]

theorem prLen (p : Prt) : (prL p).length = 11 := rfl
theorem prInfo : (Try.prog.info? 36).map (fun i => (i.zero, i.size, i.bytes)) = some (some (.agg #[.int .i64 0, .int .i64 0, .int .i64 0, .int .i64 0, .int .i64 0, .bool false, .int .i64 0, .int .i64 0, .bool false, .int .i64 0, .int .i64 0]), 11, 88) := by kernel_rfl
theorem rs_take8 (p : Nat) (bs : List Value) (w : World) (h : RS q w p bs (0 + 2)) (hL : bs.length ≤ 140737488355328) : Calls Try.prog 19 #[.pointer (some ⟨p, 0, none⟩), .int .i64 8] w (TookS q w p bs 10) := rs_take p bs 2 8 w h hL (by decide)
theorem fold_pr (P : Prt) : List.foldl (fun (cs : Array Value) (x : Value × Nat) => cs.setIfInBounds x.snd x.fst) #[.int .i64 0, .int .i64 0, .int .i64 0, .int .i64 0, .int .i64 0, .bool false, .int .i64 0, .int .i64 0, .bool false, .int .i64 0, .int .i64 0] (prL P).zipIdx = (prL P).toArray := by
  simp only [prL, List.zipIdx_cons, List.zipIdx_nil, List.foldl_cons, List.foldl_nil, Nat.reduceAdd, List.setIfInBounds_toArray, List.set_cons_zero, List.set_cons_succ]
/-- What Decode says of bytes. -/
def decG (bs : List Value) : List Prt × Int := if 0 ≤ rdk bs 2 0 then ([], 110) else decP bs 64 10 []
def DecPost (w : World) (R : List Prt × Int) (e : Ending) (w' : World) : Prop := ∃ v, e = .returned (.tuple #[v, .int .i64 R.2]) ∧ w'.ownsRow w.heap.size 36 11 v R.1.length (R.1.flatMap prL) ∧ Below w.heap.size w w'
theorem decP_zero (bs : List Value) (k : Nat) (L : List Prt) : decP bs 0 k L = ([], 120) := rfl
theorem decP_bad {bs : List Value} {n k : Nat} {L : List Prt} (h : okPrt bs (flgAt bs k) k = false) : decP bs (n + 1) k L = ([], 110) := by
  unfold decP; rw [h]; rfl
theorem decP_more {bs : List Value} {n k : Nat} {L : List Prt} (h : okPrt bs (flgAt bs k) k = true) (hb : bt (flgAt bs k) 5 = true) : decP bs (n + 1) k L = decP bs n (endP (flgAt bs k) k) (L ++ [prtOf bs (flgAt bs k) k]) := by
  conv => lhs; unfold decP
  rw [h, hb]; rfl
theorem decP_last {bs : List Value} {n k : Nat} {L : List Prt} (h : okPrt bs (flgAt bs k) k = true) (hb : bt (flgAt bs k) 5 = false) : decP bs (n + 1) k L = (L ++ [prtOf bs (flgAt bs k) k], 0) := by
  conv => lhs; unfold decP
  rw [h, hb]; rfl
/-- A slice's length. -/
def sLenOf : Value → Nat
  | .slice _ n _ => n
  | _ => 0
/-- Between two rounds of Decode. -/
structure DQ (w w1 : World) (p : Nat) (bs : List Value) (R : List Prt × Int) (k : Nat) (L : List Prt) (v : Value) (more : Bool) (W : World) : Prop where
  rs : RS (fun b => w.heap.size ≤ b ∧ b < w1.heap.size) W p bs k
  own : W.ownsRow w1.heap.size 36 11 v L.length (L.flatMap prL)
  bel : Below w.heap.size w W
  size : w1.heap.size ≤ W.heap.size
  go : more = true → L.length ≤ 64 ∧ decP bs (64 - L.length) k L = R
  fin : more = false → R = (L, 0)
theorem lowRow {w : World} {base : Nat} {e : TypeId} {size n : Nat} {v : Value} {xs : List Value} (h : w.ownsRow base e size v n xs) {base1 : Nat} (hb : base1 ≤ base) : w.ownsRow base1 e size v n xs := by
  rcases h with ⟨h1, ⟨rfl, h2⟩ | ⟨g, cap, cur, rfl, h3, h4⟩⟩
  · exact ⟨h1, .inl ⟨rfl, h2⟩⟩
  · exact ⟨h1, .inr ⟨g, cap, cur, rfl, Nat.le_trans hb h3, h4⟩⟩

set_option maxRecDepth 100000 in
set_option maxHeartbeats 1000000 in
theorem decode_s (A : Option Addr) (c n : Nat) (bs : List Value) (w : World) (hE : Lists w w.heap.size A bs) (hbl : bs.length = n) (hmn : n ≤ 1034) (h8' : Bytes8 bs) (hc : n ≤ c) (hc2 : c ≤ 9223372036854775807) (hm : n ≤ 140737488355328) :
    Calls Try.prog 7 #[.slice A n c] w (DecPost w (decG bs)) := by
  have CN := fun c' => new_any A n c' bs w hE hbl h8' (by omega)
  have hL : bs.length ≤ 140737488355328 := by omega
  have hmn2 : ((n : Nat) : Int) ≤ 1034 := by omega
  clear hE hbl
  obtain ⟨x, hx⟩ : ∃ x, x = rdk bs 2 0 := ⟨_, rfl⟩
  have hx' : s16 (rsn bs 2 0 (rd2 bs 0)) = x := hx.symm
  by_cases hx0 : 0 ≤ x
  · have d1 : decide (x ≥ 0) = true := by simpa using hx0
    have HR := Lib.hid (show decG bs = ([], 110) by unfold decG; rw [← hx, if_pos hx0])
    clear hx
    go_enter Try.func7, Try.ntmps7
    go_wp2_with (first | (go_at_call 17; ((with_reducible refine (CN _).mono ?_); rintro e w1 ⟨p, rfl, r1, b1, hp1⟩; have CI := rsI16 p bs 0 w1 (.inl ⟨Nat.zero_le _, r1⟩) (by omega); rw [hx'] at CI; have hp2 := r1.lt)) | (go_at_call 18; ((with_reducible refine (CI).mono ?_); rintro e w2 ⟨rfl, r2, o2⟩; have B2 := b1.trans (o2.to_below b1.size (by simp; omega)))))
    exact bodyPost_ret (results_tmp2 rfl _ _ _) rfl ⟨.slice none 0 0, by rw [HR.out]; rfl, by rw [HR.out]; exact World.ownsRow_nil _ _ _ _, B2⟩
  · have d1 : decide (x ≥ 0) = false := by simpa using hx0
    obtain ⟨R, hR⟩ : ∃ R, R = decG bs := ⟨_, rfl⟩
    have HR := Lib.hid (show decP bs 64 10 [] = R by rw [hR]; unfold decG; rw [← hx, if_neg hx0])
    rw [← hR]
    clear hx hR
    go_enter Try.func7, Try.ntmps7
    go_wp2_with (first | (go_at_call 17; ((with_reducible refine (CN _).mono ?_); rintro e w1 ⟨p, rfl, r1, b1, hp1⟩; have CI := rsI16 p bs 0 w1 (.inl ⟨Nat.zero_le _, r1⟩) (by omega); rw [hx'] at CI; have hp2 := r1.lt)) | (go_at_call 18; ((with_reducible refine (CI).mono ?_); rintro e w2 ⟨rfl, r2, o2⟩; have B2 := b1.trans (o2.to_below b1.size (by simp; omega)))) | (go_at_call 19; ((with_reducible refine (rs_take8 p bs w2 r2 hL).mono ?_); rintro e w3 ⟨v3, rfl, r3, o3⟩; have B3 := B2.trans (o3.to_below B2.size (by simp; omega)); have s3 := o3.size; have s2 := o2.size; have D0 : DQ w w1 p bs R 10 [] (.slice none 0 0) true w3 := ⟨r3, World.ownsRow_nil _ _ _ _, B3, by omega, fun _ => ⟨by simp, HR.out⟩, fun h => (nomatch h)⟩)))
    have s1 := b1.size
    clear CI CN r1 b1 r2 o2 B2 HR d1 hx'
    go_loopw [5, 6] (fun v mo wr => ∃ (k : Nat) (L : List Prt) (more : Bool), mo = .bool more ∧ DQ w w1 p bs R k L v more wr) (fun v _ _ => 65 - sLenOf v)
    case atStart => exact ⟨10, [], true, rfl, D0⟩
    case round =>
      clear D0
      obtain ⟨k, L, more, rfl, D⟩ := hrel
      cases more
      · have hR := D.fin rfl
        go_wp2
        exact bodyPost_ret (results_tmp2 rfl _ _ _) rfl ⟨_, by rw [hR]; rfl, by rw [hR]; exact lowRow D.own s1, D.bel⟩
      · obtain ⟨hl64, hdec⟩ := D.go rfl
        obtain ⟨A5, c5, rfl, l5, _⟩ := own_lists D.own
        have hDz := D.size
        by_cases h64 : L.length = 64
        · have hR : R = ([], 120) := by rw [← hdec, h64]; rfl
          have d2 : ((L.length : Int) == 64) = true := by rw [h64]; rfl
          rw [h64] at D
          go_wp2
          exact bodyPost_ret (results_tmp2 rfl _ _ _) rfl ⟨.slice none 0 0, by rw [hR]; rfl, by rw [hR]; exact World.ownsRow_nil _ _ _ _, D.bel⟩
        · have d2 : ((L.length : Int) == 64) = false := by simp; omega
          have d2' : ¬ L.length = 64 := h64
          obtain ⟨j, hj⟩ : ∃ j, 64 - L.length = j + 1 := ⟨63 - L.length, by omega⟩
          rw [hj] at hdec
          have CU : ∀ W, RS (fun b => w.heap.size ≤ b ∧ b < w1.heap.size) W p bs k → Calls Try.prog 20 #[.pointer (some ⟨p, 0, none⟩)] W (ReadS (fun b => w.heap.size ≤ b ∧ b < w1.heap.size) W p bs (k + 2) ((flgAt bs k : Nat) : Int)) := fun W r => rsU16 p bs k W r (by omega)
          have hf := flgAt_lt h8' k
          have CRP := fun W (r : RS (fun b => w.heap.size ≤ b ∧ b < w1.heap.size) W p bs (k + 2)) (hs : w1.heap.size ≤ W.heap.size) => readPart_any p bs k (flgAt bs k) W r (fun b hb => by have := hb.2; omega) (by omega) (by omega) hf
          have HB := Lib.hid (decP_bad (bs := bs) (n := j) (k := k) (L := L))
          have HM := Lib.hid (decP_more (bs := bs) (n := j) (k := k) (L := L))
          have HZ := Lib.hid (decP_last (bs := bs) (n := j) (k := k) (L := L))
          have HD := Lib.hid hdec
          have E32 := bits_32 (flgAt bs k) hf
          clear hdec
          generalize flgAt bs k = f at *
          obtain ⟨P, hP⟩ : ∃ P, P = prtOf bs f k := ⟨_, rfl⟩
          rw [← hP] at HM HZ CRP
          simp only [prV] at CRP
          clear hP
          have hpl : (prL P).length = 11 := rfl
          cases hok : okPrt bs f k
          · rw [hok] at CRP
            have hR : R = ([], 110) := by rw [← HD.out]; exact HB.out hok
            go_wp2_with (first | (go_at_call 20; ((with_reducible refine (CU _ D.rs).mono ?_); rintro e w4 ⟨rfl, r4, o4⟩; have s4 := o4.size)) | (go_at_call 21; ((with_reducible refine (CRP _ r4 (by omega)).mono ?_); rintro e w5 ⟨rfl, r5, o5⟩; have o5 := o4.trans o5 (fun b hb => .inl hb); have s5 := o5.size)) | (refine wpList_store_row rfl 36 (.tmp 8) (.tmp 31) (by with_reducible rfl) w5.heap.size (prL P).toArray (by rfl) (by rfl) 36 #[.int .i64 0, .int .i64 0, .int .i64 0, .int .i64 0, .int .i64 0, .bool false, .int .i64 0, .int .i64 0, .bool false, .int .i64 0, .int .i64 0] (by exact Blk.new _ _ _) prSize rfl (by simp [prL, Value.oneCell']) ?_; rw [World.setRow_alloc_new]))
            exact bodyPost_ret (results_tmp2 rfl _ _ _) rfl ⟨.slice none 0 0, by rw [hR]; rfl, by rw [hR]; exact World.ownsRow_nil _ _ _ _, (D.bel.trans (o5.to_below D.bel.size (by simp; omega))).alloc (by have := D.bel.size; have := o5.size; omega) _⟩
          · rw [hok] at CRP
            obtain ⟨i0, hi, hz0, hz1, hz2⟩ := info_parts prInfo
            cases hb5 : bt f 5
            · have e5 : bits .and .i64 (f : Int) 32 = 0 := by rw [E32, hb5]; rfl
              have HN : R = (L ++ [P], 0) := by rw [← HD.out]; exact HZ.out hok hb5
              have HN := Lib.hid HN
              clear HB HM HZ HD E32
              go_wp2_with (first | (go_at_call 20; ((with_reducible refine (CU _ D.rs).mono ?_); rintro e w4 ⟨rfl, r4, o4⟩; have s4 := o4.size)) | (go_at_call 21; ((with_reducible refine (CRP _ r4 (by omega)).mono ?_); rintro e w5 ⟨rfl, r5, o5⟩; have o5 := o4.trans o5 (fun b hb => .inl hb); have s5 := o5.size)) | (refine wpList_store_row rfl 36 (.tmp 8) (.tmp 31) (by with_reducible rfl) w5.heap.size (prL P).toArray (by rfl) (by rfl) 36 #[.int .i64 0, .int .i64 0, .int .i64 0, .int .i64 0, .int .i64 0, .bool false, .int .i64 0, .int .i64 0, .bool false, .int .i64 0, .int .i64 0] (by exact Blk.new _ _ _) prSize rfl (by simp [prL, Value.oneCell']) ?_; rw [World.setRow_alloc_new]) | (refine wpList_load_row rfl 36 (.tmp 8) (by with_reducible rfl) w5.heap.size (by rfl) 36 (prL P).toArray (0, 0) _ (by exact Blk.new _ _ _) Try.underlying36 rfl prSize ?_) | (at_builtin; rw [fold_pr P]; have own6 := own_only (own_only (own_only D.own o5 (fun b hb e => by have := own_lowc D.own b hb; simp at e; omega)) ((Only.refl w5 []).alloc (.cells (prL P).toArray 36)) (fun _ _ h => (nomatch h))) ((Only.refl (w5.alloc (.cells (prL P).toArray 36)) []).alloc (.cells (prL P).toArray 36)) (fun _ _ h => (nomatch h)); have r6 := (r5.below ((Below.refl w5.heap.size w5).alloc (Nat.le_refl _) (.cells (prL P).toArray 36))).below ((Below.refl (w5.alloc (.cells (prL P).toArray 36)).heap.size (w5.alloc (.cells (prL P).toArray 36))).alloc (Nat.le_refl _) (.cells (prL P).toArray 36)); have B6 := ((D.bel.trans (o5.to_below D.bel.size (by simp; omega))).alloc (by omega) (.cells (prL P).toArray 36)).alloc (by simp; omega) (.cells (prL P).toArray 36); refine wpList_append_src _ rfl (.tmp 35) (.tmp 37) 23 rfl w1.heap.size 36 i0 (.agg #[.int .i64 0, .int .i64 0, .int .i64 0, .int .i64 0, .int .i64 0, .bool false, .int .i64 0, .int .i64 0, .bool false, .int .i64 0, .int .i64 0]) 11 88 Try.underlying23 hi hz0 hz1 hz2 rfl (by decide) (.slice A5 L.length c5) L.length (L.flatMap prL) rfl own6 (w5.heap.size + 1 + 1) (some ⟨w5.heap.size + 1, 0, none⟩) 1 1 (prL P) (by rfl) (lists_row_at (w5.alloc (.cells (prL P).toArray 36)) (prL P) 36 (w5.heap.size + 1) (by simp)) rfl (by simp [prL, Value.oneCell']) (by simp only [maxLen]; omega) (by omega) (by simp; omega) ?_; intro v9 w9 own9 hg9 hat9; have g9 : Only _ w9 (blk (.slice A5 L.length c5)) := (Only.refl _ _).grown hg9 (fun b hb => .inl (by have hb' : (Value.slice A5 L.length c5).ownBlock = some b := hb; simp [blk, hb'])); have r9 := r6.only g9 (fun hm => by have := own_lowc D.own p hm; omega) (fun b hb hqb => by have := own_lowc D.own b hb; have := hqb.2; omega); have B9 := B6.trans (g9.to_below (by have := B6.size; exact this) (fun b hb => by have := own_lowc D.own b hb; omega)); have s9 : w1.heap.size ≤ w9.heap.size := (by have := g9.size; simp at this; omega); have own9 : w9.ownsRow w1.heap.size 36 11 v9 (L ++ [P]).length ((L ++ [P]).flatMap prL) := (by rw [flat_snoc, List.length_append]; exact own9)))
              go_roundw
              case rel => exact ⟨endP f k, L ++ [P], false, rfl, ⟨r9, own9, B9, s9, fun h => (nomatch h), fun _ => HN.out⟩⟩
              case measure =>
                obtain ⟨A9, c9, rfl, _, _⟩ := own_lists own9
                simp [sLenOf]; omega
            · have e5 : bits .and .i64 (f : Int) 32 = 32 := by rw [E32, hb5]; rfl
              have HN : decP bs j (endP f k) (L ++ [P]) = R := by rw [← HD.out]; exact (HM.out hok hb5).symm
              have HN := Lib.hid HN
              clear HB HM HZ HD E32
              go_wp2_with (first | (go_at_call 20; ((with_reducible refine (CU _ D.rs).mono ?_); rintro e w4 ⟨rfl, r4, o4⟩; have s4 := o4.size)) | (go_at_call 21; ((with_reducible refine (CRP _ r4 (by omega)).mono ?_); rintro e w5 ⟨rfl, r5, o5⟩; have o5 := o4.trans o5 (fun b hb => .inl hb); have s5 := o5.size)) | (refine wpList_store_row rfl 36 (.tmp 8) (.tmp 31) (by with_reducible rfl) w5.heap.size (prL P).toArray (by rfl) (by rfl) 36 #[.int .i64 0, .int .i64 0, .int .i64 0, .int .i64 0, .int .i64 0, .bool false, .int .i64 0, .int .i64 0, .bool false, .int .i64 0, .int .i64 0] (by exact Blk.new _ _ _) prSize rfl (by simp [prL, Value.oneCell']) ?_; rw [World.setRow_alloc_new]) | (refine wpList_load_row rfl 36 (.tmp 8) (by with_reducible rfl) w5.heap.size (by rfl) 36 (prL P).toArray (0, 0) _ (by exact Blk.new _ _ _) Try.underlying36 rfl prSize ?_) | (at_builtin; rw [fold_pr P]; have own6 := own_only (own_only (own_only D.own o5 (fun b hb e => by have := own_lowc D.own b hb; simp at e; omega)) ((Only.refl w5 []).alloc (.cells (prL P).toArray 36)) (fun _ _ h => (nomatch h))) ((Only.refl (w5.alloc (.cells (prL P).toArray 36)) []).alloc (.cells (prL P).toArray 36)) (fun _ _ h => (nomatch h)); have r6 := (r5.below ((Below.refl w5.heap.size w5).alloc (Nat.le_refl _) (.cells (prL P).toArray 36))).below ((Below.refl (w5.alloc (.cells (prL P).toArray 36)).heap.size (w5.alloc (.cells (prL P).toArray 36))).alloc (Nat.le_refl _) (.cells (prL P).toArray 36)); have B6 := ((D.bel.trans (o5.to_below D.bel.size (by simp; omega))).alloc (by omega) (.cells (prL P).toArray 36)).alloc (by simp; omega) (.cells (prL P).toArray 36); refine wpList_append_src _ rfl (.tmp 35) (.tmp 37) 23 rfl w1.heap.size 36 i0 (.agg #[.int .i64 0, .int .i64 0, .int .i64 0, .int .i64 0, .int .i64 0, .bool false, .int .i64 0, .int .i64 0, .bool false, .int .i64 0, .int .i64 0]) 11 88 Try.underlying23 hi hz0 hz1 hz2 rfl (by decide) (.slice A5 L.length c5) L.length (L.flatMap prL) rfl own6 (w5.heap.size + 1 + 1) (some ⟨w5.heap.size + 1, 0, none⟩) 1 1 (prL P) (by rfl) (lists_row_at (w5.alloc (.cells (prL P).toArray 36)) (prL P) 36 (w5.heap.size + 1) (by simp)) rfl (by simp [prL, Value.oneCell']) (by simp only [maxLen]; omega) (by omega) (by simp; omega) ?_; intro v9 w9 own9 hg9 hat9; have g9 : Only _ w9 (blk (.slice A5 L.length c5)) := (Only.refl _ _).grown hg9 (fun b hb => .inl (by have hb' : (Value.slice A5 L.length c5).ownBlock = some b := hb; simp [blk, hb'])); have r9 := r6.only g9 (fun hm => by have := own_lowc D.own p hm; omega) (fun b hb hqb => by have := own_lowc D.own b hb; have := hqb.2; omega); have B9 := B6.trans (g9.to_below (by have := B6.size; exact this) (fun b hb => by have := own_lowc D.own b hb; omega)); have s9 : w1.heap.size ≤ w9.heap.size := (by have := g9.size; simp at this; omega); have own9 : w9.ownsRow w1.heap.size 36 11 v9 (L ++ [P]).length ((L ++ [P]).flatMap prL) := (by rw [flat_snoc, List.length_append]; exact own9)))
              go_roundw
              case rel => exact ⟨endP f k, L ++ [P], true, rfl, ⟨r9, own9, B9, s9, fun _ => ⟨by simp; omega, by rw [List.length_append, List.length_singleton, show 64 - (L.length + 1) = j by omega]; exact HN.out⟩, fun h => (nomatch h)⟩⟩
              case measure =>
                obtain ⟨A9, c9, rfl, _, _⟩ := own_lists own9
                simp [sLenOf]; omega

set_option maxRecDepth 100000 in
set_option maxHeartbeats 1000000 in
theorem decode_l (A : Option Addr) (c n : Nat) (bs : List Value) (w : World) (hE : Lists w w.heap.size A bs) (hbl : bs.length = 1034) (hmn : 1034 < n) (h8' : Bytes8 bs) (hc : n ≤ c) (hc2 : c ≤ 9223372036854775807) (hm : n ≤ 140737488355328) :
    Calls Try.prog 7 #[.slice A n c] w (DecPost w (decG bs)) := by
  have CN := fun c' => new_any A 1034 c' bs w hE hbl h8' (by omega)
  have hL : bs.length ≤ 140737488355328 := by omega
  have hmn2 : ((1034 : Nat) : Int) ≤ 1034 := by omega
  clear hE hbl
  obtain ⟨x, hx⟩ : ∃ x, x = rdk bs 2 0 := ⟨_, rfl⟩
  have hx' : s16 (rsn bs 2 0 (rd2 bs 0)) = x := hx.symm
  by_cases hx0 : 0 ≤ x
  · have d1 : decide (x ≥ 0) = true := by simpa using hx0
    have HR := Lib.hid (show decG bs = ([], 110) by unfold decG; rw [← hx, if_pos hx0])
    clear hx
    go_enter Try.func7, Try.ntmps7
    go_wp2_with (first | (go_at_call 17; ((with_reducible refine (CN _).mono ?_); rintro e w1 ⟨p, rfl, r1, b1, hp1⟩; have CI := rsI16 p bs 0 w1 (.inl ⟨Nat.zero_le _, r1⟩) (by omega); rw [hx'] at CI; have hp2 := r1.lt)) | (go_at_call 18; ((with_reducible refine (CI).mono ?_); rintro e w2 ⟨rfl, r2, o2⟩; have B2 := b1.trans (o2.to_below b1.size (by simp; omega)))))
    exact bodyPost_ret (results_tmp2 rfl _ _ _) rfl ⟨.slice none 0 0, by rw [HR.out]; rfl, by rw [HR.out]; exact World.ownsRow_nil _ _ _ _, B2⟩
  · have d1 : decide (x ≥ 0) = false := by simpa using hx0
    obtain ⟨R, hR⟩ : ∃ R, R = decG bs := ⟨_, rfl⟩
    have HR := Lib.hid (show decP bs 64 10 [] = R by rw [hR]; unfold decG; rw [← hx, if_neg hx0])
    rw [← hR]
    clear hx hR
    go_enter Try.func7, Try.ntmps7
    go_wp2_with (first | (go_at_call 17; ((with_reducible refine (CN _).mono ?_); rintro e w1 ⟨p, rfl, r1, b1, hp1⟩; have CI := rsI16 p bs 0 w1 (.inl ⟨Nat.zero_le _, r1⟩) (by omega); rw [hx'] at CI; have hp2 := r1.lt)) | (go_at_call 18; ((with_reducible refine (CI).mono ?_); rintro e w2 ⟨rfl, r2, o2⟩; have B2 := b1.trans (o2.to_below b1.size (by simp; omega)))) | (go_at_call 19; ((with_reducible refine (rs_take8 p bs w2 r2 hL).mono ?_); rintro e w3 ⟨v3, rfl, r3, o3⟩; have B3 := B2.trans (o3.to_below B2.size (by simp; omega)); have s3 := o3.size; have s2 := o2.size; have D0 : DQ w w1 p bs R 10 [] (.slice none 0 0) true w3 := ⟨r3, World.ownsRow_nil _ _ _ _, B3, by omega, fun _ => ⟨by simp, HR.out⟩, fun h => (nomatch h)⟩)))
    have s1 := b1.size
    clear CI CN r1 b1 r2 o2 B2 HR d1 hx'
    go_loopw [5, 6] (fun v mo wr => ∃ (k : Nat) (L : List Prt) (more : Bool), mo = .bool more ∧ DQ w w1 p bs R k L v more wr) (fun v _ _ => 65 - sLenOf v)
    case atStart => exact ⟨10, [], true, rfl, D0⟩
    case round =>
      clear D0
      obtain ⟨k, L, more, rfl, D⟩ := hrel
      cases more
      · have hR := D.fin rfl
        go_wp2
        exact bodyPost_ret (results_tmp2 rfl _ _ _) rfl ⟨_, by rw [hR]; rfl, by rw [hR]; exact lowRow D.own s1, D.bel⟩
      · obtain ⟨hl64, hdec⟩ := D.go rfl
        obtain ⟨A5, c5, rfl, l5, _⟩ := own_lists D.own
        have hDz := D.size
        by_cases h64 : L.length = 64
        · have hR : R = ([], 120) := by rw [← hdec, h64]; rfl
          have d2 : ((L.length : Int) == 64) = true := by rw [h64]; rfl
          rw [h64] at D
          go_wp2
          exact bodyPost_ret (results_tmp2 rfl _ _ _) rfl ⟨.slice none 0 0, by rw [hR]; rfl, by rw [hR]; exact World.ownsRow_nil _ _ _ _, D.bel⟩
        · have d2 : ((L.length : Int) == 64) = false := by simp; omega
          have d2' : ¬ L.length = 64 := h64
          obtain ⟨j, hj⟩ : ∃ j, 64 - L.length = j + 1 := ⟨63 - L.length, by omega⟩
          rw [hj] at hdec
          have CU : ∀ W, RS (fun b => w.heap.size ≤ b ∧ b < w1.heap.size) W p bs k → Calls Try.prog 20 #[.pointer (some ⟨p, 0, none⟩)] W (ReadS (fun b => w.heap.size ≤ b ∧ b < w1.heap.size) W p bs (k + 2) ((flgAt bs k : Nat) : Int)) := fun W r => rsU16 p bs k W r (by omega)
          have hf := flgAt_lt h8' k
          have CRP := fun W (r : RS (fun b => w.heap.size ≤ b ∧ b < w1.heap.size) W p bs (k + 2)) (hs : w1.heap.size ≤ W.heap.size) => readPart_any p bs k (flgAt bs k) W r (fun b hb => by have := hb.2; omega) (by omega) (by omega) hf
          have HB := Lib.hid (decP_bad (bs := bs) (n := j) (k := k) (L := L))
          have HM := Lib.hid (decP_more (bs := bs) (n := j) (k := k) (L := L))
          have HZ := Lib.hid (decP_last (bs := bs) (n := j) (k := k) (L := L))
          have HD := Lib.hid hdec
          have E32 := bits_32 (flgAt bs k) hf
          clear hdec
          generalize flgAt bs k = f at *
          obtain ⟨P, hP⟩ : ∃ P, P = prtOf bs f k := ⟨_, rfl⟩
          rw [← hP] at HM HZ CRP
          simp only [prV] at CRP
          clear hP
          have hpl : (prL P).length = 11 := rfl
          cases hok : okPrt bs f k
          · rw [hok] at CRP
            have hR : R = ([], 110) := by rw [← HD.out]; exact HB.out hok
            go_wp2_with (first | (go_at_call 20; ((with_reducible refine (CU _ D.rs).mono ?_); rintro e w4 ⟨rfl, r4, o4⟩; have s4 := o4.size)) | (go_at_call 21; ((with_reducible refine (CRP _ r4 (by omega)).mono ?_); rintro e w5 ⟨rfl, r5, o5⟩; have o5 := o4.trans o5 (fun b hb => .inl hb); have s5 := o5.size)) | (refine wpList_store_row rfl 36 (.tmp 8) (.tmp 31) (by with_reducible rfl) w5.heap.size (prL P).toArray (by rfl) (by rfl) 36 #[.int .i64 0, .int .i64 0, .int .i64 0, .int .i64 0, .int .i64 0, .bool false, .int .i64 0, .int .i64 0, .bool false, .int .i64 0, .int .i64 0] (by exact Blk.new _ _ _) prSize rfl (by simp [prL, Value.oneCell']) ?_; rw [World.setRow_alloc_new]))
            exact bodyPost_ret (results_tmp2 rfl _ _ _) rfl ⟨.slice none 0 0, by rw [hR]; rfl, by rw [hR]; exact World.ownsRow_nil _ _ _ _, (D.bel.trans (o5.to_below D.bel.size (by simp; omega))).alloc (by have := D.bel.size; have := o5.size; omega) _⟩
          · rw [hok] at CRP
            obtain ⟨i0, hi, hz0, hz1, hz2⟩ := info_parts prInfo
            cases hb5 : bt f 5
            · have e5 : bits .and .i64 (f : Int) 32 = 0 := by rw [E32, hb5]; rfl
              have HN : R = (L ++ [P], 0) := by rw [← HD.out]; exact HZ.out hok hb5
              have HN := Lib.hid HN
              clear HB HM HZ HD E32
              go_wp2_with (first | (go_at_call 20; ((with_reducible refine (CU _ D.rs).mono ?_); rintro e w4 ⟨rfl, r4, o4⟩; have s4 := o4.size)) | (go_at_call 21; ((with_reducible refine (CRP _ r4 (by omega)).mono ?_); rintro e w5 ⟨rfl, r5, o5⟩; have o5 := o4.trans o5 (fun b hb => .inl hb); have s5 := o5.size)) | (refine wpList_store_row rfl 36 (.tmp 8) (.tmp 31) (by with_reducible rfl) w5.heap.size (prL P).toArray (by rfl) (by rfl) 36 #[.int .i64 0, .int .i64 0, .int .i64 0, .int .i64 0, .int .i64 0, .bool false, .int .i64 0, .int .i64 0, .bool false, .int .i64 0, .int .i64 0] (by exact Blk.new _ _ _) prSize rfl (by simp [prL, Value.oneCell']) ?_; rw [World.setRow_alloc_new]) | (refine wpList_load_row rfl 36 (.tmp 8) (by with_reducible rfl) w5.heap.size (by rfl) 36 (prL P).toArray (0, 0) _ (by exact Blk.new _ _ _) Try.underlying36 rfl prSize ?_) | (at_builtin; rw [fold_pr P]; have own6 := own_only (own_only (own_only D.own o5 (fun b hb e => by have := own_lowc D.own b hb; simp at e; omega)) ((Only.refl w5 []).alloc (.cells (prL P).toArray 36)) (fun _ _ h => (nomatch h))) ((Only.refl (w5.alloc (.cells (prL P).toArray 36)) []).alloc (.cells (prL P).toArray 36)) (fun _ _ h => (nomatch h)); have r6 := (r5.below ((Below.refl w5.heap.size w5).alloc (Nat.le_refl _) (.cells (prL P).toArray 36))).below ((Below.refl (w5.alloc (.cells (prL P).toArray 36)).heap.size (w5.alloc (.cells (prL P).toArray 36))).alloc (Nat.le_refl _) (.cells (prL P).toArray 36)); have B6 := ((D.bel.trans (o5.to_below D.bel.size (by simp; omega))).alloc (by omega) (.cells (prL P).toArray 36)).alloc (by simp; omega) (.cells (prL P).toArray 36); refine wpList_append_src _ rfl (.tmp 35) (.tmp 37) 23 rfl w1.heap.size 36 i0 (.agg #[.int .i64 0, .int .i64 0, .int .i64 0, .int .i64 0, .int .i64 0, .bool false, .int .i64 0, .int .i64 0, .bool false, .int .i64 0, .int .i64 0]) 11 88 Try.underlying23 hi hz0 hz1 hz2 rfl (by decide) (.slice A5 L.length c5) L.length (L.flatMap prL) rfl own6 (w5.heap.size + 1 + 1) (some ⟨w5.heap.size + 1, 0, none⟩) 1 1 (prL P) (by rfl) (lists_row_at (w5.alloc (.cells (prL P).toArray 36)) (prL P) 36 (w5.heap.size + 1) (by simp)) rfl (by simp [prL, Value.oneCell']) (by simp only [maxLen]; omega) (by omega) (by simp; omega) ?_; intro v9 w9 own9 hg9 hat9; have g9 : Only _ w9 (blk (.slice A5 L.length c5)) := (Only.refl _ _).grown hg9 (fun b hb => .inl (by have hb' : (Value.slice A5 L.length c5).ownBlock = some b := hb; simp [blk, hb'])); have r9 := r6.only g9 (fun hm => by have := own_lowc D.own p hm; omega) (fun b hb hqb => by have := own_lowc D.own b hb; have := hqb.2; omega); have B9 := B6.trans (g9.to_below (by have := B6.size; exact this) (fun b hb => by have := own_lowc D.own b hb; omega)); have s9 : w1.heap.size ≤ w9.heap.size := (by have := g9.size; simp at this; omega); have own9 : w9.ownsRow w1.heap.size 36 11 v9 (L ++ [P]).length ((L ++ [P]).flatMap prL) := (by rw [flat_snoc, List.length_append]; exact own9)))
              go_roundw
              case rel => exact ⟨endP f k, L ++ [P], false, rfl, ⟨r9, own9, B9, s9, fun h => (nomatch h), fun _ => HN.out⟩⟩
              case measure =>
                obtain ⟨A9, c9, rfl, _, _⟩ := own_lists own9
                simp [sLenOf]; omega
            · have e5 : bits .and .i64 (f : Int) 32 = 32 := by rw [E32, hb5]; rfl
              have HN : decP bs j (endP f k) (L ++ [P]) = R := by rw [← HD.out]; exact (HM.out hok hb5).symm
              have HN := Lib.hid HN
              clear HB HM HZ HD E32
              go_wp2_with (first | (go_at_call 20; ((with_reducible refine (CU _ D.rs).mono ?_); rintro e w4 ⟨rfl, r4, o4⟩; have s4 := o4.size)) | (go_at_call 21; ((with_reducible refine (CRP _ r4 (by omega)).mono ?_); rintro e w5 ⟨rfl, r5, o5⟩; have o5 := o4.trans o5 (fun b hb => .inl hb); have s5 := o5.size)) | (refine wpList_store_row rfl 36 (.tmp 8) (.tmp 31) (by with_reducible rfl) w5.heap.size (prL P).toArray (by rfl) (by rfl) 36 #[.int .i64 0, .int .i64 0, .int .i64 0, .int .i64 0, .int .i64 0, .bool false, .int .i64 0, .int .i64 0, .bool false, .int .i64 0, .int .i64 0] (by exact Blk.new _ _ _) prSize rfl (by simp [prL, Value.oneCell']) ?_; rw [World.setRow_alloc_new]) | (refine wpList_load_row rfl 36 (.tmp 8) (by with_reducible rfl) w5.heap.size (by rfl) 36 (prL P).toArray (0, 0) _ (by exact Blk.new _ _ _) Try.underlying36 rfl prSize ?_) | (at_builtin; rw [fold_pr P]; have own6 := own_only (own_only (own_only D.own o5 (fun b hb e => by have := own_lowc D.own b hb; simp at e; omega)) ((Only.refl w5 []).alloc (.cells (prL P).toArray 36)) (fun _ _ h => (nomatch h))) ((Only.refl (w5.alloc (.cells (prL P).toArray 36)) []).alloc (.cells (prL P).toArray 36)) (fun _ _ h => (nomatch h)); have r6 := (r5.below ((Below.refl w5.heap.size w5).alloc (Nat.le_refl _) (.cells (prL P).toArray 36))).below ((Below.refl (w5.alloc (.cells (prL P).toArray 36)).heap.size (w5.alloc (.cells (prL P).toArray 36))).alloc (Nat.le_refl _) (.cells (prL P).toArray 36)); have B6 := ((D.bel.trans (o5.to_below D.bel.size (by simp; omega))).alloc (by omega) (.cells (prL P).toArray 36)).alloc (by simp; omega) (.cells (prL P).toArray 36); refine wpList_append_src _ rfl (.tmp 35) (.tmp 37) 23 rfl w1.heap.size 36 i0 (.agg #[.int .i64 0, .int .i64 0, .int .i64 0, .int .i64 0, .int .i64 0, .bool false, .int .i64 0, .int .i64 0, .bool false, .int .i64 0, .int .i64 0]) 11 88 Try.underlying23 hi hz0 hz1 hz2 rfl (by decide) (.slice A5 L.length c5) L.length (L.flatMap prL) rfl own6 (w5.heap.size + 1 + 1) (some ⟨w5.heap.size + 1, 0, none⟩) 1 1 (prL P) (by rfl) (lists_row_at (w5.alloc (.cells (prL P).toArray 36)) (prL P) 36 (w5.heap.size + 1) (by simp)) rfl (by simp [prL, Value.oneCell']) (by simp only [maxLen]; omega) (by omega) (by simp; omega) ?_; intro v9 w9 own9 hg9 hat9; have g9 : Only _ w9 (blk (.slice A5 L.length c5)) := (Only.refl _ _).grown hg9 (fun b hb => .inl (by have hb' : (Value.slice A5 L.length c5).ownBlock = some b := hb; simp [blk, hb'])); have r9 := r6.only g9 (fun hm => by have := own_lowc D.own p hm; omega) (fun b hb hqb => by have := own_lowc D.own b hb; have := hqb.2; omega); have B9 := B6.trans (g9.to_below (by have := B6.size; exact this) (fun b hb => by have := own_lowc D.own b hb; omega)); have s9 : w1.heap.size ≤ w9.heap.size := (by have := g9.size; simp at this; omega); have own9 : w9.ownsRow w1.heap.size 36 11 v9 (L ++ [P]).length ((L ++ [P]).flatMap prL) := (by rw [flat_snoc, List.length_append]; exact own9)))
              go_roundw
              case rel => exact ⟨endP f k, L ++ [P], true, rfl, ⟨r9, own9, B9, s9, fun _ => ⟨by simp; omega, by rw [List.length_append, List.length_singleton, show 64 - (L.length + 1) = j by omega]; exact HN.out⟩, fun h => (nomatch h)⟩⟩
              case measure =>
                obtain ⟨A9, c9, rfl, _, _⟩ := own_lists own9
                simp [sLenOf]; omega

theorem decode_any (A : Option Addr) (c : Nat) (E : List Value) (w : World) (hE : Lists w w.heap.size A E) (h8 : Bytes8 E) (hc : E.length ≤ c) (hc2 : c ≤ 9223372036854775807) (hm : E.length ≤ 140737488355328) :
    Calls Try.prog 7 #[.slice A E.length c] w (DecPost w (decG (E.take 1034))) := by
  by_cases h : E.length ≤ 1034
  · exact decode_s A c E.length (E.take 1034) w (lists_takeF hE _) (by rw [List.length_take]; omega) h (fun u hu => h8 u (List.mem_of_mem_take hu)) hc hc2 hm
  · exact decode_l A c E.length (E.take 1034) w (lists_takeF hE _) (by rw [List.length_take]; omega) (by omega) (fun u hu => h8 u (List.mem_of_mem_take hu)) hc hc2 hm
end Go.Proofs.Ytekailhghjideaa
