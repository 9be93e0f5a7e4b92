/- Part 7 of the proof: CmR. -/
import Derived.Test.YtekailhghjideaaCCm5

namespace Go.Proofs.Ytekailhghjideaa
open Go Go.RowKit
set_option linter.unusedVariables false
set_option linter.unusedSimpArgs false

set_option maxRecDepth 100000 in
theorem ru1_ok (B p : Nat) (bs : List Value) (i : Nat) (w : World) (h : RRd w B p bs i false) (him : i + 1 ≤ bs.length) :
    Calls Try.prog 50 #[.pointer (some ⟨p, 0, none⟩), .int .i64 1] w (RRead w B p bs (i + 1) (byteAt bs i : Nat)) := by
  have C : Calls Try.prog 23 #[.pointer (some ⟨p, 0, none⟩), .int .i64 1] w (RTook w B p bs i 1) := rtake_ok B p bs i 1 w h (by omega) him
  have h8 : Bytes8 bs := by obtain ⟨_, _, _, _, h8, _⟩ := h; exact h8
  have e : (bs.drop i).take 1 = [.int .u8 ((byteAt bs i) : Nat)] := by
    apply List.ext_getElem?
    intro j
    rw [List.getElem?_take, List.getElem?_drop]
    match j with
    | 0 => simpa using byteAt_get h8 (i := i) (by omega)
    | j + 1 => simp <;> omega
  have l0 := byteAt_lt h8 i
  clear h h8
  generalize byteAt bs i = x0 at *
  have E := Lib.hid e
  clear e
  go_enter Try.func50, Try.ntmps50
  go_wp2_with (first | (go_at_call 23; ((refine C.mono ?_); rintro e w2 ⟨A2, k2, rfl, ll, hr, o2⟩; rw [E.out] at ll; obtain ⟨b, o, rfl, hb, hc⟩ := ll.plain (by simp); have c0 := hc 0 _ rfl; rw [Nat.add_zero] at c0; clear hc)))
  refine wp_loop_rounds 2 ?_
  rw [rounds_succ]
  go_wp2
  rw [rounds_succ]
  go_wp2
  go_ret
  exact ⟨ret_int (by omega), hr, o2⟩
set_option maxRecDepth 100000 in
theorem ru1_short (B p : Nat) (bs : List Value) (i : Nat) (w : World) (h : RRd w B p bs i false) (him : bs.length - i < 1) :
    Calls Try.prog 50 #[.pointer (some ⟨p, 0, none⟩), .int .i64 1] w fun e w' => e = .returned (.int .i64 0) ∧ RRd w' B p bs i true ∧ Only w w' [p] := by
  have C : Calls Try.prog 23 #[.pointer (some ⟨p, 0, none⟩), .int .i64 1] w (RFell w B p bs i) := rtake_short B p bs i 1 w h him
  clear h him
  go_enter Try.func50, Try.ntmps50
  go_wp2_with (first | (go_at_call 23; ((refine C.mono ?_); rintro e w2 ⟨rfl, hr, o2⟩)))
  refine wp_loop_rounds 1 ?_
  rw [rounds_succ]
  go_wp2
  go_ret
  exact ⟨rfl, hr, o2⟩
set_option maxRecDepth 100000 in
theorem ru1_bad (B p : Nat) (bs : List Value) (i : Nat) (w : World) (h : RRd w B p bs i true) :
    Calls Try.prog 50 #[.pointer (some ⟨p, 0, none⟩), .int .i64 1] w fun e w' => e = .returned (.int .i64 0) ∧ RRd w' B p bs i true ∧ Only w w' [p] := by
  have C : Calls Try.prog 23 #[.pointer (some ⟨p, 0, none⟩), .int .i64 1] w (RFell w B p bs i) := rtake_bad B p bs i 1 w h
  clear h
  go_enter Try.func50, Try.ntmps50
  go_wp2_with (first | (go_at_call 23; ((refine C.mono ?_); rintro e w2 ⟨rfl, hr, o2⟩)))
  refine wp_loop_rounds 1 ?_
  rw [rounds_succ]
  go_wp2
  go_ret
  exact ⟨rfl, hr, o2⟩
theorem rr_u1 (B p : Nat) (bs : List Value) (k : Nat) (w : World) (h : RR w B p bs k) :
    Calls Try.prog 50 #[.pointer (some ⟨p, 0, none⟩), .int .i64 1] w (RReadS w B p bs (k + 1) (rsn bs 1 k (byteAt bs k) : Nat)) := by
  unfold rsn
  rcases h with ⟨h1, h2⟩ | ⟨h1, i, h2⟩
  · by_cases hk : k + 1 ≤ bs.length
    · rw [if_pos hk]
      exact (ru1_ok B p bs k w h2 hk).mono fun e w' ⟨a, b, o⟩ => ⟨a, .inl ⟨hk, b⟩, o⟩
    · rw [if_neg hk]
      exact (ru1_short B p bs k w h2 (by omega)).mono fun e w' ⟨a, b, o⟩ => ⟨a, .inr ⟨by omega, k, b⟩, o⟩
  · rw [if_neg (by omega)]
    exact (ru1_bad B p bs i w h2).mono fun e w' ⟨a, b, o⟩ => ⟨a, .inr ⟨by omega, i, b⟩, o⟩
set_option maxRecDepth 100000 in
set_option maxHeartbeats 1000000 in
theorem rargs_311 (B p : Nat) (bs : List Value) (k f : Nat) (w : World) (h : RR w B p bs k) (hf : f < 65536) (g a b : Int) (e3 : bits .and .i64 (f : Int) 3 = 3) (hb1 : bt f 1 = true) (h11 : bt f 11 = true) (h12 : bt f 12 = true)
    (ha : s16 (rsn bs 2 (k) (rd2 bs (k))) = a) (hb : s16 (rsn bs 2 (k + 2) (rd2 bs (k + 2))) = b) :
    Calls Try.prog 51 #[.pointer (some ⟨p, 0, none⟩), .int .i64 f, .agg #[.int .i64 g, .int .i64 16384, .int .i64 0, .int .i64 0, .int .i64 16384, .bool false, .int .i64 0, .int .i64 0, .bool false, .int .i64 0, .int .i64 0]] w fun e w' => e = .returned (.agg #[.int .i64 g, .int .i64 16384, .int .i64 0, .int .i64 0, .int .i64 16384, .bool false, .int .i64 a, .int .i64 b, .bool false, .int .i64 0, .int .i64 0]) ∧ RR w' B p bs (k + 2 + 2) ∧ Only w w' [p] := by
  have e2 : bits .and .i64 (f : Int) 2 = 2 := by rw [bits_2 f hf, hb1]; rfl
  have e11 : bits .and .i64 (f : Int) 2048 = 2048 := by rw [show (2048 : Int) = ((2048 : Nat) : Int) from rfl, and_nat f 2048 (by omega) (by omega), and_2048, h11]; rfl
  have e12 : bits .and .i64 (f : Int) 4096 = 4096 := by rw [show (4096 : Int) = ((4096 : Nat) : Int) from rfl, and_nat f 4096 (by omega) (by omega), and_4096, h12]; rfl
  have hp := h.low
  have hB : B ≤ w.heap.size := by omega
  have C1 := fun W (r : RR W B p bs (k)) => rr_i16 B p bs (k) W r
  have C2 := fun W (r : RR W B p bs (k + 2)) => rr_i16 B p bs (k + 2) W r
  rw [ha] at C1
  rw [hb] at C2
  clear ha hb
  have al : Below w.heap.size w ((w.alloc (.cells #[.int .i64 g, .int .i64 16384, .int .i64 0, .int .i64 0, .int .i64 16384, .bool false, .int .i64 0, .int .i64 0, .bool false, .int .i64 0, .int .i64 0] 36)).alloc (.cells #[.int .i64 0, .int .i64 0, .int .i64 0, .int .i64 0, .int .i64 0, .bool false, .int .i64 0, .int .i64 0, .bool false, .int .i64 0, .int .i64 0] 36)) := ((Below.refl _ _).alloc (Nat.le_refl _) _).alloc (by simp) _
  have KP := Blk.new w 36 #[.int .i64 g, .int .i64 16384, .int .i64 0, .int .i64 0, .int .i64 16384, .bool false, .int .i64 0, .int .i64 0, .bool false, .int .i64 0, .int .i64 0]
  have KP := KP.below ((Below.refl _ _).alloc (Nat.le_refl _) (.cells #[.int .i64 0, .int .i64 0, .int .i64 0, .int .i64 0, .int .i64 0, .bool false, .int .i64 0, .int .i64 0, .bool false, .int .i64 0, .int .i64 0] 36))
  have KR := Blk.new (w.alloc (.cells #[.int .i64 g, .int .i64 16384, .int .i64 0, .int .i64 0, .int .i64 16384, .bool false, .int .i64 0, .int .i64 0, .bool false, .int .i64 0, .int .i64 0] 36)) 36 #[.int .i64 0, .int .i64 0, .int .i64 0, .int .i64 0, .int .i64 0, .bool false, .int .i64 0, .int .i64 0, .bool false, .int .i64 0, .int .i64 0]
  rw [World.size_alloc] at KR
  have r0 := h.below al
  have O0 : Only w ((w.alloc (.cells #[.int .i64 g, .int .i64 16384, .int .i64 0, .int .i64 0, .int .i64 16384, .bool false, .int .i64 0, .int .i64 0, .bool false, .int .i64 0, .int .i64 0] 36)).alloc (.cells #[.int .i64 0, .int .i64 0, .int .i64 0, .int .i64 0, .int .i64 0, .bool false, .int .i64 0, .int .i64 0, .bool false, .int .i64 0, .int .i64 0] 36)) [p] := Only.of_below al _
  go_enter Try.func51, Try.ntmps51
  go_wp2_with (first | (go_at_call 22; ((with_reducible refine (C1 _ r0).mono ?_); rintro e w1 ⟨rfl, r1, o1⟩; have KP := KP.only o1 (by simp; omega); have KR := KR.only o1 (by simp; omega); have O1 := O0.trans o1 (fun b hb => .inl hb))) | (go_at_call 22; ((with_reducible refine (C2 _ r1).mono ?_); rintro e w2 ⟨rfl, r2, o2⟩; have KP := KP.only o2 (by simp; omega); have KR := KR.only o2 (by simp; omega); have O2 := O1.trans o2 (fun b hb => .inl hb); have c0 := KP.cell 0; have f0 := KP.frozen 0; have c1 := KP.cell 1; have f1 := KP.frozen 1; have c2 := KP.cell 2; have f2 := KP.frozen 2; have c3 := KP.cell 3; have f3 := KP.frozen 3; have c4 := KP.cell 4; have f4 := KP.frozen 4; have c5 := KP.cell 5; have f5 := KP.frozen 5; have c6 := KP.cell 6; have f6 := KP.frozen 6; have c7 := KP.cell 7; have f7 := KP.frozen 7; have c8 := KP.cell 8; have f8 := KP.frozen 8; have c9 := KP.cell 9; have f9 := KP.frozen 9; have c10 := KP.cell 10; have f10 := KP.frozen 10; have g0 := KR.lt; simp only [List.getElem?_toArray, List.getElem?_cons_zero, List.getElem?_cons_succ] at c0 c1 c2 c3 c4 c5 c6 c7 c8 c9 c10)) | (refine wpList_load_row rfl 36 (.tmp 5) (by with_reducible rfl) w.heap.size (by rfl) 36 #[.int .i64 g, .int .i64 16384, .int .i64 0, .int .i64 0, .int .i64 16384, .bool false, .int .i64 a, .int .i64 b, .bool false, .int .i64 0, .int .i64 0] (0, 0) _ (by exact (((KP.set 6 (.int .i64 a)).set 7 (.int .i64 b)).set 8 (.bool false))) Try.underlying36 rfl prSize ?_) | (refine wpList_store_row rfl 36 (.tmp 6) _ (by with_reducible rfl) (w.heap.size + 1) #[.int .i64 g, .int .i64 16384, .int .i64 0, .int .i64 0, .int .i64 16384, .bool false, .int .i64 a, .int .i64 b, .bool false, .int .i64 0, .int .i64 0] (by rfl) (by rfl) 36 #[.int .i64 0, .int .i64 0, .int .i64 0, .int .i64 0, .int .i64 0, .bool false, .int .i64 0, .int .i64 0, .bool false, .int .i64 0, .int .i64 0] (by exact (((KR.other (q := ⟨w.heap.size, 6, none⟩) (by simp) (.int .i64 a)).other (q := ⟨w.heap.size, 7, none⟩) (by simp) (.int .i64 b)).other (q := ⟨w.heap.size, 8, none⟩) (by simp) (.bool false))) prSize rfl (by simp [Value.oneCell']) ?_))
  have oX : Only w2 _ [w.heap.size, w.heap.size + 1] := only_row ((((Only.refl w2 [w.heap.size, w.heap.size + 1]).set (p := ⟨w.heap.size, 6, none⟩) (.inl (by simp)) (.int .i64 a)).set (p := ⟨w.heap.size, 7, none⟩) (.inl (by simp)) (.int .i64 b)).set (p := ⟨w.heap.size, 8, none⟩) (.inl (by simp)) (.bool false)) (g := w.heap.size + 1) (.inl (by simp)) #[.int .i64 g, .int .i64 16384, .int .i64 0, .int .i64 0, .int .i64 16384, .bool false, .int .i64 a, .int .i64 b, .bool false, .int .i64 0, .int .i64 0]
  refine bodyPost_ret (results_cell_row Try.results51 _ _ (w.heap.size + 1) 36 #[.int .i64 g, .int .i64 16384, .int .i64 0, .int .i64 0, .int .i64 16384, .bool false, .int .i64 a, .int .i64 b, .bool false, .int .i64 0, .int .i64 0] (0, 0) _ (by rfl) (show Blk _ _ _ _ from blk_row ((((KR).other (q := ⟨w.heap.size, 6, none⟩) (by simp) (.int .i64 a)).other (q := ⟨w.heap.size, 7, none⟩) (by simp) (.int .i64 b)).other (q := ⟨w.heap.size, 8, none⟩) (by simp) (.bool false)) _) Try.underlying36 rfl prSize) rfl ⟨rfl, ?_, ?_⟩
  · exact r2.other oX (by simp; omega) (fun b hb => by simp at hb; omega)
  · exact O2.trans oX (fun b hb => .inr (by simp at hb; omega))

set_option maxRecDepth 100000 in
set_option maxHeartbeats 1000000 in
theorem rargs_310 (B p : Nat) (bs : List Value) (k f : Nat) (w : World) (h : RR w B p bs k) (hf : f < 65536) (g a b : Int) (e3 : bits .and .i64 (f : Int) 3 = 3) (hb1 : bt f 1 = true) (h11 : bt f 11 = true) (h12 : bt f 12 = false)
    (ha : s16 (rsn bs 2 (k) (rd2 bs (k))) = a) (hb : s16 (rsn bs 2 (k + 2) (rd2 bs (k + 2))) = b) :
    Calls Try.prog 51 #[.pointer (some ⟨p, 0, none⟩), .int .i64 f, .agg #[.int .i64 g, .int .i64 16384, .int .i64 0, .int .i64 0, .int .i64 16384, .bool false, .int .i64 0, .int .i64 0, .bool false, .int .i64 0, .int .i64 0]] w fun e w' => e = .returned (.agg #[.int .i64 g, .int .i64 16384, .int .i64 0, .int .i64 0, .int .i64 16384, .bool false, .int .i64 a, .int .i64 b, .bool true, .int .i64 0, .int .i64 0]) ∧ RR w' B p bs (k + 2 + 2) ∧ Only w w' [p] := by
  have e2 : bits .and .i64 (f : Int) 2 = 2 := by rw [bits_2 f hf, hb1]; rfl
  have e11 : bits .and .i64 (f : Int) 2048 = 2048 := by rw [show (2048 : Int) = ((2048 : Nat) : Int) from rfl, and_nat f 2048 (by omega) (by omega), and_2048, h11]; rfl
  have e12 : bits .and .i64 (f : Int) 4096 = 0 := by rw [show (4096 : Int) = ((4096 : Nat) : Int) from rfl, and_nat f 4096 (by omega) (by omega), and_4096, h12]; rfl
  have hp := h.low
  have hB : B ≤ w.heap.size := by omega
  have C1 := fun W (r : RR W B p bs (k)) => rr_i16 B p bs (k) W r
  have C2 := fun W (r : RR W B p bs (k + 2)) => rr_i16 B p bs (k + 2) W r
  rw [ha] at C1
  rw [hb] at C2
  clear ha hb
  have al : Below w.heap.size w ((w.alloc (.cells #[.int .i64 g, .int .i64 16384, .int .i64 0, .int .i64 0, .int .i64 16384, .bool false, .int .i64 0, .int .i64 0, .bool false, .int .i64 0, .int .i64 0] 36)).alloc (.cells #[.int .i64 0, .int .i64 0, .int .i64 0, .int .i64 0, .int .i64 0, .bool false, .int .i64 0, .int .i64 0, .bool false, .int .i64 0, .int .i64 0] 36)) := ((Below.refl _ _).alloc (Nat.le_refl _) _).alloc (by simp) _
  have KP := Blk.new w 36 #[.int .i64 g, .int .i64 16384, .int .i64 0, .int .i64 0, .int .i64 16384, .bool false, .int .i64 0, .int .i64 0, .bool false, .int .i64 0, .int .i64 0]
  have KP := KP.below ((Below.refl _ _).alloc (Nat.le_refl _) (.cells #[.int .i64 0, .int .i64 0, .int .i64 0, .int .i64 0, .int .i64 0, .bool false, .int .i64 0, .int .i64 0, .bool false, .int .i64 0, .int .i64 0] 36))
  have KR := Blk.new (w.alloc (.cells #[.int .i64 g, .int .i64 16384, .int .i64 0, .int .i64 0, .int .i64 16384, .bool false, .int .i64 0, .int .i64 0, .bool false, .int .i64 0, .int .i64 0] 36)) 36 #[.int .i64 0, .int .i64 0, .int .i64 0, .int .i64 0, .int .i64 0, .bool false, .int .i64 0, .int .i64 0, .bool false, .int .i64 0, .int .i64 0]
  rw [World.size_alloc] at KR
  have r0 := h.below al
  have O0 : Only w ((w.alloc (.cells #[.int .i64 g, .int .i64 16384, .int .i64 0, .int .i64 0, .int .i64 16384, .bool false, .int .i64 0, .int .i64 0, .bool false, .int .i64 0, .int .i64 0] 36)).alloc (.cells #[.int .i64 0, .int .i64 0, .int .i64 0, .int .i64 0, .int .i64 0, .bool false, .int .i64 0, .int .i64 0, .bool false, .int .i64 0, .int .i64 0] 36)) [p] := Only.of_below al _
  go_enter Try.func51, Try.ntmps51
  go_wp2_with (first | (go_at_call 22; ((with_reducible refine (C1 _ r0).mono ?_); rintro e w1 ⟨rfl, r1, o1⟩; have KP := KP.only o1 (by simp; omega); have KR := KR.only o1 (by simp; omega); have O1 := O0.trans o1 (fun b hb => .inl hb))) | (go_at_call 22; ((with_reducible refine (C2 _ r1).mono ?_); rintro e w2 ⟨rfl, r2, o2⟩; have KP := KP.only o2 (by simp; omega); have KR := KR.only o2 (by simp; omega); have O2 := O1.trans o2 (fun b hb => .inl hb); have c0 := KP.cell 0; have f0 := KP.frozen 0; have c1 := KP.cell 1; have f1 := KP.frozen 1; have c2 := KP.cell 2; have f2 := KP.frozen 2; have c3 := KP.cell 3; have f3 := KP.frozen 3; have c4 := KP.cell 4; have f4 := KP.frozen 4; have c5 := KP.cell 5; have f5 := KP.frozen 5; have c6 := KP.cell 6; have f6 := KP.frozen 6; have c7 := KP.cell 7; have f7 := KP.frozen 7; have c8 := KP.cell 8; have f8 := KP.frozen 8; have c9 := KP.cell 9; have f9 := KP.frozen 9; have c10 := KP.cell 10; have f10 := KP.frozen 10; have g0 := KR.lt; simp only [List.getElem?_toArray, List.getElem?_cons_zero, List.getElem?_cons_succ] at c0 c1 c2 c3 c4 c5 c6 c7 c8 c9 c10)) | (refine wpList_load_row rfl 36 (.tmp 5) (by with_reducible rfl) w.heap.size (by rfl) 36 #[.int .i64 g, .int .i64 16384, .int .i64 0, .int .i64 0, .int .i64 16384, .bool false, .int .i64 a, .int .i64 b, .bool true, .int .i64 0, .int .i64 0] (0, 0) _ (by exact (((KP.set 6 (.int .i64 a)).set 7 (.int .i64 b)).set 8 (.bool true))) Try.underlying36 rfl prSize ?_) | (refine wpList_store_row rfl 36 (.tmp 6) _ (by with_reducible rfl) (w.heap.size + 1) #[.int .i64 g, .int .i64 16384, .int .i64 0, .int .i64 0, .int .i64 16384, .bool false, .int .i64 a, .int .i64 b, .bool true, .int .i64 0, .int .i64 0] (by rfl) (by rfl) 36 #[.int .i64 0, .int .i64 0, .int .i64 0, .int .i64 0, .int .i64 0, .bool false, .int .i64 0, .int .i64 0, .bool false, .int .i64 0, .int .i64 0] (by exact (((KR.other (q := ⟨w.heap.size, 6, none⟩) (by simp) (.int .i64 a)).other (q := ⟨w.heap.size, 7, none⟩) (by simp) (.int .i64 b)).other (q := ⟨w.heap.size, 8, none⟩) (by simp) (.bool true))) prSize rfl (by simp [Value.oneCell']) ?_))
  have oX : Only w2 _ [w.heap.size, w.heap.size + 1] := only_row ((((Only.refl w2 [w.heap.size, w.heap.size + 1]).set (p := ⟨w.heap.size, 6, none⟩) (.inl (by simp)) (.int .i64 a)).set (p := ⟨w.heap.size, 7, none⟩) (.inl (by simp)) (.int .i64 b)).set (p := ⟨w.heap.size, 8, none⟩) (.inl (by simp)) (.bool true)) (g := w.heap.size + 1) (.inl (by simp)) #[.int .i64 g, .int .i64 16384, .int .i64 0, .int .i64 0, .int .i64 16384, .bool false, .int .i64 a, .int .i64 b, .bool true, .int .i64 0, .int .i64 0]
  refine bodyPost_ret (results_cell_row Try.results51 _ _ (w.heap.size + 1) 36 #[.int .i64 g, .int .i64 16384, .int .i64 0, .int .i64 0, .int .i64 16384, .bool false, .int .i64 a, .int .i64 b, .bool true, .int .i64 0, .int .i64 0] (0, 0) _ (by rfl) (show Blk _ _ _ _ from blk_row ((((KR).other (q := ⟨w.heap.size, 6, none⟩) (by simp) (.int .i64 a)).other (q := ⟨w.heap.size, 7, none⟩) (by simp) (.int .i64 b)).other (q := ⟨w.heap.size, 8, none⟩) (by simp) (.bool true)) _) Try.underlying36 rfl prSize) rfl ⟨rfl, ?_, ?_⟩
  · exact r2.other oX (by simp; omega) (fun b hb => by simp at hb; omega)
  · exact O2.trans oX (fun b hb => .inr (by simp at hb; omega))

set_option maxRecDepth 100000 in
set_option maxHeartbeats 1000000 in
theorem rargs_300 (B p : Nat) (bs : List Value) (k f : Nat) (w : World) (h : RR w B p bs k) (hf : f < 65536) (g a b : Int) (e3 : bits .and .i64 (f : Int) 3 = 3) (hb1 : bt f 1 = true) (h11 : bt f 11 = false)
    (ha : s16 (rsn bs 2 (k) (rd2 bs (k))) = a) (hb : s16 (rsn bs 2 (k + 2) (rd2 bs (k + 2))) = b) :
    Calls Try.prog 51 #[.pointer (some ⟨p, 0, none⟩), .int .i64 f, .agg #[.int .i64 g, .int .i64 16384, .int .i64 0, .int .i64 0, .int .i64 16384, .bool false, .int .i64 0, .int .i64 0, .bool false, .int .i64 0, .int .i64 0]] w fun e w' => e = .returned (.agg #[.int .i64 g, .int .i64 16384, .int .i64 0, .int .i64 0, .int .i64 16384, .bool false, .int .i64 a, .int .i64 b, .bool false, .int .i64 0, .int .i64 0]) ∧ RR w' B p bs (k + 2 + 2) ∧ Only w w' [p] := by
  have e2 : bits .and .i64 (f : Int) 2 = 2 := by rw [bits_2 f hf, hb1]; rfl
  have e11 : bits .and .i64 (f : Int) 2048 = 0 := by rw [show (2048 : Int) = ((2048 : Nat) : Int) from rfl, and_nat f 2048 (by omega) (by omega), and_2048, h11]; rfl
  have hp := h.low
  have hB : B ≤ w.heap.size := by omega
  have C1 := fun W (r : RR W B p bs (k)) => rr_i16 B p bs (k) W r
  have C2 := fun W (r : RR W B p bs (k + 2)) => rr_i16 B p bs (k + 2) W r
  rw [ha] at C1
  rw [hb] at C2
  clear ha hb
  have al : Below w.heap.size w ((w.alloc (.cells #[.int .i64 g, .int .i64 16384, .int .i64 0, .int .i64 0, .int .i64 16384, .bool false, .int .i64 0, .int .i64 0, .bool false, .int .i64 0, .int .i64 0] 36)).alloc (.cells #[.int .i64 0, .int .i64 0, .int .i64 0, .int .i64 0, .int .i64 0, .bool false, .int .i64 0, .int .i64 0, .bool false, .int .i64 0, .int .i64 0] 36)) := ((Below.refl _ _).alloc (Nat.le_refl _) _).alloc (by simp) _
  have KP := Blk.new w 36 #[.int .i64 g, .int .i64 16384, .int .i64 0, .int .i64 0, .int .i64 16384, .bool false, .int .i64 0, .int .i64 0, .bool false, .int .i64 0, .int .i64 0]
  have KP := KP.below ((Below.refl _ _).alloc (Nat.le_refl _) (.cells #[.int .i64 0, .int .i64 0, .int .i64 0, .int .i64 0, .int .i64 0, .bool false, .int .i64 0, .int .i64 0, .bool false, .int .i64 0, .int .i64 0] 36))
  have KR := Blk.new (w.alloc (.cells #[.int .i64 g, .int .i64 16384, .int .i64 0, .int .i64 0, .int .i64 16384, .bool false, .int .i64 0, .int .i64 0, .bool false, .int .i64 0, .int .i64 0] 36)) 36 #[.int .i64 0, .int .i64 0, .int .i64 0, .int .i64 0, .int .i64 0, .bool false, .int .i64 0, .int .i64 0, .bool false, .int .i64 0, .int .i64 0]
  rw [World.size_alloc] at KR
  have r0 := h.below al
  have O0 : Only w ((w.alloc (.cells #[.int .i64 g, .int .i64 16384, .int .i64 0, .int .i64 0, .int .i64 16384, .bool false, .int .i64 0, .int .i64 0, .bool false, .int .i64 0, .int .i64 0] 36)).alloc (.cells #[.int .i64 0, .int .i64 0, .int .i64 0, .int .i64 0, .int .i64 0, .bool false, .int .i64 0, .int .i64 0, .bool false, .int .i64 0, .int .i64 0] 36)) [p] := Only.of_below al _
  go_enter Try.func51, Try.ntmps51
  go_wp2_with (first | (go_at_call 22; ((with_reducible refine (C1 _ r0).mono ?_); rintro e w1 ⟨rfl, r1, o1⟩; have KP := KP.only o1 (by simp; omega); have KR := KR.only o1 (by simp; omega); have O1 := O0.trans o1 (fun b hb => .inl hb))) | (go_at_call 22; ((with_reducible refine (C2 _ r1).mono ?_); rintro e w2 ⟨rfl, r2, o2⟩; have KP := KP.only o2 (by simp; omega); have KR := KR.only o2 (by simp; omega); have O2 := O1.trans o2 (fun b hb => .inl hb); have c0 := KP.cell 0; have f0 := KP.frozen 0; have c1 := KP.cell 1; have f1 := KP.frozen 1; have c2 := KP.cell 2; have f2 := KP.frozen 2; have c3 := KP.cell 3; have f3 := KP.frozen 3; have c4 := KP.cell 4; have f4 := KP.frozen 4; have c5 := KP.cell 5; have f5 := KP.frozen 5; have c6 := KP.cell 6; have f6 := KP.frozen 6; have c7 := KP.cell 7; have f7 := KP.frozen 7; have c8 := KP.cell 8; have f8 := KP.frozen 8; have c9 := KP.cell 9; have f9 := KP.frozen 9; have c10 := KP.cell 10; have f10 := KP.frozen 10; have g0 := KR.lt; simp only [List.getElem?_toArray, List.getElem?_cons_zero, List.getElem?_cons_succ] at c0 c1 c2 c3 c4 c5 c6 c7 c8 c9 c10)) | (refine wpList_load_row rfl 36 (.tmp 5) (by with_reducible rfl) w.heap.size (by rfl) 36 #[.int .i64 g, .int .i64 16384, .int .i64 0, .int .i64 0, .int .i64 16384, .bool false, .int .i64 a, .int .i64 b, .bool false, .int .i64 0, .int .i64 0] (0, 0) _ (by exact (((KP.set 6 (.int .i64 a)).set 7 (.int .i64 b)).set 8 (.bool false))) Try.underlying36 rfl prSize ?_) | (refine wpList_store_row rfl 36 (.tmp 6) _ (by with_reducible rfl) (w.heap.size + 1) #[.int .i64 g, .int .i64 16384, .int .i64 0, .int .i64 0, .int .i64 16384, .bool false, .int .i64 a, .int .i64 b, .bool false, .int .i64 0, .int .i64 0] (by rfl) (by rfl) 36 #[.int .i64 0, .int .i64 0, .int .i64 0, .int .i64 0, .int .i64 0, .bool false, .int .i64 0, .int .i64 0, .bool false, .int .i64 0, .int .i64 0] (by exact (((KR.other (q := ⟨w.heap.size, 6, none⟩) (by simp) (.int .i64 a)).other (q := ⟨w.heap.size, 7, none⟩) (by simp) (.int .i64 b)).other (q := ⟨w.heap.size, 8, none⟩) (by simp) (.bool false))) prSize rfl (by simp [Value.oneCell']) ?_))
  have oX : Only w2 _ [w.heap.size, w.heap.size + 1] := only_row ((((Only.refl w2 [w.heap.size, w.heap.size + 1]).set (p := ⟨w.heap.size, 6, none⟩) (.inl (by simp)) (.int .i64 a)).set (p := ⟨w.heap.size, 7, none⟩) (.inl (by simp)) (.int .i64 b)).set (p := ⟨w.heap.size, 8, none⟩) (.inl (by simp)) (.bool false)) (g := w.heap.size + 1) (.inl (by simp)) #[.int .i64 g, .int .i64 16384, .int .i64 0, .int .i64 0, .int .i64 16384, .bool false, .int .i64 a, .int .i64 b, .bool false, .int .i64 0, .int .i64 0]
  refine bodyPost_ret (results_cell_row Try.results51 _ _ (w.heap.size + 1) 36 #[.int .i64 g, .int .i64 16384, .int .i64 0, .int .i64 0, .int .i64 16384, .bool false, .int .i64 a, .int .i64 b, .bool false, .int .i64 0, .int .i64 0] (0, 0) _ (by rfl) (show Blk _ _ _ _ from blk_row ((((KR).other (q := ⟨w.heap.size, 6, none⟩) (by simp) (.int .i64 a)).other (q := ⟨w.heap.size, 7, none⟩) (by simp) (.int .i64 b)).other (q := ⟨w.heap.size, 8, none⟩) (by simp) (.bool false)) _) Try.underlying36 rfl prSize) rfl ⟨rfl, ?_, ?_⟩
  · exact r2.other oX (by simp; omega) (fun b hb => by simp at hb; omega)
  · exact O2.trans oX (fun b hb => .inr (by simp at hb; omega))

set_option maxRecDepth 100000 in
set_option maxHeartbeats 1000000 in
theorem rargs_211 (B p : Nat) (bs : List Value) (k f : Nat) (w : World) (h : RR w B p bs k) (hf : f < 65536) (g a b : Int) (e3 : bits .and .i64 (f : Int) 3 = 2) (hb1 : bt f 1 = true) (h11 : bt f 11 = true) (h12 : bt f 12 = true)
    (ha : s8 (rsn bs 1 (k) (byteAt bs (k))) = a) (hb : s8 (rsn bs 1 (k + 1) (byteAt bs (k + 1))) = b) :
    Calls Try.prog 51 #[.pointer (some ⟨p, 0, none⟩), .int .i64 f, .agg #[.int .i64 g, .int .i64 16384, .int .i64 0, .int .i64 0, .int .i64 16384, .bool false, .int .i64 0, .int .i64 0, .bool false, .int .i64 0, .int .i64 0]] w fun e w' => e = .returned (.agg #[.int .i64 g, .int .i64 16384, .int .i64 0, .int .i64 0, .int .i64 16384, .bool false, .int .i64 a, .int .i64 b, .bool false, .int .i64 0, .int .i64 0]) ∧ RR w' B p bs (k + 1 + 1) ∧ Only w w' [p] := by
  have e2 : bits .and .i64 (f : Int) 2 = 2 := by rw [bits_2 f hf, hb1]; rfl
  have e11 : bits .and .i64 (f : Int) 2048 = 2048 := by rw [show (2048 : Int) = ((2048 : Nat) : Int) from rfl, and_nat f 2048 (by omega) (by omega), and_2048, h11]; rfl
  have e12 : bits .and .i64 (f : Int) 4096 = 4096 := by rw [show (4096 : Int) = ((4096 : Nat) : Int) from rfl, and_nat f 4096 (by omega) (by omega), and_4096, h12]; rfl
  have hp := h.low
  have hB : B ≤ w.heap.size := by omega
  have ha8 := s8_wrap _ (rsn_lt (byteAt_lt h.bytes k) : rsn bs 1 (k) (byteAt bs (k)) < 256)
  have hb8 := s8_wrap _ (rsn_lt (byteAt_lt h.bytes (k + 1)) : rsn bs 1 (k + 1) (byteAt bs (k + 1)) < 256)
  rw [ha] at ha8
  rw [hb] at hb8
  have C1 := fun W (r : RR W B p bs (k)) => rr_u1 B p bs (k) W r
  have C2 := fun W (r : RR W B p bs (k + 1)) => rr_u1 B p bs (k + 1) W r
  generalize ((rsn bs 1 (k) (byteAt bs (k)) : Nat) : Int) = a0 at *
  generalize ((rsn bs 1 (k + 1) (byteAt bs (k + 1)) : Nat) : Int) = b0 at *
  clear ha hb
  have al : Below w.heap.size w ((w.alloc (.cells #[.int .i64 g, .int .i64 16384, .int .i64 0, .int .i64 0, .int .i64 16384, .bool false, .int .i64 0, .int .i64 0, .bool false, .int .i64 0, .int .i64 0] 36)).alloc (.cells #[.int .i64 0, .int .i64 0, .int .i64 0, .int .i64 0, .int .i64 0, .bool false, .int .i64 0, .int .i64 0, .bool false, .int .i64 0, .int .i64 0] 36)) := ((Below.refl _ _).alloc (Nat.le_refl _) _).alloc (by simp) _
  have KP := Blk.new w 36 #[.int .i64 g, .int .i64 16384, .int .i64 0, .int .i64 0, .int .i64 16384, .bool false, .int .i64 0, .int .i64 0, .bool false, .int .i64 0, .int .i64 0]
  have KP := KP.below ((Below.refl _ _).alloc (Nat.le_refl _) (.cells #[.int .i64 0, .int .i64 0, .int .i64 0, .int .i64 0, .int .i64 0, .bool false, .int .i64 0, .int .i64 0, .bool false, .int .i64 0, .int .i64 0] 36))
  have KR := Blk.new (w.alloc (.cells #[.int .i64 g, .int .i64 16384, .int .i64 0, .int .i64 0, .int .i64 16384, .bool false, .int .i64 0, .int .i64 0, .bool false, .int .i64 0, .int .i64 0] 36)) 36 #[.int .i64 0, .int .i64 0, .int .i64 0, .int .i64 0, .int .i64 0, .bool false, .int .i64 0, .int .i64 0, .bool false, .int .i64 0, .int .i64 0]
  rw [World.size_alloc] at KR
  have r0 := h.below al
  have O0 : Only w ((w.alloc (.cells #[.int .i64 g, .int .i64 16384, .int .i64 0, .int .i64 0, .int .i64 16384, .bool false, .int .i64 0, .int .i64 0, .bool false, .int .i64 0, .int .i64 0] 36)).alloc (.cells #[.int .i64 0, .int .i64 0, .int .i64 0, .int .i64 0, .int .i64 0, .bool false, .int .i64 0, .int .i64 0, .bool false, .int .i64 0, .int .i64 0] 36)) [p] := Only.of_below al _
  go_enter Try.func51, Try.ntmps51
  go_wp2_with (first | (go_at_call 50; ((with_reducible refine (C1 _ r0).mono ?_); rintro e w1 ⟨rfl, r1, o1⟩; have KP := KP.only o1 (by simp; omega); have KR := KR.only o1 (by simp; omega); have O1 := O0.trans o1 (fun b hb => .inl hb))) | (go_at_call 50; ((with_reducible refine (C2 _ r1).mono ?_); rintro e w2 ⟨rfl, r2, o2⟩; have KP := KP.only o2 (by simp; omega); have KR := KR.only o2 (by simp; omega); have O2 := O1.trans o2 (fun b hb => .inl hb); have c0 := KP.cell 0; have f0 := KP.frozen 0; have c1 := KP.cell 1; have f1 := KP.frozen 1; have c2 := KP.cell 2; have f2 := KP.frozen 2; have c3 := KP.cell 3; have f3 := KP.frozen 3; have c4 := KP.cell 4; have f4 := KP.frozen 4; have c5 := KP.cell 5; have f5 := KP.frozen 5; have c6 := KP.cell 6; have f6 := KP.frozen 6; have c7 := KP.cell 7; have f7 := KP.frozen 7; have c8 := KP.cell 8; have f8 := KP.frozen 8; have c9 := KP.cell 9; have f9 := KP.frozen 9; have c10 := KP.cell 10; have f10 := KP.frozen 10; have g0 := KR.lt; simp only [List.getElem?_toArray, List.getElem?_cons_zero, List.getElem?_cons_succ] at c0 c1 c2 c3 c4 c5 c6 c7 c8 c9 c10)) | (refine wpList_load_row rfl 36 (.tmp 5) (by with_reducible rfl) w.heap.size (by rfl) 36 #[.int .i64 g, .int .i64 16384, .int .i64 0, .int .i64 0, .int .i64 16384, .bool false, .int .i64 a, .int .i64 b, .bool false, .int .i64 0, .int .i64 0] (0, 0) _ (by exact (((KP.set 6 (.int .i64 a)).set 7 (.int .i64 b)).set 8 (.bool false))) Try.underlying36 rfl prSize ?_) | (refine wpList_store_row rfl 36 (.tmp 6) _ (by with_reducible rfl) (w.heap.size + 1) #[.int .i64 g, .int .i64 16384, .int .i64 0, .int .i64 0, .int .i64 16384, .bool false, .int .i64 a, .int .i64 b, .bool false, .int .i64 0, .int .i64 0] (by rfl) (by rfl) 36 #[.int .i64 0, .int .i64 0, .int .i64 0, .int .i64 0, .int .i64 0, .bool false, .int .i64 0, .int .i64 0, .bool false, .int .i64 0, .int .i64 0] (by exact (((KR.other (q := ⟨w.heap.size, 6, none⟩) (by simp) (.int .i64 a)).other (q := ⟨w.heap.size, 7, none⟩) (by simp) (.int .i64 b)).other (q := ⟨w.heap.size, 8, none⟩) (by simp) (.bool false))) prSize rfl (by simp [Value.oneCell']) ?_))
  have oX : Only w2 _ [w.heap.size, w.heap.size + 1] := only_row ((((Only.refl w2 [w.heap.size, w.heap.size + 1]).set (p := ⟨w.heap.size, 6, none⟩) (.inl (by simp)) (.int .i64 a)).set (p := ⟨w.heap.size, 7, none⟩) (.inl (by simp)) (.int .i64 b)).set (p := ⟨w.heap.size, 8, none⟩) (.inl (by simp)) (.bool false)) (g := w.heap.size + 1) (.inl (by simp)) #[.int .i64 g, .int .i64 16384, .int .i64 0, .int .i64 0, .int .i64 16384, .bool false, .int .i64 a, .int .i64 b, .bool false, .int .i64 0, .int .i64 0]
  refine bodyPost_ret (results_cell_row Try.results51 _ _ (w.heap.size + 1) 36 #[.int .i64 g, .int .i64 16384, .int .i64 0, .int .i64 0, .int .i64 16384, .bool false, .int .i64 a, .int .i64 b, .bool false, .int .i64 0, .int .i64 0] (0, 0) _ (by rfl) (show Blk _ _ _ _ from blk_row ((((KR).other (q := ⟨w.heap.size, 6, none⟩) (by simp) (.int .i64 a)).other (q := ⟨w.heap.size, 7, none⟩) (by simp) (.int .i64 b)).other (q := ⟨w.heap.size, 8, none⟩) (by simp) (.bool false)) _) Try.underlying36 rfl prSize) rfl ⟨rfl, ?_, ?_⟩
  · exact r2.other oX (by simp; omega) (fun b hb => by simp at hb; omega)
  · exact O2.trans oX (fun b hb => .inr (by simp at hb; omega))

set_option maxRecDepth 100000 in
set_option maxHeartbeats 1000000 in
theorem rargs_210 (B p : Nat) (bs : List Value) (k f : Nat) (w : World) (h : RR w B p bs k) (hf : f < 65536) (g a b : Int) (e3 : bits .and .i64 (f : Int) 3 = 2) (hb1 : bt f 1 = true) (h11 : bt f 11 = true) (h12 : bt f 12 = false)
    (ha : s8 (rsn bs 1 (k) (byteAt bs (k))) = a) (hb : s8 (rsn bs 1 (k + 1) (byteAt bs (k + 1))) = b) :
    Calls Try.prog 51 #[.pointer (some ⟨p, 0, none⟩), .int .i64 f, .agg #[.int .i64 g, .int .i64 16384, .int .i64 0, .int .i64 0, .int .i64 16384, .bool false, .int .i64 0, .int .i64 0, .bool false, .int .i64 0, .int .i64 0]] w fun e w' => e = .returned (.agg #[.int .i64 g, .int .i64 16384, .int .i64 0, .int .i64 0, .int .i64 16384, .bool false, .int .i64 a, .int .i64 b, .bool true, .int .i64 0, .int .i64 0]) ∧ RR w' B p bs (k + 1 + 1) ∧ Only w w' [p] := by
  have e2 : bits .and .i64 (f : Int) 2 = 2 := by rw [bits_2 f hf, hb1]; rfl
  have e11 : bits .and .i64 (f : Int) 2048 = 2048 := by rw [show (2048 : Int) = ((2048 : Nat) : Int) from rfl, and_nat f 2048 (by omega) (by omega), and_2048, h11]; rfl
  have e12 : bits .and .i64 (f : Int) 4096 = 0 := by rw [show (4096 : Int) = ((4096 : Nat) : Int) from rfl, and_nat f 4096 (by omega) (by omega), and_4096, h12]; rfl
  have hp := h.low
  have hB : B ≤ w.heap.size := by omega
  have ha8 := s8_wrap _ (rsn_lt (byteAt_lt h.bytes k) : rsn bs 1 (k) (byteAt bs (k)) < 256)
  have hb8 := s8_wrap _ (rsn_lt (byteAt_lt h.bytes (k + 1)) : rsn bs 1 (k + 1) (byteAt bs (k + 1)) < 256)
  rw [ha] at ha8
  rw [hb] at hb8
  have C1 := fun W (r : RR W B p bs (k)) => rr_u1 B p bs (k) W r
  have C2 := fun W (r : RR W B p bs (k + 1)) => rr_u1 B p bs (k + 1) W r
  generalize ((rsn bs 1 (k) (byteAt bs (k)) : Nat) : Int) = a0 at *
  generalize ((rsn bs 1 (k + 1) (byteAt bs (k + 1)) : Nat) : Int) = b0 at *
  clear ha hb
  have al : Below w.heap.size w ((w.alloc (.cells #[.int .i64 g, .int .i64 16384, .int .i64 0, .int .i64 0, .int .i64 16384, .bool false, .int .i64 0, .int .i64 0, .bool false, .int .i64 0, .int .i64 0] 36)).alloc (.cells #[.int .i64 0, .int .i64 0, .int .i64 0, .int .i64 0, .int .i64 0, .bool false, .int .i64 0, .int .i64 0, .bool false, .int .i64 0, .int .i64 0] 36)) := ((Below.refl _ _).alloc (Nat.le_refl _) _).alloc (by simp) _
  have KP := Blk.new w 36 #[.int .i64 g, .int .i64 16384, .int .i64 0, .int .i64 0, .int .i64 16384, .bool false, .int .i64 0, .int .i64 0, .bool false, .int .i64 0, .int .i64 0]
  have KP := KP.below ((Below.refl _ _).alloc (Nat.le_refl _) (.cells #[.int .i64 0, .int .i64 0, .int .i64 0, .int .i64 0, .int .i64 0, .bool false, .int .i64 0, .int .i64 0, .bool false, .int .i64 0, .int .i64 0] 36))
  have KR := Blk.new (w.alloc (.cells #[.int .i64 g, .int .i64 16384, .int .i64 0, .int .i64 0, .int .i64 16384, .bool false, .int .i64 0, .int .i64 0, .bool false, .int .i64 0, .int .i64 0] 36)) 36 #[.int .i64 0, .int .i64 0, .int .i64 0, .int .i64 0, .int .i64 0, .bool false, .int .i64 0, .int .i64 0, .bool false, .int .i64 0, .int .i64 0]
  rw [World.size_alloc] at KR
  have r0 := h.below al
  have O0 : Only w ((w.alloc (.cells #[.int .i64 g, .int .i64 16384, .int .i64 0, .int .i64 0, .int .i64 16384, .bool false, .int .i64 0, .int .i64 0, .bool false, .int .i64 0, .int .i64 0] 36)).alloc (.cells #[.int .i64 0, .int .i64 0, .int .i64 0, .int .i64 0, .int .i64 0, .bool false, .int .i64 0, .int .i64 0, .bool false, .int .i64 0, .int .i64 0] 36)) [p] := Only.of_below al _
  go_enter Try.func51, Try.ntmps51
  go_wp2_with (first | (go_at_call 50; ((with_reducible refine (C1 _ r0).mono ?_); rintro e w1 ⟨rfl, r1, o1⟩; have KP := KP.only o1 (by simp; omega); have KR := KR.only o1 (by simp; omega); have O1 := O0.trans o1 (fun b hb => .inl hb))) | (go_at_call 50; ((with_reducible refine (C2 _ r1).mono ?_); rintro e w2 ⟨rfl, r2, o2⟩; have KP := KP.only o2 (by simp; omega); have KR := KR.only o2 (by simp; omega); have O2 := O1.trans o2 (fun b hb => .inl hb); have c0 := KP.cell 0; have f0 := KP.frozen 0; have c1 := KP.cell 1; have f1 := KP.frozen 1; have c2 := KP.cell 2; have f2 := KP.frozen 2; have c3 := KP.cell 3; have f3 := KP.frozen 3; have c4 := KP.cell 4; have f4 := KP.frozen 4; have c5 := KP.cell 5; have f5 := KP.frozen 5; have c6 := KP.cell 6; have f6 := KP.frozen 6; have c7 := KP.cell 7; have f7 := KP.frozen 7; have c8 := KP.cell 8; have f8 := KP.frozen 8; have c9 := KP.cell 9; have f9 := KP.frozen 9; have c10 := KP.cell 10; have f10 := KP.frozen 10; have g0 := KR.lt; simp only [List.getElem?_toArray, List.getElem?_cons_zero, List.getElem?_cons_succ] at c0 c1 c2 c3 c4 c5 c6 c7 c8 c9 c10)) | (refine wpList_load_row rfl 36 (.tmp 5) (by with_reducible rfl) w.heap.size (by rfl) 36 #[.int .i64 g, .int .i64 16384, .int .i64 0, .int .i64 0, .int .i64 16384, .bool false, .int .i64 a, .int .i64 b, .bool true, .int .i64 0, .int .i64 0] (0, 0) _ (by exact (((KP.set 6 (.int .i64 a)).set 7 (.int .i64 b)).set 8 (.bool true))) Try.underlying36 rfl prSize ?_) | (refine wpList_store_row rfl 36 (.tmp 6) _ (by with_reducible rfl) (w.heap.size + 1) #[.int .i64 g, .int .i64 16384, .int .i64 0, .int .i64 0, .int .i64 16384, .bool false, .int .i64 a, .int .i64 b, .bool true, .int .i64 0, .int .i64 0] (by rfl) (by rfl) 36 #[.int .i64 0, .int .i64 0, .int .i64 0, .int .i64 0, .int .i64 0, .bool false, .int .i64 0, .int .i64 0, .bool false, .int .i64 0, .int .i64 0] (by exact (((KR.other (q := ⟨w.heap.size, 6, none⟩) (by simp) (.int .i64 a)).other (q := ⟨w.heap.size, 7, none⟩) (by simp) (.int .i64 b)).other (q := ⟨w.heap.size, 8, none⟩) (by simp) (.bool true))) prSize rfl (by simp [Value.oneCell']) ?_))
  have oX : Only w2 _ [w.heap.size, w.heap.size + 1] := only_row ((((Only.refl w2 [w.heap.size, w.heap.size + 1]).set (p := ⟨w.heap.size, 6, none⟩) (.inl (by simp)) (.int .i64 a)).set (p := ⟨w.heap.size, 7, none⟩) (.inl (by simp)) (.int .i64 b)).set (p := ⟨w.heap.size, 8, none⟩) (.inl (by simp)) (.bool true)) (g := w.heap.size + 1) (.inl (by simp)) #[.int .i64 g, .int .i64 16384, .int .i64 0, .int .i64 0, .int .i64 16384, .bool false, .int .i64 a, .int .i64 b, .bool true, .int .i64 0, .int .i64 0]
  refine bodyPost_ret (results_cell_row Try.results51 _ _ (w.heap.size + 1) 36 #[.int .i64 g, .int .i64 16384, .int .i64 0, .int .i64 0, .int .i64 16384, .bool false, .int .i64 a, .int .i64 b, .bool true, .int .i64 0, .int .i64 0] (0, 0) _ (by rfl) (show Blk _ _ _ _ from blk_row ((((KR).other (q := ⟨w.heap.size, 6, none⟩) (by simp) (.int .i64 a)).other (q := ⟨w.heap.size, 7, none⟩) (by simp) (.int .i64 b)).other (q := ⟨w.heap.size, 8, none⟩) (by simp) (.bool true)) _) Try.underlying36 rfl prSize) rfl ⟨rfl, ?_, ?_⟩
  · exact r2.other oX (by simp; omega) (fun b hb => by simp at hb; omega)
  · exact O2.trans oX (fun b hb => .inr (by simp at hb; omega))

set_option maxRecDepth 100000 in
set_option maxHeartbeats 1000000 in
theorem rargs_200 (B p : Nat) (bs : List Value) (k f : Nat) (w : World) (h : RR w B p bs k) (hf : f < 65536) (g a b : Int) (e3 : bits .and .i64 (f : Int) 3 = 2) (hb1 : bt f 1 = true) (h11 : bt f 11 = false)
    (ha : s8 (rsn bs 1 (k) (byteAt bs (k))) = a) (hb : s8 (rsn bs 1 (k + 1) (byteAt bs (k + 1))) = b) :
    Calls Try.prog 51 #[.pointer (some ⟨p, 0, none⟩), .int .i64 f, .agg #[.int .i64 g, .int .i64 16384, .int .i64 0, .int .i64 0, .int .i64 16384, .bool false, .int .i64 0, .int .i64 0, .bool false, .int .i64 0, .int .i64 0]] w fun e w' => e = .returned (.agg #[.int .i64 g, .int .i64 16384, .int .i64 0, .int .i64 0, .int .i64 16384, .bool false, .int .i64 a, .int .i64 b, .bool false, .int .i64 0, .int .i64 0]) ∧ RR w' B p bs (k + 1 + 1) ∧ Only w w' [p] := by
  have e2 : bits .and .i64 (f : Int) 2 = 2 := by rw [bits_2 f hf, hb1]; rfl
  have e11 : bits .and .i64 (f : Int) 2048 = 0 := by rw [show (2048 : Int) = ((2048 : Nat) : Int) from rfl, and_nat f 2048 (by omega) (by omega), and_2048, h11]; rfl
  have hp := h.low
  have hB : B ≤ w.heap.size := by omega
  have ha8 := s8_wrap _ (rsn_lt (byteAt_lt h.bytes k) : rsn bs 1 (k) (byteAt bs (k)) < 256)
  have hb8 := s8_wrap _ (rsn_lt (byteAt_lt h.bytes (k + 1)) : rsn bs 1 (k + 1) (byteAt bs (k + 1)) < 256)
  rw [ha] at ha8
  rw [hb] at hb8
  have C1 := fun W (r : RR W B p bs (k)) => rr_u1 B p bs (k) W r
  have C2 := fun W (r : RR W B p bs (k + 1)) => rr_u1 B p bs (k + 1) W r
  generalize ((rsn bs 1 (k) (byteAt bs (k)) : Nat) : Int) = a0 at *
  generalize ((rsn bs 1 (k + 1) (byteAt bs (k + 1)) : Nat) : Int) = b0 at *
  clear ha hb
  have al : Below w.heap.size w ((w.alloc (.cells #[.int .i64 g, .int .i64 16384, .int .i64 0, .int .i64 0, .int .i64 16384, .bool false, .int .i64 0, .int .i64 0, .bool false, .int .i64 0, .int .i64 0] 36)).alloc (.cells #[.int .i64 0, .int .i64 0, .int .i64 0, .int .i64 0, .int .i64 0, .bool false, .int .i64 0, .int .i64 0, .bool false, .int .i64 0, .int .i64 0] 36)) := ((Below.refl _ _).alloc (Nat.le_refl _) _).alloc (by simp) _
  have KP := Blk.new w 36 #[.int .i64 g, .int .i64 16384, .int .i64 0, .int .i64 0, .int .i64 16384, .bool false, .int .i64 0, .int .i64 0, .bool false, .int .i64 0, .int .i64 0]
  have KP := KP.below ((Below.refl _ _).alloc (Nat.le_refl _) (.cells #[.int .i64 0, .int .i64 0, .int .i64 0, .int .i64 0, .int .i64 0, .bool false, .int .i64 0, .int .i64 0, .bool false, .int .i64 0, .int .i64 0] 36))
  have KR := Blk.new (w.alloc (.cells #[.int .i64 g, .int .i64 16384, .int .i64 0, .int .i64 0, .int .i64 16384, .bool false, .int .i64 0, .int .i64 0, .bool false, .int .i64 0, .int .i64 0] 36)) 36 #[.int .i64 0, .int .i64 0, .int .i64 0, .int .i64 0, .int .i64 0, .bool false, .int .i64 0, .int .i64 0, .bool false, .int .i64 0, .int .i64 0]
  rw [World.size_alloc] at KR
  have r0 := h.below al
  have O0 : Only w ((w.alloc (.cells #[.int .i64 g, .int .i64 16384, .int .i64 0, .int .i64 0, .int .i64 16384, .bool false, .int .i64 0, .int .i64 0, .bool false, .int .i64 0, .int .i64 0] 36)).alloc (.cells #[.int .i64 0, .int .i64 0, .int .i64 0, .int .i64 0, .int .i64 0, .bool false, .int .i64 0, .int .i64 0, .bool false, .int .i64 0, .int .i64 0] 36)) [p] := Only.of_below al _
  go_enter Try.func51, Try.ntmps51
  go_wp2_with (first | (go_at_call 50; ((with_reducible refine (C1 _ r0).mono ?_); rintro e w1 ⟨rfl, r1, o1⟩; have KP := KP.only o1 (by simp; omega); have KR := KR.only o1 (by simp; omega); have O1 := O0.trans o1 (fun b hb => .inl hb))) | (go_at_call 50; ((with_reducible refine (C2 _ r1).mono ?_); rintro e w2 ⟨rfl, r2, o2⟩; have KP := KP.only o2 (by simp; omega); have KR := KR.only o2 (by simp; omega); have O2 := O1.trans o2 (fun b hb => .inl hb); have c0 := KP.cell 0; have f0 := KP.frozen 0; have c1 := KP.cell 1; have f1 := KP.frozen 1; have c2 := KP.cell 2; have f2 := KP.frozen 2; have c3 := KP.cell 3; have f3 := KP.frozen 3; have c4 := KP.cell 4; have f4 := KP.frozen 4; have c5 := KP.cell 5; have f5 := KP.frozen 5; have c6 := KP.cell 6; have f6 := KP.frozen 6; have c7 := KP.cell 7; have f7 := KP.frozen 7; have c8 := KP.cell 8; have f8 := KP.frozen 8; have c9 := KP.cell 9; have f9 := KP.frozen 9; have c10 := KP.cell 10; have f10 := KP.frozen 10; have g0 := KR.lt; simp only [List.getElem?_toArray, List.getElem?_cons_zero, List.getElem?_cons_succ] at c0 c1 c2 c3 c4 c5 c6 c7 c8 c9 c10)) | (refine wpList_load_row rfl 36 (.tmp 5) (by with_reducible rfl) w.heap.size (by rfl) 36 #[.int .i64 g, .int .i64 16384, .int .i64 0, .int .i64 0, .int .i64 16384, .bool false, .int .i64 a, .int .i64 b, .bool false, .int .i64 0, .int .i64 0] (0, 0) _ (by exact (((KP.set 6 (.int .i64 a)).set 7 (.int .i64 b)).set 8 (.bool false))) Try.underlying36 rfl prSize ?_) | (refine wpList_store_row rfl 36 (.tmp 6) _ (by with_reducible rfl) (w.heap.size + 1) #[.int .i64 g, .int .i64 16384, .int .i64 0, .int .i64 0, .int .i64 16384, .bool false, .int .i64 a, .int .i64 b, .bool false, .int .i64 0, .int .i64 0] (by rfl) (by rfl) 36 #[.int .i64 0, .int .i64 0, .int .i64 0, .int .i64 0, .int .i64 0, .bool false, .int .i64 0, .int .i64 0, .bool false, .int .i64 0, .int .i64 0] (by exact (((KR.other (q := ⟨w.heap.size, 6, none⟩) (by simp) (.int .i64 a)).other (q := ⟨w.heap.size, 7, none⟩) (by simp) (.int .i64 b)).other (q := ⟨w.heap.size, 8, none⟩) (by simp) (.bool false))) prSize rfl (by simp [Value.oneCell']) ?_))
  have oX : Only w2 _ [w.heap.size, w.heap.size + 1] := only_row ((((Only.refl w2 [w.heap.size, w.heap.size + 1]).set (p := ⟨w.heap.size, 6, none⟩) (.inl (by simp)) (.int .i64 a)).set (p := ⟨w.heap.size, 7, none⟩) (.inl (by simp)) (.int .i64 b)).set (p := ⟨w.heap.size, 8, none⟩) (.inl (by simp)) (.bool false)) (g := w.heap.size + 1) (.inl (by simp)) #[.int .i64 g, .int .i64 16384, .int .i64 0, .int .i64 0, .int .i64 16384, .bool false, .int .i64 a, .int .i64 b, .bool false, .int .i64 0, .int .i64 0]
  refine bodyPost_ret (results_cell_row Try.results51 _ _ (w.heap.size + 1) 36 #[.int .i64 g, .int .i64 16384, .int .i64 0, .int .i64 0, .int .i64 16384, .bool false, .int .i64 a, .int .i64 b, .bool false, .int .i64 0, .int .i64 0] (0, 0) _ (by rfl) (show Blk _ _ _ _ from blk_row ((((KR).other (q := ⟨w.heap.size, 6, none⟩) (by simp) (.int .i64 a)).other (q := ⟨w.heap.size, 7, none⟩) (by simp) (.int .i64 b)).other (q := ⟨w.heap.size, 8, none⟩) (by simp) (.bool false)) _) Try.underlying36 rfl prSize) rfl ⟨rfl, ?_, ?_⟩
  · exact r2.other oX (by simp; omega) (fun b hb => by simp at hb; omega)
  · exact O2.trans oX (fun b hb => .inr (by simp at hb; omega))

set_option maxRecDepth 100000 in
set_option maxHeartbeats 1000000 in
theorem rargs_1 (B p : Nat) (bs : List Value) (k f : Nat) (w : World) (h : RR w B p bs k) (hf : f < 65536) (g a b : Int) (e3 : bits .and .i64 (f : Int) 3 = 1) (hb1 : bt f 1 = false)
    (ha : ((rsn bs 2 (k) (rd2 bs (k)) : Nat) : Int) = a) (hb : ((rsn bs 2 (k + 2) (rd2 bs (k + 2)) : Nat) : Int) = b) :
    Calls Try.prog 51 #[.pointer (some ⟨p, 0, none⟩), .int .i64 f, .agg #[.int .i64 g, .int .i64 16384, .int .i64 0, .int .i64 0, .int .i64 16384, .bool false, .int .i64 0, .int .i64 0, .bool false, .int .i64 0, .int .i64 0]] w fun e w' => e = .returned (.agg #[.int .i64 g, .int .i64 16384, .int .i64 0, .int .i64 0, .int .i64 16384, .bool true, .int .i64 0, .int .i64 0, .bool false, .int .i64 a, .int .i64 b]) ∧ RR w' B p bs (k + 2 + 2) ∧ Only w w' [p] := by
  have e2 : bits .and .i64 (f : Int) 2 = 0 := by rw [bits_2 f hf, hb1]; rfl
  have hp := h.low
  have hB : B ≤ w.heap.size := by omega
  have C1 := fun W (r : RR W B p bs (k)) => rr_u2 B p bs (k) W r
  have C2 := fun W (r : RR W B p bs (k + 2)) => rr_u2 B p bs (k + 2) W r
  rw [ha] at C1
  rw [hb] at C2
  clear ha hb
  have al : Below w.heap.size w ((w.alloc (.cells #[.int .i64 g, .int .i64 16384, .int .i64 0, .int .i64 0, .int .i64 16384, .bool false, .int .i64 0, .int .i64 0, .bool false, .int .i64 0, .int .i64 0] 36)).alloc (.cells #[.int .i64 0, .int .i64 0, .int .i64 0, .int .i64 0, .int .i64 0, .bool false, .int .i64 0, .int .i64 0, .bool false, .int .i64 0, .int .i64 0] 36)) := ((Below.refl _ _).alloc (Nat.le_refl _) _).alloc (by simp) _
  have KP := Blk.new w 36 #[.int .i64 g, .int .i64 16384, .int .i64 0, .int .i64 0, .int .i64 16384, .bool false, .int .i64 0, .int .i64 0, .bool false, .int .i64 0, .int .i64 0]
  have KP := KP.below ((Below.refl _ _).alloc (Nat.le_refl _) (.cells #[.int .i64 0, .int .i64 0, .int .i64 0, .int .i64 0, .int .i64 0, .bool false, .int .i64 0, .int .i64 0, .bool false, .int .i64 0, .int .i64 0] 36))
  have KR := Blk.new (w.alloc (.cells #[.int .i64 g, .int .i64 16384, .int .i64 0, .int .i64 0, .int .i64 16384, .bool false, .int .i64 0, .int .i64 0, .bool false, .int .i64 0, .int .i64 0] 36)) 36 #[.int .i64 0, .int .i64 0, .int .i64 0, .int .i64 0, .int .i64 0, .bool false, .int .i64 0, .int .i64 0, .bool false, .int .i64 0, .int .i64 0]
  rw [World.size_alloc] at KR
  have r0 := h.below al
  have O0 : Only w ((w.alloc (.cells #[.int .i64 g, .int .i64 16384, .int .i64 0, .int .i64 0, .int .i64 16384, .bool false, .int .i64 0, .int .i64 0, .bool false, .int .i64 0, .int .i64 0] 36)).alloc (.cells #[.int .i64 0, .int .i64 0, .int .i64 0, .int .i64 0, .int .i64 0, .bool false, .int .i64 0, .int .i64 0, .bool false, .int .i64 0, .int .i64 0] 36)) [p] := Only.of_below al _
  go_enter Try.func51, Try.ntmps51
  go_wp2_with (first | (go_at_call 50; ((with_reducible refine (C1 _ r0).mono ?_); rintro e w1 ⟨rfl, r1, o1⟩; have KP := KP.only o1 (by simp; omega); have KR := KR.only o1 (by simp; omega); have O1 := O0.trans o1 (fun b hb => .inl hb))) | (go_at_call 50; ((with_reducible refine (C2 _ r1).mono ?_); rintro e w2 ⟨rfl, r2, o2⟩; have KP := KP.only o2 (by simp; omega); have KR := KR.only o2 (by simp; omega); have O2 := O1.trans o2 (fun b hb => .inl hb); have c0 := KP.cell 0; have f0 := KP.frozen 0; have c1 := KP.cell 1; have f1 := KP.frozen 1; have c2 := KP.cell 2; have f2 := KP.frozen 2; have c3 := KP.cell 3; have f3 := KP.frozen 3; have c4 := KP.cell 4; have f4 := KP.frozen 4; have c5 := KP.cell 5; have f5 := KP.frozen 5; have c6 := KP.cell 6; have f6 := KP.frozen 6; have c7 := KP.cell 7; have f7 := KP.frozen 7; have c8 := KP.cell 8; have f8 := KP.frozen 8; have c9 := KP.cell 9; have f9 := KP.frozen 9; have c10 := KP.cell 10; have f10 := KP.frozen 10; have g0 := KR.lt; simp only [List.getElem?_toArray, List.getElem?_cons_zero, List.getElem?_cons_succ] at c0 c1 c2 c3 c4 c5 c6 c7 c8 c9 c10)) | (refine wpList_load_row rfl 36 (.tmp 5) (by with_reducible rfl) w.heap.size (by rfl) 36 #[.int .i64 g, .int .i64 16384, .int .i64 0, .int .i64 0, .int .i64 16384, .bool true, .int .i64 0, .int .i64 0, .bool false, .int .i64 a, .int .i64 b] (0, 0) _ (by exact (((KP.set 5 (.bool true)).set 9 (.int .i64 a)).set 10 (.int .i64 b))) Try.underlying36 rfl prSize ?_) | (refine wpList_store_row rfl 36 (.tmp 6) _ (by with_reducible rfl) (w.heap.size + 1) #[.int .i64 g, .int .i64 16384, .int .i64 0, .int .i64 0, .int .i64 16384, .bool true, .int .i64 0, .int .i64 0, .bool false, .int .i64 a, .int .i64 b] (by rfl) (by rfl) 36 #[.int .i64 0, .int .i64 0, .int .i64 0, .int .i64 0, .int .i64 0, .bool false, .int .i64 0, .int .i64 0, .bool false, .int .i64 0, .int .i64 0] (by exact (((KR.other (q := ⟨w.heap.size, 5, none⟩) (by simp) (.bool true)).other (q := ⟨w.heap.size, 9, none⟩) (by simp) (.int .i64 a)).other (q := ⟨w.heap.size, 10, none⟩) (by simp) (.int .i64 b))) prSize rfl (by simp [Value.oneCell']) ?_))
  have oX : Only w2 _ [w.heap.size, w.heap.size + 1] := only_row ((((Only.refl w2 [w.heap.size, w.heap.size + 1]).set (p := ⟨w.heap.size, 5, none⟩) (.inl (by simp)) (.bool true)).set (p := ⟨w.heap.size, 9, none⟩) (.inl (by simp)) (.int .i64 a)).set (p := ⟨w.heap.size, 10, none⟩) (.inl (by simp)) (.int .i64 b)) (g := w.heap.size + 1) (.inl (by simp)) #[.int .i64 g, .int .i64 16384, .int .i64 0, .int .i64 0, .int .i64 16384, .bool true, .int .i64 0, .int .i64 0, .bool false, .int .i64 a, .int .i64 b]
  refine bodyPost_ret (results_cell_row Try.results51 _ _ (w.heap.size + 1) 36 #[.int .i64 g, .int .i64 16384, .int .i64 0, .int .i64 0, .int .i64 16384, .bool true, .int .i64 0, .int .i64 0, .bool false, .int .i64 a, .int .i64 b] (0, 0) _ (by rfl) (show Blk _ _ _ _ from blk_row ((((KR).other (q := ⟨w.heap.size, 5, none⟩) (by simp) (.bool true)).other (q := ⟨w.heap.size, 9, none⟩) (by simp) (.int .i64 a)).other (q := ⟨w.heap.size, 10, none⟩) (by simp) (.int .i64 b)) _) Try.underlying36 rfl prSize) rfl ⟨rfl, ?_, ?_⟩
  · exact r2.other oX (by simp; omega) (fun b hb => by simp at hb; omega)
  · exact O2.trans oX (fun b hb => .inr (by simp at hb; omega))

set_option maxRecDepth 100000 in
set_option maxHeartbeats 1000000 in
theorem rargs_0 (B p : Nat) (bs : List Value) (k f : Nat) (w : World) (h : RR w B p bs k) (hf : f < 65536) (g a b : Int) (e3 : bits .and .i64 (f : Int) 3 = 0) (hb1 : bt f 1 = false)
    (ha : ((rsn bs 1 (k) (byteAt bs (k)) : Nat) : Int) = a) (hb : ((rsn bs 1 (k + 1) (byteAt bs (k + 1)) : Nat) : Int) = b) :
    Calls Try.prog 51 #[.pointer (some ⟨p, 0, none⟩), .int .i64 f, .agg #[.int .i64 g, .int .i64 16384, .int .i64 0, .int .i64 0, .int .i64 16384, .bool false, .int .i64 0, .int .i64 0, .bool false, .int .i64 0, .int .i64 0]] w fun e w' => e = .returned (.agg #[.int .i64 g, .int .i64 16384, .int .i64 0, .int .i64 0, .int .i64 16384, .bool true, .int .i64 0, .int .i64 0, .bool false, .int .i64 a, .int .i64 b]) ∧ RR w' B p bs (k + 1 + 1) ∧ Only w w' [p] := by
  have e2 : bits .and .i64 (f : Int) 2 = 0 := by rw [bits_2 f hf, hb1]; rfl
  have hp := h.low
  have hB : B ≤ w.heap.size := by omega
  have C1 := fun W (r : RR W B p bs (k)) => rr_u1 B p bs (k) W r
  have C2 := fun W (r : RR W B p bs (k + 1)) => rr_u1 B p bs (k + 1) W r
  rw [ha] at C1
  rw [hb] at C2
  clear ha hb
  have al : Below w.heap.size w ((w.alloc (.cells #[.int .i64 g, .int .i64 16384, .int .i64 0, .int .i64 0, .int .i64 16384, .bool false, .int .i64 0, .int .i64 0, .bool false, .int .i64 0, .int .i64 0] 36)).alloc (.cells #[.int .i64 0, .int .i64 0, .int .i64 0, .int .i64 0, .int .i64 0, .bool false, .int .i64 0, .int .i64 0, .bool false, .int .i64 0, .int .i64 0] 36)) := ((Below.refl _ _).alloc (Nat.le_refl _) _).alloc (by simp) _
  have KP := Blk.new w 36 #[.int .i64 g, .int .i64 16384, .int .i64 0, .int .i64 0, .int .i64 16384, .bool false, .int .i64 0, .int .i64 0, .bool false, .int .i64 0, .int .i64 0]
  have KP := KP.below ((Below.refl _ _).alloc (Nat.le_refl _) (.cells #[.int .i64 0, .int .i64 0, .int .i64 0, .int .i64 0, .int .i64 0, .bool false, .int .i64 0, .int .i64 0, .bool false, .int .i64 0, .int .i64 0] 36))
  have KR := Blk.new (w.alloc (.cells #[.int .i64 g, .int .i64 16384, .int .i64 0, .int .i64 0, .int .i64 16384, .bool false, .int .i64 0, .int .i64 0, .bool false, .int .i64 0, .int .i64 0] 36)) 36 #[.int .i64 0, .int .i64 0, .int .i64 0, .int .i64 0, .int .i64 0, .bool false, .int .i64 0, .int .i64 0, .bool false, .int .i64 0, .int .i64 0]
  rw [World.size_alloc] at KR
  have r0 := h.below al
  have O0 : Only w ((w.alloc (.cells #[.int .i64 g, .int .i64 16384, .int .i64 0, .int .i64 0, .int .i64 16384, .bool false, .int .i64 0, .int .i64 0, .bool false, .int .i64 0, .int .i64 0] 36)).alloc (.cells #[.int .i64 0, .int .i64 0, .int .i64 0, .int .i64 0, .int .i64 0, .bool false, .int .i64 0, .int .i64 0, .bool false, .int .i64 0, .int .i64 0] 36)) [p] := Only.of_below al _
  go_enter Try.func51, Try.ntmps51
  go_wp2_with (first | (go_at_call 50; ((with_reducible refine (C1 _ r0).mono ?_); rintro e w1 ⟨rfl, r1, o1⟩; have KP := KP.only o1 (by simp; omega); have KR := KR.only o1 (by simp; omega); have O1 := O0.trans o1 (fun b hb => .inl hb))) | (go_at_call 50; ((with_reducible refine (C2 _ r1).mono ?_); rintro e w2 ⟨rfl, r2, o2⟩; have KP := KP.only o2 (by simp; omega); have KR := KR.only o2 (by simp; omega); have O2 := O1.trans o2 (fun b hb => .inl hb); have c0 := KP.cell 0; have f0 := KP.frozen 0; have c1 := KP.cell 1; have f1 := KP.frozen 1; have c2 := KP.cell 2; have f2 := KP.frozen 2; have c3 := KP.cell 3; have f3 := KP.frozen 3; have c4 := KP.cell 4; have f4 := KP.frozen 4; have c5 := KP.cell 5; have f5 := KP.frozen 5; have c6 := KP.cell 6; have f6 := KP.frozen 6; have c7 := KP.cell 7; have f7 := KP.frozen 7; have c8 := KP.cell 8; have f8 := KP.frozen 8; have c9 := KP.cell 9; have f9 := KP.frozen 9; have c10 := KP.cell 10; have f10 := KP.frozen 10; have g0 := KR.lt; simp only [List.getElem?_toArray, List.getElem?_cons_zero, List.getElem?_cons_succ] at c0 c1 c2 c3 c4 c5 c6 c7 c8 c9 c10)) | (refine wpList_load_row rfl 36 (.tmp 5) (by with_reducible rfl) w.heap.size (by rfl) 36 #[.int .i64 g, .int .i64 16384, .int .i64 0, .int .i64 0, .int .i64 16384, .bool true, .int .i64 0, .int .i64 0, .bool false, .int .i64 a, .int .i64 b] (0, 0) _ (by exact (((KP.set 5 (.bool true)).set 9 (.int .i64 a)).set 10 (.int .i64 b))) Try.underlying36 rfl prSize ?_) | (refine wpList_store_row rfl 36 (.tmp 6) _ (by with_reducible rfl) (w.heap.size + 1) #[.int .i64 g, .int .i64 16384, .int .i64 0, .int .i64 0, .int .i64 16384, .bool true, .int .i64 0, .int .i64 0, .bool false, .int .i64 a, .int .i64 b] (by rfl) (by rfl) 36 #[.int .i64 0, .int .i64 0, .int .i64 0, .int .i64 0, .int .i64 0, .bool false, .int .i64 0, .int .i64 0, .bool false, .int .i64 0, .int .i64 0] (by exact (((KR.other (q := ⟨w.heap.size, 5, none⟩) (by simp) (.bool true)).other (q := ⟨w.heap.size, 9, none⟩) (by simp) (.int .i64 a)).other (q := ⟨w.heap.size, 10, none⟩) (by simp) (.int .i64 b))) prSize rfl (by simp [Value.oneCell']) ?_))
  have oX : Only w2 _ [w.heap.size, w.heap.size + 1] := only_row ((((Only.refl w2 [w.heap.size, w.heap.size + 1]).set (p := ⟨w.heap.size, 5, none⟩) (.inl (by simp)) (.bool true)).set (p := ⟨w.heap.size, 9, none⟩) (.inl (by simp)) (.int .i64 a)).set (p := ⟨w.heap.size, 10, none⟩) (.inl (by simp)) (.int .i64 b)) (g := w.heap.size + 1) (.inl (by simp)) #[.int .i64 g, .int .i64 16384, .int .i64 0, .int .i64 0, .int .i64 16384, .bool true, .int .i64 0, .int .i64 0, .bool false, .int .i64 a, .int .i64 b]
  refine bodyPost_ret (results_cell_row Try.results51 _ _ (w.heap.size + 1) 36 #[.int .i64 g, .int .i64 16384, .int .i64 0, .int .i64 0, .int .i64 16384, .bool true, .int .i64 0, .int .i64 0, .bool false, .int .i64 a, .int .i64 b] (0, 0) _ (by rfl) (show Blk _ _ _ _ from blk_row ((((KR).other (q := ⟨w.heap.size, 5, none⟩) (by simp) (.bool true)).other (q := ⟨w.heap.size, 9, none⟩) (by simp) (.int .i64 a)).other (q := ⟨w.heap.size, 10, none⟩) (by simp) (.int .i64 b)) _) Try.underlying36 rfl prSize) rfl ⟨rfl, ?_, ?_⟩
  · exact r2.other oX (by simp; omega) (fun b hb => by simp at hb; omega)
  · exact O2.trans oX (fun b hb => .inr (by simp at hb; omega))

end Go.Proofs.Ytekailhghjideaa
