/- Part 10 of the proof: CmI2y, CmI2n, CmI3y, CmI3n. -/
import Derived.Test.YtekailhghjideaaCCm8

namespace Go.Proofs.Ytekailhghjideaa
open Go Go.RowKit
set_option linter.unusedVariables false
set_option linter.unusedSimpArgs false
variable {q : Nat → Prop}

set_option maxRecDepth 100000 in
set_option maxHeartbeats 4000000 in
theorem readPart_2y (p : Nat) (bs : List Value) (k f n : Nat) (w : World) (h : RS q w p bs (k + 2)) (hq : ∀ b, q b → b < w.heap.size) (hp : p < w.heap.size) (hL : bs.length ≤ 4611686018427387904) (hf : f < 65536) (hn : matN f = n) (hk : (frm f).isSome = true)
    (g a b m1 m2 m3 m4 : Int) (tu : Bool) (hg : g = rdk bs 1 (k + 2)) (ha : a = valA bs f (k + 4)) (hb : b = valA bs f (k + 4 + widA f)) (hmm : matL (nums2 bs (k + 4 + 2 * widA f) n) = (m1, m2, m3, m4)) (htu : tu = (bt f 11 && !bt f 12))
    (e3 : bits .and .i64 (f : Int) 3 = 2) (hb0 : bt f 0 = false) (hb1 : bt f 1 = true) :
    Calls Try.prog 21 #[.pointer (some ⟨p, 0, none⟩), .int .i64 f] w fun e w' => e = .returned (.tuple #[.agg #[.int .i64 g, .int .i64 m1, .int .i64 m2, .int .i64 m3, .int .i64 m4, .bool false, .int .i64 a, .int .i64 b, .bool tu, .int .i64 0, .int .i64 0], .bool (decide (endP f k ≤ bs.length))]) ∧ RS q w' p bs (endP f k) ∧ Only w w' [p] := by
  have e2 : bits .and .i64 (f : Int) 2 = 2 := by rw [bits_2 f hf, hb1]; rfl
  have hwA : widA f = 1 := by unfold widA; rw [hb0]; rfl
  have e6 := bits_6144 f hf tu htu
  have hn4 : n = 0 ∨ n = 1 ∨ n = 2 ∨ n = 4 := hn ▸ matN_cases f
  have hle : n ≤ 4 := by omega
  rw [hwA] at hb hmm
  rw [show k + 4 + 2 * 1 = k + 2 + 2 + 1 + 1 by omega] at hmm
  have CF := fun W => formOf_any f hf W
  simp only [hn, hk] at CF
  have CG := fun W (r : RS q W p bs (k + 2)) => rsU16 p bs (k + 2) W r hL
  have CT := fun W (r : RS q W p bs (k + 2 + 2 + 1 + 1)) (hl : w.heap.size ≤ W.heap.size) => take_any p bs (k + 2 + 2 + 1 + 1) n W r (fun b hb => Nat.lt_of_lt_of_le (hq b hb) hl) hL hle (Nat.lt_of_lt_of_le hp hl)
  have CM := fun A c W (l : Lists W W.heap.size A (intCells (nums2 bs (k + 2 + 2 + 1 + 1) n))) => matrixOf_any (nums2 bs (k + 2 + 2 + 1 + 1) n) A c W.heap.size W (Nat.le_refl _) l (by rw [nums2, List.length_map, List.length_range]; exact hn4)
  rw [hmm] at CM
  simp only [mtV] at CM
  simp only [show (nums2 bs (k + 2 + 2 + 1 + 1) n).length = n by rw [nums2, List.length_map, List.length_range]] at CM
  rw [show ((rsn bs 2 (k + 2) (rd2 bs (k + 2)) : Nat) : Int) = g from hg.symm] at CG
  have CN1 := fun W ab (K : Blk W ab 42 #[.pointer (some ⟨p, 0, none⟩)]) (r : RS q W p bs (k + 2 + 2)) => argument1_any p bs (k + 2 + 2) ab W K r hL
  have CN2 := fun W ab (K : Blk W ab 42 #[.pointer (some ⟨p, 0, none⟩)]) (r : RS q W p bs (k + 2 + 2 + 1)) => argument1_any p bs (k + 2 + 2 + 1) ab W K r hL
  have ha' : s8 (rsn bs 1 (k + 2 + 2) (byteAt bs (k + 2 + 2))) = a := by rw [ha]; unfold valA; rw [hb0, hb1]; rfl
  have hb' : s8 (rsn bs 1 (k + 2 + 2 + 1) (byteAt bs (k + 2 + 2 + 1))) = b := by rw [hb]; unfold valA; rw [hb0, hb1]; rfl
  rw [ha'] at CN1
  rw [hb'] at CN2
  clear ha' hb' hg ha hb hmm htu
  go_enter Try.func21, Try.ntmps21
  go_wp2_with (first | (go_at_call 45; ((with_reducible refine (CF _).mono ?_); rintro e w1 ⟨b9, rfl, q1⟩; have S1 := RQ.start b9 n h hp hq q1)) | (refine wpList_store_row rfl 75 (.tmp 6) (.tmp 13) (by with_reducible rfl) w1.heap.size #[.int .i64 b9, .int .i64 n] (by rfl) (by rfl) 75 #[.int .i64 0, .int .i64 0] (by exact Blk.new _ _ _) (by kernel_rfl) rfl (by simp [Value.oneCell']) ?_; rw [World.setRow_alloc_new]) | (go_at_call 20; ((with_reducible refine (CG _ S1.rs).mono ?_); rintro e w2 ⟨rfl, r2, o2⟩; have S2 := S1.read hp r2 o2; have K3 := Blk.new (w2.alloc (.cells #[.int .i64 g, .int .i64 0, .int .i64 0, .int .i64 0, .int .i64 0, .bool false, .int .i64 0, .int .i64 0, .bool false, .int .i64 0, .int .i64 0] 36)) 42 #[.pointer (some ⟨p, 0, none⟩)]; rw [World.size_alloc] at K3; have hw2 := S2.size; have S3 := (S2.part #[.int .i64 g, .int .i64 0, .int .i64 0, .int .i64 0, .int .i64 0, .bool false, .int .i64 0, .int .i64 0, .bool false, .int .i64 0, .int .i64 0]).al (.cells #[.pointer (some ⟨p, 0, none⟩)] 42))) | (refine wpList_build_to rfl 36 _ (by with_reducible rfl) [(0, .int .i64 g)] (by rfl) #[.int .i64 g, .int .i64 0, .int .i64 0, .int .i64 0, .int .i64 0, .bool false, .int .i64 0, .int .i64 0, .bool false, .int .i64 0, .int .i64 0] (prBuilt g) ?_) | (refine wpList_store_row rfl 36 (.tmp 8) (.tmp 17) (by with_reducible rfl) w2.heap.size #[.int .i64 g, .int .i64 0, .int .i64 0, .int .i64 0, .int .i64 0, .bool false, .int .i64 0, .int .i64 0, .bool false, .int .i64 0, .int .i64 0] (by rfl) (by rfl) 36 #[.int .i64 0, .int .i64 0, .int .i64 0, .int .i64 0, .int .i64 0, .bool false, .int .i64 0, .int .i64 0, .bool false, .int .i64 0, .int .i64 0] (by exact Blk.new _ _ _) prSize rfl (by simp [Value.oneCell']) ?_; rw [World.setRow_alloc_new]) | (go_at_call 46; ((with_reducible refine (argument_2 p f _ e3).mono ?_); rintro e w9 ⟨rfl, rfl⟩)) | (go_at_call 72; ((with_reducible refine (CN1 _ (w2.heap.size + 1) K3 S3.rq.rs).mono ?_); rintro e w4 ⟨rfl, r4, o4⟩; have S4 := S3.read hp r4 o4; have K4 := K3.only o4 (by simp; omega))) | (go_at_call 72; ((with_reducible refine (CN2 _ (w2.heap.size + 1) K4 S4.rq.rs).mono ?_); rintro e w5 ⟨rfl, r5, o5⟩; have S5 := S4.read hp r5 o5; have K5 := K4.only o5 (by simp; omega); have c0 := S5.kp.cell 0; have f0 := S5.kp.frozen 0; have c1 := S5.kp.cell 1; have f1 := S5.kp.frozen 1; have c2 := S5.kp.cell 2; have f2 := S5.kp.frozen 2; have c3 := S5.kp.cell 3; have f3 := S5.kp.frozen 3; have c4 := S5.kp.cell 4; have f4 := S5.kp.frozen 4; have c5 := S5.kp.cell 5; have f5 := S5.kp.frozen 5; have c6 := S5.kp.cell 6; have f6 := S5.kp.frozen 6; have c7 := S5.kp.cell 7; have f7 := S5.kp.frozen 7; have c8 := S5.kp.cell 8; have f8 := S5.kp.frozen 8; have c9 := S5.kp.cell 9; have f9 := S5.kp.frozen 9; have c10 := S5.kp.cell 10; have f10 := S5.kp.frozen 10; simp only [List.getElem?_toArray, List.getElem?_cons_zero, List.getElem?_cons_succ, List.setIfInBounds_toArray, List.set_cons_zero, List.set_cons_succ] at c0 c1 c2 c3 c4 c5 c6 c7 c8 c9 c10; have kf0 := S5.rq.kf.cell 1; simp only [List.getElem?_toArray, List.getElem?_cons_zero, List.getElem?_cons_succ] at kf0; have S6 := (((S5.set hp 6 (.int .i64 a)).set hp 7 (.int .i64 b)).set hp 8 (.bool tu)))) | (go_at_call 48; ((with_reducible refine (CT _ S6.rq.rs S6.rq.size).mono ?_); rintro e w7 ⟨v7, rfl, own7, r7, o7⟩; have S7 := S6.read hp r7 o7; obtain ⟨A7, c7, rfl, l7, _⟩ := own_lists own7)) | (go_at_call 47; ((with_reducible refine (CM A7 c7 _ l7).mono ?_); rintro e w8 ⟨rfl, b8⟩; have S8 := S7.below b8; have c0 := S8.kp.cell 0; have f0 := S8.kp.frozen 0; have c1 := S8.kp.cell 1; have f1 := S8.kp.frozen 1; have c2 := S8.kp.cell 2; have f2 := S8.kp.frozen 2; have c3 := S8.kp.cell 3; have f3 := S8.kp.frozen 3; have c4 := S8.kp.cell 4; have f4 := S8.kp.frozen 4; have c5 := S8.kp.cell 5; have f5 := S8.kp.frozen 5; have c6 := S8.kp.cell 6; have f6 := S8.kp.frozen 6; have c7 := S8.kp.cell 7; have f7 := S8.kp.frozen 7; have c8 := S8.kp.cell 8; have f8 := S8.kp.frozen 8; have c9 := S8.kp.cell 9; have f9 := S8.kp.frozen 9; have c10 := S8.kp.cell 10; have f10 := S8.kp.frozen 10; simp only [List.getElem?_toArray, List.getElem?_cons_zero, List.getElem?_cons_succ, List.setIfInBounds_toArray, List.set_cons_zero, List.set_cons_succ] at c0 c1 c2 c3 c4 c5 c6 c7 c8 c9 c10; have S9 := ((((S8.set hp 1 (.int .i64 m1)).set hp 2 (.int .i64 m2)).set hp 3 (.int .i64 m3)).set hp 4 (.int .i64 m4)))))
  simp only [List.setIfInBounds_toArray, List.set_cons_zero, List.set_cons_succ] at S9
  generalize ((((w8.setCell ⟨w2.heap.size, 1, none⟩ (.int .i64 m1)).setCell ⟨w2.heap.size, 2, none⟩ (.int .i64 m2)).setCell ⟨w2.heap.size, 3, none⟩ (.int .i64 m3)).setCell ⟨w2.heap.size, 4, none⟩ (.int .i64 m4)) = X at S9 ⊢
  have S10 : RP q w p bs w1.heap.size b9 n (k + 2 + 2 + 1 + 1 + 2 * n) w2.heap.size #[.int .i64 g, .int .i64 m1, .int .i64 m2, .int .i64 m3, .int .i64 m4, .bool false, .int .i64 a, .int .i64 b, .bool tu, .int .i64 0, .int .i64 0] X.drew := S9.below ((Below.refl _ _).drew)
  have HLD := load_blk (P := Try.prog) S10.kp Try.underlying36 rfl prSize
  have HKR := S10.rq.kr
  have hends : endP f k = (k + 2 + 2 + 1 + 1 + 2 * n) := by unfold endP; rw [hwA, hn] <;> omega
  clear c0 f0 c1 f1 c2 f2 c3 f3 c4 f4 c5 f5 c6 f6 c7 f7 c8 f8 c9 f9 c10 f10 kf0 S1 S2 S3 S4 S5 S6 S7 S8 S9
  refine wp_region_chain (fun W' => (Instr.loadAt 36 (.pointer (some ⟨w2.heap.size, 0, none⟩))).run Try.prog W' = .ok (.agg #[.int .i64 g, .int .i64 m1, .int .i64 m2, .int .i64 m3, .int .i64 m4, .bool false, .int .i64 a, .int .i64 b, .bool tu, .int .i64 0, .int .i64 0]) W') [(0, false), (1, false), (2, false), (3, false), (4, true), (5, false), (6, false), (7, true), (8, false)] (by kernel_rfl) (by kernel_rfl) HLD ?_
  repeat (first
    | (refine ChainL.skip (o := ?_) ?_ ?_ ?_; rotate_left; (focus (first | (simp only [List.getElem?_toArray, List.getElem?_cons_succ, List.getElem?_cons_zero]; with_reducible rfl) | (simp only [List.getElem?_toArray, List.getElem?_cons_zero]; with_reducible rfl))); (focus rfl); simp only [Act.put, List.setIfInBounds_toArray, List.set_cons_zero, List.set_cons_succ])
    | (refine ChainL.val (o := ?_) (v := ?_) ?_ ?_ ?_ ?_ ?_; rotate_left 2; (focus (first | (simp only [List.getElem?_toArray, List.getElem?_cons_succ, List.getElem?_cons_zero]; with_reducible rfl) | (simp only [List.getElem?_toArray, List.getElem?_cons_zero]; with_reducible rfl))); (focus (intro _ _ h; cases h)); (focus rfl); (focus (intro w' hI; skip; first | (have H := fun ρ o x => @exec_load _ ρ o _ _ x _ _ hI; refine H _ _ ?_ ?_ ?_; rotate_left; (focus rfl); (focus rfl)) | (go_simp <;> with_reducible rfl))); simp only [Act.put, List.setIfInBounds_toArray, List.set_cons_zero, List.set_cons_succ]))
  refine ChainL.call (o := ?_) (f := ?_) (args := ?_) ?_ ?_ ?_ ?_
  rotate_left 3
  (focus (simp only [List.getElem?_toArray, List.getElem?_cons_succ, List.getElem?_cons_zero]; with_reducible rfl))
  (focus rfl)
  (focus (go_simp; (constructor <;> with_reducible rfl)))
  refine (rs_doneC p bs (k + 2 + 2 + 1 + 1 + 2 * n) _ S10.rq.rs).mono ?_
  rintro e W2 ⟨zz, rfl, hzz, rfl⟩
  refine ⟨_, rfl, HLD, ?_⟩
  simp only [Act.put, List.setIfInBounds_toArray, List.set_cons_zero, List.set_cons_succ]
  repeat (first
    | (refine ChainL.skip (o := ?_) ?_ ?_ ?_; rotate_left; (focus (first | (simp only [List.getElem?_toArray, List.getElem?_cons_succ, List.getElem?_cons_zero]; with_reducible rfl) | (simp only [List.getElem?_toArray, List.getElem?_cons_zero]; with_reducible rfl))); (focus rfl); simp only [Act.put, List.setIfInBounds_toArray, List.set_cons_zero, List.set_cons_succ])
    | (refine ChainL.val (o := ?_) (v := ?_) ?_ ?_ ?_ ?_ ?_; rotate_left 2; (focus (first | (simp only [List.getElem?_toArray, List.getElem?_cons_succ, List.getElem?_cons_zero]; with_reducible rfl) | (simp only [List.getElem?_toArray, List.getElem?_cons_zero]; with_reducible rfl))); (focus (intro _ _ h; cases h)); (focus rfl); (focus (intro w' hI; skip; first | (have H := fun ρ o x => @exec_load _ ρ o _ _ x _ _ hI; refine H _ _ ?_ ?_ ?_; rotate_left; (focus rfl); (focus rfl)) | (go_simp <;> with_reducible rfl))); simp only [Act.put, List.setIfInBounds_toArray, List.set_cons_zero, List.set_cons_succ]))
  refine ChainL.store (o := ?_) (w1 := X.drew.setRow w.heap.size #[.int .i64 g, .int .i64 m1, .int .i64 m2, .int .i64 m3, .int .i64 m4, .bool false, .int .i64 a, .int .i64 b, .bool tu, .int .i64 0, .int .i64 0]) ?_ ?_ ?_ ?_ ?_
  rotate_left 1
  (focus (simp only [List.getElem?_toArray, List.getElem?_cons_succ, List.getElem?_cons_zero]; with_reducible rfl))
  (focus rfl)
  (focus (refine exec_store_row 36 _ _ (by rfl) w.heap.size #[.int .i64 g, .int .i64 m1, .int .i64 m2, .int .i64 m3, .int .i64 m4, .bool false, .int .i64 a, .int .i64 b, .bool tu, .int .i64 0, .int .i64 0] (by rfl) (by rfl) 36 #[.int .i64 0, .int .i64 0, .int .i64 0, .int .i64 0, .int .i64 0, .bool false, .int .i64 0, .int .i64 0, .bool false, .int .i64 0, .int .i64 0] HKR prSize rfl (by simp [Value.oneCell'])))
  (focus (exact load_blk (P := Try.prog) (S10.kp.only (only_row (Only.refl _ [w.heap.size]) (.inl (by simp)) #[.int .i64 g, .int .i64 m1, .int .i64 m2, .int .i64 m3, .int .i64 m4, .bool false, .int .i64 a, .int .i64 b, .bool tu, .int .i64 0, .int .i64 0]) (by have := S10.hi; have := S10.rq.lo; simp; omega)) Try.underlying36 rfl prSize))
  simp only [Act.put, List.setIfInBounds_toArray, List.set_cons_zero, List.set_cons_succ]
  repeat (first
    | (refine ChainL.skip (o := ?_) ?_ ?_ ?_; rotate_left; (focus (first | (simp only [List.getElem?_toArray, List.getElem?_cons_succ, List.getElem?_cons_zero]; with_reducible rfl) | (simp only [List.getElem?_toArray, List.getElem?_cons_zero]; with_reducible rfl))); (focus rfl); simp only [Act.put, List.setIfInBounds_toArray, List.set_cons_zero, List.set_cons_succ])
    | (refine ChainL.val (o := ?_) (v := ?_) ?_ ?_ ?_ ?_ ?_; rotate_left 2; (focus (first | (simp only [List.getElem?_toArray, List.getElem?_cons_succ, List.getElem?_cons_zero]; with_reducible rfl) | (simp only [List.getElem?_toArray, List.getElem?_cons_zero]; with_reducible rfl))); (focus (intro _ _ h; cases h)); (focus rfl); (focus (intro w' hI; skip; first | (have H := fun ρ o x => @exec_load _ ρ o _ _ x _ _ hI; refine H _ _ ?_ ?_ ?_; rotate_left; (focus rfl); (focus rfl)) | (go_simp <;> with_reducible rfl))); simp only [Act.put, List.setIfInBounds_toArray, List.set_cons_zero, List.set_cons_succ]))
  refine ChainL.nil ?_
  go_wp2
  rw [hends]
  have oR : Only X.drew (X.drew.setRow w.heap.size #[.int .i64 g, .int .i64 m1, .int .i64 m2, .int .i64 m3, .int .i64 m4, .bool false, .int .i64 a, .int .i64 b, .bool tu, .int .i64 0, .int .i64 0]) [w.heap.size] := only_row (Only.refl _ _) (.inl (by simp)) _
  refine bodyPost_ret (results_row_tmp Try.results21 _ _ w.heap.size 36 #[.int .i64 g, .int .i64 m1, .int .i64 m2, .int .i64 m3, .int .i64 m4, .bool false, .int .i64 a, .int .i64 b, .bool tu, .int .i64 0, .int .i64 0] (0, 0) _ (.bool (decide ((k + 2 + 2 + 1 + 1 + 2 * n) ≤ bs.length))) (by rfl) (by rfl) (show Blk _ _ _ _ from blk_row HKR _) Try.underlying36 rfl prSize) rfl ⟨rfl, ?_, ?_⟩
  · exact S10.rq.rs.only oR (by simp; omega) (fun b hb hqb => by simp at hb; subst hb; have := hq _ hqb; omega)
  · exact S10.rq.only.trans oR (fun b hb => .inr (by simp at hb; omega))

end Go.Proofs.Ytekailhghjideaa

namespace Go.Proofs.Ytekailhghjideaa
open Go Go.RowKit
set_option linter.unusedVariables false
set_option linter.unusedSimpArgs false
variable {q : Nat → Prop}

set_option maxRecDepth 100000 in
set_option maxHeartbeats 4000000 in
theorem readPart_2n (p : Nat) (bs : List Value) (k f n : Nat) (w : World) (h : RS q w p bs (k + 2)) (hq : ∀ b, q b → b < w.heap.size) (hp : p < w.heap.size) (hL : bs.length ≤ 4611686018427387904) (hf : f < 65536) (hn : matN f = n) (hk : (frm f).isSome = false)
    (g a b m1 m2 m3 m4 : Int) (tu : Bool) (hg : g = rdk bs 1 (k + 2)) (ha : a = valA bs f (k + 4)) (hb : b = valA bs f (k + 4 + widA f)) (hmm : matL (nums2 bs (k + 4 + 2 * widA f) n) = (m1, m2, m3, m4)) (htu : tu = (bt f 11 && !bt f 12))
    (e3 : bits .and .i64 (f : Int) 3 = 2) (hb0 : bt f 0 = false) (hb1 : bt f 1 = true) :
    Calls Try.prog 21 #[.pointer (some ⟨p, 0, none⟩), .int .i64 f] w fun e w' => e = .returned (.tuple #[.agg #[.int .i64 g, .int .i64 m1, .int .i64 m2, .int .i64 m3, .int .i64 m4, .bool false, .int .i64 a, .int .i64 b, .bool tu, .int .i64 0, .int .i64 0], .bool false]) ∧ RS q w' p bs (endP f k) ∧ Only w w' [p] := by
  have e2 : bits .and .i64 (f : Int) 2 = 2 := by rw [bits_2 f hf, hb1]; rfl
  have hwA : widA f = 1 := by unfold widA; rw [hb0]; rfl
  have e6 := bits_6144 f hf tu htu
  have hn4 : n = 0 ∨ n = 1 ∨ n = 2 ∨ n = 4 := hn ▸ matN_cases f
  have hle : n ≤ 4 := by omega
  rw [hwA] at hb hmm
  rw [show k + 4 + 2 * 1 = k + 2 + 2 + 1 + 1 by omega] at hmm
  have CF := fun W => formOf_any f hf W
  simp only [hn, hk] at CF
  have CG := fun W (r : RS q W p bs (k + 2)) => rsU16 p bs (k + 2) W r hL
  have CT := fun W (r : RS q W p bs (k + 2 + 2 + 1 + 1)) (hl : w.heap.size ≤ W.heap.size) => take_any p bs (k + 2 + 2 + 1 + 1) n W r (fun b hb => Nat.lt_of_lt_of_le (hq b hb) hl) hL hle (Nat.lt_of_lt_of_le hp hl)
  have CM := fun A c W (l : Lists W W.heap.size A (intCells (nums2 bs (k + 2 + 2 + 1 + 1) n))) => matrixOf_any (nums2 bs (k + 2 + 2 + 1 + 1) n) A c W.heap.size W (Nat.le_refl _) l (by rw [nums2, List.length_map, List.length_range]; exact hn4)
  rw [hmm] at CM
  simp only [mtV] at CM
  simp only [show (nums2 bs (k + 2 + 2 + 1 + 1) n).length = n by rw [nums2, List.length_map, List.length_range]] at CM
  rw [show ((rsn bs 2 (k + 2) (rd2 bs (k + 2)) : Nat) : Int) = g from hg.symm] at CG
  have CN1 := fun W ab (K : Blk W ab 42 #[.pointer (some ⟨p, 0, none⟩)]) (r : RS q W p bs (k + 2 + 2)) => argument1_any p bs (k + 2 + 2) ab W K r hL
  have CN2 := fun W ab (K : Blk W ab 42 #[.pointer (some ⟨p, 0, none⟩)]) (r : RS q W p bs (k + 2 + 2 + 1)) => argument1_any p bs (k + 2 + 2 + 1) ab W K r hL
  have ha' : s8 (rsn bs 1 (k + 2 + 2) (byteAt bs (k + 2 + 2))) = a := by rw [ha]; unfold valA; rw [hb0, hb1]; rfl
  have hb' : s8 (rsn bs 1 (k + 2 + 2 + 1) (byteAt bs (k + 2 + 2 + 1))) = b := by rw [hb]; unfold valA; rw [hb0, hb1]; rfl
  rw [ha'] at CN1
  rw [hb'] at CN2
  clear ha' hb' hg ha hb hmm htu
  go_enter Try.func21, Try.ntmps21
  go_wp2_with (first | (go_at_call 45; ((with_reducible refine (CF _).mono ?_); rintro e w1 ⟨b9, rfl, q1⟩; have S1 := RQ.start b9 n h hp hq q1)) | (refine wpList_store_row rfl 75 (.tmp 6) (.tmp 13) (by with_reducible rfl) w1.heap.size #[.int .i64 b9, .int .i64 n] (by rfl) (by rfl) 75 #[.int .i64 0, .int .i64 0] (by exact Blk.new _ _ _) (by kernel_rfl) rfl (by simp [Value.oneCell']) ?_; rw [World.setRow_alloc_new]) | (go_at_call 20; ((with_reducible refine (CG _ S1.rs).mono ?_); rintro e w2 ⟨rfl, r2, o2⟩; have S2 := S1.read hp r2 o2; have K3 := Blk.new (w2.alloc (.cells #[.int .i64 g, .int .i64 0, .int .i64 0, .int .i64 0, .int .i64 0, .bool false, .int .i64 0, .int .i64 0, .bool false, .int .i64 0, .int .i64 0] 36)) 42 #[.pointer (some ⟨p, 0, none⟩)]; rw [World.size_alloc] at K3; have hw2 := S2.size; have S3 := (S2.part #[.int .i64 g, .int .i64 0, .int .i64 0, .int .i64 0, .int .i64 0, .bool false, .int .i64 0, .int .i64 0, .bool false, .int .i64 0, .int .i64 0]).al (.cells #[.pointer (some ⟨p, 0, none⟩)] 42))) | (refine wpList_build_to rfl 36 _ (by with_reducible rfl) [(0, .int .i64 g)] (by rfl) #[.int .i64 g, .int .i64 0, .int .i64 0, .int .i64 0, .int .i64 0, .bool false, .int .i64 0, .int .i64 0, .bool false, .int .i64 0, .int .i64 0] (prBuilt g) ?_) | (refine wpList_store_row rfl 36 (.tmp 8) (.tmp 17) (by with_reducible rfl) w2.heap.size #[.int .i64 g, .int .i64 0, .int .i64 0, .int .i64 0, .int .i64 0, .bool false, .int .i64 0, .int .i64 0, .bool false, .int .i64 0, .int .i64 0] (by rfl) (by rfl) 36 #[.int .i64 0, .int .i64 0, .int .i64 0, .int .i64 0, .int .i64 0, .bool false, .int .i64 0, .int .i64 0, .bool false, .int .i64 0, .int .i64 0] (by exact Blk.new _ _ _) prSize rfl (by simp [Value.oneCell']) ?_; rw [World.setRow_alloc_new]) | (go_at_call 46; ((with_reducible refine (argument_2 p f _ e3).mono ?_); rintro e w9 ⟨rfl, rfl⟩)) | (go_at_call 72; ((with_reducible refine (CN1 _ (w2.heap.size + 1) K3 S3.rq.rs).mono ?_); rintro e w4 ⟨rfl, r4, o4⟩; have S4 := S3.read hp r4 o4; have K4 := K3.only o4 (by simp; omega))) | (go_at_call 72; ((with_reducible refine (CN2 _ (w2.heap.size + 1) K4 S4.rq.rs).mono ?_); rintro e w5 ⟨rfl, r5, o5⟩; have S5 := S4.read hp r5 o5; have K5 := K4.only o5 (by simp; omega); have c0 := S5.kp.cell 0; have f0 := S5.kp.frozen 0; have c1 := S5.kp.cell 1; have f1 := S5.kp.frozen 1; have c2 := S5.kp.cell 2; have f2 := S5.kp.frozen 2; have c3 := S5.kp.cell 3; have f3 := S5.kp.frozen 3; have c4 := S5.kp.cell 4; have f4 := S5.kp.frozen 4; have c5 := S5.kp.cell 5; have f5 := S5.kp.frozen 5; have c6 := S5.kp.cell 6; have f6 := S5.kp.frozen 6; have c7 := S5.kp.cell 7; have f7 := S5.kp.frozen 7; have c8 := S5.kp.cell 8; have f8 := S5.kp.frozen 8; have c9 := S5.kp.cell 9; have f9 := S5.kp.frozen 9; have c10 := S5.kp.cell 10; have f10 := S5.kp.frozen 10; simp only [List.getElem?_toArray, List.getElem?_cons_zero, List.getElem?_cons_succ, List.setIfInBounds_toArray, List.set_cons_zero, List.set_cons_succ] at c0 c1 c2 c3 c4 c5 c6 c7 c8 c9 c10; have kf0 := S5.rq.kf.cell 1; simp only [List.getElem?_toArray, List.getElem?_cons_zero, List.getElem?_cons_succ] at kf0; have S6 := (((S5.set hp 6 (.int .i64 a)).set hp 7 (.int .i64 b)).set hp 8 (.bool tu)))) | (go_at_call 48; ((with_reducible refine (CT _ S6.rq.rs S6.rq.size).mono ?_); rintro e w7 ⟨v7, rfl, own7, r7, o7⟩; have S7 := S6.read hp r7 o7; obtain ⟨A7, c7, rfl, l7, _⟩ := own_lists own7)) | (go_at_call 47; ((with_reducible refine (CM A7 c7 _ l7).mono ?_); rintro e w8 ⟨rfl, b8⟩; have S8 := S7.below b8; have c0 := S8.kp.cell 0; have f0 := S8.kp.frozen 0; have c1 := S8.kp.cell 1; have f1 := S8.kp.frozen 1; have c2 := S8.kp.cell 2; have f2 := S8.kp.frozen 2; have c3 := S8.kp.cell 3; have f3 := S8.kp.frozen 3; have c4 := S8.kp.cell 4; have f4 := S8.kp.frozen 4; have c5 := S8.kp.cell 5; have f5 := S8.kp.frozen 5; have c6 := S8.kp.cell 6; have f6 := S8.kp.frozen 6; have c7 := S8.kp.cell 7; have f7 := S8.kp.frozen 7; have c8 := S8.kp.cell 8; have f8 := S8.kp.frozen 8; have c9 := S8.kp.cell 9; have f9 := S8.kp.frozen 9; have c10 := S8.kp.cell 10; have f10 := S8.kp.frozen 10; simp only [List.getElem?_toArray, List.getElem?_cons_zero, List.getElem?_cons_succ, List.setIfInBounds_toArray, List.set_cons_zero, List.set_cons_succ] at c0 c1 c2 c3 c4 c5 c6 c7 c8 c9 c10; have S9 := ((((S8.set hp 1 (.int .i64 m1)).set hp 2 (.int .i64 m2)).set hp 3 (.int .i64 m3)).set hp 4 (.int .i64 m4)))))
  simp only [List.setIfInBounds_toArray, List.set_cons_zero, List.set_cons_succ] at S9
  generalize ((((w8.setCell ⟨w2.heap.size, 1, none⟩ (.int .i64 m1)).setCell ⟨w2.heap.size, 2, none⟩ (.int .i64 m2)).setCell ⟨w2.heap.size, 3, none⟩ (.int .i64 m3)).setCell ⟨w2.heap.size, 4, none⟩ (.int .i64 m4)) = X at S9 ⊢
  have S10 : RP q w p bs w1.heap.size b9 n (k + 2 + 2 + 1 + 1 + 2 * n) w2.heap.size #[.int .i64 g, .int .i64 m1, .int .i64 m2, .int .i64 m3, .int .i64 m4, .bool false, .int .i64 a, .int .i64 b, .bool tu, .int .i64 0, .int .i64 0] X.drew := S9.below ((Below.refl _ _).drew)
  have HLD := load_blk (P := Try.prog) S10.kp Try.underlying36 rfl prSize
  have HKR := S10.rq.kr
  have hends : endP f k = (k + 2 + 2 + 1 + 1 + 2 * n) := by unfold endP; rw [hwA, hn] <;> omega
  clear c0 f0 c1 f1 c2 f2 c3 f3 c4 f4 c5 f5 c6 f6 c7 f7 c8 f8 c9 f9 c10 f10 kf0 S1 S2 S3 S4 S5 S6 S7 S8 S9
  refine wp_region_chain (fun W' => (Instr.loadAt 36 (.pointer (some ⟨w2.heap.size, 0, none⟩))).run Try.prog W' = .ok (.agg #[.int .i64 g, .int .i64 m1, .int .i64 m2, .int .i64 m3, .int .i64 m4, .bool false, .int .i64 a, .int .i64 b, .bool tu, .int .i64 0, .int .i64 0]) W') [(0, false), (1, false), (2, false), (3, false), (4, false), (5, false), (6, false), (7, true), (8, false)] (by kernel_rfl) (by kernel_rfl) HLD ?_
  repeat (first
    | (refine ChainL.skip (o := ?_) ?_ ?_ ?_; rotate_left; (focus (first | (simp only [List.getElem?_toArray, List.getElem?_cons_succ, List.getElem?_cons_zero]; with_reducible rfl) | (simp only [List.getElem?_toArray, List.getElem?_cons_zero]; with_reducible rfl))); (focus rfl); simp only [Act.put, List.setIfInBounds_toArray, List.set_cons_zero, List.set_cons_succ])
    | (refine ChainL.val (o := ?_) (v := ?_) ?_ ?_ ?_ ?_ ?_; rotate_left 2; (focus (first | (simp only [List.getElem?_toArray, List.getElem?_cons_succ, List.getElem?_cons_zero]; with_reducible rfl) | (simp only [List.getElem?_toArray, List.getElem?_cons_zero]; with_reducible rfl))); (focus (intro _ _ h; cases h)); (focus rfl); (focus (intro w' hI; skip; first | (have H := fun ρ o x => @exec_load _ ρ o _ _ x _ _ hI; refine H _ _ ?_ ?_ ?_; rotate_left; (focus rfl); (focus rfl)) | (go_simp <;> with_reducible rfl))); simp only [Act.put, List.setIfInBounds_toArray, List.set_cons_zero, List.set_cons_succ]))
  refine ChainL.store (o := ?_) (w1 := X.drew.setRow w.heap.size #[.int .i64 g, .int .i64 m1, .int .i64 m2, .int .i64 m3, .int .i64 m4, .bool false, .int .i64 a, .int .i64 b, .bool tu, .int .i64 0, .int .i64 0]) ?_ ?_ ?_ ?_ ?_
  rotate_left 1
  (focus (simp only [List.getElem?_toArray, List.getElem?_cons_succ, List.getElem?_cons_zero]; with_reducible rfl))
  (focus rfl)
  (focus (refine exec_store_row 36 _ _ (by rfl) w.heap.size #[.int .i64 g, .int .i64 m1, .int .i64 m2, .int .i64 m3, .int .i64 m4, .bool false, .int .i64 a, .int .i64 b, .bool tu, .int .i64 0, .int .i64 0] (by rfl) (by rfl) 36 #[.int .i64 0, .int .i64 0, .int .i64 0, .int .i64 0, .int .i64 0, .bool false, .int .i64 0, .int .i64 0, .bool false, .int .i64 0, .int .i64 0] HKR prSize rfl (by simp [Value.oneCell'])))
  (focus (exact load_blk (P := Try.prog) (S10.kp.only (only_row (Only.refl _ [w.heap.size]) (.inl (by simp)) #[.int .i64 g, .int .i64 m1, .int .i64 m2, .int .i64 m3, .int .i64 m4, .bool false, .int .i64 a, .int .i64 b, .bool tu, .int .i64 0, .int .i64 0]) (by have := S10.hi; have := S10.rq.lo; simp; omega)) Try.underlying36 rfl prSize))
  simp only [Act.put, List.setIfInBounds_toArray, List.set_cons_zero, List.set_cons_succ]
  repeat (first
    | (refine ChainL.skip (o := ?_) ?_ ?_ ?_; rotate_left; (focus (first | (simp only [List.getElem?_toArray, List.getElem?_cons_succ, List.getElem?_cons_zero]; with_reducible rfl) | (simp only [List.getElem?_toArray, List.getElem?_cons_zero]; with_reducible rfl))); (focus rfl); simp only [Act.put, List.setIfInBounds_toArray, List.set_cons_zero, List.set_cons_succ])
    | (refine ChainL.val (o := ?_) (v := ?_) ?_ ?_ ?_ ?_ ?_; rotate_left 2; (focus (first | (simp only [List.getElem?_toArray, List.getElem?_cons_succ, List.getElem?_cons_zero]; with_reducible rfl) | (simp only [List.getElem?_toArray, List.getElem?_cons_zero]; with_reducible rfl))); (focus (intro _ _ h; cases h)); (focus rfl); (focus (intro w' hI; skip; first | (have H := fun ρ o x => @exec_load _ ρ o _ _ x _ _ hI; refine H _ _ ?_ ?_ ?_; rotate_left; (focus rfl); (focus rfl)) | (go_simp <;> with_reducible rfl))); simp only [Act.put, List.setIfInBounds_toArray, List.set_cons_zero, List.set_cons_succ]))
  refine ChainL.nil ?_
  go_wp2
  rw [hends]
  have oR : Only X.drew (X.drew.setRow w.heap.size #[.int .i64 g, .int .i64 m1, .int .i64 m2, .int .i64 m3, .int .i64 m4, .bool false, .int .i64 a, .int .i64 b, .bool tu, .int .i64 0, .int .i64 0]) [w.heap.size] := only_row (Only.refl _ _) (.inl (by simp)) _
  refine bodyPost_ret (results_row_tmp Try.results21 _ _ w.heap.size 36 #[.int .i64 g, .int .i64 m1, .int .i64 m2, .int .i64 m3, .int .i64 m4, .bool false, .int .i64 a, .int .i64 b, .bool tu, .int .i64 0, .int .i64 0] (0, 0) _ (.bool false) (by rfl) (by rfl) (show Blk _ _ _ _ from blk_row HKR _) Try.underlying36 rfl prSize) rfl ⟨rfl, ?_, ?_⟩
  · exact S10.rq.rs.only oR (by simp; omega) (fun b hb hqb => by simp at hb; subst hb; have := hq _ hqb; omega)
  · exact S10.rq.only.trans oR (fun b hb => .inr (by simp at hb; omega))

end Go.Proofs.Ytekailhghjideaa

namespace Go.Proofs.Ytekailhghjideaa
open Go Go.RowKit
set_option linter.unusedVariables false
set_option linter.unusedSimpArgs false
variable {q : Nat → Prop}

set_option maxRecDepth 100000 in
set_option maxHeartbeats 4000000 in
theorem readPart_3y (p : Nat) (bs : List Value) (k f n : Nat) (w : World) (h : RS q w p bs (k + 2)) (hq : ∀ b, q b → b < w.heap.size) (hp : p < w.heap.size) (hL : bs.length ≤ 4611686018427387904) (hf : f < 65536) (hn : matN f = n) (hk : (frm f).isSome = true)
    (g a b m1 m2 m3 m4 : Int) (tu : Bool) (hg : g = rdk bs 1 (k + 2)) (ha : a = valA bs f (k + 4)) (hb : b = valA bs f (k + 4 + widA f)) (hmm : matL (nums2 bs (k + 4 + 2 * widA f) n) = (m1, m2, m3, m4)) (htu : tu = (bt f 11 && !bt f 12))
    (e3 : bits .and .i64 (f : Int) 3 = 3) (hb0 : bt f 0 = true) (hb1 : bt f 1 = true) :
    Calls Try.prog 21 #[.pointer (some ⟨p, 0, none⟩), .int .i64 f] w fun e w' => e = .returned (.tuple #[.agg #[.int .i64 g, .int .i64 m1, .int .i64 m2, .int .i64 m3, .int .i64 m4, .bool false, .int .i64 a, .int .i64 b, .bool tu, .int .i64 0, .int .i64 0], .bool (decide (endP f k ≤ bs.length))]) ∧ RS q w' p bs (endP f k) ∧ Only w w' [p] := by
  have e2 : bits .and .i64 (f : Int) 2 = 2 := by rw [bits_2 f hf, hb1]; rfl
  have hwA : widA f = 2 := by unfold widA; rw [hb0]; rfl
  have e6 := bits_6144 f hf tu htu
  have hn4 : n = 0 ∨ n = 1 ∨ n = 2 ∨ n = 4 := hn ▸ matN_cases f
  have hle : n ≤ 4 := by omega
  rw [hwA] at hb hmm
  rw [show k + 4 + 2 * 2 = k + 2 + 2 + 2 + 2 by omega] at hmm
  have CF := fun W => formOf_any f hf W
  simp only [hn, hk] at CF
  have CG := fun W (r : RS q W p bs (k + 2)) => rsU16 p bs (k + 2) W r hL
  have CT := fun W (r : RS q W p bs (k + 2 + 2 + 2 + 2)) (hl : w.heap.size ≤ W.heap.size) => take_any p bs (k + 2 + 2 + 2 + 2) n W r (fun b hb => Nat.lt_of_lt_of_le (hq b hb) hl) hL hle (Nat.lt_of_lt_of_le hp hl)
  have CM := fun A c W (l : Lists W W.heap.size A (intCells (nums2 bs (k + 2 + 2 + 2 + 2) n))) => matrixOf_any (nums2 bs (k + 2 + 2 + 2 + 2) n) A c W.heap.size W (Nat.le_refl _) l (by rw [nums2, List.length_map, List.length_range]; exact hn4)
  rw [hmm] at CM
  simp only [mtV] at CM
  simp only [show (nums2 bs (k + 2 + 2 + 2 + 2) n).length = n by rw [nums2, List.length_map, List.length_range]] at CM
  rw [show ((rsn bs 2 (k + 2) (rd2 bs (k + 2)) : Nat) : Int) = g from hg.symm] at CG
  have CN1 := fun W (r : RS q W p bs (k + 2 + 2)) => rsI16 p bs (k + 2 + 2) W r hL
  have CN2 := fun W (r : RS q W p bs (k + 2 + 2 + 2)) => rsI16 p bs (k + 2 + 2 + 2) W r hL
  have ha' : s16 (rsn bs 2 (k + 2 + 2) (rd2 bs (k + 2 + 2))) = a := by rw [ha]; unfold valA; rw [hb0, hb1]; rfl
  have hb' : s16 (rsn bs 2 (k + 2 + 2 + 2) (rd2 bs (k + 2 + 2 + 2))) = b := by rw [hb]; unfold valA; rw [hb0, hb1]; rfl
  rw [ha'] at CN1
  rw [hb'] at CN2
  clear ha' hb' hg ha hb hmm htu
  go_enter Try.func21, Try.ntmps21
  go_wp2_with (first | (go_at_call 45; ((with_reducible refine (CF _).mono ?_); rintro e w1 ⟨b9, rfl, q1⟩; have S1 := RQ.start b9 n h hp hq q1)) | (refine wpList_store_row rfl 75 (.tmp 6) (.tmp 13) (by with_reducible rfl) w1.heap.size #[.int .i64 b9, .int .i64 n] (by rfl) (by rfl) 75 #[.int .i64 0, .int .i64 0] (by exact Blk.new _ _ _) (by kernel_rfl) rfl (by simp [Value.oneCell']) ?_; rw [World.setRow_alloc_new]) | (go_at_call 20; ((with_reducible refine (CG _ S1.rs).mono ?_); rintro e w2 ⟨rfl, r2, o2⟩; have S2 := S1.read hp r2 o2; have S3 := (S2.part #[.int .i64 g, .int .i64 0, .int .i64 0, .int .i64 0, .int .i64 0, .bool false, .int .i64 0, .int .i64 0, .bool false, .int .i64 0, .int .i64 0]).al (.cells #[.pointer (some ⟨p, 0, none⟩)] 42))) | (refine wpList_build_to rfl 36 _ (by with_reducible rfl) [(0, .int .i64 g)] (by rfl) #[.int .i64 g, .int .i64 0, .int .i64 0, .int .i64 0, .int .i64 0, .bool false, .int .i64 0, .int .i64 0, .bool false, .int .i64 0, .int .i64 0] (prBuilt g) ?_) | (refine wpList_store_row rfl 36 (.tmp 8) (.tmp 17) (by with_reducible rfl) w2.heap.size #[.int .i64 g, .int .i64 0, .int .i64 0, .int .i64 0, .int .i64 0, .bool false, .int .i64 0, .int .i64 0, .bool false, .int .i64 0, .int .i64 0] (by rfl) (by rfl) 36 #[.int .i64 0, .int .i64 0, .int .i64 0, .int .i64 0, .int .i64 0, .bool false, .int .i64 0, .int .i64 0, .bool false, .int .i64 0, .int .i64 0] (by exact Blk.new _ _ _) prSize rfl (by simp [Value.oneCell']) ?_; rw [World.setRow_alloc_new]) | (go_at_call 46; ((with_reducible refine (argument_3 p f _ e3).mono ?_); rintro e w9 ⟨rfl, rfl⟩)) | (go_at_call 18; ((with_reducible refine (CN1 _ S3.rq.rs).mono ?_); rintro e w4 ⟨rfl, r4, o4⟩; have S4 := S3.read hp r4 o4)) | (go_at_call 18; ((with_reducible refine (CN2 _ S4.rq.rs).mono ?_); rintro e w5 ⟨rfl, r5, o5⟩; have S5 := S4.read hp r5 o5; have c0 := S5.kp.cell 0; have f0 := S5.kp.frozen 0; have c1 := S5.kp.cell 1; have f1 := S5.kp.frozen 1; have c2 := S5.kp.cell 2; have f2 := S5.kp.frozen 2; have c3 := S5.kp.cell 3; have f3 := S5.kp.frozen 3; have c4 := S5.kp.cell 4; have f4 := S5.kp.frozen 4; have c5 := S5.kp.cell 5; have f5 := S5.kp.frozen 5; have c6 := S5.kp.cell 6; have f6 := S5.kp.frozen 6; have c7 := S5.kp.cell 7; have f7 := S5.kp.frozen 7; have c8 := S5.kp.cell 8; have f8 := S5.kp.frozen 8; have c9 := S5.kp.cell 9; have f9 := S5.kp.frozen 9; have c10 := S5.kp.cell 10; have f10 := S5.kp.frozen 10; simp only [List.getElem?_toArray, List.getElem?_cons_zero, List.getElem?_cons_succ, List.setIfInBounds_toArray, List.set_cons_zero, List.set_cons_succ] at c0 c1 c2 c3 c4 c5 c6 c7 c8 c9 c10; have kf0 := S5.rq.kf.cell 1; simp only [List.getElem?_toArray, List.getElem?_cons_zero, List.getElem?_cons_succ] at kf0; have S6 := (((S5.set hp 6 (.int .i64 a)).set hp 7 (.int .i64 b)).set hp 8 (.bool tu)))) | (go_at_call 48; ((with_reducible refine (CT _ S6.rq.rs S6.rq.size).mono ?_); rintro e w7 ⟨v7, rfl, own7, r7, o7⟩; have S7 := S6.read hp r7 o7; obtain ⟨A7, c7, rfl, l7, _⟩ := own_lists own7)) | (go_at_call 47; ((with_reducible refine (CM A7 c7 _ l7).mono ?_); rintro e w8 ⟨rfl, b8⟩; have S8 := S7.below b8; have c0 := S8.kp.cell 0; have f0 := S8.kp.frozen 0; have c1 := S8.kp.cell 1; have f1 := S8.kp.frozen 1; have c2 := S8.kp.cell 2; have f2 := S8.kp.frozen 2; have c3 := S8.kp.cell 3; have f3 := S8.kp.frozen 3; have c4 := S8.kp.cell 4; have f4 := S8.kp.frozen 4; have c5 := S8.kp.cell 5; have f5 := S8.kp.frozen 5; have c6 := S8.kp.cell 6; have f6 := S8.kp.frozen 6; have c7 := S8.kp.cell 7; have f7 := S8.kp.frozen 7; have c8 := S8.kp.cell 8; have f8 := S8.kp.frozen 8; have c9 := S8.kp.cell 9; have f9 := S8.kp.frozen 9; have c10 := S8.kp.cell 10; have f10 := S8.kp.frozen 10; simp only [List.getElem?_toArray, List.getElem?_cons_zero, List.getElem?_cons_succ, List.setIfInBounds_toArray, List.set_cons_zero, List.set_cons_succ] at c0 c1 c2 c3 c4 c5 c6 c7 c8 c9 c10; have S9 := ((((S8.set hp 1 (.int .i64 m1)).set hp 2 (.int .i64 m2)).set hp 3 (.int .i64 m3)).set hp 4 (.int .i64 m4)))))
  simp only [List.setIfInBounds_toArray, List.set_cons_zero, List.set_cons_succ] at S9
  generalize ((((w8.setCell ⟨w2.heap.size, 1, none⟩ (.int .i64 m1)).setCell ⟨w2.heap.size, 2, none⟩ (.int .i64 m2)).setCell ⟨w2.heap.size, 3, none⟩ (.int .i64 m3)).setCell ⟨w2.heap.size, 4, none⟩ (.int .i64 m4)) = X at S9 ⊢
  have S10 : RP q w p bs w1.heap.size b9 n (k + 2 + 2 + 2 + 2 + 2 * n) w2.heap.size #[.int .i64 g, .int .i64 m1, .int .i64 m2, .int .i64 m3, .int .i64 m4, .bool false, .int .i64 a, .int .i64 b, .bool tu, .int .i64 0, .int .i64 0] X.drew := S9.below ((Below.refl _ _).drew)
  have HLD := load_blk (P := Try.prog) S10.kp Try.underlying36 rfl prSize
  have HKR := S10.rq.kr
  have hends : endP f k = (k + 2 + 2 + 2 + 2 + 2 * n) := by unfold endP; rw [hwA, hn] <;> omega
  clear c0 f0 c1 f1 c2 f2 c3 f3 c4 f4 c5 f5 c6 f6 c7 f7 c8 f8 c9 f9 c10 f10 kf0 S1 S2 S3 S4 S5 S6 S7 S8 S9
  refine wp_region_chain (fun W' => (Instr.loadAt 36 (.pointer (some ⟨w2.heap.size, 0, none⟩))).run Try.prog W' = .ok (.agg #[.int .i64 g, .int .i64 m1, .int .i64 m2, .int .i64 m3, .int .i64 m4, .bool false, .int .i64 a, .int .i64 b, .bool tu, .int .i64 0, .int .i64 0]) W') [(0, false), (1, false), (2, false), (3, false), (4, true), (5, false), (6, false), (7, true), (8, false)] (by kernel_rfl) (by kernel_rfl) HLD ?_
  repeat (first
    | (refine ChainL.skip (o := ?_) ?_ ?_ ?_; rotate_left; (focus (first | (simp only [List.getElem?_toArray, List.getElem?_cons_succ, List.getElem?_cons_zero]; with_reducible rfl) | (simp only [List.getElem?_toArray, List.getElem?_cons_zero]; with_reducible rfl))); (focus rfl); simp only [Act.put, List.setIfInBounds_toArray, List.set_cons_zero, List.set_cons_succ])
    | (refine ChainL.val (o := ?_) (v := ?_) ?_ ?_ ?_ ?_ ?_; rotate_left 2; (focus (first | (simp only [List.getElem?_toArray, List.getElem?_cons_succ, List.getElem?_cons_zero]; with_reducible rfl) | (simp only [List.getElem?_toArray, List.getElem?_cons_zero]; with_reducible rfl))); (focus (intro _ _ h; cases h)); (focus rfl); (focus (intro w' hI; skip; first | (have H := fun ρ o x => @exec_load _ ρ o _ _ x _ _ hI; refine H _ _ ?_ ?_ ?_; rotate_left; (focus rfl); (focus rfl)) | (go_simp <;> with_reducible rfl))); simp only [Act.put, List.setIfInBounds_toArray, List.set_cons_zero, List.set_cons_succ]))
  refine ChainL.call (o := ?_) (f := ?_) (args := ?_) ?_ ?_ ?_ ?_
  rotate_left 3
  (focus (simp only [List.getElem?_toArray, List.getElem?_cons_succ, List.getElem?_cons_zero]; with_reducible rfl))
  (focus rfl)
  (focus (go_simp; (constructor <;> with_reducible rfl)))
  refine (rs_doneC p bs (k + 2 + 2 + 2 + 2 + 2 * n) _ S10.rq.rs).mono ?_
  rintro e W2 ⟨zz, rfl, hzz, rfl⟩
  refine ⟨_, rfl, HLD, ?_⟩
  simp only [Act.put, List.setIfInBounds_toArray, List.set_cons_zero, List.set_cons_succ]
  repeat (first
    | (refine ChainL.skip (o := ?_) ?_ ?_ ?_; rotate_left; (focus (first | (simp only [List.getElem?_toArray, List.getElem?_cons_succ, List.getElem?_cons_zero]; with_reducible rfl) | (simp only [List.getElem?_toArray, List.getElem?_cons_zero]; with_reducible rfl))); (focus rfl); simp only [Act.put, List.setIfInBounds_toArray, List.set_cons_zero, List.set_cons_succ])
    | (refine ChainL.val (o := ?_) (v := ?_) ?_ ?_ ?_ ?_ ?_; rotate_left 2; (focus (first | (simp only [List.getElem?_toArray, List.getElem?_cons_succ, List.getElem?_cons_zero]; with_reducible rfl) | (simp only [List.getElem?_toArray, List.getElem?_cons_zero]; with_reducible rfl))); (focus (intro _ _ h; cases h)); (focus rfl); (focus (intro w' hI; skip; first | (have H := fun ρ o x => @exec_load _ ρ o _ _ x _ _ hI; refine H _ _ ?_ ?_ ?_; rotate_left; (focus rfl); (focus rfl)) | (go_simp <;> with_reducible rfl))); simp only [Act.put, List.setIfInBounds_toArray, List.set_cons_zero, List.set_cons_succ]))
  refine ChainL.store (o := ?_) (w1 := X.drew.setRow w.heap.size #[.int .i64 g, .int .i64 m1, .int .i64 m2, .int .i64 m3, .int .i64 m4, .bool false, .int .i64 a, .int .i64 b, .bool tu, .int .i64 0, .int .i64 0]) ?_ ?_ ?_ ?_ ?_
  rotate_left 1
  (focus (simp only [List.getElem?_toArray, List.getElem?_cons_succ, List.getElem?_cons_zero]; with_reducible rfl))
  (focus rfl)
  (focus (refine exec_store_row 36 _ _ (by rfl) w.heap.size #[.int .i64 g, .int .i64 m1, .int .i64 m2, .int .i64 m3, .int .i64 m4, .bool false, .int .i64 a, .int .i64 b, .bool tu, .int .i64 0, .int .i64 0] (by rfl) (by rfl) 36 #[.int .i64 0, .int .i64 0, .int .i64 0, .int .i64 0, .int .i64 0, .bool false, .int .i64 0, .int .i64 0, .bool false, .int .i64 0, .int .i64 0] HKR prSize rfl (by simp [Value.oneCell'])))
  (focus (exact load_blk (P := Try.prog) (S10.kp.only (only_row (Only.refl _ [w.heap.size]) (.inl (by simp)) #[.int .i64 g, .int .i64 m1, .int .i64 m2, .int .i64 m3, .int .i64 m4, .bool false, .int .i64 a, .int .i64 b, .bool tu, .int .i64 0, .int .i64 0]) (by have := S10.hi; have := S10.rq.lo; simp; omega)) Try.underlying36 rfl prSize))
  simp only [Act.put, List.setIfInBounds_toArray, List.set_cons_zero, List.set_cons_succ]
  repeat (first
    | (refine ChainL.skip (o := ?_) ?_ ?_ ?_; rotate_left; (focus (first | (simp only [List.getElem?_toArray, List.getElem?_cons_succ, List.getElem?_cons_zero]; with_reducible rfl) | (simp only [List.getElem?_toArray, List.getElem?_cons_zero]; with_reducible rfl))); (focus rfl); simp only [Act.put, List.setIfInBounds_toArray, List.set_cons_zero, List.set_cons_succ])
    | (refine ChainL.val (o := ?_) (v := ?_) ?_ ?_ ?_ ?_ ?_; rotate_left 2; (focus (first | (simp only [List.getElem?_toArray, List.getElem?_cons_succ, List.getElem?_cons_zero]; with_reducible rfl) | (simp only [List.getElem?_toArray, List.getElem?_cons_zero]; with_reducible rfl))); (focus (intro _ _ h; cases h)); (focus rfl); (focus (intro w' hI; skip; first | (have H := fun ρ o x => @exec_load _ ρ o _ _ x _ _ hI; refine H _ _ ?_ ?_ ?_; rotate_left; (focus rfl); (focus rfl)) | (go_simp <;> with_reducible rfl))); simp only [Act.put, List.setIfInBounds_toArray, List.set_cons_zero, List.set_cons_succ]))
  refine ChainL.nil ?_
  go_wp2
  rw [hends]
  have oR : Only X.drew (X.drew.setRow w.heap.size #[.int .i64 g, .int .i64 m1, .int .i64 m2, .int .i64 m3, .int .i64 m4, .bool false, .int .i64 a, .int .i64 b, .bool tu, .int .i64 0, .int .i64 0]) [w.heap.size] := only_row (Only.refl _ _) (.inl (by simp)) _
  refine bodyPost_ret (results_row_tmp Try.results21 _ _ w.heap.size 36 #[.int .i64 g, .int .i64 m1, .int .i64 m2, .int .i64 m3, .int .i64 m4, .bool false, .int .i64 a, .int .i64 b, .bool tu, .int .i64 0, .int .i64 0] (0, 0) _ (.bool (decide ((k + 2 + 2 + 2 + 2 + 2 * n) ≤ bs.length))) (by rfl) (by rfl) (show Blk _ _ _ _ from blk_row HKR _) Try.underlying36 rfl prSize) rfl ⟨rfl, ?_, ?_⟩
  · exact S10.rq.rs.only oR (by simp; omega) (fun b hb hqb => by simp at hb; subst hb; have := hq _ hqb; omega)
  · exact S10.rq.only.trans oR (fun b hb => .inr (by simp at hb; omega))

end Go.Proofs.Ytekailhghjideaa

namespace Go.Proofs.Ytekailhghjideaa
open Go Go.RowKit
set_option linter.unusedVariables false
set_option linter.unusedSimpArgs false
variable {q : Nat → Prop}

set_option maxRecDepth 100000 in
set_option maxHeartbeats 4000000 in
theorem readPart_3n (p : Nat) (bs : List Value) (k f n : Nat) (w : World) (h : RS q w p bs (k + 2)) (hq : ∀ b, q b → b < w.heap.size) (hp : p < w.heap.size) (hL : bs.length ≤ 4611686018427387904) (hf : f < 65536) (hn : matN f = n) (hk : (frm f).isSome = false)
    (g a b m1 m2 m3 m4 : Int) (tu : Bool) (hg : g = rdk bs 1 (k + 2)) (ha : a = valA bs f (k + 4)) (hb : b = valA bs f (k + 4 + widA f)) (hmm : matL (nums2 bs (k + 4 + 2 * widA f) n) = (m1, m2, m3, m4)) (htu : tu = (bt f 11 && !bt f 12))
    (e3 : bits .and .i64 (f : Int) 3 = 3) (hb0 : bt f 0 = true) (hb1 : bt f 1 = true) :
    Calls Try.prog 21 #[.pointer (some ⟨p, 0, none⟩), .int .i64 f] w fun e w' => e = .returned (.tuple #[.agg #[.int .i64 g, .int .i64 m1, .int .i64 m2, .int .i64 m3, .int .i64 m4, .bool false, .int .i64 a, .int .i64 b, .bool tu, .int .i64 0, .int .i64 0], .bool false]) ∧ RS q w' p bs (endP f k) ∧ Only w w' [p] := by
  have e2 : bits .and .i64 (f : Int) 2 = 2 := by rw [bits_2 f hf, hb1]; rfl
  have hwA : widA f = 2 := by unfold widA; rw [hb0]; rfl
  have e6 := bits_6144 f hf tu htu
  have hn4 : n = 0 ∨ n = 1 ∨ n = 2 ∨ n = 4 := hn ▸ matN_cases f
  have hle : n ≤ 4 := by omega
  rw [hwA] at hb hmm
  rw [show k + 4 + 2 * 2 = k + 2 + 2 + 2 + 2 by omega] at hmm
  have CF := fun W => formOf_any f hf W
  simp only [hn, hk] at CF
  have CG := fun W (r : RS q W p bs (k + 2)) => rsU16 p bs (k + 2) W r hL
  have CT := fun W (r : RS q W p bs (k + 2 + 2 + 2 + 2)) (hl : w.heap.size ≤ W.heap.size) => take_any p bs (k + 2 + 2 + 2 + 2) n W r (fun b hb => Nat.lt_of_lt_of_le (hq b hb) hl) hL hle (Nat.lt_of_lt_of_le hp hl)
  have CM := fun A c W (l : Lists W W.heap.size A (intCells (nums2 bs (k + 2 + 2 + 2 + 2) n))) => matrixOf_any (nums2 bs (k + 2 + 2 + 2 + 2) n) A c W.heap.size W (Nat.le_refl _) l (by rw [nums2, List.length_map, List.length_range]; exact hn4)
  rw [hmm] at CM
  simp only [mtV] at CM
  simp only [show (nums2 bs (k + 2 + 2 + 2 + 2) n).length = n by rw [nums2, List.length_map, List.length_range]] at CM
  rw [show ((rsn bs 2 (k + 2) (rd2 bs (k + 2)) : Nat) : Int) = g from hg.symm] at CG
  have CN1 := fun W (r : RS q W p bs (k + 2 + 2)) => rsI16 p bs (k + 2 + 2) W r hL
  have CN2 := fun W (r : RS q W p bs (k + 2 + 2 + 2)) => rsI16 p bs (k + 2 + 2 + 2) W r hL
  have ha' : s16 (rsn bs 2 (k + 2 + 2) (rd2 bs (k + 2 + 2))) = a := by rw [ha]; unfold valA; rw [hb0, hb1]; rfl
  have hb' : s16 (rsn bs 2 (k + 2 + 2 + 2) (rd2 bs (k + 2 + 2 + 2))) = b := by rw [hb]; unfold valA; rw [hb0, hb1]; rfl
  rw [ha'] at CN1
  rw [hb'] at CN2
  clear ha' hb' hg ha hb hmm htu
  go_enter Try.func21, Try.ntmps21
  go_wp2_with (first | (go_at_call 45; ((with_reducible refine (CF _).mono ?_); rintro e w1 ⟨b9, rfl, q1⟩; have S1 := RQ.start b9 n h hp hq q1)) | (refine wpList_store_row rfl 75 (.tmp 6) (.tmp 13) (by with_reducible rfl) w1.heap.size #[.int .i64 b9, .int .i64 n] (by rfl) (by rfl) 75 #[.int .i64 0, .int .i64 0] (by exact Blk.new _ _ _) (by kernel_rfl) rfl (by simp [Value.oneCell']) ?_; rw [World.setRow_alloc_new]) | (go_at_call 20; ((with_reducible refine (CG _ S1.rs).mono ?_); rintro e w2 ⟨rfl, r2, o2⟩; have S2 := S1.read hp r2 o2; have S3 := (S2.part #[.int .i64 g, .int .i64 0, .int .i64 0, .int .i64 0, .int .i64 0, .bool false, .int .i64 0, .int .i64 0, .bool false, .int .i64 0, .int .i64 0]).al (.cells #[.pointer (some ⟨p, 0, none⟩)] 42))) | (refine wpList_build_to rfl 36 _ (by with_reducible rfl) [(0, .int .i64 g)] (by rfl) #[.int .i64 g, .int .i64 0, .int .i64 0, .int .i64 0, .int .i64 0, .bool false, .int .i64 0, .int .i64 0, .bool false, .int .i64 0, .int .i64 0] (prBuilt g) ?_) | (refine wpList_store_row rfl 36 (.tmp 8) (.tmp 17) (by with_reducible rfl) w2.heap.size #[.int .i64 g, .int .i64 0, .int .i64 0, .int .i64 0, .int .i64 0, .bool false, .int .i64 0, .int .i64 0, .bool false, .int .i64 0, .int .i64 0] (by rfl) (by rfl) 36 #[.int .i64 0, .int .i64 0, .int .i64 0, .int .i64 0, .int .i64 0, .bool false, .int .i64 0, .int .i64 0, .bool false, .int .i64 0, .int .i64 0] (by exact Blk.new _ _ _) prSize rfl (by simp [Value.oneCell']) ?_; rw [World.setRow_alloc_new]) | (go_at_call 46; ((with_reducible refine (argument_3 p f _ e3).mono ?_); rintro e w9 ⟨rfl, rfl⟩)) | (go_at_call 18; ((with_reducible refine (CN1 _ S3.rq.rs).mono ?_); rintro e w4 ⟨rfl, r4, o4⟩; have S4 := S3.read hp r4 o4)) | (go_at_call 18; ((with_reducible refine (CN2 _ S4.rq.rs).mono ?_); rintro e w5 ⟨rfl, r5, o5⟩; have S5 := S4.read hp r5 o5; have c0 := S5.kp.cell 0; have f0 := S5.kp.frozen 0; have c1 := S5.kp.cell 1; have f1 := S5.kp.frozen 1; have c2 := S5.kp.cell 2; have f2 := S5.kp.frozen 2; have c3 := S5.kp.cell 3; have f3 := S5.kp.frozen 3; have c4 := S5.kp.cell 4; have f4 := S5.kp.frozen 4; have c5 := S5.kp.cell 5; have f5 := S5.kp.frozen 5; have c6 := S5.kp.cell 6; have f6 := S5.kp.frozen 6; have c7 := S5.kp.cell 7; have f7 := S5.kp.frozen 7; have c8 := S5.kp.cell 8; have f8 := S5.kp.frozen 8; have c9 := S5.kp.cell 9; have f9 := S5.kp.frozen 9; have c10 := S5.kp.cell 10; have f10 := S5.kp.frozen 10; simp only [List.getElem?_toArray, List.getElem?_cons_zero, List.getElem?_cons_succ, List.setIfInBounds_toArray, List.set_cons_zero, List.set_cons_succ] at c0 c1 c2 c3 c4 c5 c6 c7 c8 c9 c10; have kf0 := S5.rq.kf.cell 1; simp only [List.getElem?_toArray, List.getElem?_cons_zero, List.getElem?_cons_succ] at kf0; have S6 := (((S5.set hp 6 (.int .i64 a)).set hp 7 (.int .i64 b)).set hp 8 (.bool tu)))) | (go_at_call 48; ((with_reducible refine (CT _ S6.rq.rs S6.rq.size).mono ?_); rintro e w7 ⟨v7, rfl, own7, r7, o7⟩; have S7 := S6.read hp r7 o7; obtain ⟨A7, c7, rfl, l7, _⟩ := own_lists own7)) | (go_at_call 47; ((with_reducible refine (CM A7 c7 _ l7).mono ?_); rintro e w8 ⟨rfl, b8⟩; have S8 := S7.below b8; have c0 := S8.kp.cell 0; have f0 := S8.kp.frozen 0; have c1 := S8.kp.cell 1; have f1 := S8.kp.frozen 1; have c2 := S8.kp.cell 2; have f2 := S8.kp.frozen 2; have c3 := S8.kp.cell 3; have f3 := S8.kp.frozen 3; have c4 := S8.kp.cell 4; have f4 := S8.kp.frozen 4; have c5 := S8.kp.cell 5; have f5 := S8.kp.frozen 5; have c6 := S8.kp.cell 6; have f6 := S8.kp.frozen 6; have c7 := S8.kp.cell 7; have f7 := S8.kp.frozen 7; have c8 := S8.kp.cell 8; have f8 := S8.kp.frozen 8; have c9 := S8.kp.cell 9; have f9 := S8.kp.frozen 9; have c10 := S8.kp.cell 10; have f10 := S8.kp.frozen 10; simp only [List.getElem?_toArray, List.getElem?_cons_zero, List.getElem?_cons_succ, List.setIfInBounds_toArray, List.set_cons_zero, List.set_cons_succ] at c0 c1 c2 c3 c4 c5 c6 c7 c8 c9 c10; have S9 := ((((S8.set hp 1 (.int .i64 m1)).set hp 2 (.int .i64 m2)).set hp 3 (.int .i64 m3)).set hp 4 (.int .i64 m4)))))
  simp only [List.setIfInBounds_toArray, List.set_cons_zero, List.set_cons_succ] at S9
  generalize ((((w8.setCell ⟨w2.heap.size, 1, none⟩ (.int .i64 m1)).setCell ⟨w2.heap.size, 2, none⟩ (.int .i64 m2)).setCell ⟨w2.heap.size, 3, none⟩ (.int .i64 m3)).setCell ⟨w2.heap.size, 4, none⟩ (.int .i64 m4)) = X at S9 ⊢
  have S10 : RP q w p bs w1.heap.size b9 n (k + 2 + 2 + 2 + 2 + 2 * n) w2.heap.size #[.int .i64 g, .int .i64 m1, .int .i64 m2, .int .i64 m3, .int .i64 m4, .bool false, .int .i64 a, .int .i64 b, .bool tu, .int .i64 0, .int .i64 0] X.drew := S9.below ((Below.refl _ _).drew)
  have HLD := load_blk (P := Try.prog) S10.kp Try.underlying36 rfl prSize
  have HKR := S10.rq.kr
  have hends : endP f k = (k + 2 + 2 + 2 + 2 + 2 * n) := by unfold endP; rw [hwA, hn] <;> omega
  clear c0 f0 c1 f1 c2 f2 c3 f3 c4 f4 c5 f5 c6 f6 c7 f7 c8 f8 c9 f9 c10 f10 kf0 S1 S2 S3 S4 S5 S6 S7 S8 S9
  refine wp_region_chain (fun W' => (Instr.loadAt 36 (.pointer (some ⟨w2.heap.size, 0, none⟩))).run Try.prog W' = .ok (.agg #[.int .i64 g, .int .i64 m1, .int .i64 m2, .int .i64 m3, .int .i64 m4, .bool false, .int .i64 a, .int .i64 b, .bool tu, .int .i64 0, .int .i64 0]) W') [(0, false), (1, false), (2, false), (3, false), (4, false), (5, false), (6, false), (7, true), (8, false)] (by kernel_rfl) (by kernel_rfl) HLD ?_
  repeat (first
    | (refine ChainL.skip (o := ?_) ?_ ?_ ?_; rotate_left; (focus (first | (simp only [List.getElem?_toArray, List.getElem?_cons_succ, List.getElem?_cons_zero]; with_reducible rfl) | (simp only [List.getElem?_toArray, List.getElem?_cons_zero]; with_reducible rfl))); (focus rfl); simp only [Act.put, List.setIfInBounds_toArray, List.set_cons_zero, List.set_cons_succ])
    | (refine ChainL.val (o := ?_) (v := ?_) ?_ ?_ ?_ ?_ ?_; rotate_left 2; (focus (first | (simp only [List.getElem?_toArray, List.getElem?_cons_succ, List.getElem?_cons_zero]; with_reducible rfl) | (simp only [List.getElem?_toArray, List.getElem?_cons_zero]; with_reducible rfl))); (focus (intro _ _ h; cases h)); (focus rfl); (focus (intro w' hI; skip; first | (have H := fun ρ o x => @exec_load _ ρ o _ _ x _ _ hI; refine H _ _ ?_ ?_ ?_; rotate_left; (focus rfl); (focus rfl)) | (go_simp <;> with_reducible rfl))); simp only [Act.put, List.setIfInBounds_toArray, List.set_cons_zero, List.set_cons_succ]))
  refine ChainL.store (o := ?_) (w1 := X.drew.setRow w.heap.size #[.int .i64 g, .int .i64 m1, .int .i64 m2, .int .i64 m3, .int .i64 m4, .bool false, .int .i64 a, .int .i64 b, .bool tu, .int .i64 0, .int .i64 0]) ?_ ?_ ?_ ?_ ?_
  rotate_left 1
  (focus (simp only [List.getElem?_toArray, List.getElem?_cons_succ, List.getElem?_cons_zero]; with_reducible rfl))
  (focus rfl)
  (focus (refine exec_store_row 36 _ _ (by rfl) w.heap.size #[.int .i64 g, .int .i64 m1, .int .i64 m2, .int .i64 m3, .int .i64 m4, .bool false, .int .i64 a, .int .i64 b, .bool tu, .int .i64 0, .int .i64 0] (by rfl) (by rfl) 36 #[.int .i64 0, .int .i64 0, .int .i64 0, .int .i64 0, .int .i64 0, .bool false, .int .i64 0, .int .i64 0, .bool false, .int .i64 0, .int .i64 0] HKR prSize rfl (by simp [Value.oneCell'])))
  (focus (exact load_blk (P := Try.prog) (S10.kp.only (only_row (Only.refl _ [w.heap.size]) (.inl (by simp)) #[.int .i64 g, .int .i64 m1, .int .i64 m2, .int .i64 m3, .int .i64 m4, .bool false, .int .i64 a, .int .i64 b, .bool tu, .int .i64 0, .int .i64 0]) (by have := S10.hi; have := S10.rq.lo; simp; omega)) Try.underlying36 rfl prSize))
  simp only [Act.put, List.setIfInBounds_toArray, List.set_cons_zero, List.set_cons_succ]
  repeat (first
    | (refine ChainL.skip (o := ?_) ?_ ?_ ?_; rotate_left; (focus (first | (simp only [List.getElem?_toArray, List.getElem?_cons_succ, List.getElem?_cons_zero]; with_reducible rfl) | (simp only [List.getElem?_toArray, List.getElem?_cons_zero]; with_reducible rfl))); (focus rfl); simp only [Act.put, List.setIfInBounds_toArray, List.set_cons_zero, List.set_cons_succ])
    | (refine ChainL.val (o := ?_) (v := ?_) ?_ ?_ ?_ ?_ ?_; rotate_left 2; (focus (first | (simp only [List.getElem?_toArray, List.getElem?_cons_succ, List.getElem?_cons_zero]; with_reducible rfl) | (simp only [List.getElem?_toArray, List.getElem?_cons_zero]; with_reducible rfl))); (focus (intro _ _ h; cases h)); (focus rfl); (focus (intro w' hI; skip; first | (have H := fun ρ o x => @exec_load _ ρ o _ _ x _ _ hI; refine H _ _ ?_ ?_ ?_; rotate_left; (focus rfl); (focus rfl)) | (go_simp <;> with_reducible rfl))); simp only [Act.put, List.setIfInBounds_toArray, List.set_cons_zero, List.set_cons_succ]))
  refine ChainL.nil ?_
  go_wp2
  rw [hends]
  have oR : Only X.drew (X.drew.setRow w.heap.size #[.int .i64 g, .int .i64 m1, .int .i64 m2, .int .i64 m3, .int .i64 m4, .bool false, .int .i64 a, .int .i64 b, .bool tu, .int .i64 0, .int .i64 0]) [w.heap.size] := only_row (Only.refl _ _) (.inl (by simp)) _
  refine bodyPost_ret (results_row_tmp Try.results21 _ _ w.heap.size 36 #[.int .i64 g, .int .i64 m1, .int .i64 m2, .int .i64 m3, .int .i64 m4, .bool false, .int .i64 a, .int .i64 b, .bool tu, .int .i64 0, .int .i64 0] (0, 0) _ (.bool false) (by rfl) (by rfl) (show Blk _ _ _ _ from blk_row HKR _) Try.underlying36 rfl prSize) rfl ⟨rfl, ?_, ?_⟩
  · exact S10.rq.rs.only oR (by simp; omega) (fun b hb hqb => by simp at hb; subst hb; have := hq _ hqb; omega)
  · exact S10.rq.only.trans oR (fun b hb => .inr (by simp at hb; omega))

end Go.Proofs.Ytekailhghjideaa
