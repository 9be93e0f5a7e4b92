/- Part 6 of the proof: IxB, IxC, IxV, Met3, IxE. -/
import Derived.LoopTactic
import Derived.Test.YtpaenjalpcdamaaCIx4

namespace Go.Proofs.Ytpaenjalpcdamaa
open Go Go.RowKit
set_option linter.unusedVariables false
set_option linter.unusedSimpArgs false

/-- How many bytes a number has. -/
def wdN (x : Nat) : Nat := if x = 0 then 0 else if x < 256 then 1 else if x < 65536 then 2 else if x < 16777216 then 3 else 4
theorem wdN_step {x : Nat} (h0 : 0 < x) (h : x < 4294967296) : wdN x = wdN (x / 256) + 1 := by
  unfold wdN
  repeat' split
  all_goals omega
set_option maxRecDepth 100000 in
theorem widthOf_any (x : Nat) (hx : x < 4294967296) (w : World) : Calls Try.prog 38 #[.int .i64 (x : Nat)] w fun e w' => e = .returned (.int .i64 (wdN x : Nat)) ∧ w' = w := by
  go_enter Try.func38, Try.ntmps38
  go_wp2
  go_loopw [0, 3] (fun xv wv wr => ∃ y k : Nat, xv = .int .i64 (y : Nat) ∧ wv = .int .i64 (k : Nat) ∧ y < 4294967296 ∧ k ≤ 4 ∧ Hid (k + wdN y = wdN x) ∧ wr = w) (fun xv _ _ => (intOf xv).toNat)
  case atStart => exact ⟨x, 0, rfl, rfl, hx, by omega, Lib.hid (by omega), rfl⟩
  case round =>
    obtain ⟨y, k, rfl, rfl, hy, hk, hw, rfl⟩ := hrel
    by_cases h0 : 0 < y
    · have d1 : decide ((y : Int) > 0) = true := by simp; omega
      have hst := wdN_step h0 hy
      have hle : wdN x ≤ 4 := by unfold wdN; repeat' split
                                 all_goals omega
      have hk4 : k + 1 ≤ 4 := by have := hw.out; omega
      have HS := Lib.hid hst
      clear hst hle
      go_wp2
      go_roundw
      case rel => exact ⟨y / 256, k + 1, by go_num, by go_num, by omega, hk4, Lib.hid (by rw [← hw.out, HS.out]; omega), (by first | rfl | trivial)⟩
      case measure => simp [intOf]; omega
    · obtain rfl : y = 0 := by omega
      have d1 : decide (((0 : Nat) : Int) > 0) = false := by simp
      have HK := Lib.hid (show k = wdN x by have := hw.out; simpa [wdN] using this)
      go_wp2
      go_ret
      exact ⟨by rw [← HK.out]; rfl, rfl⟩
def be3 (x : Int) : List Value := [.int .u8 (x / 65536 % 256), .int .u8 (x / 256 % 256), .int .u8 (x % 256)]
def beN : Nat → Int → List Value
  | 1, x => be1 x
  | 2, x => be2 x
  | 3, x => be3 x
  | _, x => be4 x
theorem beN_len {n : Nat} (h1 : 1 ≤ n) (h3 : n ≤ 3) (x : Int) : (beN n x).length = n := by
  match n, h1, h3 with
  | 1, _, _ => rfl
  | 2, _, _ => rfl
  | 3, _, _ => rfl
theorem safe_belowI {w w' : World} (h : Below w.heap.size w w') : Safe w w' := fun _ _ _ _ _ _ k => k.below h
theorem Safe.transI {a b c : World} (h : Safe a b) (k : Safe b c) : Safe a c := fun q T cs h1 h2 h3 x => k q T cs h1 h2 h3 (h q T cs h1 h2 h3 x)
set_option maxRecDepth 100000 in
set_option maxHeartbeats 1000000 in
theorem writing1_1 (w0 w : World) (p R tw to : Nat) (L : List Value) (x : Int) (h : WS w0 w p R L) (hx : L.length + 1 ≤ R) (hR : R ≤ 1099511627776) (K1 : Blk w tw 3 #[.int .i64 1]) (K2 : Blk w to 60 #[.func (.func 39) #[.pointer (some ⟨p, 0, none⟩)] #[]]) :
    Calls Try.prog 44 #[.int .i64 x, .pointer (some ⟨tw, 0, none⟩), .pointer (some ⟨to, 0, none⟩)] w fun e w' => e = .returned (.tuple #[]) ∧ WS w0 w' p R (L ++ beN 1 x) ∧ Safe w w' ∧ w.heap.size ≤ w'.heap.size := by
  have c1 := K1.cell 0
  have l1 := K1.lt
  simp only [List.getElem?_toArray, List.getElem?_cons_zero] at c1
  have q0 : IntKind.i64.wrap 0 = 0 := by decide
  have q1 : IntKind.i64.wrap 1 = 1 := by decide
  have q2 : IntKind.i64.wrap 2 = 2 := by decide
  have q8 : IntKind.i64.wrap 8 = 8 := by decide
  have q16 : IntKind.i64.wrap 16 = 16 := by decide
  have S0 : Safe w w := fun _ _ _ _ _ _ k => k
  have Z0 : w.heap.size ≤ w.heap.size := Nat.le_refl _
  go_enter Try.func44, Try.ntmps44
  go_wp2
  refine wp_loop_rounds 2 ?_
  rw [rounds_succ]
  go_wp2
  refine wp_region_chain (fun W => Blk W tw 3 #[.int .i64 1] ∧ Blk W to 60 #[.func (.func 39) #[.pointer (some ⟨p, 0, none⟩)] #[]]) [(0, false), (1, false), (2, false), (3, false), (4, false), (5, false), (6, false), (7, false), (8, true)] (by kernel_rfl) (by kernel_rfl) ⟨K1.below ((Below.refl _ _).drew), K2.below ((Below.refl _ _).drew)⟩ ?_
  repeat (first
    | (refine ChainL.skip (o := ?_) ?_ ?_ ?_; rotate_left; (focus (first | (simp only [List.getElem?_toArray, List.getElem?_cons_succ, List.getElem?_cons_zero]; with_reducible rfl) | (simp only [List.getElem?_toArray, List.getElem?_cons_zero]; with_reducible rfl))); (focus rfl); simp only [Act.put, List.setIfInBounds_toArray, List.set_cons_zero, List.set_cons_succ])
    | (refine ChainL.val (o := ?_) (v := ?_) ?_ ?_ ?_ ?_ ?_; rotate_left 2; (focus (first | (simp only [List.getElem?_toArray, List.getElem?_cons_succ, List.getElem?_cons_zero]; with_reducible rfl) | (simp only [List.getElem?_toArray, List.getElem?_cons_zero]; with_reducible rfl))); (focus (intro _ _ h; cases h)); (focus rfl); (focus (intro w' hI; have c1 := hI.1.cell 0; have c2 := hI.2.cell 0; have l1 := hI.1.lt; have l2 := hI.2.lt; simp only [List.getElem?_toArray, List.getElem?_cons_zero] at c1 c2; go_simp <;> with_reducible rfl)); simp only [Act.put, List.setIfInBounds_toArray, List.set_cons_zero, List.set_cons_succ]))
  refine ChainL.call (o := ?_) (f := ?_) (args := ?_) ?_ ?_ ?_ ?_
  rotate_left 3
  (focus (simp only [List.getElem?_toArray, List.getElem?_cons_succ, List.getElem?_cons_zero]; with_reducible rfl))
  (focus rfl)
  (focus (go_simp; (constructor <;> with_reducible rfl)))
  refine (wsU8 w0 _ p R (L) x (h.below ((Below.refl _ _).drew)) (by first | omega | (simp [be1]; omega)) hR).mono ?_
  rintro e w1 ⟨rfl, h1, s1, z1⟩
  have K1 := s1 _ _ _ (by decide) (by decide) (by decide) (K1.below ((Below.refl _ _).drew)); have K2 := s1 _ _ _ (by decide) (by decide) (by decide) (K2.below ((Below.refl _ _).drew)); have S0 := (S0.transI (safe_belowI ((Below.refl _ _).drew))).transI s1; have Z0 := Nat.le_trans Z0 (show (w).heap.size ≤ w1.heap.size by simpa using z1); refine ⟨_, rfl, ⟨K1, K2⟩, ?_⟩
  simp only [Act.put, List.setIfInBounds_toArray, List.set_cons_zero, List.set_cons_succ]
  refine ChainL.nil ?_
  go_wp2
  rw [rounds_succ]
  go_wp2
  go_end0
  exact ⟨rfl, by simpa [beN, be1, be2, be3] using h1, S0, Z0⟩

set_option maxRecDepth 100000 in
set_option maxHeartbeats 1000000 in
theorem writing1_2 (w0 w : World) (p R tw to : Nat) (L : List Value) (x : Int) (h : WS w0 w p R L) (hx : L.length + 2 ≤ R) (hR : R ≤ 1099511627776) (K1 : Blk w tw 3 #[.int .i64 2]) (K2 : Blk w to 60 #[.func (.func 39) #[.pointer (some ⟨p, 0, none⟩)] #[]]) :
    Calls Try.prog 44 #[.int .i64 x, .pointer (some ⟨tw, 0, none⟩), .pointer (some ⟨to, 0, none⟩)] w fun e w' => e = .returned (.tuple #[]) ∧ WS w0 w' p R (L ++ beN 2 x) ∧ Safe w w' ∧ w.heap.size ≤ w'.heap.size := by
  have c1 := K1.cell 0
  have l1 := K1.lt
  simp only [List.getElem?_toArray, List.getElem?_cons_zero] at c1
  have q0 : IntKind.i64.wrap 0 = 0 := by decide
  have q1 : IntKind.i64.wrap 1 = 1 := by decide
  have q2 : IntKind.i64.wrap 2 = 2 := by decide
  have q8 : IntKind.i64.wrap 8 = 8 := by decide
  have q16 : IntKind.i64.wrap 16 = 16 := by decide
  have S0 : Safe w w := fun _ _ _ _ _ _ k => k
  have Z0 : w.heap.size ≤ w.heap.size := Nat.le_refl _
  go_enter Try.func44, Try.ntmps44
  go_wp2
  refine wp_loop_rounds 3 ?_
  rw [rounds_succ]
  go_wp2
  refine wp_region_chain (fun W => Blk W tw 3 #[.int .i64 2] ∧ Blk W to 60 #[.func (.func 39) #[.pointer (some ⟨p, 0, none⟩)] #[]]) [(0, false), (1, false), (2, false), (3, false), (4, false), (5, false), (6, false), (7, false), (8, true)] (by kernel_rfl) (by kernel_rfl) ⟨K1.below ((Below.refl _ _).drew), K2.below ((Below.refl _ _).drew)⟩ ?_
  repeat (first
    | (refine ChainL.skip (o := ?_) ?_ ?_ ?_; rotate_left; (focus (first | (simp only [List.getElem?_toArray, List.getElem?_cons_succ, List.getElem?_cons_zero]; with_reducible rfl) | (simp only [List.getElem?_toArray, List.getElem?_cons_zero]; with_reducible rfl))); (focus rfl); simp only [Act.put, List.setIfInBounds_toArray, List.set_cons_zero, List.set_cons_succ])
    | (refine ChainL.val (o := ?_) (v := ?_) ?_ ?_ ?_ ?_ ?_; rotate_left 2; (focus (first | (simp only [List.getElem?_toArray, List.getElem?_cons_succ, List.getElem?_cons_zero]; with_reducible rfl) | (simp only [List.getElem?_toArray, List.getElem?_cons_zero]; with_reducible rfl))); (focus (intro _ _ h; cases h)); (focus rfl); (focus (intro w' hI; have c1 := hI.1.cell 0; have c2 := hI.2.cell 0; have l1 := hI.1.lt; have l2 := hI.2.lt; simp only [List.getElem?_toArray, List.getElem?_cons_zero] at c1 c2; go_simp <;> with_reducible rfl)); simp only [Act.put, List.setIfInBounds_toArray, List.set_cons_zero, List.set_cons_succ]))
  refine ChainL.call (o := ?_) (f := ?_) (args := ?_) ?_ ?_ ?_ ?_
  rotate_left 3
  (focus (simp only [List.getElem?_toArray, List.getElem?_cons_succ, List.getElem?_cons_zero]; with_reducible rfl))
  (focus rfl)
  (focus (go_simp; (constructor <;> with_reducible rfl)))
  refine (wsU8 w0 _ p R (L) (x / 256) (h.below ((Below.refl _ _).drew)) (by first | omega | (simp [be1]; omega)) hR).mono ?_
  rintro e w1 ⟨rfl, h1, s1, z1⟩
  have K1 := s1 _ _ _ (by decide) (by decide) (by decide) (K1.below ((Below.refl _ _).drew)); have K2 := s1 _ _ _ (by decide) (by decide) (by decide) (K2.below ((Below.refl _ _).drew)); have S0 := (S0.transI (safe_belowI ((Below.refl _ _).drew))).transI s1; have Z0 := Nat.le_trans Z0 (show (w).heap.size ≤ w1.heap.size by simpa using z1); refine ⟨_, rfl, ⟨K1, K2⟩, ?_⟩
  simp only [Act.put, List.setIfInBounds_toArray, List.set_cons_zero, List.set_cons_succ]
  refine ChainL.nil ?_
  go_wp2
  rw [rounds_succ]
  go_wp2
  refine wp_region_chain (fun W => Blk W tw 3 #[.int .i64 2] ∧ Blk W to 60 #[.func (.func 39) #[.pointer (some ⟨p, 0, none⟩)] #[]]) [(0, false), (1, false), (2, false), (3, false), (4, false), (5, false), (6, false), (7, false), (8, true)] (by kernel_rfl) (by kernel_rfl) ⟨K1.below ((Below.refl _ _).drew), K2.below ((Below.refl _ _).drew)⟩ ?_
  repeat (first
    | (refine ChainL.skip (o := ?_) ?_ ?_ ?_; rotate_left; (focus (first | (simp only [List.getElem?_toArray, List.getElem?_cons_succ, List.getElem?_cons_zero]; with_reducible rfl) | (simp only [List.getElem?_toArray, List.getElem?_cons_zero]; with_reducible rfl))); (focus rfl); simp only [Act.put, List.setIfInBounds_toArray, List.set_cons_zero, List.set_cons_succ])
    | (refine ChainL.val (o := ?_) (v := ?_) ?_ ?_ ?_ ?_ ?_; rotate_left 2; (focus (first | (simp only [List.getElem?_toArray, List.getElem?_cons_succ, List.getElem?_cons_zero]; with_reducible rfl) | (simp only [List.getElem?_toArray, List.getElem?_cons_zero]; with_reducible rfl))); (focus (intro _ _ h; cases h)); (focus rfl); (focus (intro w' hI; have c1 := hI.1.cell 0; have c2 := hI.2.cell 0; have l1 := hI.1.lt; have l2 := hI.2.lt; simp only [List.getElem?_toArray, List.getElem?_cons_zero] at c1 c2; go_simp <;> with_reducible rfl)); simp only [Act.put, List.setIfInBounds_toArray, List.set_cons_zero, List.set_cons_succ]))
  refine ChainL.call (o := ?_) (f := ?_) (args := ?_) ?_ ?_ ?_ ?_
  rotate_left 3
  (focus (simp only [List.getElem?_toArray, List.getElem?_cons_succ, List.getElem?_cons_zero]; with_reducible rfl))
  (focus rfl)
  (focus (go_simp; (constructor <;> with_reducible rfl)))
  refine (wsU8 w0 _ p R (L ++ be1 (x / 256)) x (h1.below ((Below.refl _ _).drew)) (by first | omega | (simp [be1]; omega)) hR).mono ?_
  rintro e w2 ⟨rfl, h2, s2, z2⟩
  have K1 := s2 _ _ _ (by decide) (by decide) (by decide) (K1.below ((Below.refl _ _).drew)); have K2 := s2 _ _ _ (by decide) (by decide) (by decide) (K2.below ((Below.refl _ _).drew)); have S0 := (S0.transI (safe_belowI ((Below.refl _ _).drew))).transI s2; have Z0 := Nat.le_trans Z0 (show (w1).heap.size ≤ w2.heap.size by simpa using z2); refine ⟨_, rfl, ⟨K1, K2⟩, ?_⟩
  simp only [Act.put, List.setIfInBounds_toArray, List.set_cons_zero, List.set_cons_succ]
  refine ChainL.nil ?_
  go_wp2
  rw [rounds_succ]
  go_wp2
  go_end0
  exact ⟨rfl, by simpa [beN, be1, be2, be3] using h2, S0, Z0⟩

set_option maxRecDepth 100000 in
set_option maxHeartbeats 1000000 in
theorem writing1_3 (w0 w : World) (p R tw to : Nat) (L : List Value) (x : Int) (h : WS w0 w p R L) (hx : L.length + 3 ≤ R) (hR : R ≤ 1099511627776) (K1 : Blk w tw 3 #[.int .i64 3]) (K2 : Blk w to 60 #[.func (.func 39) #[.pointer (some ⟨p, 0, none⟩)] #[]]) :
    Calls Try.prog 44 #[.int .i64 x, .pointer (some ⟨tw, 0, none⟩), .pointer (some ⟨to, 0, none⟩)] w fun e w' => e = .returned (.tuple #[]) ∧ WS w0 w' p R (L ++ beN 3 x) ∧ Safe w w' ∧ w.heap.size ≤ w'.heap.size := by
  have c1 := K1.cell 0
  have l1 := K1.lt
  simp only [List.getElem?_toArray, List.getElem?_cons_zero] at c1
  have q0 : IntKind.i64.wrap 0 = 0 := by decide
  have q1 : IntKind.i64.wrap 1 = 1 := by decide
  have q2 : IntKind.i64.wrap 2 = 2 := by decide
  have q8 : IntKind.i64.wrap 8 = 8 := by decide
  have q16 : IntKind.i64.wrap 16 = 16 := by decide
  have S0 : Safe w w := fun _ _ _ _ _ _ k => k
  have Z0 : w.heap.size ≤ w.heap.size := Nat.le_refl _
  go_enter Try.func44, Try.ntmps44
  go_wp2
  refine wp_loop_rounds 4 ?_
  rw [rounds_succ]
  go_wp2
  refine wp_region_chain (fun W => Blk W tw 3 #[.int .i64 3] ∧ Blk W to 60 #[.func (.func 39) #[.pointer (some ⟨p, 0, none⟩)] #[]]) [(0, false), (1, false), (2, false), (3, false), (4, false), (5, false), (6, false), (7, false), (8, true)] (by kernel_rfl) (by kernel_rfl) ⟨K1.below ((Below.refl _ _).drew), K2.below ((Below.refl _ _).drew)⟩ ?_
  repeat (first
    | (refine ChainL.skip (o := ?_) ?_ ?_ ?_; rotate_left; (focus (first | (simp only [List.getElem?_toArray, List.getElem?_cons_succ, List.getElem?_cons_zero]; with_reducible rfl) | (simp only [List.getElem?_toArray, List.getElem?_cons_zero]; with_reducible rfl))); (focus rfl); simp only [Act.put, List.setIfInBounds_toArray, List.set_cons_zero, List.set_cons_succ])
    | (refine ChainL.val (o := ?_) (v := ?_) ?_ ?_ ?_ ?_ ?_; rotate_left 2; (focus (first | (simp only [List.getElem?_toArray, List.getElem?_cons_succ, List.getElem?_cons_zero]; with_reducible rfl) | (simp only [List.getElem?_toArray, List.getElem?_cons_zero]; with_reducible rfl))); (focus (intro _ _ h; cases h)); (focus rfl); (focus (intro w' hI; have c1 := hI.1.cell 0; have c2 := hI.2.cell 0; have l1 := hI.1.lt; have l2 := hI.2.lt; simp only [List.getElem?_toArray, List.getElem?_cons_zero] at c1 c2; go_simp <;> with_reducible rfl)); simp only [Act.put, List.setIfInBounds_toArray, List.set_cons_zero, List.set_cons_succ]))
  refine ChainL.call (o := ?_) (f := ?_) (args := ?_) ?_ ?_ ?_ ?_
  rotate_left 3
  (focus (simp only [List.getElem?_toArray, List.getElem?_cons_succ, List.getElem?_cons_zero]; with_reducible rfl))
  (focus rfl)
  (focus (go_simp; (constructor <;> with_reducible rfl)))
  refine (wsU8 w0 _ p R (L) (x / 65536) (h.below ((Below.refl _ _).drew)) (by first | omega | (simp [be1]; omega)) hR).mono ?_
  rintro e w1 ⟨rfl, h1, s1, z1⟩
  have K1 := s1 _ _ _ (by decide) (by decide) (by decide) (K1.below ((Below.refl _ _).drew)); have K2 := s1 _ _ _ (by decide) (by decide) (by decide) (K2.below ((Below.refl _ _).drew)); have S0 := (S0.transI (safe_belowI ((Below.refl _ _).drew))).transI s1; have Z0 := Nat.le_trans Z0 (show (w).heap.size ≤ w1.heap.size by simpa using z1); refine ⟨_, rfl, ⟨K1, K2⟩, ?_⟩
  simp only [Act.put, List.setIfInBounds_toArray, List.set_cons_zero, List.set_cons_succ]
  refine ChainL.nil ?_
  go_wp2
  rw [rounds_succ]
  go_wp2
  refine wp_region_chain (fun W => Blk W tw 3 #[.int .i64 3] ∧ Blk W to 60 #[.func (.func 39) #[.pointer (some ⟨p, 0, none⟩)] #[]]) [(0, false), (1, false), (2, false), (3, false), (4, false), (5, false), (6, false), (7, false), (8, true)] (by kernel_rfl) (by kernel_rfl) ⟨K1.below ((Below.refl _ _).drew), K2.below ((Below.refl _ _).drew)⟩ ?_
  repeat (first
    | (refine ChainL.skip (o := ?_) ?_ ?_ ?_; rotate_left; (focus (first | (simp only [List.getElem?_toArray, List.getElem?_cons_succ, List.getElem?_cons_zero]; with_reducible rfl) | (simp only [List.getElem?_toArray, List.getElem?_cons_zero]; with_reducible rfl))); (focus rfl); simp only [Act.put, List.setIfInBounds_toArray, List.set_cons_zero, List.set_cons_succ])
    | (refine ChainL.val (o := ?_) (v := ?_) ?_ ?_ ?_ ?_ ?_; rotate_left 2; (focus (first | (simp only [List.getElem?_toArray, List.getElem?_cons_succ, List.getElem?_cons_zero]; with_reducible rfl) | (simp only [List.getElem?_toArray, List.getElem?_cons_zero]; with_reducible rfl))); (focus (intro _ _ h; cases h)); (focus rfl); (focus (intro w' hI; have c1 := hI.1.cell 0; have c2 := hI.2.cell 0; have l1 := hI.1.lt; have l2 := hI.2.lt; simp only [List.getElem?_toArray, List.getElem?_cons_zero] at c1 c2; go_simp <;> with_reducible rfl)); simp only [Act.put, List.setIfInBounds_toArray, List.set_cons_zero, List.set_cons_succ]))
  refine ChainL.call (o := ?_) (f := ?_) (args := ?_) ?_ ?_ ?_ ?_
  rotate_left 3
  (focus (simp only [List.getElem?_toArray, List.getElem?_cons_succ, List.getElem?_cons_zero]; with_reducible rfl))
  (focus rfl)
  (focus (go_simp; (constructor <;> with_reducible rfl)))
  refine (wsU8 w0 _ p R (L ++ be1 (x / 65536)) (x / 256) (h1.below ((Below.refl _ _).drew)) (by first | omega | (simp [be1]; omega)) hR).mono ?_
  rintro e w2 ⟨rfl, h2, s2, z2⟩
  have K1 := s2 _ _ _ (by decide) (by decide) (by decide) (K1.below ((Below.refl _ _).drew)); have K2 := s2 _ _ _ (by decide) (by decide) (by decide) (K2.below ((Below.refl _ _).drew)); have S0 := (S0.transI (safe_belowI ((Below.refl _ _).drew))).transI s2; have Z0 := Nat.le_trans Z0 (show (w1).heap.size ≤ w2.heap.size by simpa using z2); refine ⟨_, rfl, ⟨K1, K2⟩, ?_⟩
  simp only [Act.put, List.setIfInBounds_toArray, List.set_cons_zero, List.set_cons_succ]
  refine ChainL.nil ?_
  go_wp2
  rw [rounds_succ]
  go_wp2
  refine wp_region_chain (fun W => Blk W tw 3 #[.int .i64 3] ∧ Blk W to 60 #[.func (.func 39) #[.pointer (some ⟨p, 0, none⟩)] #[]]) [(0, false), (1, false), (2, false), (3, false), (4, false), (5, false), (6, false), (7, false), (8, true)] (by kernel_rfl) (by kernel_rfl) ⟨K1.below ((Below.refl _ _).drew), K2.below ((Below.refl _ _).drew)⟩ ?_
  repeat (first
    | (refine ChainL.skip (o := ?_) ?_ ?_ ?_; rotate_left; (focus (first | (simp only [List.getElem?_toArray, List.getElem?_cons_succ, List.getElem?_cons_zero]; with_reducible rfl) | (simp only [List.getElem?_toArray, List.getElem?_cons_zero]; with_reducible rfl))); (focus rfl); simp only [Act.put, List.setIfInBounds_toArray, List.set_cons_zero, List.set_cons_succ])
    | (refine ChainL.val (o := ?_) (v := ?_) ?_ ?_ ?_ ?_ ?_; rotate_left 2; (focus (first | (simp only [List.getElem?_toArray, List.getElem?_cons_succ, List.getElem?_cons_zero]; with_reducible rfl) | (simp only [List.getElem?_toArray, List.getElem?_cons_zero]; with_reducible rfl))); (focus (intro _ _ h; cases h)); (focus rfl); (focus (intro w' hI; have c1 := hI.1.cell 0; have c2 := hI.2.cell 0; have l1 := hI.1.lt; have l2 := hI.2.lt; simp only [List.getElem?_toArray, List.getElem?_cons_zero] at c1 c2; go_simp <;> with_reducible rfl)); simp only [Act.put, List.setIfInBounds_toArray, List.set_cons_zero, List.set_cons_succ]))
  refine ChainL.call (o := ?_) (f := ?_) (args := ?_) ?_ ?_ ?_ ?_
  rotate_left 3
  (focus (simp only [List.getElem?_toArray, List.getElem?_cons_succ, List.getElem?_cons_zero]; with_reducible rfl))
  (focus rfl)
  (focus (go_simp; (constructor <;> with_reducible rfl)))
  refine (wsU8 w0 _ p R (L ++ be1 (x / 65536) ++ be1 (x / 256)) x (h2.below ((Below.refl _ _).drew)) (by first | omega | (simp [be1]; omega)) hR).mono ?_
  rintro e w3 ⟨rfl, h3, s3, z3⟩
  have K1 := s3 _ _ _ (by decide) (by decide) (by decide) (K1.below ((Below.refl _ _).drew)); have K2 := s3 _ _ _ (by decide) (by decide) (by decide) (K2.below ((Below.refl _ _).drew)); have S0 := (S0.transI (safe_belowI ((Below.refl _ _).drew))).transI s3; have Z0 := Nat.le_trans Z0 (show (w2).heap.size ≤ w3.heap.size by simpa using z3); refine ⟨_, rfl, ⟨K1, K2⟩, ?_⟩
  simp only [Act.put, List.setIfInBounds_toArray, List.set_cons_zero, List.set_cons_succ]
  refine ChainL.nil ?_
  go_wp2
  rw [rounds_succ]
  go_wp2
  go_end0
  exact ⟨rfl, by simpa [beN, be1, be2, be3] using h3, S0, Z0⟩
theorem writing1_any (n : Nat) (h1 : 1 ≤ n) (h3 : n ≤ 3) (w0 w : World) (p R tw to : Nat) (L : List Value) (x : Int) (h : WS w0 w p R L) (hx : L.length + n ≤ R) (hR : R ≤ 1099511627776) (K1 : Blk w tw 3 #[.int .i64 (n : Nat)]) (K2 : Blk w to 60 #[.func (.func 39) #[.pointer (some ⟨p, 0, none⟩)] #[]]) :
    Calls Try.prog 44 #[.int .i64 x, .pointer (some ⟨tw, 0, none⟩), .pointer (some ⟨to, 0, none⟩)] w fun e w' => e = .returned (.tuple #[]) ∧ WS w0 w' p R (L ++ beN n x) ∧ Safe w w' ∧ w.heap.size ≤ w'.heap.size := by
  match n, h1, h3 with
  | 1, _, _ => exact writing1_1 w0 w p R tw to L x h hx hR K1 K2
  | 2, _, _ => exact writing1_2 w0 w p R tw to L x h hx hR K1 K2
  | 3, _, _ => exact writing1_3 w0 w p R tw to L x h hx hR K1 K2
end Go.Proofs.Ytpaenjalpcdamaa

namespace Go.Proofs.Ytpaenjalpcdamaa
open Go Go.RowKit
set_option linter.unusedVariables false
set_option linter.unusedSimpArgs false

/-- Lists of bytes as they lie. -/
structure RowsAt (w : World) (B : Nat) (A : Option Addr) (Ls : List (List Value)) : Prop where
  at' : ∀ (i : Nat) (L : List Value), Ls[i]? = some L → ∃ (b o : Nat) (Ai : Option Addr) (ci : Nat), A = some ⟨b, o, none⟩ ∧ b < B ∧ w.cell? ⟨b, o + i, none⟩ = some (.slice Ai L.length ci) ∧ Lists w B Ai L
theorem RowsAt.below {w w1 : World} {B : Nat} {A : Option Addr} {Ls : List (List Value)} (h : RowsAt w B A Ls) (hb : Below B w w1) : RowsAt w1 B A Ls :=
  ⟨fun i L hL => by
    obtain ⟨b, o, Ai, ci, h1, h2, h3, h4⟩ := h.at' i L hL
    exact ⟨b, o, Ai, ci, h1, h2, (hb.cell (p := ⟨b, o + i, none⟩) h2).trans h3, h4.below hb⟩⟩
theorem RowsAt.more {w : World} {B B1 : Nat} {A : Option Addr} {Ls : List (List Value)} (h : RowsAt w B A Ls) (hB : B ≤ B1) : RowsAt w B1 A Ls :=
  ⟨fun i L hL => by
    obtain ⟨b, o, Ai, ci, h1, h2, h3, h4⟩ := h.at' i L hL
    exact ⟨b, o, Ai, ci, h1, Nat.lt_of_lt_of_le h2 hB, h3, h4.more hB⟩⟩
/-- How many bytes lists have. -/
def tot (Ls : List (List Value)) : Nat := (Ls.map List.length).sum
theorem tot_snoc (Ls : List (List Value)) (L : List Value) : tot (Ls ++ [L]) = tot Ls + L.length := by simp [tot]
theorem tot_take (Ls : List (List Value)) (k : Nat) : tot (Ls.take k) ≤ tot Ls := by
  induction Ls generalizing k with
  | nil => simp
  | cons L Ls ih =>
    cases k with
    | zero => simp [tot]
    | succ k =>
      have := ih k
      simp only [tot, List.take_succ_cons, List.map_cons, List.sum_cons] at this ⊢
      omega
/-- The offsets, from a on. -/
def offT : Nat → List (List Value) → List Nat
  | a, [] => [a]
  | a, L :: Ls => a :: offT (a + L.length) Ls
theorem offT_snoc (L : List Value) : ∀ (Ls : List (List Value)) (a : Nat), offT a (Ls ++ [L]) = offT a Ls ++ [a + tot Ls + L.length]
  | [], a => by simp [offT, tot]
  | M :: Ls, a => by
    show a :: offT (a + M.length) (Ls ++ [L]) = a :: offT (a + M.length) Ls ++ [a + tot (M :: Ls) + L.length]
    rw [offT_snoc L Ls (a + M.length)]
    simp [tot]
    omega
theorem offT_len : ∀ (Ls : List (List Value)) (a : Nat), (offT a Ls).length = Ls.length + 1
  | [], a => rfl
  | M :: Ls, a => by show (offT (a + M.length) Ls).length + 1 = _; rw [offT_len Ls]; rfl
theorem intInfoI : (Try.prog.info? 3).map (fun i => (i.zero, i.size, i.bytes)) = some (some (.int .i64 0), 1, 8) := by kernel_rfl
theorem own_lowI {w : World} {base : Nat} {e : TypeId} {size n : Nat} {v : Value} {xs : List Value} (h : w.ownsRow base e size v n xs) : ∀ b ∈ blk v, base ≤ b := by
  intro b hm
  rcases h.2 with ⟨rfl, _⟩ | ⟨g, cap, cur, rfl, h2, _⟩
  · simp [blk, Value.ownBlock] at hm
  · have : b = g := by simpa [blk, Value.ownBlock] using hm
    omega
theorem own_blk {w : World} {base : Nat} {e : TypeId} {n : Nat} {v : Value} {xs : List Value} (h : w.ownsRow base e 1 v (n + 1) xs) : ∃ g cap cur, v = .slice (some ⟨g, 0, none⟩) (n + 1) cap ∧ Blk w g e cur ∧ ∀ (j : Nat) (x : Value), xs[j]? = some x → cur[j]? = some x := by
  rcases h.2 with ⟨_, h2⟩ | ⟨g, cap, cur, h1, _, h3, _, _, _, h5⟩
  · omega
  · refine ⟨g, cap, cur, h1, h3, fun j x hx => ?_⟩
    rw [← h5, List.getElem?_take] at hx
    split at hx
    · simpa using hx
    · cases hx
theorem lists_rowI (w : World) (cs : List Value) (T : TypeId) : Lists (w.alloc (.cells cs.toArray T)) (w.heap.size + 1) (some ⟨w.heap.size, 0, none⟩) cs := lists_row w cs T
/-- What putOffsets puts. -/
def offE (Ls : List (List Value)) : List Value := be1 (wdN (1 + tot Ls) : Nat) ++ (offT 1 Ls).flatMap fun o => beN (wdN (1 + tot Ls)) ((o : Nat) : Int)
set_option maxRecDepth 100000 in
theorem writing_any (n p : Nat) (v : Value) (w : World) (hv : v = .func (.func 39) #[.pointer (some ⟨p, 0, none⟩)] #[]) : Calls Try.prog 40 #[.int .i64 (n : Nat), v] w fun e w' => ∃ tw to, e = .returned (.func (.func 44) #[] #[.pointer (some ⟨tw, 0, none⟩), .pointer (some ⟨to, 0, none⟩)]) ∧ Blk w' tw 3 #[.int .i64 (n : Nat)] ∧ Blk w' to 60 #[.func (.func 39) #[.pointer (some ⟨p, 0, none⟩)] #[]] ∧ Below w.heap.size w w' := by
  subst hv
  have al : Below w.heap.size w (w.alloc (.cells #[.int .i64 (n : Nat)] 3)) := (Below.refl _ _).alloc (Nat.le_refl _) _
  have k1 := (Blk.new w 3 #[.int .i64 (n : Nat)]).below ((Below.refl _ _).alloc (Nat.le_refl _) (.cells #[.func (.func 39) #[.pointer (some ⟨p, 0, none⟩)] #[]] 60))
  have k2 := Blk.new (w.alloc (.cells #[.int .i64 (n : Nat)] 3)) 60 #[.func (.func 39) #[.pointer (some ⟨p, 0, none⟩)] #[]]
  have B2 := al.alloc al.size (.cells #[.func (.func 39) #[.pointer (some ⟨p, 0, none⟩)] #[]] 60)
  go_enter Try.func40, Try.ntmps40
  go_wp2
  go_ret
  exact ⟨_, _, rfl, k1, by simpa using k2, B2⟩
set_option maxRecDepth 100000 in
set_option maxHeartbeats 2000000 in
theorem putOffsets_any (w0 w : World) (p R B : Nat) (L : List Value) (A : Option Addr) (c : Nat) (Ls : List (List Value)) (h : WS w0 w p R L) (hB : B ≤ w.heap.size) (hl : RowsAt w B A Ls) (hn : Ls.length ≤ 65535) (ht : tot Ls ≤ 8388608) (hx : L.length + 262144 ≤ R) (hR : R ≤ 1099511627776) :
    Calls Try.prog 28 #[.pointer (some ⟨p, 0, none⟩), .slice A Ls.length c] w fun e w' => e = .returned (.tuple #[]) ∧ WS w0 w' p R (L ++ offE Ls) := by
  have HL := Lib.hid hl
  have HW := Lib.hid h
  obtain ⟨n, hnn⟩ : ∃ n, Ls.length = n := ⟨_, rfl⟩
  rw [hnn] at hn ⊢
  have HN := Lib.hid hnn
  have HT := Lib.hid ht
  clear hl h hnn ht
  obtain ⟨i0, hi, hz0, hz1, hz2⟩ := info_parts intInfoI
  have hrow : (w.alloc (.cells #[.int .i64 1] 3)).ownsRow w.heap.size 3 1 (.slice (some ⟨w.heap.size, 0, none⟩) 1 1) 1 [.int .i64 1] := ⟨rfl, .inr ⟨w.heap.size, 1, _, rfl, Nat.le_refl _, heap_alloc_new w _, Nat.le_refl _, by decide, rfl, rfl⟩⟩
  have HR := Lib.hid hrow
  clear hrow
  go_enter Try.func28, Try.ntmps28
  go_wp2
  go_loopw [4, 5, 16] (fun ev ov iv wr => ∃ k : Nat, k ≤ n ∧ iv = .int .i64 (k : Nat) ∧ ev = .int .i64 ((1 + tot (Ls.take k) : Nat) : Int) ∧ wr.ownsRow w.heap.size 3 1 ov (k + 1) (intCells ((offT 1 (Ls.take k)).map Int.ofNat)) ∧ Below w.heap.size w wr) (fun _ _ iv _ => n - (intOf iv).toNat)
  case atStart => exact ⟨0, Nat.zero_le _, rfl, by simp [tot], by simpa [offT, intCells] using HR.out, (Below.refl _ _).alloc (Nat.le_refl _) _⟩
  case round =>
    obtain ⟨k, hk, rfl, rfl, hown, hb⟩ := hrel
    by_cases hlt : k < n
    · have d1 : decide ((k : Int) < (n : Int)) = true := by simp; omega
      obtain ⟨M, hM⟩ : ∃ M, Ls[k]? = some M := ⟨Ls[k]'(by rw [HN.out]; exact hlt), List.getElem?_eq_getElem _⟩
      obtain ⟨b, o, Ai, ci, rfl, hbl, c0, _⟩ := HL.out.at' k M hM
      have hbw := Nat.lt_of_lt_of_le hbl hB
      have g0 := (hb.cell (p := ⟨b, o + k, none⟩) hbw).trans c0
      have hbr := Nat.lt_of_lt_of_le hbw hb.size
      have hT : Ls.take (k + 1) = Ls.take k ++ [M] := by rw [List.take_add_one, hM]; rfl
      have ht1 := tot_take Ls (k + 1)
      rw [hT, tot_snoc] at ht1
      have htt := HT.out
      have hbd : 1 + tot (Ls.take k) + M.length ≤ 8388609 := by omega
      have HS := Lib.hid (show (1 + tot (Ls.take (k + 1)) : Nat) = 1 + tot (Ls.take k) + M.length by rw [hT, tot_snoc]; omega)
      have HO := Lib.hid (show intCells ((offT 1 (Ls.take (k + 1))).map Int.ofNat) = intCells ((offT 1 (Ls.take k)).map Int.ofNat) ++ [.int .i64 ((1 + tot (Ls.take k) + M.length : Nat) : Int)] by rw [hT, offT_snoc]; simp [intCells])
      generalize intCells ((offT 1 (Ls.take k)).map Int.ofNat) = xs at *
      generalize 1 + tot (Ls.take k) = e0 at *
      obtain ⟨ml, hml⟩ : ∃ ml, M.length = ml := ⟨_, rfl⟩
      rw [hml] at c0 g0 HS HO hbd
      have s1 : IntKind.i64.wrap ((e0 : Int) + (ml : Int)) = ((e0 + ml : Nat) : Int) := by rw [IntWalk.i64_in _ (by omega)]; omega
      have own1 := own_only hown ((Only.refl wr []).alloc (.cells #[.int .i64 ((e0 + ml : Nat) : Int)] 3)) (fun _ _ h => (nomatch h))
      have hs1 := hb.size
      clear hT hM c0 hml htt ht1
      go_wp2_with (first | (at_builtin; refine wpList_append_src _ rfl (.tmp 24) (.tmp 26) 48 rfl w.heap.size 3 i0 (.int .i64 0) 1 8 Try.underlying48 hi hz0 hz1 hz2 rfl (by decide) u5 (k + 1) xs rfl (by exact own1) (wr.heap.size + 1) (some ⟨wr.heap.size, 0, none⟩) 1 1 [.int .i64 ((e0 + ml : Nat) : Int)] (by rfl) (by exact lists_rowI wr [.int .i64 ((e0 + ml : Nat) : Int)] 3) rfl (by simp [Value.oneCell']) (by simp only [maxLen]; omega) (by omega) (by simp; omega) ?_; intro v2 w2 own2 hg2 hat2; have b2 := (hb.alloc hb.size (.cells #[.int .i64 ((e0 + ml : Nat) : Int)] 3)).grown hg2 (by simp; omega) (fun b hb' => own_lowI own1 b (by simp [blk, hb']))))
      go_roundw
      case rel => exact ⟨k + 1, by omega, by go_num, by rw [HS.out]; go_num, by rw [HO.out]; exact own2, b2⟩
      case measure => simp [intOf]; omega
    · obtain rfl : k = n := by omega
      have d1 : decide ((k : Int) < (k : Int)) = false := by simp
      have hTk : Ls.take k = Ls := List.take_of_length_le (by rw [HN.out]; exact Nat.le_refl _)
      rw [hTk] at hown ⊢
      clear hTk
      have hlt2 : 1 + tot Ls < 4294967296 := by have := HT.out; omega
      obtain ⟨wd, hwd⟩ : ∃ wd, wdN (1 + tot Ls) = wd := ⟨_, rfl⟩
      have hw1 : 1 ≤ wd ∧ wd ≤ 3 := by
        rw [← hwd]
        unfold wdN
        have := HT.out
        repeat' split
        all_goals omega
      have HE := Lib.hid (show offE Ls = be1 (wd : Nat) ++ (offT 1 Ls).flatMap fun o => beN wd ((o : Nat) : Int) by unfold offE; rw [hwd])
      have CW := fun W => widthOf_any (1 + tot Ls) hlt2 W
      rw [hwd] at CW
      have hWS := HW.out.below hb
      have hol := offT_len Ls 1
      rw [HN.out] at hol
      have HOL := Lib.hid hol
      obtain ⟨g, cap, cur, rfl, KO, hcur⟩ := own_blk hown
      have HC := Lib.hid hcur
      clear hown hwd hcur hol
      generalize 1 + tot Ls = ee at *
      go_wp2_with (first
        | (go_at_call 38; ((with_reducible refine (CW _).mono ?_); rintro e w2 ⟨rfl, rfl⟩))
        | (go_at_call 39; ((with_reducible refine (wsU8 w0 _ p R L (wd : Nat) hWS (by omega) hR).mono ?_); rintro e w3 ⟨rfl, h3, s3, z3⟩; have KO := s3 _ _ _ (by decide) (by decide) (by decide) KO))
        | (go_at_call 40; ((with_reducible refine (writing_any wd p _ _ rfl).mono ?_); rintro e w4 ⟨tw, to, rfl, KW, KF, b4⟩; have KO := KO.below b4; have h4 := h3.below b4)))
      go_loopw [40] (fun iv wr => ∃ j : Nat, j ≤ k + 1 ∧ iv = .int .i64 (j : Nat) ∧ WS w0 wr p R (L ++ be1 (wd : Nat) ++ ((offT 1 Ls).take j).flatMap fun o => beN wd ((o : Nat) : Int)) ∧ Blk wr tw 3 #[.int .i64 (wd : Nat)] ∧ Blk wr to 60 #[.func (.func 39) #[.pointer (some ⟨p, 0, none⟩)] #[]] ∧ Blk wr g 3 cur) (fun iv _ => k + 1 - (intOf iv).toNat)
      case atStart => exact ⟨0, Nat.zero_le _, rfl, by simpa using h4, KW, KF, KO⟩
      case round =>
        obtain ⟨j, hj, rfl, HJ, KW, KF, KO⟩ := hrel
        clear h3 h4 s3 hWS
        by_cases hlt : j < k + 1
        · have d1 : decide ((j : Int) < (k : Int) + 1) = true := by simp; omega
          obtain ⟨of, hof⟩ : ∃ of, (offT 1 Ls)[j]? = some of := ⟨(offT 1 Ls)[j]'(by rw [HOL.out]; exact hlt), List.getElem?_eq_getElem _⟩
          have hcc := HC.out j (.int .i64 (of : Int)) (by simp [intCells, hof])
          have g0 := (KO.cell j).trans hcc
          have gl := KO.lt
          have HT2 := Lib.hid (show (offT 1 Ls).take (j + 1) = (offT 1 Ls).take j ++ [of] by rw [List.take_add_one, hof]; rfl)
          have hlen : ∀ l : List Nat, (l.flatMap fun o => beN wd ((o : Nat) : Int)).length = l.length * wd := fun l => by
            induction l with
            | nil => simp
            | cons x l ih => rw [List.flatMap_cons, List.length_append, ih, beN_len hw1.1 hw1.2, List.length_cons, Nat.add_mul]; omega
          have hl2 : (L ++ be1 (wd : Nat) ++ ((offT 1 Ls).take j).flatMap fun o => beN wd ((o : Nat) : Int)).length + wd ≤ R := by
            rw [List.length_append, List.length_append, hlen, List.length_take, HOL.out]
            have h5 : min j (k + 1) * wd ≤ 65535 * 3 := Nat.mul_le_mul (by omega) hw1.2
            simp [be1]
            omega
          have CX := writing1_any wd hw1.1 hw1.2 w0 wr p R tw to _ (of : Nat) HJ hl2 hR KW KF
          clear hof hcc hlen hl2
          go_wp2_with (go_at_call 44; ((with_reducible refine (CX).mono ?_); rintro e w5 ⟨rfl, h5, s5, z5⟩))
          go_roundw
          case rel => exact ⟨j + 1, by omega, by go_num, by rw [HT2.out, List.flatMap_append]; simpa using h5, s5 _ _ _ (by decide) (by decide) (by decide) KW, s5 _ _ _ (by decide) (by decide) (by decide) KF, s5 _ _ _ (by decide) (by decide) (by decide) KO⟩
          case measure => simp [intOf]; omega
        · obtain rfl : j = k + 1 := by omega
          have d1 : decide (((k + 1 : Nat) : Int) < (k : Int) + 1) = false := by simp
          rw [List.take_of_length_le (by rw [HOL.out]; exact Nat.le_refl _)] at HJ
          have HF := Lib.hid (show WS w0 wr p R (L ++ offE Ls) by rw [HE.out, ← List.append_assoc]; exact HJ)
          clear HJ
          go_wp2
          go_end0
          exact ⟨rfl, HF.out⟩
end Go.Proofs.Ytpaenjalpcdamaa

namespace Go.Proofs.Ytpaenjalpcdamaa
open Go Go.RowKit
set_option linter.unusedVariables false
set_option linter.unusedSimpArgs false

theorem atB_some {α : Type} {L : List α} {k : Nat} (h : k < L.length) : ∃ x, L[k]? = some x := ⟨L[k]'h, List.getElem?_eq_getElem _⟩
theorem rowInfoB : (Try.prog.info? 22).map (fun i => (i.zero, i.size, i.bytes)) = some (some (.slice none 0 0), 1, 24) := by kernel_rfl
theorem listsB_new1 (w : World) (v : Value) (T : TypeId) : Lists (w.alloc (.cells #[v] T)) (w.heap.size + 1) (some ⟨w.heap.size, 0, none⟩) [v] :=
  ⟨fun ha => (nomatch ha), fun a ha j u hu => by
    cases ha
    have : j = 0 := by
      have := (List.getElem?_eq_some_iff.1 hu).1
      simp at this; omega
    subst this
    simp at hu; subst hu
    rw [addr_plain, World.cell?_alloc_new]; rfl, fun a ha _ => by cases ha; simp⟩
theorem ownB_none (w : World) (T : TypeId) (size : Nat) : (w.alloc (.cells #[] T)).ownsRow w.heap.size T size (.slice (some ⟨w.heap.size, 0, none⟩) 0 0) 0 [] :=
  ⟨by simp, .inr ⟨w.heap.size, 0, #[], rfl, Nat.le_refl _, heap_alloc_new w _, Nat.le_refl _, Nat.zero_le _, by simp, by simp⟩⟩
theorem ownB_low2 {w : World} {base : Nat} {e : TypeId} {size n : Nat} {v : Value} {xs : List Value} (h : w.ownsRow base e size v n xs) : ∀ b ∈ blk v, base ≤ b := by
  intro b hm
  rcases h.2 with ⟨rfl, _⟩ | ⟨g, cap, cur, rfl, h2, _⟩
  · simp [blk, Value.ownBlock] at hm
  · have : b = g := by simpa [blk, Value.ownBlock] using hm
    omega
theorem ownB_stay {w w1 : World} {base : Nat} {e : TypeId} {size n : Nat} {v : Value} {xs : List Value} (h : w.ownsRow base e size v n xs) (b : Below w.heap.size w w1) : w1.ownsRow base e size v n xs :=
  own_only h (Only.of_below b []) fun _ _ h => (nomatch h)
theorem ownB_slice {w : World} {base : Nat} {e : TypeId} {size n : Nat} {v : Value} {xs : List Value} (h : w.ownsRow base e size v n xs) : v.oneCell' = true := by
  obtain ⟨A, c, rfl, _⟩ := own_lists h
  rfl

theorem ownB_mono {w : World} {base base1 : Nat} {e : TypeId} {size n : Nat} {v : Value} {xs : List Value} (h : w.ownsRow base e size v n xs) (hb : base1 ≤ base) : w.ownsRow base1 e size v n xs := by
  refine ⟨h.1, ?_⟩
  rcases h.2 with h1 | ⟨g, cap, cur, h1, h2, h3⟩
  · exact .inl h1
  · exact .inr ⟨g, cap, cur, h1, Nat.le_trans hb h2, h3⟩
def InnerB (w : World) (base : Nat) (Ls : List (List Value)) (rows : List Value) : Prop :=
  (∀ (i : Nat) (L : List Value), Ls[i]? = some L → ∃ r, rows[i]? = some r ∧ w.ownsRow base 5 1 r L.length L) ∧
  ∀ (i j : Nat) (r s : Value), i ≠ j → rows[i]? = some r → rows[j]? = some s → ∀ b ∈ blk r, b ∉ blk s
/-- An outline that the call owns: the list of contours, and each contour in memory of its own. -/
def Own2B (w : World) (base : Nat) (v : Value) (Ls : List (List Value)) : Prop :=
  ∃ rows : List Value, w.ownsRow base 22 1 v Ls.length rows ∧ InnerB w base Ls rows
theorem Own2B.nil (w : World) (base : Nat) : Own2B w base (.slice none 0 0) [] := ⟨[], World.ownsRow_nil _ _ _ _, fun i L h => by simp at h, fun i j r s _ h => by simp at h⟩
theorem InnerB.below {w w1 : World} {base : Nat} {Ls : List (List Value)} {rows : List Value} (h : InnerB w base Ls rows) (b : Below w.heap.size w w1) : InnerB w1 base Ls rows :=
  ⟨fun i L hL => by
    obtain ⟨r, h1, h2⟩ := h.1 i L hL
    exact ⟨r, h1, ownB_stay h2 b⟩, h.2⟩
theorem Own2B.below {w w1 : World} {base : Nat} {v : Value} {Ls : List (List Value)} (h : Own2B w base v Ls) (b : Below w.heap.size w w1) : Own2B w1 base v Ls := by
  obtain ⟨rows, h1, h2⟩ := h
  exact ⟨rows, ownB_stay h1 b, h2.below b⟩
theorem Own2B.mono {w : World} {base base1 : Nat} {v : Value} {Ls : List (List Value)} (h : Own2B w base v Ls) (hb : base1 ≤ base) : Own2B w base1 v Ls := by
  obtain ⟨rows, h1, h2, h3⟩ := h
  refine ⟨rows, ownB_mono h1 hb, fun i L hL => ?_, h3⟩
  obtain ⟨r, h4, h5⟩ := h2 i L hL
  exact ⟨r, h4, ownB_mono h5 hb⟩
theorem own2B_push {w w1 W w2 : World} {base : Nat} {v v2 r : Value} {Ls : List (List Value)} {L : List Value} {rows : List Value} (hb : base ≤ w.heap.size) (ho : w.ownsRow base 22 1 v Ls.length rows) (hi : InnerB w base Ls rows)
    (b1 : Below w.heap.size w w1) (hr : w1.ownsRow w.heap.size 5 1 r L.length L) (b2 : Below w1.heap.size w1 W) (own2 : w2.ownsRow base 22 1 v2 (Ls.length + 1) (rows ++ [r])) (hg : W.grownBy w2 v.ownBlock) : Own2B w2 base v2 (Ls ++ [L]) := by
  have o2 : Only W w2 (blk v) := (Only.refl _ _).grown hg (fun b hb => .inl (by simp [blk, hb]))
  have hoW := ownB_stay (ownB_stay ho b1) b2
  have hlen : rows.length = Ls.length := by simpa using ho.1
  have stay : ∀ {q : Value} {m : Nat} {cs : List Value}, W.ownsRow base 5 1 q m cs → w2.ownsRow base 5 1 q m cs := fun hq => own_only hq o2 (fun b h1 h2 => own_own hq hoW (by decide) b h1 h2)
  refine ⟨rows ++ [r], by simpa using own2, fun i M hM => ?_, fun i j p s hne hp hs b hbp hbs => ?_⟩
  · rcases Nat.lt_or_ge i Ls.length with h | h
    · rw [List.getElem?_append_left h] at hM
      obtain ⟨q, h1, h2⟩ := hi.1 i M hM
      exact ⟨q, by rw [List.getElem?_append_left (by omega)]; exact h1, stay (ownB_stay (ownB_stay h2 b1) b2)⟩
    · have h0 : i = Ls.length := by
        have := (List.getElem?_eq_some_iff.1 hM).1
        simp at this; omega
      subst h0
      simp at hM
      subst hM
      refine ⟨r, by rw [← hlen]; simp, stay (ownB_mono (ownB_stay hr b2) hb)⟩
  · have hlast : ∀ (k : Nat) (x : Value), (rows ++ [r])[k]? = some x → (k < rows.length ∧ rows[k]? = some x) ∨ (k = rows.length ∧ x = r) := fun k x hx => by
      rcases Nat.lt_or_ge k rows.length with h | h
      · rw [List.getElem?_append_left h] at hx
        exact .inl ⟨h, hx⟩
      · have h0 : k = rows.length := by
          have := (List.getElem?_eq_some_iff.1 hx).1
          simp at this; omega
        subst h0
        simp at hx
        exact .inr ⟨rfl, hx.symm⟩
    have old : ∀ (k : Nat) (x : Value), k < rows.length → rows[k]? = some x → ∀ b ∈ blk x, b < w.heap.size := fun k x hk hx b hm => by
      obtain ⟨M, hM⟩ := atB_some (L := Ls) (k := k) (by omega)
      obtain ⟨q, h1, h2⟩ := hi.1 k M hM
      rw [hx] at h1; cases h1
      exact blk_lt h2 b hm
    have new : ∀ b ∈ blk r, w.heap.size ≤ b := ownB_low2 hr
    rcases hlast i p hp with ⟨h1, h2⟩ | ⟨h1, rfl⟩
    · rcases hlast j s hs with ⟨h3, h4⟩ | ⟨h3, rfl⟩
      · exact hi.2 i j p s hne h2 h4 b hbp hbs
      · have := old i p h1 h2 b hbp
        have := new b hbs
        omega
    · rcases hlast j s hs with ⟨h3, h4⟩ | ⟨h3, rfl⟩
      · have := old j s h3 h4 b hbs
        have := new b hbp
        omega
      · omega
theorem Own2B.out {w : World} {base : Nat} {v : Value} {Ls : List (List Value)} (h : Own2B w base v Ls) : ∃ A c, v = .slice A Ls.length c ∧ RowsAt w w.heap.size A Ls := by
  obtain ⟨rows, h1, h2, _⟩ := h
  obtain ⟨A, c, rfl, hl, hc⟩ := own_lists h1
  refine ⟨A, c, rfl, ⟨fun i L hL => ?_⟩⟩
  obtain ⟨r, hr, hro⟩ := h2 i L hL
  obtain ⟨Ai, ci, rfl, hli, _⟩ := own_lists hro
  obtain ⟨b, o, rfl, hb, hcell⟩ := hl.plain (by intro e; subst e; simp at hr)
  exact ⟨b, o, Ai, ci, rfl, hb, hcell i _ hr, hli⟩

end Go.Proofs.Ytpaenjalpcdamaa

namespace Go.Proofs.Ytpaenjalpcdamaa
open Go Go.RowKit

theorem rises_prefix (most : Int) : ∀ (l r : List Int) (last : Int), rises most last (l ++ r) = true → rises most last l = true
  | [], _, _, _ => rfl
  | x :: l, r, last, h => by
    simp only [List.cons_append, rises, Bool.and_eq_true] at h ⊢
    exact ⟨h.1, rises_prefix most l r x h.2⟩
theorem rises_take_no {most : Int} {L : List Int} {k : Nat} (h : rises most 0 (L.take k) = false) : rises most 0 L = false := by
  cases hr : rises most 0 L
  · rfl
  · rw [← List.take_append_drop k L] at hr
    rw [rises_prefix most _ _ _ hr] at h
    cases h
theorem take_snoc0 {α : Type} {L : List α} {k : Nat} {x : α} (h : L[k]? = some x) : L.take (k + 1) = L.take k ++ [x] := by
  rw [List.take_add_one, h]; rfl

end Go.Proofs.Ytpaenjalpcdamaa

namespace Go.Proofs.Ytpaenjalpcdamaa
open Go Go.RowKit
set_option linter.unusedVariables false
set_option linter.unusedSimpArgs false
variable {q : Nat → Prop}

/-- The number of n bytes at k. -/
def rdB (bs : List Value) : Nat → Nat → Nat
  | 0, _ => 0
  | n + 1, k => rdB bs n k * 256 + byteAt bs (k + n)
theorem rdB_lt {bs : List Value} (h : Bytes8 bs) : ∀ n k, n ≤ 4 → rdB bs n k < 4294967296
  | 0, k, _ => by simp [rdB]
  | 1, k, _ => by have := byteAt_lt h (k + 0); simp only [rdB]; omega
  | 2, k, _ => by have := byteAt_lt h (k + 0); have := byteAt_lt h (k + 1); simp only [rdB]; omega
  | 3, k, _ => by have := byteAt_lt h (k + 0); have := byteAt_lt h (k + 1); have := byteAt_lt h (k + 2); simp only [rdB]; omega
  | 4, k, _ => by have := byteAt_lt h (k + 0); have := byteAt_lt h (k + 1); have := byteAt_lt h (k + 2); have := byteAt_lt h (k + 3); simp only [rdB]; omega
set_option maxRecDepth 100000 in
theorem reading_any (n p : Nat) (v : Value) (w : World) (hv : v = .func (.func 21) #[.pointer (some ⟨p, 0, none⟩)] #[]) : Calls Try.prog 23 #[.int .i64 (n : Nat), v] w fun e w' => ∃ tw to, e = .returned (.func (.func 35) #[] #[.pointer (some ⟨tw, 0, none⟩), .pointer (some ⟨to, 0, none⟩)]) ∧ Blk w' tw 3 #[.int .i64 (n : Nat)] ∧ Blk w' to 43 #[.func (.func 21) #[.pointer (some ⟨p, 0, none⟩)] #[]] ∧ Below w.heap.size w w' ∧ w.heap.size ≤ tw ∧ w.heap.size ≤ to := by
  subst hv
  have al : Below w.heap.size w (w.alloc (.cells #[.int .i64 (n : Nat)] 3)) := (Below.refl _ _).alloc (Nat.le_refl _) _
  have k1 := (Blk.new w 3 #[.int .i64 (n : Nat)]).below ((Below.refl _ _).alloc (Nat.le_refl _) (.cells #[.func (.func 21) #[.pointer (some ⟨p, 0, none⟩)] #[]] 43))
  have k2 := Blk.new (w.alloc (.cells #[.int .i64 (n : Nat)] 3)) 43 #[.func (.func 21) #[.pointer (some ⟨p, 0, none⟩)] #[]]
  have B2 := al.alloc al.size (.cells #[.func (.func 21) #[.pointer (some ⟨p, 0, none⟩)] #[]] 43)
  go_enter Try.func23, Try.ntmps23
  go_wp2
  go_ret
  exact ⟨_, _, rfl, k1, by simpa using k2, B2, Nat.le_refl _, by omega⟩
set_option maxRecDepth 100000 in
set_option maxHeartbeats 1000000 in
theorem reading1_any (p tw to k n : Nat) (bs : List Value) (w : World) (h : RS q w p bs k) (hL : bs.length ≤ 4611686018427387904) (hn : n ≤ 4) (hk : k + n ≤ bs.length) (K1 : Blk w tw 3 #[.int .i64 (n : Nat)]) (K2 : Blk w to 43 #[.func (.func 21) #[.pointer (some ⟨p, 0, none⟩)] #[]]) (n1 : tw ≠ p) (n2 : to ≠ p) :
    Calls Try.prog 35 #[.pointer (some ⟨tw, 0, none⟩), .pointer (some ⟨to, 0, none⟩)] w fun e w' => e = .returned (.int .i64 (rdB bs n k : Nat)) ∧ RS q w' p bs (k + n) ∧ Only w w' [p] := by
  have h8 := h.bytes
  have HB := Lib.hid (fun j => rdB_lt h8 j k)
  have H8 := Lib.hid h8
  clear h8
  have c1 := K1.cell 0
  have l1 := K1.lt
  simp only [List.getElem?_toArray, List.getElem?_cons_zero] at c1
  go_enter Try.func35, Try.ntmps35
  go_wp2
  go_loopw [3, 5] (fun xv iv wr => ∃ j : Nat, j ≤ n ∧ iv = .int .i64 (j : Nat) ∧ xv = .int .i64 (rdB bs j k : Nat) ∧ RS q wr p bs (k + j) ∧ Only w wr [p]) (fun _ iv _ => n - (intOf iv).toNat)
  case atStart => exact ⟨0, Nat.zero_le _, rfl, rfl, h, Only.refl _ _⟩
  case round =>
    obtain ⟨j, hj, rfl, rfl, hr, ho⟩ := hrel
    by_cases hlt : j < n
    · have d1 : decide ((j : Int) < (n : Int)) = true := by simp; omega
      have KF := K2.only ho (by simpa using n2)
      have c2 := KF.cell 0
      have l2 := KF.lt
      simp only [List.getElem?_toArray, List.getElem?_cons_zero] at c2
      have CU := rsU8 p bs (k + j) wr hr hL
      obtain ⟨x, hx⟩ : ∃ x : Nat, x = byteAt bs (k + j) := ⟨_, rfl⟩
      have hxl : x < 256 := hx ▸ byteAt_lt H8.out _
      rw [show rsn bs 1 (k + j) (byteAt bs (k + j)) = x by unfold rsn; rw [if_pos (by omega), hx]] at CU
      have ha := HB.out j (by omega)
      have HX := Lib.hid (show rdB bs (j + 1) k = rdB bs j k * 256 + x by rw [hx]; rfl)
      generalize rdB bs j k = a at *
      have s1 : bits .or .i64 (wrap64 ((a : Int) * 256)) (x : Int) = ((a * 256 + x : Nat) : Int) := or_next a x (by omega) hxl
      have HA := Lib.hid ha
      clear hx ha
      go_wp2_with (go_at_call 21; ((with_reducible refine (CU).mono ?_); rintro e w2 ⟨rfl, h2, o2⟩))
      go_roundw
      case rel => exact ⟨j + 1, by omega, by go_num, by rw [HX.out]; go_num, by rw [← Nat.add_assoc]; exact h2, ho.trans o2 (fun b hb => .inl hb)⟩
      case measure => simp [intOf]; omega
    · obtain rfl : j = n := by omega
      have d1 : decide ((j : Int) < (j : Int)) = false := by simp
      go_wp2
      go_ret
      exact ⟨rfl, hr, ho⟩
/-- The offset of number i, from 0 on. -/
def offI (bs : List Value) (wd i : Nat) : Int := (rdB bs wd (i * wd) : Nat) - 1
/-- What is ahead of it. -/
def lastO (bs : List Value) (wd : Nat) : Nat → Int
  | 0 => 0
  | i + 1 => offI bs wd i
/-- May it stand there? -/
def okO (bs : List Value) (wd j : Nat) : Bool := decide (¬ (offI bs wd j < lastO bs wd j ∨ (j = 0 ∧ offI bs wd j ≠ 0)))
def okOs (bs : List Value) (wd m : Nat) : Bool := (List.range m).all (okO bs wd)
def offsL (bs : List Value) (wd m : Nat) : List Int := (List.range m).map (offI bs wd)
set_option maxRecDepth 100000 in
set_option maxHeartbeats 2000000 in
theorem readOffsets_any (p tw to wd m : Nat) (bs : List Value) (w : World) (h : RS q w p bs 0) (hq : ∀ b, q b → b < w.heap.size) (hp : p < w.heap.size) (hL : bs.length ≤ 4611686018427387904) (hw4 : wd ≤ 4) (hm : m ≤ 65536) (hk : m * wd ≤ bs.length) (K1 : Blk w tw 3 #[.int .i64 (wd : Nat)]) (K2 : Blk w to 43 #[.func (.func 21) #[.pointer (some ⟨p, 0, none⟩)] #[]]) (n1 : tw ≠ p) (n2 : to ≠ p) :
    Calls Try.prog 22 #[.int .i64 (m : Nat), .func (.func 35) #[] #[.pointer (some ⟨tw, 0, none⟩), .pointer (some ⟨to, 0, none⟩)]] w fun e w' => (okOs bs wd m = true → ∃ v, e = .returned (.tuple #[v, .bool true]) ∧ w'.ownsRow w.heap.size 3 1 v m (intCells (offsL bs wd m))) ∧ (okOs bs wd m = false → e = .returned (.tuple #[.slice none 0 0, .bool false])) ∧ Only w w' [p] := by
  have h8 := h.bytes
  have HB := Lib.hid (fun k => rdB_lt h8 wd k hw4)
  have HQ := Lib.hid hq
  have HLL := Lib.hid hL
  clear hq hL h8
  obtain ⟨i0, hi, hz0, hz1, hz2⟩ := info_parts intInfoI
  go_enter Try.func22, Try.ntmps22
  go_wp2
  go_loopw [6, 7, 11] (fun rv lv iv wr => ∃ j : Nat, j ≤ m ∧ iv = .int .i64 (j : Nat) ∧ lv = .int .i64 (lastO bs wd j) ∧ Hid (okOs bs wd j = true) ∧ wr.ownsRow w.heap.size 3 1 rv j (intCells (offsL bs wd j)) ∧ RS q wr p bs (j * wd) ∧ Only w wr [p]) (fun _ _ iv _ => m - (intOf iv).toNat)
  case atStart => exact ⟨0, Nat.zero_le _, rfl, rfl, Lib.hid rfl, World.ownsRow_nil _ _ _ _, by simpa using h, Only.refl _ _⟩
  case round =>
    obtain ⟨j, hj, rfl, rfl, hok, hown, hr, ho⟩ := hrel
    by_cases hlt : j < m
    · have d1 : decide ((j : Int) < (m : Int)) = true := by simp; omega
      have hjw : j * wd + wd ≤ bs.length := by
        have : (j + 1) * wd ≤ m * wd := Nat.mul_le_mul_right _ hlt
        rw [Nat.add_mul, Nat.one_mul] at this
        omega
      have CR := reading1_any p tw to (j * wd) wd bs wr hr HLL.out hw4 hjw (K1.only ho (by simpa using n1)) (K2.only ho (by simpa using n2)) n1 n2
      have hrl := HB.out (j * wd)
      have h0 : -1 ≤ offI bs wd j := by unfold offI; omega
      obtain ⟨x, hx⟩ : ∃ x : Int, x = offI bs wd j := ⟨_, rfl⟩
      have s1 : wrap64 (((rdB bs wd (j * wd) : Nat) : Int) - 1) = x := by rw [hx]; unfold offI wrap64; omega
      have HN0 := Lib.hid (show intCells (offsL bs wd (j + 1)) = intCells (offsL bs wd j) ++ [.int .i64 x] by rw [hx]; unfold offsL intCells; rw [List.range_succ, List.map_append, List.map_append]; rfl)
      have HLa := Lib.hid (show lastO bs wd (j + 1) = x by rw [hx]; rfl)
      have HM := Lib.hid (show (j + 1) * wd = j * wd + wd by rw [Nat.add_mul, Nat.one_mul])
      have hdef : okO bs wd j = decide (¬ (x < lastO bs wd j ∨ (j = 0 ∧ x ≠ 0))) := by rw [hx]; rfl
      generalize lastO bs wd j = la at *
      obtain ⟨rv0, hrv⟩ : ∃ rv0, rdB bs wd (j * wd) = rv0 := ⟨_, rfl⟩
      rw [hrv] at CR hrl
      have hx2 : x = (rv0 : Int) - 1 := by rw [hx, ← hrv]; rfl
      clear hrv s1 hx
      subst hx2
      have HN := HN0
      clear HN0
      cases hoj : okO bs wd j
      · have HFail := Lib.hid (show okOs bs wd m = false by
          refine Bool.eq_false_iff.2 fun h => ?_
          have := List.all_eq_true.1 h j (List.mem_range.2 hlt)
          rw [hoj] at this
          cases this)
        rw [hoj] at hdef
        have ht2 : (rv0 : Int) - 1 < la ∨ (j = 0 ∧ (rv0 : Int) - 1 ≠ 0) := Decidable.of_not_not (of_decide_eq_false hdef.symm)
        clear hdef hoj
        rcases ht2 with h | ⟨rfl, h⟩
        · go_wp2_with (go_at_call 35; ((with_reducible refine (CR).mono ?_); rintro e w2 ⟨rfl, h2, o2⟩))
          exact bodyPost_ret (v := .tuple #[.slice none 0 0, .bool false]) (by simp [results, Try.results22, go_sem]) rfl ⟨(fun h => by rw [HFail.out] at h; cases h), fun _ => rfl, ho.trans o2 (fun b hb => .inl hb)⟩
        · have hb2 : (((rv0 : Int) - 1) != 0) = true := by simpa using h
          have hb3 : (((rv0 : Int) - 1) == 0) = false := by simpa using h
          by_cases hla : (rv0 : Int) - 1 < la
          all_goals
            go_wp2_with (go_at_call 35; ((with_reducible refine (CR).mono ?_); rintro e w2 ⟨rfl, h2, o2⟩))
            exact bodyPost_ret (v := .tuple #[.slice none 0 0, .bool false]) (by simp [results, Try.results22, go_sem]) rfl ⟨(fun h => by rw [HFail.out] at h; cases h), fun _ => rfl, ho.trans o2 (fun b hb => .inl hb)⟩
      · rw [hoj] at hdef
        have hno := of_decide_eq_true hdef.symm
        have hnl : ¬ (rv0 : Int) - 1 < la := fun h => hno (.inl h)
        have hz : j ≠ 0 ∨ (j = 0 ∧ rv0 = 1) := by omega
        have HOK := Lib.hid (show okOs bs wd (j + 1) = true by
          have := hok.out
          unfold okOs at this ⊢
          rw [List.range_succ, List.all_append, this]
          simp [hoj])
        clear hdef hno hoj
        generalize intCells (offsL bs wd j) = xs at *
        have hlow := own_lowI hown
        have hsz := ho.size
        rcases hz with hz | ⟨rfl, rfl⟩
        · go_wp2_with (first
            | (go_at_call 35; ((with_reducible refine (CR).mono ?_); rintro e w1 ⟨rfl, hr1, o1⟩; have own1 := own_only hown o1 (fun b hb e => by have := hlow b hb; simp at e; omega); have own1 := own_only own1 ((Only.refl w1 []).alloc (.cells #[.int .i64 ((rv0 : Int) - 1)] 3)) (fun _ _ h => (nomatch h)); have r1 := hr1.below ((Below.refl _ _).alloc (Nat.le_refl _) (.cells #[.int .i64 ((rv0 : Int) - 1)] 3)); have ho1 := (ho.trans o1 (fun b hb => .inl hb)).alloc (.cells #[.int .i64 ((rv0 : Int) - 1)] 3); have hs1 := ho1.size))
            | (at_builtin; refine wpList_append_src _ rfl (.tmp 28) (.tmp 30) 48 rfl w.heap.size 3 i0 (.int .i64 0) 1 8 Try.underlying48 hi hz0 hz1 hz2 rfl (by decide) u6 j xs rfl own1 (w1.heap.size + 1) (some ⟨w1.heap.size, 0, none⟩) 1 1 [.int .i64 ((rv0 : Int) - 1)] (by rfl) (lists_row w1 [.int .i64 ((rv0 : Int) - 1)] 3) rfl (by simp [Value.oneCell']) (by simp only [maxLen]; omega) (by omega) hs1 ?_; intro v2 w2 own2 hg2 hat2; have hlow2 := own_lowI own2; have g3 : Only _ w2 (blk u6) := (Only.refl _ _).grown hg2 (fun b hb => .inl (by have hb' : u6.ownBlock = some b := hb; simp [blk, hb'])); have r2 := r1.only g3 (fun hm => by have := hlow p hm; omega) (fun b hb hqb => by have := hlow b hb; have := HQ.out b hqb; omega); have ho2 := ho1.trans g3 (fun b hb => .inr (hlow b hb))))
          go_roundw
          case rel => exact ⟨j + 1, by omega, by go_num, by rw [HLa.out] <;> rfl, HOK, by rw [HN.out]; exact own2, by rw [HM.out]; exact r2, ho2⟩
          case measure => simp [intOf]; omega
        · have hnl2 : ¬ (0 : Int) < la := hnl
          clear hnl
          go_wp2_with (first
            | (go_at_call 35; ((with_reducible refine (CR).mono ?_); rintro e w1 ⟨rfl, hr1, o1⟩; have own1 := own_only hown o1 (fun b hb e => by have := hlow b hb; simp at e; omega); have own1 := own_only own1 ((Only.refl w1 []).alloc (.cells #[.int .i64 0] 3)) (fun _ _ h => (nomatch h)); have r1 := hr1.below ((Below.refl _ _).alloc (Nat.le_refl _) (.cells #[.int .i64 0] 3)); have ho1 := (ho.trans o1 (fun b hb => .inl hb)).alloc (.cells #[.int .i64 0] 3); have hs1 := ho1.size))
            | (at_builtin; refine wpList_append_src _ rfl (.tmp 28) (.tmp 30) 48 rfl w.heap.size 3 i0 (.int .i64 0) 1 8 Try.underlying48 hi hz0 hz1 hz2 rfl (by decide) u6 0 xs rfl own1 (w1.heap.size + 1) (some ⟨w1.heap.size, 0, none⟩) 1 1 [.int .i64 0] (by rfl) (lists_row w1 [.int .i64 0] 3) rfl (by simp [Value.oneCell']) (by simp only [maxLen]; omega) (by omega) hs1 ?_; intro v2 w2 own2 hg2 hat2; have hlow2 := own_lowI own2; have g3 : Only _ w2 (blk u6) := (Only.refl _ _).grown hg2 (fun b hb => .inl (by have hb' : u6.ownBlock = some b := hb; simp [blk, hb'])); have r2 := r1.only g3 (fun hm => by have := hlow p hm; omega) (fun b hb hqb => by have := hlow b hb; have := HQ.out b hqb; omega); have ho2 := ho1.trans g3 (fun b hb => .inr (hlow b hb))))
          go_roundw
          case rel => exact ⟨0 + 1, by omega, by go_num, (by rw [HLa.out]; rfl), HOK, by rw [HN.out]; exact own2, by rw [HM.out]; exact r2, ho2⟩
          case measure => simp [intOf]; omega
    · obtain rfl : j = m := by omega
      have d1 : decide ((j : Int) < (j : Int)) = false := by simp
      go_wp2
      exact bodyPost_ret (v := .tuple #[u6, .bool true]) (by simp [results, Try.results22, go_sem]) rfl ⟨fun _ => ⟨_, rfl, hown⟩, (fun h => by rw [hok.out] at h; cases h), ho⟩
end Go.Proofs.Ytpaenjalpcdamaa
