/- Part 11 of the proof: Hr1, Rw1, Rw2, Hr2, Hr2L, Hr2H. -/
import Derived.LoopTactic
import Derived.Outline
import Derived.Test.YtbomgaacahaofaaCP9

namespace Go.Proofs.Ytbomgaacahaofaa
open Go Go.RowKit

set_option linter.unusedVariables false
set_option linter.unusedSimpArgs false
theorem rword (x : Int) (w : World) : Calls Try.prog 26 #[.int .i64 x] w fun e w' => e = .returned (.bool (inW x)) ∧ w = w' := by
  by_cases h1 : 0 ≤ x
  · have d1 : decide (0 ≤ x) = true := decide_eq_true h1
    by_cases h2 : x < 65536
    · have d2 : decide (x < 65536) = true := decide_eq_true h2
      have e : inW x = true := by unfold inW; simp; omega
      rw [e]
      clear e
      go_enter Try.func26, Try.ntmps26
      go_wp2
      go_ret
      exact ⟨rfl, rfl⟩
    · have d2 : decide (x < 65536) = false := decide_eq_false h2
      have e : inW x = false := by unfold inW; simp; omega
      rw [e]
      clear e
      go_enter Try.func26, Try.ntmps26
      go_wp2
      go_ret
      exact ⟨rfl, rfl⟩
  · have d1 : decide (0 ≤ x) = false := decide_eq_false h1
    have e : inW x = false := by unfold inW; simp; omega
    rw [e]
    clear e
    go_enter Try.func26, Try.ntmps26
    go_wp2
    go_ret
    exact ⟨rfl, rfl⟩
theorem rsigned (x : Int) (w : World) : Calls Try.prog 27 #[.int .i64 x] w fun e w' => e = .returned (.bool (inS x)) ∧ w = w' := by
  by_cases h1 : -32768 ≤ x
  · have d1 : decide (-32768 ≤ x) = true := decide_eq_true h1
    by_cases h2 : x < 32768
    · have d2 : decide (x < 32768) = true := decide_eq_true h2
      have e : inS x = true := by unfold inS; simp; omega
      rw [e]
      clear e
      go_enter Try.func27, Try.ntmps27
      go_wp2
      go_ret
      exact ⟨rfl, rfl⟩
    · have d2 : decide (x < 32768) = false := decide_eq_false h2
      have e : inS x = false := by unfold inS; simp; omega
      rw [e]
      clear e
      go_enter Try.func27, Try.ntmps27
      go_wp2
      go_ret
      exact ⟨rfl, rfl⟩
  · have d1 : decide (-32768 ≤ x) = false := decide_eq_false h1
    have e : inS x = false := by unfold inS; simp; omega
    rw [e]
    clear e
    go_enter Try.func27, Try.ntmps27
    go_wp2
    go_ret
    exact ⟨rfl, rfl⟩
set_option maxRecDepth 100000 in
set_option maxHeartbeats 4000000 in
theorem rMayGlyphs (a0 : Int) (b1 : Bool) (w : World) : Calls Try.prog 17 #[.agg #[.int .i64 a0, .bool b1]] w fun e w' => e = .returned (.bool (mayG a0)) ∧ Below w.heap.size w w' := by
  cases k0 : decide (1 ≤ a0)
  · have e : (mayG a0) = false := by unfold mayG; simp only [k0, Bool.true_and, Bool.and_true, Bool.false_and, Bool.and_false]
    rw [e]
    clear e
    have b0 : Below w.heap.size w (w.alloc (.cells #[.int .i64 a0, .bool b1] 40)) := (Below.refl _ _).alloc (Nat.le_refl _) _
    have HB := Lib.hid b0
    clear b0
    go_enter Try.func17, Try.ntmps17
    go_wp2
    go_ret
    exact ⟨rfl, HB.out⟩
  cases k1 : decide (a0 ≤ 65535)
  · have e : (mayG a0) = false := by unfold mayG; simp only [k0, k1, Bool.true_and, Bool.and_true, Bool.false_and, Bool.and_false]
    rw [e]
    clear e
    have b0 : Below w.heap.size w (w.alloc (.cells #[.int .i64 a0, .bool b1] 40)) := (Below.refl _ _).alloc (Nat.le_refl _) _
    have HB := Lib.hid b0
    clear b0
    go_enter Try.func17, Try.ntmps17
    go_wp2
    go_ret
    exact ⟨rfl, HB.out⟩
  have e : (mayG a0) = true := by unfold mayG; simp only [k0, k1, Bool.true_and, Bool.and_true, Bool.false_and, Bool.and_false]
  rw [e]
  clear e
  have b0 : Below w.heap.size w (w.alloc (.cells #[.int .i64 a0, .bool b1] 40)) := (Below.refl _ _).alloc (Nat.le_refl _) _
  have HB := Lib.hid b0
  clear b0
  go_enter Try.func17, Try.ntmps17
  go_wp2
  go_ret
  exact ⟨rfl, HB.out⟩
set_option maxRecDepth 100000 in
set_option maxHeartbeats 4000000 in
theorem rMayLines (a0 a1 a2 a3 : Int) (w : World) : Calls Try.prog 20 #[.agg #[.int .i64 a0, .int .i64 a1, .int .i64 a2, .int .i64 a3]] w fun e w' => e = .returned (.bool (mayL a0 a1 a2 a3)) ∧ Below w.heap.size w w' := by
  cases k0 : inS a0
  · have C0 := fun w => rsigned a0 w
    rw [k0] at C0
    have e : (mayL a0 a1 a2 a3) = false := by unfold mayL mayG; simp only [k0, Bool.true_and, Bool.and_true, Bool.false_and, Bool.and_false]
    rw [e]
    clear e
    have b0 : Below w.heap.size w (w.alloc (.cells #[.int .i64 a0, .int .i64 a1, .int .i64 a2, .int .i64 a3] 50)) := (Below.refl _ _).alloc (Nat.le_refl _) _
    have HB := Lib.hid b0
    clear b0
    go_enter Try.func20, Try.ntmps20
    go_wp2_with (first | (go_at_call 27; ((with_reducible refine (C0 _).mono ?_); rintro e w' ⟨rfl, rfl⟩)) | fail)
    go_ret
    exact ⟨rfl, HB.out⟩
  cases k1 : inS a1
  · have C0 := fun w => rsigned a0 w
    rw [k0] at C0
    have C1 := fun w => rsigned a1 w
    rw [k1] at C1
    have e : (mayL a0 a1 a2 a3) = false := by unfold mayL mayG; simp only [k0, k1, Bool.true_and, Bool.and_true, Bool.false_and, Bool.and_false]
    rw [e]
    clear e
    have b0 : Below w.heap.size w (w.alloc (.cells #[.int .i64 a0, .int .i64 a1, .int .i64 a2, .int .i64 a3] 50)) := (Below.refl _ _).alloc (Nat.le_refl _) _
    have HB := Lib.hid b0
    clear b0
    go_enter Try.func20, Try.ntmps20
    go_wp2_with (first | (go_at_call 27; ((with_reducible refine (C0 _).mono ?_); rintro e w' ⟨rfl, rfl⟩)) | (go_at_call 27; ((with_reducible refine (C1 _).mono ?_); rintro e w' ⟨rfl, rfl⟩)) | fail)
    go_ret
    exact ⟨rfl, HB.out⟩
  cases k2 : inS a2
  · have C0 := fun w => rsigned a0 w
    rw [k0] at C0
    have C1 := fun w => rsigned a1 w
    rw [k1] at C1
    have C2 := fun w => rsigned a2 w
    rw [k2] at C2
    have e : (mayL a0 a1 a2 a3) = false := by unfold mayL mayG; simp only [k0, k1, k2, Bool.true_and, Bool.and_true, Bool.false_and, Bool.and_false]
    rw [e]
    clear e
    have b0 : Below w.heap.size w (w.alloc (.cells #[.int .i64 a0, .int .i64 a1, .int .i64 a2, .int .i64 a3] 50)) := (Below.refl _ _).alloc (Nat.le_refl _) _
    have HB := Lib.hid b0
    clear b0
    go_enter Try.func20, Try.ntmps20
    go_wp2_with (first | (go_at_call 27; ((with_reducible refine (C0 _).mono ?_); rintro e w' ⟨rfl, rfl⟩)) | (go_at_call 27; ((with_reducible refine (C1 _).mono ?_); rintro e w' ⟨rfl, rfl⟩)) | (go_at_call 27; ((with_reducible refine (C2 _).mono ?_); rintro e w' ⟨rfl, rfl⟩)) | fail)
    go_ret
    exact ⟨rfl, HB.out⟩
  cases k3 : decide (1 ≤ a3)
  · have C0 := fun w => rsigned a0 w
    rw [k0] at C0
    have C1 := fun w => rsigned a1 w
    rw [k1] at C1
    have C2 := fun w => rsigned a2 w
    rw [k2] at C2
    have e : (mayL a0 a1 a2 a3) = false := by unfold mayL mayG; simp only [k0, k1, k2, k3, Bool.true_and, Bool.and_true, Bool.false_and, Bool.and_false]
    rw [e]
    clear e
    have b0 : Below w.heap.size w (w.alloc (.cells #[.int .i64 a0, .int .i64 a1, .int .i64 a2, .int .i64 a3] 50)) := (Below.refl _ _).alloc (Nat.le_refl _) _
    have HB := Lib.hid b0
    clear b0
    go_enter Try.func20, Try.ntmps20
    go_wp2_with (first | (go_at_call 27; ((with_reducible refine (C0 _).mono ?_); rintro e w' ⟨rfl, rfl⟩)) | (go_at_call 27; ((with_reducible refine (C1 _).mono ?_); rintro e w' ⟨rfl, rfl⟩)) | (go_at_call 27; ((with_reducible refine (C2 _).mono ?_); rintro e w' ⟨rfl, rfl⟩)) | fail)
    go_ret
    exact ⟨rfl, HB.out⟩
  cases k4 : decide (a3 ≤ 65535)
  · have C0 := fun w => rsigned a0 w
    rw [k0] at C0
    have C1 := fun w => rsigned a1 w
    rw [k1] at C1
    have C2 := fun w => rsigned a2 w
    rw [k2] at C2
    have e : (mayL a0 a1 a2 a3) = false := by unfold mayL mayG; simp only [k0, k1, k2, k3, k4, Bool.true_and, Bool.and_true, Bool.false_and, Bool.and_false]
    rw [e]
    clear e
    have b0 : Below w.heap.size w (w.alloc (.cells #[.int .i64 a0, .int .i64 a1, .int .i64 a2, .int .i64 a3] 50)) := (Below.refl _ _).alloc (Nat.le_refl _) _
    have HB := Lib.hid b0
    clear b0
    go_enter Try.func20, Try.ntmps20
    go_wp2_with (first | (go_at_call 27; ((with_reducible refine (C0 _).mono ?_); rintro e w' ⟨rfl, rfl⟩)) | (go_at_call 27; ((with_reducible refine (C1 _).mono ?_); rintro e w' ⟨rfl, rfl⟩)) | (go_at_call 27; ((with_reducible refine (C2 _).mono ?_); rintro e w' ⟨rfl, rfl⟩)) | fail)
    go_ret
    exact ⟨rfl, HB.out⟩
  have C0 := fun w => rsigned a0 w
  rw [k0] at C0
  have C1 := fun w => rsigned a1 w
  rw [k1] at C1
  have C2 := fun w => rsigned a2 w
  rw [k2] at C2
  have e : (mayL a0 a1 a2 a3) = true := by unfold mayL mayG; simp only [k0, k1, k2, k3, k4, Bool.true_and, Bool.and_true, Bool.false_and, Bool.and_false]
  rw [e]
  clear e
  have b0 : Below w.heap.size w (w.alloc (.cells #[.int .i64 a0, .int .i64 a1, .int .i64 a2, .int .i64 a3] 50)) := (Below.refl _ _).alloc (Nat.le_refl _) _
  have HB := Lib.hid b0
  clear b0
  go_enter Try.func20, Try.ntmps20
  go_wp2_with (first | (go_at_call 27; ((with_reducible refine (C0 _).mono ?_); rintro e w' ⟨rfl, rfl⟩)) | (go_at_call 27; ((with_reducible refine (C1 _).mono ?_); rintro e w' ⟨rfl, rfl⟩)) | (go_at_call 27; ((with_reducible refine (C2 _).mono ?_); rintro e w' ⟨rfl, rfl⟩)) | fail)
  go_ret
  exact ⟨rfl, HB.out⟩
set_option maxRecDepth 100000 in
set_option maxHeartbeats 4000000 in
theorem rMayHead (a0 a1 a2 a3 a4 a5 a6 a7 : Int) (b8 : Bool) (w : World) : Calls Try.prog 10 #[.agg #[.int .i64 a0, .int .i64 a1, .int .i64 a2, .int .i64 a3, .int .i64 a4, .int .i64 a5, .int .i64 a6, .int .i64 a7, .bool b8]] w fun e w' => e = .returned (.bool (mayH a0 a1 a2 a3 a4 a5 a6 a7)) ∧ Below w.heap.size w w' := by
  cases k0 : decide (16 ≤ a0)
  · have e : (mayH a0 a1 a2 a3 a4 a5 a6 a7) = false := by unfold mayH; simp only [k0, Bool.true_and, Bool.and_true, Bool.false_and, Bool.and_false]
    rw [e]
    clear e
    have b0 : Below w.heap.size w (w.alloc (.cells #[.int .i64 a0, .int .i64 a1, .int .i64 a2, .int .i64 a3, .int .i64 a4, .int .i64 a5, .int .i64 a6, .int .i64 a7, .bool b8] 25)) := (Below.refl _ _).alloc (Nat.le_refl _) _
    have HB := Lib.hid b0
    clear b0
    go_enter Try.func10, Try.ntmps10
    go_wp2
    go_ret
    exact ⟨rfl, HB.out⟩
  cases k1 : decide (a0 ≤ 16384)
  · have e : (mayH a0 a1 a2 a3 a4 a5 a6 a7) = false := by unfold mayH; simp only [k0, k1, Bool.true_and, Bool.and_true, Bool.false_and, Bool.and_false]
    rw [e]
    clear e
    have b0 : Below w.heap.size w (w.alloc (.cells #[.int .i64 a0, .int .i64 a1, .int .i64 a2, .int .i64 a3, .int .i64 a4, .int .i64 a5, .int .i64 a6, .int .i64 a7, .bool b8] 25)) := (Below.refl _ _).alloc (Nat.le_refl _) _
    have HB := Lib.hid b0
    clear b0
    go_enter Try.func10, Try.ntmps10
    go_wp2
    go_ret
    exact ⟨rfl, HB.out⟩
  cases k2 : inW a1
  · have C2 := fun w => rword a1 w
    rw [k2] at C2
    have e : (mayH a0 a1 a2 a3 a4 a5 a6 a7) = false := by unfold mayH; simp only [k0, k1, k2, Bool.true_and, Bool.and_true, Bool.false_and, Bool.and_false]
    rw [e]
    clear e
    have b0 : Below w.heap.size w (w.alloc (.cells #[.int .i64 a0, .int .i64 a1, .int .i64 a2, .int .i64 a3, .int .i64 a4, .int .i64 a5, .int .i64 a6, .int .i64 a7, .bool b8] 25)) := (Below.refl _ _).alloc (Nat.le_refl _) _
    have HB := Lib.hid b0
    clear b0
    go_enter Try.func10, Try.ntmps10
    go_wp2_with (first | (go_at_call 26; ((with_reducible refine (C2 _).mono ?_); rintro e w' ⟨rfl, rfl⟩)) | fail)
    go_ret
    exact ⟨rfl, HB.out⟩
  cases k3 : inW a6
  · have C2 := fun w => rword a1 w
    rw [k2] at C2
    have C3 := fun w => rword a6 w
    rw [k3] at C3
    have e : (mayH a0 a1 a2 a3 a4 a5 a6 a7) = false := by unfold mayH; simp only [k0, k1, k2, k3, Bool.true_and, Bool.and_true, Bool.false_and, Bool.and_false]
    rw [e]
    clear e
    have b0 : Below w.heap.size w (w.alloc (.cells #[.int .i64 a0, .int .i64 a1, .int .i64 a2, .int .i64 a3, .int .i64 a4, .int .i64 a5, .int .i64 a6, .int .i64 a7, .bool b8] 25)) := (Below.refl _ _).alloc (Nat.le_refl _) _
    have HB := Lib.hid b0
    clear b0
    go_enter Try.func10, Try.ntmps10
    go_wp2_with (first | (go_at_call 26; ((with_reducible refine (C2 _).mono ?_); rintro e w' ⟨rfl, rfl⟩)) | (go_at_call 26; ((with_reducible refine (C3 _).mono ?_); rintro e w' ⟨rfl, rfl⟩)) | fail)
    go_ret
    exact ⟨rfl, HB.out⟩
  cases k4 : inW a7
  · have C2 := fun w => rword a1 w
    rw [k2] at C2
    have C3 := fun w => rword a6 w
    rw [k3] at C3
    have C4 := fun w => rword a7 w
    rw [k4] at C4
    have e : (mayH a0 a1 a2 a3 a4 a5 a6 a7) = false := by unfold mayH; simp only [k0, k1, k2, k3, k4, Bool.true_and, Bool.and_true, Bool.false_and, Bool.and_false]
    rw [e]
    clear e
    have b0 : Below w.heap.size w (w.alloc (.cells #[.int .i64 a0, .int .i64 a1, .int .i64 a2, .int .i64 a3, .int .i64 a4, .int .i64 a5, .int .i64 a6, .int .i64 a7, .bool b8] 25)) := (Below.refl _ _).alloc (Nat.le_refl _) _
    have HB := Lib.hid b0
    clear b0
    go_enter Try.func10, Try.ntmps10
    go_wp2_with (first | (go_at_call 26; ((with_reducible refine (C2 _).mono ?_); rintro e w' ⟨rfl, rfl⟩)) | (go_at_call 26; ((with_reducible refine (C3 _).mono ?_); rintro e w' ⟨rfl, rfl⟩)) | (go_at_call 26; ((with_reducible refine (C4 _).mono ?_); rintro e w' ⟨rfl, rfl⟩)) | fail)
    go_ret
    exact ⟨rfl, HB.out⟩
  cases k5 : inS a2
  · have C2 := fun w => rword a1 w
    rw [k2] at C2
    have C3 := fun w => rword a6 w
    rw [k3] at C3
    have C4 := fun w => rword a7 w
    rw [k4] at C4
    have C5 := fun w => rsigned a2 w
    rw [k5] at C5
    have e : (mayH a0 a1 a2 a3 a4 a5 a6 a7) = false := by unfold mayH; simp only [k0, k1, k2, k3, k4, k5, Bool.true_and, Bool.and_true, Bool.false_and, Bool.and_false]
    rw [e]
    clear e
    have b0 : Below w.heap.size w (w.alloc (.cells #[.int .i64 a0, .int .i64 a1, .int .i64 a2, .int .i64 a3, .int .i64 a4, .int .i64 a5, .int .i64 a6, .int .i64 a7, .bool b8] 25)) := (Below.refl _ _).alloc (Nat.le_refl _) _
    have HB := Lib.hid b0
    clear b0
    go_enter Try.func10, Try.ntmps10
    go_wp2_with (first | (go_at_call 26; ((with_reducible refine (C2 _).mono ?_); rintro e w' ⟨rfl, rfl⟩)) | (go_at_call 26; ((with_reducible refine (C3 _).mono ?_); rintro e w' ⟨rfl, rfl⟩)) | (go_at_call 26; ((with_reducible refine (C4 _).mono ?_); rintro e w' ⟨rfl, rfl⟩)) | (go_at_call 27; ((with_reducible refine (C5 _).mono ?_); rintro e w' ⟨rfl, rfl⟩)) | fail)
    go_ret
    exact ⟨rfl, HB.out⟩
  cases k6 : inS a3
  · have C2 := fun w => rword a1 w
    rw [k2] at C2
    have C3 := fun w => rword a6 w
    rw [k3] at C3
    have C4 := fun w => rword a7 w
    rw [k4] at C4
    have C5 := fun w => rsigned a2 w
    rw [k5] at C5
    have C6 := fun w => rsigned a3 w
    rw [k6] at C6
    have e : (mayH a0 a1 a2 a3 a4 a5 a6 a7) = false := by unfold mayH; simp only [k0, k1, k2, k3, k4, k5, k6, Bool.true_and, Bool.and_true, Bool.false_and, Bool.and_false]
    rw [e]
    clear e
    have b0 : Below w.heap.size w (w.alloc (.cells #[.int .i64 a0, .int .i64 a1, .int .i64 a2, .int .i64 a3, .int .i64 a4, .int .i64 a5, .int .i64 a6, .int .i64 a7, .bool b8] 25)) := (Below.refl _ _).alloc (Nat.le_refl _) _
    have HB := Lib.hid b0
    clear b0
    go_enter Try.func10, Try.ntmps10
    go_wp2_with (first | (go_at_call 26; ((with_reducible refine (C2 _).mono ?_); rintro e w' ⟨rfl, rfl⟩)) | (go_at_call 26; ((with_reducible refine (C3 _).mono ?_); rintro e w' ⟨rfl, rfl⟩)) | (go_at_call 26; ((with_reducible refine (C4 _).mono ?_); rintro e w' ⟨rfl, rfl⟩)) | (go_at_call 27; ((with_reducible refine (C5 _).mono ?_); rintro e w' ⟨rfl, rfl⟩)) | (go_at_call 27; ((with_reducible refine (C6 _).mono ?_); rintro e w' ⟨rfl, rfl⟩)) | fail)
    go_ret
    exact ⟨rfl, HB.out⟩
  cases k7 : inS a4
  · have C2 := fun w => rword a1 w
    rw [k2] at C2
    have C3 := fun w => rword a6 w
    rw [k3] at C3
    have C4 := fun w => rword a7 w
    rw [k4] at C4
    have C5 := fun w => rsigned a2 w
    rw [k5] at C5
    have C6 := fun w => rsigned a3 w
    rw [k6] at C6
    have C7 := fun w => rsigned a4 w
    rw [k7] at C7
    have e : (mayH a0 a1 a2 a3 a4 a5 a6 a7) = false := by unfold mayH; simp only [k0, k1, k2, k3, k4, k5, k6, k7, Bool.true_and, Bool.and_true, Bool.false_and, Bool.and_false]
    rw [e]
    clear e
    have b0 : Below w.heap.size w (w.alloc (.cells #[.int .i64 a0, .int .i64 a1, .int .i64 a2, .int .i64 a3, .int .i64 a4, .int .i64 a5, .int .i64 a6, .int .i64 a7, .bool b8] 25)) := (Below.refl _ _).alloc (Nat.le_refl _) _
    have HB := Lib.hid b0
    clear b0
    go_enter Try.func10, Try.ntmps10
    go_wp2_with (first | (go_at_call 26; ((with_reducible refine (C2 _).mono ?_); rintro e w' ⟨rfl, rfl⟩)) | (go_at_call 26; ((with_reducible refine (C3 _).mono ?_); rintro e w' ⟨rfl, rfl⟩)) | (go_at_call 26; ((with_reducible refine (C4 _).mono ?_); rintro e w' ⟨rfl, rfl⟩)) | (go_at_call 27; ((with_reducible refine (C5 _).mono ?_); rintro e w' ⟨rfl, rfl⟩)) | (go_at_call 27; ((with_reducible refine (C6 _).mono ?_); rintro e w' ⟨rfl, rfl⟩)) | (go_at_call 27; ((with_reducible refine (C7 _).mono ?_); rintro e w' ⟨rfl, rfl⟩)) | fail)
    go_ret
    exact ⟨rfl, HB.out⟩
  cases k8 : inS a5
  · have C2 := fun w => rword a1 w
    rw [k2] at C2
    have C3 := fun w => rword a6 w
    rw [k3] at C3
    have C4 := fun w => rword a7 w
    rw [k4] at C4
    have C5 := fun w => rsigned a2 w
    rw [k5] at C5
    have C6 := fun w => rsigned a3 w
    rw [k6] at C6
    have C7 := fun w => rsigned a4 w
    rw [k7] at C7
    have C8 := fun w => rsigned a5 w
    rw [k8] at C8
    have e : (mayH a0 a1 a2 a3 a4 a5 a6 a7) = false := by unfold mayH; simp only [k0, k1, k2, k3, k4, k5, k6, k7, k8, Bool.true_and, Bool.and_true, Bool.false_and, Bool.and_false]
    rw [e]
    clear e
    have b0 : Below w.heap.size w (w.alloc (.cells #[.int .i64 a0, .int .i64 a1, .int .i64 a2, .int .i64 a3, .int .i64 a4, .int .i64 a5, .int .i64 a6, .int .i64 a7, .bool b8] 25)) := (Below.refl _ _).alloc (Nat.le_refl _) _
    have HB := Lib.hid b0
    clear b0
    go_enter Try.func10, Try.ntmps10
    go_wp2_with (first | (go_at_call 26; ((with_reducible refine (C2 _).mono ?_); rintro e w' ⟨rfl, rfl⟩)) | (go_at_call 26; ((with_reducible refine (C3 _).mono ?_); rintro e w' ⟨rfl, rfl⟩)) | (go_at_call 26; ((with_reducible refine (C4 _).mono ?_); rintro e w' ⟨rfl, rfl⟩)) | (go_at_call 27; ((with_reducible refine (C5 _).mono ?_); rintro e w' ⟨rfl, rfl⟩)) | (go_at_call 27; ((with_reducible refine (C6 _).mono ?_); rintro e w' ⟨rfl, rfl⟩)) | (go_at_call 27; ((with_reducible refine (C7 _).mono ?_); rintro e w' ⟨rfl, rfl⟩)) | (go_at_call 27; ((with_reducible refine (C8 _).mono ?_); rintro e w' ⟨rfl, rfl⟩)) | fail)
    go_ret
    exact ⟨rfl, HB.out⟩
  have C2 := fun w => rword a1 w
  rw [k2] at C2
  have C3 := fun w => rword a6 w
  rw [k3] at C3
  have C4 := fun w => rword a7 w
  rw [k4] at C4
  have C5 := fun w => rsigned a2 w
  rw [k5] at C5
  have C6 := fun w => rsigned a3 w
  rw [k6] at C6
  have C7 := fun w => rsigned a4 w
  rw [k7] at C7
  have C8 := fun w => rsigned a5 w
  rw [k8] at C8
  have e : (mayH a0 a1 a2 a3 a4 a5 a6 a7) = true := by unfold mayH; simp only [k0, k1, k2, k3, k4, k5, k6, k7, k8, Bool.true_and, Bool.and_true, Bool.false_and, Bool.and_false]
  rw [e]
  clear e
  have b0 : Below w.heap.size w (w.alloc (.cells #[.int .i64 a0, .int .i64 a1, .int .i64 a2, .int .i64 a3, .int .i64 a4, .int .i64 a5, .int .i64 a6, .int .i64 a7, .bool b8] 25)) := (Below.refl _ _).alloc (Nat.le_refl _) _
  have HB := Lib.hid b0
  clear b0
  go_enter Try.func10, Try.ntmps10
  go_wp2_with (first | (go_at_call 26; ((with_reducible refine (C2 _).mono ?_); rintro e w' ⟨rfl, rfl⟩)) | (go_at_call 26; ((with_reducible refine (C3 _).mono ?_); rintro e w' ⟨rfl, rfl⟩)) | (go_at_call 26; ((with_reducible refine (C4 _).mono ?_); rintro e w' ⟨rfl, rfl⟩)) | (go_at_call 27; ((with_reducible refine (C5 _).mono ?_); rintro e w' ⟨rfl, rfl⟩)) | (go_at_call 27; ((with_reducible refine (C6 _).mono ?_); rintro e w' ⟨rfl, rfl⟩)) | (go_at_call 27; ((with_reducible refine (C7 _).mono ?_); rintro e w' ⟨rfl, rfl⟩)) | (go_at_call 27; ((with_reducible refine (C8 _).mono ?_); rintro e w' ⟨rfl, rfl⟩)) | fail)
  go_ret
  exact ⟨rfl, HB.out⟩

end Go.Proofs.Ytbomgaacahaofaa

namespace Go.Proofs.Ytbomgaacahaofaa
open Go Go.RowKit

/-- The reference's writer at block q. -/
def RWr (w : World) (q R : Nat) (F : Bool) (L : List Value) (fp : List Nat) : Prop :=
  ∃ bv, Blk w q 65 #[bv, .int .i64 (R : Nat), .bool F] ∧ w.ownsRow 0 5 1 bv L.length L ∧ Bytes8 L ∧ L.length ≤ R ∧ fp = q :: blk bv
def RPut (w w' : World) (q R : Nat) (F : Bool) (L : List Value) (fp : List Nat) (E : List Value) : Prop :=
  ∃ fp', RWr w' q R (putF R F L E) (putL R F L E) fp' ∧ Only w w' fp ∧ ∀ b ∈ fp', b ∈ fp ∨ w.heap.size ≤ b

theorem own_mono {w : World} {base : Nat} {e : TypeId} {size n : Nat} {v : Value} {xs : List Value} (h : w.ownsRow base e size v n xs) : w.ownsRow 0 e size v n xs :=
  ⟨h.1, h.2.imp id fun ⟨g, cap, cur, h1, _, h3⟩ => ⟨g, cap, cur, h1, Nat.zero_le _, h3⟩⟩

theorem RWr.lt {w : World} {q R : Nat} {F : Bool} {L : List Value} {fp : List Nat} (h : RWr w q R F L fp) : ∀ b ∈ fp, b < w.heap.size := by
  obtain ⟨bv, hb, hd, _, _, rfl⟩ := h
  intro b hm
  rcases List.mem_cons.1 hm with rfl | hm
  · exact hb.lt
  · exact blk_lt hd b hm
theorem RWr.only {w w1 : World} {q R : Nat} {F : Bool} {L : List Value} {fp fq : List Nat} (h : RWr w q R F L fp) (k : Only w w1 fq) (hn : ∀ b ∈ fp, b ∉ fq) : RWr w1 q R F L fp := by
  obtain ⟨bv, hb, hd, h2, h3, rfl⟩ := h
  exact ⟨bv, hb.only k (hn q (by simp)), own_only hd k (fun b hm => hn b (by simp [hm])), h2, h3, rfl⟩

set_option maxRecDepth 100000 in
set_option maxHeartbeats 1000000 in
theorem rdata_any (q R : Nat) (F : Bool) (L : List Value) (fp : List Nat) (A : Option Addr) (m c B : Nat) (E : List Value) (w : World) (hW : RWr w q R F L fp) (hR : R ≤ 1099511627776) (hE : Lists w B A E) (hm : E.length = m) (hB : B ≤ w.heap.size) (h8 : Bytes8 E) :
    Calls Try.prog 30 #[.pointer (some ⟨q, 0, none⟩), .slice A m c] w fun e w' => e = .returned (.tuple #[]) ∧ RPut w w' q R F L fp E := by
  obtain ⟨bv, hb, hd, k2, k3, k5⟩ := id hW
  obtain ⟨A0, c0, rfl, lD, hc0⟩ := own_lists hd
  have n1 := own_ne hd hb (by decide)
  have HK : ∀ w', Below w.heap.size w w' → KB w' [(q, [.slice A0 L.length c0, .int .i64 (R : Nat), .bool F])] := fun w' hS => (hb.below hS).kb
  have s1 : IntKind.i64.wrap ((R : Int) - (L.length : Int)) = (R : Int) - (L.length : Int) := IntWalk.i64_in _ (by omega)
  have HM := Lib.hid hm
  have H5 := Lib.hid k5
  have HW := Lib.hid hW
  cases hf : putF R F L E
  · have hF : F = false := by unfold putF at hf; simp at hf; exact hf.1
    have hx : L.length + E.length ≤ R := by unfold putF at hf; simp at hf; exact hf.2
    subst hF
    have d1 : decide ((R : Int) - (L.length : Int) < (m : Int)) = false := by simp; omega
    have HX := Lib.hid hx
    have HF := Lib.hid hf
    obtain ⟨i0, hi, hz0, hz1, hz2⟩ := info_parts u8Info
    clear hm k5 hW hf hx
    go_enter Try.func30, Try.ntmps30
    go_wp2
    refine wp_region_plan (fun w' => Below w.heap.size w w') _ rfl (by kernel_rfl) (by kernel_rfl) ((Below.refl _ _).drew) ?_
    repeat (first
      | (refine PlanL.skip (by rfl) ?_; simp only [Act.put, List.setIfInBounds_toArray, List.set_cons_zero, List.set_cons_succ])
      | (refine PlanL.val (v := ?_) (by rfl) ?_ ?_; rotate_left; (focus (intro w' hS; have F := HK _ hS; simp only [KB, CellsAt, Nat.zero_add, Nat.reduceAdd, and_true] at F; go_simp <;> with_reducible rfl)); try simp only [Act.put, List.setIfInBounds_toArray, List.set_cons_zero, List.set_cons_succ]))
    refine PlanL.nil ?_
    intro w' hS
    have F := HK _ hS; simp only [KB, CellsAt, Nat.zero_add, Nat.reduceAdd, and_true] at F
    have hb1 := hb.below hS
    clear HK s1
    go_wp2_with (first | (at_builtin; refine wpList_append_src _ rfl (.tmp 27) (.tmp 31) 26 rfl w'.heap.size 5 i0 (.int .u8 0) 1 1 Try.underlying26 hi hz0 hz1 hz2 rfl (by decide) (.slice (some ⟨w'.heap.size, 0, none⟩) 0 0) 0 [] rfl ⟨rfl, .inr ⟨w'.heap.size, 0, #[], rfl, Nat.le_refl _, heap_alloc_new w' _, Nat.le_refl _, Nat.zero_le _, rfl, rfl⟩⟩ w.heap.size A0 L.length c0 L rfl ((lD.below hS).alloc hS.size _) (by rw [Nat.mul_one]) k2.one (by simp only [maxLen]; omega) (by omega) (by simp) ?_; intro v1 w1 hown1 hg1 hat1; rw [Nat.zero_add, List.nil_append] at hown1; have b1 : Below w.heap.size w w1 := (hS.alloc hS.size _).grown hg1 (by simp; have := hS.size; omega) (fun j hj => by cases hj; exact hS.size); have t1 : ∀ b ∈ blk v1, w.heap.size ≤ b := (fun b hb => by have := hS.size; rcases hat1 with e | e <;> (unfold blk at hb; rw [e] at hb; simp [Value.ownBlock] at hb; omega))) | (at_builtin; refine wpList_append_src _ rfl (.tmp 32) (.tmp 33) 26 rfl w'.heap.size 5 i0 (.int .u8 0) 1 1 Try.underlying26 hi hz0 hz1 hz2 rfl (by decide) v1 L.length L rfl hown1 w.heap.size A m c E rfl ((hE.below (b1.mono hB)).more hB) (by rw [HM.out, Nat.mul_one]) h8.one (by simp only [maxLen]; have := HM.out; have := HX.out; omega) (by have := HM.out; have := HX.out; omega) (by have := hg1.size; simp at this; omega) ?_; intro v2 w2 hown2 hg2 hat2; obtain ⟨A2, k2', rfl, _, _⟩ := own_lists hown2; have b2 : Below w.heap.size w w2 := b1.grown hg2 b1.size (fun j hj => t1 j (by unfold blk; rw [hj]; simp)); have hb2 := hb.below b2; have F2 := hb2.kb; simp only [KB, CellsAt, Nat.zero_add, Nat.reduceAdd, and_true] at F2))
    go_end0
    obtain ⟨v2, hv2⟩ : ∃ v, v = Value.slice A2 (L.length + m) k2' := ⟨_, rfl⟩
    rw [← hv2] at hown2 hat2 ⊢
    have n2 := own_ne hown2 hb2 (by decide)
    have o3 : Only w2 (w2.setCell ⟨q, 0, none⟩ v2) [q] := (Only.refl _ _).set (.inl (by simp)) _
    refine ⟨rfl, q :: blk v2, ?_, ?_, ?_⟩
    · rw [HF.out]
      unfold putL
      rw [HF.out, if_neg (by simp)]
      refine ⟨v2, hb2.set 0 v2, ?_, k2.append h8, by rw [List.length_append]; exact HX.out, rfl⟩
      rw [show (L ++ E).length = L.length + m by rw [List.length_append, HM.out]]
      exact own_only (own_mono hown2) o3 (fun b hm e => by simp at e; subst e; exact n2 hm)
    · rw [H5.out]
      exact (Only.of_below b2 _).set (.inl (by simp)) _
    · intro b hm
      rw [H5.out]
      rcases List.mem_cons.1 hm with rfl | hm
      · exact .inl (by simp)
      · right
        rcases hat2 with e | e
        · exact t1 b (by unfold blk at hm ⊢; rw [← e]; exact hm)
        · have : b = w1.heap.size := by unfold blk at hm; rw [e] at hm; simpa using hm
          have := b1.size
          omega
  · have hx : F = true ∨ (F = false ∧ R < L.length + E.length) := by
      unfold putF at hf
      cases F
      · simp at hf; exact .inr ⟨rfl, hf⟩
      · exact .inl rfl
    have hfin : ∀ w', Below w.heap.size w w' → RPut w (w'.setCell ⟨q, 2, none⟩ (.bool true)) q R F L fp E := fun w' hS => by
      have o3 : Only w (w'.setCell ⟨q, 2, none⟩ (.bool true)) [q] := (Only.of_below hS _).set (.inl (by simp)) _
      refine ⟨fp, ?_, by rw [H5.out]; exact o3.more (fun b hm => by simp at hm; subst hm; simp), fun b hm => .inl hm⟩
      rw [hf]
      unfold putL
      rw [hf, if_pos rfl]
      exact ⟨_, (hb.below hS).set 2 (.bool true), own_only hd o3 (fun b hm e => by simp at e; subst e; exact n1 hm), k2, k3, k5⟩
    have HFIN := Lib.hid hfin
    rcases hx with rfl | ⟨rfl, hx⟩
    · clear hm k5 hW hf hfin
      go_enter Try.func30, Try.ntmps30
      go_wp2
      refine wp_region_plan (fun w' => Below w.heap.size w w') _ rfl (by kernel_rfl) (by kernel_rfl) ((Below.refl _ _).drew) ?_
      repeat (first
        | (refine PlanL.skip (by rfl) ?_; simp only [Act.put, List.setIfInBounds_toArray, List.set_cons_zero, List.set_cons_succ])
        | (refine PlanL.val (v := ?_) (by rfl) ?_ ?_; rotate_left; (focus (intro w' hS; have F := HK _ hS; simp only [KB, CellsAt, Nat.zero_add, Nat.reduceAdd, and_true] at F; go_simp <;> with_reducible rfl)); try simp only [Act.put, List.setIfInBounds_toArray, List.set_cons_zero, List.set_cons_succ]))
      refine PlanL.nil ?_
      intro w' hS
      have F := HK _ hS; simp only [KB, CellsAt, Nat.zero_add, Nat.reduceAdd, and_true] at F
      clear HK s1
      go_wp2
      refine bodyPost_ret (results_none rfl _ _ _) rfl ?_
      exact ⟨rfl, HFIN.out _ hS⟩
    · have d1 : decide ((R : Int) - (L.length : Int) < (m : Int)) = true := by simp; omega
      clear hm k5 hW hf hfin hx
      go_enter Try.func30, Try.ntmps30
      go_wp2
      refine wp_region_plan (fun w' => Below w.heap.size w w') _ rfl (by kernel_rfl) (by kernel_rfl) ((Below.refl _ _).drew) ?_
      repeat (first
        | (refine PlanL.skip (by rfl) ?_; simp only [Act.put, List.setIfInBounds_toArray, List.set_cons_zero, List.set_cons_succ])
        | (refine PlanL.val (v := ?_) (by rfl) ?_ ?_; rotate_left; (focus (intro w' hS; have F := HK _ hS; simp only [KB, CellsAt, Nat.zero_add, Nat.reduceAdd, and_true] at F; go_simp <;> with_reducible rfl)); try simp only [Act.put, List.setIfInBounds_toArray, List.set_cons_zero, List.set_cons_succ]))
      refine PlanL.nil ?_
      intro w' hS
      have F := HK _ hS; simp only [KB, CellsAt, Nat.zero_add, Nat.reduceAdd, and_true] at F
      clear HK s1
      go_wp2
      refine bodyPost_ret (results_none rfl _ _ _) rfl ?_
      exact ⟨rfl, HFIN.out _ hS⟩

end Go.Proofs.Ytbomgaacahaofaa

namespace Go.Proofs.Ytbomgaacahaofaa
open Go Go.RowKit

theorem RPut.alloc {w w' : World} {o : Obj} {q R : Nat} {F : Bool} {L E : List Value} {fp : List Nat} (h : RPut (w.alloc o) w' q R F L fp E) : RPut w w' q R F L fp E := by
  obtain ⟨fp', h1, h2, h3⟩ := h
  refine ⟨fp', h1, ((Only.refl w fp).alloc o).trans h2 (fun b hb => .inl hb), fun b hb => ?_⟩
  rcases h3 b hb with h | h
  · exact .inl h
  · right
    simp at h
    omega
theorem rbytes1_any (x : Int) (w : World) :
    Calls Try.prog 37 #[.int .i64 1, .int .i64 x] w fun e w' => e = .returned (.slice (some ⟨w.heap.size, 0, none⟩) 1 1) ∧ w' = w.alloc (.cells #[.int .u8 (x % 256)] 5) := by
  have hmk : ∀ w : World, (Instr.makeSlice 26 (.int .i64 1) (.int .i64 1)).run Try.prog w = .ok (.slice (some ⟨w.heap.size, 0, none⟩) 1 1) (w.alloc (.cells #[.int .u8 0] 5)) := fun w => by
    have h := run_make_row' (P := Try.prog) 26 5 (.int .u8 0) 1 Try.underlying26 u8Info rfl .i64 .i64 1 (by omega) (by omega) w
    rw [made_zeros] at h
    exact h
  go_enter Try.func37, Try.ntmps37
  go_wp2
  refine wp_loop_rounds 2 ?_
  rw [rounds_succ]
  go_wp2
  rw [rounds_succ]
  go_wp2
  go_ret
  exact ⟨rfl, rfl⟩
set_option maxRecDepth 100000 in
theorem ru1_any (q R : Nat) (F : Bool) (L : List Value) (fp : List Nat) (x : Int) (w : World) (hW : RWr w q R F L fp) (hR : R ≤ 1099511627776) :
    Calls Try.prog 29 #[.pointer (some ⟨q, 0, none⟩), .int .i64 1, .int .i64 x] w fun e w' => e = .returned (.tuple #[]) ∧ RPut w w' q R F L fp (be1 x) := by
  have C := rdata_any q R F L fp (some ⟨w.heap.size, 0, none⟩) 1 1 (w.alloc (.cells #[.int .u8 (x % 256)] 5)).heap.size (be1 x) (w.alloc (.cells #[.int .u8 (x % 256)] 5)) (hW.only ((Only.refl w []).alloc _) (fun _ _ h => (nomatch h))) hR (lists_new w _ _ _ (fun j u hu => by simpa [be1] using hu)) rfl (Nat.le_refl _) (be1_bytes x)
  have C1 := fun w => rbytes1_any x w
  clear hW hR
  go_enter Try.func29, Try.ntmps29
  go_wp2_with (first | (go_at_call 37; ((with_reducible refine (C1 _).mono ?_); rintro e w1 ⟨rfl, rfl⟩)) | (go_at_call 30; ((with_reducible refine (C).mono ?_); rintro e w1 ⟨rfl, hq⟩)))
  go_end0
  exact ⟨rfl, hq.alloc⟩
set_option maxRecDepth 100000 in
theorem rbytes2_any (x : Int) (w : World) :
    Calls Try.prog 37 #[.int .i64 2, .int .i64 x] w fun e w' => e = .returned (.slice (some ⟨w.heap.size, 0, none⟩) 2 2) ∧ w' = w.alloc (.cells #[.int .u8 (x / 256 % 256), .int .u8 (x % 256)] 5) := by
  have hmk : ∀ w : World, (Instr.makeSlice 26 (.int .i64 2) (.int .i64 2)).run Try.prog w = .ok (.slice (some ⟨w.heap.size, 0, none⟩) 2 2) (w.alloc (.cells #[.int .u8 0, .int .u8 0] 5)) := fun w => by
    have h := run_make_row' (P := Try.prog) 26 5 (.int .u8 0) 1 Try.underlying26 u8Info rfl .i64 .i64 2 (by omega) (by omega) w
    rw [made_zeros] at h
    exact h
  go_enter Try.func37, Try.ntmps37
  go_wp2
  refine wp_loop_rounds 3 ?_
  rw [rounds_succ]
  go_wp2
  rw [rounds_succ]
  go_wp2
  rw [rounds_succ]
  go_wp2
  go_ret
  exact ⟨rfl, rfl⟩
set_option maxRecDepth 100000 in
theorem ru2_any (q R : Nat) (F : Bool) (L : List Value) (fp : List Nat) (x : Int) (w : World) (hW : RWr w q R F L fp) (hR : R ≤ 1099511627776) :
    Calls Try.prog 29 #[.pointer (some ⟨q, 0, none⟩), .int .i64 2, .int .i64 x] w fun e w' => e = .returned (.tuple #[]) ∧ RPut w w' q R F L fp (be2 x) := by
  have C := rdata_any q R F L fp (some ⟨w.heap.size, 0, none⟩) 2 2 (w.alloc (.cells #[.int .u8 (x / 256 % 256), .int .u8 (x % 256)] 5)).heap.size (be2 x) (w.alloc (.cells #[.int .u8 (x / 256 % 256), .int .u8 (x % 256)] 5)) (hW.only ((Only.refl w []).alloc _) (fun _ _ h => (nomatch h))) hR (lists_new w _ _ _ (fun j u hu => by simpa [be2] using hu)) rfl (Nat.le_refl _) (be2_bytes x)
  have C1 := fun w => rbytes2_any x w
  clear hW hR
  go_enter Try.func29, Try.ntmps29
  go_wp2_with (first | (go_at_call 37; ((with_reducible refine (C1 _).mono ?_); rintro e w1 ⟨rfl, rfl⟩)) | (go_at_call 30; ((with_reducible refine (C).mono ?_); rintro e w1 ⟨rfl, hq⟩)))
  go_end0
  exact ⟨rfl, hq.alloc⟩
set_option maxRecDepth 100000 in
theorem rbytes4_any (x : Int) (w : World) :
    Calls Try.prog 37 #[.int .i64 4, .int .i64 x] w fun e w' => e = .returned (.slice (some ⟨w.heap.size, 0, none⟩) 4 4) ∧ w' = w.alloc (.cells #[.int .u8 (x / 16777216 % 256), .int .u8 (x / 65536 % 256), .int .u8 (x / 256 % 256), .int .u8 (x % 256)] 5) := by
  have hmk : ∀ w : World, (Instr.makeSlice 26 (.int .i64 4) (.int .i64 4)).run Try.prog w = .ok (.slice (some ⟨w.heap.size, 0, none⟩) 4 4) (w.alloc (.cells #[.int .u8 0, .int .u8 0, .int .u8 0, .int .u8 0] 5)) := fun w => by
    have h := run_make_row' (P := Try.prog) 26 5 (.int .u8 0) 1 Try.underlying26 u8Info rfl .i64 .i64 4 (by omega) (by omega) w
    rw [made_zeros] at h
    exact h
  go_enter Try.func37, Try.ntmps37
  go_wp2
  refine wp_loop_rounds 5 ?_
  rw [rounds_succ]
  go_wp2
  rw [rounds_succ]
  go_wp2
  rw [rounds_succ]
  go_wp2
  rw [rounds_succ]
  go_wp2
  rw [rounds_succ]
  go_wp2
  go_ret
  exact ⟨rfl, rfl⟩
set_option maxRecDepth 100000 in
theorem ru4_any (q R : Nat) (F : Bool) (L : List Value) (fp : List Nat) (x : Int) (w : World) (hW : RWr w q R F L fp) (hR : R ≤ 1099511627776) :
    Calls Try.prog 29 #[.pointer (some ⟨q, 0, none⟩), .int .i64 4, .int .i64 x] w fun e w' => e = .returned (.tuple #[]) ∧ RPut w w' q R F L fp (be4 x) := by
  have C := rdata_any q R F L fp (some ⟨w.heap.size, 0, none⟩) 4 4 (w.alloc (.cells #[.int .u8 (x / 16777216 % 256), .int .u8 (x / 65536 % 256), .int .u8 (x / 256 % 256), .int .u8 (x % 256)] 5)).heap.size (be4 x) (w.alloc (.cells #[.int .u8 (x / 16777216 % 256), .int .u8 (x / 65536 % 256), .int .u8 (x / 256 % 256), .int .u8 (x % 256)] 5)) (hW.only ((Only.refl w []).alloc _) (fun _ _ h => (nomatch h))) hR (lists_new w _ _ _ (fun j u hu => by simpa [be4] using hu)) rfl (Nat.le_refl _) (be4_bytes x)
  have C1 := fun w => rbytes4_any x w
  clear hW hR
  go_enter Try.func29, Try.ntmps29
  go_wp2_with (first | (go_at_call 37; ((with_reducible refine (C1 _).mono ?_); rintro e w1 ⟨rfl, rfl⟩)) | (go_at_call 30; ((with_reducible refine (C).mono ?_); rintro e w1 ⟨rfl, hq⟩)))
  go_end0
  exact ⟨rfl, hq.alloc⟩

end Go.Proofs.Ytbomgaacahaofaa

namespace Go.Proofs.Ytbomgaacahaofaa
open Go Go.RowKit

set_option linter.unusedVariables false
set_option linter.unusedSimpArgs false
/-- The reference's writer, made since world w0. -/
def RWS (w0 w : World) (q R : Nat) (L : List Value) : Prop := ∃ fp, RWr w q R false L fp ∧ Below w0.heap.size w0 w ∧ ∀ b ∈ fp, w0.heap.size ≤ b
theorem RWS.old {w0 w : World} {q R : Nat} {L : List Value} (h : RWS w0 w q R L) : Below w0.heap.size w0 w := h.elim fun _ h => h.2.1
theorem RWS.below {w0 w w1 : World} {q R : Nat} {L : List Value} (h : RWS w0 w q R L) (k : Below w.heap.size w w1) : RWS w0 w1 q R L := by
  obtain ⟨fp, hW, b, hf⟩ := h
  exact ⟨fp, hW.only (Only.of_below k []) (fun _ _ h => (nomatch h)), b.trans (k.mono b.size), hf⟩
def RWrote (w0 : World) (q R : Nat) (L E : List Value) (e : Ending) (w' : World) : Prop := e = .returned (.tuple #[]) ∧ RWS w0 w' q R (L ++ E)
theorem rws_put {w0 w : World} {q R : Nat} {L E : List Value} {f : FuncId} {args : Array Value} (h : RWS w0 w q R L) (hx : L.length + E.length ≤ R)
    (hc : ∀ fp, RWr w q R false L fp → Calls Try.prog f args w fun e w' => e = .returned (.tuple #[]) ∧ RPut w w' q R false L fp E) :
    Calls Try.prog f args w (RWrote w0 q R L E) := by
  obtain ⟨fp, hW, b, hf⟩ := h
  refine (hc fp hW).mono fun e w' ⟨he, fp', h1, h2, h3⟩ => ⟨he, fp', ?_, ?_, fun x hx => ?_⟩
  · have e1 : putF R false L E = false := by unfold putF; simp; exact hx
    rw [e1] at h1
    unfold putL at h1
    rw [e1, if_neg (by simp)] at h1
    exact h1
  · exact b.trans (h2.to_below b.size hf)
  · rcases h3 x hx with h | h
    · exact hf x h
    · have := b.size; omega
theorem rws_u2 (w0 w : World) (q R : Nat) (L : List Value) (x : Int) (h : RWS w0 w q R L) (hx : L.length + 2 ≤ R) (hR : R ≤ 1099511627776) :
    Calls Try.prog 29 #[.pointer (some ⟨q, 0, none⟩), .int .i64 2, .int .i64 x] w (RWrote w0 q R L (be2 x)) := rws_put h hx fun fp hW => ru2_any q R false L fp x w hW hR
theorem rws_u4 (w0 w : World) (q R : Nat) (L : List Value) (x : Int) (h : RWS w0 w q R L) (hx : L.length + 4 ≤ R) (hR : R ≤ 1099511627776) :
    Calls Try.prog 29 #[.pointer (some ⟨q, 0, none⟩), .int .i64 4, .int .i64 x] w (RWrote w0 q R L (be4 x)) := rws_put h hx fun fp hW => ru4_any q R false L fp x w hW hR
/-- The cells of a new row of bytes 0. -/
def zcs (n : Nat) : Array Value := (z8s n).toArray
theorem zcs_get (n j : Nat) (u : Value) (h : (z8s n)[j]? = some u) : (zcs n)[j]? = some u := by unfold zcs; simpa using h
theorem make_zcs (n : Nat) (hn : n ≤ 1000) (w : World) : (Instr.makeSlice 26 (.int .i64 (n : Nat)) (.int .i64 (n : Nat))).run Try.prog w = .ok (.slice (some ⟨w.heap.size, 0, none⟩) n n) (w.alloc (.cells (zcs n) 5)) := by
  have h := run_make_row' (P := Try.prog) 26 5 (.int .u8 0) 1 Try.underlying26 u8Info rfl .i64 .i64 n (by omega) (by omega) w
  rw [made_zeros] at h
  exact h
theorem rws_zeros (w0 w : World) (q R n k : Nat) (L : List Value) (hk : k = w.heap.size) (h : RWS w0 w q R L) (hx : L.length + n ≤ R) (hR : R ≤ 1099511627776) :
    Calls Try.prog 30 #[.pointer (some ⟨q, 0, none⟩), .slice (some ⟨k, 0, none⟩) n n] (w.alloc (.cells (zcs n) 5)) (RWrote w0 q R L (z8s n)) := by
  subst hk
  exact rws_put (h.below ((Below.refl _ _).alloc (Nat.le_refl _) _)) (by rw [z8s_len]; exact hx) fun fp hW => rdata_any q R false L fp _ n n _ (z8s n) _ hW hR (lists_new w (zcs n) 5 (z8s n) (fun j u hu => zcs_get n j u hu)) (z8s_len n) (Nat.le_refl _) (z8s_bytes n)
theorem rws_new (w0 w : World) (R : Nat) (T : TypeId) (hT : T = 65) (hb : Below w0.heap.size w0 w) : RWS w0 (w.alloc (.cells #[.slice none 0 0, .int .i64 (R : Nat), .bool false] T)) w.heap.size R [] := by
  subst hT
  refine ⟨[w.heap.size], ⟨.slice none 0 0, Blk.new w _ _, ⟨rfl, .inl ⟨rfl, rfl⟩⟩, fun u hu => (by cases hu), Nat.zero_le _, rfl⟩, hb.trans ((Below.refl w.heap.size w).alloc (Nat.le_refl _) _ |>.mono hb.size), fun b hb2 => ?_⟩
  have := hb.size
  simp at hb2
  omega
/-- What is put. -/
def GaveR (w : World) (L : List Value) (e : Ending) (w' : World) : Prop := ∃ A c, e = .returned (.slice A L.length c) ∧ Lists w' w'.heap.size A L ∧ L.length ≤ c ∧ Below w.heap.size w w'
theorem RWS.give {w0 w : World} {q R : Nat} {L : List Value} (h : RWS w0 w q R L) : ∃ A c, w.cell? ⟨q, 0, none⟩ = some (.slice A L.length c) ∧ Lists w w.heap.size A L ∧ L.length ≤ c := by
  obtain ⟨fp, ⟨bv, hb, ho, _⟩, _⟩ := h
  obtain ⟨A, c, rfl, hl, hc⟩ := own_lists ho
  exact ⟨A, c, hb.cell 0, hl, hc⟩


end Go.Proofs.Ytbomgaacahaofaa

namespace Go.Proofs.Ytbomgaacahaofaa
open Go Go.RowKit

set_option linter.unusedVariables false
set_option linter.unusedSimpArgs false
set_option maxRecDepth 100000 in
set_option maxHeartbeats 16000000 in
theorem rPutLines_any (a0 a1 a2 a3 : Int) (w : World) : Calls Try.prog 22 #[.agg #[.int .i64 a0, .int .i64 a1, .int .i64 a2, .int .i64 a3]] w (GaveR w (putLs a0 a1 a2 a3)) := by
  obtain ⟨w0, hw0⟩ : ∃ w0, w0 = w.alloc (.cells #[.int .i64 a0, .int .i64 a1, .int .i64 a2, .int .i64 a3] 50) := ⟨_, rfl⟩
  have hX : Blk w0 w.heap.size 50 #[.int .i64 a0, .int .i64 a1, .int .i64 a2, .int .i64 a3] := by rw [hw0]; exact Blk.new w _ _
  have hz : w.heap.size < w0.heap.size := by rw [hw0]; simp
  have hb0 : Below w.heap.size w w0 := by rw [hw0]; exact (Below.refl _ _).alloc (Nat.le_refl _) _
  have hq : w0.heap.size = w.heap.size + 1 := by rw [hw0]; simp
  have h0 : RWS w0 (w0.alloc (.cells #[.slice none 0 0, .int .i64 36, .bool false] 65)) (w.heap.size + 1) 36 [] := hq ▸ rws_new w0 w0 36 _ rfl (Below.refl _ _)
  have hmk24 : ∀ w : World, (Instr.makeSlice 26 (.int .i64 24) (.int .i64 24)).run Try.prog w = .ok (.slice (some ⟨w.heap.size, 0, none⟩) 24 24) (w.alloc (.cells (zcs 24) 5)) := fun w => make_zcs 24 (by decide) w
  have HB := Lib.hid hb0
  
  subst hw0
  clear hb0 hq
  go_enter Try.func22, Try.ntmps22
  go_wp2_with (first | (go_at_call 29; ((with_reducible refine (rws_u2 _ _ _ 36 ([] : List Value) (1) h0 (Nat.le_of_ble_eq_true rfl) (by decide)).mono ?_); rintro e w1 ⟨rfl, h1⟩)) | (go_at_call 29; ((with_reducible refine (rws_u2 _ _ _ 36 (be2 (1)) (0) h1 (Nat.le_of_ble_eq_true rfl) (by decide)).mono ?_); rintro e w2 ⟨rfl, h2⟩; have g2 : w2.cell? ⟨w.heap.size, 0, none⟩ = some (.int .i64 a0) := (h2.old.cell hz).trans (hX.cell 0))) | (go_at_call 29; ((with_reducible refine (rws_u2 _ _ _ 36 (be2 (1) ++ be2 (0)) (a0) h2 (Nat.le_of_ble_eq_true rfl) (by decide)).mono ?_); rintro e w3 ⟨rfl, h3⟩; have g3 : w3.cell? ⟨w.heap.size, 1, none⟩ = some (.int .i64 a1) := (h3.old.cell hz).trans (hX.cell 1))) | (go_at_call 29; ((with_reducible refine (rws_u2 _ _ _ 36 (be2 (1) ++ be2 (0) ++ be2 (a0)) (a1) h3 (Nat.le_of_ble_eq_true rfl) (by decide)).mono ?_); rintro e w4 ⟨rfl, h4⟩; have g4 : w4.cell? ⟨w.heap.size, 2, none⟩ = some (.int .i64 a2) := (h4.old.cell hz).trans (hX.cell 2))) | (go_at_call 29; ((with_reducible refine (rws_u2 _ _ _ 36 (be2 (1) ++ be2 (0) ++ be2 (a0) ++ be2 (a1)) (a2) h4 (Nat.le_of_ble_eq_true rfl) (by decide)).mono ?_); rintro e w5 ⟨rfl, h5⟩)) | (go_at_call 30; ((with_reducible refine (rws_zeros _ _ _ 36 24 _ (be2 (1) ++ be2 (0) ++ be2 (a0) ++ be2 (a1) ++ be2 (a2)) rfl h5 (Nat.le_of_ble_eq_true rfl) (by decide)).mono ?_); rintro e w6 ⟨rfl, h6⟩; have g6 : w6.cell? ⟨w.heap.size, 3, none⟩ = some (.int .i64 a3) := (h6.old.cell hz).trans (hX.cell 3))) | (go_at_call 29; ((with_reducible refine (rws_u2 _ _ _ 36 (be2 (1) ++ be2 (0) ++ be2 (a0) ++ be2 (a1) ++ be2 (a2) ++ z8s 24) (a3) h6 (Nat.le_of_ble_eq_true rfl) (by decide)).mono ?_); rintro e w7 ⟨rfl, h7⟩; have hg : ∃ A c, w7.cell? ⟨w.heap.size + 1, 0, none⟩ = some (.slice A 36 c) ∧ Lists w7 w7.heap.size A (putLs a0 a1 a2 a3) ∧ 36 ≤ c := h7.give; obtain ⟨A9, c9, gq, hl9, hc9⟩ := hg)))
  go_ret
  exact ⟨A9, c9, rfl, hl9, hc9, HB.out.trans (h7.old.mono HB.out.size)⟩

end Go.Proofs.Ytbomgaacahaofaa

namespace Go.Proofs.Ytbomgaacahaofaa
open Go Go.RowKit

set_option linter.unusedVariables false
set_option linter.unusedSimpArgs false
set_option maxRecDepth 100000 in
set_option maxHeartbeats 16000000 in
theorem rPutHead_true (a0 a1 a2 a3 a4 a5 a6 a7 : Int) (w : World) : Calls Try.prog 12 #[.agg #[.int .i64 a0, .int .i64 a1, .int .i64 a2, .int .i64 a3, .int .i64 a4, .int .i64 a5, .int .i64 a6, .int .i64 a7, .bool true]] w (GaveR w (putHs a0 a1 a2 a3 a4 a5 a6 a7 true)) := by
  obtain ⟨w0, hw0⟩ : ∃ w0, w0 = w.alloc (.cells #[.int .i64 a0, .int .i64 a1, .int .i64 a2, .int .i64 a3, .int .i64 a4, .int .i64 a5, .int .i64 a6, .int .i64 a7, .bool true] 25) := ⟨_, rfl⟩
  have hX : Blk w0 w.heap.size 25 #[.int .i64 a0, .int .i64 a1, .int .i64 a2, .int .i64 a3, .int .i64 a4, .int .i64 a5, .int .i64 a6, .int .i64 a7, .bool true] := by rw [hw0]; exact Blk.new w _ _
  have hz : w.heap.size < w0.heap.size := by rw [hw0]; simp
  have hb0 : Below w.heap.size w w0 := by rw [hw0]; exact (Below.refl _ _).alloc (Nat.le_refl _) _
  have hq : w0.heap.size = w.heap.size + 1 := by rw [hw0]; simp
  have h0 : RWS w0 (w0.alloc (.cells #[.slice none 0 0, .int .i64 54, .bool false] 65)) (w.heap.size + 1) 54 [] := hq ▸ rws_new w0 w0 54 _ rfl (Below.refl _ _)
  have hmk10 : ∀ w : World, (Instr.makeSlice 26 (.int .i64 10) (.int .i64 10)).run Try.prog w = .ok (.slice (some ⟨w.heap.size, 0, none⟩) 10 10) (w.alloc (.cells (zcs 10) 5)) := fun w => make_zcs 10 (by decide) w
  have hmk16 : ∀ w : World, (Instr.makeSlice 26 (.int .i64 16) (.int .i64 16)).run Try.prog w = .ok (.slice (some ⟨w.heap.size, 0, none⟩) 16 16) (w.alloc (.cells (zcs 16) 5)) := fun w => make_zcs 16 (by decide) w
  have HB := Lib.hid hb0
  
  subst hw0
  clear hb0 hq
  go_enter Try.func12, Try.ntmps12
  go_wp2_with (first | (go_at_call 29; ((with_reducible refine (rws_u2 _ _ _ 54 ([] : List Value) (1) h0 (Nat.le_of_ble_eq_true rfl) (by decide)).mono ?_); rintro e w1 ⟨rfl, h1⟩)) | (go_at_call 30; ((with_reducible refine (rws_zeros _ _ _ 54 10 _ (be2 (1)) rfl h1 (Nat.le_of_ble_eq_true rfl) (by decide)).mono ?_); rintro e w2 ⟨rfl, h2⟩)) | (go_at_call 29; ((with_reducible refine (rws_u4 _ _ _ 54 (be2 (1) ++ z8s 10) (1594834165) h2 (Nat.le_of_ble_eq_true rfl) (by decide)).mono ?_); rintro e w3 ⟨rfl, h3⟩; have g3 : w3.cell? ⟨w.heap.size, 1, none⟩ = some (.int .i64 a1) := (h3.old.cell hz).trans (hX.cell 1))) | (go_at_call 29; ((with_reducible refine (rws_u2 _ _ _ 54 (be2 (1) ++ z8s 10 ++ be4 (1594834165)) (a1) h3 (Nat.le_of_ble_eq_true rfl) (by decide)).mono ?_); rintro e w4 ⟨rfl, h4⟩; have g4 : w4.cell? ⟨w.heap.size, 0, none⟩ = some (.int .i64 a0) := (h4.old.cell hz).trans (hX.cell 0))) | (go_at_call 29; ((with_reducible refine (rws_u2 _ _ _ 54 (be2 (1) ++ z8s 10 ++ be4 (1594834165) ++ be2 (a1)) (a0) h4 (Nat.le_of_ble_eq_true rfl) (by decide)).mono ?_); rintro e w5 ⟨rfl, h5⟩)) | (go_at_call 30; ((with_reducible refine (rws_zeros _ _ _ 54 16 _ (be2 (1) ++ z8s 10 ++ be4 (1594834165) ++ be2 (a1) ++ be2 (a0)) rfl h5 (Nat.le_of_ble_eq_true rfl) (by decide)).mono ?_); rintro e w6 ⟨rfl, h6⟩; have g6 : w6.cell? ⟨w.heap.size, 2, none⟩ = some (.int .i64 a2) := (h6.old.cell hz).trans (hX.cell 2))) | (go_at_call 29; ((with_reducible refine (rws_u2 _ _ _ 54 (be2 (1) ++ z8s 10 ++ be4 (1594834165) ++ be2 (a1) ++ be2 (a0) ++ z8s 16) (a2) h6 (Nat.le_of_ble_eq_true rfl) (by decide)).mono ?_); rintro e w7 ⟨rfl, h7⟩; have g7 : w7.cell? ⟨w.heap.size, 3, none⟩ = some (.int .i64 a3) := (h7.old.cell hz).trans (hX.cell 3))) | (go_at_call 29; ((with_reducible refine (rws_u2 _ _ _ 54 (be2 (1) ++ z8s 10 ++ be4 (1594834165) ++ be2 (a1) ++ be2 (a0) ++ z8s 16 ++ be2 (a2)) (a3) h7 (Nat.le_of_ble_eq_true rfl) (by decide)).mono ?_); rintro e w8 ⟨rfl, h8⟩; have g8 : w8.cell? ⟨w.heap.size, 4, none⟩ = some (.int .i64 a4) := (h8.old.cell hz).trans (hX.cell 4))) | (go_at_call 29; ((with_reducible refine (rws_u2 _ _ _ 54 (be2 (1) ++ z8s 10 ++ be4 (1594834165) ++ be2 (a1) ++ be2 (a0) ++ z8s 16 ++ be2 (a2) ++ be2 (a3)) (a4) h8 (Nat.le_of_ble_eq_true rfl) (by decide)).mono ?_); rintro e w9 ⟨rfl, h9⟩; have g9 : w9.cell? ⟨w.heap.size, 5, none⟩ = some (.int .i64 a5) := (h9.old.cell hz).trans (hX.cell 5))) | (go_at_call 29; ((with_reducible refine (rws_u2 _ _ _ 54 (be2 (1) ++ z8s 10 ++ be4 (1594834165) ++ be2 (a1) ++ be2 (a0) ++ z8s 16 ++ be2 (a2) ++ be2 (a3) ++ be2 (a4)) (a5) h9 (Nat.le_of_ble_eq_true rfl) (by decide)).mono ?_); rintro e w10 ⟨rfl, h10⟩; have g10 : w10.cell? ⟨w.heap.size, 6, none⟩ = some (.int .i64 a6) := (h10.old.cell hz).trans (hX.cell 6))) | (go_at_call 29; ((with_reducible refine (rws_u2 _ _ _ 54 (be2 (1) ++ z8s 10 ++ be4 (1594834165) ++ be2 (a1) ++ be2 (a0) ++ z8s 16 ++ be2 (a2) ++ be2 (a3) ++ be2 (a4) ++ be2 (a5)) (a6) h10 (Nat.le_of_ble_eq_true rfl) (by decide)).mono ?_); rintro e w11 ⟨rfl, h11⟩; have g11 : w11.cell? ⟨w.heap.size, 7, none⟩ = some (.int .i64 a7) := (h11.old.cell hz).trans (hX.cell 7))) | (go_at_call 29; ((with_reducible refine (rws_u2 _ _ _ 54 (be2 (1) ++ z8s 10 ++ be4 (1594834165) ++ be2 (a1) ++ be2 (a0) ++ z8s 16 ++ be2 (a2) ++ be2 (a3) ++ be2 (a4) ++ be2 (a5) ++ be2 (a6)) (a7) h11 (Nat.le_of_ble_eq_true rfl) (by decide)).mono ?_); rintro e w12 ⟨rfl, h12⟩)) | (go_at_call 29; ((with_reducible refine (rws_u2 _ _ _ 54 (be2 (1) ++ z8s 10 ++ be4 (1594834165) ++ be2 (a1) ++ be2 (a0) ++ z8s 16 ++ be2 (a2) ++ be2 (a3) ++ be2 (a4) ++ be2 (a5) ++ be2 (a6) ++ be2 (a7)) (0) h12 (Nat.le_of_ble_eq_true rfl) (by decide)).mono ?_); rintro e w13 ⟨rfl, h13⟩; have g13 : w13.cell? ⟨w.heap.size, 8, none⟩ = some (.bool true) := (h13.old.cell hz).trans (hX.cell 8))) | (go_at_call 29; ((with_reducible refine (rws_u2 _ _ _ 54 (be2 (1) ++ z8s 10 ++ be4 (1594834165) ++ be2 (a1) ++ be2 (a0) ++ z8s 16 ++ be2 (a2) ++ be2 (a3) ++ be2 (a4) ++ be2 (a5) ++ be2 (a6) ++ be2 (a7) ++ be2 (0)) (1) h13 (Nat.le_of_ble_eq_true rfl) (by decide)).mono ?_); rintro e w14 ⟨rfl, h14⟩)) | (go_at_call 29; ((with_reducible refine (rws_u2 _ _ _ 54 (be2 (1) ++ z8s 10 ++ be4 (1594834165) ++ be2 (a1) ++ be2 (a0) ++ z8s 16 ++ be2 (a2) ++ be2 (a3) ++ be2 (a4) ++ be2 (a5) ++ be2 (a6) ++ be2 (a7) ++ be2 (0) ++ be2 (1)) (0) h14 (Nat.le_of_ble_eq_true rfl) (by decide)).mono ?_); rintro e w15 ⟨rfl, h15⟩; have hg : ∃ A c, w15.cell? ⟨w.heap.size + 1, 0, none⟩ = some (.slice A 54 c) ∧ Lists w15 w15.heap.size A (putHs a0 a1 a2 a3 a4 a5 a6 a7 true) ∧ 54 ≤ c := h15.give; obtain ⟨A9, c9, gq, hl9, hc9⟩ := hg)))
  go_ret
  exact ⟨A9, c9, rfl, hl9, hc9, HB.out.trans (h15.old.mono HB.out.size)⟩
set_option maxRecDepth 100000 in
set_option maxHeartbeats 16000000 in
theorem rPutHead_false (a0 a1 a2 a3 a4 a5 a6 a7 : Int) (w : World) : Calls Try.prog 12 #[.agg #[.int .i64 a0, .int .i64 a1, .int .i64 a2, .int .i64 a3, .int .i64 a4, .int .i64 a5, .int .i64 a6, .int .i64 a7, .bool false]] w (GaveR w (putHs a0 a1 a2 a3 a4 a5 a6 a7 false)) := by
  obtain ⟨w0, hw0⟩ : ∃ w0, w0 = w.alloc (.cells #[.int .i64 a0, .int .i64 a1, .int .i64 a2, .int .i64 a3, .int .i64 a4, .int .i64 a5, .int .i64 a6, .int .i64 a7, .bool false] 25) := ⟨_, rfl⟩
  have hX : Blk w0 w.heap.size 25 #[.int .i64 a0, .int .i64 a1, .int .i64 a2, .int .i64 a3, .int .i64 a4, .int .i64 a5, .int .i64 a6, .int .i64 a7, .bool false] := by rw [hw0]; exact Blk.new w _ _
  have hz : w.heap.size < w0.heap.size := by rw [hw0]; simp
  have hb0 : Below w.heap.size w w0 := by rw [hw0]; exact (Below.refl _ _).alloc (Nat.le_refl _) _
  have hq : w0.heap.size = w.heap.size + 1 := by rw [hw0]; simp
  have h0 : RWS w0 (w0.alloc (.cells #[.slice none 0 0, .int .i64 54, .bool false] 65)) (w.heap.size + 1) 54 [] := hq ▸ rws_new w0 w0 54 _ rfl (Below.refl _ _)
  have hmk10 : ∀ w : World, (Instr.makeSlice 26 (.int .i64 10) (.int .i64 10)).run Try.prog w = .ok (.slice (some ⟨w.heap.size, 0, none⟩) 10 10) (w.alloc (.cells (zcs 10) 5)) := fun w => make_zcs 10 (by decide) w
  have hmk16 : ∀ w : World, (Instr.makeSlice 26 (.int .i64 16) (.int .i64 16)).run Try.prog w = .ok (.slice (some ⟨w.heap.size, 0, none⟩) 16 16) (w.alloc (.cells (zcs 16) 5)) := fun w => make_zcs 16 (by decide) w
  have HB := Lib.hid hb0
  
  subst hw0
  clear hb0 hq
  go_enter Try.func12, Try.ntmps12
  go_wp2_with (first | (go_at_call 29; ((with_reducible refine (rws_u2 _ _ _ 54 ([] : List Value) (1) h0 (Nat.le_of_ble_eq_true rfl) (by decide)).mono ?_); rintro e w1 ⟨rfl, h1⟩)) | (go_at_call 30; ((with_reducible refine (rws_zeros _ _ _ 54 10 _ (be2 (1)) rfl h1 (Nat.le_of_ble_eq_true rfl) (by decide)).mono ?_); rintro e w2 ⟨rfl, h2⟩)) | (go_at_call 29; ((with_reducible refine (rws_u4 _ _ _ 54 (be2 (1) ++ z8s 10) (1594834165) h2 (Nat.le_of_ble_eq_true rfl) (by decide)).mono ?_); rintro e w3 ⟨rfl, h3⟩; have g3 : w3.cell? ⟨w.heap.size, 1, none⟩ = some (.int .i64 a1) := (h3.old.cell hz).trans (hX.cell 1))) | (go_at_call 29; ((with_reducible refine (rws_u2 _ _ _ 54 (be2 (1) ++ z8s 10 ++ be4 (1594834165)) (a1) h3 (Nat.le_of_ble_eq_true rfl) (by decide)).mono ?_); rintro e w4 ⟨rfl, h4⟩; have g4 : w4.cell? ⟨w.heap.size, 0, none⟩ = some (.int .i64 a0) := (h4.old.cell hz).trans (hX.cell 0))) | (go_at_call 29; ((with_reducible refine (rws_u2 _ _ _ 54 (be2 (1) ++ z8s 10 ++ be4 (1594834165) ++ be2 (a1)) (a0) h4 (Nat.le_of_ble_eq_true rfl) (by decide)).mono ?_); rintro e w5 ⟨rfl, h5⟩)) | (go_at_call 30; ((with_reducible refine (rws_zeros _ _ _ 54 16 _ (be2 (1) ++ z8s 10 ++ be4 (1594834165) ++ be2 (a1) ++ be2 (a0)) rfl h5 (Nat.le_of_ble_eq_true rfl) (by decide)).mono ?_); rintro e w6 ⟨rfl, h6⟩; have g6 : w6.cell? ⟨w.heap.size, 2, none⟩ = some (.int .i64 a2) := (h6.old.cell hz).trans (hX.cell 2))) | (go_at_call 29; ((with_reducible refine (rws_u2 _ _ _ 54 (be2 (1) ++ z8s 10 ++ be4 (1594834165) ++ be2 (a1) ++ be2 (a0) ++ z8s 16) (a2) h6 (Nat.le_of_ble_eq_true rfl) (by decide)).mono ?_); rintro e w7 ⟨rfl, h7⟩; have g7 : w7.cell? ⟨w.heap.size, 3, none⟩ = some (.int .i64 a3) := (h7.old.cell hz).trans (hX.cell 3))) | (go_at_call 29; ((with_reducible refine (rws_u2 _ _ _ 54 (be2 (1) ++ z8s 10 ++ be4 (1594834165) ++ be2 (a1) ++ be2 (a0) ++ z8s 16 ++ be2 (a2)) (a3) h7 (Nat.le_of_ble_eq_true rfl) (by decide)).mono ?_); rintro e w8 ⟨rfl, h8⟩; have g8 : w8.cell? ⟨w.heap.size, 4, none⟩ = some (.int .i64 a4) := (h8.old.cell hz).trans (hX.cell 4))) | (go_at_call 29; ((with_reducible refine (rws_u2 _ _ _ 54 (be2 (1) ++ z8s 10 ++ be4 (1594834165) ++ be2 (a1) ++ be2 (a0) ++ z8s 16 ++ be2 (a2) ++ be2 (a3)) (a4) h8 (Nat.le_of_ble_eq_true rfl) (by decide)).mono ?_); rintro e w9 ⟨rfl, h9⟩; have g9 : w9.cell? ⟨w.heap.size, 5, none⟩ = some (.int .i64 a5) := (h9.old.cell hz).trans (hX.cell 5))) | (go_at_call 29; ((with_reducible refine (rws_u2 _ _ _ 54 (be2 (1) ++ z8s 10 ++ be4 (1594834165) ++ be2 (a1) ++ be2 (a0) ++ z8s 16 ++ be2 (a2) ++ be2 (a3) ++ be2 (a4)) (a5) h9 (Nat.le_of_ble_eq_true rfl) (by decide)).mono ?_); rintro e w10 ⟨rfl, h10⟩; have g10 : w10.cell? ⟨w.heap.size, 6, none⟩ = some (.int .i64 a6) := (h10.old.cell hz).trans (hX.cell 6))) | (go_at_call 29; ((with_reducible refine (rws_u2 _ _ _ 54 (be2 (1) ++ z8s 10 ++ be4 (1594834165) ++ be2 (a1) ++ be2 (a0) ++ z8s 16 ++ be2 (a2) ++ be2 (a3) ++ be2 (a4) ++ be2 (a5)) (a6) h10 (Nat.le_of_ble_eq_true rfl) (by decide)).mono ?_); rintro e w11 ⟨rfl, h11⟩; have g11 : w11.cell? ⟨w.heap.size, 7, none⟩ = some (.int .i64 a7) := (h11.old.cell hz).trans (hX.cell 7))) | (go_at_call 29; ((with_reducible refine (rws_u2 _ _ _ 54 (be2 (1) ++ z8s 10 ++ be4 (1594834165) ++ be2 (a1) ++ be2 (a0) ++ z8s 16 ++ be2 (a2) ++ be2 (a3) ++ be2 (a4) ++ be2 (a5) ++ be2 (a6)) (a7) h11 (Nat.le_of_ble_eq_true rfl) (by decide)).mono ?_); rintro e w12 ⟨rfl, h12⟩)) | (go_at_call 29; ((with_reducible refine (rws_u2 _ _ _ 54 (be2 (1) ++ z8s 10 ++ be4 (1594834165) ++ be2 (a1) ++ be2 (a0) ++ z8s 16 ++ be2 (a2) ++ be2 (a3) ++ be2 (a4) ++ be2 (a5) ++ be2 (a6) ++ be2 (a7)) (0) h12 (Nat.le_of_ble_eq_true rfl) (by decide)).mono ?_); rintro e w13 ⟨rfl, h13⟩; have g13 : w13.cell? ⟨w.heap.size, 8, none⟩ = some (.bool false) := (h13.old.cell hz).trans (hX.cell 8))) | (go_at_call 29; ((with_reducible refine (rws_u2 _ _ _ 54 (be2 (1) ++ z8s 10 ++ be4 (1594834165) ++ be2 (a1) ++ be2 (a0) ++ z8s 16 ++ be2 (a2) ++ be2 (a3) ++ be2 (a4) ++ be2 (a5) ++ be2 (a6) ++ be2 (a7) ++ be2 (0)) (0) h13 (Nat.le_of_ble_eq_true rfl) (by decide)).mono ?_); rintro e w14 ⟨rfl, h14⟩)) | (go_at_call 29; ((with_reducible refine (rws_u2 _ _ _ 54 (be2 (1) ++ z8s 10 ++ be4 (1594834165) ++ be2 (a1) ++ be2 (a0) ++ z8s 16 ++ be2 (a2) ++ be2 (a3) ++ be2 (a4) ++ be2 (a5) ++ be2 (a6) ++ be2 (a7) ++ be2 (0) ++ be2 (0)) (0) h14 (Nat.le_of_ble_eq_true rfl) (by decide)).mono ?_); rintro e w15 ⟨rfl, h15⟩; have hg : ∃ A c, w15.cell? ⟨w.heap.size + 1, 0, none⟩ = some (.slice A 54 c) ∧ Lists w15 w15.heap.size A (putHs a0 a1 a2 a3 a4 a5 a6 a7 false) ∧ 54 ≤ c := h15.give; obtain ⟨A9, c9, gq, hl9, hc9⟩ := hg)))
  go_ret
  exact ⟨A9, c9, rfl, hl9, hc9, HB.out.trans (h15.old.mono HB.out.size)⟩
theorem rPutHead_any (a0 a1 a2 a3 a4 a5 a6 a7 : Int) (b8 : Bool) (w : World) : Calls Try.prog 12 #[.agg #[.int .i64 a0, .int .i64 a1, .int .i64 a2, .int .i64 a3, .int .i64 a4, .int .i64 a5, .int .i64 a6, .int .i64 a7, .bool b8]] w (GaveR w (putHs a0 a1 a2 a3 a4 a5 a6 a7 b8)) := by
  cases b8
  · exact rPutHead_false a0 a1 a2 a3 a4 a5 a6 a7 w
  · exact rPutHead_true a0 a1 a2 a3 a4 a5 a6 a7 w

end Go.Proofs.Ytbomgaacahaofaa
