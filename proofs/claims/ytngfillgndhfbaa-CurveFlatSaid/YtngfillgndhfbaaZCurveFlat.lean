/- CurveFlat: where the pieces of a bow that may be are enough, the place in the middle of two that follow one another is near the middle of these; for every bow and every int. -/
import Derived.Test.YtngfillgndhfbaaCCv8

namespace Go.Proofs.Ytngfillgndhfbaa.curveFlat
open Go Go.ChangeShapes Go.WideShapes Go.ChangeAt Go.RowKit
set_option linter.unusedVariables false
set_option linter.unusedSimpArgs false

theorem dp_al {f g : Nat → Int} (h : ∀ k, 0 ≤ f k ∧ f k ≤ 1073741824) (h2 : ∀ k, -1048576 ≤ g k ∧ g k ≤ 1048576) : ∀ k : Nat, -1048576 * al f k ≤ dp f g k ∧ dp f g k ≤ 1048576 * al f k
  | 0 => by simp [dp, al]
  | k + 1 => by
    have := dp_al h h2 k
    have a := Int.mul_le_mul_of_nonneg_left (h2 k).1 (h k).1
    have b := Int.mul_le_mul_of_nonneg_left (h2 k).2 (h k).1
    unfold dp al
    omega
theorem rnear6_any (x : Int) (w : World) (h1 : -6 ≤ x) (h2 : x ≤ 6) : Calls Try.prog 21 #[.int .i64 x] w fun e w' => e = .returned (.bool true) ∧ w = w' := by
  have d1 : decide (x ≥ -6) = true := by simpa using h1
  have d2 : decide (x ≤ 6) = true := by simpa using h2
  clear h1 h2
  go_enter Try.func21, Try.ntmps21
  go_wp2
  go_ret
  exact ⟨rfl, rfl⟩
theorem near_in {m q a : Int} (h : 1 ≤ q) (h1 : -1048576 * q ≤ a) (h2 : a ≤ 1048576 * q) (hm : m = near a q) : -2097152 ≤ m ∧ m ≤ 2097152 := by
  subst hm
  have h3 := near_two a q h
  generalize near a q = z at *
  constructor
  · by_cases g : z ≤ -2097153
    · have := Int.mul_le_mul_of_nonneg_right g (show 0 ≤ q by omega)
      omega
    · omega
  · by_cases g : 2097153 ≤ z
    · have := Int.mul_le_mul_of_nonneg_right g (show 0 ≤ q by omega)
      omega
    · omega
set_option maxRecDepth 100000 in
set_option maxHeartbeats 4000000 in
theorem none_ (c : Bw) (i : Int) (w : World) (hm : mayW c = false) : Calls Try.prog 6 #[bwV c, .int .i64 i] w fun e w' => e = .returned (.bool true) ∧ Below w.heap.size w w' := by
  have CRM := fun W => rcmay_any c W
  have CL := fun W => lives20 W
  rw [hm] at CRM
  clear hm
  simp only [bwV] at *
  have B0 := below_a1 w (.cells #[.int .i64 c.k, .int .i64 c.xa, .int .i64 c.ya, .int .i64 c.xb, .int .i64 c.yb, .int .i64 c.xc, .int .i64 c.yc, .int .i64 c.xd, .int .i64 c.yd] 25)
  have KB := Blk.new w 25 #[.int .i64 c.k, .int .i64 c.xa, .int .i64 c.ya, .int .i64 c.xb, .int .i64 c.yb, .int .i64 c.xc, .int .i64 c.yc, .int .i64 c.xd, .int .i64 c.yd]
  have HB0 := Lib.hid B0
  have HKB := Lib.hid KB
  clear B0 KB
  go_enter Try.func6, Try.ntmps6
  go_wp2_with (first | (go_at_call 12; ((with_reducible refine (CRM _).mono ?_); rintro e w1 ⟨rfl, b1⟩; first | (have hK := hK.trans (b1.mono hK.size); have KV := HKV.out.below b1; have kc := KV.lt; have k0 := KV.cell 0; have k1 := KV.cell 1; have k2 := KV.cell 2; have k3 := KV.cell 3; have k4 := KV.cell 4; have k5 := KV.cell 5; have k6 := KV.cell 6; have k7 := KV.cell 7; have k8 := KV.cell 8; simp only [bwL, List.getElem?_toArray, List.getElem?_cons_succ, List.getElem?_cons_zero] at k0 k1 k2 k3 k4 k5 k6 k7 k8; have HKV := Lib.hid KV; clear KV) | (have hK := HB0.out.trans (b1.mono HB0.out.size); have KV := HKB.out.below b1; have kc := KV.lt; have k0 := KV.cell 0; have k1 := KV.cell 1; have k2 := KV.cell 2; have k3 := KV.cell 3; have k4 := KV.cell 4; have k5 := KV.cell 5; have k6 := KV.cell 6; have k7 := KV.cell 7; have k8 := KV.cell 8; simp only [bwL, List.getElem?_toArray, List.getElem?_cons_succ, List.getElem?_cons_zero] at k0 k1 k2 k3 k4 k5 k6 k7 k8; have HKV := Lib.hid KV; clear KV))) | (go_at_call 10; ((with_reducible refine (CL _).mono ?_); rintro e w1 ⟨rfl, b1⟩; first | (have hK := hK.trans (b1.mono hK.size); have KV := HKV.out.below b1; have kc := KV.lt; have k0 := KV.cell 0; have k1 := KV.cell 1; have k2 := KV.cell 2; have k3 := KV.cell 3; have k4 := KV.cell 4; have k5 := KV.cell 5; have k6 := KV.cell 6; have k7 := KV.cell 7; have k8 := KV.cell 8; simp only [bwL, List.getElem?_toArray, List.getElem?_cons_succ, List.getElem?_cons_zero] at k0 k1 k2 k3 k4 k5 k6 k7 k8; have HKV := Lib.hid KV; clear KV) | (have hK := HB0.out.trans (b1.mono HB0.out.size); have KV := HKB.out.below b1; have kc := KV.lt; have k0 := KV.cell 0; have k1 := KV.cell 1; have k2 := KV.cell 2; have k3 := KV.cell 3; have k4 := KV.cell 4; have k5 := KV.cell 5; have k6 := KV.cell 6; have k7 := KV.cell 7; have k8 := KV.cell 8; simp only [bwL, List.getElem?_toArray, List.getElem?_cons_succ, List.getElem?_cons_zero] at k0 k1 k2 k3 k4 k5 k6 k7 k8; have HKV := Lib.hid KV; clear KV))))
  go_ret
  exact ⟨rfl, hK⟩
set_option maxRecDepth 100000 in
set_option maxHeartbeats 4000000 in
theorem bad_0 (c : Bw) (i : Int) (w : World) (hm : mayW c = true) (d0 : decide (needR c > 8 * pcW c * pcW c) = true) : Calls Try.prog 6 #[bwV c, .int .i64 i] w fun e w' => e = .returned (.bool true) ∧ Below w.heap.size w w' := by
  have CRM := fun W => rcmay_any c W
  have CL := fun W => lives20 W
  have CP := fun W => cpcs_any c W
  have CN := fun W => rneed_any c hm W
  have hn : 1 ≤ pcW c ∧ pcW c ≤ 256 := by unfold pcW; rw [if_pos hm]; exact pcs_in _
  rw [hm] at CRM
  clear hm
  generalize pcW c = n at *
  generalize needR c = r at *
  obtain ⟨n1, n2⟩ := hn
  have g1 := sq_le (k := n) (by omega) (by omega)
  obtain ⟨s1, s2⟩ := g1
  have z1 : decide (n < 1) = false := by simp; omega
  have z2 : decide (n > 256) = false := by simp; omega
  have z3 : decide (n ≥ 1) = true := by simp; omega
  have z4 : decide (n ≤ 256) = true := by simp; omega
  simp only [bwV] at *
  have B0 := below_a1 w (.cells #[.int .i64 c.k, .int .i64 c.xa, .int .i64 c.ya, .int .i64 c.xb, .int .i64 c.yb, .int .i64 c.xc, .int .i64 c.yc, .int .i64 c.xd, .int .i64 c.yd] 25)
  have KB := Blk.new w 25 #[.int .i64 c.k, .int .i64 c.xa, .int .i64 c.ya, .int .i64 c.xb, .int .i64 c.yb, .int .i64 c.xc, .int .i64 c.yc, .int .i64 c.xd, .int .i64 c.yd]
  have HB0 := Lib.hid B0
  have HKB := Lib.hid KB
  clear B0 KB
  go_enter Try.func6, Try.ntmps6
  go_wp2_with (first | (go_at_call 12; ((with_reducible refine (CRM _).mono ?_); rintro e w1 ⟨rfl, b1⟩; first | (have hK := hK.trans (b1.mono hK.size); have KV := HKV.out.below b1; have kc := KV.lt; have k0 := KV.cell 0; have k1 := KV.cell 1; have k2 := KV.cell 2; have k3 := KV.cell 3; have k4 := KV.cell 4; have k5 := KV.cell 5; have k6 := KV.cell 6; have k7 := KV.cell 7; have k8 := KV.cell 8; simp only [bwL, List.getElem?_toArray, List.getElem?_cons_succ, List.getElem?_cons_zero] at k0 k1 k2 k3 k4 k5 k6 k7 k8; have HKV := Lib.hid KV; clear KV) | (have hK := HB0.out.trans (b1.mono HB0.out.size); have KV := HKB.out.below b1; have kc := KV.lt; have k0 := KV.cell 0; have k1 := KV.cell 1; have k2 := KV.cell 2; have k3 := KV.cell 3; have k4 := KV.cell 4; have k5 := KV.cell 5; have k6 := KV.cell 6; have k7 := KV.cell 7; have k8 := KV.cell 8; simp only [bwL, List.getElem?_toArray, List.getElem?_cons_succ, List.getElem?_cons_zero] at k0 k1 k2 k3 k4 k5 k6 k7 k8; have HKV := Lib.hid KV; clear KV))) | (go_at_call 10; ((with_reducible refine (CL _).mono ?_); rintro e w1 ⟨rfl, b1⟩; first | (have hK := hK.trans (b1.mono hK.size); have KV := HKV.out.below b1; have kc := KV.lt; have k0 := KV.cell 0; have k1 := KV.cell 1; have k2 := KV.cell 2; have k3 := KV.cell 3; have k4 := KV.cell 4; have k5 := KV.cell 5; have k6 := KV.cell 6; have k7 := KV.cell 7; have k8 := KV.cell 8; simp only [bwL, List.getElem?_toArray, List.getElem?_cons_succ, List.getElem?_cons_zero] at k0 k1 k2 k3 k4 k5 k6 k7 k8; have HKV := Lib.hid KV; clear KV) | (have hK := HB0.out.trans (b1.mono HB0.out.size); have KV := HKB.out.below b1; have kc := KV.lt; have k0 := KV.cell 0; have k1 := KV.cell 1; have k2 := KV.cell 2; have k3 := KV.cell 3; have k4 := KV.cell 4; have k5 := KV.cell 5; have k6 := KV.cell 6; have k7 := KV.cell 7; have k8 := KV.cell 8; simp only [bwL, List.getElem?_toArray, List.getElem?_cons_succ, List.getElem?_cons_zero] at k0 k1 k2 k3 k4 k5 k6 k7 k8; have HKV := Lib.hid KV; clear KV))) | (go_at_call 9; ((with_reducible refine (CP _).mono ?_); rintro e w1 ⟨rfl, b1⟩; first | (have hK := hK.trans (b1.mono hK.size); have KV := HKV.out.below b1; have kc := KV.lt; have k0 := KV.cell 0; have k1 := KV.cell 1; have k2 := KV.cell 2; have k3 := KV.cell 3; have k4 := KV.cell 4; have k5 := KV.cell 5; have k6 := KV.cell 6; have k7 := KV.cell 7; have k8 := KV.cell 8; simp only [bwL, List.getElem?_toArray, List.getElem?_cons_succ, List.getElem?_cons_zero] at k0 k1 k2 k3 k4 k5 k6 k7 k8; have HKV := Lib.hid KV; clear KV) | (have hK := HB0.out.trans (b1.mono HB0.out.size); have KV := HKB.out.below b1; have kc := KV.lt; have k0 := KV.cell 0; have k1 := KV.cell 1; have k2 := KV.cell 2; have k3 := KV.cell 3; have k4 := KV.cell 4; have k5 := KV.cell 5; have k6 := KV.cell 6; have k7 := KV.cell 7; have k8 := KV.cell 8; simp only [bwL, List.getElem?_toArray, List.getElem?_cons_succ, List.getElem?_cons_zero] at k0 k1 k2 k3 k4 k5 k6 k7 k8; have HKV := Lib.hid KV; clear KV))) | (go_at_call 20; ((with_reducible refine (CN _).mono ?_); rintro e w1 ⟨rfl, b1⟩; first | (have hK := hK.trans (b1.mono hK.size); have KV := HKV.out.below b1; have kc := KV.lt; have k0 := KV.cell 0; have k1 := KV.cell 1; have k2 := KV.cell 2; have k3 := KV.cell 3; have k4 := KV.cell 4; have k5 := KV.cell 5; have k6 := KV.cell 6; have k7 := KV.cell 7; have k8 := KV.cell 8; simp only [bwL, List.getElem?_toArray, List.getElem?_cons_succ, List.getElem?_cons_zero] at k0 k1 k2 k3 k4 k5 k6 k7 k8; have HKV := Lib.hid KV; clear KV) | (have hK := HB0.out.trans (b1.mono HB0.out.size); have KV := HKB.out.below b1; have kc := KV.lt; have k0 := KV.cell 0; have k1 := KV.cell 1; have k2 := KV.cell 2; have k3 := KV.cell 3; have k4 := KV.cell 4; have k5 := KV.cell 5; have k6 := KV.cell 6; have k7 := KV.cell 7; have k8 := KV.cell 8; simp only [bwL, List.getElem?_toArray, List.getElem?_cons_succ, List.getElem?_cons_zero] at k0 k1 k2 k3 k4 k5 k6 k7 k8; have HKV := Lib.hid KV; clear KV))))
  go_ret
  exact ⟨rfl, hK⟩
set_option maxRecDepth 100000 in
set_option maxHeartbeats 4000000 in
theorem bad_1 (c : Bw) (i : Int) (w : World) (hm : mayW c = true) (d0 : decide (needR c > 8 * pcW c * pcW c) = false) (d1 : decide (i < 0) = true) : Calls Try.prog 6 #[bwV c, .int .i64 i] w fun e w' => e = .returned (.bool true) ∧ Below w.heap.size w w' := by
  have CRM := fun W => rcmay_any c W
  have CL := fun W => lives20 W
  have CP := fun W => cpcs_any c W
  have CN := fun W => rneed_any c hm W
  have hn : 1 ≤ pcW c ∧ pcW c ≤ 256 := by unfold pcW; rw [if_pos hm]; exact pcs_in _
  rw [hm] at CRM
  clear hm
  generalize pcW c = n at *
  generalize needR c = r at *
  obtain ⟨n1, n2⟩ := hn
  have g1 := sq_le (k := n) (by omega) (by omega)
  obtain ⟨s1, s2⟩ := g1
  have z1 : decide (n < 1) = false := by simp; omega
  have z2 : decide (n > 256) = false := by simp; omega
  have z3 : decide (n ≥ 1) = true := by simp; omega
  have z4 : decide (n ≤ 256) = true := by simp; omega
  simp only [bwV] at *
  have B0 := below_a1 w (.cells #[.int .i64 c.k, .int .i64 c.xa, .int .i64 c.ya, .int .i64 c.xb, .int .i64 c.yb, .int .i64 c.xc, .int .i64 c.yc, .int .i64 c.xd, .int .i64 c.yd] 25)
  have KB := Blk.new w 25 #[.int .i64 c.k, .int .i64 c.xa, .int .i64 c.ya, .int .i64 c.xb, .int .i64 c.yb, .int .i64 c.xc, .int .i64 c.yc, .int .i64 c.xd, .int .i64 c.yd]
  have HB0 := Lib.hid B0
  have HKB := Lib.hid KB
  clear B0 KB
  go_enter Try.func6, Try.ntmps6
  go_wp2_with (first | (go_at_call 12; ((with_reducible refine (CRM _).mono ?_); rintro e w1 ⟨rfl, b1⟩; first | (have hK := hK.trans (b1.mono hK.size); have KV := HKV.out.below b1; have kc := KV.lt; have k0 := KV.cell 0; have k1 := KV.cell 1; have k2 := KV.cell 2; have k3 := KV.cell 3; have k4 := KV.cell 4; have k5 := KV.cell 5; have k6 := KV.cell 6; have k7 := KV.cell 7; have k8 := KV.cell 8; simp only [bwL, List.getElem?_toArray, List.getElem?_cons_succ, List.getElem?_cons_zero] at k0 k1 k2 k3 k4 k5 k6 k7 k8; have HKV := Lib.hid KV; clear KV) | (have hK := HB0.out.trans (b1.mono HB0.out.size); have KV := HKB.out.below b1; have kc := KV.lt; have k0 := KV.cell 0; have k1 := KV.cell 1; have k2 := KV.cell 2; have k3 := KV.cell 3; have k4 := KV.cell 4; have k5 := KV.cell 5; have k6 := KV.cell 6; have k7 := KV.cell 7; have k8 := KV.cell 8; simp only [bwL, List.getElem?_toArray, List.getElem?_cons_succ, List.getElem?_cons_zero] at k0 k1 k2 k3 k4 k5 k6 k7 k8; have HKV := Lib.hid KV; clear KV))) | (go_at_call 10; ((with_reducible refine (CL _).mono ?_); rintro e w1 ⟨rfl, b1⟩; first | (have hK := hK.trans (b1.mono hK.size); have KV := HKV.out.below b1; have kc := KV.lt; have k0 := KV.cell 0; have k1 := KV.cell 1; have k2 := KV.cell 2; have k3 := KV.cell 3; have k4 := KV.cell 4; have k5 := KV.cell 5; have k6 := KV.cell 6; have k7 := KV.cell 7; have k8 := KV.cell 8; simp only [bwL, List.getElem?_toArray, List.getElem?_cons_succ, List.getElem?_cons_zero] at k0 k1 k2 k3 k4 k5 k6 k7 k8; have HKV := Lib.hid KV; clear KV) | (have hK := HB0.out.trans (b1.mono HB0.out.size); have KV := HKB.out.below b1; have kc := KV.lt; have k0 := KV.cell 0; have k1 := KV.cell 1; have k2 := KV.cell 2; have k3 := KV.cell 3; have k4 := KV.cell 4; have k5 := KV.cell 5; have k6 := KV.cell 6; have k7 := KV.cell 7; have k8 := KV.cell 8; simp only [bwL, List.getElem?_toArray, List.getElem?_cons_succ, List.getElem?_cons_zero] at k0 k1 k2 k3 k4 k5 k6 k7 k8; have HKV := Lib.hid KV; clear KV))) | (go_at_call 9; ((with_reducible refine (CP _).mono ?_); rintro e w1 ⟨rfl, b1⟩; first | (have hK := hK.trans (b1.mono hK.size); have KV := HKV.out.below b1; have kc := KV.lt; have k0 := KV.cell 0; have k1 := KV.cell 1; have k2 := KV.cell 2; have k3 := KV.cell 3; have k4 := KV.cell 4; have k5 := KV.cell 5; have k6 := KV.cell 6; have k7 := KV.cell 7; have k8 := KV.cell 8; simp only [bwL, List.getElem?_toArray, List.getElem?_cons_succ, List.getElem?_cons_zero] at k0 k1 k2 k3 k4 k5 k6 k7 k8; have HKV := Lib.hid KV; clear KV) | (have hK := HB0.out.trans (b1.mono HB0.out.size); have KV := HKB.out.below b1; have kc := KV.lt; have k0 := KV.cell 0; have k1 := KV.cell 1; have k2 := KV.cell 2; have k3 := KV.cell 3; have k4 := KV.cell 4; have k5 := KV.cell 5; have k6 := KV.cell 6; have k7 := KV.cell 7; have k8 := KV.cell 8; simp only [bwL, List.getElem?_toArray, List.getElem?_cons_succ, List.getElem?_cons_zero] at k0 k1 k2 k3 k4 k5 k6 k7 k8; have HKV := Lib.hid KV; clear KV))) | (go_at_call 20; ((with_reducible refine (CN _).mono ?_); rintro e w1 ⟨rfl, b1⟩; first | (have hK := hK.trans (b1.mono hK.size); have KV := HKV.out.below b1; have kc := KV.lt; have k0 := KV.cell 0; have k1 := KV.cell 1; have k2 := KV.cell 2; have k3 := KV.cell 3; have k4 := KV.cell 4; have k5 := KV.cell 5; have k6 := KV.cell 6; have k7 := KV.cell 7; have k8 := KV.cell 8; simp only [bwL, List.getElem?_toArray, List.getElem?_cons_succ, List.getElem?_cons_zero] at k0 k1 k2 k3 k4 k5 k6 k7 k8; have HKV := Lib.hid KV; clear KV) | (have hK := HB0.out.trans (b1.mono HB0.out.size); have KV := HKB.out.below b1; have kc := KV.lt; have k0 := KV.cell 0; have k1 := KV.cell 1; have k2 := KV.cell 2; have k3 := KV.cell 3; have k4 := KV.cell 4; have k5 := KV.cell 5; have k6 := KV.cell 6; have k7 := KV.cell 7; have k8 := KV.cell 8; simp only [bwL, List.getElem?_toArray, List.getElem?_cons_succ, List.getElem?_cons_zero] at k0 k1 k2 k3 k4 k5 k6 k7 k8; have HKV := Lib.hid KV; clear KV))))
  go_ret
  exact ⟨rfl, hK⟩
set_option maxRecDepth 100000 in
set_option maxHeartbeats 4000000 in
theorem bad_2 (c : Bw) (i : Int) (w : World) (hm : mayW c = true) (d0 : decide (needR c > 8 * pcW c * pcW c) = false) (d1 : decide (i < 0) = false) (d2 : decide (i ≥ pcW c) = true) : Calls Try.prog 6 #[bwV c, .int .i64 i] w fun e w' => e = .returned (.bool true) ∧ Below w.heap.size w w' := by
  have CRM := fun W => rcmay_any c W
  have CL := fun W => lives20 W
  have CP := fun W => cpcs_any c W
  have CN := fun W => rneed_any c hm W
  have hn : 1 ≤ pcW c ∧ pcW c ≤ 256 := by unfold pcW; rw [if_pos hm]; exact pcs_in _
  rw [hm] at CRM
  clear hm
  generalize pcW c = n at *
  generalize needR c = r at *
  obtain ⟨n1, n2⟩ := hn
  have g1 := sq_le (k := n) (by omega) (by omega)
  obtain ⟨s1, s2⟩ := g1
  have z1 : decide (n < 1) = false := by simp; omega
  have z2 : decide (n > 256) = false := by simp; omega
  have z3 : decide (n ≥ 1) = true := by simp; omega
  have z4 : decide (n ≤ 256) = true := by simp; omega
  simp only [bwV] at *
  have B0 := below_a1 w (.cells #[.int .i64 c.k, .int .i64 c.xa, .int .i64 c.ya, .int .i64 c.xb, .int .i64 c.yb, .int .i64 c.xc, .int .i64 c.yc, .int .i64 c.xd, .int .i64 c.yd] 25)
  have KB := Blk.new w 25 #[.int .i64 c.k, .int .i64 c.xa, .int .i64 c.ya, .int .i64 c.xb, .int .i64 c.yb, .int .i64 c.xc, .int .i64 c.yc, .int .i64 c.xd, .int .i64 c.yd]
  have HB0 := Lib.hid B0
  have HKB := Lib.hid KB
  clear B0 KB
  go_enter Try.func6, Try.ntmps6
  go_wp2_with (first | (go_at_call 12; ((with_reducible refine (CRM _).mono ?_); rintro e w1 ⟨rfl, b1⟩; first | (have hK := hK.trans (b1.mono hK.size); have KV := HKV.out.below b1; have kc := KV.lt; have k0 := KV.cell 0; have k1 := KV.cell 1; have k2 := KV.cell 2; have k3 := KV.cell 3; have k4 := KV.cell 4; have k5 := KV.cell 5; have k6 := KV.cell 6; have k7 := KV.cell 7; have k8 := KV.cell 8; simp only [bwL, List.getElem?_toArray, List.getElem?_cons_succ, List.getElem?_cons_zero] at k0 k1 k2 k3 k4 k5 k6 k7 k8; have HKV := Lib.hid KV; clear KV) | (have hK := HB0.out.trans (b1.mono HB0.out.size); have KV := HKB.out.below b1; have kc := KV.lt; have k0 := KV.cell 0; have k1 := KV.cell 1; have k2 := KV.cell 2; have k3 := KV.cell 3; have k4 := KV.cell 4; have k5 := KV.cell 5; have k6 := KV.cell 6; have k7 := KV.cell 7; have k8 := KV.cell 8; simp only [bwL, List.getElem?_toArray, List.getElem?_cons_succ, List.getElem?_cons_zero] at k0 k1 k2 k3 k4 k5 k6 k7 k8; have HKV := Lib.hid KV; clear KV))) | (go_at_call 10; ((with_reducible refine (CL _).mono ?_); rintro e w1 ⟨rfl, b1⟩; first | (have hK := hK.trans (b1.mono hK.size); have KV := HKV.out.below b1; have kc := KV.lt; have k0 := KV.cell 0; have k1 := KV.cell 1; have k2 := KV.cell 2; have k3 := KV.cell 3; have k4 := KV.cell 4; have k5 := KV.cell 5; have k6 := KV.cell 6; have k7 := KV.cell 7; have k8 := KV.cell 8; simp only [bwL, List.getElem?_toArray, List.getElem?_cons_succ, List.getElem?_cons_zero] at k0 k1 k2 k3 k4 k5 k6 k7 k8; have HKV := Lib.hid KV; clear KV) | (have hK := HB0.out.trans (b1.mono HB0.out.size); have KV := HKB.out.below b1; have kc := KV.lt; have k0 := KV.cell 0; have k1 := KV.cell 1; have k2 := KV.cell 2; have k3 := KV.cell 3; have k4 := KV.cell 4; have k5 := KV.cell 5; have k6 := KV.cell 6; have k7 := KV.cell 7; have k8 := KV.cell 8; simp only [bwL, List.getElem?_toArray, List.getElem?_cons_succ, List.getElem?_cons_zero] at k0 k1 k2 k3 k4 k5 k6 k7 k8; have HKV := Lib.hid KV; clear KV))) | (go_at_call 9; ((with_reducible refine (CP _).mono ?_); rintro e w1 ⟨rfl, b1⟩; first | (have hK := hK.trans (b1.mono hK.size); have KV := HKV.out.below b1; have kc := KV.lt; have k0 := KV.cell 0; have k1 := KV.cell 1; have k2 := KV.cell 2; have k3 := KV.cell 3; have k4 := KV.cell 4; have k5 := KV.cell 5; have k6 := KV.cell 6; have k7 := KV.cell 7; have k8 := KV.cell 8; simp only [bwL, List.getElem?_toArray, List.getElem?_cons_succ, List.getElem?_cons_zero] at k0 k1 k2 k3 k4 k5 k6 k7 k8; have HKV := Lib.hid KV; clear KV) | (have hK := HB0.out.trans (b1.mono HB0.out.size); have KV := HKB.out.below b1; have kc := KV.lt; have k0 := KV.cell 0; have k1 := KV.cell 1; have k2 := KV.cell 2; have k3 := KV.cell 3; have k4 := KV.cell 4; have k5 := KV.cell 5; have k6 := KV.cell 6; have k7 := KV.cell 7; have k8 := KV.cell 8; simp only [bwL, List.getElem?_toArray, List.getElem?_cons_succ, List.getElem?_cons_zero] at k0 k1 k2 k3 k4 k5 k6 k7 k8; have HKV := Lib.hid KV; clear KV))) | (go_at_call 20; ((with_reducible refine (CN _).mono ?_); rintro e w1 ⟨rfl, b1⟩; first | (have hK := hK.trans (b1.mono hK.size); have KV := HKV.out.below b1; have kc := KV.lt; have k0 := KV.cell 0; have k1 := KV.cell 1; have k2 := KV.cell 2; have k3 := KV.cell 3; have k4 := KV.cell 4; have k5 := KV.cell 5; have k6 := KV.cell 6; have k7 := KV.cell 7; have k8 := KV.cell 8; simp only [bwL, List.getElem?_toArray, List.getElem?_cons_succ, List.getElem?_cons_zero] at k0 k1 k2 k3 k4 k5 k6 k7 k8; have HKV := Lib.hid KV; clear KV) | (have hK := HB0.out.trans (b1.mono HB0.out.size); have KV := HKB.out.below b1; have kc := KV.lt; have k0 := KV.cell 0; have k1 := KV.cell 1; have k2 := KV.cell 2; have k3 := KV.cell 3; have k4 := KV.cell 4; have k5 := KV.cell 5; have k6 := KV.cell 6; have k7 := KV.cell 7; have k8 := KV.cell 8; simp only [bwL, List.getElem?_toArray, List.getElem?_cons_succ, List.getElem?_cons_zero] at k0 k1 k2 k3 k4 k5 k6 k7 k8; have HKV := Lib.hid KV; clear KV))))
  go_ret
  exact ⟨rfl, hK⟩
theorem at_in (c : Bw) (h : mayW c = true) {i n : Int} (i0 : 0 ≤ i) (hin : i ≤ n) (n1 : 1 ≤ n) (n2 : n ≤ 512) : (-2097152 ≤ (atW c i n).1 ∧ (atW c i n).1 ≤ 2097152) ∧ (-2097152 ≤ (atW c i n).2 ∧ (atW c i n).2 ≤ 2097152) := by
  obtain ⟨m, hl, m1, m3⟩ := plc_len h
  have hxy := plc_at hl i n
  have ex : dpx (plc c) i n m = (atW c i n).1 := congrArg Prod.fst hxy
  have ey : dpy (plc c) i n m = (atW c i n).2 := congrArg Prod.snd hxy
  have hv := wts_le (k := n - i) (i := i) (by omega) (by omega) i0 (by omega) m m3
  have hp := al_pos ⟨m1, m3⟩ (i := i) n1
  have hx := dp_al (w4g_le hv) (fun k => (g_le (any_of_may h) k).1) (m + 1)
  have hy := dp_al (w4g_le hv) (fun k => (g_le (any_of_may h) k).2) (m + 1)
  exact ⟨near_in hp hx.1 hx.2 ex.symm, near_in hp hy.1 hy.2 ey.symm⟩
set_option maxRecDepth 100000 in
set_option maxHeartbeats 4000000 in
theorem good (c : Bw) (i : Int) (w : World) (hm : mayW c = true) (hr : needR c ≤ 8 * pcW c * pcW c) (i0 : 0 ≤ i) (hi : i < pcW c) : Calls Try.prog 6 #[bwV c, .int .i64 i] w fun e w' => e = .returned (.bool true) ∧ Below w.heap.size w w' := by
  have CRM := fun W => rcmay_any c W
  have CL := fun W => lives20 W
  have CP := fun W => cpcs_any c W
  have CN := fun W => rneed_any c hm W
  have hn : 1 ≤ pcW c ∧ pcW c ≤ 256 := by unfold pcW; rw [if_pos hm]; exact pcs_in _
  have hf := flat_both c hm (n := pcW c) (i := i) hn.1 i0 hi (by rw [← needR_eq]; exact hr)
  rw [hm] at CRM
  generalize pcW c = n at *
  generalize needR c = r at *
  obtain ⟨n1, n2⟩ := hn
  have CA := fun W => cat_ok c i n hm n1 (by omega) i0 (by omega) W
  have CB := fun W => cat_ok c (i + 1) n hm n1 (by omega) (by omega) (by omega) W
  have CC := fun W => cat_ok c (2 * i + 1) (2 * n) hm (by omega) (by omega) (by omega) (by omega) W
  have ha := at_in c hm (i := i) (n := n) i0 (by omega) n1 (by omega)
  have hb := at_in c hm (i := i + 1) (n := n) (by omega) (by omega) n1 (by omega)
  have hc := at_in c hm (i := 2 * i + 1) (n := 2 * n) (by omega) (by omega) (by omega) (by omega)
  generalize (atW c i n).1 = ax at *
  generalize (atW c i n).2 = ay at *
  generalize (atW c (i + 1) n).1 = bx at *
  generalize (atW c (i + 1) n).2 = by_ at *
  generalize (atW c (2 * i + 1) (2 * n)).1 = mx at *
  generalize (atW c (2 * i + 1) (2 * n)).2 = my at *
  obtain ⟨⟨x1, x2⟩, ⟨x3, x4⟩⟩ := hf
  obtain ⟨⟨a1, a2⟩, ⟨a3, a4⟩⟩ := ha
  obtain ⟨⟨b1, b2⟩, ⟨b3, b4⟩⟩ := hb
  obtain ⟨⟨c1, c2⟩, ⟨c3, c4⟩⟩ := hc
  have CX := fun W => rnear6_any (2 * mx - ax - bx) W x1 x2
  have CY := fun W => rnear6_any (2 * my - ay - by_) W x3 x4
  have g1 := sq_le (k := n) (by omega) (by omega)
  obtain ⟨s1, s2⟩ := g1
  have z1 : decide (n < 1) = false := by simp; omega
  have z2 : decide (n > 256) = false := by simp; omega
  have z3 : decide (r > 8 * n * n) = false := by simpa using hr
  have z4 : decide (i < 0) = false := by simp; omega
  have z5 : decide (i ≥ n) = false := by simp; omega
  clear hm x1 x2 x3 x4 hr
  simp only [bwV] at *
  have B0 := below_a1 w (.cells #[.int .i64 c.k, .int .i64 c.xa, .int .i64 c.ya, .int .i64 c.xb, .int .i64 c.yb, .int .i64 c.xc, .int .i64 c.yc, .int .i64 c.xd, .int .i64 c.yd] 25)
  have KB := Blk.new w 25 #[.int .i64 c.k, .int .i64 c.xa, .int .i64 c.ya, .int .i64 c.xb, .int .i64 c.yb, .int .i64 c.xc, .int .i64 c.yc, .int .i64 c.xd, .int .i64 c.yd]
  have HB0 := Lib.hid B0
  have HKB := Lib.hid KB
  clear B0 KB
  go_enter Try.func6, Try.ntmps6
  go_wp2_with (first | (go_at_call 12; ((with_reducible refine (CRM _).mono ?_); rintro e w1 ⟨rfl, b1⟩; first | (have hK := hK.trans (b1.mono hK.size); have KV := HKV.out.below b1; have kc := KV.lt; have k0 := KV.cell 0; have k1 := KV.cell 1; have k2 := KV.cell 2; have k3 := KV.cell 3; have k4 := KV.cell 4; have k5 := KV.cell 5; have k6 := KV.cell 6; have k7 := KV.cell 7; have k8 := KV.cell 8; simp only [bwL, List.getElem?_toArray, List.getElem?_cons_succ, List.getElem?_cons_zero] at k0 k1 k2 k3 k4 k5 k6 k7 k8; have HKV := Lib.hid KV; clear KV) | (have hK := HB0.out.trans (b1.mono HB0.out.size); have KV := HKB.out.below b1; have kc := KV.lt; have k0 := KV.cell 0; have k1 := KV.cell 1; have k2 := KV.cell 2; have k3 := KV.cell 3; have k4 := KV.cell 4; have k5 := KV.cell 5; have k6 := KV.cell 6; have k7 := KV.cell 7; have k8 := KV.cell 8; simp only [bwL, List.getElem?_toArray, List.getElem?_cons_succ, List.getElem?_cons_zero] at k0 k1 k2 k3 k4 k5 k6 k7 k8; have HKV := Lib.hid KV; clear KV))) | (go_at_call 10; ((with_reducible refine (CL _).mono ?_); rintro e w1 ⟨rfl, b1⟩; first | (have hK := hK.trans (b1.mono hK.size); have KV := HKV.out.below b1; have kc := KV.lt; have k0 := KV.cell 0; have k1 := KV.cell 1; have k2 := KV.cell 2; have k3 := KV.cell 3; have k4 := KV.cell 4; have k5 := KV.cell 5; have k6 := KV.cell 6; have k7 := KV.cell 7; have k8 := KV.cell 8; simp only [bwL, List.getElem?_toArray, List.getElem?_cons_succ, List.getElem?_cons_zero] at k0 k1 k2 k3 k4 k5 k6 k7 k8; have HKV := Lib.hid KV; clear KV) | (have hK := HB0.out.trans (b1.mono HB0.out.size); have KV := HKB.out.below b1; have kc := KV.lt; have k0 := KV.cell 0; have k1 := KV.cell 1; have k2 := KV.cell 2; have k3 := KV.cell 3; have k4 := KV.cell 4; have k5 := KV.cell 5; have k6 := KV.cell 6; have k7 := KV.cell 7; have k8 := KV.cell 8; simp only [bwL, List.getElem?_toArray, List.getElem?_cons_succ, List.getElem?_cons_zero] at k0 k1 k2 k3 k4 k5 k6 k7 k8; have HKV := Lib.hid KV; clear KV))) | (go_at_call 9; ((with_reducible refine (CP _).mono ?_); rintro e w1 ⟨rfl, b1⟩; first | (have hK := hK.trans (b1.mono hK.size); have KV := HKV.out.below b1; have kc := KV.lt; have k0 := KV.cell 0; have k1 := KV.cell 1; have k2 := KV.cell 2; have k3 := KV.cell 3; have k4 := KV.cell 4; have k5 := KV.cell 5; have k6 := KV.cell 6; have k7 := KV.cell 7; have k8 := KV.cell 8; simp only [bwL, List.getElem?_toArray, List.getElem?_cons_succ, List.getElem?_cons_zero] at k0 k1 k2 k3 k4 k5 k6 k7 k8; have HKV := Lib.hid KV; clear KV) | (have hK := HB0.out.trans (b1.mono HB0.out.size); have KV := HKB.out.below b1; have kc := KV.lt; have k0 := KV.cell 0; have k1 := KV.cell 1; have k2 := KV.cell 2; have k3 := KV.cell 3; have k4 := KV.cell 4; have k5 := KV.cell 5; have k6 := KV.cell 6; have k7 := KV.cell 7; have k8 := KV.cell 8; simp only [bwL, List.getElem?_toArray, List.getElem?_cons_succ, List.getElem?_cons_zero] at k0 k1 k2 k3 k4 k5 k6 k7 k8; have HKV := Lib.hid KV; clear KV))) | (go_at_call 20; ((with_reducible refine (CN _).mono ?_); rintro e w1 ⟨rfl, b1⟩; first | (have hK := hK.trans (b1.mono hK.size); have KV := HKV.out.below b1; have kc := KV.lt; have k0 := KV.cell 0; have k1 := KV.cell 1; have k2 := KV.cell 2; have k3 := KV.cell 3; have k4 := KV.cell 4; have k5 := KV.cell 5; have k6 := KV.cell 6; have k7 := KV.cell 7; have k8 := KV.cell 8; simp only [bwL, List.getElem?_toArray, List.getElem?_cons_succ, List.getElem?_cons_zero] at k0 k1 k2 k3 k4 k5 k6 k7 k8; have HKV := Lib.hid KV; clear KV) | (have hK := HB0.out.trans (b1.mono HB0.out.size); have KV := HKB.out.below b1; have kc := KV.lt; have k0 := KV.cell 0; have k1 := KV.cell 1; have k2 := KV.cell 2; have k3 := KV.cell 3; have k4 := KV.cell 4; have k5 := KV.cell 5; have k6 := KV.cell 6; have k7 := KV.cell 7; have k8 := KV.cell 8; simp only [bwL, List.getElem?_toArray, List.getElem?_cons_succ, List.getElem?_cons_zero] at k0 k1 k2 k3 k4 k5 k6 k7 k8; have HKV := Lib.hid KV; clear KV))) | (go_at_call 17; ((with_reducible refine (CA _).mono ?_); rintro e w4 ⟨rfl, b4⟩; have hK := hK.trans (b4.mono hK.size); have KV := HKV.out.below b4; have kc := KV.lt; have k0 := KV.cell 0; have k1 := KV.cell 1; have k2 := KV.cell 2; have k3 := KV.cell 3; have k4 := KV.cell 4; have k5 := KV.cell 5; have k6 := KV.cell 6; have k7 := KV.cell 7; have k8 := KV.cell 8; simp only [bwL, List.getElem?_toArray, List.getElem?_cons_succ, List.getElem?_cons_zero] at k0 k1 k2 k3 k4 k5 k6 k7 k8; have HK4 := Lib.hid KV; clear KV; have HA4 := Lib.hid (below_a1 w4 (.cells #[.int .i64 ax, .int .i64 ay] 23)); have HD4 := Lib.hid (Blk.new w4 23 #[.int .i64 ax, .int .i64 ay]); clear CA)) | (go_at_call 17; ((with_reducible refine (CB _).mono ?_); rintro e w5 ⟨rfl, b5⟩; have hK := hK.trans ((HA4.out.trans (b5.mono HA4.out.size)).mono hK.size); have HD5 := Lib.hid (HD4.out.below b5); have KV := (HK4.out.below HA4.out).below b5; have kc := KV.lt; have k0 := KV.cell 0; have k1 := KV.cell 1; have k2 := KV.cell 2; have k3 := KV.cell 3; have k4 := KV.cell 4; have k5 := KV.cell 5; have k6 := KV.cell 6; have k7 := KV.cell 7; have k8 := KV.cell 8; simp only [bwL, List.getElem?_toArray, List.getElem?_cons_succ, List.getElem?_cons_zero] at k0 k1 k2 k3 k4 k5 k6 k7 k8; have HK5 := Lib.hid KV; clear KV; have HA5 := Lib.hid (below_a1 w5 (.cells #[.int .i64 bx, .int .i64 by_] 23)); have HE5 := Lib.hid (Blk.new w5 23 #[.int .i64 bx, .int .i64 by_]); clear CB)) | (go_at_call 17; ((with_reducible refine (CC _).mono ?_); rintro e w6 ⟨rfl, b6⟩; have hK := hK.trans ((HA5.out.trans (b6.mono HA5.out.size)).mono hK.size); have D6 := (HD5.out.below HA5.out).below b6; have E6 := HE5.out.below b6; have u0 := D6.cell 0; have u1 := D6.cell 1; have ul := D6.lt; have v0 := E6.cell 0; have v1 := E6.cell 1; have vl := E6.lt; simp only [List.getElem?_toArray, List.getElem?_cons_succ, List.getElem?_cons_zero] at u0 u1 v0 v1; clear CC D6 E6 k0 k1 k2 k3 k4 k5 k6 k7 k8)) | (go_at_call 21; ((with_reducible refine (CX _).mono ?_); rintro e w7 ⟨rfl, rfl⟩)) | (go_at_call 21; ((with_reducible refine (CY _).mono ?_); rintro e w7 ⟨rfl, rfl⟩)))
  go_ret
  exact ⟨rfl, hK.alloc hK.size _⟩
theorem walk (c : Bw) (i : Int) (_ : (Lit.int .i64 i).wf = true) (w : World) : Calls Try.prog 6 #[bwV c, .int .i64 i] w fun e w' => e = .returned (.bool true) ∧ Below w.heap.size w w' := by
  cases hm : mayW c
  · exact none_ c i w hm
  · by_cases h1 : needR c > 8 * pcW c * pcW c
    · exact bad_0 c i w hm (by simpa using h1)
    · by_cases h2 : i < 0
      · exact bad_1 c i w hm (by simpa using h1) (by simpa using h2)
      · by_cases h3 : i ≥ pcW c
        · exact bad_2 c i w hm (by simpa using h1) (by simpa using h2) (by simpa using h3)
        · exact good c i w hm (by omega) (by omega) (by omega)

set_option linter.unusedVariables false in
set_option maxRecDepth 100000 in
theorem lifted (os : Os) (started : os.Started) (H : Type) (enc : TypeId × Value → H) :
    ReturnsInHanded {} Try.checked os 6 .any (Rows.curveFlatSpec.pre6 enc Try.prog Try.f6 Rows.curveFlatRow.domain false) (Rows.curveFlatSpec.post enc Try.prog Try.f6 false true false false) := by
  refine returnsInHanded_of_change (C := Try.checked) Try.own started (by kernel_rfl) Try.func6
    (ChangeSpec.witness6 (enc := enc) (C := Try.checked) false ⟨#[], #[.agg #[.int .i64 0, .int .i64 0, .int .i64 0, .int .i64 0, .int .i64 0, .int .i64 0, .int .i64 0, .int .i64 0, .int .i64 0], .int .i64 0], []⟩ 8 (by kernel_rfl) (by kernel_rfl) (by kernel_rfl) (by kernel_rfl)) ?_
  intro W base args ds gs before hval0 hW hcnd _
  have hval : ∀ (j : Nat) t v, Try.f6.params[j]? = some t → args[j]? = some v → Value.okWide Try.prog W .any base t v := hval0
  have hW' := hW
  obtain ⟨p, q, hA0, hV, rfl, hfz, hnd⟩ := hW
  have hA : DataW.TrodAll enc Try.prog W 0 (fun _ => true) true Try.f6.params.toList args.toList ds p := hA0
  rw [Try.params6] at hA hval
  obtain ⟨v0, vs0, d0, ds0, p0, q0, hargs, rfl, rfl, h0, r0⟩ := trodAll_cons hA
  obtain ⟨v1, vs1, d1, ds1, p1, q1, rfl, rfl, rfl, h1, r1⟩ := trodAll_cons r0
  obtain ⟨rfl, rfl, rfl⟩ := trodAll_nil r1
  obtain rfl : args = #[v0, v1] := by cases args; simp_all
  obtain ⟨rfl, rfl⟩ := trodVars_none hV
  obtain ⟨c0, rfl⟩ := open_bow (hval 0 25 v0 rfl rfl) h0
  obtain ⟨a1, rfl, rfl, rfl, w1⟩ := open_int Try.underlying3 (hval 1 3 v1 rfl rfl) h1
  clear hA0 hval0
  simp only [List.append_nil] at hW'
  refine (walk c0 a1 w1 W).mono fun e W' ⟨he, hg⟩ => ?_
  subst he
  exact ⟨_, rfl, law_post Try.laidOut rfl Try.underlying4 (by kernel_rfl) rfl rfl rfl rfl hW' hg⟩

theorem over : Rows.curveFlatRow.holds Try.pinned (OpenSpec.ofChange Rows.curveFlatSpec) :=
  OpenClaim.holds_of_wide 6 Try.f6 rfl rfl rfl rfl rfl rfl rfl ⟨rfl, rfl, rfl, rfl, rfl⟩ rfl rfl rfl rfl rfl (by kernel_rfl) Try.func6 (by kernel_rfl)
    (of_decide_eq_true (by kernel_rfl)) (by unfold Func.isWrapper; first | (rw [if_pos (by decide +kernel)]; kernel_rfl) | (rw [if_neg (by decide +kernel)]; exact ⟨rfl, rfl⟩))
    (fun os started H enc _ => lifted os started H enc)

theorem proved : Rows.CurveFlatSaid :=
  over

end Go.Proofs.Ytngfillgndhfbaa.curveFlat
