/- serifref01: out, Add, Sub, near, Mul, Div, MulDiv. -/
import Derived.Test.YtpodlcjahfdpmaaFix5
namespace Go.Proofs.Ytpodlcjahfdpmaa
open Go.RowKit

theorem rout_any (x : Int) (w : World) :
    Calls Try.prog 68 #[.int .i64 x] w fun e w' => e = .returned (.tuple #[.int .i64 (outR x), .int .i64 (outE x)]) ∧ w = w' := by
  by_cases h : mayB x = true
  · have D : ∀ w, Calls Try.prog 21 #[.int .i64 x] w fun e w' => e = .returned (.bool true) ∧ w = w' := fun w => by have := may_ref x w; rwa [h] at this
    rw [show outR x = x by simp [outR, h], show outE x = 0 by simp [outE, h]]
    clear h
    go_enter Try.func68, Try.ntmps68
    go_wp2_with (go_at_call 21; refine (D _).mono ?_; rintro e w' ⟨rfl, rfl⟩)
    go_ret2
    exact ⟨rfl, rfl⟩
  · have h : mayB x = false := by simpa using h
    have D : ∀ w, Calls Try.prog 21 #[.int .i64 x] w fun e w' => e = .returned (.bool false) ∧ w = w' := fun w => by have := may_ref x w; rwa [h] at this
    rw [show outR x = 0 by simp [outR, h], show outE x = 10 by simp [outE, h]]
    clear h
    go_enter Try.func68, Try.ntmps68
    go_wp2_with (go_at_call 21; refine (D _).mono ?_; rintro e w' ⟨rfl, rfl⟩)
    go_ret2
    exact ⟨rfl, rfl⟩

theorem radd_no (a b : Int) (w : World) (h : (mayB a && mayB b) = false) :
    Calls Try.prog 17 #[.int .i64 a, .int .i64 b] w fun e w' => e = .returned (.tuple #[.int .i64 0, .int .i64 10]) ∧ w = w' := by
  have D := fun w => may_ref a w
  have E := fun w => may_ref b w
  by_cases ha : mayB a = true
  · have hb : mayB b = false := by simpa [ha] using h
    rw [ha] at D
    rw [hb] at E
    clear h ha hb
    go_enter Try.func17, Try.ntmps17
    go_wp2_with (first | (go_at_call 21; ((with_reducible refine (D _).mono ?_); rintro e w' ⟨rfl, rfl⟩)) | (go_at_call 21; ((with_reducible refine (E _).mono ?_); rintro e w' ⟨rfl, rfl⟩)))
    go_ret2
    exact ⟨rfl, rfl⟩
  · have ha : mayB a = false := by simpa using ha
    rw [ha] at D
    clear h ha
    go_enter Try.func17, Try.ntmps17
    go_wp2_with (go_at_call 21; refine (D _).mono ?_; rintro e w' ⟨rfl, rfl⟩)
    go_ret2
    exact ⟨rfl, rfl⟩

theorem radd_yes (a b : Int) (w : World) (h : (mayB a && mayB b) = true) :
    Calls Try.prog 17 #[.int .i64 a, .int .i64 b] w fun e w' => e = .returned (.tuple #[.int .i64 (outR (a + b)), .int .i64 (outE (a + b))]) ∧ w = w' := by
  have D := fun w => may_ref a w
  have E := fun w => may_ref b w
  rw [Bool.and_eq_true] at h
  have a1 := mayB_lo h.1
  have a2 := mayB_hi h.1
  have b1 := mayB_lo h.2
  have b2 := mayB_hi h.2
  rw [h.1] at D
  rw [h.2] at E
  have O := fun w => rout_any (a + b) w
  clear h
  go_enter Try.func17, Try.ntmps17
  go_wp2_with (first | (go_at_call 21; ((with_reducible refine (D _).mono ?_); rintro e w' ⟨rfl, rfl⟩)) | (go_at_call 21; ((with_reducible refine (E _).mono ?_); rintro e w' ⟨rfl, rfl⟩)) | (go_at_call 68; refine (O _).mono ?_; rintro e w' ⟨rfl, rfl⟩))
  go_ret2
  exact ⟨rfl, rfl⟩

theorem rsub_no (a b : Int) (w : World) (h : (mayB a && mayB b) = false) :
    Calls Try.prog 18 #[.int .i64 a, .int .i64 b] w fun e w' => e = .returned (.tuple #[.int .i64 0, .int .i64 10]) ∧ w = w' := by
  have D := fun w => may_ref a w
  have E := fun w => may_ref b w
  by_cases ha : mayB a = true
  · have hb : mayB b = false := by simpa [ha] using h
    rw [ha] at D
    rw [hb] at E
    clear h ha hb
    go_enter Try.func18, Try.ntmps18
    go_wp2_with (first | (go_at_call 21; ((with_reducible refine (D _).mono ?_); rintro e w' ⟨rfl, rfl⟩)) | (go_at_call 21; ((with_reducible refine (E _).mono ?_); rintro e w' ⟨rfl, rfl⟩)))
    go_ret2
    exact ⟨rfl, rfl⟩
  · have ha : mayB a = false := by simpa using ha
    rw [ha] at D
    clear h ha
    go_enter Try.func18, Try.ntmps18
    go_wp2_with (go_at_call 21; refine (D _).mono ?_; rintro e w' ⟨rfl, rfl⟩)
    go_ret2
    exact ⟨rfl, rfl⟩

theorem rsub_yes (a b : Int) (w : World) (h : (mayB a && mayB b) = true) :
    Calls Try.prog 18 #[.int .i64 a, .int .i64 b] w fun e w' => e = .returned (.tuple #[.int .i64 (outR (a - b)), .int .i64 (outE (a - b))]) ∧ w = w' := by
  have D := fun w => may_ref a w
  have E := fun w => may_ref b w
  rw [Bool.and_eq_true] at h
  have a1 := mayB_lo h.1
  have a2 := mayB_hi h.1
  have b1 := mayB_lo h.2
  have b2 := mayB_hi h.2
  rw [h.1] at D
  rw [h.2] at E
  have O := fun w => rout_any (a - b) w
  clear h
  go_enter Try.func18, Try.ntmps18
  go_wp2_with (first | (go_at_call 21; ((with_reducible refine (D _).mono ?_); rintro e w' ⟨rfl, rfl⟩)) | (go_at_call 21; ((with_reducible refine (E _).mono ?_); rintro e w' ⟨rfl, rfl⟩)) | (go_at_call 68; refine (O _).mono ?_; rintro e w' ⟨rfl, rfl⟩))
  go_ret2
  exact ⟨rfl, rfl⟩

theorem rnear_any (a b c : Int) (w : World) (p1 : -4611686018427387904 ≤ a * b) (p2 : a * b ≤ 4611686018427387904) (hc : c ≠ 0) (c1 : -4611686018427387904 ≤ c) (c2 : c ≤ 4611686018427387904) :
    Calls Try.prog 69 #[.int .i64 a, .int .i64 b, .int .i64 c] w fun e w' => e = .returned (.int .i64 (near (a * b) c)) ∧ w = w' := by
  obtain ⟨d, hd⟩ : ∃ d : Int, d = if c < 0 then -c else c := ⟨_, rfl⟩
  have d0 : 0 < d := by rw [hd]; split <;> omega
  have d1 : d ≤ 4611686018427387904 := by rw [hd]; split <;> omega
  obtain ⟨P, hP⟩ : ∃ P : Int, P = a * b := ⟨_, rfl⟩
  have hPd : P / d * d = P - P % d := by have := Int.ediv_mul_add_emod P d; omega
  have r0 : 0 ≤ P % d := Int.emod_nonneg P (by omega)
  have r1 : P % d < d := Int.emod_lt_of_pos P d0
  have q1 : P / d ≤ 4611686018427387904 := by
    rcases Int.lt_or_le P 0 with h | h
    · have := Int.ediv_neg_of_neg_of_pos h d0; omega
    · have := Int.ediv_le_self d h; omega
  have q2 : -4611686018427387904 ≤ P / d := by
    rcases Int.lt_or_le P 0 with h | h
    · have : P ≤ P / d := Int.le_ediv_of_mul_le d0 (by have := Int.mul_le_mul_of_nonpos_left (a := P) (b := d) (c := 1) (by omega) (by omega); omega)
      omega
    · have := Int.ediv_nonneg h (Int.le_of_lt d0); omega
  have F := fun w => floor_ref P d w d0 (by omega) (by omega)
  have hdP : d * (P / d) = P - P % d := by rw [Int.mul_comm]; exact hPd
  have hR : P - P / d * d = P % d := by omega
  by_cases hneg : c < 0
  · rw [if_pos hneg] at hd
    have e1 : P % d = 0 → near P c = -(P / d) := fun h => by
      apply near_neg hneg <;> (rw [show c = -d by omega]; simp only [Int.neg_mul, Int.mul_neg] ; omega)
    have e2 : 0 < P % d → near P c = -(P / d) - 1 + if d ≤ 2 * (d - P % d) then 1 else 0 := fun h => by
      apply near_neg hneg <;> (rw [show c = -d by omega]; split <;> simp only [Int.neg_mul, Int.mul_neg, Int.mul_add, Int.mul_one, Int.add_zero, Int.sub_eq_add_neg] <;> omega)
    have e3 : -c = d := hd.symm
    clear hd hdP
    rw [← hP] at p1 p2 ⊢
    rw [← hR] at e1 e2 r0 r1
    have hPm : a * b = P := hP.symm
    have s1 : -9223372036854775808 ≤ P / d * d := by omega
    have s2 : P / d * d ≤ 9223372036854775807 := by omega
    clear hR hPd hP
    generalize near P c = z at e1 e2 ⊢
    generalize P / d = Q at *
    by_cases h1 : P - Q * d = 0
    · have E1 : Hid (z = -Q) := e1 h1
      have h1' : (P - Q * d == 0) = true := by simpa using h1
      clear e1 e2 h1
      go_enter Try.func69, Try.ntmps69
      go_wp2_with (go_at_call 30; refine (F _).mono ?_; rintro e w' ⟨rfl, rfl⟩)
      go_ret
      exact ⟨ret_int E1.out.symm, rfl⟩
    · have r2 : 1 ≤ P - Q * d := by omega
      have h2 := e2 (by omega)
      have h1' : (P - Q * d == 0) = false := by simpa using h1
      clear e1 e2 h1
      by_cases h3 : d ≤ 2 * (d - (P - Q * d))
      · rw [if_pos h3] at h2
        have E1 : Hid (z = -Q) := (by omega : z = -Q)
        clear h2
        go_enter Try.func69, Try.ntmps69
        go_wp2_with (go_at_call 30; refine (F _).mono ?_; rintro e w' ⟨rfl, rfl⟩)
        go_ret
        exact ⟨ret_int E1.out.symm, rfl⟩
      · rw [if_neg h3, Int.add_zero] at h2
        have E1 : Hid (z = -Q - 1) := h2
        clear h2
        go_enter Try.func69, Try.ntmps69
        go_wp2_with (go_at_call 30; refine (F _).mono ?_; rintro e w' ⟨rfl, rfl⟩)
        go_ret
        exact ⟨ret_int E1.out.symm, rfl⟩
  · rw [if_neg hneg] at hd
    have e1 : near P c = P / d + if d ≤ 2 * (P % d) then 1 else 0 := by
      apply near_pos (by omega) <;> (rw [← hd]; split <;> simp only [Int.mul_add, Int.mul_one, Int.add_zero] <;> omega)
    clear hdP
    rw [← hP] at p1 p2 ⊢
    rw [← hR] at e1 r0 r1
    have hPm : a * b = P := hP.symm
    have s1 : -9223372036854775808 ≤ P / d * d := by omega
    have s2 : P / d * d ≤ 9223372036854775807 := by omega
    clear hR hPd hP
    generalize near P c = z at e1 ⊢
    obtain rfl : d = c := hd
    generalize P / d = Q at *
    by_cases h3 : d ≤ 2 * (P - Q * d)
    · rw [if_pos h3] at e1
      have E1 : Hid (z = Q + 1) := e1
      clear e1
      go_enter Try.func69, Try.ntmps69
      go_wp2_with (go_at_call 30; refine (F _).mono ?_; rintro e w' ⟨rfl, rfl⟩)
      go_ret
      exact ⟨ret_int E1.out.symm, rfl⟩
    · rw [if_neg h3, Int.add_zero] at e1
      have E1 : Hid (z = Q) := e1
      clear e1
      go_enter Try.func69, Try.ntmps69
      go_wp2_with (go_at_call 30; refine (F _).mono ?_; rintro e w' ⟨rfl, rfl⟩)
      go_ret
      exact ⟨ret_int E1.out.symm, rfl⟩

end Go.Proofs.Ytpodlcjahfdpmaa
