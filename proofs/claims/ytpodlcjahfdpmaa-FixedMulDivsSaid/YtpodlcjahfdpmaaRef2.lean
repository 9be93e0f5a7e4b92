/- serifref01: Mul, Div, MulDiv; what they answer is what the program answers. -/
import Derived.Test.YtpodlcjahfdpmaaRef1
namespace Go.Proofs.Ytpodlcjahfdpmaa
open Go.RowKit

theorem mayP {a b : Int} (h : (mayB a && mayB b) = true) : -4611686018427387904 ≤ a * b ∧ a * b ≤ 4611686018427387904 := by
  rw [Bool.and_eq_true] at h
  exact mul_bound 2147483648 2147483648 (mayB_lo h.1) (mayB_hi h.1) (mayB_lo h.2) (mayB_hi h.2)

theorem rmul_any (a b : Int) (w : World) :
    Calls Try.prog 23 #[.int .i64 a, .int .i64 b] w fun e w' => e = .returned (.tuple #[.int .i64 (mdR a b 65536), .int .i64 (mdE a b 65536)]) ∧ w = w' := by
  have D := fun w => may_ref a w
  have E := fun w => may_ref b w
  have hz : mayB 65536 = true := by decide
  by_cases h : (mayB a && mayB b) = true
  · have hp := mayP h
    have N := fun w => rnear_any a b 65536 w hp.1 hp.2 (by omega) (by omega) (by omega)
    have O := fun w => rout_any (near (a * b) 65536) w
    rw [show mdR a b 65536 = outR (near (a * b) 65536) by unfold mdR; rw [hz, Bool.and_true, if_pos h, if_neg (by omega)], show mdE a b 65536 = outE (near (a * b) 65536) by unfold mdE; rw [hz, Bool.and_true, if_pos h, if_neg (by omega)]]
    rw [Bool.and_eq_true] at h
    rw [h.1] at D
    rw [h.2] at E
    generalize near (a * b) 65536 = z at *
    clear h hp hz
    go_enter Try.func23, Try.ntmps23
    go_wp2_with (first | (go_at_call 21; ((with_reducible refine (D _).mono ?_); rintro e w' ⟨rfl, rfl⟩)) | (go_at_call 21; ((with_reducible refine (E _).mono ?_); rintro e w' ⟨rfl, rfl⟩)) | (go_at_call 69; refine (N _).mono ?_; rintro e w' ⟨rfl, rfl⟩) | (go_at_call 68; refine (O _).mono ?_; rintro e w' ⟨rfl, rfl⟩))
    go_ret2
    exact ⟨rfl, rfl⟩
  · have h : (mayB a && mayB b) = false := by simpa using h
    rw [show mdR a b 65536 = 0 by unfold mdR; rw [hz, Bool.and_true, h]; rfl, show mdE a b 65536 = 10 by unfold mdE; rw [hz, Bool.and_true, h]; rfl]
    by_cases ha : mayB a = true
    · have hb : mayB b = false := by simpa [ha] using h
      rw [ha] at D
      rw [hb] at E
      clear h ha hb hz
      go_enter Try.func23, Try.ntmps23
      go_wp2_with (first | (go_at_call 21; ((with_reducible refine (D _).mono ?_); rintro e w' ⟨rfl, rfl⟩)) | (go_at_call 21; ((with_reducible refine (E _).mono ?_); rintro e w' ⟨rfl, rfl⟩)))
      go_ret2
      exact ⟨rfl, rfl⟩
    · have ha : mayB a = false := by simpa using ha
      rw [ha] at D
      clear h ha hz
      go_enter Try.func23, Try.ntmps23
      go_wp2_with (go_at_call 21; refine (D _).mono ?_; rintro e w' ⟨rfl, rfl⟩)
      go_ret2
      exact ⟨rfl, rfl⟩

theorem rdiv_any (a b : Int) (w : World) :
    Calls Try.prog 25 #[.int .i64 a, .int .i64 b] w fun e w' => e = .returned (.tuple #[.int .i64 (mdR 65536 a b), .int .i64 (mdE 65536 a b)]) ∧ w = w' := by
  have D := fun w => may_ref a w
  have E := fun w => may_ref b w
  have hz : mayB 65536 = true := by decide
  by_cases h : (mayB a && mayB b) = true
  · by_cases hb : b = 0
    · subst hb
      rw [show mdR 65536 a 0 = 0 by unfold mdR; rw [hz, Bool.true_and, if_pos h, if_pos rfl], show mdE 65536 a 0 = 1 by unfold mdE; rw [hz, Bool.true_and, if_pos h, if_pos rfl]]
      rw [Bool.and_eq_true] at h
      rw [h.1] at D
      rw [h.2] at E
      clear h hz
      go_enter Try.func25, Try.ntmps25
      go_wp2_with (first | (go_at_call 21; ((with_reducible refine (D _).mono ?_); rintro e w' ⟨rfl, rfl⟩)) | (go_at_call 21; ((with_reducible refine (E _).mono ?_); rintro e w' ⟨rfl, rfl⟩)))
      go_ret2
      exact ⟨rfl, rfl⟩
    · have hb0 : (b == 0) = false := by simpa using hb
      rw [show mdR 65536 a b = outR (near (a * 65536) b) by unfold mdR; rw [hz, Bool.true_and, if_pos h, if_neg hb, Int.mul_comm], show mdE 65536 a b = outE (near (a * 65536) b) by unfold mdE; rw [hz, Bool.true_and, if_pos h, if_neg hb, Int.mul_comm]]
      rw [Bool.and_eq_true] at h
      have hp := mayP (a := a) (b := 65536) (by rw [h.1, hz]; rfl)
      have b1 := mayB_lo h.2
      have b2 := mayB_hi h.2
      have N := fun w => rnear_any a 65536 b w hp.1 hp.2 hb (by omega) (by omega)
      have O := fun w => rout_any (near (a * 65536) b) w
      rw [h.1] at D
      rw [h.2] at E
      generalize near (a * 65536) b = z at *
      clear h hp hz hb
      go_enter Try.func25, Try.ntmps25
      go_wp2_with (first | (go_at_call 21; ((with_reducible refine (D _).mono ?_); rintro e w' ⟨rfl, rfl⟩)) | (go_at_call 21; ((with_reducible refine (E _).mono ?_); rintro e w' ⟨rfl, rfl⟩)) | (go_at_call 69; refine (N _).mono ?_; rintro e w' ⟨rfl, rfl⟩) | (go_at_call 68; refine (O _).mono ?_; rintro e w' ⟨rfl, rfl⟩))
      go_ret2
      exact ⟨rfl, rfl⟩
  · have h : (mayB a && mayB b) = false := by simpa using h
    rw [show mdR 65536 a b = 0 by unfold mdR; rw [hz, Bool.true_and, h]; rfl, show mdE 65536 a b = 10 by unfold mdE; rw [hz, Bool.true_and, h]; rfl]
    by_cases ha : mayB a = true
    · have hb : mayB b = false := by simpa [ha] using h
      rw [ha] at D
      rw [hb] at E
      clear h ha hb hz
      go_enter Try.func25, Try.ntmps25
      go_wp2_with (first | (go_at_call 21; ((with_reducible refine (D _).mono ?_); rintro e w' ⟨rfl, rfl⟩)) | (go_at_call 21; ((with_reducible refine (E _).mono ?_); rintro e w' ⟨rfl, rfl⟩)))
      go_ret2
      exact ⟨rfl, rfl⟩
    · have ha : mayB a = false := by simpa using ha
      rw [ha] at D
      clear h ha hz
      go_enter Try.func25, Try.ntmps25
      go_wp2_with (go_at_call 21; refine (D _).mono ?_; rintro e w' ⟨rfl, rfl⟩)
      go_ret2
      exact ⟨rfl, rfl⟩

theorem rmuldiv_no (a b c : Int) (w : World) (h : (mayB a && mayB b && mayB c) = false) :
    Calls Try.prog 27 #[.int .i64 a, .int .i64 b, .int .i64 c] w fun e w' => e = .returned (.tuple #[.int .i64 0, .int .i64 10]) ∧ w = w' := by
  have D := fun w => may_ref a w
  have E := fun w => may_ref b w
  have F := fun w => may_ref c w
  by_cases ha : mayB a = true
  · by_cases hb : mayB b = true
    · have hc : mayB c = false := by simpa [ha, hb] using h
      rw [ha] at D
      rw [hb] at E
      rw [hc] at F
      clear h ha hb hc
      go_enter Try.func27, Try.ntmps27
      go_wp2_with (first | (go_at_call 21; ((with_reducible refine (D _).mono ?_); rintro e w' ⟨rfl, rfl⟩)) | (go_at_call 21; ((with_reducible refine (E _).mono ?_); rintro e w' ⟨rfl, rfl⟩)) | (go_at_call 21; ((with_reducible refine (F _).mono ?_); rintro e w' ⟨rfl, rfl⟩)))
      go_ret2
      exact ⟨rfl, rfl⟩
    · have hb : mayB b = false := by simpa using hb
      rw [ha] at D
      rw [hb] at E
      clear h ha hb F
      go_enter Try.func27, Try.ntmps27
      go_wp2_with (first | (go_at_call 21; ((with_reducible refine (D _).mono ?_); rintro e w' ⟨rfl, rfl⟩)) | (go_at_call 21; ((with_reducible refine (E _).mono ?_); rintro e w' ⟨rfl, rfl⟩)))
      go_ret2
      exact ⟨rfl, rfl⟩
  · have ha : mayB a = false := by simpa using ha
    rw [ha] at D
    clear h ha E F
    go_enter Try.func27, Try.ntmps27
    go_wp2_with (go_at_call 21; refine (D _).mono ?_; rintro e w' ⟨rfl, rfl⟩)
    go_ret2
    exact ⟨rfl, rfl⟩

theorem rmuldiv_any (a b c : Int) (w : World) :
    Calls Try.prog 27 #[.int .i64 a, .int .i64 b, .int .i64 c] w fun e w' => e = .returned (.tuple #[.int .i64 (mdR a b c), .int .i64 (mdE a b c)]) ∧ w = w' := by
  by_cases h : (mayB a && mayB b && mayB c) = true
  · have D := fun w => may_ref a w
    have E := fun w => may_ref b w
    have F := fun w => may_ref c w
    unfold mdR mdE
    rw [if_pos h, if_pos h]
    rw [Bool.and_eq_true] at h
    have hp := mayP h.1
    have c1 := mayB_lo h.2
    have c2 := mayB_hi h.2
    rw [Bool.and_eq_true] at h
    rw [h.1.1] at D
    rw [h.1.2] at E
    rw [h.2] at F
    by_cases hc : c = 0
    · subst hc
      rw [if_pos rfl, if_pos rfl]
      clear h hp
      go_enter Try.func27, Try.ntmps27
      go_wp2_with (first | (go_at_call 21; ((with_reducible refine (D _).mono ?_); rintro e w' ⟨rfl, rfl⟩)) | (go_at_call 21; ((with_reducible refine (E _).mono ?_); rintro e w' ⟨rfl, rfl⟩)) | (go_at_call 21; ((with_reducible refine (F _).mono ?_); rintro e w' ⟨rfl, rfl⟩)))
      go_ret2
      exact ⟨rfl, rfl⟩
    · have hb0 : (c == 0) = false := by simpa using hc
      rw [if_neg hc, if_neg hc]
      have N := fun w => rnear_any a b c w hp.1 hp.2 hc (by omega) (by omega)
      have O := fun w => rout_any (near (a * b) c) w
      generalize near (a * b) c = z at *
      clear h hp hc
      go_enter Try.func27, Try.ntmps27
      go_wp2_with (first | (go_at_call 21; ((with_reducible refine (D _).mono ?_); rintro e w' ⟨rfl, rfl⟩)) | (go_at_call 21; ((with_reducible refine (E _).mono ?_); rintro e w' ⟨rfl, rfl⟩)) | (go_at_call 21; ((with_reducible refine (F _).mono ?_); rintro e w' ⟨rfl, rfl⟩)) | (go_at_call 69; refine (N _).mono ?_; rintro e w' ⟨rfl, rfl⟩) | (go_at_call 68; refine (O _).mono ?_; rintro e w' ⟨rfl, rfl⟩))
      go_ret2
      exact ⟨rfl, rfl⟩
  · have h : (mayB a && mayB b && mayB c) = false := by simpa using h
    rw [show mdR a b c = 0 by unfold mdR; rw [h]; rfl, show mdE a b c = 10 by unfold mdE; rw [h]; rfl]
    exact rmuldiv_no a b c w h

end Go.Proofs.Ytpodlcjahfdpmaa
