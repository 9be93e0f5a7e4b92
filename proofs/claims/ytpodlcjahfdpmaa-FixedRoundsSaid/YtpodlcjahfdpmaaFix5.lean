/- fixed.MulDiv, Mul, Div. -/
import Derived.Test.YtpodlcjahfdpmaaFix4
namespace Go.Proofs.Ytpodlcjahfdpmaa
open Go.RowKit

theorem muldiv_arg (a b : Int) (w : World) (h : (mayB a && mayB b) = true) :
    Calls Try.prog 26 #[.int .i64 a, .int .i64 b, .int .i64 0] w fun e w' => e = .returned (.tuple #[.int .i64 0, .int .i64 1]) ∧ Below w.heap.size w w' := by
  have hmf : ∀ (fn : Fn) (first cap : Array Value) (w : World), (Instr.makeFunc fn first cap).run Try.prog w = .ok (.func fn first cap) w := fun _ _ _ _ => rfl
  have C := allMay_fixed (w.heap.size + 1 + 1 + 1) 0 2 2 [a, b] ((((w.alloc (.cells #[.int .i64 a] 3)).alloc (.cells #[.int .i64 b] 3)).alloc (.cells #[.int .i64 0] 3)).alloc (.cells #[.int .i64 a, .int .i64 b] 3)) rfl (by decide) (fun j hj => cells2 _ _ (by simp) a b _ j hj)
  rw [all2, h] at C
  go_enter Try.func26, Try.ntmps26
  go_wp2_with (first | (go_at_call 70; refine C.mono ?_; rintro e w' ⟨rfl, rfl⟩) | go_in)
  go_ret2
  exact ⟨rfl, below_a4 _ _ _ _ _⟩

theorem muldiv_zero (a b : Int) (w : World) (h : (mayB a && mayB b) = false) :
    Calls Try.prog 26 #[.int .i64 a, .int .i64 b, .int .i64 0] w fun e w' => e = .returned (.tuple #[.int .i64 0, .int .i64 10]) ∧ Below w.heap.size w w' := by
  have hmf : ∀ (fn : Fn) (first cap : Array Value) (w : World), (Instr.makeFunc fn first cap).run Try.prog w = .ok (.func fn first cap) w := fun _ _ _ _ => rfl
  have C := allMay_fixed (w.heap.size + 1 + 1 + 1) 0 2 2 [a, b] ((((w.alloc (.cells #[.int .i64 a] 3)).alloc (.cells #[.int .i64 b] 3)).alloc (.cells #[.int .i64 0] 3)).alloc (.cells #[.int .i64 a, .int .i64 b] 3)) rfl (by decide) (fun j hj => cells2 _ _ (by simp) a b _ j hj)
  have D := allMay_fixed (w.heap.size + 1 + 1 + 1 + 1) 0 3 3 [a, b, 0] (((((w.alloc (.cells #[.int .i64 a] 3)).alloc (.cells #[.int .i64 b] 3)).alloc (.cells #[.int .i64 0] 3)).alloc (.cells #[.int .i64 a, .int .i64 b] 3)).alloc (.cells #[.int .i64 a, .int .i64 b, .int .i64 0] 3)) rfl (by decide) (fun j hj => cells3 _ _ (by simp) a b 0 _ j hj)
  rw [all2, h] at C
  rw [all3, h, Bool.false_and] at D
  go_enter Try.func26, Try.ntmps26
  go_wp2_with (first | (go_at_call 70; ((with_reducible refine C.mono ?_); rintro e w' ⟨rfl, rfl⟩)) | (go_at_call 70; ((with_reducible refine D.mono ?_); rintro e w' ⟨rfl, rfl⟩)) | go_in)
  go_ret2
  exact ⟨rfl, below_a5 _ _ _ _ _ _⟩

theorem muldiv_no (a b c : Int) (w : World) (hc : c ≠ 0) (h : (mayB a && mayB b && mayB c) = false) :
    Calls Try.prog 26 #[.int .i64 a, .int .i64 b, .int .i64 c] w fun e w' => e = .returned (.tuple #[.int .i64 0, .int .i64 10]) ∧ Below w.heap.size w w' := by
  have hmf : ∀ (fn : Fn) (first cap : Array Value) (w : World), (Instr.makeFunc fn first cap).run Try.prog w = .ok (.func fn first cap) w := fun _ _ _ _ => rfl
  have h0 : (c == 0) = false := by simpa using hc
  have D := allMay_fixed (w.heap.size + 1 + 1 + 1) 0 3 3 [a, b, c] ((((w.alloc (.cells #[.int .i64 a] 3)).alloc (.cells #[.int .i64 b] 3)).alloc (.cells #[.int .i64 c] 3)).alloc (.cells #[.int .i64 a, .int .i64 b, .int .i64 c] 3)) rfl (by decide) (fun j hj => cells3 _ _ (by simp) a b c _ j hj)
  rw [all3, h] at D
  go_enter Try.func26, Try.ntmps26
  go_wp2_with (first | (go_at_call 70; refine D.mono ?_; rintro e w' ⟨rfl, rfl⟩) | go_in)
  go_ret2
  exact ⟨rfl, below_a4 _ _ _ _ _⟩

theorem muldiv_yes (a b c : Int) (w : World) (hc : c ≠ 0) (h : (mayB a && mayB b && mayB c) = true) :
    Calls Try.prog 26 #[.int .i64 a, .int .i64 b, .int .i64 c] w fun e w' => e = .returned (.tuple #[.int .i64 (outR (near (a * b) c)), .int .i64 (outE (near (a * b) c))]) ∧ Below w.heap.size w w' := by
  have hmf : ∀ (fn : Fn) (first cap : Array Value) (w : World), (Instr.makeFunc fn first cap).run Try.prog w = .ok (.func fn first cap) w := fun _ _ _ _ => rfl
  have h0 : (c == 0) = false := by simpa using hc
  have C := allMay_fixed (w.heap.size + 1 + 1 + 1) 0 3 3 [a, b, c] ((((w.alloc (.cells #[.int .i64 a] 3)).alloc (.cells #[.int .i64 b] 3)).alloc (.cells #[.int .i64 c] 3)).alloc (.cells #[.int .i64 a, .int .i64 b, .int .i64 c] 3)) rfl (by decide) (fun j hj => cells3 _ _ (by simp) a b c _ j hj)
  rw [all3, h] at C
  rw [Bool.and_eq_true, Bool.and_eq_true] at h
  have a1 := mayB_lo h.1.1
  have a2 := mayB_hi h.1.1
  have b1 := mayB_lo h.1.2
  have b2 := mayB_hi h.1.2
  have c1 := mayB_lo h.2
  have c2 := mayB_hi h.2
  obtain ⟨p1, p2⟩ := mul_bound 2147483648 2147483648 a1 a2 b1 b2
  simp only [show ((2147483648 * 2147483648 : Nat) : Int) = 4611686018427387904 from rfl] at p1 p2
  have N := fun w => nearest_any (a * b) c w p1 (by omega) p2 (by omega) hc
  clear h a1 a2 b1 b2 hc
  generalize near (a * b) c = q at N ⊢
  by_cases hr : mayB q = true
  · have D : ∀ w, Calls Try.prog 20 #[.int .i64 q] w fun e w' => e = .returned (.bool true) ∧ w = w' := fun w => by have := may_any q w; rwa [hr] at this
    rw [show outR q = q by simp [outR, hr], show outE q = 0 by simp [outE, hr]]
    clear hr
    go_enter Try.func26, Try.ntmps26
    go_wp2_with (first | (go_at_call 70; refine C.mono ?_; rintro e w' ⟨rfl, rfl⟩) | (go_at_call 20; refine (D _).mono ?_; rintro e w' ⟨rfl, rfl⟩) | (go_at_call 72; refine (N _).mono ?_; rintro e w' ⟨rfl, k, rfl⟩) | go_in)
    go_ret2
    exact ⟨rfl, below_drewN (below_a4 _ _ _ _ _) _⟩
  · have hr : mayB q = false := by simpa using hr
    have D : ∀ w, Calls Try.prog 20 #[.int .i64 q] w fun e w' => e = .returned (.bool false) ∧ w = w' := fun w => by have := may_any q w; rwa [hr] at this
    rw [show outR q = 0 by simp [outR, hr], show outE q = 10 by simp [outE, hr]]
    clear hr
    go_enter Try.func26, Try.ntmps26
    go_wp2_with (first | (go_at_call 70; refine C.mono ?_; rintro e w' ⟨rfl, rfl⟩) | (go_at_call 20; refine (D _).mono ?_; rintro e w' ⟨rfl, rfl⟩) | (go_at_call 72; refine (N _).mono ?_; rintro e w' ⟨rfl, k, rfl⟩) | go_in)
    go_ret2
    exact ⟨rfl, below_drewN (below_a4 _ _ _ _ _) _⟩

/-- what MulDiv answers -/
def mdR (a b c : Int) : Int := if mayB a && mayB b && mayB c then (if c = 0 then 0 else outR (near (a * b) c)) else 0
def mdE (a b c : Int) : Int := if mayB a && mayB b && mayB c then (if c = 0 then 1 else outE (near (a * b) c)) else 10

theorem muldiv_any (a b c : Int) (w : World) :
    Calls Try.prog 26 #[.int .i64 a, .int .i64 b, .int .i64 c] w fun e w' => e = .returned (.tuple #[.int .i64 (mdR a b c), .int .i64 (mdE a b c)]) ∧ Below w.heap.size w w' := by
  unfold mdR mdE
  by_cases hc : c = 0
  · subst hc
    have hz : mayB 0 = true := by decide
    rw [hz, Bool.and_true]
    by_cases h : (mayB a && mayB b) = true
    · rw [if_pos h, if_pos rfl, if_pos h, if_pos rfl]; exact muldiv_arg a b w h
    · rw [if_neg h, if_neg h]; exact muldiv_zero a b w (by simpa using h)
  · by_cases h : (mayB a && mayB b && mayB c) = true
    · rw [if_pos h, if_neg hc, if_pos h, if_neg hc]; exact muldiv_yes a b c w hc h
    · rw [if_neg h, if_neg h]; exact muldiv_no a b c w hc (by simpa using h)

theorem mul_any (a b : Int) (w : World) :
    Calls Try.prog 22 #[.int .i64 a, .int .i64 b] w fun e w' => e = .returned (.tuple #[.int .i64 (mdR a b 65536), .int .i64 (mdE a b 65536)]) ∧ Below w.heap.size w w' := by
  go_enter Try.func22, Try.ntmps22
  go_wp2_with (go_at_call 26; refine (muldiv_any a b 65536 _).mono ?_; rintro e w' ⟨rfl, hb⟩)
  go_ret2
  exact ⟨rfl, hb⟩

theorem div_any (a b : Int) (w : World) :
    Calls Try.prog 24 #[.int .i64 a, .int .i64 b] w fun e w' => e = .returned (.tuple #[.int .i64 (mdR 65536 a b), .int .i64 (mdE 65536 a b)]) ∧ Below w.heap.size w w' := by
  go_enter Try.func24, Try.ntmps24
  go_wp2_with (go_at_call 26; refine (muldiv_any 65536 a b _).mono ?_; rintro e w' ⟨rfl, hb⟩)
  go_ret2
  exact ⟨rfl, hb⟩

end Go.Proofs.Ytpodlcjahfdpmaa
