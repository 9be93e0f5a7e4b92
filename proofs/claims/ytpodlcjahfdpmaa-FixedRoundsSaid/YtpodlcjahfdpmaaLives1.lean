/- What must come of every program, layer 1. -/
import Derived.Test.YtpodlcjahfdpmaaRnd
import Derived.Test.YtpodlcjahfdpmaaRoot
namespace Go.Proofs.Ytpodlcjahfdpmaa
open Go.RowKit

theorem below_next {w w1 w2 : World} (h : Below w.heap.size w w1) (g : Below w1.heap.size w1 w2) : Below w.heap.size w w2 := h.trans (g.mono h.size)

set_option maxRecDepth 100000 in
theorem lives1 (w : World) : Calls Try.prog 19 #[] w fun e w' => e = .returned (.bool true) ∧ Below w.heap.size w w' := by
  have A1 : ∀ w, Calls Try.prog 15 #[.int .i64 3, .int .i64 4] w (fun e w' => e = .returned (.tuple #[.int .i64 7, .int .i64 0]) ∧ Below w.heap.size w w') := fun w => add_yes 3 4 w (by decide)
  have A2 : ∀ w, Calls Try.prog 22 #[.int .i64 98304, .int .i64 2] w (fun e w' => e = .returned (.tuple #[.int .i64 3, .int .i64 0]) ∧ Below w.heap.size w w') := fun w => mul_any 98304 2 w
  have A3 : ∀ w, Calls Try.prog 24 #[.int .i64 65536, .int .i64 196608] w (fun e w' => e = .returned (.tuple #[.int .i64 21845, .int .i64 0]) ∧ Below w.heap.size w w') := fun w => div_any 65536 196608 w
  have A4 : ∀ w, Calls Try.prog 24 #[.int .i64 1, .int .i64 0] w (fun e w' => e = .returned (.tuple #[.int .i64 0, .int .i64 1]) ∧ Below w.heap.size w w') := fun w => div_any 1 0 w
  have A5 : ∀ w, Calls Try.prog 39 #[.int .i64 131072] w (fun e w' => e = .returned (.tuple #[.int .i64 92681, .int .i64 0]) ∧ Below w.heap.size w w') := fun w => (root_ok 131072 w (by decide)).mono (by
    rintro e w' ⟨q, rfl, hq, hb⟩
    obtain rfl : q = 92681 := isRoot_unique hq (by unfold IsRoot; decide)
    exact ⟨rfl, hb⟩)
  have A6 : ∀ w, Calls Try.prog 20 #[.int .i64 5] w (fun e w' => e = .returned (.bool true) ∧ w = w') := fun w => may_any 5 w
  have A7 : ∀ w, Calls Try.prog 20 #[.int .i64 1099511627776] w (fun e w' => e = .returned (.bool false) ∧ w = w') := fun w => may_any 1099511627776 w
  have A8 : ∀ w, Calls Try.prog 35 #[.int .i64 (-33)] w (fun e w' => e = .returned (.int .i64 (-1)) ∧ ∃ k, w' = w.drewN k) := fun w => round26_any (-33) w (by decide) (by decide)
  have A9 : ∀ w, Calls Try.prog 35 #[.int .i64 (-32)] w (fun e w' => e = .returned (.int .i64 0) ∧ ∃ k, w' = w.drewN k) := fun w => round26_any (-32) w (by decide) (by decide)
  have A0 : ∀ w, Calls Try.prog 34 #[.int .i64 65] w (fun e w' => e = .returned (.int .i64 2) ∧ w = w') := fun w => ceil26_any 65 w (by decide) (by decide)
  go_enter Try.func19, Try.ntmps19
  go_wp2_with (first
    | (go_at_call 15; refine (A1 _).mono ?_; rintro e w1 ⟨rfl, b1⟩)
    | (go_at_call 22; refine (A2 _).mono ?_; rintro e w2 ⟨rfl, b2⟩)
    | (go_at_call 24; ((with_reducible refine (A3 _).mono ?_); rintro e w3 ⟨rfl, b3⟩))
    | (go_at_call 24; ((with_reducible refine (A4 _).mono ?_); rintro e w4 ⟨rfl, b4⟩))
    | (go_at_call 39; refine (A5 _).mono ?_; rintro e w5 ⟨rfl, b5⟩)
    | (go_at_call 20; ((with_reducible refine (A6 _).mono ?_); rintro e w' ⟨rfl, rfl⟩))
    | (go_at_call 20; ((with_reducible refine (A7 _).mono ?_); rintro e w' ⟨rfl, rfl⟩))
    | (go_at_call 35; ((with_reducible refine (A8 _).mono ?_); rintro e w' ⟨rfl, k1, rfl⟩))
    | (go_at_call 35; ((with_reducible refine (A9 _).mono ?_); rintro e w' ⟨rfl, k2, rfl⟩))
    | (go_at_call 34; refine (A0 _).mono ?_; rintro e w' ⟨rfl, rfl⟩))
  go_ret
  exact ⟨rfl, below_drewN (below_next (below_next (below_next (below_next b1 b2) b3) b4) b5) _⟩

end Go.Proofs.Ytpodlcjahfdpmaa
