/- fixed.Near, serifref01.Near: the nearest to a quotient. -/
import Derived.Test.YtdbnjlmkbmfhkaaFix2
namespace Go.Proofs.Ytdbnjlmkbmfhkaa
open Go.RowKit

theorem ret_ii {k l : IntKind} {a b a' b' : Int} (h : a = a') (g : b = b') : Ending.returned (.tuple #[.int k a, .int l b]) = .returned (.tuple #[.int k a', .int l b']) := by rw [h, g]

theorem near_arg (a b : Int) (w : World) (hb : b < 1) :
    Calls Try.prog 43 #[.int .i64 a, .int .i64 b] w fun e w' => e = .returned (.tuple #[.int .i64 0, .int .i64 1]) ∧ w = w' := by
  go_enter Try.func43, Try.ntmps43
  go_wp2
  go_ret2
  exact ⟨rfl, rfl⟩

theorem near_over (a b : Int) (w : World) (hb : ¬ b < 1) (h : a < -2305843009213693952 ∨ a > 2305843009213693952 ∨ b > 2305843009213693952) :
    Calls Try.prog 43 #[.int .i64 a, .int .i64 b] w fun e w' => e = .returned (.tuple #[.int .i64 0, .int .i64 10]) ∧ w = w' := by
  by_cases h1 : a < -2305843009213693952 <;> by_cases h2 : a > 2305843009213693952 <;> by_cases h3 : b > 2305843009213693952
  all_goals first | (exfalso; omega) | skip
  all_goals clear h
  all_goals
    go_enter Try.func43, Try.ntmps43
    go_wp2
    go_ret2
    exact ⟨rfl, rfl⟩

theorem near_ok (a b : Int) (w : World) (hb : 1 ≤ b) (h1 : -2305843009213693952 ≤ a) (h2 : a ≤ 2305843009213693952) (h3 : b ≤ 2305843009213693952) :
    Calls Try.prog 43 #[.int .i64 a, .int .i64 b] w fun e w' => e = .returned (.tuple #[.int .i64 (near a b), .int .i64 0]) ∧ ∃ k, w' = w.drewN k := by
  have C := fun w => nearest_any a b w (by omega) (by omega) (by omega) (by omega) (by omega)
  go_enter Try.func43, Try.ntmps43
  go_wp2_with (go_at_call 76; refine (C _).mono ?_; rintro e w' ⟨rfl, k, rfl⟩)
  go_ret2
  exact ⟨rfl, _, rfl⟩

end Go.Proofs.Ytdbnjlmkbmfhkaa
