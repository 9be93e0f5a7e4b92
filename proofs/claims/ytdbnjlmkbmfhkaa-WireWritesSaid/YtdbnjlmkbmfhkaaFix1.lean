/- Contracts of the functions of layer 1 that only reckon: floor, nearest and their kin. -/
import Derived.Test.YtdbnjlmkbmfhkaaRows
import Derived.Test.YtdbnjlmkbmfhkaaNum
import Derived.WalkKit
import Derived.BigQuiet
import Derived.WalkSmall
import Derived.Deep.QuietTactic
namespace Go.Proofs.Ytdbnjlmkbmfhkaa
open Go.RowKit

theorem ret_int {k : IntKind} {a b : Int} (h : a = b) : Ending.returned (.int k a) = .returned (.int k b) := by rw [h]

theorem may_ref (x : Int) (w : World) : Calls Try.prog 13 #[.int .i64 x] w fun e w' => e = .returned (.bool (mayB x)) ∧ w = w' := by
  unfold mayB
  by_cases h1 : -2147483648 ≤ x <;> by_cases h2 : x ≤ 2147483648
  all_goals
    go_enter Try.func13, Try.ntmps13
    go_wp2
    go_ret
    simp [h1, h2]

theorem may_any (x : Int) (w : World) : Calls Try.prog 75 #[.int .i64 x] w fun e w' => e = .returned (.bool (mayB x)) ∧ w = w' := by
  unfold mayB
  by_cases h1 : -2147483648 ≤ x <;> by_cases h2 : x ≤ 2147483648
  all_goals
    go_enter Try.func75, Try.ntmps75
    go_wp2
    go_ret
    simp [h1, h2]

theorem floor_ref (a b : Int) (w : World) (hb : 0 < b) (ha : -9223372036854775808 ≤ a) (ha2 : a ≤ 9223372036854775807) :
    Calls Try.prog 59 #[.int .i64 a, .int .i64 b] w fun e w' => e = .returned (.int .i64 (a / b)) ∧ w = w' := by
  by_cases h2 : a < 0
  · by_cases h1 : a % b = 0
    · obtain ⟨e1, e2⟩ := tdiv_whole h1
      have H : Hid (a.tdiv b = a / b) := e1
      have e3 : (a.tmod b != 0) = false := by simp [e2]
      clear e1 h1 e2
      go_enter Try.func59, Try.ntmps59
      go_wp2
      go_ret
      exact ⟨ret_int H.out, rfl⟩
    · obtain ⟨e1, e2, e4, e5⟩ := tdiv_floor hb h2 h1
      have H : Hid (a.tdiv b - 1 = a / b) := e1
      have e3 : (a.tmod b != 0) = true := by simp [e2]
      have e6 : -9223372036854775808 ≤ a.tdiv b - 1 := by omega
      clear e1 h1
      go_enter Try.func59, Try.ntmps59
      go_wp2
      go_ret
      exact ⟨ret_int H.out, rfl⟩
  · by_cases h1 : a % b = 0
    all_goals
      go_enter Try.func59, Try.ntmps59
      go_wp2
      all_goals go_ret
      all_goals exact ⟨rfl, rfl⟩

end Go.Proofs.Ytdbnjlmkbmfhkaa
