/- The nearest whole number, by signs that are split off: fixed.nearest, fixed.Near; and serifref01's. -/
import Derived.Test.YtdbnjlmkbmfhkaaFix1
namespace Go.Proofs.Ytdbnjlmkbmfhkaa
open Go.RowKit

theorem ret_iiv {k l : IntKind} {a b a' b' : Int} {v : Value} (h : a = a') (g : b = b') : Ending.returned (.tuple #[.int k a, .int l b, v]) = .returned (.tuple #[.int k a', .int l b', v]) := by rw [h, g]

theorem split_same (a b n d : Int) (w : World) (ha : -4611686018427387904 ≤ a) (hb : -4611686018427387904 ≤ b) (ha2 : a ≤ 4611686018427387904) (hb2 : b ≤ 4611686018427387904)
    (hn : max a (-a) = n) (hdd : max b (-b) = d) (hd : (!decide (a < 0) == decide (b < 0)) = false) :
    Calls Try.prog 83 #[.int .i64 a, .int .i64 b] w fun e w' => e = .returned (.tuple #[.int .i64 n, .int .i64 d, .func (.func 85) #[] #[]]) ∧ w = w' := by
  go_enter Try.func83, Try.ntmps83
  go_wp2
  all_goals go_ret3
  all_goals exact ⟨ret_iiv (by omega) (by omega), rfl⟩

theorem split_diff (a b n d : Int) (w : World) (ha : -4611686018427387904 ≤ a) (hb : -4611686018427387904 ≤ b) (ha2 : a ≤ 4611686018427387904) (hb2 : b ≤ 4611686018427387904)
    (hn : max a (-a) = n) (hdd : max b (-b) = d) (hd : (!decide (a < 0) == decide (b < 0)) = true) :
    Calls Try.prog 83 #[.int .i64 a, .int .i64 b] w fun e w' => e = .returned (.tuple #[.int .i64 n, .int .i64 d, .func (.func 86) #[] #[]]) ∧ w = w' := by
  go_enter Try.func83, Try.ntmps83
  go_wp2
  all_goals go_ret3
  all_goals exact ⟨ret_iiv (by omega) (by omega), rfl⟩

theorem nearest_same (a b n d : Int) (w : World) (ha : -4611686018427387904 ≤ a) (hb : -4611686018427387904 ≤ b) (ha2 : a ≤ 4611686018427387904) (hb2 : b ≤ 4611686018427387904)
    (hn : max a (-a) = n) (hdd : max b (-b) = d) (h0 : 0 < d) (hd : (!decide (a < 0) == decide (b < 0)) = false) :
    Calls Try.prog 76 #[.int .i64 a, .int .i64 b] w fun e w' => e = .returned (.int .i64 (near a b)) ∧ ∃ k, w' = w.drewN k := by
  have C := split_same a b n d w ha hb ha2 hb2 hn hdd hd
  have Hq := near_same hn hdd h0 hd
  generalize near a b = q at Hq ⊢
  have n0 : 0 ≤ n := by omega
  have n1 : n ≤ 4611686018427387904 := by omega
  have d1 : d ≤ 4611686018427387904 := by omega
  have r0 : 0 ≤ n % d := Int.emod_nonneg n (by omega)
  have r1 : n % d < d := Int.emod_lt_of_pos n h0
  have q0 : 0 ≤ n / d := Int.ediv_nonneg n0 (by omega)
  have q1 : n / d ≤ n := Int.ediv_le_self d n0
  clear hn hdd hd
  rcases (by omega : d < 2 * (n % d) ∨ 2 * (n % d) = d ∨ 2 * (n % d) < d) with h | h | h
  · have HE : Hid (q = (n / d + 1)) := (by rw [Hq, if_pos (by omega)] : q = (n / d + 1))
    clear Hq
    go_enter Try.func76, Try.ntmps76
    go_wp2_with (go_at_call 83; refine C.mono ?_; rintro e w' ⟨rfl, rfl⟩)
    go_quiet (fail)
    go_wp2
    go_ret
    exact ⟨ret_int HE.out.symm, _, rfl⟩
  · have HE : Hid (q = n / d + 1) := (by rw [Hq, if_pos (by omega)] : q = n / d + 1)
    have hb : (2 * (n % d) == d) = true := by simp [h]
    have hl : ¬ d < 2 * (n % d) := by omega
    clear h Hq
    go_enter Try.func76, Try.ntmps76
    go_wp2_with (go_at_call 83; refine C.mono ?_; rintro e w' ⟨rfl, rfl⟩)
    go_quiet (fail)
    go_wp2
    go_ret
    exact ⟨ret_int HE.out.symm, _, rfl⟩
  · have HE : Hid (q = (n / d)) := (by rw [Hq, if_neg (by omega)]; simp : q = (n / d))
    have hb : (2 * (n % d) == d) = false := by rw [Bool.eq_false_iff]; intro c; have := eq_of_beq c; omega
    have hl : ¬ d < 2 * (n % d) := by omega
    clear Hq
    go_enter Try.func76, Try.ntmps76
    go_wp2_with (go_at_call 83; refine C.mono ?_; rintro e w' ⟨rfl, rfl⟩)
    go_quiet (fail)
    go_wp2
    go_ret
    exact ⟨ret_int HE.out.symm, _, rfl⟩

theorem nearest_diff (a b n d : Int) (w : World) (ha : -4611686018427387904 ≤ a) (hb : -4611686018427387904 ≤ b) (ha2 : a ≤ 4611686018427387904) (hb2 : b ≤ 4611686018427387904)
    (hn : max a (-a) = n) (hdd : max b (-b) = d) (h0 : 0 < d) (hd : (!decide (a < 0) == decide (b < 0)) = true) :
    Calls Try.prog 76 #[.int .i64 a, .int .i64 b] w fun e w' => e = .returned (.int .i64 (near a b)) ∧ ∃ k, w' = w.drewN k := by
  have C := split_diff a b n d w ha hb ha2 hb2 hn hdd hd
  have Hq := near_diff hn hdd h0 hd
  generalize near a b = q at Hq ⊢
  have n0 : 0 ≤ n := by omega
  have n1 : n ≤ 4611686018427387904 := by omega
  have d1 : d ≤ 4611686018427387904 := by omega
  have r0 : 0 ≤ n % d := Int.emod_nonneg n (by omega)
  have r1 : n % d < d := Int.emod_lt_of_pos n h0
  have q0 : 0 ≤ n / d := Int.ediv_nonneg n0 (by omega)
  have q1 : n / d ≤ n := Int.ediv_le_self d n0
  clear hn hdd hd
  rcases (by omega : d < 2 * (n % d) ∨ 2 * (n % d) = d ∨ 2 * (n % d) < d) with h | h | h
  · have HE : Hid (q = -(n / d + 1)) := (by rw [Hq, if_pos (by omega)] : q = -(n / d + 1))
    clear Hq
    go_enter Try.func76, Try.ntmps76
    go_wp2_with (go_at_call 83; refine C.mono ?_; rintro e w' ⟨rfl, rfl⟩)
    go_quiet (fail)
    go_wp2
    go_ret
    exact ⟨ret_int HE.out.symm, _, rfl⟩
  · have HE : Hid (q = -(n / d)) := (by rw [Hq, if_neg (by omega)]; simp : q = -(n / d))
    have hb : (2 * (n % d) == d) = true := by simp [h]
    have hl : ¬ d < 2 * (n % d) := by omega
    clear h Hq
    go_enter Try.func76, Try.ntmps76
    go_wp2_with (go_at_call 83; refine C.mono ?_; rintro e w' ⟨rfl, rfl⟩)
    go_quiet (fail)
    go_wp2
    go_ret
    exact ⟨ret_int HE.out.symm, _, rfl⟩
  · have HE : Hid (q = -(n / d)) := (by rw [Hq, if_neg (by omega)]; simp : q = -(n / d))
    have hb : (2 * (n % d) == d) = false := by rw [Bool.eq_false_iff]; intro c; have := eq_of_beq c; omega
    have hl : ¬ d < 2 * (n % d) := by omega
    clear Hq
    go_enter Try.func76, Try.ntmps76
    go_wp2_with (go_at_call 83; refine C.mono ?_; rintro e w' ⟨rfl, rfl⟩)
    go_quiet (fail)
    go_wp2
    go_ret
    exact ⟨ret_int HE.out.symm, _, rfl⟩

theorem nearest_any (a b : Int) (w : World) (ha : -4611686018427387904 ≤ a) (hb : -4611686018427387904 ≤ b) (ha2 : a ≤ 4611686018427387904) (hb2 : b ≤ 4611686018427387904) (h0 : b ≠ 0) :
    Calls Try.prog 76 #[.int .i64 a, .int .i64 b] w fun e w' => e = .returned (.int .i64 (near a b)) ∧ ∃ k, w' = w.drewN k := by
  by_cases h : (!decide (a < 0) == decide (b < 0)) = true
  · exact nearest_diff a b _ _ w ha hb ha2 hb2 rfl rfl (by omega) h
  · exact nearest_same a b _ _ w ha hb ha2 hb2 rfl rfl (by omega) (by simpa using h)

end Go.Proofs.Ytdbnjlmkbmfhkaa
