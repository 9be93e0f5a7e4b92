/- fixed: Floor26, Ceil26, Round26, To26, To16, Whole; and serifref01's. -/
import Derived.Test.YtpodlcjahfdpmaaFix3
namespace Go.Proofs.Ytpodlcjahfdpmaa
open Go.RowKit

theorem i64_mask (n : Int) (k : Nat) (hk : k ≤ 62) : bits .and .i64 n ((2 ^ k - 1 : Nat) : Int) = n % ((2 ^ k : Nat) : Int) := by
  have hlt : 2 ^ k ≤ 2 ^ 62 := Nat.pow_le_pow_right (by omega) hk
  have hpos : 0 < 2 ^ k := Nat.two_pow_pos k
  have h1 : (BitVec.ofInt 64 ((2 ^ k - 1 : Nat) : Int)).toNat = 2 ^ k - 1 := by
    rw [BitVec.ofInt_natCast, BitVec.toNat_ofNat]; exact Nat.mod_eq_of_lt (by omega)
  have key : (BitVec.ofInt 64 n &&& BitVec.ofInt 64 ((2 ^ k - 1 : Nat) : Int)).toNat = (n % ((2 ^ 64 : Nat) : Int)).toNat % 2 ^ k := by
    rw [BitVec.toNat_and, BitVec.toNat_ofInt, h1, Nat.and_two_pow_sub_one_eq_mod]
  show IntKind.i64.wrap ((BitVec.ofInt 64 n &&& BitVec.ofInt 64 ((2 ^ k - 1 : Nat) : Int)).toNat : Nat) = _
  have hd : ((2 ^ k : Nat) : Int) ∣ ((2 ^ 64 : Nat) : Int) := Int.natCast_dvd_natCast.mpr (Nat.pow_dvd_pow 2 (by omega))
  have hm : n % ((2 ^ 64 : Nat) : Int) % ((2 ^ k : Nat) : Int) = n % ((2 ^ k : Nat) : Int) := Int.emod_emod_of_dvd n hd
  have h0 : 0 ≤ n % ((2 ^ 64 : Nat) : Int) := Int.emod_nonneg n (by omega)
  have hb := Int.emod_lt_of_pos n (show (0 : Int) < ((2 ^ k : Nat) : Int) by omega)
  have hb0 := Int.emod_nonneg n (show ((2 ^ k : Nat) : Int) ≠ 0 by omega)
  rw [key, Int.natCast_emod, Int.toNat_of_nonneg h0, hm]
  exact IntWalk.i64_in _ (by omega)

theorem i64_and63 (n : Int) : bits .and .i64 n 63 = n % 64 := i64_mask n 6 (by decide)
theorem i64_and1 (n : Int) : bits .and .i64 n 1 = n % 2 := i64_mask n 1 (by decide)

theorem floor26_any (x : Int) (w : World) :
    Calls Try.prog 33 #[.int .i64 x] w fun e w' => e = .returned (.int .i64 (x / 64)) ∧ w = w' := by
  go_enter Try.func33, Try.ntmps33
  go_wp2
  go_ret
  exact ⟨rfl, rfl⟩

theorem ceil26_any (x : Int) (w : World) (h1 : -9223372036854775808 ≤ x) (h2 : x ≤ 9223372036854775807) :
    Calls Try.prog 34 #[.int .i64 x] w fun e w' => e = .returned (.int .i64 ((x + 63) / 64)) ∧ w = w' := by
  have hb := i64_and63 x
  by_cases h : x % 64 ≤ 1
  all_goals
    go_enter Try.func34, Try.ntmps34
    go_wp2
    all_goals go_ret
    all_goals exact ⟨ret_int (by omega), rfl⟩

theorem drop6_any (x : Int) (w : World) (h1 : -9223372036854775808 ≤ x) (h2 : x ≤ 9223372036854775807) :
    Calls Try.prog 74 #[.int .i64 x, .int .i64 6] w fun e w' => e = .returned (.int .i64 ((x + 32) / 64)) ∧ ∃ k, w' = w.drewN k := by
  have hb := i64_and1 (x / 32)
  go_enter Try.func74, Try.ntmps74
  go_wp2
  go_quiet (fail)
  go_wp2
  go_ret
  exact ⟨ret_int (by omega), _, rfl⟩

theorem drop10_any (x : Int) (w : World) (h1 : -9223372036854775808 ≤ x) (h2 : x ≤ 9223372036854775807) :
    Calls Try.prog 74 #[.int .i64 x, .int .i64 10] w fun e w' => e = .returned (.int .i64 ((x + 512) / 1024)) ∧ ∃ k, w' = w.drewN k := by
  have hb := i64_and1 (x / 512)
  go_enter Try.func74, Try.ntmps74
  go_wp2
  go_quiet (fail)
  go_wp2
  go_ret
  exact ⟨ret_int (by omega), _, rfl⟩

theorem round26_any (x : Int) (w : World) (h1 : -9223372036854775808 ≤ x) (h2 : x ≤ 9223372036854775807) :
    Calls Try.prog 35 #[.int .i64 x] w fun e w' => e = .returned (.int .i64 ((x + 32) / 64)) ∧ ∃ k, w' = w.drewN k := by
  have D := fun w => drop6_any x w h1 h2
  go_enter Try.func35, Try.ntmps35
  go_wp2_with (go_at_call 74; refine (D _).mono ?_; rintro e w' ⟨rfl, k, rfl⟩)
  go_ret
  exact ⟨rfl, _, rfl⟩

theorem rround26_any (x : Int) (w : World) (h1 : -9223372036854775808 ≤ x) (h2 : x ≤ 9223372036854775807) :
    Calls Try.prog 36 #[.int .i64 x] w fun e w' => e = .returned (.int .i64 ((x + 32) / 64)) ∧ w = w' := by
  have D := fun w => floor_ref x 64 w (by omega) h1 h2
  by_cases h : 32 ≤ x - 64 * (x / 64)
  · have HE : Hid (x / 64 + 1 = (x + 32) / 64) := (by omega : x / 64 + 1 = (x + 32) / 64)
    go_enter Try.func36, Try.ntmps36
    go_wp2_with (go_at_call 30; refine (D _).mono ?_; rintro e w' ⟨rfl, rfl⟩)
    go_ret
    exact ⟨ret_int HE.out, rfl⟩
  · have HE : Hid (x / 64 = (x + 32) / 64) := (by omega : x / 64 = (x + 32) / 64)
    go_enter Try.func36, Try.ntmps36
    go_wp2_with (go_at_call 30; refine (D _).mono ?_; rintro e w' ⟨rfl, rfl⟩)
    go_ret
    exact ⟨ret_int HE.out, rfl⟩

theorem to26_any (x : Int) (w : World) (h1 : -9223372036854775808 ≤ x) (h2 : x ≤ 9223372036854775807) :
    Calls Try.prog 37 #[.int .i64 x] w fun e w' => e = .returned (.int .i64 ((x + 512) / 1024)) ∧ ∃ k, w' = w.drewN k := by
  have D := fun w => drop10_any x w h1 h2
  go_enter Try.func37, Try.ntmps37
  go_wp2_with (go_at_call 74; refine (D _).mono ?_; rintro e w' ⟨rfl, k, rfl⟩)
  go_ret
  exact ⟨rfl, _, rfl⟩

theorem rto26_any (x : Int) (w : World) (h1 : -9223372036854775808 ≤ x) (h2 : x ≤ 9223372036854775807) :
    Calls Try.prog 38 #[.int .i64 x] w fun e w' => e = .returned (.int .i64 ((x + 512) / 1024)) ∧ w = w' := by
  have D := fun w => floor_ref x 1024 w (by omega) h1 h2
  by_cases h : 512 ≤ x - 1024 * (x / 1024)
  · have HE : Hid (x / 1024 + 1 = (x + 512) / 1024) := (by omega : x / 1024 + 1 = (x + 512) / 1024)
    go_enter Try.func38, Try.ntmps38
    go_wp2_with (go_at_call 30; refine (D _).mono ?_; rintro e w' ⟨rfl, rfl⟩)
    go_ret
    exact ⟨ret_int HE.out, rfl⟩
  · have HE : Hid (x / 1024 = (x + 512) / 1024) := (by omega : x / 1024 = (x + 512) / 1024)
    go_enter Try.func38, Try.ntmps38
    go_wp2_with (go_at_call 30; refine (D _).mono ?_; rintro e w' ⟨rfl, rfl⟩)
    go_ret
    exact ⟨ret_int HE.out, rfl⟩

theorem to16_ok (x : Int) (w : World) (h1 : -2097152 ≤ x) (h2 : x ≤ 2097152) :
    Calls Try.prog 31 #[.int .i64 x] w fun e w' => e = .returned (.tuple #[.int .i64 (1024 * x), .int .i64 0]) ∧ w = w' := by
  have HE : Hid (x * 1024 = 1024 * x) := Int.mul_comm _ _
  have D : ∀ w, Calls Try.prog 73 #[.int .i64 x, .int .i64 1024] w (fun e w' => e = .returned (.tuple #[.int .i64 (1024 * x), .int .i64 0]) ∧ w = w') := by
    intro w
    go_enter Try.func73, Try.ntmps73
    go_wp2
    go_ret2
    exact ⟨ret_ii HE.out rfl, rfl⟩
  clear HE
  go_enter Try.func31, Try.ntmps31
  go_wp2_with (go_at_call 73; refine (D _).mono ?_; rintro e w' ⟨rfl, rfl⟩)
  go_ret2
  exact ⟨rfl, rfl⟩

theorem to16_no (x : Int) (w : World) (h : x < -2097152 ∨ 2097152 < x) :
    Calls Try.prog 31 #[.int .i64 x] w fun e w' => e = .returned (.tuple #[.int .i64 0, .int .i64 10]) ∧ w = w' := by
  have D : ∀ w, Calls Try.prog 73 #[.int .i64 x, .int .i64 1024] w (fun e w' => e = .returned (.tuple #[.int .i64 0, .int .i64 10]) ∧ w = w') := by
    intro w
    rcases h with h | h
    · go_enter Try.func73, Try.ntmps73
      go_wp2
      go_ret2
      exact ⟨rfl, rfl⟩
    · have h' : ¬ x < -2097152 := by omega
      go_enter Try.func73, Try.ntmps73
      go_wp2
      go_ret2
      exact ⟨rfl, rfl⟩
  clear h
  go_enter Try.func31, Try.ntmps31
  go_wp2_with (go_at_call 73; refine (D _).mono ?_; rintro e w' ⟨rfl, rfl⟩)
  go_ret2
  exact ⟨rfl, rfl⟩

theorem whole_ok (x : Int) (w : World) (h1 : -32768 ≤ x) (h2 : x ≤ 32768) :
    Calls Try.prog 32 #[.int .i64 x] w fun e w' => e = .returned (.tuple #[.int .i64 (65536 * x), .int .i64 0]) ∧ w = w' := by
  have HE : Hid (x * 65536 = 65536 * x) := Int.mul_comm _ _
  have D : ∀ w, Calls Try.prog 73 #[.int .i64 x, .int .i64 65536] w (fun e w' => e = .returned (.tuple #[.int .i64 (65536 * x), .int .i64 0]) ∧ w = w') := by
    intro w
    go_enter Try.func73, Try.ntmps73
    go_wp2
    go_ret2
    exact ⟨ret_ii HE.out rfl, rfl⟩
  clear HE
  go_enter Try.func32, Try.ntmps32
  go_wp2_with (go_at_call 73; refine (D _).mono ?_; rintro e w' ⟨rfl, rfl⟩)
  go_ret2
  exact ⟨rfl, rfl⟩

theorem whole_no (x : Int) (w : World) (h : x < -32768 ∨ 32768 < x) :
    Calls Try.prog 32 #[.int .i64 x] w fun e w' => e = .returned (.tuple #[.int .i64 0, .int .i64 10]) ∧ w = w' := by
  have D : ∀ w, Calls Try.prog 73 #[.int .i64 x, .int .i64 65536] w (fun e w' => e = .returned (.tuple #[.int .i64 0, .int .i64 10]) ∧ w = w') := by
    intro w
    rcases h with h | h
    · go_enter Try.func73, Try.ntmps73
      go_wp2
      go_ret2
      exact ⟨rfl, rfl⟩
    · have h' : ¬ x < -32768 := by omega
      go_enter Try.func73, Try.ntmps73
      go_wp2
      go_ret2
      exact ⟨rfl, rfl⟩
  clear h
  go_enter Try.func32, Try.ntmps32
  go_wp2_with (go_at_call 73; refine (D _).mono ?_; rintro e w' ⟨rfl, rfl⟩)
  go_ret2
  exact ⟨rfl, rfl⟩

end Go.Proofs.Ytpodlcjahfdpmaa
