/- The square root, bit by bit, and by halving. -/
import Derived.Test.YtpodlcjahfdpmaaFix5
namespace Go.Proofs.Ytpodlcjahfdpmaa
open Go.RowKit

/-- q is the floor of the square root of n -/
def IsRoot (n q : Nat) : Prop := q * q ≤ n ∧ n < (q + 1) * (q + 1)

theorem isRoot_unique {n p q : Nat} (hp : IsRoot n p) (hq : IsRoot n q) : p = q := by
  obtain ⟨p1, p2⟩ := hp
  obtain ⟨q1, q2⟩ := hq
  rcases Nat.lt_trichotomy p q with h | h | h
  · have := Nat.mul_le_mul (show p + 1 ≤ q from h) (show p + 1 ≤ q from h); omega
  · exact h
  · have := Nat.mul_le_mul (show q + 1 ≤ p from h) (show q + 1 ≤ p from h); omega

theorem i64_or_nat (a b : Nat) (ha : a < 4611686018427387904) (hb : b < 4611686018427387904) : bits .or .i64 (a : Int) (b : Int) = ((a ||| b : Nat) : Int) := by
  have hx : a ||| b < 2 ^ 62 := Nat.or_lt_two_pow (by omega) (by omega)
  have h1 : (BitVec.ofInt 64 (a : Int)).toNat = a := by
    rw [BitVec.ofInt_natCast, BitVec.toNat_ofNat]; exact Nat.mod_eq_of_lt (by omega)
  have h2 : (BitVec.ofInt 64 (b : Int)).toNat = b := by
    rw [BitVec.ofInt_natCast, BitVec.toNat_ofNat]; exact Nat.mod_eq_of_lt (by omega)
  show IntKind.i64.wrap ((BitVec.ofInt 64 (a : Int) ||| BitVec.ofInt 64 (b : Int)).toNat : Int) = _
  rw [BitVec.toNat_or, h1, h2]
  exact IntWalk.i64_in _ (by omega)

theorem or_step (R j : Nat) (h : R % 2 ^ (j + 1) = 0) : R ||| 2 ^ j = R + 2 ^ j := by
  obtain ⟨m, rfl⟩ := Nat.dvd_of_mod_eq_zero h
  exact (Nat.two_pow_add_eq_or_of_lt (Nat.pow_lt_pow_right (by omega) (by omega)) m).symm

set_option maxHeartbeats 400000 in
theorem floorRoot_any (n : Nat) (w : World) (hn : n ≤ 140737488355328) :
    Calls Try.prog 76 #[.int .i64 n] w fun e w' => ∃ q : Nat, e = .returned (.int .i64 q) ∧ IsRoot n q ∧ w = w' := by
  go_enter Try.func76, Try.ntmps76
  go_wp2
  go_loop [3, 4] (fun r b => ∃ (k R : Nat), k ≤ 24 ∧ r = .int .i64 R ∧ b = .int .i64 (2 ^ k / 2 : Nat) ∧ R % 2 ^ k = 0 ∧ R + 2 ^ k ≤ 16777216 ∧ R * R ≤ n ∧ n < (R + 2 ^ k) * (R + 2 ^ k)) (fun _ b => (intOf b).toNat)
  case atStart => exact ⟨24, 0, by omega, rfl, rfl, rfl, by decide, by omega, by omega⟩
  case round =>
    obtain ⟨k, R, hk, rfl, rfl, h1, h2, h3, h4⟩ := hrel
    match k, hk with
    | 0, hk =>
      rw [show (2 ^ 0 / 2 : Nat) = 0 from rfl]
      go_wp2
      go_ret
      exact ⟨R, rfl, ⟨h3, h4⟩, rfl⟩
    | j + 1, hk =>
      have e0 : 2 ^ (j + 1) / 2 = 2 ^ j := by rw [Nat.pow_succ]; omega
      have e1 : 2 ^ (j + 1) = 2 * 2 ^ j := by rw [Nat.pow_succ]; omega
      have hor := or_step R j h1
      have hdiv : (R + 2 ^ j) % 2 ^ j = 0 := by
        obtain ⟨m, rfl⟩ := Nat.dvd_of_mod_eq_zero h1
        rw [e1, Nat.mul_right_comm, ← Nat.add_one_mul]; exact Nat.mul_mod_left _ _
      have hdiv0 : R % 2 ^ j = 0 := by
        obtain ⟨m, rfl⟩ := Nat.dvd_of_mod_eq_zero h1
        rw [e1, Nat.mul_right_comm]; exact Nat.mul_mod_left _ _
      have hpos : 0 < 2 ^ j := Nat.two_pow_pos j
      rw [e0]
      rw [e1] at h2 h4
      clear e1 h1
      obtain ⟨B, hB⟩ : ∃ B : Nat, B = 2 ^ j := ⟨_, rfl⟩
      obtain ⟨M, hM⟩ : ∃ M : Nat, M = R + B := ⟨_, rfl⟩
      have HB : Hid (B = 2 ^ j) := hB
      rw [← hB] at hor hdiv hdiv0 hpos h2 h4 e0 ⊢
      clear hB
      have hM1 : M ≤ 16777216 := by omega
      have hMM : M * M ≤ 16777216 * 16777216 := Nat.mul_le_mul hM1 hM1
      have hMI : (M : Int) * M = ((M * M : Nat) : Int) := by simp
      have hbits : bits .or .i64 (R : Int) (B : Int) = (M : Int) := by rw [i64_or_nat R B (by omega) (by omega), hor, hM]
      have hP : 0 ≤ (M : Int) * M := by omega
      have hQ : (M : Int) * M ≤ 281474976710656 := by omega
      have HE : Hid (2 ^ (j + 1) / 2 = B) := e0
      have HM : Hid (M = R + B) := hM
      have HD : Hid ((R + B) % B = 0) := hdiv
      have HD0 : Hid (R % B = 0) := hdiv0
      have HI : Hid ((M : Int) * M = ((M * M : Nat) : Int)) := hMI
      clear hor hdiv hdiv0 e0 hM hMI
      by_cases hle : (M : Int) * M ≤ n
      · go_wp2
        go_round
        case rel =>
          have := HI.out; have hm := HM.out
          refine ⟨j, M, by omega, rfl, ?_, ?_, ?_, by omega, ?_⟩
          · rw [← HB.out]; go_num
          · rw [← HB.out, hm]; exact HD.out
          · rw [← HB.out]; omega
          · rw [← HB.out, hm]; rw [show R + B + B = R + 2 * B by omega]; exact h4
        case measure => simp [intOf]; omega
      · go_wp2
        go_round
        case rel =>
          have := HI.out; have hm := HM.out
          refine ⟨j, R, by omega, rfl, ?_, ?_, ?_, h3, ?_⟩
          · rw [← HB.out]; go_num
          · rw [← HB.out]; exact HD0.out
          · rw [← HB.out]; omega
          · rw [← HB.out, ← hm]; omega
        case measure => simp [intOf]; omega

set_option maxHeartbeats 400000 in
theorem rroot_ok (n : Nat) (w : World) (hn : n ≤ 2147483648) :
    Calls Try.prog 40 #[.int .i64 n] w fun e w' => ∃ q : Nat, e = .returned (.tuple #[.int .i64 q, .int .i64 0]) ∧ IsRoot (65536 * n) q ∧ w = w' := by
  have D : ∀ w, Calls Try.prog 21 #[.int .i64 (n : Int)] w fun e w' => e = .returned (.bool true) ∧ w = w' := fun w => by have := may_ref n w; rwa [show mayB n = true by unfold mayB; simp; omega] at this
  go_enter Try.func40, Try.ntmps40
  go_wp2_with (go_at_call 21; refine (D _).mono ?_; rintro e w' ⟨rfl, rfl⟩)
  go_loop [4, 5] (fun l h => ∃ (L H : Nat), l = .int .i64 L ∧ h = .int .i64 H ∧ L < H ∧ H ≤ 16777216 ∧ L * L ≤ 65536 * n ∧ 65536 * n < H * H) (fun l h => (intOf h - intOf l).toNat)
  case atStart => exact ⟨0, 16777216, rfl, rfl, by omega, by omega, by omega, by omega⟩
  case round =>
    obtain ⟨L, H, rfl, rfl, h1, h2, h3, h4⟩ := hrel
    by_cases hgo : L + 1 < H
    · obtain ⟨M, hM⟩ : ∃ M : Nat, M = (L + H) / 2 := ⟨_, rfl⟩
      have hM1 : M ≤ 16777216 := by omega
      have hMM : M * M ≤ 16777216 * 16777216 := Nat.mul_le_mul hM1 hM1
      have hMI : (M : Int) * M = ((M * M : Nat) : Int) := by simp
      have hq : ((L : Int) + H) / 2 = M := by omega
      have hP : 0 ≤ (M : Int) * M := by omega
      have hQ : (M : Int) * M ≤ 281474976710656 := by omega
      have HI : Hid ((M : Int) * M = ((M * M : Nat) : Int)) := hMI
      have HM : Hid (M = (L + H) / 2) := hM
      clear hM hMI
      by_cases hle : (M : Int) * M ≤ n * 65536
      · go_wp2
        go_round
        case rel =>
          have := HI.out; have hm := HM.out
          exact ⟨M, H, by rw [hm]; go_num, rfl, by omega, h2, by omega, h4⟩
        case measure => simp [intOf]; omega
      · go_wp2
        go_round
        case rel =>
          have := HI.out; have hm := HM.out
          exact ⟨L, M, rfl, by rw [hm]; go_num, by omega, by omega, h3, by omega⟩
        case measure => simp [intOf]; omega
    · go_wp2
      go_ret2
      exact ⟨L, rfl, ⟨h3, by rw [show L + 1 = H by omega]; exact h4⟩, rfl⟩

theorem may_root {n q : Nat} (h : IsRoot (65536 * n) q) (hn : n ≤ 2147483648) (w : World) :
    Calls Try.prog 20 #[.int .i64 (q : Int)] w fun e w' => e = .returned (.bool true) ∧ w = w' := by
  have := may_any q w
  have hq : q ≤ 2147483648 := by
    rcases Nat.lt_or_ge 2147483648 q with c | c
    · have h1 := Nat.mul_le_mul (Nat.le_of_lt c) (Nat.le_of_lt c); have := h.1; omega
    · exact c
  rwa [show mayB q = true by unfold mayB; simp; omega] at this

theorem rroot_no (x : Int) (w : World) (h : mayB x = false) :
    Calls Try.prog 40 #[.int .i64 x] w fun e w' => e = .returned (.tuple #[.int .i64 0, .int .i64 10]) ∧ w = w' := by
  have D : ∀ w, Calls Try.prog 21 #[.int .i64 x] w fun e w' => e = .returned (.bool false) ∧ w = w' := fun w => by have := may_ref x w; rwa [h] at this
  clear h
  go_enter Try.func40, Try.ntmps40
  go_wp2_with (go_at_call 21; refine (D _).mono ?_; rintro e w' ⟨rfl, rfl⟩)
  go_ret2
  exact ⟨rfl, rfl⟩

theorem rroot_neg (x : Int) (w : World) (h : mayB x = true) (hx : x < 0) :
    Calls Try.prog 40 #[.int .i64 x] w fun e w' => e = .returned (.tuple #[.int .i64 0, .int .i64 1]) ∧ w = w' := by
  have D : ∀ w, Calls Try.prog 21 #[.int .i64 x] w fun e w' => e = .returned (.bool true) ∧ w = w' := fun w => by have := may_ref x w; rwa [h] at this
  clear h
  go_enter Try.func40, Try.ntmps40
  go_wp2_with (go_at_call 21; refine (D _).mono ?_; rintro e w' ⟨rfl, rfl⟩)
  go_ret2
  exact ⟨rfl, rfl⟩

theorem cells1 (w0 : World) (b : Nat) (hb : w0.heap.size = b) (x : Int) (t : TypeId) (j : Nat) (hj : j < [x].length) :
    (w0.alloc (.cells #[.int .i64 x] t)).cell? ⟨b, 0 + j, none⟩ = some (.int .i64 ([x].getD j 0)) := by
  rw [World.cell?_alloc_at _ _ _ _ hb.symm]
  match j, hj with
  | 0, _ => rfl

theorem all1 (x : Int) : [x].all mayB = mayB x := by simp

theorem root_neg (x : Int) (w : World) (h : mayB x = true) (hx : x < 0) :
    Calls Try.prog 39 #[.int .i64 x] w fun e w' => e = .returned (.tuple #[.int .i64 0, .int .i64 1]) ∧ Below w.heap.size w w' := by
  have D : ∀ w, Calls Try.prog 20 #[.int .i64 x] w fun e w' => e = .returned (.bool true) ∧ w = w' := fun w => by have := may_any x w; rwa [h] at this
  clear h
  go_enter Try.func39, Try.ntmps39
  go_wp2_with (go_at_call 20; refine (D _).mono ?_; rintro e w' ⟨rfl, rfl⟩)
  go_ret2
  exact ⟨rfl, below_a1 _ _⟩

theorem root_no (x : Int) (w : World) (h : mayB x = false) :
    Calls Try.prog 39 #[.int .i64 x] w fun e w' => e = .returned (.tuple #[.int .i64 0, .int .i64 10]) ∧ Below w.heap.size w w' := by
  have hmf : ∀ (fn : Fn) (first cap : Array Value) (w : World), (Instr.makeFunc fn first cap).run Try.prog w = .ok (.func fn first cap) w := fun _ _ _ _ => rfl
  have D : ∀ w, Calls Try.prog 20 #[.int .i64 x] w fun e w' => e = .returned (.bool false) ∧ w = w' := fun w => by have := may_any x w; rwa [h] at this
  have C := allMay_fixed (w.heap.size + 1) 0 1 1 [x] ((w.alloc (.cells #[.int .i64 x] 3)).alloc (.cells #[.int .i64 x] 3)) rfl (by decide) (fun j hj => cells1 _ _ (by simp) x _ j hj)
  rw [all1, h] at C
  clear h
  by_cases hx : x < 0
  all_goals
    go_enter Try.func39, Try.ntmps39
    go_wp2_with (first | (go_at_call 20; refine (D _).mono ?_; rintro e w' ⟨rfl, rfl⟩) | (go_at_call 70; refine C.mono ?_; rintro e w' ⟨rfl, rfl⟩) | go_in)
    go_ret2
    exact ⟨rfl, below_a2 _ _ _⟩

theorem root_ok (n : Nat) (w : World) (hn : n ≤ 2147483648) :
    Calls Try.prog 39 #[.int .i64 n] w fun e w' => ∃ q : Nat, e = .returned (.tuple #[.int .i64 q, .int .i64 0]) ∧ IsRoot (65536 * n) q ∧ Below w.heap.size w w' := by
  have hmf : ∀ (fn : Fn) (first cap : Array Value) (w : World), (Instr.makeFunc fn first cap).run Try.prog w = .ok (.func fn first cap) w := fun _ _ _ _ => rfl
  have hmay : mayB n = true := by unfold mayB; simp; omega
  have C := allMay_fixed (w.heap.size + 1) 0 1 1 [(n : Int)] ((w.alloc (.cells #[.int .i64 n] 3)).alloc (.cells #[.int .i64 n] 3)) rfl (by decide) (fun j hj => cells1 _ _ (by simp) n _ j hj)
  rw [all1, hmay] at C
  have F := fun w => floorRoot_any (65536 * n) w (by omega)
  rw [show ((65536 * n : Nat) : Int) = 65536 * (n : Int) by omega] at F
  clear hmay
  go_enter Try.func39, Try.ntmps39
  go_wp2_with (first | (go_at_call 70; refine C.mono ?_; rintro e w' ⟨rfl, rfl⟩) | (go_at_call 76; refine (F _).mono ?_; rintro e w' ⟨q, rfl, hroot, rfl⟩; have D : ∀ w, Calls Try.prog 20 #[.int .i64 (q : Int)] w (fun e w' => e = .returned (.bool true) ∧ w = w') := (fun w => may_root hroot hn w)) | (go_at_call 20; refine (D _).mono ?_; rintro e w' ⟨rfl, rfl⟩) | go_in)
  go_ret2
  exact ⟨_, rfl, hroot, below_a2 _ _ _⟩

end Go.Proofs.Ytpodlcjahfdpmaa
