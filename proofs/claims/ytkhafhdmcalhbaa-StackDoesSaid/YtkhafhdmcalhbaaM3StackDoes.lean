/- Part 4 of the proof: Root, StH, StI, StJ. -/
import Derived.Test.YtkhafhdmcalhbaaM2StackDoes

namespace Go.Proofs.Ytkhafhdmcalhbaa
open Go.RowKit

/-- q is the floor of the square root of n -/
def IsRoot (n q : Nat) : Prop := q * q ≤ n ∧ n < (q + 1) * (q + 1)

theorem isRoot_unique {n p q : Nat} (hp : IsRoot n p) (hq : IsRoot n q) : p = q := by
  obtain ⟨p1, p2⟩ := hp
  obtain ⟨q1, q2⟩ := hq
  rcases Nat.lt_trichotomy p q with h | h | h
  · have := Nat.mul_le_mul (show p + 1 ≤ q from h) (show p + 1 ≤ q from h); omega
  · exact h
  · have := Nat.mul_le_mul (show q + 1 ≤ p from h) (show q + 1 ≤ p from h); omega

theorem i64_or_nat (a b : Nat) (ha : a < 4611686018427387904) (hb : b < 4611686018427387904) : bits .or .i64 (a : Int) (b : Int) = ((a ||| b : Nat) : Int) := by
  have hx : a ||| b < 2 ^ 62 := Nat.or_lt_two_pow (by omega) (by omega)
  have h1 : (BitVec.ofInt 64 (a : Int)).toNat = a := by
    rw [BitVec.ofInt_natCast, BitVec.toNat_ofNat]; exact Nat.mod_eq_of_lt (by omega)
  have h2 : (BitVec.ofInt 64 (b : Int)).toNat = b := by
    rw [BitVec.ofInt_natCast, BitVec.toNat_ofNat]; exact Nat.mod_eq_of_lt (by omega)
  show IntKind.i64.wrap ((BitVec.ofInt 64 (a : Int) ||| BitVec.ofInt 64 (b : Int)).toNat : Int) = _
  rw [BitVec.toNat_or, h1, h2]
  exact IntWalk.i64_in _ (by omega)

theorem or_step (R j : Nat) (h : R % 2 ^ (j + 1) = 0) : R ||| 2 ^ j = R + 2 ^ j := by
  obtain ⟨m, rfl⟩ := Nat.dvd_of_mod_eq_zero h
  exact (Nat.two_pow_add_eq_or_of_lt (Nat.pow_lt_pow_right (by omega) (by omega)) m).symm

set_option maxHeartbeats 400000 in
theorem floorRoot_any (n : Nat) (w : World) (hn : n ≤ 140737488355328) :
    Calls Try.prog 65 #[.int .i64 n] w fun e w' => ∃ q : Nat, e = .returned (.int .i64 q) ∧ IsRoot n q ∧ w = w' := by
  go_enter Try.func65, Try.ntmps65
  go_wp2
  go_loop [3, 4] (fun r b => ∃ (k R : Nat), k ≤ 24 ∧ r = .int .i64 R ∧ b = .int .i64 (2 ^ k / 2 : Nat) ∧ R % 2 ^ k = 0 ∧ R + 2 ^ k ≤ 16777216 ∧ R * R ≤ n ∧ n < (R + 2 ^ k) * (R + 2 ^ k)) (fun _ b => (intOf b).toNat)
  case atStart => exact ⟨24, 0, by omega, rfl, rfl, rfl, by decide, by omega, by omega⟩
  case round =>
    obtain ⟨k, R, hk, rfl, rfl, h1, h2, h3, h4⟩ := hrel
    match k, hk with
    | 0, hk =>
      rw [show (2 ^ 0 / 2 : Nat) = 0 from rfl]
      go_wp2
      go_ret
      exact ⟨R, rfl, ⟨h3, h4⟩, rfl⟩
    | j + 1, hk =>
      have e0 : 2 ^ (j + 1) / 2 = 2 ^ j := by rw [Nat.pow_succ]; omega
      have e1 : 2 ^ (j + 1) = 2 * 2 ^ j := by rw [Nat.pow_succ]; omega
      have hor := or_step R j h1
      have hdiv : (R + 2 ^ j) % 2 ^ j = 0 := by
        obtain ⟨m, rfl⟩ := Nat.dvd_of_mod_eq_zero h1
        rw [e1, Nat.mul_right_comm, ← Nat.add_one_mul]; exact Nat.mul_mod_left _ _
      have hdiv0 : R % 2 ^ j = 0 := by
        obtain ⟨m, rfl⟩ := Nat.dvd_of_mod_eq_zero h1
        rw [e1, Nat.mul_right_comm]; exact Nat.mul_mod_left _ _
      have hpos : 0 < 2 ^ j := Nat.two_pow_pos j
      rw [e0]
      rw [e1] at h2 h4
      clear e1 h1
      obtain ⟨B, hB⟩ : ∃ B : Nat, B = 2 ^ j := ⟨_, rfl⟩
      obtain ⟨M, hM⟩ : ∃ M : Nat, M = R + B := ⟨_, rfl⟩
      have HB : Hid (B = 2 ^ j) := hB
      rw [← hB] at hor hdiv hdiv0 hpos h2 h4 e0 ⊢
      clear hB
      have hM1 : M ≤ 16777216 := by omega
      have hMM : M * M ≤ 16777216 * 16777216 := Nat.mul_le_mul hM1 hM1
      have hMI : (M : Int) * M = ((M * M : Nat) : Int) := by simp
      have hbits : bits .or .i64 (R : Int) (B : Int) = (M : Int) := by rw [i64_or_nat R B (by omega) (by omega), hor, hM]
      have hP : 0 ≤ (M : Int) * M := by omega
      have hQ : (M : Int) * M ≤ 281474976710656 := by omega
      have HE : Hid (2 ^ (j + 1) / 2 = B) := e0
      have HM : Hid (M = R + B) := hM
      have HD : Hid ((R + B) % B = 0) := hdiv
      have HD0 : Hid (R % B = 0) := hdiv0
      have HI : Hid ((M : Int) * M = ((M * M : Nat) : Int)) := hMI
      clear hor hdiv hdiv0 e0 hM hMI
      by_cases hle : (M : Int) * M ≤ n
      · go_wp2
        go_round
        case rel =>
          have := HI.out; have hm := HM.out
          refine ⟨j, M, by omega, rfl, ?_, ?_, ?_, by omega, ?_⟩
          · rw [← HB.out]; go_num
          · rw [← HB.out, hm]; exact HD.out
          · rw [← HB.out]; omega
          · rw [← HB.out, hm]; rw [show R + B + B = R + 2 * B by omega]; exact h4
        case measure => simp [intOf]; omega
      · go_wp2
        go_round
        case rel =>
          have := HI.out; have hm := HM.out
          refine ⟨j, R, by omega, rfl, ?_, ?_, ?_, h3, ?_⟩
          · rw [← HB.out]; go_num
          · rw [← HB.out]; exact HD0.out
          · rw [← HB.out]; omega
          · rw [← HB.out, ← hm]; omega
        case measure => simp [intOf]; omega

set_option maxHeartbeats 400000 in
theorem rroot_ok (n : Nat) (w : World) (hn : n ≤ 2147483648) :
    Calls Try.prog 40 #[.int .i64 n] w fun e w' => ∃ q : Nat, e = .returned (.tuple #[.int .i64 q, .int .i64 0]) ∧ IsRoot (65536 * n) q ∧ w = w' := by
  have D : ∀ w, Calls Try.prog 22 #[.int .i64 (n : Int)] w fun e w' => e = .returned (.bool true) ∧ w = w' := fun w => by have := may_ref n w; rwa [show mayB n = true by unfold mayB; simp; omega] at this
  go_enter Try.func40, Try.ntmps40
  go_wp2_with (go_at_call 22; refine (D _).mono ?_; rintro e w' ⟨rfl, rfl⟩)
  go_loop [4, 5] (fun l h => ∃ (L H : Nat), l = .int .i64 L ∧ h = .int .i64 H ∧ L < H ∧ H ≤ 16777216 ∧ L * L ≤ 65536 * n ∧ 65536 * n < H * H) (fun l h => (intOf h - intOf l).toNat)
  case atStart => exact ⟨0, 16777216, rfl, rfl, by omega, by omega, by omega, by omega⟩
  case round =>
    obtain ⟨L, H, rfl, rfl, h1, h2, h3, h4⟩ := hrel
    by_cases hgo : L + 1 < H
    · obtain ⟨M, hM⟩ : ∃ M : Nat, M = (L + H) / 2 := ⟨_, rfl⟩
      have hM1 : M ≤ 16777216 := by omega
      have hMM : M * M ≤ 16777216 * 16777216 := Nat.mul_le_mul hM1 hM1
      have hMI : (M : Int) * M = ((M * M : Nat) : Int) := by simp
      have hq : ((L : Int) + H) / 2 = M := by omega
      have hP : 0 ≤ (M : Int) * M := by omega
      have hQ : (M : Int) * M ≤ 281474976710656 := by omega
      have HI : Hid ((M : Int) * M = ((M * M : Nat) : Int)) := hMI
      have HM : Hid (M = (L + H) / 2) := hM
      clear hM hMI
      by_cases hle : (M : Int) * M ≤ n * 65536
      · go_wp2
        go_round
        case rel =>
          have := HI.out; have hm := HM.out
          exact ⟨M, H, by rw [hm]; go_num, rfl, by omega, h2, by omega, h4⟩
        case measure => simp [intOf]; omega
      · go_wp2
        go_round
        case rel =>
          have := HI.out; have hm := HM.out
          exact ⟨L, M, rfl, by rw [hm]; go_num, by omega, by omega, h3, by omega⟩
        case measure => simp [intOf]; omega
    · go_wp2
      go_ret2
      exact ⟨L, rfl, ⟨h3, by rw [show L + 1 = H by omega]; exact h4⟩, rfl⟩

theorem may_root {n q : Nat} (h : IsRoot (65536 * n) q) (hn : n ≤ 2147483648) (w : World) :
    Calls Try.prog 25 #[.int .i64 (q : Int)] w fun e w' => e = .returned (.bool true) ∧ w = w' := by
  have := may_any q w
  have hq : q ≤ 2147483648 := by
    rcases Nat.lt_or_ge 2147483648 q with c | c
    · have h1 := Nat.mul_le_mul (Nat.le_of_lt c) (Nat.le_of_lt c); have := h.1; omega
    · exact c
  rwa [show mayB q = true by unfold mayB; simp; omega] at this

theorem rroot_no (x : Int) (w : World) (h : mayB x = false) :
    Calls Try.prog 40 #[.int .i64 x] w fun e w' => e = .returned (.tuple #[.int .i64 0, .int .i64 10]) ∧ w = w' := by
  have D : ∀ w, Calls Try.prog 22 #[.int .i64 x] w fun e w' => e = .returned (.bool false) ∧ w = w' := fun w => by have := may_ref x w; rwa [h] at this
  clear h
  go_enter Try.func40, Try.ntmps40
  go_wp2_with (go_at_call 22; refine (D _).mono ?_; rintro e w' ⟨rfl, rfl⟩)
  go_ret2
  exact ⟨rfl, rfl⟩

theorem rroot_neg (x : Int) (w : World) (h : mayB x = true) (hx : x < 0) :
    Calls Try.prog 40 #[.int .i64 x] w fun e w' => e = .returned (.tuple #[.int .i64 0, .int .i64 1]) ∧ w = w' := by
  have D : ∀ w, Calls Try.prog 22 #[.int .i64 x] w fun e w' => e = .returned (.bool true) ∧ w = w' := fun w => by have := may_ref x w; rwa [h] at this
  clear h
  go_enter Try.func40, Try.ntmps40
  go_wp2_with (go_at_call 22; refine (D _).mono ?_; rintro e w' ⟨rfl, rfl⟩)
  go_ret2
  exact ⟨rfl, rfl⟩

theorem cells1 (w0 : World) (b : Nat) (hb : w0.heap.size = b) (x : Int) (t : TypeId) (j : Nat) (hj : j < [x].length) :
    (w0.alloc (.cells #[.int .i64 x] t)).cell? ⟨b, 0 + j, none⟩ = some (.int .i64 ([x].getD j 0)) := by
  rw [World.cell?_alloc_at _ _ _ _ hb.symm]
  match j, hj with
  | 0, _ => rfl

theorem all1 (x : Int) : [x].all mayB = mayB x := by simp

theorem root_neg (x : Int) (w : World) (h : mayB x = true) (hx : x < 0) :
    Calls Try.prog 43 #[.int .i64 x] w fun e w' => e = .returned (.tuple #[.int .i64 0, .int .i64 1]) ∧ Below w.heap.size w w' := by
  have D : ∀ w, Calls Try.prog 25 #[.int .i64 x] w fun e w' => e = .returned (.bool true) ∧ w = w' := fun w => by have := may_any x w; rwa [h] at this
  clear h
  go_enter Try.func43, Try.ntmps43
  go_wp2_with (go_at_call 25; refine (D _).mono ?_; rintro e w' ⟨rfl, rfl⟩)
  go_ret2
  exact ⟨rfl, below_a1 _ _⟩

theorem root_no (x : Int) (w : World) (h : mayB x = false) :
    Calls Try.prog 43 #[.int .i64 x] w fun e w' => e = .returned (.tuple #[.int .i64 0, .int .i64 10]) ∧ Below w.heap.size w w' := by
  have hmf : ∀ (fn : Fn) (first cap : Array Value) (w : World), (Instr.makeFunc fn first cap).run Try.prog w = .ok (.func fn first cap) w := fun _ _ _ _ => rfl
  have D : ∀ w, Calls Try.prog 25 #[.int .i64 x] w fun e w' => e = .returned (.bool false) ∧ w = w' := fun w => by have := may_any x w; rwa [h] at this
  have C := allMay_fixed (w.heap.size + 1) 0 1 1 [x] ((w.alloc (.cells #[.int .i64 x] 3)).alloc (.cells #[.int .i64 x] 3)) rfl (by decide) (fun j hj => cells1 _ _ (by simp) x _ j hj)
  rw [all1, h] at C
  clear h
  by_cases hx : x < 0
  all_goals
    go_enter Try.func43, Try.ntmps43
    go_wp2_with (first | (go_at_call 25; refine (D _).mono ?_; rintro e w' ⟨rfl, rfl⟩) | (go_at_call 74; refine C.mono ?_; rintro e w' ⟨rfl, rfl⟩) | go_in)
    go_ret2
    exact ⟨rfl, below_a2 _ _ _⟩

theorem root_ok (n : Nat) (w : World) (hn : n ≤ 2147483648) :
    Calls Try.prog 43 #[.int .i64 n] w fun e w' => ∃ q : Nat, e = .returned (.tuple #[.int .i64 q, .int .i64 0]) ∧ IsRoot (65536 * n) q ∧ Below w.heap.size w w' := by
  have hmf : ∀ (fn : Fn) (first cap : Array Value) (w : World), (Instr.makeFunc fn first cap).run Try.prog w = .ok (.func fn first cap) w := fun _ _ _ _ => rfl
  have hmay : mayB n = true := by unfold mayB; simp; omega
  have C := allMay_fixed (w.heap.size + 1) 0 1 1 [(n : Int)] ((w.alloc (.cells #[.int .i64 n] 3)).alloc (.cells #[.int .i64 n] 3)) rfl (by decide) (fun j hj => cells1 _ _ (by simp) n _ j hj)
  rw [all1, hmay] at C
  have F := fun w => floorRoot_any (65536 * n) w (by omega)
  rw [show ((65536 * n : Nat) : Int) = 65536 * (n : Int) by omega] at F
  clear hmay
  go_enter Try.func43, Try.ntmps43
  go_wp2_with (first | (go_at_call 74; refine C.mono ?_; rintro e w' ⟨rfl, rfl⟩) | (go_at_call 65; refine (F _).mono ?_; rintro e w' ⟨q, rfl, hroot, rfl⟩; have D : ∀ w, Calls Try.prog 25 #[.int .i64 (q : Int)] w (fun e w' => e = .returned (.bool true) ∧ w = w') := (fun w => may_root hroot hn w)) | (go_at_call 25; refine (D _).mono ?_; rintro e w' ⟨rfl, rfl⟩) | go_in)
  go_ret2
  exact ⟨_, rfl, hroot, below_a2 _ _ _⟩

end Go.Proofs.Ytkhafhdmcalhbaa

namespace Go.Proofs.Ytkhafhdmcalhbaa
open Go Go.RowKit
set_option linter.unusedVariables false
set_option linter.unusedSimpArgs false

theorem eqf1 {P : Program} (w : World) (d : Nat) (t : TypeId) (g : FuncId) {a b : Array TypeId} {c : Bool} (h : P.underlying t = some (.func a b c)) : (Op.equalIn (d + 1) t (.func (.func g) #[] #[]) .nilFunc).run P w = .ok false w := by
  simp [Op.equalIn, run_underlying h]
theorem eqf2 {P : Program} (w : World) (d : Nat) (t : TypeId) {a b : Array TypeId} {c : Bool} (h : P.underlying t = some (.func a b c)) : (Op.equalIn (d + 1) t .nilFunc .nilFunc).run P w = .ok true w := by
  simp [Op.equalIn, run_underlying h]
theorem neqf1 {P : Program} (w : World) (t : TypeId) (g : FuncId) {a b : Array TypeId} {c : Bool} (h : P.underlying t = some (.func a b c)) : (binOp .neq t (.func (.func g) #[] #[]) .nilFunc).run P w = .ok (.bool true) w := by
  simp only [binOp]
  simp [Op.equal, Op.maxDepth, eqf1 w 9999 t g h]
theorem neqf2 {P : Program} (w : World) (t : TypeId) {a b : Array TypeId} {c : Bool} (h : P.underlying t = some (.func a b c)) : (binOp .neq t .nilFunc .nilFunc).run P w = .ok (.bool false) w := by
  simp only [binOp]
  simp [Op.equal, Op.maxDepth, eqf2 w 9999 t h]
set_option maxRecDepth 100000 in
set_option maxHeartbeats 1000000 in
theorem result_fn (g : FuncId) (op : Int) (tk : Nat) (gr : Bool) (q : Nat) (nv : Value) (At : Option Addr) (k ct : Nat) (code : Int) (out L St ds : List Int) (w : World)
    (eg : ∀ args w, (callFunc g args).run Try.prog w = .ok (.enter g args) w)
    (hC : ∀ w1, Below w.heap.size w w1 → Calls Try.prog g #[.pointer (some ⟨q, 0, none⟩), .slice At k ct] w1 (Res q nv w1 code out L St ds)) :
    Calls Try.prog 27 #[.agg #[.int .i64 op, .int .i64 (tk : Nat), .bool gr, .nilFunc, .nilFunc, .func (.func g) #[] #[]], .pointer (some ⟨q, 0, none⟩), .slice At k ct] w (Res q nv w code out L St ds) := by
  have HC := Lib.hid hC
  clear hC
  have f0 := fun W => neqf2 (P := Try.prog) W 49 Try.underlying49
  have g0 := fun W => neqf1 (P := Try.prog) W 49 g Try.underlying49
  have f1 := fun W => neqf2 (P := Try.prog) W 50 Try.underlying50
  have g1 := fun W => neqf1 (P := Try.prog) W 50 g Try.underlying50
  have f2 := fun W => neqf2 (P := Try.prog) W 51 Try.underlying51
  have g2 := fun W => neqf1 (P := Try.prog) W 51 g Try.underlying51
  go_enter Try.func27, Try.ntmps27
  go_wp2_with (go_at_fn g; ((with_reducible refine (HC.out _ ((Below.refl _ _).alloc (Nat.le_refl _) _)).mono ?_); rintro e w1 h1; obtain ⟨A1, c1, rfl, hl1, hs1, hm1⟩ := h1))
  go_ret2
  exact ⟨A1, c1, rfl, hl1, hs1, (Mod.below ((Below.refl _ _).alloc (Nat.le_refl _) _)).trans hm1⟩
set_option maxRecDepth 100000 in
set_option maxHeartbeats 2000000 in
theorem result_1 (g : FuncId) (op : Int) (tk : Nat) (gr : Bool) (q : Nat) (nv : Value) (At : Option Addr) (ct : Nat) (a : Int) (x code : Int) (L St ds : List Int) (w : World)
    (eg : ∀ args w, (callFunc g args).run Try.prog w = .ok (.enter g args) w) (hs : Sk w q nv L St ds) (hL : Lists w w.heap.size At (intCells [a]))
    (hC : ∀ w1, Calls Try.prog g #[.int .i64 a] w1 fun e w' => e = .returned (.tuple #[.int .i64 x, .int .i64 code]) ∧ Below w1.heap.size w1 w') :
    Calls Try.prog 27 #[.agg #[.int .i64 op, .int .i64 (tk : Nat), .bool gr, .func (.func g) #[] #[], .nilFunc, .nilFunc], .pointer (some ⟨q, 0, none⟩), .slice At 1 ct] w (Res q nv w code [x] L St ds) := by
  have HC := Lib.hid hC
  have HS := Lib.hid hs
  clear hC hs
  obtain ⟨b0, o0, rfl, hbl, hce⟩ := hL.plain (by simp [intCells])
  obtain ⟨W1, hW1⟩ : ∃ W1, W1 = w.alloc (.cells #[.int .i64 op, .int .i64 (tk : Nat), .bool gr, .func (.func g) #[] #[], .nilFunc, .nilFunc] 53) := ⟨_, rfl⟩
  have K1 : Blk W1 w.heap.size 53 #[.int .i64 op, .int .i64 (tk : Nat), .bool gr, .func (.func g) #[] #[], .nilFunc, .nilFunc] := by rw [hW1]; exact Blk.new w _ _
  have B1 : Below w.heap.size w W1 := by rw [hW1]; exact (Below.refl _ _).alloc (Nat.le_refl _) _
  have s1 : W1.heap.size = w.heap.size + 1 := by rw [hW1]; simp
  have CF : ∀ V, Below W1.heap.size W1 V → V.cell? ⟨w.heap.size, 3, none⟩ = some (.func (.func g) #[] #[]) := fun V hV => ((K1.below hV).cell 3).trans (by rfl)
  have hce : ∀ (j : Nat) (u : Value), (intCells [a])[j]? = some u → w.cell? ⟨b0, o0 + j, none⟩ = some u := hce
  have Ca : ∀ V, Below W1.heap.size W1 V → V.cell? ⟨b0, o0, none⟩ = some (.int .i64 a) := fun V hV => (hV.cell (p := ⟨b0, o0, none⟩) (by simp; omega)).trans ((B1.cell (p := ⟨b0, o0, none⟩) (by simp; omega)).trans (hce 0 _ rfl))
  have HW := Lib.hid hW1
  have k3 := K1.cell 3; have k4 := K1.cell 4; have k5 := K1.cell 5
  simp only [List.getElem?_toArray, List.getElem?_cons_zero, List.getElem?_cons_succ] at k3 k4 k5
  have b0' : Below W1.heap.size W1 W1.drew := (Below.refl _ _).drew
  clear hL hce K1 hW1
  have f0 := fun W => neqf2 (P := Try.prog) W 49 Try.underlying49
  have g0 := fun W => neqf1 (P := Try.prog) W 49 g Try.underlying49
  have f1 := fun W => neqf2 (P := Try.prog) W 50 Try.underlying50
  have g1 := fun W => neqf1 (P := Try.prog) W 50 g Try.underlying50
  have f2 := fun W => neqf2 (P := Try.prog) W 51 Try.underlying51
  have g2 := fun W => neqf1 (P := Try.prog) W 51 g Try.underlying51
  go_enter Try.func27, Try.ntmps27
  go_wp2
  rw [← HW.out]
  have hI : Below W1.heap.size W1 W1.drew := b0'
  refine wp_region_chain (fun V => Below W1.heap.size W1 V) [(0, false), (1, false), (2, false), (3, false), (4, false), (5, true), (6, false), (7, false), (8, false), (9, false), (10, false)] (by kernel_rfl) (by kernel_rfl) hI ?_
  repeat (first
    | (refine ChainL.skip (o := ?_) ?_ ?_ ?_; rotate_left; (focus (first | (simp only [List.getElem?_toArray, List.getElem?_cons_succ, List.getElem?_cons_zero]; with_reducible rfl) | (simp only [List.getElem?_toArray, List.getElem?_cons_zero]; with_reducible rfl))); (focus rfl); simp only [Act.put, List.setIfInBounds_toArray, List.set_cons_zero, List.set_cons_succ])
    | (refine ChainL.val (o := ?_) (v := ?_) ?_ ?_ ?_ ?_ ?_; rotate_left 2; (focus (first | (simp only [List.getElem?_toArray, List.getElem?_cons_succ, List.getElem?_cons_zero]; with_reducible rfl) | (simp only [List.getElem?_toArray, List.getElem?_cons_zero]; with_reducible rfl))); (focus (intro _ _ h; cases h)); (focus rfl); (focus (intro w' hJ; have yf := CF _ hJ; have ya := Ca _ hJ; go_simp <;> with_reducible rfl)); simp only [Act.put, List.setIfInBounds_toArray, List.set_cons_zero, List.set_cons_succ]))
  refine ChainL.call (o := ?_) (f := ?_) (args := ?_) ?_ ?_ ?_ ?_
  rotate_left 3
  (focus (first | (simp only [List.getElem?_toArray, List.getElem?_cons_succ, List.getElem?_cons_zero]; with_reducible rfl) | (simp only [List.getElem?_toArray, List.getElem?_cons_zero]; with_reducible rfl)))
  (focus rfl)
  (focus (go_simp; first | exact eg _ _ | (constructor <;> with_reducible rfl)))
  refine (HC.out _).mono ?_
  rintro e w2 ⟨rfl, b2⟩
  refine ⟨_, rfl, hI.trans (b2.mono hI.size), ?_⟩
  simp only [Act.put, List.setIfInBounds_toArray, List.set_cons_zero, List.set_cons_succ]
  repeat (first
    | (refine ChainL.skip (o := ?_) ?_ ?_ ?_; rotate_left; (focus (first | (simp only [List.getElem?_toArray, List.getElem?_cons_succ, List.getElem?_cons_zero]; with_reducible rfl) | (simp only [List.getElem?_toArray, List.getElem?_cons_zero]; with_reducible rfl))); (focus rfl); simp only [Act.put, List.setIfInBounds_toArray, List.set_cons_zero, List.set_cons_succ])
    | (refine ChainL.val (o := ?_) (v := ?_) ?_ ?_ ?_ ?_ ?_; rotate_left 2; (focus (first | (simp only [List.getElem?_toArray, List.getElem?_cons_succ, List.getElem?_cons_zero]; with_reducible rfl) | (simp only [List.getElem?_toArray, List.getElem?_cons_zero]; with_reducible rfl))); (focus (intro _ _ h; cases h)); (focus rfl); (focus (intro w' hJ; skip; go_simp <;> with_reducible rfl)); simp only [Act.put, List.setIfInBounds_toArray, List.set_cons_zero, List.set_cons_succ]))
  refine ChainL.nil ?_
  have b3 : Below w.heap.size w w2 := B1.trans ((hI.trans (b2.mono hI.size)).mono B1.size)
  clear hI
  go_wp2
  go_ret2
  exact ⟨some ⟨w2.heap.size, 0, none⟩, 1, rfl, (lists_row w2 [.int .i64 x] 3).more (by simp), (HS.out.below b3).below ((Below.refl _ _).alloc (Nat.le_refl _) _), (Mod.below b3).trans (Mod.below ((Below.refl _ _).alloc (Nat.le_refl _) _))⟩
set_option maxRecDepth 100000 in
set_option maxHeartbeats 2000000 in
theorem result_2 (g : FuncId) (op : Int) (tk : Nat) (gr : Bool) (q : Nat) (nv : Value) (At : Option Addr) (ct : Nat) (a b : Int) (x code : Int) (L St ds : List Int) (w : World)
    (eg : ∀ args w, (callFunc g args).run Try.prog w = .ok (.enter g args) w) (hs : Sk w q nv L St ds) (hL : Lists w w.heap.size At (intCells [a, b]))
    (hC : ∀ w1, Calls Try.prog g #[.int .i64 a, .int .i64 b] w1 fun e w' => e = .returned (.tuple #[.int .i64 x, .int .i64 code]) ∧ Below w1.heap.size w1 w') :
    Calls Try.prog 27 #[.agg #[.int .i64 op, .int .i64 (tk : Nat), .bool gr, .nilFunc, .func (.func g) #[] #[], .nilFunc], .pointer (some ⟨q, 0, none⟩), .slice At 2 ct] w (Res q nv w code [x] L St ds) := by
  have HC := Lib.hid hC
  have HS := Lib.hid hs
  clear hC hs
  obtain ⟨b0, o0, rfl, hbl, hce⟩ := hL.plain (by simp [intCells])
  obtain ⟨W1, hW1⟩ : ∃ W1, W1 = w.alloc (.cells #[.int .i64 op, .int .i64 (tk : Nat), .bool gr, .nilFunc, .func (.func g) #[] #[], .nilFunc] 53) := ⟨_, rfl⟩
  have K1 : Blk W1 w.heap.size 53 #[.int .i64 op, .int .i64 (tk : Nat), .bool gr, .nilFunc, .func (.func g) #[] #[], .nilFunc] := by rw [hW1]; exact Blk.new w _ _
  have B1 : Below w.heap.size w W1 := by rw [hW1]; exact (Below.refl _ _).alloc (Nat.le_refl _) _
  have s1 : W1.heap.size = w.heap.size + 1 := by rw [hW1]; simp
  have CF : ∀ V, Below W1.heap.size W1 V → V.cell? ⟨w.heap.size, 4, none⟩ = some (.func (.func g) #[] #[]) := fun V hV => ((K1.below hV).cell 4).trans (by rfl)
  have hce : ∀ (j : Nat) (u : Value), (intCells [a, b])[j]? = some u → w.cell? ⟨b0, o0 + j, none⟩ = some u := hce
  have Ca : ∀ V, Below W1.heap.size W1 V → V.cell? ⟨b0, o0, none⟩ = some (.int .i64 a) := fun V hV => (hV.cell (p := ⟨b0, o0, none⟩) (by simp; omega)).trans ((B1.cell (p := ⟨b0, o0, none⟩) (by simp; omega)).trans (hce 0 _ rfl))
  have Cb : ∀ V, Below W1.heap.size W1 V → V.cell? ⟨b0, o0 + 1, none⟩ = some (.int .i64 b) := fun V hV => (hV.cell (p := ⟨b0, o0 + 1, none⟩) (by simp; omega)).trans ((B1.cell (p := ⟨b0, o0 + 1, none⟩) (by simp; omega)).trans (hce 1 _ rfl))
  have HW := Lib.hid hW1
  have k3 := K1.cell 3; have k4 := K1.cell 4; have k5 := K1.cell 5
  simp only [List.getElem?_toArray, List.getElem?_cons_zero, List.getElem?_cons_succ] at k3 k4 k5
  have b0' : Below W1.heap.size W1 W1.drew := (Below.refl _ _).drew
  clear hL hce K1 hW1
  have f0 := fun W => neqf2 (P := Try.prog) W 49 Try.underlying49
  have g0 := fun W => neqf1 (P := Try.prog) W 49 g Try.underlying49
  have f1 := fun W => neqf2 (P := Try.prog) W 50 Try.underlying50
  have g1 := fun W => neqf1 (P := Try.prog) W 50 g Try.underlying50
  have f2 := fun W => neqf2 (P := Try.prog) W 51 Try.underlying51
  have g2 := fun W => neqf1 (P := Try.prog) W 51 g Try.underlying51
  go_enter Try.func27, Try.ntmps27
  go_wp2
  rw [← HW.out]
  have hI : Below W1.heap.size W1 W1.drew := b0'
  refine wp_region_chain (fun V => Below W1.heap.size W1 V) [(0, false), (1, false), (2, false), (3, false), (4, false), (5, false), (6, false), (7, false), (8, true), (9, false), (10, false), (11, false), (12, false), (13, false)] (by kernel_rfl) (by kernel_rfl) hI ?_
  repeat (first
    | (refine ChainL.skip (o := ?_) ?_ ?_ ?_; rotate_left; (focus (first | (simp only [List.getElem?_toArray, List.getElem?_cons_succ, List.getElem?_cons_zero]; with_reducible rfl) | (simp only [List.getElem?_toArray, List.getElem?_cons_zero]; with_reducible rfl))); (focus rfl); simp only [Act.put, List.setIfInBounds_toArray, List.set_cons_zero, List.set_cons_succ])
    | (refine ChainL.val (o := ?_) (v := ?_) ?_ ?_ ?_ ?_ ?_; rotate_left 2; (focus (first | (simp only [List.getElem?_toArray, List.getElem?_cons_succ, List.getElem?_cons_zero]; with_reducible rfl) | (simp only [List.getElem?_toArray, List.getElem?_cons_zero]; with_reducible rfl))); (focus (intro _ _ h; cases h)); (focus rfl); (focus (intro w' hJ; have yf := CF _ hJ; have ya := Ca _ hJ; have yb := Cb _ hJ; go_simp <;> with_reducible rfl)); simp only [Act.put, List.setIfInBounds_toArray, List.set_cons_zero, List.set_cons_succ]))
  refine ChainL.call (o := ?_) (f := ?_) (args := ?_) ?_ ?_ ?_ ?_
  rotate_left 3
  (focus (first | (simp only [List.getElem?_toArray, List.getElem?_cons_succ, List.getElem?_cons_zero]; with_reducible rfl) | (simp only [List.getElem?_toArray, List.getElem?_cons_zero]; with_reducible rfl)))
  (focus rfl)
  (focus (go_simp; first | exact eg _ _ | (constructor <;> with_reducible rfl)))
  refine (HC.out _).mono ?_
  rintro e w2 ⟨rfl, b2⟩
  refine ⟨_, rfl, hI.trans (b2.mono hI.size), ?_⟩
  simp only [Act.put, List.setIfInBounds_toArray, List.set_cons_zero, List.set_cons_succ]
  repeat (first
    | (refine ChainL.skip (o := ?_) ?_ ?_ ?_; rotate_left; (focus (first | (simp only [List.getElem?_toArray, List.getElem?_cons_succ, List.getElem?_cons_zero]; with_reducible rfl) | (simp only [List.getElem?_toArray, List.getElem?_cons_zero]; with_reducible rfl))); (focus rfl); simp only [Act.put, List.setIfInBounds_toArray, List.set_cons_zero, List.set_cons_succ])
    | (refine ChainL.val (o := ?_) (v := ?_) ?_ ?_ ?_ ?_ ?_; rotate_left 2; (focus (first | (simp only [List.getElem?_toArray, List.getElem?_cons_succ, List.getElem?_cons_zero]; with_reducible rfl) | (simp only [List.getElem?_toArray, List.getElem?_cons_zero]; with_reducible rfl))); (focus (intro _ _ h; cases h)); (focus rfl); (focus (intro w' hJ; skip; go_simp <;> with_reducible rfl)); simp only [Act.put, List.setIfInBounds_toArray, List.set_cons_zero, List.set_cons_succ]))
  refine ChainL.nil ?_
  have b3 : Below w.heap.size w w2 := B1.trans ((hI.trans (b2.mono hI.size)).mono B1.size)
  clear hI
  go_wp2
  go_ret2
  exact ⟨some ⟨w2.heap.size, 0, none⟩, 1, rfl, (lists_row w2 [.int .i64 x] 3).more (by simp), (HS.out.below b3).below ((Below.refl _ _).alloc (Nat.le_refl _) _), (Mod.below b3).trans (Mod.below ((Below.refl _ _).alloc (Nat.le_refl _) _))⟩
end Go.Proofs.Ytkhafhdmcalhbaa

namespace Go.Proofs.Ytkhafhdmcalhbaa
open Go Go.RowKit
set_option linter.unusedVariables false
set_option linter.unusedSimpArgs false
def flagV (b : Bool) : Int := if b then 65536 else 0
set_option maxRecDepth 100000 in
set_option maxHeartbeats 1000000 in
theorem truth_any (b : Bool) (w : World) : Calls Try.prog 66 #[.bool b] w fun e w' => e = .returned (.tuple #[.int .i64 (flagV b), .int .i64 0]) ∧ w = w' := by
  cases b
  all_goals
    go_enter Try.func66, Try.ntmps66
    go_wp2
    go_ret2
    exact ⟨rfl, rfl⟩
set_option maxRecDepth 100000 in
set_option maxHeartbeats 1000000 in
theorem size_any (a : Int) (ha : mayB a = true) (w : World) : Calls Try.prog 41 #[.int .i64 a] w fun e w' => e = .returned (.tuple #[.int .i64 (max a (-a)), .int .i64 0]) ∧ Below w.heap.size w w' := by
  have a1 := mayB_lo ha; have a2 := mayB_hi ha
  clear ha
  have e1 : wrap64 (-a) = -a := by simp [wrap64]; omega
  go_enter Try.func41, Try.ntmps41
  go_wp2
  all_goals
    go_ret2
    exact ⟨by first | rfl | (simp; omega), Below.refl _ _⟩
set_option maxRecDepth 100000 in
set_option maxHeartbeats 1000000 in
theorem turned_any (a : Int) (ha : mayB a = true) (w : World) : Calls Try.prog 42 #[.int .i64 a] w fun e w' => e = .returned (.tuple #[.int .i64 (-a), .int .i64 0]) ∧ Below w.heap.size w w' := by
  have a1 := mayB_lo ha; have a2 := mayB_hi ha
  clear ha
  have e1 : wrap64 (-a) = -a := by simp [wrap64]; omega
  go_enter Try.func42, Try.ntmps42
  go_wp2
  go_ret2
  exact ⟨rfl, Below.refl _ _⟩
set_option maxRecDepth 100000 in
set_option maxHeartbeats 1000000 in
theorem isZero_any (a : Int) (ha : mayB a = true) (w : World) : Calls Try.prog 44 #[.int .i64 a] w fun e w' => e = .returned (.tuple #[.int .i64 (flagV (a == 0)), .int .i64 0]) ∧ Below w.heap.size w w' := by
  have a1 := mayB_lo ha; have a2 := mayB_hi ha
  clear ha
  have e1 : decide (a = 0) = (a == 0) := rfl
  go_enter Try.func44, Try.ntmps44
  go_wp2_with (go_at_call 66; ((with_reducible refine (truth_any _ _).mono ?_); rintro e w1 ⟨rfl, rfl⟩))
  go_ret2
  exact ⟨by first | rfl | simp, Below.refl _ _⟩
set_option maxRecDepth 100000 in
set_option maxHeartbeats 1000000 in
theorem both_any (a b : Int) (ha : mayB a = true) (hb : mayB b = true) (w : World) : Calls Try.prog 49 #[.int .i64 a, .int .i64 b] w fun e w' => e = .returned (.tuple #[.int .i64 (flagV (a != 0 && b != 0)), .int .i64 0]) ∧ Below w.heap.size w w' := by
  have a1 := mayB_lo ha; have a2 := mayB_hi ha; have b1 := mayB_lo hb; have b2 := mayB_hi hb
  clear ha hb
  by_cases h1 : a = 0
  · have ha : (a != 0) = false := by simp [h1]
    have ha2 : decide (a ≠ 0) = false := by simp [h1]
    rw [ha]
    clear h1
    go_enter Try.func49, Try.ntmps49
    go_wp2_with (go_at_call 66; ((with_reducible refine (truth_any _ _).mono ?_); rintro e w1 ⟨rfl, rfl⟩))
    go_ret2
    exact ⟨by first | rfl | simp, Below.refl _ _⟩
  · have ha : (a != 0) = true := by simp [h1]
    have ha2 : decide (a ≠ 0) = true := by simp [h1]
    rw [ha]
    clear h1
    go_enter Try.func49, Try.ntmps49
    go_wp2_with (go_at_call 66; ((with_reducible refine (truth_any _ _).mono ?_); rintro e w1 ⟨rfl, rfl⟩))
    go_ret2
    exact ⟨by first | rfl | simp, Below.refl _ _⟩
set_option maxRecDepth 100000 in
set_option maxHeartbeats 1000000 in
theorem either_any (a b : Int) (ha : mayB a = true) (hb : mayB b = true) (w : World) : Calls Try.prog 50 #[.int .i64 a, .int .i64 b] w fun e w' => e = .returned (.tuple #[.int .i64 (flagV (a != 0 || b != 0)), .int .i64 0]) ∧ Below w.heap.size w w' := by
  have a1 := mayB_lo ha; have a2 := mayB_hi ha; have b1 := mayB_lo hb; have b2 := mayB_hi hb
  clear ha hb
  by_cases h1 : a = 0
  · have ha : (a != 0) = false := by simp [h1]
    have ha2 : decide (a ≠ 0) = false := by simp [h1]
    rw [ha]
    clear h1
    go_enter Try.func50, Try.ntmps50
    go_wp2_with (go_at_call 66; ((with_reducible refine (truth_any _ _).mono ?_); rintro e w1 ⟨rfl, rfl⟩))
    go_ret2
    exact ⟨by first | rfl | simp, Below.refl _ _⟩
  · have ha : (a != 0) = true := by simp [h1]
    have ha2 : decide (a ≠ 0) = true := by simp [h1]
    rw [ha]
    clear h1
    go_enter Try.func50, Try.ntmps50
    go_wp2_with (go_at_call 66; ((with_reducible refine (truth_any _ _).mono ?_); rintro e w1 ⟨rfl, rfl⟩))
    go_ret2
    exact ⟨by first | rfl | simp, Below.refl _ _⟩
set_option maxRecDepth 100000 in
set_option maxHeartbeats 1000000 in
theorem same_any (a b : Int) (ha : mayB a = true) (hb : mayB b = true) (w : World) : Calls Try.prog 51 #[.int .i64 a, .int .i64 b] w fun e w' => e = .returned (.tuple #[.int .i64 (flagV (a == b)), .int .i64 0]) ∧ Below w.heap.size w w' := by
  have a1 := mayB_lo ha; have a2 := mayB_hi ha; have b1 := mayB_lo hb; have b2 := mayB_hi hb
  clear ha hb
  go_enter Try.func51, Try.ntmps51
  go_wp2_with (go_at_call 66; ((with_reducible refine (truth_any _ _).mono ?_); rintro e w1 ⟨rfl, rfl⟩))
  go_ret2
  exact ⟨by first | rfl | simp, Below.refl _ _⟩
end Go.Proofs.Ytkhafhdmcalhbaa

namespace Go.Proofs.Ytkhafhdmcalhbaa
open Go Go.RowKit
set_option linter.unusedVariables false
set_option linter.unusedSimpArgs false

theorem Sk.setSt {w : World} {q : Nat} {nv : Value} {L St ds : List Int} (h : Sk w q nv L St ds) (i : Nat) (hi : i < 32) (x : Int) (hx : mayB x = true) : Sk (w.setCell ⟨q, 1 + i, none⟩ (.int .i64 x)) q nv L (St.set i x) ds ∧ Mod w (w.setCell ⟨q, 1 + i, none⟩ (.int .i64 x)) q nv nv := by
  obtain ⟨A, c, hb, hls, hc⟩ := h.blk
  have o1 : Only w (w.setCell ⟨q, 1 + i, none⟩ (.int .i64 x)) [q] := (Only.refl _ _).set (.inl (by simp)) _
  have hs := sk_seti nv St (.slice A ds.length c) i (by rw [h.st]; exact hi) x
  refine ⟨⟨⟨A, c, hs ▸ hb.set (1 + i) _, lists_lt hls (Nat.le_of_lt h.lt) o1 (fun b hb => by simp at hb; omega), hc⟩, own_only h.own o1 (fun b hbm e => by simp at e; subst e; exact h.ne hbm), by rw [List.length_set]; exact h.st, h.len, h.may, fun y hy => ?_⟩, o1.more (fun b hb => .inl (by simp at hb; simp [hb])), fun b hb => .inl hb⟩
  rcases List.mem_or_eq_of_mem_set hy with h1 | h1
  · exact h.mst y h1
  · exact h1 ▸ hx
theorem Sk.setDs {w : World} {q : Nat} {nv : Value} {L St ds : List Int} (h : Sk w q nv L St ds) (A : Option Addr) (c : Nat) (r : List Int) (hr : Lists w q A (intCells r)) (hc : r.length ≤ c) : Sk (w.setCell ⟨q, 33, none⟩ (.slice A r.length c)) q nv L St r ∧ Mod w (w.setCell ⟨q, 33, none⟩ (.slice A r.length c)) q nv nv := by
  obtain ⟨A', c', hb, hls, hc'⟩ := h.blk
  have o1 : Only w (w.setCell ⟨q, 33, none⟩ (.slice A r.length c)) [q] := (Only.refl _ _).set (.inl (by simp)) _
  have hs := sk_set33 nv (.slice A r.length c) St (.slice A' ds.length c') h.st
  exact ⟨⟨⟨A, c, hs ▸ hb.set 33 _, lists_lt hr (Nat.le_of_lt h.lt) o1 (fun b hb => by simp at hb; omega), hc⟩, own_only h.own o1 (fun b hbm e => by simp at e; subst e; exact h.ne hbm), h.st, h.len, h.may, h.mst⟩, o1.more (fun b hb => .inl (by simp at hb; simp [hb])), fun b hb => .inl hb⟩
theorem Sk.setN {w : World} {q g n cap : Nat} {L St ds : List Int} (h : Sk w q (.slice (some ⟨g, 0, none⟩) n cap) L St ds) (o : Nat) (x : Int) (hx : mayB x = true) : Sk (w.setCell ⟨g, o, none⟩ (.int .i64 x)) q (.slice (some ⟨g, 0, none⟩) n cap) (L.set o x) St ds ∧ Mod w (w.setCell ⟨g, o, none⟩ (.int .i64 x)) q (.slice (some ⟨g, 0, none⟩) n cap) (.slice (some ⟨g, 0, none⟩) n cap) := by
  obtain ⟨A, c, hb, hls, hc⟩ := h.blk
  have hg : g ∈ Go.Proofs.Ytkhafhdmcalhbaa.blk (.slice (some ⟨g, 0, none⟩) n cap) := by simp [Go.Proofs.Ytkhafhdmcalhbaa.blk, Value.ownBlock]
  have o1 : Only w (w.setCell ⟨g, o, none⟩ (.int .i64 x)) (Go.Proofs.Ytkhafhdmcalhbaa.blk (.slice (some ⟨g, 0, none⟩) n cap)) := (Only.refl _ _).set (.inl hg) _
  have hlow := own_lowS h.own
  have hown := h.own
  have hn : n = L.length := by rcases hown.2 with ⟨h1, _⟩ | ⟨_, _, _, h1, _⟩ <;> cases h1; rfl
  subst hn
  have own2 := own_setS hown o (.int .i64 x)
  refine ⟨⟨⟨A, c, hb.only o1 h.ne, lists_lt hls (Nat.le_of_lt h.lt) o1 hlow, hc⟩, ?_, h.st, by rw [List.length_set]; exact h.len, fun y hy => ?_, h.mst⟩, o1.more (fun b hb => .inl (by simp [hb])), fun b hb => .inl hb⟩
  · rw [List.length_set, show intCells (L.set o x) = (intCells L).set o (.int .i64 x) by simp [intCells]]
    exact own2
  · rcases List.mem_or_eq_of_mem_set hy with h1 | h1
    · exact h.may y h1
    · exact h1 ▸ hx
set_option maxRecDepth 100000 in
set_option maxHeartbeats 1000000 in
theorem drop_any (q : Nat) (nv : Value) (At : Option Addr) (k ct : Nat) (L St ds : List Int) (w : World) (hs : Sk w q nv L St ds) :
    Calls Try.prog 52 #[.pointer (some ⟨q, 0, none⟩), .slice At k ct] w (Res q nv w 0 [] L St ds) := by
  have HS := Lib.hid hs
  clear hs
  go_enter Try.func52, Try.ntmps52
  go_wp2
  go_ret2
  exact ⟨none, 0, rfl, Lists.empty _ _ _, HS.out, Mod.refl _ _ _⟩
set_option maxRecDepth 100000 in
set_option maxHeartbeats 2000000 in
theorem double_any (q : Nat) (nv : Value) (At : Option Addr) (ct : Nat) (a : Int) (L St ds : List Int) (w : World) (hs : Sk w q nv L St ds) (hL : Lists w w.heap.size At (intCells [a])) :
    Calls Try.prog 53 #[.pointer (some ⟨q, 0, none⟩), .slice At 1 ct] w (Res q nv w 0 [a, a] L St ds) := by
  have HS := Lib.hid hs
  obtain ⟨b0, o0, rfl, hbl, hce⟩ := hL.plain (by simp [intCells])
  have Ca : ∀ V, Below w.heap.size w V → V.cell? ⟨b0, o0, none⟩ = some (.int .i64 a) := fun V hV => (hV.cell (p := ⟨b0, o0, none⟩) (by simp; omega)).trans (hce 0 _ rfl)
  have ya := Ca w (Below.refl _ _)
  clear hs hL hce hbl
  go_enter Try.func53, Try.ntmps53
  go_wp2
  have hI : Below w.heap.size w w.drew := (Below.refl _ _).drew
  refine wp_region_chain (fun V => Below w.heap.size w V) [(0, false), (1, false), (2, false), (3, false), (4, false), (5, false), (6, true), (7, false), (8, false)] (by kernel_rfl) (by kernel_rfl) hI ?_
  repeat (first
    | (refine ChainL.skip (o := ?_) ?_ ?_ ?_; rotate_left; (focus (first | (simp only [List.getElem?_toArray, List.getElem?_cons_succ, List.getElem?_cons_zero]; with_reducible rfl) | (simp only [List.getElem?_toArray, List.getElem?_cons_zero]; with_reducible rfl))); (focus rfl); simp only [Act.put, List.setIfInBounds_toArray, List.set_cons_zero, List.set_cons_succ])
    | (refine ChainL.val (o := ?_) (v := ?_) ?_ ?_ ?_ ?_ ?_; rotate_left 2; (focus (first | (simp only [List.getElem?_toArray, List.getElem?_cons_succ, List.getElem?_cons_zero]; with_reducible rfl) | (simp only [List.getElem?_toArray, List.getElem?_cons_zero]; with_reducible rfl))); (focus (intro _ _ h; cases h)); (focus rfl); (focus (intro w' hJ; have ya := Ca _ hJ; go_simp <;> with_reducible rfl)); simp only [Act.put, List.setIfInBounds_toArray, List.set_cons_zero, List.set_cons_succ]))
  refine ChainL.does (o := ?_) (v := ?_) (w1 := ?_) ?_ ?_ ?_ ?_ ?_
  rotate_left 3
  (focus (first | (simp only [List.getElem?_toArray, List.getElem?_cons_succ, List.getElem?_cons_zero]; with_reducible rfl) | (simp only [List.getElem?_toArray, List.getElem?_cons_zero]; with_reducible rfl)))
  (focus rfl)
  (focus (go_simp; (constructor <;> with_reducible rfl)))
  (focus (exact hI.alloc (by simp) _))
  simp only [Act.put, List.setIfInBounds_toArray, List.set_cons_zero, List.set_cons_succ]
  repeat (first
    | (refine ChainL.skip (o := ?_) ?_ ?_ ?_; rotate_left; (focus (first | (simp only [List.getElem?_toArray, List.getElem?_cons_succ, List.getElem?_cons_zero]; with_reducible rfl) | (simp only [List.getElem?_toArray, List.getElem?_cons_zero]; with_reducible rfl))); (focus rfl); simp only [Act.put, List.setIfInBounds_toArray, List.set_cons_zero, List.set_cons_succ])
    | (refine ChainL.val (o := ?_) (v := ?_) ?_ ?_ ?_ ?_ ?_; rotate_left 2; (focus (first | (simp only [List.getElem?_toArray, List.getElem?_cons_succ, List.getElem?_cons_zero]; with_reducible rfl) | (simp only [List.getElem?_toArray, List.getElem?_cons_zero]; with_reducible rfl))); (focus (intro _ _ h; cases h)); (focus rfl); (focus (intro w' hJ; skip; go_simp <;> with_reducible rfl)); simp only [Act.put, List.setIfInBounds_toArray, List.set_cons_zero, List.set_cons_succ]))
  refine ChainL.nil ?_
  clear hI
  go_wp2
  go_ret2
  exact ⟨some ⟨w.heap.size, 0, none⟩, 2, rfl, (lists_row w.drew [.int .i64 a, .int .i64 a] 3).more (by simp), (HS.out.below (Below.refl _ _).drew).below ((Below.refl _ _).alloc (Nat.le_refl _) _), (Mod.below (Below.refl _ _).drew).trans (Mod.below ((Below.refl _ _).alloc (Nat.le_refl _) _))⟩
set_option maxRecDepth 100000 in
set_option maxHeartbeats 2000000 in
theorem exchange_any (q : Nat) (nv : Value) (At : Option Addr) (ct : Nat) (a b : Int) (L St ds : List Int) (w : World) (hs : Sk w q nv L St ds) (hL : Lists w w.heap.size At (intCells [a, b])) :
    Calls Try.prog 54 #[.pointer (some ⟨q, 0, none⟩), .slice At 2 ct] w (Res q nv w 0 [b, a] L St ds) := by
  have HS := Lib.hid hs
  obtain ⟨b0, o0, rfl, hbl, hce⟩ := hL.plain (by simp [intCells])
  have Ca : ∀ V, Below w.heap.size w V → V.cell? ⟨b0, o0, none⟩ = some (.int .i64 a) := fun V hV => (hV.cell (p := ⟨b0, o0, none⟩) (by simp; omega)).trans (hce 0 _ rfl)
  have ya := Ca w (Below.refl _ _)
  have Cb : ∀ V, Below w.heap.size w V → V.cell? ⟨b0, o0 + 1, none⟩ = some (.int .i64 b) := fun V hV => (hV.cell (p := ⟨b0, o0 + 1, none⟩) (by simp; omega)).trans (hce 1 _ rfl)
  have yb := Cb w (Below.refl _ _)
  clear hs hL hce hbl
  go_enter Try.func54, Try.ntmps54
  go_wp2
  have hI : Below w.heap.size w w.drew := (Below.refl _ _).drew
  refine wp_region_chain (fun V => Below w.heap.size w V) [(0, false), (1, false), (2, false), (3, false), (4, false), (5, false), (6, true), (7, false), (8, false)] (by kernel_rfl) (by kernel_rfl) hI ?_
  repeat (first
    | (refine ChainL.skip (o := ?_) ?_ ?_ ?_; rotate_left; (focus (first | (simp only [List.getElem?_toArray, List.getElem?_cons_succ, List.getElem?_cons_zero]; with_reducible rfl) | (simp only [List.getElem?_toArray, List.getElem?_cons_zero]; with_reducible rfl))); (focus rfl); simp only [Act.put, List.setIfInBounds_toArray, List.set_cons_zero, List.set_cons_succ])
    | (refine ChainL.val (o := ?_) (v := ?_) ?_ ?_ ?_ ?_ ?_; rotate_left 2; (focus (first | (simp only [List.getElem?_toArray, List.getElem?_cons_succ, List.getElem?_cons_zero]; with_reducible rfl) | (simp only [List.getElem?_toArray, List.getElem?_cons_zero]; with_reducible rfl))); (focus (intro _ _ h; cases h)); (focus rfl); (focus (intro w' hJ; have ya := Ca _ hJ; have yb := Cb _ hJ; go_simp <;> with_reducible rfl)); simp only [Act.put, List.setIfInBounds_toArray, List.set_cons_zero, List.set_cons_succ]))
  refine ChainL.does (o := ?_) (v := ?_) (w1 := ?_) ?_ ?_ ?_ ?_ ?_
  rotate_left 3
  (focus (first | (simp only [List.getElem?_toArray, List.getElem?_cons_succ, List.getElem?_cons_zero]; with_reducible rfl) | (simp only [List.getElem?_toArray, List.getElem?_cons_zero]; with_reducible rfl)))
  (focus rfl)
  (focus (go_simp; (constructor <;> with_reducible rfl)))
  (focus (exact hI.alloc (by simp) _))
  simp only [Act.put, List.setIfInBounds_toArray, List.set_cons_zero, List.set_cons_succ]
  repeat (first
    | (refine ChainL.skip (o := ?_) ?_ ?_ ?_; rotate_left; (focus (first | (simp only [List.getElem?_toArray, List.getElem?_cons_succ, List.getElem?_cons_zero]; with_reducible rfl) | (simp only [List.getElem?_toArray, List.getElem?_cons_zero]; with_reducible rfl))); (focus rfl); simp only [Act.put, List.setIfInBounds_toArray, List.set_cons_zero, List.set_cons_succ])
    | (refine ChainL.val (o := ?_) (v := ?_) ?_ ?_ ?_ ?_ ?_; rotate_left 2; (focus (first | (simp only [List.getElem?_toArray, List.getElem?_cons_succ, List.getElem?_cons_zero]; with_reducible rfl) | (simp only [List.getElem?_toArray, List.getElem?_cons_zero]; with_reducible rfl))); (focus (intro _ _ h; cases h)); (focus rfl); (focus (intro w' hJ; skip; go_simp <;> with_reducible rfl)); simp only [Act.put, List.setIfInBounds_toArray, List.set_cons_zero, List.set_cons_succ]))
  refine ChainL.nil ?_
  clear hI
  go_wp2
  go_ret2
  exact ⟨some ⟨w.heap.size, 0, none⟩, 2, rfl, (lists_row w.drew [.int .i64 b, .int .i64 a] 3).more (by simp), (HS.out.below (Below.refl _ _).drew).below ((Below.refl _ _).alloc (Nat.le_refl _) _), (Mod.below (Below.refl _ _).drew).trans (Mod.below ((Below.refl _ _).alloc (Nat.le_refl _) _))⟩
set_option maxRecDepth 100000 in
set_option maxHeartbeats 2000000 in
theorem choose_any (q : Nat) (nv : Value) (At : Option Addr) (ct : Nat) (a b c d : Int) (L St ds : List Int) (w : World) (hs : Sk w q nv L St ds) (hL : Lists w w.heap.size At (intCells [a, b, c, d])) :
    Calls Try.prog 55 #[.pointer (some ⟨q, 0, none⟩), .slice At 4 ct] w (Res q nv w 0 [if c ≤ d then a else b] L St ds) := by
  have HS := Lib.hid hs
  obtain ⟨b0, o0, rfl, hbl, hce⟩ := hL.plain (by simp [intCells])
  have Ca : ∀ V, Below w.heap.size w V → V.cell? ⟨b0, o0, none⟩ = some (.int .i64 a) := fun V hV => (hV.cell (p := ⟨b0, o0, none⟩) (by simp; omega)).trans (hce 0 _ rfl)
  have ya := Ca w (Below.refl _ _)
  have Cb : ∀ V, Below w.heap.size w V → V.cell? ⟨b0, o0 + 1, none⟩ = some (.int .i64 b) := fun V hV => (hV.cell (p := ⟨b0, o0 + 1, none⟩) (by simp; omega)).trans (hce 1 _ rfl)
  have yb := Cb w (Below.refl _ _)
  have Cc : ∀ V, Below w.heap.size w V → V.cell? ⟨b0, o0 + 2, none⟩ = some (.int .i64 c) := fun V hV => (hV.cell (p := ⟨b0, o0 + 2, none⟩) (by simp; omega)).trans (hce 2 _ rfl)
  have yc := Cc w (Below.refl _ _)
  have Cd : ∀ V, Below w.heap.size w V → V.cell? ⟨b0, o0 + 3, none⟩ = some (.int .i64 d) := fun V hV => (hV.cell (p := ⟨b0, o0 + 3, none⟩) (by simp; omega)).trans (hce 3 _ rfl)
  have yd := Cd w (Below.refl _ _)
  clear hs hL hce hbl
  by_cases hcd : c ≤ d
  all_goals
    first | rw [if_pos hcd] | rw [if_neg hcd]
    first | (have d1 : decide (c ≤ d) = true := by simpa using hcd) | (have d1 : decide (c ≤ d) = false := by simpa using hcd)
    clear hcd
    go_enter Try.func55, Try.ntmps55
    go_wp2
    have hI : Below w.heap.size w w.drew := (Below.refl _ _).drew
    refine wp_region_chain (fun V => Below w.heap.size w V) [(0, false), (1, false), (2, false), (3, false), (4, false), (5, false), (6, false)] (by kernel_rfl) (by kernel_rfl) hI ?_
    repeat (first
      | (refine ChainL.skip (o := ?_) ?_ ?_ ?_; rotate_left; (focus (first | (simp only [List.getElem?_toArray, List.getElem?_cons_succ, List.getElem?_cons_zero]; with_reducible rfl) | (simp only [List.getElem?_toArray, List.getElem?_cons_zero]; with_reducible rfl))); (focus rfl); simp only [Act.put, List.setIfInBounds_toArray, List.set_cons_zero, List.set_cons_succ])
      | (refine ChainL.val (o := ?_) (v := ?_) ?_ ?_ ?_ ?_ ?_; rotate_left 2; (focus (first | (simp only [List.getElem?_toArray, List.getElem?_cons_succ, List.getElem?_cons_zero]; with_reducible rfl) | (simp only [List.getElem?_toArray, List.getElem?_cons_zero]; with_reducible rfl))); (focus (intro _ _ h; cases h)); (focus rfl); (focus (intro w' hJ; have yc := Cc _ hJ; have yd := Cd _ hJ; go_simp <;> with_reducible rfl)); simp only [Act.put, List.setIfInBounds_toArray, List.set_cons_zero, List.set_cons_succ]))
    refine ChainL.nil ?_
    have ya := Ca _ hI; have yb := Cb _ hI
    go_wp2
    go_ret2
    exact ⟨some ⟨w.drew.heap.size, 0, none⟩, 1, rfl, (lists_row w.drew [_] 3).more (by simp), (HS.out.below (Below.refl _ _).drew).below ((Below.refl _ _).alloc (Nat.le_refl _) _), (Mod.below (Below.refl _ _).drew).trans (Mod.below ((Below.refl _ _).alloc (Nat.le_refl _) _))⟩
end Go.Proofs.Ytkhafhdmcalhbaa
