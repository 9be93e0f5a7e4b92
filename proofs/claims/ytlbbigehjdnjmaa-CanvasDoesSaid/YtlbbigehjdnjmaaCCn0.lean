/- Part 1 of the proof: Num, Fix1, Fix2, Fix3, May, Fix4, Eq4, Aff1, Rnd, Aff2, Box1, Box2, Box3, Box4, Box5. -/
import Derived.WalkKit
import Derived.Test.YtlbbigehjdnjmaaRows
import Derived.BigQuiet
import Derived.WalkSmall
import Derived.Deep.QuietTactic
import Derived.Deep.RegionHeld3
import Derived.StillTailTactics
import Derived.Deep.RegionWith
import Derived.Deep.DeepCutAuto

namespace Go.Proofs.Ytlbbigehjdnjmaa

/-- may a number be? -/
def mayB (x : Int) : Bool := decide (-2147483648 ≤ x) && decide (x ≤ 2147483648)

/-- the nearest whole number to a quotient -/
def near (a b : Int) : Int := if b < 0 then (2 * (-a) + (-b)) / (2 * (-b)) else (2 * a + b) / (2 * b)

theorem div_unique {a b q : Int} (h1 : b * q ≤ a) (h2 : a < b * q + b) : a / b = q := by
  have hb : 0 < b := by omega
  have h3 : a = b * q + (a - b * q) := by omega
  rw [h3, Int.add_comm, Int.add_mul_ediv_left _ _ (by omega : b ≠ 0), Int.ediv_eq_zero_of_lt (by omega) (by omega)]
  omega

theorem tdiv_floor {a b : Int} (hb : 0 < b) (ha : a < 0) (hm : ¬ a % b = 0) : a.tdiv b - 1 = a / b ∧ ¬ a.tmod b = 0 ∧ a.tdiv b ≤ 0 ∧ a < a.tdiv b  := by
  have hd : ¬ b ∣ a := fun h => hm (Int.emod_eq_zero_of_dvd h)
  have e := @Int.tdiv_eq_ediv a b
  rw [if_neg (by intro h; rcases h with h | h; omega; exact hd h), Int.sign_eq_one_of_pos hb] at e
  have h4 : a / b < 0 := Int.ediv_neg_of_neg_of_pos ha hb
  have h5 : a ≤ a / b := Int.le_ediv_of_mul_le hb (by have := Int.mul_le_mul_of_nonpos_left (a := a) (b := b) (c := 1) (by omega) (by omega); omega)
  exact ⟨by omega, fun h => hd (Int.dvd_of_tmod_eq_zero h), by omega, by omega⟩
theorem tdiv_whole {a b : Int} (hm : a % b = 0) : a.tdiv b = a / b ∧ a.tmod b = 0 := by
  have hd : b ∣ a := Int.dvd_of_emod_eq_zero hm
  have e := @Int.tdiv_eq_ediv a b
  rw [if_pos (.inr hd)] at e
  exact ⟨by omega, Int.tmod_eq_zero_of_dvd hd⟩

theorem near_pos {a b q : Int} (hb : 0 < b) (h1 : 2 * (b * q) ≤ 2 * a + b) (h2 : 2 * a + b < 2 * (b * q) + 2 * b) : near a b = q := by
  unfold near; rw [if_neg (by omega)]
  exact div_unique (by rw [Int.mul_assoc]; exact h1) (by rw [Int.mul_assoc]; exact h2)

theorem near_neg {a b q : Int} (hb : b < 0) (h1 : 2 * (b * q) ≥ 2 * a + b) (h2 : 2 * a + b > 2 * (b * q) + 2 * b) : near a b = q := by
  unfold near; rw [if_pos hb]
  exact div_unique (by rw [Int.mul_assoc, Int.neg_mul]; omega) (by rw [Int.mul_assoc, Int.neg_mul]; omega)

theorem near_same {a b n d : Int} (hn : max a (-a) = n) (hd : max b (-b) = d) (h0 : 0 < d) (hs : (!decide (a < 0) == decide (b < 0)) = false) :
    near a b = n / d + if d ≤ 2 * (n % d) then 1 else 0 := by
  have e := Int.mul_ediv_add_emod n d
  have r0 : 0 ≤ n % d := Int.emod_nonneg n (by omega)
  have r1 : n % d < d := Int.emod_lt_of_pos n h0
  by_cases hb : b < 0
  · have ha : a < 0 := by simp [hb] at hs; exact hs
    obtain rfl : b = -d := by omega
    obtain rfl : a = -n := by omega
    clear hn hd hs
    apply near_neg hb <;> (split <;> simp only [Int.neg_mul, Int.mul_add, Int.mul_one, Int.add_zero] <;> omega)
  · have ha : ¬ a < 0 := by simp [hb] at hs; omega
    obtain rfl : b = d := by omega
    obtain rfl : a = n := by omega
    clear hn hd hs
    apply near_pos h0 <;> (split <;> simp only [Int.mul_add, Int.mul_one, Int.add_zero] <;> omega)

theorem near_diff {a b n d : Int} (hn : max a (-a) = n) (hd : max b (-b) = d) (h0 : 0 < d) (hs : (!decide (a < 0) == decide (b < 0)) = true) :
    near a b = -(n / d + if d < 2 * (n % d) then 1 else 0) := by
  have e := Int.mul_ediv_add_emod n d
  have r0 : 0 ≤ n % d := Int.emod_nonneg n (by omega)
  have r1 : n % d < d := Int.emod_lt_of_pos n h0
  by_cases hb : b < 0
  · have ha : ¬ a < 0 := by simp [hb] at hs; omega
    obtain rfl : b = -d := by omega
    obtain rfl : a = n := by omega
    clear hn hd hs
    apply near_neg hb <;> (split <;> simp only [Int.neg_mul, Int.mul_neg, Int.neg_neg, Int.mul_add, Int.mul_one, Int.add_zero] <;> omega)
  · have ha : a < 0 := by simp [hb] at hs; omega
    obtain rfl : b = d := by omega
    obtain rfl : a = -n := by omega
    clear hn hd hs
    apply near_pos h0 <;> (split <;> simp only [Int.mul_neg, Int.mul_add, Int.mul_one, Int.add_zero] <;> omega)

theorem mul_bound {a b : Int} (A B : Nat) (h1 : -(A : Int) ≤ a) (h2 : a ≤ A) (h3 : -(B : Int) ≤ b) (h4 : b ≤ B) : -((A * B : Nat) : Int) ≤ a * b ∧ a * b ≤ ((A * B : Nat) : Int) := by
  have h : (a * b).natAbs ≤ A * B := by rw [Int.natAbs_mul]; exact Nat.mul_le_mul (by omega) (by omega)
  omega

theorem near_spec (a b : Int) (hb : 1 ≤ b) : -b ≤ 2 * (a - near a b * b) ∧ 2 * (a - near a b * b) < b := by
  unfold near
  rw [if_neg (by omega)]
  have h := Int.mul_ediv_add_emod (2 * a + b) (2 * b)
  have h1 := Int.emod_nonneg (2 * a + b) (show 2 * b ≠ 0 by omega)
  have h2 := Int.emod_lt_of_pos (2 * a + b) (show 0 < 2 * b by omega)
  rw [Int.mul_assoc, Int.mul_comm b] at h
  omega

end Go.Proofs.Ytlbbigehjdnjmaa

namespace Go.Proofs.Ytlbbigehjdnjmaa
open Go.RowKit

theorem ret_int {k : IntKind} {a b : Int} (h : a = b) : Ending.returned (.int k a) = .returned (.int k b) := by rw [h]

theorem may_ref (x : Int) (w : World) : Calls Try.prog 48 #[.int .i64 x] w fun e w' => e = .returned (.bool (mayB x)) ∧ w = w' := by
  unfold mayB
  by_cases h1 : -2147483648 ≤ x <;> by_cases h2 : x ≤ 2147483648
  all_goals
    go_enter Try.func48, Try.ntmps48
    go_wp2
    go_ret
    simp [h1, h2]

theorem may_any (x : Int) (w : World) : Calls Try.prog 62 #[.int .i64 x] w fun e w' => e = .returned (.bool (mayB x)) ∧ w = w' := by
  unfold mayB
  by_cases h1 : -2147483648 ≤ x <;> by_cases h2 : x ≤ 2147483648
  all_goals
    go_enter Try.func62, Try.ntmps62
    go_wp2
    go_ret
    simp [h1, h2]

end Go.Proofs.Ytlbbigehjdnjmaa

namespace Go.Proofs.Ytlbbigehjdnjmaa
open Go.RowKit

theorem ret_iiv {k l : IntKind} {a b a' b' : Int} {v : Value} (h : a = a') (g : b = b') : Ending.returned (.tuple #[.int k a, .int l b, v]) = .returned (.tuple #[.int k a', .int l b', v]) := by rw [h, g]

end Go.Proofs.Ytlbbigehjdnjmaa

namespace Go.Proofs.Ytlbbigehjdnjmaa
open Go.RowKit

theorem ret_ii {k l : IntKind} {a b a' b' : Int} (h : a = a') (g : b = b') : Ending.returned (.tuple #[.int k a, .int l b]) = .returned (.tuple #[.int k a', .int l b']) := by rw [h, g]

end Go.Proofs.Ytlbbigehjdnjmaa

namespace Go.Proofs.Ytlbbigehjdnjmaa
open Go.RowKit

theorem all_take_snoc (f : Int → Bool) (zs : List Int) (k : Nat) (h : k < zs.length) : (zs.take (k + 1)).all f = ((zs.take k).all f && f (zs.getD k 0)) := by
  rw [List.take_succ_eq_append_getElem h, List.all_append]; simp [List.getD, h]

theorem all_false_of_take (f : Int → Bool) (zs : List Int) (k : Nat) (h : (zs.take k).all f = false) : zs.all f = false := by
  have e := List.take_append_drop k zs
  rw [← e, List.all_append, h, Bool.false_and]

theorem allMay_affine (b off len cap : Nat) (zs : List Int) (w : World) (hl : len = zs.length) (hm : len ≤ 9223372036854775807)
    (hc : ∀ j, j < zs.length → w.cell? ⟨b, off + j, none⟩ = some (.int .i64 (zs.getD j 0))) :
    Calls Try.prog 51 #[.slice (some ⟨b, off, none⟩) len cap] w fun e w' => e = .returned (.bool (zs.all mayB)) ∧ w = w' := by
  have HL : Hid (len = zs.length) := hl
  have HC : Hid (∀ j, j < zs.length → w.cell? ⟨b, off + j, none⟩ = some (.int .i64 (zs.getD j 0))) := hc
  clear hl hc
  go_enter Try.func51, Try.ntmps51
  go_wp2
  go_loop [4, 7] (fun _ i => ∃ k : Nat, k ≤ len ∧ i = .int .i64 k ∧ (zs.take k).all mayB = true) (fun _ i => len - (intOf i).toNat)
  case atStart => exact ⟨0, Nat.zero_le _, rfl, rfl⟩
  case round =>
    obtain ⟨k, hk, rfl, hall⟩ := hrel
    have HA : Hid ((zs.take k).all mayB = true) := hall
    clear hall
    by_cases hlt : k < len
    · have hcell : w.cell? ⟨b, off + k, none⟩ = some (.int .i64 (zs.getD k 0)) := HC.out k (by have := HL.out; omega)
      have hts := Hid.out (p := _) (all_take_snoc mayB zs k (by have := HL.out; omega))
      generalize hz : zs.getD k 0 = z at hcell hts
      have HT : Hid ((zs.take (k + 1)).all mayB = ((zs.take k).all mayB && mayB z)) := hts
      clear hts hz
      by_cases hmz : mayB z = true
      · go_wp2_with (go_at_call 62; refine (may_any z _).mono ?_; rintro e w' ⟨rfl, rfl⟩)
        go_round
        case rel => exact ⟨k + 1, by omega, by go_num, by rw [HT.out, HA.out, hmz]; rfl⟩
        case measure => simp [intOf]; omega
      · have hmf : mayB z = false := by simpa using hmz
        clear hmz
        go_wp2_with (go_at_call 62; refine (may_any z _).mono ?_; rintro e w' ⟨rfl, rfl⟩)
        go_ret
        refine ⟨?_, rfl⟩
        have := all_false_of_take mayB zs (k + 1) (by rw [HT.out, hmf, Bool.and_false])
        rw [this]; rfl
    · go_wp2
      go_ret
      refine ⟨?_, rfl⟩
      have : zs.all mayB = true := by rw [← HA.out, List.take_of_length_le (by have := HL.out; omega)]
      rw [this]; rfl

theorem allMay_nil_affine (cap : Nat) (a : Option Addr) (w : World) :
    Calls Try.prog 51 #[.slice a 0 cap] w fun e w' => e = .returned (.bool true) ∧ w = w' := by
  go_enter Try.func51, Try.ntmps51
  go_wp2
  refine wp_loop_rounds 1 ?_
  rw [rounds_succ]
  go_wp2
  go_ret
  exact ⟨rfl, rfl⟩

end Go.Proofs.Ytlbbigehjdnjmaa

namespace Go.Proofs.Ytlbbigehjdnjmaa
open Go.RowKit

theorem cells2 (w0 : World) (b : Nat) (hb : w0.heap.size = b) (x y : Int) (t : TypeId) (j : Nat) (hj : j < [x, y].length) :
    (w0.alloc (.cells #[.int .i64 x, .int .i64 y] t)).cell? ⟨b, 0 + j, none⟩ = some (.int .i64 ([x, y].getD j 0)) := by
  rw [World.cell?_alloc_at _ _ _ _ hb.symm]
  match j, hj with
  | 0, _ => rfl
  | 1, _ => rfl

theorem cells3 (w0 : World) (b : Nat) (hb : w0.heap.size = b) (x y z : Int) (t : TypeId) (j : Nat) (hj : j < [x, y, z].length) :
    (w0.alloc (.cells #[.int .i64 x, .int .i64 y, .int .i64 z] t)).cell? ⟨b, 0 + j, none⟩ = some (.int .i64 ([x, y, z].getD j 0)) := by
  rw [World.cell?_alloc_at _ _ _ _ hb.symm]
  match j, hj with
  | 0, _ => rfl
  | 1, _ => rfl
  | 2, _ => rfl

theorem all2 (x y : Int) : [x, y].all mayB = (mayB x && mayB y) := by simp
theorem all3 (x y z : Int) : [x, y, z].all mayB = (mayB x && mayB y && mayB z) := by simp [Bool.and_assoc]

/-- a result, if it may be -/
def outR (x : Int) : Int := if mayB x then x else 0
def outE (x : Int) : Int := if mayB x then 0 else 10

theorem mayB_lo {x : Int} (h : mayB x = true) : -2147483648 ≤ x := by unfold mayB at h; simp at h; exact h.1
theorem mayB_hi {x : Int} (h : mayB x = true) : x ≤ 2147483648 := by unfold mayB at h; simp at h; exact h.2

theorem below_next {w w1 w2 : World} (h : Below w.heap.size w w1) (g : Below w1.heap.size w1 w2) : Below w.heap.size w w2 := h.trans (g.mono h.size)
theorem below_a1 (w : World) (o : Obj) : Below w.heap.size w (w.alloc o) := (Below.refl _ _).alloc (Nat.le_refl _) o
theorem below_a2 (w : World) (o p : Obj) : Below w.heap.size w ((w.alloc o).alloc p) := (below_a1 w o).alloc (by simp) p
theorem below_a3 (w : World) (o p q : Obj) : Below w.heap.size w (((w.alloc o).alloc p).alloc q) := (below_a2 w o p).alloc (by simp; omega) q
theorem below_a4 (w : World) (o p q r : Obj) : Below w.heap.size w ((((w.alloc o).alloc p).alloc q).alloc r) := (below_a3 w o p q).alloc (by simp; omega) r
theorem below_a5 (w : World) (o p q r s : Obj) : Below w.heap.size w (((((w.alloc o).alloc p).alloc q).alloc r).alloc s) := (below_a4 w o p q r).alloc (by simp; omega) s

end Go.Proofs.Ytlbbigehjdnjmaa

namespace Go.Proofs.Ytlbbigehjdnjmaa
open Go.RowKit

/-- are two quadruples the same? -/
def eq4 (a b c d a' b' c' d' : Int) : Bool := a == a' && b == b' && c == c' && d == d'

theorem eqB_run (a b c d a' b' c' d' : Int) (w : World) :
    (binOp .eql 32 (.agg #[.int .i64 a, .int .i64 b, .int .i64 c, .int .i64 d]) (.agg #[.int .i64 a', .int .i64 b', .int .i64 c', .int .i64 d'])).run Try.prog w = .ok (.bool (eq4 a b c d a' b' c' d')) w := by
  have hS : Try.prog.underlying 32 = some (.struct (Try.prog.fieldsOf 32)) := by kernel_rfl
  have hp : Try.prog.stoodInHeld 32 = false := by kernel_rfl
  have u3 := Try.underlying3
  have a3 := Try.isAgg3
  have z3 := Try.sizeOf3
  rw [run_eql_struct, show (10000 : Nat) = 9999 + 1 from rfl, run_equalIn_agg w 9999 32 _ _ hS hp]
  simp only [Program.fieldsOf, Try.underlying32]
  unfold eq4
  go_simp
  by_cases h1 : a = a' <;> by_cases h2 : b = b' <;> by_cases h3 : c = c' <;> by_cases h4 : d = d' <;> simp [h1, h2, h3, h4]

theorem eqB_guard (a b c d a' b' c' d' : Int) (x y : Operand) (w : World) :
    (eqGuard .eql 32 x y (.agg #[.int .i64 a, .int .i64 b, .int .i64 c, .int .i64 d]) (.agg #[.int .i64 a', .int .i64 b', .int .i64 c', .int .i64 d'])).run Try.prog w = .ok () w :=
  run_eqGuard_agg w .eql 32 x y _ _ (by kernel_rfl)

end Go.Proofs.Ytlbbigehjdnjmaa

namespace Go.Proofs.Ytlbbigehjdnjmaa
open Go.RowKit

/-- a number of a matrix, cut off -/
def clampP (x : Int) : Int := min (max x (-32768)) 32767
def fitB (x : Int) : Bool := decide (-32768 ≤ x) && decide (x < 32768)

theorem bcell {W w1 : World} (hb : Below W.heap.size W w1) : (∀ b o, b < W.heap.size → w1.cell? ⟨b, o, none⟩ = W.cell? ⟨b, o, none⟩) ∧ (∀ b o, b < W.heap.size → w1.frozen? ⟨b, o, none⟩ = W.frozen? ⟨b, o, none⟩) :=
  ⟨fun _ _ h => hb.cell h, fun _ _ h => hb.frozen h⟩

/-- may a matrix be? -/
def fitM (a b c d : Int) : Bool := fitB a && fitB b && fitB c && fitB d

theorem clamp_fit (a : Int) : (a == clampP a) = fitB a := by
  unfold fitB clampP
  rw [Bool.eq_iff_iff]; simp; omega

theorem eq4_clamp (a b c d : Int) : eq4 a b c d (clampP a) (clampP b) (clampP c) (clampP d) = fitM a b c d := by
  unfold eq4 fitM; rw [clamp_fit, clamp_fit, clamp_fit, clamp_fit]

end Go.Proofs.Ytlbbigehjdnjmaa

namespace Go.Proofs.Ytlbbigehjdnjmaa
open Go.RowKit

theorem i64_mask (n : Int) (k : Nat) (hk : k ≤ 62) : bits .and .i64 n ((2 ^ k - 1 : Nat) : Int) = n % ((2 ^ k : Nat) : Int) := by
  have hlt : 2 ^ k ≤ 2 ^ 62 := Nat.pow_le_pow_right (by omega) hk
  have hpos : 0 < 2 ^ k := Nat.two_pow_pos k
  have h1 : (BitVec.ofInt 64 ((2 ^ k - 1 : Nat) : Int)).toNat = 2 ^ k - 1 := by
    rw [BitVec.ofInt_natCast, BitVec.toNat_ofNat]; exact Nat.mod_eq_of_lt (by omega)
  have key : (BitVec.ofInt 64 n &&& BitVec.ofInt 64 ((2 ^ k - 1 : Nat) : Int)).toNat = (n % ((2 ^ 64 : Nat) : Int)).toNat % 2 ^ k := by
    rw [BitVec.toNat_and, BitVec.toNat_ofInt, h1, Nat.and_two_pow_sub_one_eq_mod]
  show IntKind.i64.wrap ((BitVec.ofInt 64 n &&& BitVec.ofInt 64 ((2 ^ k - 1 : Nat) : Int)).toNat : Nat) = _
  have hd : ((2 ^ k : Nat) : Int) ∣ ((2 ^ 64 : Nat) : Int) := Int.natCast_dvd_natCast.mpr (Nat.pow_dvd_pow 2 (by omega))
  have hm : n % ((2 ^ 64 : Nat) : Int) % ((2 ^ k : Nat) : Int) = n % ((2 ^ k : Nat) : Int) := Int.emod_emod_of_dvd n hd
  have h0 : 0 ≤ n % ((2 ^ 64 : Nat) : Int) := Int.emod_nonneg n (by omega)
  have hb := Int.emod_lt_of_pos n (show (0 : Int) < ((2 ^ k : Nat) : Int) by omega)
  have hb0 := Int.emod_nonneg n (show ((2 ^ k : Nat) : Int) ≠ 0 by omega)
  rw [key, Int.natCast_emod, Int.toNat_of_nonneg h0, hm]
  exact IntWalk.i64_in _ (by omega)

theorem i64_and63 (n : Int) : bits .and .i64 n 63 = n % 64 := i64_mask n 6 (by decide)
theorem i64_and1 (n : Int) : bits .and .i64 n 1 = n % 2 := i64_mask n 1 (by decide)

end Go.Proofs.Ytlbbigehjdnjmaa

namespace Go.Proofs.Ytlbbigehjdnjmaa
open Go.RowKit

theorem fitB_lo {x : Int} (h : fitB x = true) : -32768 ≤ x := by unfold fitB at h; simp at h; exact h.1
theorem fitB_hi {x : Int} (h : fitB x = true) : x < 32768 := by unfold fitB at h; simp at h; exact h.2
theorem prod_lim {x a : Int} (hx : mayB x = true) (ha : fitB a = true) : -70368744177664 ≤ x * a ∧ x * a ≤ 70368744177664 :=
  mul_bound 2147483648 32768 (mayB_lo hx) (mayB_hi hx) (fitB_lo ha) (by have := fitB_hi ha; omega)

/-- what Apply answers: the error, and the two numbers behind the matrix -/
def apX (a c x y : Int) : Int := near (x * a + y * c) 16384
def apE (a b c d x y : Int) : Int := if fitM a b c d then (if mayB x && mayB y then (if mayB (apX a c x y) && mayB (apX b d x y) then 0 else 10) else 10) else 1
def apR (e v : Int) : Int := if e = 0 then v else 0

theorem ret_iii {a b c a' b' c' : Int} (h : a = a') (g : b = b') (k : c = c') : Ending.returned (.tuple #[.int .i64 a, .int .i64 b, .int .i64 c]) = .returned (.tuple #[.int .i64 a', .int .i64 b', .int .i64 c']) := by rw [h, g, k]

end Go.Proofs.Ytlbbigehjdnjmaa

namespace Go.Proofs.Ytlbbigehjdnjmaa
open Go.RowKit

/-- a box's four numbers -/
structure Q where
  x0 : Int
  y0 : Int
  x1 : Int
  y1 : Int
deriving DecidableEq

def mayQ (A : Q) : Bool := mayB A.x0 && mayB A.y0 && mayB A.x1 && mayB A.y1
def emptyQ (A : Q) : Bool := decide (A.x1 ≤ A.x0) || decide (A.y1 ≤ A.y0)
def zeroQ : Q := ⟨0, 0, 0, 0⟩
def plainQ (A : Q) : Q := if emptyQ A then zeroQ else A
def dropV (x : Int) : Int := if mayB x then x else 0

theorem drop_eq (x : Int) : (x == dropV x) = mayB x := by
  unfold dropV
  by_cases h : mayB x = true
  · simp [h]
  · have h' : mayB x = false := by simpa using h
    rw [h']
    have : x ≠ 0 := by rintro rfl; exact h (by decide)
    simp [this]

theorem eq4_drop (A : Q) : eq4 A.x0 A.y0 A.x1 A.y1 (dropV A.x0) (dropV A.y0) (dropV A.x1) (dropV A.y1) = mayQ A := by
  unfold eq4 mayQ; rw [drop_eq, drop_eq, drop_eq, drop_eq]

theorem drop_any (x : Int) (w : World) : Calls Try.prog 54 #[.int .i64 x] w fun e w' => e = .returned (.int .i64 (dropV x)) ∧ w = w' := by
  have M := fun w => may_any x w
  unfold dropV
  by_cases h : mayB x = true
  · rw [if_pos h]
    rw [h] at M
    clear h
    go_enter Try.func54, Try.ntmps54
    go_wp2_with (go_at_call 62; refine (M _).mono ?_; rintro e w' ⟨rfl, rfl⟩)
    go_ret
    exact ⟨rfl, rfl⟩
  · rw [if_neg h]
    rw [show mayB x = false by simpa using h] at M
    clear h
    go_enter Try.func54, Try.ntmps54
    go_wp2_with (go_at_call 62; refine (M _).mono ?_; rintro e w' ⟨rfl, rfl⟩)
    go_ret
    exact ⟨rfl, rfl⟩

theorem least_any (x y : Int) (w : World) : Calls Try.prog 58 #[.int .i64 x, .int .i64 y] w fun e w' => e = .returned (.int .i64 (min x y)) ∧ w = w' := by
  by_cases h : x < y
  all_goals
    go_enter Try.func58, Try.ntmps58
    go_wp2
    all_goals go_ret
    all_goals exact ⟨ret_int (by omega), rfl⟩

theorem most_any (x y : Int) (w : World) : Calls Try.prog 57 #[.int .i64 x, .int .i64 y] w fun e w' => e = .returned (.int .i64 (max x y)) ∧ w = w' := by
  by_cases h : x < y
  all_goals
    go_enter Try.func57, Try.ntmps57
    go_wp2
    all_goals go_ret
    all_goals exact ⟨ret_int (by omega), rfl⟩

theorem rleast_any (x y : Int) (w : World) : Calls Try.prog 45 #[.int .i64 x, .int .i64 y] w fun e w' => e = .returned (.int .i64 (min x y)) ∧ w = w' := by
  by_cases h : x < y
  all_goals
    go_enter Try.func45, Try.ntmps45
    go_wp2
    all_goals go_ret
    all_goals exact ⟨ret_int (by omega), rfl⟩

theorem rmost_any (x y : Int) (w : World) : Calls Try.prog 44 #[.int .i64 x, .int .i64 y] w fun e w' => e = .returned (.int .i64 (max x y)) ∧ w = w' := by
  by_cases h : x < y
  all_goals
    go_enter Try.func44, Try.ntmps44
    go_wp2
    all_goals go_ret
    all_goals exact ⟨ret_int (by omega), rfl⟩

set_option maxHeartbeats 1000000 in
theorem eachSide_drop (A : Q) (w : World) :
    Calls Try.prog 53 #[.agg #[.int .i64 A.x0, .int .i64 A.y0, .int .i64 A.x1, .int .i64 A.y1], .func (.func 54) #[] #[], .func (.func 54) #[] #[]] w fun e w' =>
      e = .returned (.agg #[.int .i64 (dropV A.x0), .int .i64 (dropV A.y0), .int .i64 (dropV A.x1), .int .i64 (dropV A.y1)]) ∧ Below w.heap.size w w' := by
  go_enter Try.func53, Try.ntmps53
  go_wp2
  go_region_held3 (fun w' => w'.cell? ⟨w.heap.size, 0, none⟩ = some (.int .i64 A.x0) ∧ w'.cell? ⟨w.heap.size, 1, none⟩ = some (.int .i64 A.y0) ∧ w'.cell? ⟨w.heap.size, 2, none⟩ = some (.int .i64 A.x1) ∧ w'.cell? ⟨w.heap.size, 3, none⟩ = some (.int .i64 A.y1))
    (go_keep) (first | (go_at_call 54; ((with_reducible refine (drop_any _ _).mono ?_); rintro e w' ⟨rfl, rfl⟩)))
  go_wp2
  refine bodyPost_ret (v := .agg #[.int .i64 (dropV A.x0), .int .i64 (dropV A.y0), .int .i64 (dropV A.x1), .int .i64 (dropV A.y1)]) (by simp [results, Try.results53, go_sem]) rfl ⟨rfl, ?_⟩
  exact below_drewN (below_a2 _ _ _) 1

set_option maxHeartbeats 2000000 in
theorem between_join (A B : Q) (w : World) :
    Calls Try.prog 56 #[.agg #[.int .i64 A.x0, .int .i64 A.y0, .int .i64 A.x1, .int .i64 A.y1], .agg #[.int .i64 B.x0, .int .i64 B.y0, .int .i64 B.x1, .int .i64 B.y1], .func (.func 58) #[] #[], .func (.func 57) #[] #[]] w fun e w' =>
      e = .returned (.agg #[.int .i64 (min A.x0 B.x0), .int .i64 (min A.y0 B.y0), .int .i64 (max A.x1 B.x1), .int .i64 (max A.y1 B.y1)]) ∧ Below w.heap.size w w' := by
  go_enter Try.func56, Try.ntmps56
  go_wp2
  go_region_held3 (fun w' => w'.cell? ⟨w.heap.size, 0, none⟩ = some (.int .i64 A.x0) ∧ w'.cell? ⟨w.heap.size, 1, none⟩ = some (.int .i64 A.y0) ∧ w'.cell? ⟨w.heap.size, 2, none⟩ = some (.int .i64 A.x1) ∧ w'.cell? ⟨w.heap.size, 3, none⟩ = some (.int .i64 A.y1) ∧ w'.cell? ⟨w.heap.size + 1, 0, none⟩ = some (.int .i64 B.x0) ∧ w'.cell? ⟨w.heap.size + 1, 1, none⟩ = some (.int .i64 B.y0) ∧ w'.cell? ⟨w.heap.size + 1, 2, none⟩ = some (.int .i64 B.x1) ∧ w'.cell? ⟨w.heap.size + 1, 3, none⟩ = some (.int .i64 B.y1))
    (go_keep) (first | (go_at_call 58; refine (least_any _ _ _).mono ?_; rintro e w' ⟨rfl, rfl⟩) | (go_at_call 57; refine (most_any _ _ _).mono ?_; rintro e w' ⟨rfl, rfl⟩))
  go_wp2
  refine bodyPost_ret (v := .agg #[.int .i64 (min A.x0 B.x0), .int .i64 (min A.y0 B.y0), .int .i64 (max A.x1 B.x1), .int .i64 (max A.y1 B.y1)]) (by simp [results, Try.results56, go_sem]) rfl ⟨rfl, ?_⟩
  exact below_drewN (below_a3 _ _ _ _) 1

set_option maxHeartbeats 2000000 in
theorem between_meet (A B : Q) (w : World) :
    Calls Try.prog 56 #[.agg #[.int .i64 A.x0, .int .i64 A.y0, .int .i64 A.x1, .int .i64 A.y1], .agg #[.int .i64 B.x0, .int .i64 B.y0, .int .i64 B.x1, .int .i64 B.y1], .func (.func 57) #[] #[], .func (.func 58) #[] #[]] w fun e w' =>
      e = .returned (.agg #[.int .i64 (max A.x0 B.x0), .int .i64 (max A.y0 B.y0), .int .i64 (min A.x1 B.x1), .int .i64 (min A.y1 B.y1)]) ∧ Below w.heap.size w w' := by
  go_enter Try.func56, Try.ntmps56
  go_wp2
  go_region_held3 (fun w' => w'.cell? ⟨w.heap.size, 0, none⟩ = some (.int .i64 A.x0) ∧ w'.cell? ⟨w.heap.size, 1, none⟩ = some (.int .i64 A.y0) ∧ w'.cell? ⟨w.heap.size, 2, none⟩ = some (.int .i64 A.x1) ∧ w'.cell? ⟨w.heap.size, 3, none⟩ = some (.int .i64 A.y1) ∧ w'.cell? ⟨w.heap.size + 1, 0, none⟩ = some (.int .i64 B.x0) ∧ w'.cell? ⟨w.heap.size + 1, 1, none⟩ = some (.int .i64 B.y0) ∧ w'.cell? ⟨w.heap.size + 1, 2, none⟩ = some (.int .i64 B.x1) ∧ w'.cell? ⟨w.heap.size + 1, 3, none⟩ = some (.int .i64 B.y1))
    (go_keep) (first | (go_at_call 57; refine (most_any _ _ _).mono ?_; rintro e w' ⟨rfl, rfl⟩) | (go_at_call 58; refine (least_any _ _ _).mono ?_; rintro e w' ⟨rfl, rfl⟩))
  go_wp2
  refine bodyPost_ret (v := .agg #[.int .i64 (max A.x0 B.x0), .int .i64 (max A.y0 B.y0), .int .i64 (min A.x1 B.x1), .int .i64 (min A.y1 B.y1)]) (by simp [results, Try.results56, go_sem]) rfl ⟨rfl, ?_⟩
  exact below_drewN (below_a3 _ _ _ _) 1

set_option maxHeartbeats 1000000 in
theorem mayBox_any (A : Q) (w : World) :
    Calls Try.prog 41 #[.agg #[.int .i64 A.x0, .int .i64 A.y0, .int .i64 A.x1, .int .i64 A.y1]] w fun e w' => e = .returned (.bool (mayQ A)) ∧ Below w.heap.size w w' := by
  have q1 := fun w => eqB_run A.x0 A.y0 A.x1 A.y1 (dropV A.x0) (dropV A.y0) (dropV A.x1) (dropV A.y1) w
  rw [eq4_drop] at q1
  have q2 := fun x y w => eqB_guard A.x0 A.y0 A.x1 A.y1 (dropV A.x0) (dropV A.y0) (dropV A.x1) (dropV A.y1) x y w
  go_enter Try.func41, Try.ntmps41
  go_wp2
  go_region_held3 (fun w' => w'.cell? ⟨w.heap.size, 0, none⟩ = some (.int .i64 A.x0) ∧ w'.cell? ⟨w.heap.size, 1, none⟩ = some (.int .i64 A.y0) ∧ w'.cell? ⟨w.heap.size, 2, none⟩ = some (.int .i64 A.x1) ∧ w'.cell? ⟨w.heap.size, 3, none⟩ = some (.int .i64 A.y1))
    (go_keep) (first | (go_at_call 53; refine (eachSide_drop A _).mono ?_; rintro e w1 ⟨rfl, hb⟩; obtain ⟨hc, hf⟩ := bcell hb))
  all_goals go_wp2
  go_ret
  exact ⟨rfl, (below_a1 _ _).drew.trans (hb.mono (below_a1 _ _).size)⟩

theorem empty_any (A : Q) (w : World) :
    Calls Try.prog 60 #[.agg #[.int .i64 A.x0, .int .i64 A.y0, .int .i64 A.x1, .int .i64 A.y1]] w fun e w' => e = .returned (.bool (emptyQ A)) ∧ Below w.heap.size w w' := by
  unfold emptyQ
  by_cases h1 : A.x1 ≤ A.x0 <;> by_cases h2 : A.y1 ≤ A.y0
  all_goals
    go_enter Try.func60, Try.ntmps60
    go_wp2
    go_ret
    refine ⟨?_, below_a1 _ _⟩
    simp [h1, h2]

theorem rempty_any (A : Q) (w : World) :
    Calls Try.prog 55 #[.agg #[.int .i64 A.x0, .int .i64 A.y0, .int .i64 A.x1, .int .i64 A.y1]] w fun e w' => e = .returned (.bool (emptyQ A)) ∧ Below w.heap.size w w' := by
  unfold emptyQ
  by_cases h1 : A.x1 ≤ A.x0 <;> by_cases h2 : A.y1 ≤ A.y0
  all_goals
    go_enter Try.func55, Try.ntmps55
    go_wp2
    go_ret
    refine ⟨?_, below_a1 _ _⟩
    simp [h1, h2]

end Go.Proofs.Ytlbbigehjdnjmaa

namespace Go.Proofs.Ytlbbigehjdnjmaa
open Go.RowKit

theorem below_set4 {B b : Nat} {a w : World} (h : Below B a w) (hb : B ≤ b) (v0 v1 v2 v3 : Value) :
    Below B a ((((w.setCell ⟨b, 0, none⟩ v0).setCell ⟨b, 1, none⟩ v1).setCell ⟨b, 2, none⟩ v2).setCell ⟨b, 3, none⟩ v3) :=
  (((h.setCell hb _).setCell hb _).setCell hb _).setCell hb _

theorem plain_zero (A : Q) (w : World) (h : emptyQ A = true) :
    Calls Try.prog 52 #[.agg #[.int .i64 A.x0, .int .i64 A.y0, .int .i64 A.x1, .int .i64 A.y1]] w fun e w' => e = .returned (.agg #[.int .i64 0, .int .i64 0, .int .i64 0, .int .i64 0]) ∧ Below w.heap.size w w' := by
  have E := fun w => empty_any A w
  rw [h] at E
  clear h
  go_enter Try.func52, Try.ntmps52
  go_wp2_with (first | (go_at_call 60; ((with_reducible refine (E _).mono ?_); rintro e w1 ⟨rfl, b1⟩; obtain ⟨c1, f1⟩ := bcell b1; have z1 : w.heap.size + 1 < w1.heap.size := (by have := b1.size; (try simp at this); omega))))
  refine bodyPost_ret (v := .agg #[.int .i64 0, .int .i64 0, .int .i64 0, .int .i64 0]) (by simp [results, Try.results52, go_sem, *]) rfl ⟨rfl, ?_⟩
  exact below_set4 (below_next (below_a2 _ _ _) b1) (by omega) _ _ _ _

theorem plain_same (A : Q) (w : World) (h : emptyQ A = false) :
    Calls Try.prog 52 #[.agg #[.int .i64 A.x0, .int .i64 A.y0, .int .i64 A.x1, .int .i64 A.y1]] w fun e w' => e = .returned (.agg #[.int .i64 A.x0, .int .i64 A.y0, .int .i64 A.x1, .int .i64 A.y1]) ∧ Below w.heap.size w w' := by
  have E := fun w => empty_any A w
  rw [h] at E
  clear h
  go_enter Try.func52, Try.ntmps52
  go_wp2_with (first | (go_at_call 60; ((with_reducible refine (E _).mono ?_); rintro e w1 ⟨rfl, b1⟩; obtain ⟨c1, f1⟩ := bcell b1; have z1 : w.heap.size + 1 < w1.heap.size := (by have := b1.size; (try simp at this); omega))))
  refine bodyPost_ret (v := .agg #[.int .i64 A.x0, .int .i64 A.y0, .int .i64 A.x1, .int .i64 A.y1]) (by simp [results, Try.results52, go_sem, *]) rfl ⟨rfl, ?_⟩
  exact below_set4 (below_next (below_a2 _ _ _) b1) (by omega) _ _ _ _

theorem rplain_zero (A : Q) (w : World) (h : emptyQ A = true) :
    Calls Try.prog 43 #[.agg #[.int .i64 A.x0, .int .i64 A.y0, .int .i64 A.x1, .int .i64 A.y1]] w fun e w' => e = .returned (.agg #[.int .i64 0, .int .i64 0, .int .i64 0, .int .i64 0]) ∧ Below w.heap.size w w' := by
  have E := fun w => rempty_any A w
  rw [h] at E
  clear h
  go_enter Try.func43, Try.ntmps43
  go_wp2_with (first | (go_at_call 55; ((with_reducible refine (E _).mono ?_); rintro e w1 ⟨rfl, b1⟩; obtain ⟨c1, f1⟩ := bcell b1; have z1 : w.heap.size + 1 < w1.heap.size := (by have := b1.size; (try simp at this); omega))))
  refine bodyPost_ret (v := .agg #[.int .i64 0, .int .i64 0, .int .i64 0, .int .i64 0]) (by simp [results, Try.results43, go_sem, *]) rfl ⟨rfl, ?_⟩
  exact below_set4 (below_next (below_a2 _ _ _) b1) (by omega) _ _ _ _

theorem rplain_same (A : Q) (w : World) (h : emptyQ A = false) :
    Calls Try.prog 43 #[.agg #[.int .i64 A.x0, .int .i64 A.y0, .int .i64 A.x1, .int .i64 A.y1]] w fun e w' => e = .returned (.agg #[.int .i64 A.x0, .int .i64 A.y0, .int .i64 A.x1, .int .i64 A.y1]) ∧ Below w.heap.size w w' := by
  have E := fun w => rempty_any A w
  rw [h] at E
  clear h
  go_enter Try.func43, Try.ntmps43
  go_wp2_with (first | (go_at_call 55; ((with_reducible refine (E _).mono ?_); rintro e w1 ⟨rfl, b1⟩; obtain ⟨c1, f1⟩ := bcell b1; have z1 : w.heap.size + 1 < w1.heap.size := (by have := b1.size; (try simp at this); omega))))
  refine bodyPost_ret (v := .agg #[.int .i64 A.x0, .int .i64 A.y0, .int .i64 A.x1, .int .i64 A.y1]) (by simp [results, Try.results43, go_sem, *]) rfl ⟨rfl, ?_⟩
  exact below_set4 (below_next (below_a2 _ _ _) b1) (by omega) _ _ _ _

end Go.Proofs.Ytlbbigehjdnjmaa

namespace Go.Proofs.Ytlbbigehjdnjmaa
open Go.RowKit

theorem not_zero (A : Q) (h : emptyQ A = false) : eq4 A.x0 A.y0 A.x1 A.y1 0 0 0 0 = false := by
  unfold emptyQ at h
  unfold eq4
  simp only [Bool.or_eq_false_iff, decide_eq_false_iff_not] at h
  rw [Bool.eq_false_iff]
  intro c
  simp only [Bool.and_eq_true, beq_iff_eq] at c
  omega

theorem at_next {A : Q} {bk : Nat} {w w1 : World} (b : Below w.heap.size w w1) (h : bk < w.heap.size) (H : w.cell? ⟨bk, 0, none⟩ = some (.int .i64 A.x0) ∧ w.cell? ⟨bk, 1, none⟩ = some (.int .i64 A.y0) ∧ w.cell? ⟨bk, 2, none⟩ = some (.int .i64 A.x1) ∧ w.cell? ⟨bk, 3, none⟩ = some (.int .i64 A.y1)) : w1.cell? ⟨bk, 0, none⟩ = some (.int .i64 A.x0) ∧ w1.cell? ⟨bk, 1, none⟩ = some (.int .i64 A.y0) ∧ w1.cell? ⟨bk, 2, none⟩ = some (.int .i64 A.x1) ∧ w1.cell? ⟨bk, 3, none⟩ = some (.int .i64 A.y1) := by
  rw [b.cell (p := ⟨bk, 0, none⟩) h, b.cell (p := ⟨bk, 1, none⟩) h, b.cell (p := ⟨bk, 2, none⟩) h, b.cell (p := ⟨bk, 3, none⟩) h]; exact H
theorem fr_next {bk : Nat} {w w1 : World} (b : Below w.heap.size w w1) (h : bk < w.heap.size) (H : ∀ o, w.frozen? ⟨bk, o, none⟩ = false) : ∀ o, w1.frozen? ⟨bk, o, none⟩ = false := fun o => (b.frozen (p := ⟨bk, o, none⟩) h).trans (H o)
theorem lt_next {n : Nat} {w w1 : World} (b : Below w.heap.size w w1) (h : n < w.heap.size) : n < w1.heap.size := Nat.lt_of_lt_of_le h b.size

/-- the facts of a world in which the call's own three boxes lie -/
def In3 (w wx : World) (A B Z : Q) : Prop := Below w.heap.size w wx ∧ (w.heap.size < wx.heap.size ∧ w.heap.size + 1 < wx.heap.size ∧ w.heap.size + 1 + 1 < wx.heap.size) ∧ (wx.cell? ⟨w.heap.size, 0, none⟩ = some (.int .i64 A.x0) ∧ wx.cell? ⟨w.heap.size, 1, none⟩ = some (.int .i64 A.y0) ∧ wx.cell? ⟨w.heap.size, 2, none⟩ = some (.int .i64 A.x1) ∧ wx.cell? ⟨w.heap.size, 3, none⟩ = some (.int .i64 A.y1)) ∧ (wx.cell? ⟨w.heap.size + 1, 0, none⟩ = some (.int .i64 B.x0) ∧ wx.cell? ⟨w.heap.size + 1, 1, none⟩ = some (.int .i64 B.y0) ∧ wx.cell? ⟨w.heap.size + 1, 2, none⟩ = some (.int .i64 B.x1) ∧ wx.cell? ⟨w.heap.size + 1, 3, none⟩ = some (.int .i64 B.y1)) ∧ (wx.cell? ⟨w.heap.size + 1 + 1, 0, none⟩ = some (.int .i64 Z.x0) ∧ wx.cell? ⟨w.heap.size + 1 + 1, 1, none⟩ = some (.int .i64 Z.y0) ∧ wx.cell? ⟨w.heap.size + 1 + 1, 2, none⟩ = some (.int .i64 Z.x1) ∧ wx.cell? ⟨w.heap.size + 1 + 1, 3, none⟩ = some (.int .i64 Z.y1)) ∧
  (∀ o, wx.frozen? ⟨w.heap.size, o, none⟩ = false) ∧ (∀ o, wx.frozen? ⟨w.heap.size + 1, o, none⟩ = false) ∧ (∀ o, wx.frozen? ⟨w.heap.size + 1 + 1, o, none⟩ = false)

theorem In3.start (w : World) (A B Z : Q) : In3 w (((w.alloc (.cells #[.int .i64 A.x0, .int .i64 A.y0, .int .i64 A.x1, .int .i64 A.y1] 32)).alloc (.cells #[.int .i64 B.x0, .int .i64 B.y0, .int .i64 B.x1, .int .i64 B.y1] 32)).alloc (.cells #[.int .i64 Z.x0, .int .i64 Z.y0, .int .i64 Z.x1, .int .i64 Z.y1] 32)) A B Z := by
  refine ⟨below_a3 _ _ _ _, ⟨by simp <;> omega, by simp <;> omega, by simp <;> omega⟩, ⟨?_, ?_, ?_, ?_⟩, ⟨?_, ?_, ?_, ?_⟩, ⟨?_, ?_, ?_, ?_⟩, fun o => ?_, fun o => ?_, fun o => ?_⟩ <;> go_simp

theorem In3.next {w wx wy : World} {A B Z : Q} (h : In3 w wx A B Z) (b : Below wx.heap.size wx wy) : In3 w wy A B Z := by
  obtain ⟨h0, ⟨h1, h2, h3⟩, hA, hB, hZ, f1, f2, f3⟩ := h
  exact ⟨below_next h0 b, ⟨lt_next b h1, lt_next b h2, lt_next b h3⟩, at_next b h1 hA, at_next b h2 hB, at_next b h3 hZ, fr_next b h1 f1, fr_next b h2 f2, fr_next b h3 f3⟩

theorem In3.drew {w wx : World} {A B Z : Q} (h : In3 w wx A B Z) : In3 w wx.drew A B Z :=
  ⟨h.1.drew, h.2.1, h.2.2.1, h.2.2.2.1, h.2.2.2.2.1, h.2.2.2.2.2.1, h.2.2.2.2.2.2.1, h.2.2.2.2.2.2.2⟩

theorem set_at {A : Q} (wx : World) (bk : Nat) (A' : Q) (h : wx.cell? ⟨bk, 0, none⟩ = some (.int .i64 A.x0) ∧ wx.cell? ⟨bk, 1, none⟩ = some (.int .i64 A.y0) ∧ wx.cell? ⟨bk, 2, none⟩ = some (.int .i64 A.x1) ∧ wx.cell? ⟨bk, 3, none⟩ = some (.int .i64 A.y1)) :
    ((((wx.setCell ⟨bk, 0, none⟩ (.int .i64 A'.x0)).setCell ⟨bk, 1, none⟩ (.int .i64 A'.y0)).setCell ⟨bk, 2, none⟩ (.int .i64 A'.x1)).setCell ⟨bk, 3, none⟩ (.int .i64 A'.y1)).cell? ⟨bk, 0, none⟩ = some (.int .i64 A'.x0) ∧ ((((wx.setCell ⟨bk, 0, none⟩ (.int .i64 A'.x0)).setCell ⟨bk, 1, none⟩ (.int .i64 A'.y0)).setCell ⟨bk, 2, none⟩ (.int .i64 A'.x1)).setCell ⟨bk, 3, none⟩ (.int .i64 A'.y1)).cell? ⟨bk, 1, none⟩ = some (.int .i64 A'.y0) ∧ ((((wx.setCell ⟨bk, 0, none⟩ (.int .i64 A'.x0)).setCell ⟨bk, 1, none⟩ (.int .i64 A'.y0)).setCell ⟨bk, 2, none⟩ (.int .i64 A'.x1)).setCell ⟨bk, 3, none⟩ (.int .i64 A'.y1)).cell? ⟨bk, 2, none⟩ = some (.int .i64 A'.x1) ∧ ((((wx.setCell ⟨bk, 0, none⟩ (.int .i64 A'.x0)).setCell ⟨bk, 1, none⟩ (.int .i64 A'.y0)).setCell ⟨bk, 2, none⟩ (.int .i64 A'.x1)).setCell ⟨bk, 3, none⟩ (.int .i64 A'.y1)).cell? ⟨bk, 3, none⟩ = some (.int .i64 A'.y1) := by
  obtain ⟨h0, h1, h2, h3⟩ := h
  refine ⟨?_, ?_, ?_, ?_⟩ <;> go_simp

theorem set_other {A : Q} (wx : World) (bk b2 : Nat) (v0 v1 v2 v3 : Value) (hne : b2 ≠ bk) (h : wx.cell? ⟨b2, 0, none⟩ = some (.int .i64 A.x0) ∧ wx.cell? ⟨b2, 1, none⟩ = some (.int .i64 A.y0) ∧ wx.cell? ⟨b2, 2, none⟩ = some (.int .i64 A.x1) ∧ wx.cell? ⟨b2, 3, none⟩ = some (.int .i64 A.y1)) :
    ((((wx.setCell ⟨bk, 0, none⟩ v0).setCell ⟨bk, 1, none⟩ v1).setCell ⟨bk, 2, none⟩ v2).setCell ⟨bk, 3, none⟩ v3).cell? ⟨b2, 0, none⟩ = some (.int .i64 A.x0) ∧ ((((wx.setCell ⟨bk, 0, none⟩ v0).setCell ⟨bk, 1, none⟩ v1).setCell ⟨bk, 2, none⟩ v2).setCell ⟨bk, 3, none⟩ v3).cell? ⟨b2, 1, none⟩ = some (.int .i64 A.y0) ∧ ((((wx.setCell ⟨bk, 0, none⟩ v0).setCell ⟨bk, 1, none⟩ v1).setCell ⟨bk, 2, none⟩ v2).setCell ⟨bk, 3, none⟩ v3).cell? ⟨b2, 2, none⟩ = some (.int .i64 A.x1) ∧ ((((wx.setCell ⟨bk, 0, none⟩ v0).setCell ⟨bk, 1, none⟩ v1).setCell ⟨bk, 2, none⟩ v2).setCell ⟨bk, 3, none⟩ v3).cell? ⟨b2, 3, none⟩ = some (.int .i64 A.y1) := by
  obtain ⟨h0, h1, h2, h3⟩ := h
  have e1 : ¬ bk = b2 := fun c => hne c.symm
  refine ⟨?_, ?_, ?_, ?_⟩ <;> go_simp

theorem In3.set01 {w wx : World} {A B Z : Q} (h : In3 w wx A B Z) (A' B' : Q) :
    In3 w ((((((((wx.setCell ⟨w.heap.size, 0, none⟩ (.int .i64 A'.x0)).setCell ⟨w.heap.size, 1, none⟩ (.int .i64 A'.y0)).setCell ⟨w.heap.size, 2, none⟩ (.int .i64 A'.x1)).setCell ⟨w.heap.size, 3, none⟩ (.int .i64 A'.y1)).setCell ⟨w.heap.size + 1, 0, none⟩ (.int .i64 B'.x0)).setCell ⟨w.heap.size + 1, 1, none⟩ (.int .i64 B'.y0)).setCell ⟨w.heap.size + 1, 2, none⟩ (.int .i64 B'.x1)).setCell ⟨w.heap.size + 1, 3, none⟩ (.int .i64 B'.y1)) A' B' Z := by
  obtain ⟨h0, ⟨h1, h2, h3⟩, hA, hB, hZ, f1, f2, f3⟩ := h
  refine ⟨below_set4 (below_set4 h0 (by omega) _ _ _ _) (by omega) _ _ _ _, ⟨by simpa [World.setCell] using h1, by simpa [World.setCell] using h2, by simpa [World.setCell] using h3⟩, ?_, ?_, ?_, ?_, ?_, ?_⟩
  · exact set_other _ _ _ _ _ _ _ (by omega) (set_at _ _ _ hA)
  · exact set_at (A := B) _ _ _ (set_other _ _ _ _ _ _ _ (by omega) hB)
  · exact set_other _ _ _ _ _ _ _ (by omega) (set_other _ _ _ _ _ _ _ (by omega) hZ)
  · intro o; simp [f1]
  · intro o; simp [f2]
  · intro o; simp [f3]

end Go.Proofs.Ytlbbigehjdnjmaa

namespace Go.Proofs.Ytlbbigehjdnjmaa
open Go.RowKit

def joinQ (A B : Q) : Q := ⟨min A.x0 B.x0, min A.y0 B.y0, max A.x1 B.x1, max A.y1 B.y1⟩
def meetQ (A B : Q) : Q := ⟨max A.x0 B.x0, max A.y0 B.y0, min A.x1 B.x1, min A.y1 B.y1⟩

theorem meet_no1 (A B : Q) (w : World) (hA : mayQ A = false) :
    Calls Try.prog 47 #[.agg #[.int .i64 A.x0, .int .i64 A.y0, .int .i64 A.x1, .int .i64 A.y1], .agg #[.int .i64 B.x0, .int .i64 B.y0, .int .i64 B.x1, .int .i64 B.y1]] w fun e w' => e = .returned (.tuple #[.agg #[.int .i64 0, .int .i64 0, .int .i64 0, .int .i64 0], .int .i64 10]) ∧ Below w.heap.size w w' := by
  have M1 := fun w => mayBox_any A w
  rw [hA] at M1
  have I := In3.start w A B zeroQ
  go_enter Try.func47, Try.ntmps47
  go_wp2_with (first | (go_at_call 41; ((with_reducible refine (M1 _).mono ?_); rintro e w1 ⟨rfl, b1⟩; (first | have I := I.next b1 | have I := I.drew.next b1); obtain ⟨_, ⟨y1, y2, y3⟩, hA, hB, hZ, f1, f2, f3⟩ := id I)))
  refine bodyPost_ret (v := .tuple #[.agg #[.int .i64 0, .int .i64 0, .int .i64 0, .int .i64 0], .int .i64 10]) (by simp [results, Try.results47, go_sem, *]) rfl ⟨rfl, ?_⟩
  exact below_set4 I.1 (by omega) _ _ _ _

theorem meet_no2 (A B : Q) (w : World) (hA : mayQ A = true) (hB : mayQ B = false) :
    Calls Try.prog 47 #[.agg #[.int .i64 A.x0, .int .i64 A.y0, .int .i64 A.x1, .int .i64 A.y1], .agg #[.int .i64 B.x0, .int .i64 B.y0, .int .i64 B.x1, .int .i64 B.y1]] w fun e w' => e = .returned (.tuple #[.agg #[.int .i64 0, .int .i64 0, .int .i64 0, .int .i64 0], .int .i64 10]) ∧ Below w.heap.size w w' := by
  have M1 := fun w => mayBox_any A w
  have M2 := fun w => mayBox_any B w
  rw [hA] at M1
  rw [hB] at M2
  have I := In3.start w A B zeroQ
  go_enter Try.func47, Try.ntmps47
  go_wp2_with (first | (go_at_call 41; ((with_reducible refine (M1 _).mono ?_); rintro e w1 ⟨rfl, b1⟩; (first | have I := I.next b1 | have I := I.drew.next b1); obtain ⟨_, ⟨y1, y2, y3⟩, hA, hB, hZ, f1, f2, f3⟩ := id I)) | (go_at_call 41; ((with_reducible refine (M2 _).mono ?_); rintro e w2 ⟨rfl, b2⟩; (first | have I := I.next b2 | have I := I.drew.next b2); obtain ⟨_, ⟨y1, y2, y3⟩, hA, hB, hZ, f1, f2, f3⟩ := id I)))
  refine bodyPost_ret (v := .tuple #[.agg #[.int .i64 0, .int .i64 0, .int .i64 0, .int .i64 0], .int .i64 10]) (by simp [results, Try.results47, go_sem, *]) rfl ⟨rfl, ?_⟩
  exact below_set4 I.1 (by omega) _ _ _ _

theorem meet_gen (A B R : Q) (w : World) (hA : mayQ A = true) (hB : mayQ B = true)
    (P : ∀ w, Calls Try.prog 52 #[.agg #[.int .i64 (max A.x0 B.x0), .int .i64 (max A.y0 B.y0), .int .i64 (min A.x1 B.x1), .int .i64 (min A.y1 B.y1)]] w fun e w' => e = .returned (.agg #[.int .i64 R.x0, .int .i64 R.y0, .int .i64 R.x1, .int .i64 R.y1]) ∧ Below w.heap.size w w') :
    Calls Try.prog 47 #[.agg #[.int .i64 A.x0, .int .i64 A.y0, .int .i64 A.x1, .int .i64 A.y1], .agg #[.int .i64 B.x0, .int .i64 B.y0, .int .i64 B.x1, .int .i64 B.y1]] w fun e w' => e = .returned (.tuple #[.agg #[.int .i64 R.x0, .int .i64 R.y0, .int .i64 R.x1, .int .i64 R.y1], .int .i64 0]) ∧ Below w.heap.size w w' := by
  have M1 := fun w => mayBox_any A w
  have M2 := fun w => mayBox_any B w
  rw [hA] at M1
  rw [hB] at M2
  clear hA hB
  have I := In3.start w A B zeroQ
  go_enter Try.func47, Try.ntmps47
  go_wp2_with (first | (go_at_call 41; ((with_reducible refine (M1 _).mono ?_); rintro e w1 ⟨rfl, b1⟩; (first | have I := I.next b1 | have I := I.drew.next b1); obtain ⟨_, ⟨y1, y2, y3⟩, hA, hB, hZ, f1, f2, f3⟩ := id I)) | (go_at_call 41; ((with_reducible refine (M2 _).mono ?_); rintro e w2 ⟨rfl, b2⟩; (first | have I := I.next b2 | have I := I.drew.next b2); obtain ⟨_, ⟨y1, y2, y3⟩, hA, hB, hZ, f1, f2, f3⟩ := id I)) | (go_at_call 56; ((with_reducible refine (between_meet A B _).mono ?_); rintro e w3 ⟨rfl, b3⟩; (first | have I := I.next b3 | have I := I.drew.next b3); obtain ⟨_, ⟨y1, y2, y3⟩, hA, hB, hZ, f1, f2, f3⟩ := id I)) | (go_at_call 52; ((with_reducible refine (P _).mono ?_); rintro e w4 ⟨rfl, b4⟩; (first | have I := I.next b4 | have I := I.drew.next b4); obtain ⟨_, ⟨y1, y2, y3⟩, hA, hB, hZ, f1, f2, f3⟩ := id I)))
  refine bodyPost_ret (v := .tuple #[.agg #[.int .i64 R.x0, .int .i64 R.y0, .int .i64 R.x1, .int .i64 R.y1], .int .i64 0]) (by simp [results, Try.results47, go_sem, *]) rfl ⟨rfl, ?_⟩
  exact below_set4 I.1 (by omega) _ _ _ _

def joinR (A B : Q) : Q := if emptyQ A then plainQ B else if emptyQ B then A else joinQ A B
def meetR (A B : Q) : Q := plainQ (meetQ A B)

theorem plain_any (A : Q) (w : World) : Calls Try.prog 52 #[.agg #[.int .i64 A.x0, .int .i64 A.y0, .int .i64 A.x1, .int .i64 A.y1]] w fun e w' => e = .returned (.agg #[.int .i64 (plainQ A).x0, .int .i64 (plainQ A).y0, .int .i64 (plainQ A).x1, .int .i64 (plainQ A).y1]) ∧ Below w.heap.size w w' := by
  unfold plainQ
  by_cases h : emptyQ A = true
  · rw [if_pos h]; exact plain_zero A w h
  · rw [if_neg h]; exact plain_same A w (by simpa using h)

theorem plain_eq4 (A : Q) : eq4 (plainQ A).x0 (plainQ A).y0 (plainQ A).x1 (plainQ A).y1 0 0 0 0 = emptyQ A := by
  unfold plainQ
  by_cases h : emptyQ A = true
  · rw [if_pos h, h]; rfl
  · rw [if_neg h, show emptyQ A = false by simpa using h]; exact not_zero A (by simpa using h)

theorem meet_any (A B : Q) (w : World) (hA : mayQ A = true) (hB : mayQ B = true) :
    Calls Try.prog 47 #[.agg #[.int .i64 A.x0, .int .i64 A.y0, .int .i64 A.x1, .int .i64 A.y1], .agg #[.int .i64 B.x0, .int .i64 B.y0, .int .i64 B.x1, .int .i64 B.y1]] w fun e w' => e = .returned (.tuple #[.agg #[.int .i64 (meetR A B).x0, .int .i64 (meetR A B).y0, .int .i64 (meetR A B).x1, .int .i64 (meetR A B).y1], .int .i64 0]) ∧ Below w.heap.size w w' :=
  meet_gen A B (meetR A B) w hA hB (plain_any (meetQ A B))

end Go.Proofs.Ytlbbigehjdnjmaa

namespace Go.Proofs.Ytlbbigehjdnjmaa
open Go.RowKit

/-- the facts of a world in which the call's own two boxes lie -/
def In2 (w wx : World) (A Z : Q) : Prop := Below w.heap.size w wx ∧ (w.heap.size < wx.heap.size ∧ w.heap.size + 1 < wx.heap.size) ∧ (wx.cell? ⟨w.heap.size, 0, none⟩ = some (.int .i64 A.x0) ∧ wx.cell? ⟨w.heap.size, 1, none⟩ = some (.int .i64 A.y0) ∧ wx.cell? ⟨w.heap.size, 2, none⟩ = some (.int .i64 A.x1) ∧ wx.cell? ⟨w.heap.size, 3, none⟩ = some (.int .i64 A.y1)) ∧ (wx.cell? ⟨w.heap.size + 1, 0, none⟩ = some (.int .i64 Z.x0) ∧ wx.cell? ⟨w.heap.size + 1, 1, none⟩ = some (.int .i64 Z.y0) ∧ wx.cell? ⟨w.heap.size + 1, 2, none⟩ = some (.int .i64 Z.x1) ∧ wx.cell? ⟨w.heap.size + 1, 3, none⟩ = some (.int .i64 Z.y1)) ∧ (∀ o, wx.frozen? ⟨w.heap.size, o, none⟩ = false) ∧ (∀ o, wx.frozen? ⟨w.heap.size + 1, o, none⟩ = false)

theorem In2.start (w : World) (A Z : Q) : In2 w ((w.alloc (.cells #[.int .i64 A.x0, .int .i64 A.y0, .int .i64 A.x1, .int .i64 A.y1] 32)).alloc (.cells #[.int .i64 Z.x0, .int .i64 Z.y0, .int .i64 Z.x1, .int .i64 Z.y1] 32)) A Z := by
  refine ⟨below_a2 _ _ _, ⟨by simp <;> omega, by simp <;> omega⟩, ⟨?_, ?_, ?_, ?_⟩, ⟨?_, ?_, ?_, ?_⟩, fun o => ?_, fun o => ?_⟩ <;> go_simp

theorem In2.next {w wx wy : World} {A Z : Q} (h : In2 w wx A Z) (b : Below wx.heap.size wx wy) : In2 w wy A Z := by
  obtain ⟨h0, ⟨h1, h2⟩, hA, hZ, f1, f2⟩ := h
  exact ⟨below_next h0 b, ⟨lt_next b h1, lt_next b h2⟩, at_next b h1 hA, at_next b h2 hZ, fr_next b h1 f1, fr_next b h2 f2⟩

theorem In2.drewN {w wx : World} {A Z : Q} (h : In2 w wx A Z) (k : Nat) : In2 w (wx.drewN k) A Z :=
  ⟨below_drewN h.1 k, h.2.1, h.2.2.1, h.2.2.2.1, h.2.2.2.2.1, h.2.2.2.2.2⟩

/-- the facts of a world in which the call's own one box lies -/
def In1 (w wx : World) (A : Q) : Prop := Below w.heap.size w wx ∧ w.heap.size < wx.heap.size ∧ (wx.cell? ⟨w.heap.size, 0, none⟩ = some (.int .i64 A.x0) ∧ wx.cell? ⟨w.heap.size, 1, none⟩ = some (.int .i64 A.y0) ∧ wx.cell? ⟨w.heap.size, 2, none⟩ = some (.int .i64 A.x1) ∧ wx.cell? ⟨w.heap.size, 3, none⟩ = some (.int .i64 A.y1))

theorem In1.start (w : World) (A : Q) : In1 w (w.alloc (.cells #[.int .i64 A.x0, .int .i64 A.y0, .int .i64 A.x1, .int .i64 A.y1] 32)) A := by
  refine ⟨below_a1 _ _, by simp, ?_, ?_, ?_, ?_⟩ <;> go_simp

theorem In1.next {w wx wy : World} {A : Q} (h : In1 w wx A) (b : Below wx.heap.size wx wy) : In1 w wy A := by
  obtain ⟨h0, h1, hA⟩ := h
  exact ⟨below_next h0 b, lt_next b h1, at_next b h1 hA⟩

def holdsQ (A : Q) (x y : Int) : Bool := mayQ A && (decide (A.x0 ≤ x) && decide (x < A.x1) && decide (A.y0 ≤ y) && decide (y < A.y1))

theorem holds_any (A : Q) (x y : Int) (w : World) :
    Calls Try.prog 35 #[.agg #[.int .i64 A.x0, .int .i64 A.y0, .int .i64 A.x1, .int .i64 A.y1], .int .i64 x, .int .i64 y] w fun e w' => e = .returned (.bool (holdsQ A x y)) ∧ Below w.heap.size w w' := by
  have M := fun w => mayBox_any A w
  have I := In1.start w A
  unfold holdsQ
  by_cases hm : mayQ A = true
  · rw [hm] at M ⊢
    clear hm
    by_cases h1 : A.x0 ≤ x <;> by_cases h2 : x < A.x1 <;> by_cases h3 : A.y0 ≤ y <;> by_cases h4 : y < A.y1
    all_goals
      go_enter Try.func35, Try.ntmps35
      go_wp2_with (first | (go_at_call 41; ((with_reducible refine (M _).mono ?_); rintro e w1 ⟨rfl, b1⟩; have I := I.next b1; obtain ⟨_, y1, hA⟩ := id I)))
      go_ret
      refine ⟨?_, I.1⟩
      simp [h1, h2, h3, h4]
  · rw [show mayQ A = false by simpa using hm] at M ⊢
    clear hm
    go_enter Try.func35, Try.ntmps35
    go_wp2_with (first | (go_at_call 41; ((with_reducible refine (M _).mono ?_); rintro e w1 ⟨rfl, b1⟩; have I := I.next b1; obtain ⟨_, y1, hA⟩ := id I)))
    go_ret
    exact ⟨rfl, I.1⟩

theorem mayQ_lims {A : Q} (h : mayQ A = true) : (-2147483648 ≤ A.x0 ∧ A.x0 ≤ 2147483648) ∧ (-2147483648 ≤ A.y0 ∧ A.y0 ≤ 2147483648) ∧ (-2147483648 ≤ A.x1 ∧ A.x1 ≤ 2147483648) ∧ (-2147483648 ≤ A.y1 ∧ A.y1 ≤ 2147483648) := by
  unfold mayQ at h
  simp only [Bool.and_eq_true] at h
  exact ⟨⟨mayB_lo h.1.1.1, mayB_hi h.1.1.1⟩, ⟨mayB_lo h.1.1.2, mayB_hi h.1.1.2⟩, ⟨mayB_lo h.1.2, mayB_hi h.1.2⟩, ⟨mayB_lo h.2, mayB_hi h.2⟩⟩

theorem plain_lims {A : Q} (h : mayQ A = true) : (-2147483648 ≤ (plainQ A).x0 ∧ (plainQ A).x0 ≤ 2147483648) ∧ (-2147483648 ≤ (plainQ A).y0 ∧ (plainQ A).y0 ≤ 2147483648) ∧ (-2147483648 ≤ (plainQ A).x1 ∧ (plainQ A).x1 ≤ 2147483648) ∧ (-2147483648 ≤ (plainQ A).y1 ∧ (plainQ A).y1 ≤ 2147483648) := by
  unfold plainQ
  split
  · decide
  · exact mayQ_lims h

theorem area_no (A : Q) (w : World) (hm : mayQ A = false) :
    Calls Try.prog 61 #[.agg #[.int .i64 A.x0, .int .i64 A.y0, .int .i64 A.x1, .int .i64 A.y1]] w fun e w' => e = .returned (.tuple #[.int .i64 0, .int .i64 10]) ∧ Below w.heap.size w w' := by
  have M := fun w => mayBox_any A w
  rw [hm] at M
  have I := In1.start w A
  go_enter Try.func61, Try.ntmps61
  go_wp2_with (first | (go_at_call 41; ((with_reducible refine (M _).mono ?_); rintro e w1 ⟨rfl, b1⟩; have I := I.next b1; obtain ⟨_, y1, hA⟩ := id I)))
  go_ret2
  exact ⟨rfl, I.1⟩

theorem area_none (A : Q) (w : World) (hm : mayQ A = true) (he : emptyQ A = true) :
    Calls Try.prog 61 #[.agg #[.int .i64 A.x0, .int .i64 A.y0, .int .i64 A.x1, .int .i64 A.y1]] w fun e w' => e = .returned (.tuple #[.int .i64 0, .int .i64 0]) ∧ Below w.heap.size w w' := by
  have M := fun w => mayBox_any A w
  have P := fun w => plain_zero A w he
  have q1 := fun w => eqB_run 0 0 0 0 0 0 0 0 w
  have q2 := fun x y w => eqB_guard 0 0 0 0 0 0 0 0 x y w
  rw [show eq4 0 0 0 0 0 0 0 0 = true from rfl] at q1
  rw [hm] at M
  have I := In1.start w A
  go_enter Try.func61, Try.ntmps61
  go_wp2_with (first | (go_at_call 41; ((with_reducible refine (M _).mono ?_); rintro e w1 ⟨rfl, b1⟩; have I := I.next b1; obtain ⟨_, y1, hA⟩ := id I)) | (go_at_call 52; ((with_reducible refine (P _).mono ?_); rintro e w2 ⟨rfl, b2⟩; have I := I.next b2; obtain ⟨_, y1, hA⟩ := id I)))
  go_ret2
  exact ⟨rfl, I.1⟩

end Go.Proofs.Ytlbbigehjdnjmaa
