/- Part 7 of the proof: Aff1, Rnd, Aff2, Box1, Box2, Box3, Box4, Box5, Hull, Hull2. -/
import Derived.Deep.RegionHeld3
import Derived.StillTailTactics
import Derived.Deep.RegionWith
import Derived.Deep.DeepCutAuto
import Derived.Test.YtlacjifnniahhaaCFl5

namespace Go.Proofs.Ytlacjifnniahhaa
open Go.RowKit

/-- a number of a matrix, cut off -/
def clampP (x : Int) : Int := min (max x (-32768)) 32767
def fitB (x : Int) : Bool := decide (-32768 ≤ x) && decide (x < 32768)

theorem bcell {W w1 : World} (hb : Below W.heap.size W w1) : (∀ b o, b < W.heap.size → w1.cell? ⟨b, o, none⟩ = W.cell? ⟨b, o, none⟩) ∧ (∀ b o, b < W.heap.size → w1.frozen? ⟨b, o, none⟩ = W.frozen? ⟨b, o, none⟩) :=
  ⟨fun _ _ h => hb.cell h, fun _ _ h => hb.frozen h⟩

/-- may a matrix be? -/
def fitM (a b c d : Int) : Bool := fitB a && fitB b && fitB c && fitB d

theorem clamp_fit (a : Int) : (a == clampP a) = fitB a := by
  unfold fitB clampP
  rw [Bool.eq_iff_iff]; simp; omega

theorem eq4_clamp (a b c d : Int) : eq4 a b c d (clampP a) (clampP b) (clampP c) (clampP d) = fitM a b c d := by
  unfold eq4 fitM; rw [clamp_fit, clamp_fit, clamp_fit, clamp_fit]

end Go.Proofs.Ytlacjifnniahhaa

namespace Go.Proofs.Ytlacjifnniahhaa
open Go.RowKit

theorem i64_mask (n : Int) (k : Nat) (hk : k ≤ 62) : bits .and .i64 n ((2 ^ k - 1 : Nat) : Int) = n % ((2 ^ k : Nat) : Int) := by
  have hlt : 2 ^ k ≤ 2 ^ 62 := Nat.pow_le_pow_right (by omega) hk
  have hpos : 0 < 2 ^ k := Nat.two_pow_pos k
  have h1 : (BitVec.ofInt 64 ((2 ^ k - 1 : Nat) : Int)).toNat = 2 ^ k - 1 := by
    rw [BitVec.ofInt_natCast, BitVec.toNat_ofNat]; exact Nat.mod_eq_of_lt (by omega)
  have key : (BitVec.ofInt 64 n &&& BitVec.ofInt 64 ((2 ^ k - 1 : Nat) : Int)).toNat = (n % ((2 ^ 64 : Nat) : Int)).toNat % 2 ^ k := by
    rw [BitVec.toNat_and, BitVec.toNat_ofInt, h1, Nat.and_two_pow_sub_one_eq_mod]
  show IntKind.i64.wrap ((BitVec.ofInt 64 n &&& BitVec.ofInt 64 ((2 ^ k - 1 : Nat) : Int)).toNat : Nat) = _
  have hd : ((2 ^ k : Nat) : Int) ∣ ((2 ^ 64 : Nat) : Int) := Int.natCast_dvd_natCast.mpr (Nat.pow_dvd_pow 2 (by omega))
  have hm : n % ((2 ^ 64 : Nat) : Int) % ((2 ^ k : Nat) : Int) = n % ((2 ^ k : Nat) : Int) := Int.emod_emod_of_dvd n hd
  have h0 : 0 ≤ n % ((2 ^ 64 : Nat) : Int) := Int.emod_nonneg n (by omega)
  have hb := Int.emod_lt_of_pos n (show (0 : Int) < ((2 ^ k : Nat) : Int) by omega)
  have hb0 := Int.emod_nonneg n (show ((2 ^ k : Nat) : Int) ≠ 0 by omega)
  rw [key, Int.natCast_emod, Int.toNat_of_nonneg h0, hm]
  exact IntWalk.i64_in _ (by omega)

theorem i64_and63 (n : Int) : bits .and .i64 n 63 = n % 64 := i64_mask n 6 (by decide)
theorem i64_and1 (n : Int) : bits .and .i64 n 1 = n % 2 := i64_mask n 1 (by decide)

theorem floor26_any (x : Int) (w : World) :
    Calls Try.prog 50 #[.int .i64 x] w fun e w' => e = .returned (.int .i64 (x / 64)) ∧ w = w' := by
  go_enter Try.func50, Try.ntmps50
  go_wp2
  go_ret
  exact ⟨rfl, rfl⟩

theorem ceil26_any (x : Int) (w : World) (h1 : -9223372036854775808 ≤ x) (h2 : x ≤ 9223372036854775807) :
    Calls Try.prog 51 #[.int .i64 x] w fun e w' => e = .returned (.int .i64 ((x + 63) / 64)) ∧ w = w' := by
  have hb := i64_and63 x
  by_cases h : x % 64 ≤ 1
  all_goals
    go_enter Try.func51, Try.ntmps51
    go_wp2
    all_goals go_ret
    all_goals exact ⟨ret_int (by omega), rfl⟩

end Go.Proofs.Ytlacjifnniahhaa

namespace Go.Proofs.Ytlacjifnniahhaa
open Go.RowKit

theorem fitB_lo {x : Int} (h : fitB x = true) : -32768 ≤ x := by unfold fitB at h; simp at h; exact h.1
theorem fitB_hi {x : Int} (h : fitB x = true) : x < 32768 := by unfold fitB at h; simp at h; exact h.2
theorem prod_lim {x a : Int} (hx : mayB x = true) (ha : fitB a = true) : -70368744177664 ≤ x * a ∧ x * a ≤ 70368744177664 :=
  mul_bound 2147483648 32768 (mayB_lo hx) (mayB_hi hx) (fitB_lo ha) (by have := fitB_hi ha; omega)

/-- what Apply answers: the error, and the two numbers behind the matrix -/
def apX (a c x y : Int) : Int := near (x * a + y * c) 16384
def apE (a b c d x y : Int) : Int := if fitM a b c d then (if mayB x && mayB y then (if mayB (apX a c x y) && mayB (apX b d x y) then 0 else 10) else 10) else 1
def apR (e v : Int) : Int := if e = 0 then v else 0

theorem ret_iii {a b c a' b' c' : Int} (h : a = a') (g : b = b') (k : c = c') : Ending.returned (.tuple #[.int .i64 a, .int .i64 b, .int .i64 c]) = .returned (.tuple #[.int .i64 a', .int .i64 b', .int .i64 c']) := by rw [h, g, k]

end Go.Proofs.Ytlacjifnniahhaa

namespace Go.Proofs.Ytlacjifnniahhaa
open Go.RowKit

/-- a box's four numbers -/
structure Q where
  x0 : Int
  y0 : Int
  x1 : Int
  y1 : Int
deriving DecidableEq

def mayQ (A : Q) : Bool := mayB A.x0 && mayB A.y0 && mayB A.x1 && mayB A.y1
def emptyQ (A : Q) : Bool := decide (A.x1 ≤ A.x0) || decide (A.y1 ≤ A.y0)
def zeroQ : Q := ⟨0, 0, 0, 0⟩
def plainQ (A : Q) : Q := if emptyQ A then zeroQ else A
def dropV (x : Int) : Int := if mayB x then x else 0

theorem drop_eq (x : Int) : (x == dropV x) = mayB x := by
  unfold dropV
  by_cases h : mayB x = true
  · simp [h]
  · have h' : mayB x = false := by simpa using h
    rw [h']
    have : x ≠ 0 := by rintro rfl; exact h (by decide)
    simp [this]

theorem eq4_drop (A : Q) : eq4 A.x0 A.y0 A.x1 A.y1 (dropV A.x0) (dropV A.y0) (dropV A.x1) (dropV A.y1) = mayQ A := by
  unfold eq4 mayQ; rw [drop_eq, drop_eq, drop_eq, drop_eq]

theorem least_any (x y : Int) (w : World) : Calls Try.prog 78 #[.int .i64 x, .int .i64 y] w fun e w' => e = .returned (.int .i64 (min x y)) ∧ w = w' := by
  by_cases h : x < y
  all_goals
    go_enter Try.func78, Try.ntmps78
    go_wp2
    all_goals go_ret
    all_goals exact ⟨ret_int (by omega), rfl⟩

theorem most_any (x y : Int) (w : World) : Calls Try.prog 79 #[.int .i64 x, .int .i64 y] w fun e w' => e = .returned (.int .i64 (max x y)) ∧ w = w' := by
  by_cases h : x < y
  all_goals
    go_enter Try.func79, Try.ntmps79
    go_wp2
    all_goals go_ret
    all_goals exact ⟨ret_int (by omega), rfl⟩

theorem empty_any (A : Q) (w : World) :
    Calls Try.prog 52 #[.agg #[.int .i64 A.x0, .int .i64 A.y0, .int .i64 A.x1, .int .i64 A.y1]] w fun e w' => e = .returned (.bool (emptyQ A)) ∧ Below w.heap.size w w' := by
  unfold emptyQ
  by_cases h1 : A.x1 ≤ A.x0 <;> by_cases h2 : A.y1 ≤ A.y0
  all_goals
    go_enter Try.func52, Try.ntmps52
    go_wp2
    go_ret
    refine ⟨?_, below_a1 _ _⟩
    simp [h1, h2]

end Go.Proofs.Ytlacjifnniahhaa

namespace Go.Proofs.Ytlacjifnniahhaa
open Go.RowKit

theorem below_set4 {B b : Nat} {a w : World} (h : Below B a w) (hb : B ≤ b) (v0 v1 v2 v3 : Value) :
    Below B a ((((w.setCell ⟨b, 0, none⟩ v0).setCell ⟨b, 1, none⟩ v1).setCell ⟨b, 2, none⟩ v2).setCell ⟨b, 3, none⟩ v3) :=
  (((h.setCell hb _).setCell hb _).setCell hb _).setCell hb _

end Go.Proofs.Ytlacjifnniahhaa

namespace Go.Proofs.Ytlacjifnniahhaa
open Go.RowKit

theorem not_zero (A : Q) (h : emptyQ A = false) : eq4 A.x0 A.y0 A.x1 A.y1 0 0 0 0 = false := by
  unfold emptyQ at h
  unfold eq4
  simp only [Bool.or_eq_false_iff, decide_eq_false_iff_not] at h
  rw [Bool.eq_false_iff]
  intro c
  simp only [Bool.and_eq_true, beq_iff_eq] at c
  omega

theorem at_next {A : Q} {bk : Nat} {w w1 : World} (b : Below w.heap.size w w1) (h : bk < w.heap.size) (H : w.cell? ⟨bk, 0, none⟩ = some (.int .i64 A.x0) ∧ w.cell? ⟨bk, 1, none⟩ = some (.int .i64 A.y0) ∧ w.cell? ⟨bk, 2, none⟩ = some (.int .i64 A.x1) ∧ w.cell? ⟨bk, 3, none⟩ = some (.int .i64 A.y1)) : w1.cell? ⟨bk, 0, none⟩ = some (.int .i64 A.x0) ∧ w1.cell? ⟨bk, 1, none⟩ = some (.int .i64 A.y0) ∧ w1.cell? ⟨bk, 2, none⟩ = some (.int .i64 A.x1) ∧ w1.cell? ⟨bk, 3, none⟩ = some (.int .i64 A.y1) := by
  rw [b.cell (p := ⟨bk, 0, none⟩) h, b.cell (p := ⟨bk, 1, none⟩) h, b.cell (p := ⟨bk, 2, none⟩) h, b.cell (p := ⟨bk, 3, none⟩) h]; exact H
theorem fr_next {bk : Nat} {w w1 : World} (b : Below w.heap.size w w1) (h : bk < w.heap.size) (H : ∀ o, w.frozen? ⟨bk, o, none⟩ = false) : ∀ o, w1.frozen? ⟨bk, o, none⟩ = false := fun o => (b.frozen (p := ⟨bk, o, none⟩) h).trans (H o)
theorem lt_next {n : Nat} {w w1 : World} (b : Below w.heap.size w w1) (h : n < w.heap.size) : n < w1.heap.size := Nat.lt_of_lt_of_le h b.size

/-- the facts of a world in which the call's own three boxes lie -/
def In3 (w wx : World) (A B Z : Q) : Prop := Below w.heap.size w wx ∧ (w.heap.size < wx.heap.size ∧ w.heap.size + 1 < wx.heap.size ∧ w.heap.size + 1 + 1 < wx.heap.size) ∧ (wx.cell? ⟨w.heap.size, 0, none⟩ = some (.int .i64 A.x0) ∧ wx.cell? ⟨w.heap.size, 1, none⟩ = some (.int .i64 A.y0) ∧ wx.cell? ⟨w.heap.size, 2, none⟩ = some (.int .i64 A.x1) ∧ wx.cell? ⟨w.heap.size, 3, none⟩ = some (.int .i64 A.y1)) ∧ (wx.cell? ⟨w.heap.size + 1, 0, none⟩ = some (.int .i64 B.x0) ∧ wx.cell? ⟨w.heap.size + 1, 1, none⟩ = some (.int .i64 B.y0) ∧ wx.cell? ⟨w.heap.size + 1, 2, none⟩ = some (.int .i64 B.x1) ∧ wx.cell? ⟨w.heap.size + 1, 3, none⟩ = some (.int .i64 B.y1)) ∧ (wx.cell? ⟨w.heap.size + 1 + 1, 0, none⟩ = some (.int .i64 Z.x0) ∧ wx.cell? ⟨w.heap.size + 1 + 1, 1, none⟩ = some (.int .i64 Z.y0) ∧ wx.cell? ⟨w.heap.size + 1 + 1, 2, none⟩ = some (.int .i64 Z.x1) ∧ wx.cell? ⟨w.heap.size + 1 + 1, 3, none⟩ = some (.int .i64 Z.y1)) ∧
  (∀ o, wx.frozen? ⟨w.heap.size, o, none⟩ = false) ∧ (∀ o, wx.frozen? ⟨w.heap.size + 1, o, none⟩ = false) ∧ (∀ o, wx.frozen? ⟨w.heap.size + 1 + 1, o, none⟩ = false)

theorem In3.start (w : World) (A B Z : Q) : In3 w (((w.alloc (.cells #[.int .i64 A.x0, .int .i64 A.y0, .int .i64 A.x1, .int .i64 A.y1] 48)).alloc (.cells #[.int .i64 B.x0, .int .i64 B.y0, .int .i64 B.x1, .int .i64 B.y1] 48)).alloc (.cells #[.int .i64 Z.x0, .int .i64 Z.y0, .int .i64 Z.x1, .int .i64 Z.y1] 48)) A B Z := by
  refine ⟨below_a3 _ _ _ _, ⟨by simp <;> omega, by simp <;> omega, by simp <;> omega⟩, ⟨?_, ?_, ?_, ?_⟩, ⟨?_, ?_, ?_, ?_⟩, ⟨?_, ?_, ?_, ?_⟩, fun o => ?_, fun o => ?_, fun o => ?_⟩ <;> go_simp

theorem In3.next {w wx wy : World} {A B Z : Q} (h : In3 w wx A B Z) (b : Below wx.heap.size wx wy) : In3 w wy A B Z := by
  obtain ⟨h0, ⟨h1, h2, h3⟩, hA, hB, hZ, f1, f2, f3⟩ := h
  exact ⟨below_next h0 b, ⟨lt_next b h1, lt_next b h2, lt_next b h3⟩, at_next b h1 hA, at_next b h2 hB, at_next b h3 hZ, fr_next b h1 f1, fr_next b h2 f2, fr_next b h3 f3⟩

theorem In3.drew {w wx : World} {A B Z : Q} (h : In3 w wx A B Z) : In3 w wx.drew A B Z :=
  ⟨h.1.drew, h.2.1, h.2.2.1, h.2.2.2.1, h.2.2.2.2.1, h.2.2.2.2.2.1, h.2.2.2.2.2.2.1, h.2.2.2.2.2.2.2⟩

theorem set_at {A : Q} (wx : World) (bk : Nat) (A' : Q) (h : wx.cell? ⟨bk, 0, none⟩ = some (.int .i64 A.x0) ∧ wx.cell? ⟨bk, 1, none⟩ = some (.int .i64 A.y0) ∧ wx.cell? ⟨bk, 2, none⟩ = some (.int .i64 A.x1) ∧ wx.cell? ⟨bk, 3, none⟩ = some (.int .i64 A.y1)) :
    ((((wx.setCell ⟨bk, 0, none⟩ (.int .i64 A'.x0)).setCell ⟨bk, 1, none⟩ (.int .i64 A'.y0)).setCell ⟨bk, 2, none⟩ (.int .i64 A'.x1)).setCell ⟨bk, 3, none⟩ (.int .i64 A'.y1)).cell? ⟨bk, 0, none⟩ = some (.int .i64 A'.x0) ∧ ((((wx.setCell ⟨bk, 0, none⟩ (.int .i64 A'.x0)).setCell ⟨bk, 1, none⟩ (.int .i64 A'.y0)).setCell ⟨bk, 2, none⟩ (.int .i64 A'.x1)).setCell ⟨bk, 3, none⟩ (.int .i64 A'.y1)).cell? ⟨bk, 1, none⟩ = some (.int .i64 A'.y0) ∧ ((((wx.setCell ⟨bk, 0, none⟩ (.int .i64 A'.x0)).setCell ⟨bk, 1, none⟩ (.int .i64 A'.y0)).setCell ⟨bk, 2, none⟩ (.int .i64 A'.x1)).setCell ⟨bk, 3, none⟩ (.int .i64 A'.y1)).cell? ⟨bk, 2, none⟩ = some (.int .i64 A'.x1) ∧ ((((wx.setCell ⟨bk, 0, none⟩ (.int .i64 A'.x0)).setCell ⟨bk, 1, none⟩ (.int .i64 A'.y0)).setCell ⟨bk, 2, none⟩ (.int .i64 A'.x1)).setCell ⟨bk, 3, none⟩ (.int .i64 A'.y1)).cell? ⟨bk, 3, none⟩ = some (.int .i64 A'.y1) := by
  obtain ⟨h0, h1, h2, h3⟩ := h
  refine ⟨?_, ?_, ?_, ?_⟩ <;> go_simp

theorem set_other {A : Q} (wx : World) (bk b2 : Nat) (v0 v1 v2 v3 : Value) (hne : b2 ≠ bk) (h : wx.cell? ⟨b2, 0, none⟩ = some (.int .i64 A.x0) ∧ wx.cell? ⟨b2, 1, none⟩ = some (.int .i64 A.y0) ∧ wx.cell? ⟨b2, 2, none⟩ = some (.int .i64 A.x1) ∧ wx.cell? ⟨b2, 3, none⟩ = some (.int .i64 A.y1)) :
    ((((wx.setCell ⟨bk, 0, none⟩ v0).setCell ⟨bk, 1, none⟩ v1).setCell ⟨bk, 2, none⟩ v2).setCell ⟨bk, 3, none⟩ v3).cell? ⟨b2, 0, none⟩ = some (.int .i64 A.x0) ∧ ((((wx.setCell ⟨bk, 0, none⟩ v0).setCell ⟨bk, 1, none⟩ v1).setCell ⟨bk, 2, none⟩ v2).setCell ⟨bk, 3, none⟩ v3).cell? ⟨b2, 1, none⟩ = some (.int .i64 A.y0) ∧ ((((wx.setCell ⟨bk, 0, none⟩ v0).setCell ⟨bk, 1, none⟩ v1).setCell ⟨bk, 2, none⟩ v2).setCell ⟨bk, 3, none⟩ v3).cell? ⟨b2, 2, none⟩ = some (.int .i64 A.x1) ∧ ((((wx.setCell ⟨bk, 0, none⟩ v0).setCell ⟨bk, 1, none⟩ v1).setCell ⟨bk, 2, none⟩ v2).setCell ⟨bk, 3, none⟩ v3).cell? ⟨b2, 3, none⟩ = some (.int .i64 A.y1) := by
  obtain ⟨h0, h1, h2, h3⟩ := h
  have e1 : ¬ bk = b2 := fun c => hne c.symm
  refine ⟨?_, ?_, ?_, ?_⟩ <;> go_simp

theorem In3.set01 {w wx : World} {A B Z : Q} (h : In3 w wx A B Z) (A' B' : Q) :
    In3 w ((((((((wx.setCell ⟨w.heap.size, 0, none⟩ (.int .i64 A'.x0)).setCell ⟨w.heap.size, 1, none⟩ (.int .i64 A'.y0)).setCell ⟨w.heap.size, 2, none⟩ (.int .i64 A'.x1)).setCell ⟨w.heap.size, 3, none⟩ (.int .i64 A'.y1)).setCell ⟨w.heap.size + 1, 0, none⟩ (.int .i64 B'.x0)).setCell ⟨w.heap.size + 1, 1, none⟩ (.int .i64 B'.y0)).setCell ⟨w.heap.size + 1, 2, none⟩ (.int .i64 B'.x1)).setCell ⟨w.heap.size + 1, 3, none⟩ (.int .i64 B'.y1)) A' B' Z := by
  obtain ⟨h0, ⟨h1, h2, h3⟩, hA, hB, hZ, f1, f2, f3⟩ := h
  refine ⟨below_set4 (below_set4 h0 (by omega) _ _ _ _) (by omega) _ _ _ _, ⟨by simpa [World.setCell] using h1, by simpa [World.setCell] using h2, by simpa [World.setCell] using h3⟩, ?_, ?_, ?_, ?_, ?_, ?_⟩
  · exact set_other _ _ _ _ _ _ _ (by omega) (set_at _ _ _ hA)
  · exact set_at (A := B) _ _ _ (set_other _ _ _ _ _ _ _ (by omega) hB)
  · exact set_other _ _ _ _ _ _ _ (by omega) (set_other _ _ _ _ _ _ _ (by omega) hZ)
  · intro o; simp [f1]
  · intro o; simp [f2]
  · intro o; simp [f3]

end Go.Proofs.Ytlacjifnniahhaa

namespace Go.Proofs.Ytlacjifnniahhaa
open Go.RowKit

def joinQ (A B : Q) : Q := ⟨min A.x0 B.x0, min A.y0 B.y0, max A.x1 B.x1, max A.y1 B.y1⟩
def meetQ (A B : Q) : Q := ⟨max A.x0 B.x0, max A.y0 B.y0, min A.x1 B.x1, min A.y1 B.y1⟩

def joinR (A B : Q) : Q := if emptyQ A then plainQ B else if emptyQ B then A else joinQ A B
def meetR (A B : Q) : Q := plainQ (meetQ A B)

theorem plain_eq4 (A : Q) : eq4 (plainQ A).x0 (plainQ A).y0 (plainQ A).x1 (plainQ A).y1 0 0 0 0 = emptyQ A := by
  unfold plainQ
  by_cases h : emptyQ A = true
  · rw [if_pos h, h]; rfl
  · rw [if_neg h, show emptyQ A = false by simpa using h]; exact not_zero A (by simpa using h)

end Go.Proofs.Ytlacjifnniahhaa

namespace Go.Proofs.Ytlacjifnniahhaa
open Go.RowKit

/-- the facts of a world in which the call's own two boxes lie -/
def In2 (w wx : World) (A Z : Q) : Prop := Below w.heap.size w wx ∧ (w.heap.size < wx.heap.size ∧ w.heap.size + 1 < wx.heap.size) ∧ (wx.cell? ⟨w.heap.size, 0, none⟩ = some (.int .i64 A.x0) ∧ wx.cell? ⟨w.heap.size, 1, none⟩ = some (.int .i64 A.y0) ∧ wx.cell? ⟨w.heap.size, 2, none⟩ = some (.int .i64 A.x1) ∧ wx.cell? ⟨w.heap.size, 3, none⟩ = some (.int .i64 A.y1)) ∧ (wx.cell? ⟨w.heap.size + 1, 0, none⟩ = some (.int .i64 Z.x0) ∧ wx.cell? ⟨w.heap.size + 1, 1, none⟩ = some (.int .i64 Z.y0) ∧ wx.cell? ⟨w.heap.size + 1, 2, none⟩ = some (.int .i64 Z.x1) ∧ wx.cell? ⟨w.heap.size + 1, 3, none⟩ = some (.int .i64 Z.y1)) ∧ (∀ o, wx.frozen? ⟨w.heap.size, o, none⟩ = false) ∧ (∀ o, wx.frozen? ⟨w.heap.size + 1, o, none⟩ = false)

theorem In2.start (w : World) (A Z : Q) : In2 w ((w.alloc (.cells #[.int .i64 A.x0, .int .i64 A.y0, .int .i64 A.x1, .int .i64 A.y1] 48)).alloc (.cells #[.int .i64 Z.x0, .int .i64 Z.y0, .int .i64 Z.x1, .int .i64 Z.y1] 48)) A Z := by
  refine ⟨below_a2 _ _ _, ⟨by simp <;> omega, by simp <;> omega⟩, ⟨?_, ?_, ?_, ?_⟩, ⟨?_, ?_, ?_, ?_⟩, fun o => ?_, fun o => ?_⟩ <;> go_simp

theorem In2.next {w wx wy : World} {A Z : Q} (h : In2 w wx A Z) (b : Below wx.heap.size wx wy) : In2 w wy A Z := by
  obtain ⟨h0, ⟨h1, h2⟩, hA, hZ, f1, f2⟩ := h
  exact ⟨below_next h0 b, ⟨lt_next b h1, lt_next b h2⟩, at_next b h1 hA, at_next b h2 hZ, fr_next b h1 f1, fr_next b h2 f2⟩

theorem In2.drewN {w wx : World} {A Z : Q} (h : In2 w wx A Z) (k : Nat) : In2 w (wx.drewN k) A Z :=
  ⟨below_drewN h.1 k, h.2.1, h.2.2.1, h.2.2.2.1, h.2.2.2.2.1, h.2.2.2.2.2⟩

/-- the facts of a world in which the call's own one box lies -/
def In1 (w wx : World) (A : Q) : Prop := Below w.heap.size w wx ∧ w.heap.size < wx.heap.size ∧ (wx.cell? ⟨w.heap.size, 0, none⟩ = some (.int .i64 A.x0) ∧ wx.cell? ⟨w.heap.size, 1, none⟩ = some (.int .i64 A.y0) ∧ wx.cell? ⟨w.heap.size, 2, none⟩ = some (.int .i64 A.x1) ∧ wx.cell? ⟨w.heap.size, 3, none⟩ = some (.int .i64 A.y1))

theorem In1.start (w : World) (A : Q) : In1 w (w.alloc (.cells #[.int .i64 A.x0, .int .i64 A.y0, .int .i64 A.x1, .int .i64 A.y1] 48)) A := by
  refine ⟨below_a1 _ _, by simp, ?_, ?_, ?_, ?_⟩ <;> go_simp

theorem In1.next {w wx wy : World} {A : Q} (h : In1 w wx A) (b : Below wx.heap.size wx wy) : In1 w wy A := by
  obtain ⟨h0, h1, hA⟩ := h
  exact ⟨below_next h0 b, lt_next b h1, at_next b h1 hA⟩

def holdsQ (A : Q) (x y : Int) : Bool := mayQ A && (decide (A.x0 ≤ x) && decide (x < A.x1) && decide (A.y0 ≤ y) && decide (y < A.y1))

theorem mayQ_lims {A : Q} (h : mayQ A = true) : (-2147483648 ≤ A.x0 ∧ A.x0 ≤ 2147483648) ∧ (-2147483648 ≤ A.y0 ∧ A.y0 ≤ 2147483648) ∧ (-2147483648 ≤ A.x1 ∧ A.x1 ≤ 2147483648) ∧ (-2147483648 ≤ A.y1 ∧ A.y1 ≤ 2147483648) := by
  unfold mayQ at h
  simp only [Bool.and_eq_true] at h
  exact ⟨⟨mayB_lo h.1.1.1, mayB_hi h.1.1.1⟩, ⟨mayB_lo h.1.1.2, mayB_hi h.1.1.2⟩, ⟨mayB_lo h.1.2, mayB_hi h.1.2⟩, ⟨mayB_lo h.2, mayB_hi h.2⟩⟩

theorem plain_lims {A : Q} (h : mayQ A = true) : (-2147483648 ≤ (plainQ A).x0 ∧ (plainQ A).x0 ≤ 2147483648) ∧ (-2147483648 ≤ (plainQ A).y0 ∧ (plainQ A).y0 ≤ 2147483648) ∧ (-2147483648 ≤ (plainQ A).x1 ∧ (plainQ A).x1 ≤ 2147483648) ∧ (-2147483648 ≤ (plainQ A).y1 ∧ (plainQ A).y1 ≤ 2147483648) := by
  unfold plainQ
  split
  · decide
  · exact mayQ_lims h

end Go.Proofs.Ytlacjifnniahhaa

namespace Go.Proofs.Ytlacjifnniahhaa
open Go.RowKit

theorem fold_least (b off len cap : Nat) (zs : List Int) (w : World) (h0 : 0 < len) (hl : len = zs.length) (hm : len ≤ 9223372036854775807)
    (hc : ∀ j, j < zs.length → w.cell? ⟨b, off + j, none⟩ = some (.int .i64 (zs.getD j 0))) :
    Calls Try.prog 77 #[.func (.func 78) #[] #[], .slice (some ⟨b, off, none⟩) len cap] w fun e w' => e = .returned (.int .i64 (zs.foldl min (zs.getD 0 0))) ∧ w = w' := by
  have HL : Hid (len = zs.length) := hl
  have HC : Hid (∀ j, j < zs.length → w.cell? ⟨b, off + j, none⟩ = some (.int .i64 (zs.getD j 0))) := hc
  have hcell0 : w.cell? ⟨b, off, none⟩ = some (.int .i64 (zs.getD 0 0)) := hc 0 (by omega)
  have hq0 : (0 : Int) < len := by omega
  clear hl hc
  generalize hz0 : zs.getD 0 0 = z0 at *
  clear hz0
  go_enter Try.func77, Try.ntmps77
  go_wp2
  go_loop [5, 7, 13] (fun p _ i => ∃ k : Nat, k ≤ len ∧ i = .int .i64 k ∧ p = .int .i64 ((zs.take k).foldl min z0)) (fun _ _ i => len - (intOf i).toNat)
  case atStart => exact ⟨0, Nat.zero_le _, rfl, rfl⟩
  case round =>
    obtain ⟨k, hk, rfl, rfl⟩ := hrel
    by_cases hlt : k < len
    · have hcell : w.cell? ⟨b, off + k, none⟩ = some (.int .i64 (zs.getD k 0)) := HC.out k (by have := HL.out; omega)
      have hts : (zs.take (k + 1)).foldl min z0 = min ((zs.take k).foldl min z0) (zs.getD k 0) := by
        have hk' : k < zs.length := by have := HL.out; omega
        rw [List.take_succ_eq_append_getElem hk', List.foldl_append]; simp [List.getD, hk']
      generalize zs.getD k 0 = z at hcell hts
      have HT : Hid ((zs.take (k + 1)).foldl min z0 = min ((zs.take k).foldl min z0) z) := hts
      clear hts
      generalize (zs.take k).foldl min z0 = p at *
      go_wp2_with (go_at_call 78; refine (least_any p z _).mono ?_; rintro e w' ⟨rfl, rfl⟩)
      go_round
      case rel => exact ⟨k + 1, by omega, by go_num, by rw [HT.out]⟩
      case measure => simp [intOf]; omega
    · go_wp2
      go_ret
      exact ⟨ret_int (by rw [List.take_of_length_le (by have := HL.out; omega)]), rfl⟩

theorem fold_most (b off len cap : Nat) (zs : List Int) (w : World) (h0 : 0 < len) (hl : len = zs.length) (hm : len ≤ 9223372036854775807)
    (hc : ∀ j, j < zs.length → w.cell? ⟨b, off + j, none⟩ = some (.int .i64 (zs.getD j 0))) :
    Calls Try.prog 77 #[.func (.func 79) #[] #[], .slice (some ⟨b, off, none⟩) len cap] w fun e w' => e = .returned (.int .i64 (zs.foldl max (zs.getD 0 0))) ∧ w = w' := by
  have HL : Hid (len = zs.length) := hl
  have HC : Hid (∀ j, j < zs.length → w.cell? ⟨b, off + j, none⟩ = some (.int .i64 (zs.getD j 0))) := hc
  have hcell0 : w.cell? ⟨b, off, none⟩ = some (.int .i64 (zs.getD 0 0)) := hc 0 (by omega)
  have hq0 : (0 : Int) < len := by omega
  clear hl hc
  generalize hz0 : zs.getD 0 0 = z0 at *
  clear hz0
  go_enter Try.func77, Try.ntmps77
  go_wp2
  go_loop [5, 7, 13] (fun p _ i => ∃ k : Nat, k ≤ len ∧ i = .int .i64 k ∧ p = .int .i64 ((zs.take k).foldl max z0)) (fun _ _ i => len - (intOf i).toNat)
  case atStart => exact ⟨0, Nat.zero_le _, rfl, rfl⟩
  case round =>
    obtain ⟨k, hk, rfl, rfl⟩ := hrel
    by_cases hlt : k < len
    · have hcell : w.cell? ⟨b, off + k, none⟩ = some (.int .i64 (zs.getD k 0)) := HC.out k (by have := HL.out; omega)
      have hts : (zs.take (k + 1)).foldl max z0 = max ((zs.take k).foldl max z0) (zs.getD k 0) := by
        have hk' : k < zs.length := by have := HL.out; omega
        rw [List.take_succ_eq_append_getElem hk', List.foldl_append]; simp [List.getD, hk']
      generalize zs.getD k 0 = z at hcell hts
      have HT : Hid ((zs.take (k + 1)).foldl max z0 = max ((zs.take k).foldl max z0) z) := hts
      clear hts
      generalize (zs.take k).foldl max z0 = p at *
      go_wp2_with (go_at_call 79; refine (most_any p z _).mono ?_; rintro e w' ⟨rfl, rfl⟩)
      go_round
      case rel => exact ⟨k + 1, by omega, by go_num, by rw [HT.out]⟩
      case measure => simp [intOf]; omega
    · go_wp2
      go_ret
      exact ⟨ret_int (by rw [List.take_of_length_le (by have := HL.out; omega)]), rfl⟩

/-- a slice of ints reads as a list, below block n -/
def Ints (w : World) (b off len : Nat) (zs : List Int) : Prop := len = zs.length ∧ len ≤ 9223372036854775807 ∧ b < w.heap.size ∧ ∀ j, j < zs.length → w.cell? ⟨b, off + j, none⟩ = some (.int .i64 (zs.getD j 0))

def hullQ (xs ys : List Int) : Q := ⟨xs.foldl min (xs.getD 0 0), ys.foldl min (ys.getD 0 0), xs.foldl max (xs.getD 0 0), ys.foldl max (ys.getD 0 0)⟩

theorem Ints.alloc {w : World} {b off len : Nat} {zs : List Int} (h : Ints w b off len zs) (o : Obj) : Ints (w.alloc o) b off len zs := by
  obtain ⟨h1, h2, h3, h4⟩ := h
  exact ⟨h1, h2, by simp; omega, fun j hj => ((below_a1 w o).cell (p := ⟨b, off + j, none⟩) h3).trans (h4 j hj)⟩

set_option maxHeartbeats 1000000 in
theorem hull_full (b off len cap b2 off2 cap2 : Nat) (xs ys : List Int) (w : World) (h0 : 0 < len) (hX : Ints w b off len xs) (hY : Ints w b2 off2 len ys) (mx : xs.all mayB = true) (my : ys.all mayB = true) :
    Calls Try.prog 49 #[.slice (some ⟨b, off, none⟩) len cap, .slice (some ⟨b2, off2, none⟩) len cap2] w fun e w' => e = .returned (.tuple #[.agg #[.int .i64 (hullQ xs ys).x0, .int .i64 (hullQ xs ys).y0, .int .i64 (hullQ xs ys).x1, .int .i64 (hullQ xs ys).y1], .int .i64 0]) ∧ Below w.heap.size w w' := by
  obtain ⟨x1, x2, x3, x4⟩ := hX.alloc (.cells #[.int .i64 zeroQ.x0, .int .i64 zeroQ.y0, .int .i64 zeroQ.x1, .int .i64 zeroQ.y1] 48)
  obtain ⟨y1, y2, y3, y4⟩ := hY.alloc (.cells #[.int .i64 zeroQ.x0, .int .i64 zeroQ.y0, .int .i64 zeroQ.x1, .int .i64 zeroQ.y1] 48)
  have A1 := allMay_affine b off len cap xs _ x1 x2 x4
  have A2 := allMay_affine b2 off2 len cap2 ys _ y1 y2 y4
  have F1 := fold_least b off len cap xs _ h0 x1 x2 x4
  have F2 := fold_least b2 off2 len cap2 ys _ h0 y1 y2 y4
  have F3 := fold_most b off len cap xs _ h0 x1 x2 x4
  have F4 := fold_most b2 off2 len cap2 ys _ h0 y1 y2 y4
  rw [mx] at A1
  rw [my] at A2
  have hn : ((len : Int) != (len : Int)) = false := by simp
  have hz : ((len : Int) == 0) = false := by simp; omega
  clear x1 x2 x3 x4 y1 y2 y3 y4 mx my hX hY h0
  unfold hullQ zeroQ at *
  generalize xs.foldl min (xs.getD 0 0) = p1 at *
  generalize ys.foldl min (ys.getD 0 0) = p2 at *
  generalize xs.foldl max (xs.getD 0 0) = p3 at *
  generalize ys.foldl max (ys.getD 0 0) = p4 at *
  dsimp only at *
  go_enter Try.func49, Try.ntmps49
  go_wp2_with (first | (go_at_call 76; ((with_reducible refine A1.mono ?_); rintro e w' ⟨rfl, rfl⟩)) | (go_at_call 76; ((with_reducible refine A2.mono ?_); rintro e w' ⟨rfl, rfl⟩)) | (go_at_call 77; ((with_reducible refine F1.mono ?_); rintro e w' ⟨rfl, rfl⟩)) | (go_at_call 77; ((with_reducible refine F2.mono ?_); rintro e w' ⟨rfl, rfl⟩)) | (go_at_call 77; ((with_reducible refine F3.mono ?_); rintro e w' ⟨rfl, rfl⟩)) | (go_at_call 77; ((with_reducible refine F4.mono ?_); rintro e w' ⟨rfl, rfl⟩)))
  refine bodyPost_ret (v := .tuple #[.agg #[.int .i64 p1, .int .i64 p2, .int .i64 p3, .int .i64 p4], .int .i64 0]) (by simp [results, Try.results49, go_sem, *]) rfl ⟨rfl, ?_⟩
  exact below_a1 _ _

end Go.Proofs.Ytlacjifnniahhaa

namespace Go.Proofs.Ytlacjifnniahhaa
open Go.RowKit

theorem lists_ints {w : World} {B0 : Nat} {A : Option Addr} {zs : List Int} (h : Lists w B0 A (intCells zs)) (h0 : 0 < zs.length) :
    ∃ b o, A = some ⟨b, o, none⟩ ∧ b < B0 ∧ ∀ j, j < zs.length → w.cell? ⟨b, o + j, none⟩ = some (.int .i64 (zs.getD j 0)) := by
  obtain ⟨b, o, hA, hb, hc⟩ := h.plain (by intro e; have := intCells_len zs; rw [e] at this; simp at this; omega)
  exact ⟨b, o, hA, hb, fun j hj => hc j _ (intCells_get zs j hj)⟩

theorem allMay_lists (A : Option Addr) (n c B0 : Nat) (zs : List Int) (w : World) (hn : zs.length = n) (hm : n ≤ 9223372036854775807) (h : Lists w B0 A (intCells zs)) :
    Calls Try.prog 76 #[.slice A n c] w fun e w' => e = .returned (.bool (zs.all mayB)) ∧ w = w' := by
  rcases Nat.eq_zero_or_pos n with h0 | h0
  · subst h0
    obtain rfl : zs = [] := List.eq_nil_of_length_eq_zero hn
    exact allMay_nil_affine c A w
  · obtain ⟨b, o, rfl, _, hc⟩ := lists_ints h (by omega)
    exact allMay_affine b o n c zs w hn.symm hm hc

theorem hull_differ (A A2 : Option Addr) (n c n2 c2 : Nat) (w : World) (hn : n ≠ n2) :
    Calls Try.prog 49 #[.slice A n c, .slice A2 n2 c2] w fun e w' => e = .returned (.tuple #[.agg #[.int .i64 0, .int .i64 0, .int .i64 0, .int .i64 0], .int .i64 1]) ∧ Below w.heap.size w w' := by
  have hd : ((n : Int) != (n2 : Int)) = true := by simp; omega
  clear hn
  go_enter Try.func49, Try.ntmps49
  go_wp2
  refine bodyPost_ret (v := .tuple #[.agg #[.int .i64 0, .int .i64 0, .int .i64 0, .int .i64 0], .int .i64 1]) (by simp [results, Try.results49, go_sem]) rfl ⟨rfl, below_a1 _ _⟩

theorem hull_over (A A2 : Option Addr) (n c c2 B0 B1 : Nat) (xs ys : List Int) (w : World) (hx : xs.length = n) (hy : ys.length = n) (hm : n ≤ 9223372036854775807) (lx : Lists w B0 A (intCells xs)) (ly : Lists w B1 A2 (intCells ys)) (hB0 : B0 ≤ w.heap.size) (hB1 : B1 ≤ w.heap.size)
    (ha : (xs.all mayB && ys.all mayB) = false) :
    Calls Try.prog 49 #[.slice A n c, .slice A2 n c2] w fun e w' => e = .returned (.tuple #[.agg #[.int .i64 0, .int .i64 0, .int .i64 0, .int .i64 0], .int .i64 10]) ∧ Below w.heap.size w w' := by
  have A1 := allMay_lists A n c B0 xs _ hx hm (lx.alloc hB0 (.cells #[.int .i64 0, .int .i64 0, .int .i64 0, .int .i64 0] 48))
  have A2' := allMay_lists A2 n c2 B1 ys _ hy hm (ly.alloc hB1 (.cells #[.int .i64 0, .int .i64 0, .int .i64 0, .int .i64 0] 48))
  have hd : ((n : Int) != (n : Int)) = false := by simp
  clear hx hy lx ly hB0 hB1
  cases h1 : xs.all mayB
  · rw [h1] at A1
    clear h1 ha A2'
    go_enter Try.func49, Try.ntmps49
    go_wp2_with (first | (go_at_call 76; ((with_reducible refine A1.mono ?_); rintro e w' ⟨rfl, rfl⟩)))
    refine bodyPost_ret (v := .tuple #[.agg #[.int .i64 0, .int .i64 0, .int .i64 0, .int .i64 0], .int .i64 10]) (by simp [results, Try.results49, go_sem]) rfl ⟨rfl, below_a1 _ _⟩
  · rw [h1] at A1 ha
    rw [show ys.all mayB = false by simpa using ha] at A2'
    clear h1 ha
    go_enter Try.func49, Try.ntmps49
    go_wp2_with (first | (go_at_call 76; ((with_reducible refine A1.mono ?_); rintro e w' ⟨rfl, rfl⟩)) | (go_at_call 76; ((with_reducible refine A2'.mono ?_); rintro e w' ⟨rfl, rfl⟩)))
    refine bodyPost_ret (v := .tuple #[.agg #[.int .i64 0, .int .i64 0, .int .i64 0, .int .i64 0], .int .i64 10]) (by simp [results, Try.results49, go_sem]) rfl ⟨rfl, below_a1 _ _⟩

theorem hull_none (A A2 : Option Addr) (c c2 : Nat) (w : World) :
    Calls Try.prog 49 #[.slice A 0 c, .slice A2 0 c2] w fun e w' => e = .returned (.tuple #[.agg #[.int .i64 0, .int .i64 0, .int .i64 0, .int .i64 0], .int .i64 0]) ∧ Below w.heap.size w w' := by
  have A1 := fun w => allMay_nil_affine c A w
  have A2' := fun w => allMay_nil_affine c2 A2 w
  go_enter Try.func49, Try.ntmps49
  go_wp2_with (first | (go_at_call 76; ((with_reducible refine (A1 _).mono ?_); rintro e w' ⟨rfl, rfl⟩)) | (go_at_call 76; ((with_reducible refine (A2' _).mono ?_); rintro e w' ⟨rfl, rfl⟩)))
  refine bodyPost_ret (v := .tuple #[.agg #[.int .i64 0, .int .i64 0, .int .i64 0, .int .i64 0], .int .i64 0]) (by simp [results, Try.results49, go_sem]) rfl ⟨rfl, below_a1 _ _⟩

theorem hull_some (A A2 : Option Addr) (n c c2 B0 B1 : Nat) (xs ys : List Int) (w : World) (hx : xs.length = n) (hy : ys.length = n) (hm : n ≤ 9223372036854775807) (h0 : 0 < n) (lx : Lists w B0 A (intCells xs)) (ly : Lists w B1 A2 (intCells ys)) (hB0 : B0 ≤ w.heap.size) (hB1 : B1 ≤ w.heap.size)
    (mx : xs.all mayB = true) (my : ys.all mayB = true) : Calls Try.prog 49 #[.slice A n c, .slice A2 n c2] w fun e w' => e = .returned (.tuple #[.agg #[.int .i64 (hullQ xs ys).x0, .int .i64 (hullQ xs ys).y0, .int .i64 (hullQ xs ys).x1, .int .i64 (hullQ xs ys).y1], .int .i64 0]) ∧ Below w.heap.size w w' := by
  obtain ⟨b, o, rfl, hb, hc⟩ := lists_ints lx (by omega)
  obtain ⟨b2, o2, rfl, hb2, hc2⟩ := lists_ints ly (by omega)
  exact hull_full b o n c b2 o2 c2 xs ys w h0 ⟨hx.symm, hm, by omega, hc⟩ ⟨hy.symm, hm, by omega, hc2⟩ mx my

end Go.Proofs.Ytlacjifnniahhaa
