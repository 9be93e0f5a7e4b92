/- fixed.Add, Sub: sums and differences. -/
import Derived.Test.YtpodlcjahfdpmaaFix3
import Derived.Test.YtpodlcjahfdpmaaMay
namespace Go.Proofs.Ytpodlcjahfdpmaa
open Go.RowKit

theorem cells2 (w0 : World) (b : Nat) (hb : w0.heap.size = b) (x y : Int) (t : TypeId) (j : Nat) (hj : j < [x, y].length) :
    (w0.alloc (.cells #[.int .i64 x, .int .i64 y] t)).cell? ⟨b, 0 + j, none⟩ = some (.int .i64 ([x, y].getD j 0)) := by
  rw [World.cell?_alloc_at _ _ _ _ hb.symm]
  match j, hj with
  | 0, _ => rfl
  | 1, _ => rfl

theorem cells3 (w0 : World) (b : Nat) (hb : w0.heap.size = b) (x y z : Int) (t : TypeId) (j : Nat) (hj : j < [x, y, z].length) :
    (w0.alloc (.cells #[.int .i64 x, .int .i64 y, .int .i64 z] t)).cell? ⟨b, 0 + j, none⟩ = some (.int .i64 ([x, y, z].getD j 0)) := by
  rw [World.cell?_alloc_at _ _ _ _ hb.symm]
  match j, hj with
  | 0, _ => rfl
  | 1, _ => rfl
  | 2, _ => rfl

theorem all2 (x y : Int) : [x, y].all mayB = (mayB x && mayB y) := by simp
theorem all3 (x y z : Int) : [x, y, z].all mayB = (mayB x && mayB y && mayB z) := by simp [Bool.and_assoc]

/-- a result, if it may be -/
def outR (x : Int) : Int := if mayB x then x else 0
def outE (x : Int) : Int := if mayB x then 0 else 10

theorem mayB_lo {x : Int} (h : mayB x = true) : -2147483648 ≤ x := by unfold mayB at h; simp at h; exact h.1
theorem mayB_hi {x : Int} (h : mayB x = true) : x ≤ 2147483648 := by unfold mayB at h; simp at h; exact h.2

theorem below_next {w w1 w2 : World} (h : Below w.heap.size w w1) (g : Below w1.heap.size w1 w2) : Below w.heap.size w w2 := h.trans (g.mono h.size)
theorem below_a1 (w : World) (o : Obj) : Below w.heap.size w (w.alloc o) := (Below.refl _ _).alloc (Nat.le_refl _) o
theorem below_a2 (w : World) (o p : Obj) : Below w.heap.size w ((w.alloc o).alloc p) := (below_a1 w o).alloc (by simp) p
theorem below_a3 (w : World) (o p q : Obj) : Below w.heap.size w (((w.alloc o).alloc p).alloc q) := (below_a2 w o p).alloc (by simp; omega) q
theorem below_a4 (w : World) (o p q r : Obj) : Below w.heap.size w ((((w.alloc o).alloc p).alloc q).alloc r) := (below_a3 w o p q).alloc (by simp; omega) r
theorem below_a5 (w : World) (o p q r s : Obj) : Below w.heap.size w (((((w.alloc o).alloc p).alloc q).alloc r).alloc s) := (below_a4 w o p q r).alloc (by simp; omega) s

theorem add_no (a b : Int) (w : World) (h : (mayB a && mayB b) = false) :
    Calls Try.prog 15 #[.int .i64 a, .int .i64 b] w fun e w' => e = .returned (.tuple #[.int .i64 0, .int .i64 10]) ∧ Below w.heap.size w w' := by
  have hmf : ∀ (fn : Fn) (first cap : Array Value) (w : World), (Instr.makeFunc fn first cap).run Try.prog w = .ok (.func fn first cap) w := fun _ _ _ _ => rfl
  have C := allMay_fixed (w.heap.size + 1 + 1) 0 2 2 [a, b] (((w.alloc (.cells #[.int .i64 a] 3)).alloc (.cells #[.int .i64 b] 3)).alloc (.cells #[.int .i64 a, .int .i64 b] 3)) rfl (by decide) (fun j hj => cells2 _ _ (by simp) a b _ j hj)
  rw [all2, h] at C
  go_enter Try.func15, Try.ntmps15
  go_wp2_with (first | (go_at_call 70; refine C.mono ?_; rintro e w' ⟨rfl, rfl⟩) | go_in)
  go_ret2
  exact ⟨rfl, below_a3 _ _ _ _⟩

theorem add_yes (a b : Int) (w : World) (h : (mayB a && mayB b) = true) :
    Calls Try.prog 15 #[.int .i64 a, .int .i64 b] w fun e w' => e = .returned (.tuple #[.int .i64 (outR (a + b)), .int .i64 (outE (a + b))]) ∧ Below w.heap.size w w' := by
  have hmf : ∀ (fn : Fn) (first cap : Array Value) (w : World), (Instr.makeFunc fn first cap).run Try.prog w = .ok (.func fn first cap) w := fun _ _ _ _ => rfl
  have C := allMay_fixed (w.heap.size + 1 + 1) 0 2 2 [a, b] (((w.alloc (.cells #[.int .i64 a] 3)).alloc (.cells #[.int .i64 b] 3)).alloc (.cells #[.int .i64 a, .int .i64 b] 3)) rfl (by decide) (fun j hj => cells2 _ _ (by simp) a b _ j hj)
  rw [all2, h] at C
  rw [Bool.and_eq_true] at h
  have a1 := mayB_lo h.1
  have a2 := mayB_hi h.1
  have b1 := mayB_lo h.2
  have b2 := mayB_hi h.2
  clear h
  by_cases hr : mayB (a + b) = true
  · have D : ∀ w, Calls Try.prog 20 #[.int .i64 (a + b)] w fun e w' => e = .returned (.bool true) ∧ w = w' := fun w => by have := may_any (a + b) w; rwa [hr] at this
    rw [show outR (a + b) = a + b by simp [outR, hr], show outE (a + b) = 0 by simp [outE, hr]]
    clear hr
    go_enter Try.func15, Try.ntmps15
    go_wp2_with (first | (go_at_call 70; refine C.mono ?_; rintro e w' ⟨rfl, rfl⟩) | (go_at_call 20; refine (D _).mono ?_; rintro e w' ⟨rfl, rfl⟩) | go_in)
    go_ret2
    exact ⟨rfl, below_a3 _ _ _ _⟩
  · have hr : mayB (a + b) = false := by simpa using hr
    have D : ∀ w, Calls Try.prog 20 #[.int .i64 (a + b)] w fun e w' => e = .returned (.bool false) ∧ w = w' := fun w => by have := may_any (a + b) w; rwa [hr] at this
    rw [show outR (a + b) = 0 by simp [outR, hr], show outE (a + b) = 10 by simp [outE, hr]]
    clear hr
    go_enter Try.func15, Try.ntmps15
    go_wp2_with (first | (go_at_call 70; refine C.mono ?_; rintro e w' ⟨rfl, rfl⟩) | (go_at_call 20; refine (D _).mono ?_; rintro e w' ⟨rfl, rfl⟩) | go_in)
    go_ret2
    exact ⟨rfl, below_a3 _ _ _ _⟩

theorem sub_no (a b : Int) (w : World) (h : (mayB a && mayB b) = false) :
    Calls Try.prog 16 #[.int .i64 a, .int .i64 b] w fun e w' => e = .returned (.tuple #[.int .i64 0, .int .i64 10]) ∧ Below w.heap.size w w' := by
  have hmf : ∀ (fn : Fn) (first cap : Array Value) (w : World), (Instr.makeFunc fn first cap).run Try.prog w = .ok (.func fn first cap) w := fun _ _ _ _ => rfl
  have C := allMay_fixed (w.heap.size + 1 + 1) 0 2 2 [a, b] (((w.alloc (.cells #[.int .i64 a] 3)).alloc (.cells #[.int .i64 b] 3)).alloc (.cells #[.int .i64 a, .int .i64 b] 3)) rfl (by decide) (fun j hj => cells2 _ _ (by simp) a b _ j hj)
  rw [all2, h] at C
  go_enter Try.func16, Try.ntmps16
  go_wp2_with (first | (go_at_call 70; refine C.mono ?_; rintro e w' ⟨rfl, rfl⟩) | go_in)
  go_ret2
  exact ⟨rfl, below_a3 _ _ _ _⟩

theorem sub_yes (a b : Int) (w : World) (h : (mayB a && mayB b) = true) :
    Calls Try.prog 16 #[.int .i64 a, .int .i64 b] w fun e w' => e = .returned (.tuple #[.int .i64 (outR (a - b)), .int .i64 (outE (a - b))]) ∧ Below w.heap.size w w' := by
  have hmf : ∀ (fn : Fn) (first cap : Array Value) (w : World), (Instr.makeFunc fn first cap).run Try.prog w = .ok (.func fn first cap) w := fun _ _ _ _ => rfl
  have C := allMay_fixed (w.heap.size + 1 + 1) 0 2 2 [a, b] (((w.alloc (.cells #[.int .i64 a] 3)).alloc (.cells #[.int .i64 b] 3)).alloc (.cells #[.int .i64 a, .int .i64 b] 3)) rfl (by decide) (fun j hj => cells2 _ _ (by simp) a b _ j hj)
  rw [all2, h] at C
  rw [Bool.and_eq_true] at h
  have a1 := mayB_lo h.1
  have a2 := mayB_hi h.1
  have b1 := mayB_lo h.2
  have b2 := mayB_hi h.2
  clear h
  by_cases hr : mayB (a - b) = true
  · have D : ∀ w, Calls Try.prog 20 #[.int .i64 (a - b)] w fun e w' => e = .returned (.bool true) ∧ w = w' := fun w => by have := may_any (a - b) w; rwa [hr] at this
    rw [show outR (a - b) = a - b by simp [outR, hr], show outE (a - b) = 0 by simp [outE, hr]]
    clear hr
    go_enter Try.func16, Try.ntmps16
    go_wp2_with (first | (go_at_call 70; refine C.mono ?_; rintro e w' ⟨rfl, rfl⟩) | (go_at_call 20; refine (D _).mono ?_; rintro e w' ⟨rfl, rfl⟩) | go_in)
    go_ret2
    exact ⟨rfl, below_a3 _ _ _ _⟩
  · have hr : mayB (a - b) = false := by simpa using hr
    have D : ∀ w, Calls Try.prog 20 #[.int .i64 (a - b)] w fun e w' => e = .returned (.bool false) ∧ w = w' := fun w => by have := may_any (a - b) w; rwa [hr] at this
    rw [show outR (a - b) = 0 by simp [outR, hr], show outE (a - b) = 10 by simp [outE, hr]]
    clear hr
    go_enter Try.func16, Try.ntmps16
    go_wp2_with (first | (go_at_call 70; refine C.mono ?_; rintro e w' ⟨rfl, rfl⟩) | (go_at_call 20; refine (D _).mono ?_; rintro e w' ⟨rfl, rfl⟩) | go_in)
    go_ret2
    exact ⟨rfl, below_a3 _ _ _ _⟩

end Go.Proofs.Ytpodlcjahfdpmaa
