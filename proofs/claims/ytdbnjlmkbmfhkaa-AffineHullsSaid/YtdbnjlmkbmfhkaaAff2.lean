/- affine: Apply, One; and serifref02's May, round, Apply. -/
import Derived.Test.YtdbnjlmkbmfhkaaAff1
import Derived.Test.YtdbnjlmkbmfhkaaRnd
namespace Go.Proofs.Ytdbnjlmkbmfhkaa
open Go.RowKit

theorem fits_any (x : Int) (w : World) :
    Calls Try.prog 47 #[.int .i64 x] w fun e w' => e = .returned (.bool (fitB x)) ∧ w = w' := by
  unfold fitB
  by_cases h1 : -32768 ≤ x <;> by_cases h2 : x < 32768
  all_goals
    go_enter Try.func47, Try.ntmps47
    go_wp2
    go_ret
    simp [h1, h2]

theorem rmayM_any (a b c d : Int) (w : World) :
    Calls Try.prog 16 #[.agg #[.int .i64 a, .int .i64 b, .int .i64 c, .int .i64 d]] w fun e w' =>
      e = .returned (.bool (fitM a b c d)) ∧ Below w.heap.size w w' := by
  unfold fitM
  have F := fun x w => fits_any x w
  cases ha : fitB a <;> cases hb : fitB b <;> cases hc : fitB c <;> cases hd : fitB d
  all_goals
    have F1 := fun w => F a w
    have F2 := fun w => F b w
    have F3 := fun w => F c w
    have F4 := fun w => F d w
    rw [ha] at F1
    rw [hb] at F2
    rw [hc] at F3
    rw [hd] at F4
    clear ha hb hc hd F
    go_enter Try.func16, Try.ntmps16
    go_wp2_with (first | (go_at_call 47; ((with_reducible refine (F1 _).mono ?_); rintro e w' ⟨rfl, rfl⟩)) | (go_at_call 47; ((with_reducible refine (F2 _).mono ?_); rintro e w' ⟨rfl, rfl⟩)) | (go_at_call 47; ((with_reducible refine (F3 _).mono ?_); rintro e w' ⟨rfl, rfl⟩)) | (go_at_call 47; ((with_reducible refine (F4 _).mono ?_); rintro e w' ⟨rfl, rfl⟩)))
    go_ret
    exact ⟨rfl, below_a1 _ _⟩

theorem one_any (w : World) :
    Calls Try.prog 12 #[] w fun e w' => e = .returned (.agg #[.int .i64 16384, .int .i64 0, .int .i64 0, .int .i64 16384]) ∧ Below w.heap.size w w' := by
  go_enter Try.func12, Try.ntmps12
  go_wp2
  refine bodyPost_ret (v := .agg #[.int .i64 16384, .int .i64 0, .int .i64 0, .int .i64 16384]) (by simp [results, Try.results12, go_sem]) rfl ⟨rfl, ?_⟩
  exact below_a1 _ _

theorem round_any (x : Int) (w : World) (h1 : -4611686018427387904 ≤ x) (h2 : x ≤ 4611686018427387904) :
    Calls Try.prog 44 #[.int .i64 x] w fun e w' => e = .returned (.int .i64 (near x 16384)) ∧ w = w' := by
  have F := fun w => floor_ref (x + 8192) 16384 w (by omega) (by omega) (by omega)
  have HE : Hid ((x + 8192) / 16384 = near x 16384) := (by unfold near; rw [if_neg (by omega)]; omega : (x + 8192) / 16384 = near x 16384)
  go_enter Try.func44, Try.ntmps44
  go_wp2_with (go_at_call 59; refine (F _).mono ?_; rintro e w' ⟨rfl, rfl⟩)
  go_ret
  exact ⟨ret_int HE.out, rfl⟩

theorem fitB_lo {x : Int} (h : fitB x = true) : -32768 ≤ x := by unfold fitB at h; simp at h; exact h.1
theorem fitB_hi {x : Int} (h : fitB x = true) : x < 32768 := by unfold fitB at h; simp at h; exact h.2
theorem prod_lim {x a : Int} (hx : mayB x = true) (ha : fitB a = true) : -70368744177664 ≤ x * a ∧ x * a ≤ 70368744177664 :=
  mul_bound 2147483648 32768 (mayB_lo hx) (mayB_hi hx) (fitB_lo ha) (by have := fitB_hi ha; omega)

/-- what Apply answers: the error, and the two numbers behind the matrix -/
def apX (a c x y : Int) : Int := near (x * a + y * c) 16384
def apE (a b c d x y : Int) : Int := if fitM a b c d then (if mayB x && mayB y then (if mayB (apX a c x y) && mayB (apX b d x y) then 0 else 10) else 10) else 1
def apR (e v : Int) : Int := if e = 0 then v else 0

theorem ret_iii {a b c a' b' c' : Int} (h : a = a') (g : b = b') (k : c = c') : Ending.returned (.tuple #[.int .i64 a, .int .i64 b, .int .i64 c]) = .returned (.tuple #[.int .i64 a', .int .i64 b', .int .i64 c']) := by rw [h, g, k]

set_option maxHeartbeats 1000000 in
theorem apply_arg (a b c d x y : Int) (w : World) (h : fitM a b c d = false) :
    Calls Try.prog 10 #[.agg #[.int .i64 a, .int .i64 b, .int .i64 c, .int .i64 d], .int .i64 x, .int .i64 y] w fun e w' =>
      e = .returned (.tuple #[.int .i64 0, .int .i64 0, .int .i64 1]) ∧ Below w.heap.size w w' := by
  have M := fun w => mayM_any a b c d w
  rw [h] at M
  clear h
  go_enter Try.func10, Try.ntmps10
  go_wp2_with (go_at_call 15; refine (M _).mono ?_; rintro e w1 ⟨rfl, hb⟩)
  go_ret3
  exact ⟨rfl, below_next (below_a1 _ _) hb⟩

set_option maxHeartbeats 1000000 in
theorem apply_over (a b c d x y : Int) (w : World) (h : fitM a b c d = true) (h2 : (mayB x && mayB y) = false) :
    Calls Try.prog 10 #[.agg #[.int .i64 a, .int .i64 b, .int .i64 c, .int .i64 d], .int .i64 x, .int .i64 y] w fun e w' =>
      e = .returned (.tuple #[.int .i64 0, .int .i64 0, .int .i64 10]) ∧ Below w.heap.size w w' := by
  have M := fun w => mayM_any a b c d w
  have C := fun (w0 : World) => allMay_affine w0.heap.size 0 2 2 [x, y] (w0.alloc (.cells #[.int .i64 x, .int .i64 y] 3)) rfl (by decide) (fun j hj => cells2 _ _ rfl x y _ j hj)
  rw [all2, h2] at C
  rw [h] at M
  clear h h2
  go_enter Try.func10, Try.ntmps10
  go_wp2_with (first | (go_at_call 15; refine (M _).mono ?_; rintro e w1 ⟨rfl, hb⟩) | (go_at_call 42; refine (C _).mono ?_; rintro e w' ⟨rfl, rfl⟩))
  go_ret3
  exact ⟨rfl, below_next (below_next (below_a1 _ _) hb) (below_a1 _ _)⟩

set_option maxHeartbeats 2000000 in
theorem apply_rest (a b c d x y : Int) (w : World) (h : fitM a b c d = true) (h2 : (mayB x && mayB y) = true) (ok : Bool) (hok : (mayB (apX a c x y) && mayB (apX b d x y)) = ok) :
    Calls Try.prog 10 #[.agg #[.int .i64 a, .int .i64 b, .int .i64 c, .int .i64 d], .int .i64 x, .int .i64 y] w fun e w' =>
      e = .returned (.tuple #[.int .i64 (if ok then apX a c x y else 0), .int .i64 (if ok then apX b d x y else 0), .int .i64 (if ok then 0 else 10)]) ∧ Below w.heap.size w w' := by
  have M := fun w => mayM_any a b c d w
  have C := fun (w0 : World) => allMay_affine w0.heap.size 0 2 2 [x, y] (w0.alloc (.cells #[.int .i64 x, .int .i64 y] 3)) rfl (by decide) (fun j hj => cells2 _ _ rfl x y _ j hj)
  have D := fun (w0 : World) (bk : Nat) (hbk : w0.heap.size = bk) => allMay_affine bk 0 2 2 [apX a c x y, apX b d x y] (w0.alloc (.cells #[.int .i64 (apX a c x y), .int .i64 (apX b d x y)] 3)) rfl (by decide) (fun j hj => cells2 _ _ hbk _ _ _ j hj)
  rw [all2, h2] at C
  rw [all2, hok] at D
  rw [h] at M
  unfold fitM at h
  simp only [Bool.and_eq_true] at h h2
  obtain ⟨p1, p2⟩ := prod_lim h2.1 h.1.1.1
  obtain ⟨p3, p4⟩ := prod_lim h2.2 h.1.2
  obtain ⟨p5, p6⟩ := prod_lim h2.1 h.1.1.2
  obtain ⟨p7, p8⟩ := prod_lim h2.2 h.2
  have N1 := fun w => near_ok (x * a + y * c) 16384 w (by omega) (by omega) (by omega) (by omega)
  have N2 := fun w => near_ok (x * b + y * d) 16384 w (by omega) (by omega) (by omega) (by omega)
  clear h h2 hok
  change ∀ w, Calls Try.prog 43 #[.int .i64 (x * a + y * c), .int .i64 16384] w (fun e w' => e = .returned (.tuple #[.int .i64 (apX a c x y), .int .i64 0]) ∧ ∃ k, w' = w.drewN k) at N1
  change ∀ w, Calls Try.prog 43 #[.int .i64 (x * b + y * d), .int .i64 16384] w (fun e w' => e = .returned (.tuple #[.int .i64 (apX b d x y), .int .i64 0]) ∧ ∃ k, w' = w.drewN k) at N2
  generalize apX a c x y = P at *
  generalize apX b d x y = Q at *
  cases ok
  all_goals
    go_enter Try.func10, Try.ntmps10
    go_wp2_with (first | (go_at_call 15; refine (M _).mono ?_; rintro e w1 ⟨rfl, hb⟩; obtain ⟨hc, hf⟩ := bcell hb; have hz : w.heap.size < w1.heap.size := (by have := hb.size; simp at this; omega)) | (go_at_call 42; ((with_reducible refine (C _).mono ?_); rintro e w' ⟨rfl, rfl⟩)) | (go_at_call 42; ((with_reducible refine (D _ _ (by simp)).mono ?_); rintro e w' ⟨rfl, rfl⟩)) | (go_at_call 43; ((with_reducible refine (N1 _).mono ?_); rintro e w' ⟨rfl, k1, rfl⟩)) | (go_at_call 43; ((with_reducible refine (N2 _).mono ?_); rintro e w' ⟨rfl, k2, rfl⟩)))
    go_ret3
    exact ⟨rfl, below_next (below_next (below_a1 _ _) hb) (below_next (below_drewN (below_a1 _ _) _) (below_a1 _ _))⟩

end Go.Proofs.Ytdbnjlmkbmfhkaa
