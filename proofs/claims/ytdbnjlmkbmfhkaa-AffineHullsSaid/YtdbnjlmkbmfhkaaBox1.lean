/- Boxes: each side, which may be, which are empty, the plain form, between two. -/
import Derived.Test.YtdbnjlmkbmfhkaaAff2
namespace Go.Proofs.Ytdbnjlmkbmfhkaa
open Go.RowKit

/-- a box's four numbers -/
structure Q where
  x0 : Int
  y0 : Int
  x1 : Int
  y1 : Int
deriving DecidableEq

def mayQ (A : Q) : Bool := mayB A.x0 && mayB A.y0 && mayB A.x1 && mayB A.y1
def emptyQ (A : Q) : Bool := decide (A.x1 ≤ A.x0) || decide (A.y1 ≤ A.y0)
def zeroQ : Q := ⟨0, 0, 0, 0⟩
def plainQ (A : Q) : Q := if emptyQ A then zeroQ else A
def dropV (x : Int) : Int := if mayB x then x else 0

theorem drop_eq (x : Int) : (x == dropV x) = mayB x := by
  unfold dropV
  by_cases h : mayB x = true
  · simp [h]
  · have h' : mayB x = false := by simpa using h
    rw [h']
    have : x ≠ 0 := by rintro rfl; exact h (by decide)
    simp [this]

theorem eq4_drop (A : Q) : eq4 A.x0 A.y0 A.x1 A.y1 (dropV A.x0) (dropV A.y0) (dropV A.x1) (dropV A.y1) = mayQ A := by
  unfold eq4 mayQ; rw [drop_eq, drop_eq, drop_eq, drop_eq]

theorem drop_any (x : Int) (w : World) : Calls Try.prog 53 #[.int .i64 x] w fun e w' => e = .returned (.int .i64 (dropV x)) ∧ w = w' := by
  have M := fun w => may_any x w
  unfold dropV
  by_cases h : mayB x = true
  · rw [if_pos h]
    rw [h] at M
    clear h
    go_enter Try.func53, Try.ntmps53
    go_wp2_with (go_at_call 75; refine (M _).mono ?_; rintro e w' ⟨rfl, rfl⟩)
    go_ret
    exact ⟨rfl, rfl⟩
  · rw [if_neg h]
    rw [show mayB x = false by simpa using h] at M
    clear h
    go_enter Try.func53, Try.ntmps53
    go_wp2_with (go_at_call 75; refine (M _).mono ?_; rintro e w' ⟨rfl, rfl⟩)
    go_ret
    exact ⟨rfl, rfl⟩

theorem least_any (x y : Int) (w : World) : Calls Try.prog 50 #[.int .i64 x, .int .i64 y] w fun e w' => e = .returned (.int .i64 (min x y)) ∧ w = w' := by
  by_cases h : x < y
  all_goals
    go_enter Try.func50, Try.ntmps50
    go_wp2
    all_goals go_ret
    all_goals exact ⟨ret_int (by omega), rfl⟩

theorem most_any (x y : Int) (w : World) : Calls Try.prog 51 #[.int .i64 x, .int .i64 y] w fun e w' => e = .returned (.int .i64 (max x y)) ∧ w = w' := by
  by_cases h : x < y
  all_goals
    go_enter Try.func51, Try.ntmps51
    go_wp2
    all_goals go_ret
    all_goals exact ⟨ret_int (by omega), rfl⟩

theorem rleast_any (x y : Int) (w : World) : Calls Try.prog 55 #[.int .i64 x, .int .i64 y] w fun e w' => e = .returned (.int .i64 (min x y)) ∧ w = w' := by
  by_cases h : x < y
  all_goals
    go_enter Try.func55, Try.ntmps55
    go_wp2
    all_goals go_ret
    all_goals exact ⟨ret_int (by omega), rfl⟩

theorem rmost_any (x y : Int) (w : World) : Calls Try.prog 56 #[.int .i64 x, .int .i64 y] w fun e w' => e = .returned (.int .i64 (max x y)) ∧ w = w' := by
  by_cases h : x < y
  all_goals
    go_enter Try.func56, Try.ntmps56
    go_wp2
    all_goals go_ret
    all_goals exact ⟨ret_int (by omega), rfl⟩

set_option maxHeartbeats 1000000 in
theorem eachSide_drop (A : Q) (w : World) :
    Calls Try.prog 52 #[.agg #[.int .i64 A.x0, .int .i64 A.y0, .int .i64 A.x1, .int .i64 A.y1], .func (.func 53) #[] #[], .func (.func 53) #[] #[]] w fun e w' =>
      e = .returned (.agg #[.int .i64 (dropV A.x0), .int .i64 (dropV A.y0), .int .i64 (dropV A.x1), .int .i64 (dropV A.y1)]) ∧ Below w.heap.size w w' := by
  go_enter Try.func52, Try.ntmps52
  go_wp2
  go_region_held3 (fun w' => w'.cell? ⟨w.heap.size, 0, none⟩ = some (.int .i64 A.x0) ∧ w'.cell? ⟨w.heap.size, 1, none⟩ = some (.int .i64 A.y0) ∧ w'.cell? ⟨w.heap.size, 2, none⟩ = some (.int .i64 A.x1) ∧ w'.cell? ⟨w.heap.size, 3, none⟩ = some (.int .i64 A.y1))
    (go_keep) (first | (go_at_call 53; ((with_reducible refine (drop_any _ _).mono ?_); rintro e w' ⟨rfl, rfl⟩)))
  go_wp2
  refine bodyPost_ret (v := .agg #[.int .i64 (dropV A.x0), .int .i64 (dropV A.y0), .int .i64 (dropV A.x1), .int .i64 (dropV A.y1)]) (by simp [results, Try.results52, go_sem]) rfl ⟨rfl, ?_⟩
  exact below_drewN (below_a2 _ _ _) 1

set_option maxHeartbeats 1000000 in
theorem eachSide_pixels (A : Q) (w : World) (h0 : -2147483648 ≤ A.x1) (h1 : A.x1 ≤ 2147483648) (h2 : -2147483648 ≤ A.y1) (h3 : A.y1 ≤ 2147483648) :
    Calls Try.prog 52 #[.agg #[.int .i64 A.x0, .int .i64 A.y0, .int .i64 A.x1, .int .i64 A.y1], .func (.func 57) #[] #[], .func (.func 58) #[] #[]] w fun e w' =>
      e = .returned (.agg #[.int .i64 (A.x0 / 64), .int .i64 (A.y0 / 64), .int .i64 ((A.x1 + 63) / 64), .int .i64 ((A.y1 + 63) / 64)]) ∧ Below w.heap.size w w' := by
  go_enter Try.func52, Try.ntmps52
  go_wp2
  go_region_held3 (fun w' => w'.cell? ⟨w.heap.size, 0, none⟩ = some (.int .i64 A.x0) ∧ w'.cell? ⟨w.heap.size, 1, none⟩ = some (.int .i64 A.y0) ∧ w'.cell? ⟨w.heap.size, 2, none⟩ = some (.int .i64 A.x1) ∧ w'.cell? ⟨w.heap.size, 3, none⟩ = some (.int .i64 A.y1))
    (go_keep) (first | (go_at_call 57; ((with_reducible refine (floor26_any _ _).mono ?_); rintro e w' ⟨rfl, rfl⟩)) | (go_at_call 58; ((with_reducible refine (ceil26_any _ _ (by omega) (by omega)).mono ?_); rintro e w' ⟨rfl, rfl⟩)))
  go_wp2
  refine bodyPost_ret (v := .agg #[.int .i64 (A.x0 / 64), .int .i64 (A.y0 / 64), .int .i64 ((A.x1 + 63) / 64), .int .i64 ((A.y1 + 63) / 64)]) (by simp [results, Try.results52, go_sem]) rfl ⟨rfl, ?_⟩
  exact below_drewN (below_a2 _ _ _) 1

set_option maxHeartbeats 2000000 in
theorem between_join (A B : Q) (w : World) :
    Calls Try.prog 49 #[.agg #[.int .i64 A.x0, .int .i64 A.y0, .int .i64 A.x1, .int .i64 A.y1], .agg #[.int .i64 B.x0, .int .i64 B.y0, .int .i64 B.x1, .int .i64 B.y1], .func (.func 50) #[] #[], .func (.func 51) #[] #[]] w fun e w' =>
      e = .returned (.agg #[.int .i64 (min A.x0 B.x0), .int .i64 (min A.y0 B.y0), .int .i64 (max A.x1 B.x1), .int .i64 (max A.y1 B.y1)]) ∧ Below w.heap.size w w' := by
  go_enter Try.func49, Try.ntmps49
  go_wp2
  go_region_held3 (fun w' => w'.cell? ⟨w.heap.size, 0, none⟩ = some (.int .i64 A.x0) ∧ w'.cell? ⟨w.heap.size, 1, none⟩ = some (.int .i64 A.y0) ∧ w'.cell? ⟨w.heap.size, 2, none⟩ = some (.int .i64 A.x1) ∧ w'.cell? ⟨w.heap.size, 3, none⟩ = some (.int .i64 A.y1) ∧ w'.cell? ⟨w.heap.size + 1, 0, none⟩ = some (.int .i64 B.x0) ∧ w'.cell? ⟨w.heap.size + 1, 1, none⟩ = some (.int .i64 B.y0) ∧ w'.cell? ⟨w.heap.size + 1, 2, none⟩ = some (.int .i64 B.x1) ∧ w'.cell? ⟨w.heap.size + 1, 3, none⟩ = some (.int .i64 B.y1))
    (go_keep) (first | (go_at_call 50; refine (least_any _ _ _).mono ?_; rintro e w' ⟨rfl, rfl⟩) | (go_at_call 51; refine (most_any _ _ _).mono ?_; rintro e w' ⟨rfl, rfl⟩))
  go_wp2
  refine bodyPost_ret (v := .agg #[.int .i64 (min A.x0 B.x0), .int .i64 (min A.y0 B.y0), .int .i64 (max A.x1 B.x1), .int .i64 (max A.y1 B.y1)]) (by simp [results, Try.results49, go_sem]) rfl ⟨rfl, ?_⟩
  exact below_drewN (below_a3 _ _ _ _) 1

set_option maxHeartbeats 2000000 in
theorem between_meet (A B : Q) (w : World) :
    Calls Try.prog 49 #[.agg #[.int .i64 A.x0, .int .i64 A.y0, .int .i64 A.x1, .int .i64 A.y1], .agg #[.int .i64 B.x0, .int .i64 B.y0, .int .i64 B.x1, .int .i64 B.y1], .func (.func 51) #[] #[], .func (.func 50) #[] #[]] w fun e w' =>
      e = .returned (.agg #[.int .i64 (max A.x0 B.x0), .int .i64 (max A.y0 B.y0), .int .i64 (min A.x1 B.x1), .int .i64 (min A.y1 B.y1)]) ∧ Below w.heap.size w w' := by
  go_enter Try.func49, Try.ntmps49
  go_wp2
  go_region_held3 (fun w' => w'.cell? ⟨w.heap.size, 0, none⟩ = some (.int .i64 A.x0) ∧ w'.cell? ⟨w.heap.size, 1, none⟩ = some (.int .i64 A.y0) ∧ w'.cell? ⟨w.heap.size, 2, none⟩ = some (.int .i64 A.x1) ∧ w'.cell? ⟨w.heap.size, 3, none⟩ = some (.int .i64 A.y1) ∧ w'.cell? ⟨w.heap.size + 1, 0, none⟩ = some (.int .i64 B.x0) ∧ w'.cell? ⟨w.heap.size + 1, 1, none⟩ = some (.int .i64 B.y0) ∧ w'.cell? ⟨w.heap.size + 1, 2, none⟩ = some (.int .i64 B.x1) ∧ w'.cell? ⟨w.heap.size + 1, 3, none⟩ = some (.int .i64 B.y1))
    (go_keep) (first | (go_at_call 51; refine (most_any _ _ _).mono ?_; rintro e w' ⟨rfl, rfl⟩) | (go_at_call 50; refine (least_any _ _ _).mono ?_; rintro e w' ⟨rfl, rfl⟩))
  go_wp2
  refine bodyPost_ret (v := .agg #[.int .i64 (max A.x0 B.x0), .int .i64 (max A.y0 B.y0), .int .i64 (min A.x1 B.x1), .int .i64 (min A.y1 B.y1)]) (by simp [results, Try.results49, go_sem]) rfl ⟨rfl, ?_⟩
  exact below_drewN (below_a3 _ _ _ _) 1

set_option maxHeartbeats 1000000 in
theorem mayBox_any (A : Q) (w : World) :
    Calls Try.prog 22 #[.agg #[.int .i64 A.x0, .int .i64 A.y0, .int .i64 A.x1, .int .i64 A.y1]] w fun e w' => e = .returned (.bool (mayQ A)) ∧ Below w.heap.size w w' := by
  have q1 := fun w => eqB_run A.x0 A.y0 A.x1 A.y1 (dropV A.x0) (dropV A.y0) (dropV A.x1) (dropV A.y1) w
  rw [eq4_drop] at q1
  have q2 := fun x y w => eqB_guard A.x0 A.y0 A.x1 A.y1 (dropV A.x0) (dropV A.y0) (dropV A.x1) (dropV A.y1) x y w
  go_enter Try.func22, Try.ntmps22
  go_wp2
  go_region_held3 (fun w' => w'.cell? ⟨w.heap.size, 0, none⟩ = some (.int .i64 A.x0) ∧ w'.cell? ⟨w.heap.size, 1, none⟩ = some (.int .i64 A.y0) ∧ w'.cell? ⟨w.heap.size, 2, none⟩ = some (.int .i64 A.x1) ∧ w'.cell? ⟨w.heap.size, 3, none⟩ = some (.int .i64 A.y1))
    (go_keep) (first | (go_at_call 52; refine (eachSide_drop A _).mono ?_; rintro e w1 ⟨rfl, hb⟩; obtain ⟨hc, hf⟩ := bcell hb))
  all_goals go_wp2
  go_ret
  exact ⟨rfl, (below_a1 _ _).drew.trans (hb.mono (below_a1 _ _).size)⟩

theorem empty_any (A : Q) (w : World) :
    Calls Try.prog 24 #[.agg #[.int .i64 A.x0, .int .i64 A.y0, .int .i64 A.x1, .int .i64 A.y1]] w fun e w' => e = .returned (.bool (emptyQ A)) ∧ Below w.heap.size w w' := by
  unfold emptyQ
  by_cases h1 : A.x1 ≤ A.x0 <;> by_cases h2 : A.y1 ≤ A.y0
  all_goals
    go_enter Try.func24, Try.ntmps24
    go_wp2
    go_ret
    refine ⟨?_, below_a1 _ _⟩
    simp [h1, h2]

theorem rempty_any (A : Q) (w : World) :
    Calls Try.prog 25 #[.agg #[.int .i64 A.x0, .int .i64 A.y0, .int .i64 A.x1, .int .i64 A.y1]] w fun e w' => e = .returned (.bool (emptyQ A)) ∧ Below w.heap.size w w' := by
  unfold emptyQ
  by_cases h1 : A.x1 ≤ A.x0 <;> by_cases h2 : A.y1 ≤ A.y0
  all_goals
    go_enter Try.func25, Try.ntmps25
    go_wp2
    go_ret
    refine ⟨?_, below_a1 _ _⟩
    simp [h1, h2]

end Go.Proofs.Ytdbnjlmkbmfhkaa
