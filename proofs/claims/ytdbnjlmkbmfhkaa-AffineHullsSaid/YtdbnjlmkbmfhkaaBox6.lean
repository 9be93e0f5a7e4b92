/- Boxes: the area, and one shifted: of the program. -/
import Derived.Test.YtdbnjlmkbmfhkaaBox5
namespace Go.Proofs.Ytdbnjlmkbmfhkaa
open Go.RowKit

theorem empty_lims {A : Q} (h : emptyQ A = false) : A.x0 < A.x1 ∧ A.y0 < A.y1 := by
  unfold emptyQ at h
  simp only [Bool.or_eq_false_iff, decide_eq_false_iff_not] at h
  omega

theorem area_full (A : Q) (w : World) (hm : mayQ A = true) (he : emptyQ A = false) :
    Calls Try.prog 32 #[.agg #[.int .i64 A.x0, .int .i64 A.y0, .int .i64 A.x1, .int .i64 A.y1]] w fun e w' => e = .returned (.tuple #[.int .i64 (if 1099511627776 / (A.x1 - A.x0) < A.y1 - A.y0 then 0 else (A.x1 - A.x0) * (A.y1 - A.y0)), .int .i64 (if 1099511627776 / (A.x1 - A.x0) < A.y1 - A.y0 then 10 else 0)]) ∧ Below w.heap.size w w' := by
  obtain ⟨⟨l1, l2⟩, ⟨l3, l4⟩, ⟨l5, l6⟩, ⟨l7, l8⟩⟩ := mayQ_lims hm
  obtain ⟨m1, m2⟩ := empty_lims he
  have M := fun w => mayBox_any A w
  have P := fun w => plain_same A w he
  have q1 := fun w => eqB_run A.x0 A.y0 A.x1 A.y1 0 0 0 0 w
  have q2 := fun x y w => eqB_guard A.x0 A.y0 A.x1 A.y1 0 0 0 0 x y w
  rw [not_zero A he] at q1
  rw [hm] at M
  clear hm he
  have I := In1.start w A
  have s1 : IntKind.i64.wrap (A.x1 - A.x0) = A.x1 - A.x0 := IntWalk.i64_in _ (by omega)
  have s2 : IntKind.i64.wrap (A.y1 - A.y0) = A.y1 - A.y0 := IntWalk.i64_in _ (by omega)
  have n1 : 1 ≤ A.x1 - A.x0 := by omega
  have n2 : A.x1 - A.x0 ≤ 4294967296 := by omega
  have n3 : 1 ≤ A.y1 - A.y0 := by omega
  have n4 : A.y1 - A.y0 ≤ 4294967296 := by omega
  obtain ⟨W, hW⟩ : ∃ W : Int, W = A.x1 - A.x0 := ⟨_, rfl⟩
  obtain ⟨H, hH⟩ : ∃ H : Int, H = A.y1 - A.y0 := ⟨_, rfl⟩
  by_cases hc : 1099511627776 / (A.x1 - A.x0) < A.y1 - A.y0
  · rw [if_pos hc, if_pos hc]
    clear hW hH
    go_enter Try.func32, Try.ntmps32
    go_wp2_with (first | (go_at_call 22; ((with_reducible refine (M _).mono ?_); rintro e w1 ⟨rfl, b1⟩; have I := I.next b1; obtain ⟨_, y1, hA⟩ := id I)) | (go_at_call 48; ((with_reducible refine (P _).mono ?_); rintro e w2 ⟨rfl, b2⟩; have I := I.next b2; obtain ⟨_, y1, hA⟩ := id I)))
    go_quiet (fail)
    clear s1 s2
    go_wp2
    go_ret2
    exact ⟨rfl, below_drewN I.1 _⟩
  · rw [if_neg hc, if_neg hc]
    have p0 : (A.x1 - A.x0) * (A.y1 - A.y0) ≤ 1099511627776 := by
      have h1 : (A.x1 - A.x0) * (A.y1 - A.y0) ≤ (A.x1 - A.x0) * (1099511627776 / (A.x1 - A.x0)) := Int.mul_le_mul_of_nonneg_left (by omega) (by omega)
      have h2 := Int.mul_ediv_self_le (x := 1099511627776) (k := A.x1 - A.x0) (by omega)
      omega
    have p1 : 0 ≤ (A.x1 - A.x0) * (A.y1 - A.y0) := Int.mul_nonneg (by omega) (by omega)
    have hc' : A.y1 - A.y0 ≤ 1099511627776 / (A.x1 - A.x0) := by omega
    clear hW hH hc
    go_enter Try.func32, Try.ntmps32
    go_wp2_with (first | (go_at_call 22; ((with_reducible refine (M _).mono ?_); rintro e w1 ⟨rfl, b1⟩; have I := I.next b1; obtain ⟨_, y1, hA⟩ := id I)) | (go_at_call 48; ((with_reducible refine (P _).mono ?_); rintro e w2 ⟨rfl, b2⟩; have I := I.next b2; obtain ⟨_, y1, hA⟩ := id I)))
    go_quiet (fail)
    clear s1 s2
    go_wp2
    go_ret2
    exact ⟨rfl, below_drewN I.1 _⟩

theorem shift_no (A : Q) (x y : Int) (w : World) (hm : mayQ A = false) :
    Calls Try.prog 30 #[.agg #[.int .i64 A.x0, .int .i64 A.y0, .int .i64 A.x1, .int .i64 A.y1], .int .i64 x, .int .i64 y] w fun e w' => e = .returned (.tuple #[.agg #[.int .i64 0, .int .i64 0, .int .i64 0, .int .i64 0], .int .i64 10]) ∧ Below w.heap.size w w' := by
  have M := fun w => mayBox_any A w
  rw [hm] at M
  have I := In2.start w A zeroQ
  go_enter Try.func30, Try.ntmps30
  go_wp2_with (first | (go_at_call 22; ((with_reducible refine (M _).mono ?_); rintro e w1 ⟨rfl, b1⟩; have I := I.next b1; obtain ⟨_, ⟨y1, y2⟩, hA, hZ, f1, f2⟩ := id I)))
  refine bodyPost_ret (v := .tuple #[.agg #[.int .i64 0, .int .i64 0, .int .i64 0, .int .i64 0], .int .i64 10]) (by simp [results, Try.results30, go_sem, *]) rfl ⟨rfl, ?_⟩
  exact below_set4 I.1 (by omega) _ _ _ _

def shiftQ (A : Q) (x y : Int) : Q := ⟨A.x0 + x, A.y0 + y, A.x1 + x, A.y1 + y⟩

theorem In2.alloc {w wx : World} {A Z : Q} (h : In2 w wx A Z) (o : Obj) : In2 w (wx.alloc o) A Z := h.next (below_a1 _ _)

theorem shift_far (A : Q) (x y : Int) (w : World) (hm : mayQ A = true) (hx : (mayB x && mayB y) = false) :
    Calls Try.prog 30 #[.agg #[.int .i64 A.x0, .int .i64 A.y0, .int .i64 A.x1, .int .i64 A.y1], .int .i64 x, .int .i64 y] w fun e w' => e = .returned (.tuple #[.agg #[.int .i64 0, .int .i64 0, .int .i64 0, .int .i64 0], .int .i64 10]) ∧ Below w.heap.size w w' := by
  have M := fun w => mayBox_any A w
  rw [hm] at M
  have C := fun (w0 : World) (bk : Nat) (hbk : w0.heap.size = bk) => allMay_affine bk 0 2 2 [x, y] (w0.alloc (.cells #[.int .i64 x, .int .i64 y] 3)) rfl (by decide) (fun j hj => cells2 _ _ hbk _ _ _ j hj)
  rw [all2, hx] at C
  have I := In2.start w A zeroQ
  go_enter Try.func30, Try.ntmps30
  go_wp2_with (first | (go_at_call 22; ((with_reducible refine (M _).mono ?_); rintro e w1 ⟨rfl, b1⟩; have I := I.next b1; obtain ⟨_, ⟨y1, y2⟩, hA, hZ, f1, f2⟩ := id I)) | (go_at_call 42; ((with_reducible refine (C _ _ (by simp)).mono ?_); rintro e w' ⟨rfl, rfl⟩)))
  refine bodyPost_ret (v := .tuple #[.agg #[.int .i64 0, .int .i64 0, .int .i64 0, .int .i64 0], .int .i64 10]) (by simp [results, Try.results30, go_sem, *]) rfl ⟨rfl, ?_⟩
  exact below_next (below_set4 (b := w.heap.size + 1) I.1 (by omega) _ _ _ _) (below_a1 _ _)

theorem shift_none (A : Q) (x y : Int) (w : World) (hm : mayQ A = true) (hx : (mayB x && mayB y) = true) (he : emptyQ A = true) :
    Calls Try.prog 30 #[.agg #[.int .i64 A.x0, .int .i64 A.y0, .int .i64 A.x1, .int .i64 A.y1], .int .i64 x, .int .i64 y] w fun e w' => e = .returned (.tuple #[.agg #[.int .i64 0, .int .i64 0, .int .i64 0, .int .i64 0], .int .i64 0]) ∧ Below w.heap.size w w' := by
  have M := fun w => mayBox_any A w
  rw [hm] at M
  have P := fun w => plain_zero A w he
  have q1 := fun w => eqB_run 0 0 0 0 0 0 0 0 w
  have q2 := fun x y w => eqB_guard 0 0 0 0 0 0 0 0 x y w
  rw [show eq4 0 0 0 0 0 0 0 0 = true from rfl] at q1
  have C := fun (w0 : World) (bk : Nat) (hbk : w0.heap.size = bk) => allMay_affine bk 0 2 2 [x, y] (w0.alloc (.cells #[.int .i64 x, .int .i64 y] 3)) rfl (by decide) (fun j hj => cells2 _ _ hbk _ _ _ j hj)
  rw [all2, hx] at C
  have I := In2.start w A zeroQ
  go_enter Try.func30, Try.ntmps30
  go_wp2_with (first | (go_at_call 22; ((with_reducible refine (M _).mono ?_); rintro e w1 ⟨rfl, b1⟩; have I := I.next b1; obtain ⟨_, ⟨y1, y2⟩, hA, hZ, f1, f2⟩ := id I)) | (go_at_call 42; ((with_reducible refine (C _ _ (by simp)).mono ?_); rintro e w' ⟨rfl, rfl⟩)) | (go_at_call 48; ((with_reducible refine (P _).mono ?_); rintro e w2 ⟨rfl, b2⟩; have I := (I.alloc _).next b2; obtain ⟨_, ⟨y1, y2⟩, hA, hZ, f1, f2⟩ := id I)))
  refine bodyPost_ret (v := .tuple #[.agg #[.int .i64 0, .int .i64 0, .int .i64 0, .int .i64 0], .int .i64 0]) (by simp [results, Try.results30, go_sem, *]) rfl ⟨rfl, ?_⟩
  exact below_set4 (b := w.heap.size + 1) I.1 (by omega) _ _ _ _

theorem shift_go (A : Q) (x y : Int) (w : World) (hm : mayQ A = true) (hx : (mayB x && mayB y) = true) (he : emptyQ A = false) (R : Q) (E : Int) (hR : R = if mayQ (shiftQ A x y) then shiftQ A x y else zeroQ) (hE : E = if mayQ (shiftQ A x y) then 0 else 10) :
    Calls Try.prog 30 #[.agg #[.int .i64 A.x0, .int .i64 A.y0, .int .i64 A.x1, .int .i64 A.y1], .int .i64 x, .int .i64 y] w fun e w' => e = .returned (.tuple #[.agg #[.int .i64 R.x0, .int .i64 R.y0, .int .i64 R.x1, .int .i64 R.y1], .int .i64 E]) ∧ Below w.heap.size w w' := by
  have M := fun w => mayBox_any A w
  have N : ∀ w, Calls Try.prog 22 #[.agg #[.int .i64 (A.x0 + x), .int .i64 (A.y0 + y), .int .i64 (A.x1 + x), .int .i64 (A.y1 + y)]] w (fun e w' => e = .returned (.bool (mayQ (shiftQ A x y))) ∧ Below w.heap.size w w') := fun w => mayBox_any (shiftQ A x y) w
  obtain ⟨⟨l1, l2⟩, ⟨l3, l4⟩, ⟨l5, l6⟩, ⟨l7, l8⟩⟩ := mayQ_lims hm
  rw [hm] at M
  have P := fun w => plain_same A w he
  have q1 := fun w => eqB_run A.x0 A.y0 A.x1 A.y1 0 0 0 0 w
  have q2 := fun x y w => eqB_guard A.x0 A.y0 A.x1 A.y1 0 0 0 0 x y w
  rw [not_zero A he] at q1
  have C := fun (w0 : World) (bk : Nat) (hbk : w0.heap.size = bk) => allMay_affine bk 0 2 2 [x, y] (w0.alloc (.cells #[.int .i64 x, .int .i64 y] 3)) rfl (by decide) (fun j hj => cells2 _ _ hbk _ _ _ j hj)
  rw [all2, hx] at C
  rw [Bool.and_eq_true] at hx
  have x1 := mayB_lo hx.1
  have x2 := mayB_hi hx.1
  have y1 := mayB_lo hx.2
  have y2 := mayB_hi hx.2
  have I := In2.start w A zeroQ
  clear hm hx he
  cases hs : mayQ (shiftQ A x y)
  · rw [hs] at N hR hE
    obtain rfl : R = zeroQ := hR
    obtain rfl : E = 10 := hE
    clear hs
    go_enter Try.func30, Try.ntmps30
    go_wp2_with (first | (go_at_call 22; ((with_reducible refine (M _).mono ?_); rintro e w1 ⟨rfl, b1⟩; have I := I.next b1; obtain ⟨_, ⟨y1, y2⟩, hA, hZ, f1, f2⟩ := id I)) | (go_at_call 42; ((with_reducible refine (C _ _ (by simp)).mono ?_); rintro e w' ⟨rfl, rfl⟩)) | (go_at_call 48; ((with_reducible refine (P _).mono ?_); rintro e w2 ⟨rfl, b2⟩; have I := (I.alloc _).next b2; obtain ⟨_, ⟨y1, y2⟩, hA, hZ, f1, f2⟩ := id I)) | (go_at_call 22; ((with_reducible refine (N _).mono ?_); rintro e w3 ⟨rfl, b3⟩; have I := (I.alloc _).next b3; obtain ⟨_, ⟨y1, y2⟩, hA, hZ, f1, f2⟩ := id I)))
    refine bodyPost_ret (v := .tuple #[.agg #[.int .i64 0, .int .i64 0, .int .i64 0, .int .i64 0], .int .i64 10]) (by simp [results, Try.results30, go_sem, *]) rfl ⟨rfl, ?_⟩
    exact below_set4 (b := w.heap.size + 1) I.1 (by omega) _ _ _ _
  · rw [hs] at N hR hE
    obtain rfl : R = shiftQ A x y := hR
    obtain rfl : E = 0 := hE
    clear hs
    go_enter Try.func30, Try.ntmps30
    go_wp2_with (first | (go_at_call 22; ((with_reducible refine (M _).mono ?_); rintro e w1 ⟨rfl, b1⟩; have I := I.next b1; obtain ⟨_, ⟨y1, y2⟩, hA, hZ, f1, f2⟩ := id I)) | (go_at_call 42; ((with_reducible refine (C _ _ (by simp)).mono ?_); rintro e w' ⟨rfl, rfl⟩)) | (go_at_call 48; ((with_reducible refine (P _).mono ?_); rintro e w2 ⟨rfl, b2⟩; have I := (I.alloc _).next b2; obtain ⟨_, ⟨y1, y2⟩, hA, hZ, f1, f2⟩ := id I; have HW : Hid (w2 = w2) := rfl)) | (go_at_call 22; ((with_reducible refine (N _).mono ?_); rintro e w3 ⟨rfl, b3⟩; have hS : w3.cell? ⟨w2.heap.size, 0, none⟩ = some (.int .i64 (shiftQ A x y).x0) ∧ w3.cell? ⟨w2.heap.size, 1, none⟩ = some (.int .i64 (shiftQ A x y).y0) ∧ w3.cell? ⟨w2.heap.size, 2, none⟩ = some (.int .i64 (shiftQ A x y).x1) ∧ w3.cell? ⟨w2.heap.size, 3, none⟩ = some (.int .i64 (shiftQ A x y).y1) := at_next b3 (by simp) (by refine ⟨?_, ?_, ?_, ?_⟩ <;> (unfold shiftQ; go_simp)); unfold shiftQ at hS; have I := (I.alloc _).next b3; obtain ⟨_, ⟨y1, y2⟩, hA, hZ, f1, f2⟩ := id I)))
    refine bodyPost_ret (v := .tuple #[.agg #[.int .i64 (A.x0 + x), .int .i64 (A.y0 + y), .int .i64 (A.x1 + x), .int .i64 (A.y1 + y)], .int .i64 0]) (by simp [results, Try.results30, go_sem, *]) rfl ⟨rfl, ?_⟩
    exact below_set4 (b := w.heap.size + 1) I.1 (by omega) _ _ _ _

end Go.Proofs.Ytdbnjlmkbmfhkaa
