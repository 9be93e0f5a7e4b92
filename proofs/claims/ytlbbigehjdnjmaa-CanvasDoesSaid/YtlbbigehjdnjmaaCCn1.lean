/- Part 2 of the proof: Box6, Box7, Box8, Know, Mem, Sep, Copy, Bytes. -/
import Derived.WalkKit
import Derived.Maps.AppendAt
import Derived.Deep.AppendLies
import Derived.Laws.OwnMore
import Derived.OwnWalk
import Derived.Laws.Rows
import Derived.Laws.CopyOwn
import Derived.Test.YtlbbigehjdnjmaaCCn0

namespace Go.Proofs.Ytlbbigehjdnjmaa
open Go.RowKit

theorem empty_lims {A : Q} (h : emptyQ A = false) : A.x0 < A.x1 ∧ A.y0 < A.y1 := by
  unfold emptyQ at h
  simp only [Bool.or_eq_false_iff, decide_eq_false_iff_not] at h
  omega

theorem area_full (A : Q) (w : World) (hm : mayQ A = true) (he : emptyQ A = false) :
    Calls Try.prog 61 #[.agg #[.int .i64 A.x0, .int .i64 A.y0, .int .i64 A.x1, .int .i64 A.y1]] w fun e w' => e = .returned (.tuple #[.int .i64 (if 1099511627776 / (A.x1 - A.x0) < A.y1 - A.y0 then 0 else (A.x1 - A.x0) * (A.y1 - A.y0)), .int .i64 (if 1099511627776 / (A.x1 - A.x0) < A.y1 - A.y0 then 10 else 0)]) ∧ Below w.heap.size w w' := by
  obtain ⟨⟨l1, l2⟩, ⟨l3, l4⟩, ⟨l5, l6⟩, ⟨l7, l8⟩⟩ := mayQ_lims hm
  obtain ⟨m1, m2⟩ := empty_lims he
  have M := fun w => mayBox_any A w
  have P := fun w => plain_same A w he
  have q1 := fun w => eqB_run A.x0 A.y0 A.x1 A.y1 0 0 0 0 w
  have q2 := fun x y w => eqB_guard A.x0 A.y0 A.x1 A.y1 0 0 0 0 x y w
  rw [not_zero A he] at q1
  rw [hm] at M
  clear hm he
  have I := In1.start w A
  have s1 : IntKind.i64.wrap (A.x1 - A.x0) = A.x1 - A.x0 := IntWalk.i64_in _ (by omega)
  have s2 : IntKind.i64.wrap (A.y1 - A.y0) = A.y1 - A.y0 := IntWalk.i64_in _ (by omega)
  have n1 : 1 ≤ A.x1 - A.x0 := by omega
  have n2 : A.x1 - A.x0 ≤ 4294967296 := by omega
  have n3 : 1 ≤ A.y1 - A.y0 := by omega
  have n4 : A.y1 - A.y0 ≤ 4294967296 := by omega
  obtain ⟨W, hW⟩ : ∃ W : Int, W = A.x1 - A.x0 := ⟨_, rfl⟩
  obtain ⟨H, hH⟩ : ∃ H : Int, H = A.y1 - A.y0 := ⟨_, rfl⟩
  by_cases hc : 1099511627776 / (A.x1 - A.x0) < A.y1 - A.y0
  · rw [if_pos hc, if_pos hc]
    clear hW hH
    go_enter Try.func61, Try.ntmps61
    go_wp2_with (first | (go_at_call 41; ((with_reducible refine (M _).mono ?_); rintro e w1 ⟨rfl, b1⟩; have I := I.next b1; obtain ⟨_, y1, hA⟩ := id I)) | (go_at_call 52; ((with_reducible refine (P _).mono ?_); rintro e w2 ⟨rfl, b2⟩; have I := I.next b2; obtain ⟨_, y1, hA⟩ := id I)))
    go_quiet (fail)
    clear s1 s2
    go_wp2
    go_ret2
    exact ⟨rfl, below_drewN I.1 _⟩
  · rw [if_neg hc, if_neg hc]
    have p0 : (A.x1 - A.x0) * (A.y1 - A.y0) ≤ 1099511627776 := by
      have h1 : (A.x1 - A.x0) * (A.y1 - A.y0) ≤ (A.x1 - A.x0) * (1099511627776 / (A.x1 - A.x0)) := Int.mul_le_mul_of_nonneg_left (by omega) (by omega)
      have h2 := Int.mul_ediv_self_le (x := 1099511627776) (k := A.x1 - A.x0) (by omega)
      omega
    have p1 : 0 ≤ (A.x1 - A.x0) * (A.y1 - A.y0) := Int.mul_nonneg (by omega) (by omega)
    have hc' : A.y1 - A.y0 ≤ 1099511627776 / (A.x1 - A.x0) := by omega
    clear hW hH hc
    go_enter Try.func61, Try.ntmps61
    go_wp2_with (first | (go_at_call 41; ((with_reducible refine (M _).mono ?_); rintro e w1 ⟨rfl, b1⟩; have I := I.next b1; obtain ⟨_, y1, hA⟩ := id I)) | (go_at_call 52; ((with_reducible refine (P _).mono ?_); rintro e w2 ⟨rfl, b2⟩; have I := I.next b2; obtain ⟨_, y1, hA⟩ := id I)))
    go_quiet (fail)
    clear s1 s2
    go_wp2
    go_ret2
    exact ⟨rfl, below_drewN I.1 _⟩

theorem shift_no (A : Q) (x y : Int) (w : World) (hm : mayQ A = false) :
    Calls Try.prog 37 #[.agg #[.int .i64 A.x0, .int .i64 A.y0, .int .i64 A.x1, .int .i64 A.y1], .int .i64 x, .int .i64 y] w fun e w' => e = .returned (.tuple #[.agg #[.int .i64 0, .int .i64 0, .int .i64 0, .int .i64 0], .int .i64 10]) ∧ Below w.heap.size w w' := by
  have M := fun w => mayBox_any A w
  rw [hm] at M
  have I := In2.start w A zeroQ
  go_enter Try.func37, Try.ntmps37
  go_wp2_with (first | (go_at_call 41; ((with_reducible refine (M _).mono ?_); rintro e w1 ⟨rfl, b1⟩; have I := I.next b1; obtain ⟨_, ⟨y1, y2⟩, hA, hZ, f1, f2⟩ := id I)))
  refine bodyPost_ret (v := .tuple #[.agg #[.int .i64 0, .int .i64 0, .int .i64 0, .int .i64 0], .int .i64 10]) (by simp [results, Try.results37, go_sem, *]) rfl ⟨rfl, ?_⟩
  exact below_set4 I.1 (by omega) _ _ _ _

def shiftQ (A : Q) (x y : Int) : Q := ⟨A.x0 + x, A.y0 + y, A.x1 + x, A.y1 + y⟩

theorem In2.alloc {w wx : World} {A Z : Q} (h : In2 w wx A Z) (o : Obj) : In2 w (wx.alloc o) A Z := h.next (below_a1 _ _)

theorem shift_far (A : Q) (x y : Int) (w : World) (hm : mayQ A = true) (hx : (mayB x && mayB y) = false) :
    Calls Try.prog 37 #[.agg #[.int .i64 A.x0, .int .i64 A.y0, .int .i64 A.x1, .int .i64 A.y1], .int .i64 x, .int .i64 y] w fun e w' => e = .returned (.tuple #[.agg #[.int .i64 0, .int .i64 0, .int .i64 0, .int .i64 0], .int .i64 10]) ∧ Below w.heap.size w w' := by
  have M := fun w => mayBox_any A w
  rw [hm] at M
  have C := fun (w0 : World) (bk : Nat) (hbk : w0.heap.size = bk) => allMay_affine bk 0 2 2 [x, y] (w0.alloc (.cells #[.int .i64 x, .int .i64 y] 3)) rfl (by decide) (fun j hj => cells2 _ _ hbk _ _ _ j hj)
  rw [all2, hx] at C
  have I := In2.start w A zeroQ
  go_enter Try.func37, Try.ntmps37
  go_wp2_with (first | (go_at_call 41; ((with_reducible refine (M _).mono ?_); rintro e w1 ⟨rfl, b1⟩; have I := I.next b1; obtain ⟨_, ⟨y1, y2⟩, hA, hZ, f1, f2⟩ := id I)) | (go_at_call 51; ((with_reducible refine (C _ _ (by simp)).mono ?_); rintro e w' ⟨rfl, rfl⟩)))
  refine bodyPost_ret (v := .tuple #[.agg #[.int .i64 0, .int .i64 0, .int .i64 0, .int .i64 0], .int .i64 10]) (by simp [results, Try.results37, go_sem, *]) rfl ⟨rfl, ?_⟩
  exact below_next (below_set4 (b := w.heap.size + 1) I.1 (by omega) _ _ _ _) (below_a1 _ _)

theorem shift_none (A : Q) (x y : Int) (w : World) (hm : mayQ A = true) (hx : (mayB x && mayB y) = true) (he : emptyQ A = true) :
    Calls Try.prog 37 #[.agg #[.int .i64 A.x0, .int .i64 A.y0, .int .i64 A.x1, .int .i64 A.y1], .int .i64 x, .int .i64 y] w fun e w' => e = .returned (.tuple #[.agg #[.int .i64 0, .int .i64 0, .int .i64 0, .int .i64 0], .int .i64 0]) ∧ Below w.heap.size w w' := by
  have M := fun w => mayBox_any A w
  rw [hm] at M
  have P := fun w => plain_zero A w he
  have q1 := fun w => eqB_run 0 0 0 0 0 0 0 0 w
  have q2 := fun x y w => eqB_guard 0 0 0 0 0 0 0 0 x y w
  rw [show eq4 0 0 0 0 0 0 0 0 = true from rfl] at q1
  have C := fun (w0 : World) (bk : Nat) (hbk : w0.heap.size = bk) => allMay_affine bk 0 2 2 [x, y] (w0.alloc (.cells #[.int .i64 x, .int .i64 y] 3)) rfl (by decide) (fun j hj => cells2 _ _ hbk _ _ _ j hj)
  rw [all2, hx] at C
  have I := In2.start w A zeroQ
  go_enter Try.func37, Try.ntmps37
  go_wp2_with (first | (go_at_call 41; ((with_reducible refine (M _).mono ?_); rintro e w1 ⟨rfl, b1⟩; have I := I.next b1; obtain ⟨_, ⟨y1, y2⟩, hA, hZ, f1, f2⟩ := id I)) | (go_at_call 51; ((with_reducible refine (C _ _ (by simp)).mono ?_); rintro e w' ⟨rfl, rfl⟩)) | (go_at_call 52; ((with_reducible refine (P _).mono ?_); rintro e w2 ⟨rfl, b2⟩; have I := (I.alloc _).next b2; obtain ⟨_, ⟨y1, y2⟩, hA, hZ, f1, f2⟩ := id I)))
  refine bodyPost_ret (v := .tuple #[.agg #[.int .i64 0, .int .i64 0, .int .i64 0, .int .i64 0], .int .i64 0]) (by simp [results, Try.results37, go_sem, *]) rfl ⟨rfl, ?_⟩
  exact below_set4 (b := w.heap.size + 1) I.1 (by omega) _ _ _ _

theorem shift_go (A : Q) (x y : Int) (w : World) (hm : mayQ A = true) (hx : (mayB x && mayB y) = true) (he : emptyQ A = false) (R : Q) (E : Int) (hR : R = if mayQ (shiftQ A x y) then shiftQ A x y else zeroQ) (hE : E = if mayQ (shiftQ A x y) then 0 else 10) :
    Calls Try.prog 37 #[.agg #[.int .i64 A.x0, .int .i64 A.y0, .int .i64 A.x1, .int .i64 A.y1], .int .i64 x, .int .i64 y] w fun e w' => e = .returned (.tuple #[.agg #[.int .i64 R.x0, .int .i64 R.y0, .int .i64 R.x1, .int .i64 R.y1], .int .i64 E]) ∧ Below w.heap.size w w' := by
  have M := fun w => mayBox_any A w
  have N : ∀ w, Calls Try.prog 41 #[.agg #[.int .i64 (A.x0 + x), .int .i64 (A.y0 + y), .int .i64 (A.x1 + x), .int .i64 (A.y1 + y)]] w (fun e w' => e = .returned (.bool (mayQ (shiftQ A x y))) ∧ Below w.heap.size w w') := fun w => mayBox_any (shiftQ A x y) w
  obtain ⟨⟨l1, l2⟩, ⟨l3, l4⟩, ⟨l5, l6⟩, ⟨l7, l8⟩⟩ := mayQ_lims hm
  rw [hm] at M
  have P := fun w => plain_same A w he
  have q1 := fun w => eqB_run A.x0 A.y0 A.x1 A.y1 0 0 0 0 w
  have q2 := fun x y w => eqB_guard A.x0 A.y0 A.x1 A.y1 0 0 0 0 x y w
  rw [not_zero A he] at q1
  have C := fun (w0 : World) (bk : Nat) (hbk : w0.heap.size = bk) => allMay_affine bk 0 2 2 [x, y] (w0.alloc (.cells #[.int .i64 x, .int .i64 y] 3)) rfl (by decide) (fun j hj => cells2 _ _ hbk _ _ _ j hj)
  rw [all2, hx] at C
  rw [Bool.and_eq_true] at hx
  have x1 := mayB_lo hx.1
  have x2 := mayB_hi hx.1
  have y1 := mayB_lo hx.2
  have y2 := mayB_hi hx.2
  have I := In2.start w A zeroQ
  clear hm hx he
  cases hs : mayQ (shiftQ A x y)
  · rw [hs] at N hR hE
    obtain rfl : R = zeroQ := hR
    obtain rfl : E = 10 := hE
    clear hs
    go_enter Try.func37, Try.ntmps37
    go_wp2_with (first | (go_at_call 41; ((with_reducible refine (M _).mono ?_); rintro e w1 ⟨rfl, b1⟩; have I := I.next b1; obtain ⟨_, ⟨y1, y2⟩, hA, hZ, f1, f2⟩ := id I)) | (go_at_call 51; ((with_reducible refine (C _ _ (by simp)).mono ?_); rintro e w' ⟨rfl, rfl⟩)) | (go_at_call 52; ((with_reducible refine (P _).mono ?_); rintro e w2 ⟨rfl, b2⟩; have I := (I.alloc _).next b2; obtain ⟨_, ⟨y1, y2⟩, hA, hZ, f1, f2⟩ := id I)) | (go_at_call 41; ((with_reducible refine (N _).mono ?_); rintro e w3 ⟨rfl, b3⟩; have I := (I.alloc _).next b3; obtain ⟨_, ⟨y1, y2⟩, hA, hZ, f1, f2⟩ := id I)))
    refine bodyPost_ret (v := .tuple #[.agg #[.int .i64 0, .int .i64 0, .int .i64 0, .int .i64 0], .int .i64 10]) (by simp [results, Try.results37, go_sem, *]) rfl ⟨rfl, ?_⟩
    exact below_set4 (b := w.heap.size + 1) I.1 (by omega) _ _ _ _
  · rw [hs] at N hR hE
    obtain rfl : R = shiftQ A x y := hR
    obtain rfl : E = 0 := hE
    clear hs
    go_enter Try.func37, Try.ntmps37
    go_wp2_with (first | (go_at_call 41; ((with_reducible refine (M _).mono ?_); rintro e w1 ⟨rfl, b1⟩; have I := I.next b1; obtain ⟨_, ⟨y1, y2⟩, hA, hZ, f1, f2⟩ := id I)) | (go_at_call 51; ((with_reducible refine (C _ _ (by simp)).mono ?_); rintro e w' ⟨rfl, rfl⟩)) | (go_at_call 52; ((with_reducible refine (P _).mono ?_); rintro e w2 ⟨rfl, b2⟩; have I := (I.alloc _).next b2; obtain ⟨_, ⟨y1, y2⟩, hA, hZ, f1, f2⟩ := id I; have HW : Hid (w2 = w2) := rfl)) | (go_at_call 41; ((with_reducible refine (N _).mono ?_); rintro e w3 ⟨rfl, b3⟩; have hS : w3.cell? ⟨w2.heap.size, 0, none⟩ = some (.int .i64 (shiftQ A x y).x0) ∧ w3.cell? ⟨w2.heap.size, 1, none⟩ = some (.int .i64 (shiftQ A x y).y0) ∧ w3.cell? ⟨w2.heap.size, 2, none⟩ = some (.int .i64 (shiftQ A x y).x1) ∧ w3.cell? ⟨w2.heap.size, 3, none⟩ = some (.int .i64 (shiftQ A x y).y1) := at_next b3 (by simp) (by refine ⟨?_, ?_, ?_, ?_⟩ <;> (unfold shiftQ; go_simp)); unfold shiftQ at hS; have I := (I.alloc _).next b3; obtain ⟨_, ⟨y1, y2⟩, hA, hZ, f1, f2⟩ := id I)))
    refine bodyPost_ret (v := .tuple #[.agg #[.int .i64 (A.x0 + x), .int .i64 (A.y0 + y), .int .i64 (A.x1 + x), .int .i64 (A.y1 + y)], .int .i64 0]) (by simp [results, Try.results37, go_sem, *]) rfl ⟨rfl, ?_⟩
    exact below_set4 (b := w.heap.size + 1) I.1 (by omega) _ _ _ _

end Go.Proofs.Ytlbbigehjdnjmaa

namespace Go.Proofs.Ytlbbigehjdnjmaa
open Go.RowKit

theorem rmayQ_any (A : Q) (w : World) :
    Calls Try.prog 31 #[.agg #[.int .i64 A.x0, .int .i64 A.y0, .int .i64 A.x1, .int .i64 A.y1]] w fun e w' => e = .returned (.bool (mayQ A)) ∧ Below w.heap.size w w' := by
  unfold mayQ
  have F := fun x w => may_ref x w
  cases ha : mayB A.x0 <;> cases hb : mayB A.y0 <;> cases hc : mayB A.x1 <;> cases hd : mayB A.y1
  all_goals
    have F1 := fun w => F A.x0 w
    have F2 := fun w => F A.y0 w
    have F3 := fun w => F A.x1 w
    have F4 := fun w => F A.y1 w
    rw [ha] at F1
    rw [hb] at F2
    rw [hc] at F3
    rw [hd] at F4
    clear ha hb hc hd F
    go_enter Try.func31, Try.ntmps31
    go_wp2_with (first | (go_at_call 48; ((with_reducible refine (F1 _).mono ?_); rintro e w' ⟨rfl, rfl⟩)) | (go_at_call 48; ((with_reducible refine (F2 _).mono ?_); rintro e w' ⟨rfl, rfl⟩)) | (go_at_call 48; ((with_reducible refine (F3 _).mono ?_); rintro e w' ⟨rfl, rfl⟩)) | (go_at_call 48; ((with_reducible refine (F4 _).mono ?_); rintro e w' ⟨rfl, rfl⟩)))
    go_ret
    exact ⟨rfl, below_a1 _ _⟩

theorem rplain_any (A : Q) (w : World) : Calls Try.prog 43 #[.agg #[.int .i64 A.x0, .int .i64 A.y0, .int .i64 A.x1, .int .i64 A.y1]] w fun e w' => e = .returned (.agg #[.int .i64 (plainQ A).x0, .int .i64 (plainQ A).y0, .int .i64 (plainQ A).x1, .int .i64 (plainQ A).y1]) ∧ Below w.heap.size w w' := by
  unfold plainQ
  by_cases h : emptyQ A = true
  · rw [if_pos h]; exact rplain_zero A w h
  · rw [if_neg h]; exact rplain_same A w (by simpa using h)

set_option maxHeartbeats 2000000 in
theorem rmeet_any (A B : Q) (w : World) :
    Calls Try.prog 24 #[.agg #[.int .i64 A.x0, .int .i64 A.y0, .int .i64 A.x1, .int .i64 A.y1], .agg #[.int .i64 B.x0, .int .i64 B.y0, .int .i64 B.x1, .int .i64 B.y1]] w fun e w' => e = .returned (.agg #[.int .i64 (meetR A B).x0, .int .i64 (meetR A B).y0, .int .i64 (meetR A B).x1, .int .i64 (meetR A B).y1]) ∧ Below w.heap.size w w' := by
  have P : ∀ w, Calls Try.prog 43 #[.agg #[.int .i64 (max A.x0 B.x0), .int .i64 (max A.y0 B.y0), .int .i64 (min A.x1 B.x1), .int .i64 (min A.y1 B.y1)]] w (fun e w' => e = .returned (.agg #[.int .i64 (meetR A B).x0, .int .i64 (meetR A B).y0, .int .i64 (meetR A B).x1, .int .i64 (meetR A B).y1]) ∧ Below w.heap.size w w') := fun w => rplain_any (meetQ A B) w
  have I := In3.start w A B zeroQ
  generalize meetR A B = R at *
  have ne1 : ¬ w.heap.size + 1 + 1 = w.heap.size := by omega
  have ne2 : ¬ w.heap.size = w.heap.size + 1 + 1 := by omega
  go_enter Try.func24, Try.ntmps24
  go_wp2
  go_region_held3 (fun w' => w'.cell? ⟨w.heap.size, 0, none⟩ = some (.int .i64 A.x0) ∧ w'.cell? ⟨w.heap.size, 1, none⟩ = some (.int .i64 A.y0) ∧ w'.cell? ⟨w.heap.size, 2, none⟩ = some (.int .i64 A.x1) ∧ w'.cell? ⟨w.heap.size, 3, none⟩ = some (.int .i64 A.y1) ∧ w'.cell? ⟨w.heap.size + 1, 0, none⟩ = some (.int .i64 B.x0) ∧ w'.cell? ⟨w.heap.size + 1, 1, none⟩ = some (.int .i64 B.y0) ∧ w'.cell? ⟨w.heap.size + 1, 2, none⟩ = some (.int .i64 B.x1) ∧ w'.cell? ⟨w.heap.size + 1, 3, none⟩ = some (.int .i64 B.y1))
    (go_keep) (first | (go_at_call 45; refine (rleast_any _ _ _).mono ?_; rintro e w' ⟨rfl, rfl⟩) | (go_at_call 44; refine (rmost_any _ _ _).mono ?_; rintro e w' ⟨rfl, rfl⟩) | (go_at_call 43; refine (P _).mono ?_; rintro e w1 ⟨rfl, b1⟩; have I := I.drew.next b1; obtain ⟨_, ⟨y1, y2, y3⟩, hA, hB, hZ, f1, f2, f3⟩ := id I))
  all_goals go_wp2
  refine bodyPost_ret (v := .agg #[.int .i64 R.x0, .int .i64 R.y0, .int .i64 R.x1, .int .i64 R.y1]) (by simp [results, Try.results24, go_sem, *]) rfl ⟨rfl, ?_⟩
  exact below_set4 (b := w.heap.size + 1 + 1) I.1 (by omega) _ _ _ _

end Go.Proofs.Ytlbbigehjdnjmaa

namespace Go.Proofs.Ytlbbigehjdnjmaa
open Go.RowKit

end Go.Proofs.Ytlbbigehjdnjmaa

namespace Go.Proofs.Ytlbbigehjdnjmaa
open Go Go.RowKit

/-- Cells from o on of block b. -/
def CellsAt (w : World) (b : Nat) : Nat → List Value → Prop
  | _, [] => True
  | o, v :: vs => w.cell? ⟨b, o, none⟩ = some v ∧ CellsAt w b (o + 1) vs

/-- Blocks that stand and are not frozen, with what their first cells hold. -/
def KB (w : World) : List (Nat × List Value) → Prop
  | [] => True
  | (b, vs) :: r => b < w.heap.size ∧ (∀ o, w.frozen? ⟨b, o, none⟩ = false) ∧ CellsAt w b 0 vs ∧ KB w r

theorem CellsAt.next {w w1 : World} {b : Nat} (hb : Below w.heap.size w w1) (h : b < w.heap.size) : ∀ {vs : List Value} {o : Nat}, CellsAt w b o vs → CellsAt w1 b o vs
  | [], _, _ => trivial
  | _ :: _, o, H => ⟨(hb.cell (p := ⟨b, o, none⟩) h).trans H.1, CellsAt.next hb h H.2⟩

theorem KB.next {w w1 : World} (hb : Below w.heap.size w w1) : ∀ {l : List (Nat × List Value)}, KB w l → KB w1 l
  | [], _ => trivial
  | _ :: _, H => ⟨Nat.lt_of_lt_of_le H.1 hb.size, fun o => (hb.frozen (p := ⟨_, o, none⟩) H.1).trans (H.2.1 o), H.2.2.1.next hb H.1, H.2.2.2.next hb⟩

theorem cellsAt_new (w : World) (vs : Array Value) (T : TypeId) : ∀ (l : List Value) (o : Nat), vs.toList.drop o = l → CellsAt (w.alloc (.cells vs T)) w.heap.size o l
  | [], _, _ => trivial
  | v :: l, o, h => by
    have hv : vs[o]? = some v := by
      have h0 := congrArg (fun l => l[0]?) h
      simpa using h0
    refine ⟨?_, cellsAt_new w vs T l (o + 1) (by rw [← List.drop_drop, h]; rfl)⟩
    rw [World.cell?_alloc_new]; exact hv

/-- From w0 on nothing of what was there has turned, and this is known of blocks of w. -/
def Known (w0 w : World) (l : List (Nat × List Value)) : Prop := Below w0.heap.size w0 w ∧ KB w l

theorem Known.start (w : World) : Known w w [] := ⟨Below.refl _ _, trivial⟩
theorem Known.next {w0 w w1 : World} {l : List (Nat × List Value)} (H : Known w0 w l) (hb : Below w.heap.size w w1) : Known w0 w1 l := ⟨H.1.trans (hb.mono H.1.size), H.2.next hb⟩
theorem Known.drew {w0 w : World} {l : List (Nat × List Value)} (H : Known w0 w l) : Known w0 w.drew l := H.next ((Below.refl _ _).drew)
theorem Known.alloc {w0 w : World} {l : List (Nat × List Value)} (H : Known w0 w l) (o : Obj) : Known w0 (w.alloc o) l := H.next ((Below.refl _ _).alloc (Nat.le_refl _) o)
theorem Known.new {w0 w : World} {l : List (Nat × List Value)} (H : Known w0 w l) (vs : Array Value) (T : TypeId) : Known w0 (w.alloc (.cells vs T)) ((w.heap.size, vs.toList) :: l) :=
  ⟨(H.alloc _).1, by simp, fun o => World.frozen?_alloc_new w vs T o, cellsAt_new w vs T _ 0 rfl, (H.alloc _).2⟩
theorem Known.drop {w0 w : World} {l : List (Nat × List Value)} {x : Nat × List Value} (H : Known w0 w (x :: l)) : Known w0 w l := ⟨H.1, H.2.2.2.2⟩

/-- A store into a block that stands behind all others that are known: they stay. -/
theorem KB.below {B : Nat} {w w1 : World} (hb : Below B w w1) : ∀ {l : List (Nat × List Value)}, (∀ x ∈ l, x.1 < B) → KB w l → KB w1 l
  | [], _, _ => trivial
  | (b, vs) :: r, hl, H => by
    have h : b < B := hl (b, vs) (List.mem_cons_self)
    refine ⟨Nat.lt_of_lt_of_le H.1 hb.size, fun o => (hb.frozen (p := ⟨b, o, none⟩) h).trans (H.2.1 o), ?_, KB.below hb (fun x hx => hl x (List.mem_cons_of_mem _ hx)) H.2.2.2⟩
    have go : ∀ (vs : List Value) (o : Nat), CellsAt w b o vs → CellsAt w1 b o vs := fun vs => by
      induction vs with
      | nil => intro _ _; trivial
      | cons v vs ih => intro o H; exact ⟨(hb.cell (p := ⟨b, o, none⟩) h).trans H.1, ih _ H.2⟩
    exact go vs 0 H.2.2.1

/-- Four stores into a block. -/
theorem Known.put4 {w0 w8 wr : World} {l : List (Nat × List Value)} {b : Nat} {z0 z1 z2 z3 : Value} (I : Known w0 w8 l) (hb : w8.heap.size ≤ b) (B : Below w8.heap.size w8 wr)
    (hz : b < wr.heap.size) (hf : ∀ o, wr.frozen? ⟨b, o, none⟩ = false) (hc : CellsAt wr b 0 [z0, z1, z2, z3]) (v0 v1 v2 v3 : Value) :
    Known w0 ((((wr.setCell ⟨b, 0, none⟩ v0).setCell ⟨b, 1, none⟩ v1).setCell ⟨b, 2, none⟩ v2).setCell ⟨b, 3, none⟩ v3) ((b, [v0, v1, v2, v3]) :: l) := by
  have K := I.next ((((B.setCell (p := ⟨b, 0, none⟩) hb v0).setCell (p := ⟨b, 1, none⟩) hb v1).setCell (p := ⟨b, 2, none⟩) hb v2).setCell (p := ⟨b, 3, none⟩) hb v3)
  obtain ⟨c0, c1, c2, c3, _⟩ := hc
  simp only [Nat.zero_add, Nat.reduceAdd] at c0 c1 c2 c3
  refine ⟨K.1, ?_, fun o => ?_, ⟨?_, ?_, ?_, ?_, trivial⟩, K.2⟩
  · simpa using hz
  · simp [hf]
  all_goals go_simp

end Go.Proofs.Ytlbbigehjdnjmaa

namespace Go.Proofs.Ytlbbigehjdnjmaa
open Go Go.RowKit

/-- A slice's address A and the cells that it reads as: they lie below block B. -/
structure Lists (w : World) (B : Nat) (A : Option Addr) (xs : List Value) : Prop where
  nil : A = none → xs = []
  cell : ∀ a, A = some a → ∀ (j : Nat) (u : Value), xs[j]? = some u → w.cell? (a.add j) = some u
  lt : ∀ a, A = some a → xs ≠ [] → a.block < B

theorem addr_add_block (a : Addr) (j : Nat) : (a.add j).block = a.block := by
  unfold Addr.add
  by_cases h : j = 0 <;> simp [h]

theorem addr_plain (b o j : Nat) : (⟨b, o, none⟩ : Addr).add j = ⟨b, o + j, none⟩ := by
  unfold Addr.add
  by_cases h : j = 0 <;> simp [h]

theorem Lists.keep {w w1 : World} {B : Nat} {A : Option Addr} {xs : List Value} (h : Lists w B A xs) (hk : ∀ p : Addr, p.block < B → w1.cell? p = w.cell? p) : Lists w1 B A xs :=
  ⟨h.nil, fun a ha j u hu => (hk _ (by rw [addr_add_block]; exact h.lt a ha (by intro e; subst e; simp at hu))).trans (h.cell a ha j u hu), h.lt⟩
theorem Lists.more {w : World} {B B1 : Nat} {A : Option Addr} {xs : List Value} (h : Lists w B A xs) (hB : B ≤ B1) : Lists w B1 A xs := ⟨h.nil, h.cell, fun a ha hx => Nat.lt_of_lt_of_le (h.lt a ha hx) hB⟩
theorem Lists.below {w w1 : World} {B : Nat} {A : Option Addr} {xs : List Value} (h : Lists w B A xs) (hb : Below B w w1) : Lists w1 B A xs := h.keep fun _ hp => hb.cell hp
theorem Lists.alloc {w : World} {B : Nat} {A : Option Addr} {xs : List Value} (h : Lists w B A xs) (hB : B ≤ w.heap.size) (o : Obj) : Lists (w.alloc o) B A xs := h.below ((Below.refl _ _).alloc hB o)
theorem Lists.empty (w : World) (B : Nat) (A : Option Addr) : Lists w B A [] := ⟨fun _ => rfl, fun _ _ j u hu => by simp at hu, fun _ _ h => absurd rfl h⟩
theorem Lists.plain {w : World} {B : Nat} {A : Option Addr} {xs : List Value} (h : Lists w B A xs) (hx : xs ≠ []) : ∃ b o, A = some ⟨b, o, none⟩ ∧ b < B ∧ ∀ (j : Nat) (u : Value), xs[j]? = some u → w.cell? ⟨b, o + j, none⟩ = some u := by
  cases A with
  | none => exact absurd (h.nil rfl) hx
  | some a =>
    have hlt := h.lt a rfl hx
    have hc := h.cell a rfl
    obtain ⟨x, l, rfl⟩ : ∃ x l, xs = x :: l := by cases xs with | nil => exact absurd rfl hx | cons x l => exact ⟨x, l, rfl⟩
    obtain ⟨b, o, s⟩ := a
    have hs : s = none := by simpa [Addr.add] using World.cell?_spot (hc 0 x rfl)
    subst hs
    exact ⟨b, o, rfl, hlt, fun j u hu => by have := hc j u hu; rwa [addr_plain] at this⟩

/-- What the call owns reads so. -/
theorem own_lists {w : World} {base : Nat} {e : TypeId} {size n : Nat} {v : Value} {xs : List Value} (h : w.ownsRow base e size v n xs) : ∃ A c, v = .slice A n c ∧ Lists w w.heap.size A xs ∧ n ≤ c := by
  have hc := @World.ownsRow.cells w base e size v n xs h
  rcases h.2 with ⟨rfl, rfl⟩ | ⟨g, cap, cur, rfl, _, hh, hn, _⟩
  · exact ⟨none, 0, rfl, ⟨fun _ => List.eq_nil_of_length_eq_zero (by simpa using h.1), fun _ ha => (nomatch ha), fun _ ha => (nomatch ha)⟩, Nat.le_refl _⟩
  · refine ⟨some ⟨g, 0, none⟩, cap, rfl, ⟨fun ha => (nomatch ha), fun a ha j u hu => ?_, fun a ha _ => ?_⟩, hn⟩
    · cases ha; exact hc (g := g) rfl j u hu
    · cases ha
      rcases Nat.lt_or_ge g w.heap.size with hlt | hge
      · exact hlt
      · rw [Array.getElem?_eq_none hge] at hh; cases hh

section
variable {P : Program} (w : World)

theorem run_append_src (base : Nat) (t ty e : TypeId) (i : TypeInfo) (z : Value) (size bytes : Nat) (ht : P.underlying t = some (.slice e)) (hi : P.info? e = some i) (hz : i.zero = some z)
    (hsize : i.size = size) (hby : i.bytes = bytes) (hzs : z.cells.size = size) (hsz : 0 < size) (v : Value) (n : Nat) (xs : List Value) (hown : w.ownsRow base e size v n xs)
    (B : Nat) (A : Option Addr) (m c : Nat) (news : List Value) (hr : Lists w B A news) (hl : news.length = m * size) (h1 : ∀ u ∈ news, u.oneCell' = true)
    (h63 : n + m ≤ maxLen) (hbytes : (n + m) * bytes ≤ 140737488355328) (hbase : base ≤ w.heap.size) :
    ∃ v' w', (Builtin.append_ #[t, t] ty #[v, .slice A m c]).run P w = .ok v' w' ∧ w'.ownsRow base e size v' (n + m) (xs ++ news) ∧ w.grownBy w' v.ownBlock ∧
      (v'.ownBlock = v.ownBlock ∨ v'.ownBlock = some w.heap.size) := by
  cases A with
  | none =>
    have hn : news = [] := hr.nil rfl
    subst hn
    have hm : m = 0 := by
      have : m * size = 0 := by simpa using hl.symm
      rcases Nat.mul_eq_zero.1 this with h | h
      · exact h
      · omega
    subst hm
    refine ⟨v, w, ?_, by simpa using hown, World.grownBy.refl w _, .inl rfl⟩
    rcases hown.2 with ⟨rfl, rfl⟩ | ⟨g, cap, cur, rfl, _, _, hc, _⟩
    · simp [Builtin.append_, run_underlying ht, sizeOf, typeInfo, hi, Builtin.lenOf, Builtin.firstCells]
    · simp [Builtin.append_, run_underlying ht, sizeOf, typeInfo, hi, Builtin.lenOf, Builtin.firstCells, hc, storeCells]
  | some ad =>
    obtain ⟨v', w', hrun, h2, h3, _, h5⟩ := run_append_own_at (P := P) w base t ty e i z size bytes ht hi hz hsize hby hzs hsz v n xs hown ad m c news hl (hr.cell ad rfl) h1 h63 hbytes hbase
    exact ⟨v', w', hrun, h2, h3, h5⟩

theorem wp_append_src {o : Oper} {a : Act} {K : Act → World → Prop} {Q : Exit → Act → World → Prop} (s x : Operand) (t : TypeId)
    (ho : o.op = .call { callee := .builtin .append, args := #[s, x], argTypes := #[t, t] })
    (base : Nat) (e : TypeId) (i : TypeInfo) (z : Value) (size bytes : Nat) (ht : P.underlying t = some (.slice e)) (hi : P.info? e = some i) (hz : i.zero = some z)
    (hsize : i.size = size) (hby : i.bytes = bytes) (hzs : z.cells.size = size) (hsz : 0 < size)
    (v : Value) (n : Nat) (xs : List Value) (hs : a.eval s = v) (hown : w.ownsRow base e size v n xs)
    (B : Nat) (A : Option Addr) (m c : Nat) (news : List Value) (hx : a.eval x = .slice A m c) (hr : Lists w B A news) (hl : news.length = m * size) (h1 : ∀ u ∈ news, u.oneCell' = true)
    (h63 : n + m ≤ maxLen) (hbytes : (n + m) * bytes ≤ 140737488355328) (hbase : base ≤ w.heap.size)
    (h : ∀ v' w', w'.ownsRow base e size v' (n + m) (xs ++ news) → w.grownBy w' v.ownBlock → (v'.ownBlock = v.ownBlock ∨ v'.ownBlock = some w.heap.size) → K (a.put o.dst v') w') : o.wp P a w K Q := by
  obtain ⟨v', w', hrun, h2, h3, h4⟩ := run_append_src (P := P) w base t o.type e i z size bytes ht hi hz hsize hby hzs hsz v n xs hown B A m c news hr hl h1 h63 hbytes hbase
  unfold Oper.wp execOp
  simp only [ho, resolve, invoke, builtin, Sem.run_bind, Sem.run_pure, Result.andThen_ok, List.map_toArray, List.map_cons, List.map_nil, hs, hx, hrun]
  exact h v' w' h2 h3 h4

theorem wpList_append_src {ops : Array Oper} {rest : List Oper} {o : Oper} {a : Act} {Q : Exit → Act → World → Prop} (hgd : o.guard = none) (s x : Operand) (t : TypeId)
    (ho : o.op = .call { callee := .builtin .append, args := #[s, x], argTypes := #[t, t] })
    (base : Nat) (e : TypeId) (i : TypeInfo) (z : Value) (size bytes : Nat) (ht : P.underlying t = some (.slice e)) (hi : P.info? e = some i) (hz : i.zero = some z)
    (hsize : i.size = size) (hby : i.bytes = bytes) (hzs : z.cells.size = size) (hsz : 0 < size)
    (v : Value) (n : Nat) (xs : List Value) (hs : a.eval s = v) (hown : w.ownsRow base e size v n xs)
    (B : Nat) (A : Option Addr) (m c : Nat) (news : List Value) (hx : a.eval x = .slice A m c) (hr : Lists w B A news) (hl : news.length = m * size) (h1 : ∀ u ∈ news, u.oneCell' = true)
    (h63 : n + m ≤ maxLen) (hbytes : (n + m) * bytes ≤ 140737488355328) (hbase : base ≤ w.heap.size)
    (h : ∀ v' w', w'.ownsRow base e size v' (n + m) (xs ++ news) → w.grownBy w' v.ownBlock → (v'.ownBlock = v.ownBlock ∨ v'.ownBlock = some w.heap.size) → wpList P ops Q rest (a.put o.dst v') w') : wpList P ops Q (o :: rest) a w :=
  wpList_plain hgd fun _ hK => wp_append_src w s x t ho base e i z size bytes ht hi hz hsize hby hzs hsz v n xs hs hown B A m c news hx hr hl h1 h63 hbytes hbase fun v' w' h2 h3 h4 => hK _ _ (h v' w' h2 h3 h4)
end

/-- A list of ints as cells. -/
def intCells (zs : List Int) : List Value := zs.map (Value.int .i64)
theorem intCells_one (zs : List Int) : ∀ u ∈ intCells zs, u.oneCell' = true := by
  intro u hu
  obtain ⟨z, _, rfl⟩ := List.mem_map.1 hu
  rfl
theorem intCells_len (zs : List Int) : (intCells zs).length = zs.length := by simp [intCells]
theorem intCells_get (zs : List Int) (j : Nat) (h : j < zs.length) : (intCells zs)[j]? = some (.int .i64 (zs.getD j 0)) := by simp [intCells, h]

end Go.Proofs.Ytlbbigehjdnjmaa

namespace Go.Proofs.Ytlbbigehjdnjmaa
open Go Go.RowKit

/-- w1 is w but for the blocks of fp, and new ones. -/
structure Only (w w1 : World) (fp : List Nat) : Prop where
  os : w1.os = w.os
  tape : w1.tape = w.tape
  output : w1.output = w.output
  size : w.heap.size ≤ w1.heap.size
  block : ∀ b, b < w.heap.size → b ∉ fp → w1.heap[b]? = w.heap[b]?

theorem Only.refl (w : World) (fp : List Nat) : Only w w fp := ⟨rfl, rfl, rfl, Nat.le_refl _, fun _ _ _ => rfl⟩
theorem Only.of_below {w w1 : World} (h : Below w.heap.size w w1) (fp : List Nat) : Only w w1 fp := ⟨h.os, h.tape, h.output, h.size, fun b hb _ => h.block b hb⟩
theorem Only.to_below {w w1 : World} {fp : List Nat} (h : Only w w1 fp) {B : Nat} (hB : B ≤ w.heap.size) (hf : ∀ b ∈ fp, B ≤ b) : Below B w w1 :=
  ⟨h.os, h.tape, h.output, h.size, fun b hb => h.block b (by omega) fun hm => by have := hf b hm; omega⟩
theorem Only.nil_below {w w1 : World} (h : Only w w1 []) : Below w.heap.size w w1 := h.to_below (Nat.le_refl _) fun _ hb => (nomatch hb)
theorem Only.trans {w a c : World} {fp fp1 : List Nat} (h : Only w a fp) (k : Only a c fp1) (hf : ∀ b ∈ fp1, b ∈ fp ∨ w.heap.size ≤ b) : Only w c fp :=
  ⟨k.os.trans h.os, k.tape.trans h.tape, k.output.trans h.output, Nat.le_trans h.size k.size, fun b hb hn => (k.block b (Nat.lt_of_lt_of_le hb h.size) fun hm => by
    rcases hf b hm with h1 | h1
    · exact hn h1
    · omega).trans (h.block b hb hn)⟩
theorem Only.more {w a : World} {fp fp1 : List Nat} (h : Only w a fp) (hs : ∀ b ∈ fp, b ∈ fp1 ∨ w.heap.size ≤ b) : Only w a fp1 :=
  ⟨h.os, h.tape, h.output, h.size, fun b hb hn => h.block b hb fun hm => by
    rcases hs b hm with h1 | h1
    · exact hn h1
    · omega⟩
theorem Only.then_below {w a c : World} {fp : List Nat} (h : Only w a fp) (k : Below a.heap.size a c) : Only w c fp := h.trans (Only.of_below k []) fun _ hb => (nomatch hb)
theorem Only.alloc {w a : World} {fp : List Nat} (h : Only w a fp) (o : Obj) : Only w (a.alloc o) fp := h.then_below ((Below.refl _ _).alloc (Nat.le_refl _) o)
theorem Only.drew {w a : World} {fp : List Nat} (h : Only w a fp) : Only w a.drew fp := h.then_below ((Below.refl _ _).drew)
theorem Only.set {w a : World} {fp : List Nat} (h : Only w a fp) {p : Addr} (hp : p.block ∈ fp ∨ w.heap.size ≤ p.block) (v : Value) : Only w (a.setCell p v) fp :=
  ⟨h.os, h.tape, h.output, by simpa using h.size, fun b hb hn => by
    rw [Below.heap_setCell a p v b (fun e => by subst e; rcases hp with h1 | h1; exact hn h1; omega)]
    exact h.block b hb hn⟩
theorem Only.grown {w a c : World} {fp : List Nat} {row : Option Nat} (h : Only w a fp) (hg : a.grownBy c row) (hr : ∀ b, row = some b → b ∈ fp ∨ w.heap.size ≤ b) : Only w c fp :=
  ⟨hg.os.trans h.os, hg.tape.trans h.tape, hg.output.trans h.output, Nat.le_trans h.size hg.size, fun b hb hn => (hg.block b (Nat.lt_of_lt_of_le hb h.size) fun e => by
    rcases hr b e.symm with h1 | h1
    · exact hn h1
    · omega).trans (h.block b hb hn)⟩

/-- Block p is just these cells, none frozen. -/
def Blk (w : World) (p : Nat) (T : TypeId) (cs : Array Value) : Prop := w.heap[p]? = some (.cells cs T (0, 0))

theorem Blk.lt {w : World} {p : Nat} {T : TypeId} {cs : Array Value} (h : Blk w p T cs) : p < w.heap.size := by
  rcases Nat.lt_or_ge p w.heap.size with h1 | h1
  · exact h1
  · unfold Blk at h; rw [Array.getElem?_eq_none h1] at h; cases h
theorem Blk.cell {w : World} {p : Nat} {T : TypeId} {cs : Array Value} (h : Blk w p T cs) (j : Nat) : w.cell? ⟨p, j, none⟩ = cs[j]? := cell_of_row w p j cs T (0, 0) h
theorem Blk.frozen {w : World} {p : Nat} {T : TypeId} {cs : Array Value} (h : Blk w p T cs) (j : Nat) : w.frozen? ⟨p, j, none⟩ = false := by
  unfold Blk at h; simp [World.frozen?, h]
theorem Blk.new (w : World) (T : TypeId) (cs : Array Value) : Blk (w.alloc (.cells cs T)) w.heap.size T cs := heap_alloc_new w _
theorem Blk.only {w w1 : World} {p : Nat} {T : TypeId} {cs : Array Value} {fp : List Nat} (h : Blk w p T cs) (k : Only w w1 fp) (hn : p ∉ fp) : Blk w1 p T cs := (k.block p h.lt hn).trans h
theorem Blk.below {w w1 : World} {p : Nat} {T : TypeId} {cs : Array Value} (h : Blk w p T cs) (k : Below w.heap.size w w1) : Blk w1 p T cs := (k.block p h.lt).trans h
theorem Blk.set {w : World} {p : Nat} {T : TypeId} {cs : Array Value} (h : Blk w p T cs) (j : Nat) (v : Value) : Blk (w.setCell ⟨p, j, none⟩ v) p T (cs.setIfInBounds j v) := by
  unfold Blk at *; simp [World.setCell, Array.getElem?_modify, h]
theorem Blk.other {w : World} {p : Nat} {T : TypeId} {cs : Array Value} (h : Blk w p T cs) {q : Addr} (hq : p ≠ q.block) (v : Value) : Blk (w.setCell q v) p T cs := (Below.heap_setCell w q v p hq).trans h
theorem Blk.kb {w : World} {p : Nat} {T : TypeId} {cs : Array Value} (h : Blk w p T cs) : KB w [(p, cs.toList)] := by
  refine ⟨h.lt, fun o => h.frozen o, ?_, trivial⟩
  have go : ∀ (l : List Value) (o : Nat), cs.toList.drop o = l → CellsAt w p o l := by
    intro l
    induction l with
    | nil => intro _ _; trivial
    | cons v l ih =>
      intro o ho
      refine ⟨?_, ih (o + 1) (by rw [← List.drop_drop, ho]; rfl)⟩
      rw [h.cell]
      have h0 := congrArg (fun l => l[0]?) ho
      simpa using h0
  exact go _ 0 rfl

/-- The block of a slice that the call owns. -/
def blk (v : Value) : List Nat := v.ownBlock.toList

theorem own_only {w w1 : World} {base : Nat} {e : TypeId} {size n : Nat} {v : Value} {xs : List Value} {fp : List Nat} (h : w.ownsRow base e size v n xs) (k : Only w w1 fp) (hn : ∀ b ∈ blk v, b ∉ fp) : w1.ownsRow base e size v n xs := by
  refine ⟨h.1, ?_⟩
  have hlt := h.lt
  rcases h.2 with h1 | ⟨g, cap, cur, rfl, h2, h3, h4⟩
  · exact .inl h1
  · exact .inr ⟨g, cap, cur, rfl, h2, (k.block g (hlt g rfl).2 (hn g (by simp [blk, Value.ownBlock]))).trans h3, h4⟩

theorem lists_only {w w1 : World} {B : Nat} {A : Option Addr} {xs : List Value} {fp : List Nat} (h : Lists w B A xs) (hB : B ≤ w.heap.size) (k : Only w w1 fp) (hn : ∀ a, A = some a → xs ≠ [] → a.block ∉ fp) : Lists w1 B A xs :=
  ⟨h.nil, fun a ha j u hu => by
    have hx : xs ≠ [] := by intro e; subst e; simp at hu
    have hb : w1.heap[(a.add j).block]? = w.heap[(a.add j).block]? := by
      rw [addr_add_block]
      exact k.block _ (Nat.lt_of_lt_of_le (h.lt a ha hx) hB) (hn a ha hx)
    exact (World.cell?_of_block hb).trans (h.cell a ha j u hu), h.lt⟩

theorem blk_lt {w : World} {base : Nat} {e : TypeId} {size n : Nat} {v : Value} {xs : List Value} (h : w.ownsRow base e size v n xs) : ∀ b ∈ blk v, b < w.heap.size := by
  intro b hb
  simp only [blk, Option.mem_toList] at hb
  exact (h.lt b hb).2

end Go.Proofs.Ytlbbigehjdnjmaa

namespace Go.Proofs.Ytlbbigehjdnjmaa
open Go Go.RowKit

theorem only_setRow (w : World) (g : Nat) (cs : Array Value) : Only w (w.setRow g cs) [g] :=
  ⟨rfl, rfl, rfl, by simp [World.setRow], fun b _ hn => setRow_other w g b cs (fun e => hn (by simp [e]))⟩

section
variable {P : Program} {w : World}
theorem run_copy_only (dT sT ty elem : TypeId) (hu : P.underlying dT = some (.slice elem)) (hsz : (P.info? elem).map (·.size) = some 1)
    (dp sp : Option Addr) (dLen dCap sLen sCap : Nat) (g off : Nat) (cur : List Value) (t : TypeId) (hg : w.heap[g]? = some (.cells cur.toArray t (0, 0))) (cs : List Value) (hn : cs.length = Nat.min sLen dLen)
    (hpos : 0 < cs.length → dp = some ⟨g, off, none⟩ ∧ ∃ ad, sp = some ad ∧ ∀ (j : Nat) (v : Value), cs[j]? = some v → w.cell? (ad.add j) = some v)
    (hfit : off + cs.length ≤ cur.length) (h1 : ∀ v ∈ cs, v.oneCell' = true) :
    ∃ w', (Builtin.copy_ #[dT, sT] ty #[.slice dp dLen dCap, .slice sp sLen sCap]).run P w = .ok (goInt cs.length) w' ∧ w'.heap[g]? = some (.cells (splice cur off cs).toArray t (0, 0)) ∧ Only w w' [g] := by
  by_cases h0 : cs.length = 0
  · obtain rfl : cs = [] := List.eq_nil_of_length_eq_zero h0
    exact ⟨w, run_copy_none (P := P) w dT sT ty elem dp sp dLen dCap sLen sCap hu hsz (by simpa using hn.symm), by simpa [splice] using hg, Only.refl w _⟩
  · obtain ⟨rfl, ad, rfl, hsrc⟩ := hpos (by omega)
    refine ⟨_, run_copy_row (P := P) w dT sT ty elem g off dLen dCap ad sLen sCap cur.toArray t cs hu hsz hg hn hsrc (by simpa using hfit) h1, ?_, only_setRow w g _⟩
    rw [setRow_heap w g _ _ t _ hg]
    simp [splice]

theorem step_copy_only {ops : Array Oper} {o : Oper} {a : Act} {K : Act → World → Prop} {Q : Exit → Act → World → Prop} {E : Prop} (hgd : o.guard = none) (d s : Operand) (dT sT : TypeId)
    (ho : o.op = .call { callee := .builtin .copy, args := #[d, s], argTypes := #[dT, sT] }) (elem : TypeId) (hu : P.underlying dT = some (.slice elem)) (hsz : (P.info? elem).map (·.size) = some 1)
    (dp sp : Option Addr) (dLen dCap sLen sCap : Nat) (hd : a.eval d = .slice dp dLen dCap) (hs : a.eval s = .slice sp sLen sCap)
    (g off : Nat) (cur : List Value) (t : TypeId) (hg : w.heap[g]? = some (.cells cur.toArray t (0, 0))) (cs : List Value) (hn : cs.length = Nat.min sLen dLen)
    (hpos : 0 < cs.length → dp = some ⟨g, off, none⟩ ∧ ∃ ad, sp = some ad ∧ ∀ (j : Nat) (v : Value), cs[j]? = some v → w.cell? (ad.add j) = some v)
    (hfit : off + cs.length ≤ cur.length) (h1 : ∀ v ∈ cs, v.oneCell' = true)
    (h : ∀ w', Hid (w'.heap[g]? = some (.cells (splice cur off cs).toArray t (0, 0))) → Only w w' [g] → K (a.put o.dst (goInt cs.length)) w') :
    if Region.wanted o (yielded ops a.tmps) = true then Oper.wp P o a w K Q else E := by
  rw [if_pos (by simp [Region.wanted, hgd])]
  obtain ⟨w', hrun, h2, h3⟩ := run_copy_only (P := P) dT sT o.type elem hu hsz dp sp dLen dCap sLen sCap g off cur t hg cs hn hpos hfit h1
  unfold Oper.wp
  simp [execOp, ho, resolve, invoke, builtin, hd, hs, hrun, Result.andThen]
  exact h w' h2 h3
end

end Go.Proofs.Ytlbbigehjdnjmaa

namespace Go.Proofs.Ytlbbigehjdnjmaa
open Go Go.RowKit

def zero8 : Value := .int .u8 0

/-- Data from a place on, with so many zeros ahead of each gap's place. -/
def expand (D : List Value) : Nat → List (Nat × Nat) → List Value
  | i, [] => D.drop i
  | i, (a, z) :: G => (D.drop i).take (a - i) ++ List.replicate z zero8 ++ expand D a G

/-- The gaps' places rise, and are none beyond n; none is empty. -/
def GapsOk : Nat → List (Nat × Nat) → Nat → Prop
  | i, [], n => i ≤ n
  | i, (a, z) :: G, n => i ≤ a ∧ 1 ≤ z ∧ GapsOk a G n

def gapSum (G : List (Nat × Nat)) : Nat := (G.map (·.2)).sum

theorem GapsOk.le : ∀ {G : List (Nat × Nat)} {i n : Nat}, GapsOk i G n → i ≤ n
  | [], _, _, h => h
  | _ :: _, _, _, h => Nat.le_trans h.1 h.2.2.le
theorem GapsOk.more : ∀ {G : List (Nat × Nat)} {i n m : Nat}, GapsOk i G n → n ≤ m → GapsOk i G m
  | [], _, _, _, h, hm => Nat.le_trans h hm
  | _ :: _, _, _, _, h, hm => ⟨h.1, h.2.1, h.2.2.more hm⟩
theorem GapsOk.snoc {z : Nat} (hz : 1 ≤ z) : ∀ {G : List (Nat × Nat)} {i n : Nat}, GapsOk i G n → GapsOk i (G ++ [(n, z)]) n
  | [], _, _, h => ⟨h, hz, Nat.le_refl _⟩
  | _ :: _, _, _, h => ⟨h.1, h.2.1, GapsOk.snoc hz h.2.2⟩
theorem GapsOk.count : ∀ {G : List (Nat × Nat)} {i n : Nat}, GapsOk i G n → G.length ≤ gapSum G
  | [], _, _, _ => Nat.zero_le _
  | (a, z) :: G, _, _, h => by
    have := h.2.2.count
    have h1 := h.2.1
    simp only [gapSum, List.map_cons, List.sum_cons, List.length_cons] at *
    omega

theorem expand_data (D E : List Value) : ∀ (G : List (Nat × Nat)) (i : Nat), GapsOk i G D.length → expand (D ++ E) i G = expand D i G ++ E
  | [], i, h => by simp only [expand]; rw [List.drop_append_of_le_length h]
  | (a, z) :: G, i, h => by
    have hle := h.2.2.le
    simp only [expand]
    rw [expand_data D E G a h.2.2, List.drop_append_of_le_length (by have := h.1; omega), List.take_append_of_le_length (by rw [List.length_drop]; omega)]
    simp only [List.append_assoc]

theorem expand_gap (D : List Value) (z : Nat) : ∀ (G : List (Nat × Nat)) (i : Nat), GapsOk i G D.length → expand D i (G ++ [(D.length, z)]) = expand D i G ++ List.replicate z zero8
  | [], i, h => by
    simp only [List.nil_append, expand]
    rw [List.take_of_length_le (by rw [List.length_drop]; omega), List.drop_eq_nil_of_le (Nat.le_refl _)]
    simp
  | (a, y) :: G, i, h => by
    simp only [List.cons_append, expand]
    rw [expand_gap D z G a h.2.2]
    simp only [List.append_assoc]

theorem expand_len (D : List Value) : ∀ (G : List (Nat × Nat)) (i : Nat), GapsOk i G D.length → (expand D i G).length = D.length - i + gapSum G
  | [], i, _ => by simp [expand, gapSum]
  | (a, z) :: G, i, h => by
    have hle := h.2.2.le
    have h1 := h.1
    simp only [expand, List.length_append, List.length_replicate, List.length_take, List.length_drop]
    rw [expand_len D G a h.2.2]
    simp only [gapSum, List.map_cons, List.sum_cons]
    omega

/-- The cells of gaps. -/
def gapCells : List (Nat × Nat) → List Value
  | [] => []
  | (a, z) :: G => .int .i64 (a : Int) :: .int .i64 (z : Int) :: gapCells G
theorem gapCells_len : ∀ G : List (Nat × Nat), (gapCells G).length = G.length * 2
  | [] => rfl
  | _ :: G => by simp only [gapCells, List.length_cons, gapCells_len G]; omega
theorem gapCells_snoc (a z : Nat) : ∀ G : List (Nat × Nat), gapCells (G ++ [(a, z)]) = gapCells G ++ [.int .i64 (a : Int), .int .i64 (z : Int)]
  | [] => rfl
  | (_, _) :: G => by simp only [List.cons_append, gapCells, gapCells_snoc a z G]
theorem gapCells_at : ∀ (G : List (Nat × Nat)) (k : Nat) (a z : Nat), G[k]? = some (a, z) → (gapCells G)[k * 2]? = some (.int .i64 (a : Int)) ∧ (gapCells G)[k * 2 + 1]? = some (.int .i64 (z : Int))
  | [], k, a, z, h => by simp at h
  | (b, y) :: G, 0, a, z, h => by
    simp only [List.getElem?_cons_zero, Option.some.injEq, Prod.mk.injEq] at h
    obtain ⟨rfl, rfl⟩ := h
    exact ⟨rfl, rfl⟩
  | (b, y) :: G, k + 1, a, z, h => by
    have := gapCells_at G k a z (by simpa using h)
    rw [show (k + 1) * 2 = k * 2 + 1 + 1 by omega]
    exact this

/-- Each is a byte. -/
def Bytes8 (l : List Value) : Prop := ∀ u ∈ l, ∃ x : Nat, x < 256 ∧ u = .int .u8 (x : Int)
theorem Bytes8.one {l : List Value} (h : Bytes8 l) : ∀ u ∈ l, u.oneCell' = true := fun u hu => by
  obtain ⟨x, _, rfl⟩ := h u hu
  rfl
theorem Bytes8.append {l m : List Value} (h : Bytes8 l) (k : Bytes8 m) : Bytes8 (l ++ m) := fun u hu => by
  rcases List.mem_append.1 hu with h1 | h1
  · exact h u h1
  · exact k u h1
theorem Bytes8.zeros (n : Nat) : Bytes8 (List.replicate n zero8) := fun u hu => ⟨0, by omega, (List.mem_replicate.1 hu).2⟩

theorem own_ne {w : World} {base p : Nat} {e T : TypeId} {size n : Nat} {v : Value} {xs : List Value} {cs : Array Value} (h : w.ownsRow base e size v n xs) (hb : Blk w p T cs) (hne : e ≠ T) : p ∉ blk v := by
  intro hm
  rcases h.2 with ⟨rfl, _⟩ | ⟨g, cap, cur, rfl, _, hh, _⟩
  · simp [blk, Value.ownBlock] at hm
  · have : p = g := by simpa [blk, Value.ownBlock] using hm
    subst this
    unfold Blk at hb
    rw [hh] at hb
    injection hb with hb
    injection hb with _ ht
    exact hne ht
theorem own_own {w : World} {base base1 : Nat} {e e1 : TypeId} {size n size1 n1 : Nat} {v v1 : Value} {xs xs1 : List Value} (h : w.ownsRow base e size v n xs) (h1 : w.ownsRow base1 e1 size1 v1 n1 xs1) (hne : e ≠ e1) : ∀ b ∈ blk v, b ∉ blk v1 := by
  intro b hb hm
  rcases h.2 with ⟨rfl, _⟩ | ⟨g, cap, cur, rfl, _, hh, _⟩
  · simp [blk, Value.ownBlock] at hb
  · rcases h1.2 with ⟨rfl, _⟩ | ⟨g1, cap1, cur1, rfl, _, hh1, _⟩
    · simp [blk, Value.ownBlock] at hm
    · have e1 : b = g := by simpa [blk, Value.ownBlock] using hb
      have e2 : b = g1 := by simpa [blk, Value.ownBlock] using hm
      subst e1 e2
      rw [hh] at hh1
      injection hh1 with hh1
      injection hh1 with _ ht
      exact hne ht

end Go.Proofs.Ytlbbigehjdnjmaa
