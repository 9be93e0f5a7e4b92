/- Boxes: serifref02's pixels, and a box shifted. -/
import Derived.Test.YtdbnjlmkbmfhkaaBox7
namespace Go.Proofs.Ytdbnjlmkbmfhkaa
open Go.RowKit

set_option maxHeartbeats 2000000 in
theorem rpixels_any (A : Q) (w : World) (hm : mayQ A = true) :
    Calls Try.prog 34 #[.agg #[.int .i64 A.x0, .int .i64 A.y0, .int .i64 A.x1, .int .i64 A.y1]] w fun e w' => e = .returned (.agg #[.int .i64 ((plainQ A).x0 / 64), .int .i64 ((plainQ A).y0 / 64), .int .i64 (((plainQ A).x1 + 63) / 64), .int .i64 (((plainQ A).y1 + 63) / 64)]) ∧ Below w.heap.size w w' := by
  obtain ⟨⟨l1, l2⟩, ⟨l3, l4⟩, ⟨l5, l6⟩, ⟨l7, l8⟩⟩ := mayQ_lims hm
  have E := fun w => rempty_any A w
  have I := In2.start w A zeroQ
  unfold plainQ
  cases h : emptyQ A
  · rw [h] at E
    rw [if_neg (by decide)]
    have F1 := fun w => floor_ref A.x0 64 w (by omega) (by omega) (by omega)
    have F2 := fun w => floor_ref A.y0 64 w (by omega) (by omega) (by omega)
    have F3 := fun w => floor_ref (-A.x1) 64 w (by omega) (by omega) (by omega)
    have F4 := fun w => floor_ref (-A.y1) 64 w (by omega) (by omega) (by omega)
    have e3 : -A.x1 / 64 = -((A.x1 + 63) / 64) := by omega
    have e4 : -A.y1 / 64 = -((A.y1 + 63) / 64) := by omega
    rw [e3] at F3
    rw [e4] at F4
    have r1 : -2147483648 ≤ (A.x1 + 63) / 64 := by omega
    have r2 : (A.x1 + 63) / 64 ≤ 2147483648 := by omega
    have r3 : -2147483648 ≤ (A.y1 + 63) / 64 := by omega
    have r4 : (A.y1 + 63) / 64 ≤ 2147483648 := by omega
    have r5 : IntKind.i64.wrap ((A.x1 + 63) / 64) = (A.x1 + 63) / 64 := IntWalk.i64_in _ (by omega)
    have r6 : IntKind.i64.wrap ((A.y1 + 63) / 64) = (A.y1 + 63) / 64 := IntWalk.i64_in _ (by omega)
    have r7 : IntKind.i64.wrap (-A.x1) = -A.x1 := IntWalk.i64_in _ (by omega)
    have r8 : IntKind.i64.wrap (-A.y1) = -A.y1 := IntWalk.i64_in _ (by omega)
    generalize (A.x1 + 63) / 64 = X at *
    generalize (A.y1 + 63) / 64 = Y at *
    clear h hm e3 e4
    go_enter Try.func34, Try.ntmps34
    go_wp2_with (first | (go_at_call 25; ((with_reducible refine (E _).mono ?_); rintro e w1 ⟨rfl, b1⟩; have I := I.next b1; obtain ⟨_, ⟨y1, y2⟩, hA, hZ, f1, f2⟩ := id I)))
    go_region_held3 (fun w' => w'.cell? ⟨w.heap.size, 0, none⟩ = some (.int .i64 A.x0) ∧ w'.cell? ⟨w.heap.size, 1, none⟩ = some (.int .i64 A.y0) ∧ w'.cell? ⟨w.heap.size, 2, none⟩ = some (.int .i64 A.x1) ∧ w'.cell? ⟨w.heap.size, 3, none⟩ = some (.int .i64 A.y1))
      (go_keep) (first | (go_at_call 59; ((with_reducible refine (F1 _).mono ?_); rintro e w' ⟨rfl, rfl⟩)) | (go_at_call 59; ((with_reducible refine (F2 _).mono ?_); rintro e w' ⟨rfl, rfl⟩)) | (go_at_call 59; ((with_reducible refine (F3 _).mono ?_); rintro e w' ⟨rfl, rfl⟩)) | (go_at_call 59; ((with_reducible refine (F4 _).mono ?_); rintro e w' ⟨rfl, rfl⟩)))
    all_goals go_wp2
    refine bodyPost_ret (v := .agg #[.int .i64 (A.x0 / 64), .int .i64 (A.y0 / 64), .int .i64 X, .int .i64 Y]) (by simp [results, Try.results34, go_sem, *]) rfl ⟨rfl, ?_⟩
    exact (below_set4 (b := w.heap.size + 1) I.1 (by omega) _ _ _ _).drew
  · rw [h] at E
    rw [if_pos rfl]
    clear h hm
    go_enter Try.func34, Try.ntmps34
    go_wp2_with (first | (go_at_call 25; ((with_reducible refine (E _).mono ?_); rintro e w1 ⟨rfl, b1⟩; have I := I.next b1; obtain ⟨_, ⟨y1, y2⟩, hA, hZ, f1, f2⟩ := id I)))
    refine bodyPost_ret (v := .agg #[.int .i64 0, .int .i64 0, .int .i64 0, .int .i64 0]) (by simp [results, Try.results34, go_sem, *]) rfl ⟨rfl, ?_⟩
    exact below_set4 (b := w.heap.size + 1) I.1 (by omega) _ _ _ _

theorem rshift_none (A : Q) (x y : Int) (w : World) (he : emptyQ A = true) :
    Calls Try.prog 33 #[.agg #[.int .i64 A.x0, .int .i64 A.y0, .int .i64 A.x1, .int .i64 A.y1], .int .i64 x, .int .i64 y] w fun e w' => e = .returned (.tuple #[.agg #[.int .i64 0, .int .i64 0, .int .i64 0, .int .i64 0], .int .i64 0]) ∧ Below w.heap.size w w' := by
  have E := fun w => rempty_any A w
  rw [he] at E
  have I := In2.start w A zeroQ
  go_enter Try.func33, Try.ntmps33
  go_wp2_with (first | (go_at_call 25; ((with_reducible refine (E _).mono ?_); rintro e w1 ⟨rfl, b1⟩; have I := I.next b1; obtain ⟨_, ⟨y1, y2⟩, hA, hZ, f1, f2⟩ := id I)))
  refine bodyPost_ret (v := .tuple #[.agg #[.int .i64 0, .int .i64 0, .int .i64 0, .int .i64 0], .int .i64 0]) (by simp [results, Try.results33, go_sem, *]) rfl ⟨rfl, ?_⟩
  exact below_set4 (b := w.heap.size + 1) I.1 (by omega) _ _ _ _

theorem rshift_go (A : Q) (x y : Int) (w : World) (hm : mayQ A = true) (hx : (mayB x && mayB y) = true) (he : emptyQ A = false) (R : Q) (E : Int) (hR : R = if mayQ (shiftQ A x y) then shiftQ A x y else zeroQ) (hE : E = if mayQ (shiftQ A x y) then 0 else 10) :
    Calls Try.prog 33 #[.agg #[.int .i64 A.x0, .int .i64 A.y0, .int .i64 A.x1, .int .i64 A.y1], .int .i64 x, .int .i64 y] w fun e w' => e = .returned (.tuple #[.agg #[.int .i64 R.x0, .int .i64 R.y0, .int .i64 R.x1, .int .i64 R.y1], .int .i64 E]) ∧ Below w.heap.size w w' := by
  have EM := fun w => rempty_any A w
  rw [he] at EM
  have N : ∀ w, Calls Try.prog 23 #[.agg #[.int .i64 (A.x0 + x), .int .i64 (A.y0 + y), .int .i64 (A.x1 + x), .int .i64 (A.y1 + y)]] w (fun e w' => e = .returned (.bool (mayQ (shiftQ A x y))) ∧ Below w.heap.size w w') := fun w => rmayQ_any (shiftQ A x y) w
  obtain ⟨⟨l1, l2⟩, ⟨l3, l4⟩, ⟨l5, l6⟩, ⟨l7, l8⟩⟩ := mayQ_lims hm
  rw [Bool.and_eq_true] at hx
  have x1 := mayB_lo hx.1
  have x2 := mayB_hi hx.1
  have y1 := mayB_lo hx.2
  have y2 := mayB_hi hx.2
  have I := In2.start w A zeroQ
  clear hm hx he
  cases hs : mayQ (shiftQ A x y)
  · rw [hs] at N hR hE
    obtain rfl : R = zeroQ := hR
    obtain rfl : E = 10 := hE
    clear hs
    go_enter Try.func33, Try.ntmps33
    go_wp2_with (first | (go_at_call 25; ((with_reducible refine (EM _).mono ?_); rintro e w1 ⟨rfl, b1⟩; have I := I.next b1; obtain ⟨_, ⟨y1, y2⟩, hA, hZ, f1, f2⟩ := id I)) | (go_at_call 23; ((with_reducible refine (N _).mono ?_); rintro e w3 ⟨rfl, b3⟩; have I := (I.alloc _).next b3; obtain ⟨_, ⟨y1, y2⟩, hA, hZ, f1, f2⟩ := id I)))
    refine bodyPost_ret (v := .tuple #[.agg #[.int .i64 0, .int .i64 0, .int .i64 0, .int .i64 0], .int .i64 10]) (by simp [results, Try.results33, go_sem, *]) rfl ⟨rfl, ?_⟩
    exact below_set4 (b := w.heap.size + 1) I.1 (by omega) _ _ _ _
  · rw [hs] at N hR hE
    obtain rfl : R = shiftQ A x y := hR
    obtain rfl : E = 0 := hE
    clear hs
    go_enter Try.func33, Try.ntmps33
    go_wp2_with (first | (go_at_call 25; ((with_reducible refine (EM _).mono ?_); rintro e w1 ⟨rfl, b1⟩; have I := I.next b1; obtain ⟨_, ⟨y1, y2⟩, hA, hZ, f1, f2⟩ := id I)) | (go_at_call 23; ((with_reducible refine (N _).mono ?_); rintro e w3 ⟨rfl, b3⟩; have hS : w3.cell? ⟨w1.heap.size, 0, none⟩ = some (.int .i64 (shiftQ A x y).x0) ∧ w3.cell? ⟨w1.heap.size, 1, none⟩ = some (.int .i64 (shiftQ A x y).y0) ∧ w3.cell? ⟨w1.heap.size, 2, none⟩ = some (.int .i64 (shiftQ A x y).x1) ∧ w3.cell? ⟨w1.heap.size, 3, none⟩ = some (.int .i64 (shiftQ A x y).y1) := at_next b3 (by simp) (by refine ⟨?_, ?_, ?_, ?_⟩ <;> (unfold shiftQ; go_simp)); unfold shiftQ at hS; have I := (I.alloc _).next b3; obtain ⟨_, ⟨y1, y2⟩, hA, hZ, f1, f2⟩ := id I)))
    refine bodyPost_ret (v := .tuple #[.agg #[.int .i64 (A.x0 + x), .int .i64 (A.y0 + y), .int .i64 (A.x1 + x), .int .i64 (A.y1 + y)], .int .i64 0]) (by simp [results, Try.results33, go_sem, *]) rfl ⟨rfl, ?_⟩
    exact below_set4 (b := w.heap.size + 1) I.1 (by omega) _ _ _ _

end Go.Proofs.Ytdbnjlmkbmfhkaa
