/- Matrices: one behind the other. -/
import Derived.Test.YtdbnjlmkbmfhkaaThen
import Derived.Test.YtdbnjlmkbmfhkaaBox4
namespace Go.Proofs.Ytdbnjlmkbmfhkaa
open Go.RowKit

theorem In3.startM (w : World) (A B Z : Q) : In3 w (((w.alloc (.cells #[.int .i64 A.x0, .int .i64 A.y0, .int .i64 A.x1, .int .i64 A.y1] 23)).alloc (.cells #[.int .i64 B.x0, .int .i64 B.y0, .int .i64 B.x1, .int .i64 B.y1] 23)).alloc (.cells #[.int .i64 Z.x0, .int .i64 Z.y0, .int .i64 Z.x1, .int .i64 Z.y1] 23)) A B Z := by
  refine ⟨below_a3 _ _ _ _, ⟨by simp <;> omega, by simp <;> omega, by simp <;> omega⟩, ⟨?_, ?_, ?_, ?_⟩, ⟨?_, ?_, ?_, ?_⟩, ⟨?_, ?_, ?_, ?_⟩, fun o => ?_, fun o => ?_, fun o => ?_⟩ <;> go_simp

theorem In3.set {w wx : World} {A B Z : Q} {k : Nat} (h : In3 w wx A B Z) (hk : w.heap.size + 1 + 1 < k) (o : Nat) (v : Value) : In3 w (wx.setCell ⟨k, o, none⟩ v) A B Z := by
  obtain ⟨h0, ⟨h1, h2, h3⟩, ⟨a0, a1, a2, a3⟩, ⟨b0, b1, b2, b3⟩, ⟨c0, c1, c2, c3⟩, f1, f2, f3⟩ := h
  have n1 : ¬ k = w.heap.size := by omega
  have n2 : ¬ k = w.heap.size + 1 := by omega
  have n3 : ¬ k = w.heap.size + 1 + 1 := by omega
  refine ⟨h0.setCell (by show w.heap.size ≤ k; omega) v, ⟨by simpa [World.setCell] using h1, by simpa [World.setCell] using h2, by simpa [World.setCell] using h3⟩, ⟨?_, ?_, ?_, ?_⟩, ⟨?_, ?_, ?_, ?_⟩, ⟨?_, ?_, ?_, ?_⟩, fun o => ?_, fun o => ?_, fun o => ?_⟩
  all_goals first | go_simp | simp [f1, f2, f3]

/-- the numbers of one matrix behind another: where a point may not be, 0 -/
def thenQ (A B : Q) : Q := ⟨apU B.x0 B.y0 B.x1 B.y1 A.x0 A.y0, apV B.x0 B.y0 B.x1 B.y1 A.x0 A.y0, apU B.x0 B.y0 B.x1 B.y1 A.x1 A.y1, apV B.x0 B.y0 B.x1 B.y1 A.x1 A.y1⟩

theorem then_no1 (A B : Q) (w : World) (hA : fitM A.x0 A.y0 A.x1 A.y1 = false) :
    Calls Try.prog 17 #[.agg #[.int .i64 A.x0, .int .i64 A.y0, .int .i64 A.x1, .int .i64 A.y1], .agg #[.int .i64 B.x0, .int .i64 B.y0, .int .i64 B.x1, .int .i64 B.y1]] w fun e w' => e = .returned (.tuple #[.agg #[.int .i64 0, .int .i64 0, .int .i64 0, .int .i64 0], .int .i64 1]) ∧ Below w.heap.size w w' := by
  have M1 := fun w => mayM_any A.x0 A.y0 A.x1 A.y1 w
  rw [hA] at M1
  have M2 := M1
  have I := In3.startM w A B zeroQ
  go_enter Try.func17, Try.ntmps17
  go_wp2_with (first | (go_at_call 15; ((with_reducible refine (M1 _).mono ?_); rintro e w1 ⟨rfl, b1⟩; have I := I.next b1; obtain ⟨_, ⟨y1, y2, y3⟩, hA, hB, hZ, f1, f2, f3⟩ := id I)) | (go_at_call 15; ((with_reducible refine (M2 _).mono ?_); rintro e w2 ⟨rfl, b2⟩; have I := I.next b2; obtain ⟨_, ⟨y1, y2, y3⟩, hA, hB, hZ, f1, f2, f3⟩ := id I)))
  refine bodyPost_ret (v := .tuple #[.agg #[.int .i64 0, .int .i64 0, .int .i64 0, .int .i64 0], .int .i64 1]) (by simp [results, Try.results17, go_sem, *]) rfl ⟨rfl, ?_⟩
  exact below_set4 I.1 (by omega) _ _ _ _

theorem then_no2 (A B : Q) (w : World) (hA : fitM A.x0 A.y0 A.x1 A.y1 = true) (hB : fitM B.x0 B.y0 B.x1 B.y1 = false) :
    Calls Try.prog 17 #[.agg #[.int .i64 A.x0, .int .i64 A.y0, .int .i64 A.x1, .int .i64 A.y1], .agg #[.int .i64 B.x0, .int .i64 B.y0, .int .i64 B.x1, .int .i64 B.y1]] w fun e w' => e = .returned (.tuple #[.agg #[.int .i64 0, .int .i64 0, .int .i64 0, .int .i64 0], .int .i64 1]) ∧ Below w.heap.size w w' := by
  have M1 := fun w => mayM_any A.x0 A.y0 A.x1 A.y1 w
  have M2 := fun w => mayM_any B.x0 B.y0 B.x1 B.y1 w
  rw [hA] at M1
  rw [hB] at M2
  have I := In3.startM w A B zeroQ
  go_enter Try.func17, Try.ntmps17
  go_wp2_with (first | (go_at_call 15; ((with_reducible refine (M1 _).mono ?_); rintro e w1 ⟨rfl, b1⟩; have I := I.next b1; obtain ⟨_, ⟨y1, y2, y3⟩, hA, hB, hZ, f1, f2, f3⟩ := id I)) | (go_at_call 15; ((with_reducible refine (M2 _).mono ?_); rintro e w2 ⟨rfl, b2⟩; have I := I.next b2; obtain ⟨_, ⟨y1, y2, y3⟩, hA, hB, hZ, f1, f2, f3⟩ := id I)))
  refine bodyPost_ret (v := .tuple #[.agg #[.int .i64 0, .int .i64 0, .int .i64 0, .int .i64 0], .int .i64 1]) (by simp [results, Try.results17, go_sem, *]) rfl ⟨rfl, ?_⟩
  exact below_set4 I.1 (by omega) _ _ _ _

set_option maxHeartbeats 2000000 in
theorem then_go (A B : Q) (w : World) (hA : fitM A.x0 A.y0 A.x1 A.y1 = true) (hB : fitM B.x0 B.y0 B.x1 B.y1 = true) (R : Q) (hR : R = thenQ A B) (E : Int) (hE : E = if fitM R.x0 R.y0 R.x1 R.y1 then 0 else 10) (S : Q) (hS : S = if fitM R.x0 R.y0 R.x1 R.y1 then R else zeroQ) :
    Calls Try.prog 17 #[.agg #[.int .i64 A.x0, .int .i64 A.y0, .int .i64 A.x1, .int .i64 A.y1], .agg #[.int .i64 B.x0, .int .i64 B.y0, .int .i64 B.x1, .int .i64 B.y1]] w fun e w' => e = .returned (.tuple #[.agg #[.int .i64 S.x0, .int .i64 S.y0, .int .i64 S.x1, .int .i64 S.y1], .int .i64 E]) ∧ Below w.heap.size w w' := by
  have M1 := fun w => mayM_any A.x0 A.y0 A.x1 A.y1 w
  have M2 := fun w => mayM_any B.x0 B.y0 B.x1 B.y1 w
  have M3 := fun w => mayM_any R.x0 R.y0 R.x1 R.y1 w
  have P1 := fun w => apply_any B.x0 B.y0 B.x1 B.y1 A.x0 A.y0 w
  have P2 := fun w => apply_any B.x0 B.y0 B.x1 B.y1 A.x1 A.y1 w
  rw [hA] at M1
  rw [hB] at M2
  rw [show apU B.x0 B.y0 B.x1 B.y1 A.x0 A.y0 = R.x0 by rw [hR]; rfl, show apV B.x0 B.y0 B.x1 B.y1 A.x0 A.y0 = R.y0 by rw [hR]; rfl] at P1
  rw [show apU B.x0 B.y0 B.x1 B.y1 A.x1 A.y1 = R.x1 by rw [hR]; rfl, show apV B.x0 B.y0 B.x1 B.y1 A.x1 A.y1 = R.y1 by rw [hR]; rfl] at P2
  generalize apE B.x0 B.y0 B.x1 B.y1 A.x0 A.y0 = e1 at P1
  generalize apE B.x0 B.y0 B.x1 B.y1 A.x1 A.y1 = e2 at P2
  have I := In3.startM w A B zeroQ
  clear hA hB hR
  cases hs : fitM R.x0 R.y0 R.x1 R.y1
  · rw [hs] at M3 hE hS
    obtain rfl : E = 10 := hE
    obtain rfl : S = zeroQ := hS
    clear hs
    go_enter Try.func17, Try.ntmps17
    go_wp2_with (first | (go_at_call 15; ((with_reducible refine (M1 _).mono ?_); rintro e w1 ⟨rfl, b1⟩; (first | have I := I.next b1 | have I := I.drew.next b1); obtain ⟨_, ⟨y1, y2, y3⟩, hA, hB, hZ, f1, f2, f3⟩ := id I)) | (go_at_call 15; ((with_reducible refine (M2 _).mono ?_); rintro e w2 ⟨rfl, b2⟩; (first | have I := I.next b2 | have I := I.drew.next b2); obtain ⟨_, ⟨y1, y2, y3⟩, hA, hB, hZ, f1, f2, f3⟩ := id I)) | (go_at_call 10; ((with_reducible refine (P1 _).mono ?_); rintro e w3 ⟨rfl, b3⟩; (first | have I := I.next b3 | have I := I.drew.next b3); obtain ⟨_, ⟨y1, y2, y3⟩, hA, hB, hZ, f1, f2, f3⟩ := id I)) | (go_at_call 10; ((with_reducible refine (P2 _).mono ?_); rintro e w4 ⟨rfl, b4⟩; (first | have I := I.next b4 | have I := I.drew.next b4); obtain ⟨_, ⟨y1, y2, y3⟩, hA, hB, hZ, f1, f2, f3⟩ := id I)) | (go_at_call 15; ((with_reducible refine (M3 _).mono ?_); rintro e w5 ⟨rfl, b5⟩; have I := (I.next (below_a1 _ _)).next b5; obtain ⟨_, ⟨y1, y2, y3⟩, hA, hB, hZ, f1, f2, f3⟩ := id I)))
    refine bodyPost_ret (v := .tuple #[.agg #[.int .i64 0, .int .i64 0, .int .i64 0, .int .i64 0], .int .i64 10]) (by simp [results, Try.results17, go_sem, *]) rfl ⟨rfl, ?_⟩
    exact below_set4 I.1 (by omega) _ _ _ _
  · rw [hs] at M3 hE hS
    obtain rfl : E = 0 := hE
    obtain rfl : S = R := hS
    clear hs
    go_enter Try.func17, Try.ntmps17
    go_wp2_with (first | (go_at_call 15; ((with_reducible refine (M1 _).mono ?_); rintro e w1 ⟨rfl, b1⟩; (first | have I := I.next b1 | have I := I.drew.next b1); obtain ⟨_, ⟨y1, y2, y3⟩, hA, hB, hZ, f1, f2, f3⟩ := id I)) | (go_at_call 15; ((with_reducible refine (M2 _).mono ?_); rintro e w2 ⟨rfl, b2⟩; (first | have I := I.next b2 | have I := I.drew.next b2); obtain ⟨_, ⟨y1, y2, y3⟩, hA, hB, hZ, f1, f2, f3⟩ := id I)) | (go_at_call 10; ((with_reducible refine (P1 _).mono ?_); rintro e w3 ⟨rfl, b3⟩; (first | have I := I.next b3 | have I := I.drew.next b3); obtain ⟨_, ⟨y1, y2, y3⟩, hA, hB, hZ, f1, f2, f3⟩ := id I)) | (go_at_call 10; ((with_reducible refine (P2 _).mono ?_); rintro e w4 ⟨rfl, b4⟩; (first | have I := I.next b4 | have I := I.drew.next b4); obtain ⟨_, ⟨y1, y2, y3⟩, hA, hB, hZ, f1, f2, f3⟩ := id I)) | (go_at_call 15; ((with_reducible refine (M3 _).mono ?_); rintro e w5 ⟨rfl, b5⟩; have hS : w5.cell? ⟨w4.heap.size, 0, none⟩ = some (.int .i64 S.x0) ∧ w5.cell? ⟨w4.heap.size, 1, none⟩ = some (.int .i64 S.y0) ∧ w5.cell? ⟨w4.heap.size, 2, none⟩ = some (.int .i64 S.x1) ∧ w5.cell? ⟨w4.heap.size, 3, none⟩ = some (.int .i64 S.y1) := at_next b5 (by simp) (by refine ⟨?_, ?_, ?_, ?_⟩ <;> go_simp); have I := (I.next (below_a1 _ _)).next b5; obtain ⟨_, ⟨y1, y2, y3⟩, hA, hB, hZ, f1, f2, f3⟩ := id I)))
    refine bodyPost_ret (v := .tuple #[.agg #[.int .i64 S.x0, .int .i64 S.y0, .int .i64 S.x1, .int .i64 S.y1], .int .i64 0]) (by simp [results, Try.results17, go_sem, *]) rfl ⟨rfl, ?_⟩
    exact below_set4 I.1 (by omega) _ _ _ _

theorem rthen_no1 (A B : Q) (w : World) (hA : fitM A.x0 A.y0 A.x1 A.y1 = false) :
    Calls Try.prog 18 #[.agg #[.int .i64 A.x0, .int .i64 A.y0, .int .i64 A.x1, .int .i64 A.y1], .agg #[.int .i64 B.x0, .int .i64 B.y0, .int .i64 B.x1, .int .i64 B.y1]] w fun e w' => e = .returned (.tuple #[.agg #[.int .i64 0, .int .i64 0, .int .i64 0, .int .i64 0], .int .i64 1]) ∧ Below w.heap.size w w' := by
  have M1 := fun w => rmayM_any A.x0 A.y0 A.x1 A.y1 w
  rw [hA] at M1
  have M2 := M1
  have I := In3.startM w A B zeroQ
  go_enter Try.func18, Try.ntmps18
  go_wp2_with (first | (go_at_call 16; ((with_reducible refine (M1 _).mono ?_); rintro e w1 ⟨rfl, b1⟩; have I := I.next b1; obtain ⟨_, ⟨y1, y2, y3⟩, hA, hB, hZ, f1, f2, f3⟩ := id I)) | (go_at_call 16; ((with_reducible refine (M2 _).mono ?_); rintro e w2 ⟨rfl, b2⟩; have I := I.next b2; obtain ⟨_, ⟨y1, y2, y3⟩, hA, hB, hZ, f1, f2, f3⟩ := id I)))
  refine bodyPost_ret (v := .tuple #[.agg #[.int .i64 0, .int .i64 0, .int .i64 0, .int .i64 0], .int .i64 1]) (by simp [results, Try.results18, go_sem, *]) rfl ⟨rfl, ?_⟩
  exact below_set4 I.1 (by omega) _ _ _ _

theorem rthen_no2 (A B : Q) (w : World) (hA : fitM A.x0 A.y0 A.x1 A.y1 = true) (hB : fitM B.x0 B.y0 B.x1 B.y1 = false) :
    Calls Try.prog 18 #[.agg #[.int .i64 A.x0, .int .i64 A.y0, .int .i64 A.x1, .int .i64 A.y1], .agg #[.int .i64 B.x0, .int .i64 B.y0, .int .i64 B.x1, .int .i64 B.y1]] w fun e w' => e = .returned (.tuple #[.agg #[.int .i64 0, .int .i64 0, .int .i64 0, .int .i64 0], .int .i64 1]) ∧ Below w.heap.size w w' := by
  have M1 := fun w => rmayM_any A.x0 A.y0 A.x1 A.y1 w
  have M2 := fun w => rmayM_any B.x0 B.y0 B.x1 B.y1 w
  rw [hA] at M1
  rw [hB] at M2
  have I := In3.startM w A B zeroQ
  go_enter Try.func18, Try.ntmps18
  go_wp2_with (first | (go_at_call 16; ((with_reducible refine (M1 _).mono ?_); rintro e w1 ⟨rfl, b1⟩; have I := I.next b1; obtain ⟨_, ⟨y1, y2, y3⟩, hA, hB, hZ, f1, f2, f3⟩ := id I)) | (go_at_call 16; ((with_reducible refine (M2 _).mono ?_); rintro e w2 ⟨rfl, b2⟩; have I := I.next b2; obtain ⟨_, ⟨y1, y2, y3⟩, hA, hB, hZ, f1, f2, f3⟩ := id I)))
  refine bodyPost_ret (v := .tuple #[.agg #[.int .i64 0, .int .i64 0, .int .i64 0, .int .i64 0], .int .i64 1]) (by simp [results, Try.results18, go_sem, *]) rfl ⟨rfl, ?_⟩
  exact below_set4 I.1 (by omega) _ _ _ _

set_option maxHeartbeats 4000000 in
theorem rthen_go (A B : Q) (w : World) (hA : fitM A.x0 A.y0 A.x1 A.y1 = true) (hB : fitM B.x0 B.y0 B.x1 B.y1 = true) (R : Q) (hR : R = thenQ A B) (E : Int) (hE : E = if fitM R.x0 R.y0 R.x1 R.y1 then 0 else 10) (S : Q) (hS : S = if fitM R.x0 R.y0 R.x1 R.y1 then R else zeroQ) :
    Calls Try.prog 18 #[.agg #[.int .i64 A.x0, .int .i64 A.y0, .int .i64 A.x1, .int .i64 A.y1], .agg #[.int .i64 B.x0, .int .i64 B.y0, .int .i64 B.x1, .int .i64 B.y1]] w fun e w' => e = .returned (.tuple #[.agg #[.int .i64 S.x0, .int .i64 S.y0, .int .i64 S.x1, .int .i64 S.y1], .int .i64 E]) ∧ Below w.heap.size w w' := by
  have M1 := fun w => rmayM_any A.x0 A.y0 A.x1 A.y1 w
  have M2 := fun w => rmayM_any B.x0 B.y0 B.x1 B.y1 w
  have M3 := fun w => rmayM_any R.x0 R.y0 R.x1 R.y1 w
  have P1 := fun w => rapply_any B.x0 B.y0 B.x1 B.y1 A.x0 A.y0 w
  have P2 := fun w => rapply_any B.x0 B.y0 B.x1 B.y1 A.x1 A.y1 w
  rw [hA] at M1
  rw [hB] at M2
  rw [show apU B.x0 B.y0 B.x1 B.y1 A.x0 A.y0 = R.x0 by rw [hR]; rfl, show apV B.x0 B.y0 B.x1 B.y1 A.x0 A.y0 = R.y0 by rw [hR]; rfl] at P1
  rw [show apU B.x0 B.y0 B.x1 B.y1 A.x1 A.y1 = R.x1 by rw [hR]; rfl, show apV B.x0 B.y0 B.x1 B.y1 A.x1 A.y1 = R.y1 by rw [hR]; rfl] at P2
  generalize apE B.x0 B.y0 B.x1 B.y1 A.x0 A.y0 = e1 at P1
  generalize apE B.x0 B.y0 B.x1 B.y1 A.x1 A.y1 = e2 at P2
  have I := In3.startM w A B zeroQ
  clear hA hB hR
  cases hs : fitM R.x0 R.y0 R.x1 R.y1
  · rw [hs] at M3 hE hS
    obtain rfl : E = 10 := hE
    obtain rfl : S = zeroQ := hS
    clear hs
    go_enter Try.func18, Try.ntmps18
    go_wp2_with (first | (go_at_call 16; ((with_reducible refine (M1 _).mono ?_); rintro e w1 ⟨rfl, b1⟩; (first | have I := I.next b1 | have I := I.drew.next b1); obtain ⟨_, ⟨y1, y2, y3⟩, hA, hB, hZ, f1, f2, f3⟩ := id I)) | (go_at_call 16; ((with_reducible refine (M2 _).mono ?_); rintro e w2 ⟨rfl, b2⟩; (first | have I := I.next b2 | have I := I.drew.next b2); obtain ⟨_, ⟨y1, y2, y3⟩, hA, hB, hZ, f1, f2, f3⟩ := id I)) | (go_at_call 11; ((with_reducible refine (P1 _).mono ?_); rintro e w3 ⟨rfl, b3⟩; have hO : w3.cell? ⟨w2.heap.size, 0, none⟩ = some (.int .i64 0) ∧ w3.cell? ⟨w2.heap.size, 1, none⟩ = some (.int .i64 0) ∧ w3.cell? ⟨w2.heap.size, 2, none⟩ = some (.int .i64 0) ∧ w3.cell? ⟨w2.heap.size, 3, none⟩ = some (.int .i64 0) := at_next (A := ⟨0, 0, 0, 0⟩) b3 (by simp) (by refine ⟨?_, ?_, ?_, ?_⟩ <;> go_simp); have gO : ∀ o, w3.frozen? ⟨w2.heap.size, o, none⟩ = false := fr_next b3 (by simp) (by intro o; go_simp); have kO : w2.heap.size < w3.heap.size := lt_next b3 (by simp); have z0 : w.heap.size < w2.heap.size := y1; have z1 : w.heap.size + 1 < w2.heap.size := y2; have z2 : w.heap.size + 1 + 1 < w2.heap.size := y3; have ne1 : ¬ w2.heap.size = w.heap.size := (by omega); have ne2 : ¬ w2.heap.size = w.heap.size + 1 := (by omega); have ne3 : ¬ w2.heap.size = w.heap.size + 1 + 1 := (by omega); have ne4 : ¬ w.heap.size = w2.heap.size := (by omega); have ne5 : ¬ w.heap.size + 1 = w2.heap.size := (by omega); have ne6 : ¬ w.heap.size + 1 + 1 = w2.heap.size := (by omega); have I := (I.next (below_a1 _ _)).next b3; obtain ⟨_, ⟨y1, y2, y3⟩, hA, hB, hZ, f1, f2, f3⟩ := id I)) | (go_at_call 11; ((with_reducible refine (P2 _).mono ?_); rintro e w4 ⟨rfl, b4⟩; have hO : w4.cell? ⟨w2.heap.size, 0, none⟩ = some (.int .i64 R.x0) ∧ w4.cell? ⟨w2.heap.size, 1, none⟩ = some (.int .i64 R.y0) ∧ w4.cell? ⟨w2.heap.size, 2, none⟩ = some (.int .i64 0) ∧ w4.cell? ⟨w2.heap.size, 3, none⟩ = some (.int .i64 0) := at_next (A := ⟨R.x0, R.y0, 0, 0⟩) b4 (by simpa [World.setCell] using kO) (by refine ⟨?_, ?_, ?_, ?_⟩ <;> go_simp); have gO : ∀ o, w4.frozen? ⟨w2.heap.size, o, none⟩ = false := fr_next b4 (by simpa [World.setCell] using kO) (by intro o; simp [gO]); have kO : w2.heap.size < w4.heap.size := lt_next b4 (by simpa [World.setCell] using kO); have I := ((I.set z2 _ _).set z2 _ _).next b4; obtain ⟨_, ⟨y1, y2, y3⟩, hA, hB, hZ, f1, f2, f3⟩ := id I)) | (go_at_call 16; ((with_reducible refine (M3 _).mono ?_); rintro e w5 ⟨rfl, b5⟩; have hO : w5.cell? ⟨w2.heap.size, 0, none⟩ = some (.int .i64 R.x0) ∧ w5.cell? ⟨w2.heap.size, 1, none⟩ = some (.int .i64 R.y0) ∧ w5.cell? ⟨w2.heap.size, 2, none⟩ = some (.int .i64 R.x1) ∧ w5.cell? ⟨w2.heap.size, 3, none⟩ = some (.int .i64 R.y1) := at_next (A := R) b5 (by simpa [World.setCell] using kO) (by refine ⟨?_, ?_, ?_, ?_⟩ <;> go_simp); have I := ((I.set z2 _ _).set z2 _ _).next b5; obtain ⟨_, ⟨y1, y2, y3⟩, hA, hB, hZ, f1, f2, f3⟩ := id I)))
    refine bodyPost_ret (v := .tuple #[.agg #[.int .i64 0, .int .i64 0, .int .i64 0, .int .i64 0], .int .i64 10]) (by simp [results, Try.results18, go_sem, *]) rfl ⟨rfl, ?_⟩
    exact below_set4 I.1 (by omega) _ _ _ _
  · rw [hs] at M3 hE hS
    obtain rfl : E = 0 := hE
    obtain rfl : S = R := hS
    clear hs
    go_enter Try.func18, Try.ntmps18
    go_wp2_with (first | (go_at_call 16; ((with_reducible refine (M1 _).mono ?_); rintro e w1 ⟨rfl, b1⟩; (first | have I := I.next b1 | have I := I.drew.next b1); obtain ⟨_, ⟨y1, y2, y3⟩, hA, hB, hZ, f1, f2, f3⟩ := id I)) | (go_at_call 16; ((with_reducible refine (M2 _).mono ?_); rintro e w2 ⟨rfl, b2⟩; (first | have I := I.next b2 | have I := I.drew.next b2); obtain ⟨_, ⟨y1, y2, y3⟩, hA, hB, hZ, f1, f2, f3⟩ := id I)) | (go_at_call 11; ((with_reducible refine (P1 _).mono ?_); rintro e w3 ⟨rfl, b3⟩; have hO : w3.cell? ⟨w2.heap.size, 0, none⟩ = some (.int .i64 0) ∧ w3.cell? ⟨w2.heap.size, 1, none⟩ = some (.int .i64 0) ∧ w3.cell? ⟨w2.heap.size, 2, none⟩ = some (.int .i64 0) ∧ w3.cell? ⟨w2.heap.size, 3, none⟩ = some (.int .i64 0) := at_next (A := ⟨0, 0, 0, 0⟩) b3 (by simp) (by refine ⟨?_, ?_, ?_, ?_⟩ <;> go_simp); have gO : ∀ o, w3.frozen? ⟨w2.heap.size, o, none⟩ = false := fr_next b3 (by simp) (by intro o; go_simp); have kO : w2.heap.size < w3.heap.size := lt_next b3 (by simp); have z0 : w.heap.size < w2.heap.size := y1; have z1 : w.heap.size + 1 < w2.heap.size := y2; have z2 : w.heap.size + 1 + 1 < w2.heap.size := y3; have ne1 : ¬ w2.heap.size = w.heap.size := (by omega); have ne2 : ¬ w2.heap.size = w.heap.size + 1 := (by omega); have ne3 : ¬ w2.heap.size = w.heap.size + 1 + 1 := (by omega); have ne4 : ¬ w.heap.size = w2.heap.size := (by omega); have ne5 : ¬ w.heap.size + 1 = w2.heap.size := (by omega); have ne6 : ¬ w.heap.size + 1 + 1 = w2.heap.size := (by omega); have I := (I.next (below_a1 _ _)).next b3; obtain ⟨_, ⟨y1, y2, y3⟩, hA, hB, hZ, f1, f2, f3⟩ := id I)) | (go_at_call 11; ((with_reducible refine (P2 _).mono ?_); rintro e w4 ⟨rfl, b4⟩; have hO : w4.cell? ⟨w2.heap.size, 0, none⟩ = some (.int .i64 S.x0) ∧ w4.cell? ⟨w2.heap.size, 1, none⟩ = some (.int .i64 S.y0) ∧ w4.cell? ⟨w2.heap.size, 2, none⟩ = some (.int .i64 0) ∧ w4.cell? ⟨w2.heap.size, 3, none⟩ = some (.int .i64 0) := at_next (A := ⟨S.x0, S.y0, 0, 0⟩) b4 (by simpa [World.setCell] using kO) (by refine ⟨?_, ?_, ?_, ?_⟩ <;> go_simp); have gO : ∀ o, w4.frozen? ⟨w2.heap.size, o, none⟩ = false := fr_next b4 (by simpa [World.setCell] using kO) (by intro o; simp [gO]); have kO : w2.heap.size < w4.heap.size := lt_next b4 (by simpa [World.setCell] using kO); have I := ((I.set z2 _ _).set z2 _ _).next b4; obtain ⟨_, ⟨y1, y2, y3⟩, hA, hB, hZ, f1, f2, f3⟩ := id I)) | (go_at_call 16; ((with_reducible refine (M3 _).mono ?_); rintro e w5 ⟨rfl, b5⟩; have hO : w5.cell? ⟨w2.heap.size, 0, none⟩ = some (.int .i64 S.x0) ∧ w5.cell? ⟨w2.heap.size, 1, none⟩ = some (.int .i64 S.y0) ∧ w5.cell? ⟨w2.heap.size, 2, none⟩ = some (.int .i64 S.x1) ∧ w5.cell? ⟨w2.heap.size, 3, none⟩ = some (.int .i64 S.y1) := at_next (A := S) b5 (by simpa [World.setCell] using kO) (by refine ⟨?_, ?_, ?_, ?_⟩ <;> go_simp); have I := ((I.set z2 _ _).set z2 _ _).next b5; obtain ⟨_, ⟨y1, y2, y3⟩, hA, hB, hZ, f1, f2, f3⟩ := id I)))
    refine bodyPost_ret (v := .tuple #[.agg #[.int .i64 S.x0, .int .i64 S.y0, .int .i64 S.x1, .int .i64 S.y1], .int .i64 0]) (by simp [results, Try.results18, go_sem, *]) rfl ⟨rfl, ?_⟩
    exact below_set4 I.1 (by omega) _ _ _ _

end Go.Proofs.Ytdbnjlmkbmfhkaa
