/- Boxes: a place in one, one shifted, its pixels, its area: of the program. -/
import Derived.Test.YtdbnjlmkbmfhkaaBox4
namespace Go.Proofs.Ytdbnjlmkbmfhkaa
open Go.RowKit

/-- the facts of a world in which the call's own two boxes lie -/
def In2 (w wx : World) (A Z : Q) : Prop := Below w.heap.size w wx ∧ (w.heap.size < wx.heap.size ∧ w.heap.size + 1 < wx.heap.size) ∧ (wx.cell? ⟨w.heap.size, 0, none⟩ = some (.int .i64 A.x0) ∧ wx.cell? ⟨w.heap.size, 1, none⟩ = some (.int .i64 A.y0) ∧ wx.cell? ⟨w.heap.size, 2, none⟩ = some (.int .i64 A.x1) ∧ wx.cell? ⟨w.heap.size, 3, none⟩ = some (.int .i64 A.y1)) ∧ (wx.cell? ⟨w.heap.size + 1, 0, none⟩ = some (.int .i64 Z.x0) ∧ wx.cell? ⟨w.heap.size + 1, 1, none⟩ = some (.int .i64 Z.y0) ∧ wx.cell? ⟨w.heap.size + 1, 2, none⟩ = some (.int .i64 Z.x1) ∧ wx.cell? ⟨w.heap.size + 1, 3, none⟩ = some (.int .i64 Z.y1)) ∧ (∀ o, wx.frozen? ⟨w.heap.size, o, none⟩ = false) ∧ (∀ o, wx.frozen? ⟨w.heap.size + 1, o, none⟩ = false)

theorem In2.start (w : World) (A Z : Q) : In2 w ((w.alloc (.cells #[.int .i64 A.x0, .int .i64 A.y0, .int .i64 A.x1, .int .i64 A.y1] 37)).alloc (.cells #[.int .i64 Z.x0, .int .i64 Z.y0, .int .i64 Z.x1, .int .i64 Z.y1] 37)) A Z := by
  refine ⟨below_a2 _ _ _, ⟨by simp <;> omega, by simp <;> omega⟩, ⟨?_, ?_, ?_, ?_⟩, ⟨?_, ?_, ?_, ?_⟩, fun o => ?_, fun o => ?_⟩ <;> go_simp

theorem In2.next {w wx wy : World} {A Z : Q} (h : In2 w wx A Z) (b : Below wx.heap.size wx wy) : In2 w wy A Z := by
  obtain ⟨h0, ⟨h1, h2⟩, hA, hZ, f1, f2⟩ := h
  exact ⟨below_next h0 b, ⟨lt_next b h1, lt_next b h2⟩, at_next b h1 hA, at_next b h2 hZ, fr_next b h1 f1, fr_next b h2 f2⟩

theorem In2.drewN {w wx : World} {A Z : Q} (h : In2 w wx A Z) (k : Nat) : In2 w (wx.drewN k) A Z :=
  ⟨below_drewN h.1 k, h.2.1, h.2.2.1, h.2.2.2.1, h.2.2.2.2.1, h.2.2.2.2.2⟩

/-- the facts of a world in which the call's own one box lies -/
def In1 (w wx : World) (A : Q) : Prop := Below w.heap.size w wx ∧ w.heap.size < wx.heap.size ∧ (wx.cell? ⟨w.heap.size, 0, none⟩ = some (.int .i64 A.x0) ∧ wx.cell? ⟨w.heap.size, 1, none⟩ = some (.int .i64 A.y0) ∧ wx.cell? ⟨w.heap.size, 2, none⟩ = some (.int .i64 A.x1) ∧ wx.cell? ⟨w.heap.size, 3, none⟩ = some (.int .i64 A.y1))

theorem In1.start (w : World) (A : Q) : In1 w (w.alloc (.cells #[.int .i64 A.x0, .int .i64 A.y0, .int .i64 A.x1, .int .i64 A.y1] 37)) A := by
  refine ⟨below_a1 _ _, by simp, ?_, ?_, ?_, ?_⟩ <;> go_simp

theorem In1.next {w wx wy : World} {A : Q} (h : In1 w wx A) (b : Below wx.heap.size wx wy) : In1 w wy A := by
  obtain ⟨h0, h1, hA⟩ := h
  exact ⟨below_next h0 b, lt_next b h1, at_next b h1 hA⟩

def holdsQ (A : Q) (x y : Int) : Bool := mayQ A && (decide (A.x0 ≤ x) && decide (x < A.x1) && decide (A.y0 ≤ y) && decide (y < A.y1))

theorem holds_any (A : Q) (x y : Int) (w : World) :
    Calls Try.prog 28 #[.agg #[.int .i64 A.x0, .int .i64 A.y0, .int .i64 A.x1, .int .i64 A.y1], .int .i64 x, .int .i64 y] w fun e w' => e = .returned (.bool (holdsQ A x y)) ∧ Below w.heap.size w w' := by
  have M := fun w => mayBox_any A w
  have I := In1.start w A
  unfold holdsQ
  by_cases hm : mayQ A = true
  · rw [hm] at M ⊢
    clear hm
    by_cases h1 : A.x0 ≤ x <;> by_cases h2 : x < A.x1 <;> by_cases h3 : A.y0 ≤ y <;> by_cases h4 : y < A.y1
    all_goals
      go_enter Try.func28, Try.ntmps28
      go_wp2_with (first | (go_at_call 22; ((with_reducible refine (M _).mono ?_); rintro e w1 ⟨rfl, b1⟩; have I := I.next b1; obtain ⟨_, y1, hA⟩ := id I)))
      go_ret
      refine ⟨?_, I.1⟩
      simp [h1, h2, h3, h4]
  · rw [show mayQ A = false by simpa using hm] at M ⊢
    clear hm
    go_enter Try.func28, Try.ntmps28
    go_wp2_with (first | (go_at_call 22; ((with_reducible refine (M _).mono ?_); rintro e w1 ⟨rfl, b1⟩; have I := I.next b1; obtain ⟨_, y1, hA⟩ := id I)))
    go_ret
    exact ⟨rfl, I.1⟩

theorem pixels_no (A : Q) (w : World) (hm : mayQ A = false) :
    Calls Try.prog 31 #[.agg #[.int .i64 A.x0, .int .i64 A.y0, .int .i64 A.x1, .int .i64 A.y1]] w fun e w' => e = .returned (.tuple #[.agg #[.int .i64 0, .int .i64 0, .int .i64 0, .int .i64 0], .int .i64 10]) ∧ Below w.heap.size w w' := by
  have M := fun w => mayBox_any A w
  rw [hm] at M
  have I := In2.start w A zeroQ
  go_enter Try.func31, Try.ntmps31
  go_wp2_with (first | (go_at_call 22; ((with_reducible refine (M _).mono ?_); rintro e w1 ⟨rfl, b1⟩; have I := I.next b1; obtain ⟨_, ⟨y1, y2⟩, hA, hZ, f1, f2⟩ := id I)))
  refine bodyPost_ret (v := .tuple #[.agg #[.int .i64 0, .int .i64 0, .int .i64 0, .int .i64 0], .int .i64 10]) (by simp [results, Try.results31, go_sem, *]) rfl ⟨rfl, ?_⟩
  exact below_set4 I.1 (by omega) _ _ _ _

theorem mayQ_lims {A : Q} (h : mayQ A = true) : (-2147483648 ≤ A.x0 ∧ A.x0 ≤ 2147483648) ∧ (-2147483648 ≤ A.y0 ∧ A.y0 ≤ 2147483648) ∧ (-2147483648 ≤ A.x1 ∧ A.x1 ≤ 2147483648) ∧ (-2147483648 ≤ A.y1 ∧ A.y1 ≤ 2147483648) := by
  unfold mayQ at h
  simp only [Bool.and_eq_true] at h
  exact ⟨⟨mayB_lo h.1.1.1, mayB_hi h.1.1.1⟩, ⟨mayB_lo h.1.1.2, mayB_hi h.1.1.2⟩, ⟨mayB_lo h.1.2, mayB_hi h.1.2⟩, ⟨mayB_lo h.2, mayB_hi h.2⟩⟩

theorem plain_lims {A : Q} (h : mayQ A = true) : (-2147483648 ≤ (plainQ A).x0 ∧ (plainQ A).x0 ≤ 2147483648) ∧ (-2147483648 ≤ (plainQ A).y0 ∧ (plainQ A).y0 ≤ 2147483648) ∧ (-2147483648 ≤ (plainQ A).x1 ∧ (plainQ A).x1 ≤ 2147483648) ∧ (-2147483648 ≤ (plainQ A).y1 ∧ (plainQ A).y1 ≤ 2147483648) := by
  unfold plainQ
  split
  · decide
  · exact mayQ_lims h

theorem pixels_any (A : Q) (w : World) (hm : mayQ A = true) :
    Calls Try.prog 31 #[.agg #[.int .i64 A.x0, .int .i64 A.y0, .int .i64 A.x1, .int .i64 A.y1]] w fun e w' => e = .returned (.tuple #[.agg #[.int .i64 ((plainQ A).x0 / 64), .int .i64 ((plainQ A).y0 / 64), .int .i64 (((plainQ A).x1 + 63) / 64), .int .i64 (((plainQ A).y1 + 63) / 64)], .int .i64 0]) ∧ Below w.heap.size w w' := by
  obtain ⟨_, _, ⟨l1, l2⟩, ⟨l3, l4⟩⟩ := plain_lims hm
  have M := fun w => mayBox_any A w
  rw [hm] at M
  have P := fun w => plain_any A w
  have E := fun w => eachSide_pixels (plainQ A) w l1 l2 l3 l4
  generalize plainQ A = B at *
  have I := In2.start w A zeroQ
  go_enter Try.func31, Try.ntmps31
  go_wp2_with (first | (go_at_call 22; ((with_reducible refine (M _).mono ?_); rintro e w1 ⟨rfl, b1⟩; have I := I.next b1; obtain ⟨_, ⟨y1, y2⟩, hA, hZ, f1, f2⟩ := id I)) | (go_at_call 48; ((with_reducible refine (P _).mono ?_); rintro e w2 ⟨rfl, b2⟩; have I := I.next b2; obtain ⟨_, ⟨y1, y2⟩, hA, hZ, f1, f2⟩ := id I)) | (go_at_call 52; ((with_reducible refine (E _).mono ?_); rintro e w3 ⟨rfl, b3⟩; have I := I.next b3; obtain ⟨_, ⟨y1, y2⟩, hA, hZ, f1, f2⟩ := id I)))
  refine bodyPost_ret (v := .tuple #[.agg #[.int .i64 (B.x0 / 64), .int .i64 (B.y0 / 64), .int .i64 ((B.x1 + 63) / 64), .int .i64 ((B.y1 + 63) / 64)], .int .i64 0]) (by simp [results, Try.results31, go_sem, *]) rfl ⟨rfl, ?_⟩
  exact below_set4 I.1 (by omega) _ _ _ _

theorem area_no (A : Q) (w : World) (hm : mayQ A = false) :
    Calls Try.prog 32 #[.agg #[.int .i64 A.x0, .int .i64 A.y0, .int .i64 A.x1, .int .i64 A.y1]] w fun e w' => e = .returned (.tuple #[.int .i64 0, .int .i64 10]) ∧ Below w.heap.size w w' := by
  have M := fun w => mayBox_any A w
  rw [hm] at M
  have I := In1.start w A
  go_enter Try.func32, Try.ntmps32
  go_wp2_with (first | (go_at_call 22; ((with_reducible refine (M _).mono ?_); rintro e w1 ⟨rfl, b1⟩; have I := I.next b1; obtain ⟨_, y1, hA⟩ := id I)))
  go_ret2
  exact ⟨rfl, I.1⟩

theorem area_none (A : Q) (w : World) (hm : mayQ A = true) (he : emptyQ A = true) :
    Calls Try.prog 32 #[.agg #[.int .i64 A.x0, .int .i64 A.y0, .int .i64 A.x1, .int .i64 A.y1]] w fun e w' => e = .returned (.tuple #[.int .i64 0, .int .i64 0]) ∧ Below w.heap.size w w' := by
  have M := fun w => mayBox_any A w
  have P := fun w => plain_zero A w he
  have q1 := fun w => eqB_run 0 0 0 0 0 0 0 0 w
  have q2 := fun x y w => eqB_guard 0 0 0 0 0 0 0 0 x y w
  rw [show eq4 0 0 0 0 0 0 0 0 = true from rfl] at q1
  rw [hm] at M
  have I := In1.start w A
  go_enter Try.func32, Try.ntmps32
  go_wp2_with (first | (go_at_call 22; ((with_reducible refine (M _).mono ?_); rintro e w1 ⟨rfl, b1⟩; have I := I.next b1; obtain ⟨_, y1, hA⟩ := id I)) | (go_at_call 48; ((with_reducible refine (P _).mono ?_); rintro e w2 ⟨rfl, b2⟩; have I := I.next b2; obtain ⟨_, y1, hA⟩ := id I)))
  go_ret2
  exact ⟨rfl, I.1⟩

end Go.Proofs.Ytdbnjlmkbmfhkaa
