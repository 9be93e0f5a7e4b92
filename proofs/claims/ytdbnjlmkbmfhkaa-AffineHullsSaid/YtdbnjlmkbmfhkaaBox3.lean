/- Boxes: join and meet. -/
import Derived.Test.YtdbnjlmkbmfhkaaBox2
import Derived.Deep.RegionWith
namespace Go.Proofs.Ytdbnjlmkbmfhkaa
open Go.RowKit

theorem not_zero (A : Q) (h : emptyQ A = false) : eq4 A.x0 A.y0 A.x1 A.y1 0 0 0 0 = false := by
  unfold emptyQ at h
  unfold eq4
  simp only [Bool.or_eq_false_iff, decide_eq_false_iff_not] at h
  rw [Bool.eq_false_iff]
  intro c
  simp only [Bool.and_eq_true, beq_iff_eq] at c
  omega

theorem at_next {A : Q} {bk : Nat} {w w1 : World} (b : Below w.heap.size w w1) (h : bk < w.heap.size) (H : w.cell? ⟨bk, 0, none⟩ = some (.int .i64 A.x0) ∧ w.cell? ⟨bk, 1, none⟩ = some (.int .i64 A.y0) ∧ w.cell? ⟨bk, 2, none⟩ = some (.int .i64 A.x1) ∧ w.cell? ⟨bk, 3, none⟩ = some (.int .i64 A.y1)) : w1.cell? ⟨bk, 0, none⟩ = some (.int .i64 A.x0) ∧ w1.cell? ⟨bk, 1, none⟩ = some (.int .i64 A.y0) ∧ w1.cell? ⟨bk, 2, none⟩ = some (.int .i64 A.x1) ∧ w1.cell? ⟨bk, 3, none⟩ = some (.int .i64 A.y1) := by
  rw [b.cell (p := ⟨bk, 0, none⟩) h, b.cell (p := ⟨bk, 1, none⟩) h, b.cell (p := ⟨bk, 2, none⟩) h, b.cell (p := ⟨bk, 3, none⟩) h]; exact H
theorem fr_next {bk : Nat} {w w1 : World} (b : Below w.heap.size w w1) (h : bk < w.heap.size) (H : ∀ o, w.frozen? ⟨bk, o, none⟩ = false) : ∀ o, w1.frozen? ⟨bk, o, none⟩ = false := fun o => (b.frozen (p := ⟨bk, o, none⟩) h).trans (H o)
theorem lt_next {n : Nat} {w w1 : World} (b : Below w.heap.size w w1) (h : n < w.heap.size) : n < w1.heap.size := Nat.lt_of_lt_of_le h b.size

/-- the facts of a world in which the call's own three boxes lie -/
def In3 (w wx : World) (A B Z : Q) : Prop := Below w.heap.size w wx ∧ (w.heap.size < wx.heap.size ∧ w.heap.size + 1 < wx.heap.size ∧ w.heap.size + 1 + 1 < wx.heap.size) ∧ (wx.cell? ⟨w.heap.size, 0, none⟩ = some (.int .i64 A.x0) ∧ wx.cell? ⟨w.heap.size, 1, none⟩ = some (.int .i64 A.y0) ∧ wx.cell? ⟨w.heap.size, 2, none⟩ = some (.int .i64 A.x1) ∧ wx.cell? ⟨w.heap.size, 3, none⟩ = some (.int .i64 A.y1)) ∧ (wx.cell? ⟨w.heap.size + 1, 0, none⟩ = some (.int .i64 B.x0) ∧ wx.cell? ⟨w.heap.size + 1, 1, none⟩ = some (.int .i64 B.y0) ∧ wx.cell? ⟨w.heap.size + 1, 2, none⟩ = some (.int .i64 B.x1) ∧ wx.cell? ⟨w.heap.size + 1, 3, none⟩ = some (.int .i64 B.y1)) ∧ (wx.cell? ⟨w.heap.size + 1 + 1, 0, none⟩ = some (.int .i64 Z.x0) ∧ wx.cell? ⟨w.heap.size + 1 + 1, 1, none⟩ = some (.int .i64 Z.y0) ∧ wx.cell? ⟨w.heap.size + 1 + 1, 2, none⟩ = some (.int .i64 Z.x1) ∧ wx.cell? ⟨w.heap.size + 1 + 1, 3, none⟩ = some (.int .i64 Z.y1)) ∧
  (∀ o, wx.frozen? ⟨w.heap.size, o, none⟩ = false) ∧ (∀ o, wx.frozen? ⟨w.heap.size + 1, o, none⟩ = false) ∧ (∀ o, wx.frozen? ⟨w.heap.size + 1 + 1, o, none⟩ = false)

theorem In3.start (w : World) (A B Z : Q) : In3 w (((w.alloc (.cells #[.int .i64 A.x0, .int .i64 A.y0, .int .i64 A.x1, .int .i64 A.y1] 37)).alloc (.cells #[.int .i64 B.x0, .int .i64 B.y0, .int .i64 B.x1, .int .i64 B.y1] 37)).alloc (.cells #[.int .i64 Z.x0, .int .i64 Z.y0, .int .i64 Z.x1, .int .i64 Z.y1] 37)) A B Z := by
  refine ⟨below_a3 _ _ _ _, ⟨by simp <;> omega, by simp <;> omega, by simp <;> omega⟩, ⟨?_, ?_, ?_, ?_⟩, ⟨?_, ?_, ?_, ?_⟩, ⟨?_, ?_, ?_, ?_⟩, fun o => ?_, fun o => ?_, fun o => ?_⟩ <;> go_simp

theorem In3.next {w wx wy : World} {A B Z : Q} (h : In3 w wx A B Z) (b : Below wx.heap.size wx wy) : In3 w wy A B Z := by
  obtain ⟨h0, ⟨h1, h2, h3⟩, hA, hB, hZ, f1, f2, f3⟩ := h
  exact ⟨below_next h0 b, ⟨lt_next b h1, lt_next b h2, lt_next b h3⟩, at_next b h1 hA, at_next b h2 hB, at_next b h3 hZ, fr_next b h1 f1, fr_next b h2 f2, fr_next b h3 f3⟩

theorem In3.drew {w wx : World} {A B Z : Q} (h : In3 w wx A B Z) : In3 w wx.drew A B Z :=
  ⟨h.1.drew, h.2.1, h.2.2.1, h.2.2.2.1, h.2.2.2.2.1, h.2.2.2.2.2.1, h.2.2.2.2.2.2.1, h.2.2.2.2.2.2.2⟩

theorem set_at {A : Q} (wx : World) (bk : Nat) (A' : Q) (h : wx.cell? ⟨bk, 0, none⟩ = some (.int .i64 A.x0) ∧ wx.cell? ⟨bk, 1, none⟩ = some (.int .i64 A.y0) ∧ wx.cell? ⟨bk, 2, none⟩ = some (.int .i64 A.x1) ∧ wx.cell? ⟨bk, 3, none⟩ = some (.int .i64 A.y1)) :
    ((((wx.setCell ⟨bk, 0, none⟩ (.int .i64 A'.x0)).setCell ⟨bk, 1, none⟩ (.int .i64 A'.y0)).setCell ⟨bk, 2, none⟩ (.int .i64 A'.x1)).setCell ⟨bk, 3, none⟩ (.int .i64 A'.y1)).cell? ⟨bk, 0, none⟩ = some (.int .i64 A'.x0) ∧ ((((wx.setCell ⟨bk, 0, none⟩ (.int .i64 A'.x0)).setCell ⟨bk, 1, none⟩ (.int .i64 A'.y0)).setCell ⟨bk, 2, none⟩ (.int .i64 A'.x1)).setCell ⟨bk, 3, none⟩ (.int .i64 A'.y1)).cell? ⟨bk, 1, none⟩ = some (.int .i64 A'.y0) ∧ ((((wx.setCell ⟨bk, 0, none⟩ (.int .i64 A'.x0)).setCell ⟨bk, 1, none⟩ (.int .i64 A'.y0)).setCell ⟨bk, 2, none⟩ (.int .i64 A'.x1)).setCell ⟨bk, 3, none⟩ (.int .i64 A'.y1)).cell? ⟨bk, 2, none⟩ = some (.int .i64 A'.x1) ∧ ((((wx.setCell ⟨bk, 0, none⟩ (.int .i64 A'.x0)).setCell ⟨bk, 1, none⟩ (.int .i64 A'.y0)).setCell ⟨bk, 2, none⟩ (.int .i64 A'.x1)).setCell ⟨bk, 3, none⟩ (.int .i64 A'.y1)).cell? ⟨bk, 3, none⟩ = some (.int .i64 A'.y1) := by
  obtain ⟨h0, h1, h2, h3⟩ := h
  refine ⟨?_, ?_, ?_, ?_⟩ <;> go_simp

theorem set_other {A : Q} (wx : World) (bk b2 : Nat) (v0 v1 v2 v3 : Value) (hne : b2 ≠ bk) (h : wx.cell? ⟨b2, 0, none⟩ = some (.int .i64 A.x0) ∧ wx.cell? ⟨b2, 1, none⟩ = some (.int .i64 A.y0) ∧ wx.cell? ⟨b2, 2, none⟩ = some (.int .i64 A.x1) ∧ wx.cell? ⟨b2, 3, none⟩ = some (.int .i64 A.y1)) :
    ((((wx.setCell ⟨bk, 0, none⟩ v0).setCell ⟨bk, 1, none⟩ v1).setCell ⟨bk, 2, none⟩ v2).setCell ⟨bk, 3, none⟩ v3).cell? ⟨b2, 0, none⟩ = some (.int .i64 A.x0) ∧ ((((wx.setCell ⟨bk, 0, none⟩ v0).setCell ⟨bk, 1, none⟩ v1).setCell ⟨bk, 2, none⟩ v2).setCell ⟨bk, 3, none⟩ v3).cell? ⟨b2, 1, none⟩ = some (.int .i64 A.y0) ∧ ((((wx.setCell ⟨bk, 0, none⟩ v0).setCell ⟨bk, 1, none⟩ v1).setCell ⟨bk, 2, none⟩ v2).setCell ⟨bk, 3, none⟩ v3).cell? ⟨b2, 2, none⟩ = some (.int .i64 A.x1) ∧ ((((wx.setCell ⟨bk, 0, none⟩ v0).setCell ⟨bk, 1, none⟩ v1).setCell ⟨bk, 2, none⟩ v2).setCell ⟨bk, 3, none⟩ v3).cell? ⟨b2, 3, none⟩ = some (.int .i64 A.y1) := by
  obtain ⟨h0, h1, h2, h3⟩ := h
  have e1 : ¬ bk = b2 := fun c => hne c.symm
  refine ⟨?_, ?_, ?_, ?_⟩ <;> go_simp

theorem In3.set01 {w wx : World} {A B Z : Q} (h : In3 w wx A B Z) (A' B' : Q) :
    In3 w ((((((((wx.setCell ⟨w.heap.size, 0, none⟩ (.int .i64 A'.x0)).setCell ⟨w.heap.size, 1, none⟩ (.int .i64 A'.y0)).setCell ⟨w.heap.size, 2, none⟩ (.int .i64 A'.x1)).setCell ⟨w.heap.size, 3, none⟩ (.int .i64 A'.y1)).setCell ⟨w.heap.size + 1, 0, none⟩ (.int .i64 B'.x0)).setCell ⟨w.heap.size + 1, 1, none⟩ (.int .i64 B'.y0)).setCell ⟨w.heap.size + 1, 2, none⟩ (.int .i64 B'.x1)).setCell ⟨w.heap.size + 1, 3, none⟩ (.int .i64 B'.y1)) A' B' Z := by
  obtain ⟨h0, ⟨h1, h2, h3⟩, hA, hB, hZ, f1, f2, f3⟩ := h
  refine ⟨below_set4 (below_set4 h0 (by omega) _ _ _ _) (by omega) _ _ _ _, ⟨by simpa [World.setCell] using h1, by simpa [World.setCell] using h2, by simpa [World.setCell] using h3⟩, ?_, ?_, ?_, ?_, ?_, ?_⟩
  · exact set_other _ _ _ _ _ _ _ (by omega) (set_at _ _ _ hA)
  · exact set_at (A := B) _ _ _ (set_other _ _ _ _ _ _ _ (by omega) hB)
  · exact set_other _ _ _ _ _ _ _ (by omega) (set_other _ _ _ _ _ _ _ (by omega) hZ)
  · intro o; simp [f1]
  · intro o; simp [f2]
  · intro o; simp [f3]

end Go.Proofs.Ytdbnjlmkbmfhkaa
