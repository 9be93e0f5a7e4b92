/- Boxes: the plain form. -/
import Derived.Test.YtdbnjlmkbmfhkaaBox1
namespace Go.Proofs.Ytdbnjlmkbmfhkaa
open Go.RowKit

theorem below_set4 {B b : Nat} {a w : World} (h : Below B a w) (hb : B ≤ b) (v0 v1 v2 v3 : Value) :
    Below B a ((((w.setCell ⟨b, 0, none⟩ v0).setCell ⟨b, 1, none⟩ v1).setCell ⟨b, 2, none⟩ v2).setCell ⟨b, 3, none⟩ v3) :=
  (((h.setCell hb _).setCell hb _).setCell hb _).setCell hb _

theorem plain_zero (A : Q) (w : World) (h : emptyQ A = true) :
    Calls Try.prog 48 #[.agg #[.int .i64 A.x0, .int .i64 A.y0, .int .i64 A.x1, .int .i64 A.y1]] w fun e w' => e = .returned (.agg #[.int .i64 0, .int .i64 0, .int .i64 0, .int .i64 0]) ∧ Below w.heap.size w w' := by
  have E := fun w => empty_any A w
  rw [h] at E
  clear h
  go_enter Try.func48, Try.ntmps48
  go_wp2_with (first | (go_at_call 24; ((with_reducible refine (E _).mono ?_); rintro e w1 ⟨rfl, b1⟩; obtain ⟨c1, f1⟩ := bcell b1; have z1 : w.heap.size + 1 < w1.heap.size := (by have := b1.size; (try simp at this); omega))))
  refine bodyPost_ret (v := .agg #[.int .i64 0, .int .i64 0, .int .i64 0, .int .i64 0]) (by simp [results, Try.results48, go_sem, *]) rfl ⟨rfl, ?_⟩
  exact below_set4 (below_next (below_a2 _ _ _) b1) (by omega) _ _ _ _

theorem plain_same (A : Q) (w : World) (h : emptyQ A = false) :
    Calls Try.prog 48 #[.agg #[.int .i64 A.x0, .int .i64 A.y0, .int .i64 A.x1, .int .i64 A.y1]] w fun e w' => e = .returned (.agg #[.int .i64 A.x0, .int .i64 A.y0, .int .i64 A.x1, .int .i64 A.y1]) ∧ Below w.heap.size w w' := by
  have E := fun w => empty_any A w
  rw [h] at E
  clear h
  go_enter Try.func48, Try.ntmps48
  go_wp2_with (first | (go_at_call 24; ((with_reducible refine (E _).mono ?_); rintro e w1 ⟨rfl, b1⟩; obtain ⟨c1, f1⟩ := bcell b1; have z1 : w.heap.size + 1 < w1.heap.size := (by have := b1.size; (try simp at this); omega))))
  refine bodyPost_ret (v := .agg #[.int .i64 A.x0, .int .i64 A.y0, .int .i64 A.x1, .int .i64 A.y1]) (by simp [results, Try.results48, go_sem, *]) rfl ⟨rfl, ?_⟩
  exact below_set4 (below_next (below_a2 _ _ _) b1) (by omega) _ _ _ _

theorem rplain_zero (A : Q) (w : World) (h : emptyQ A = true) :
    Calls Try.prog 54 #[.agg #[.int .i64 A.x0, .int .i64 A.y0, .int .i64 A.x1, .int .i64 A.y1]] w fun e w' => e = .returned (.agg #[.int .i64 0, .int .i64 0, .int .i64 0, .int .i64 0]) ∧ Below w.heap.size w w' := by
  have E := fun w => rempty_any A w
  rw [h] at E
  clear h
  go_enter Try.func54, Try.ntmps54
  go_wp2_with (first | (go_at_call 25; ((with_reducible refine (E _).mono ?_); rintro e w1 ⟨rfl, b1⟩; obtain ⟨c1, f1⟩ := bcell b1; have z1 : w.heap.size + 1 < w1.heap.size := (by have := b1.size; (try simp at this); omega))))
  refine bodyPost_ret (v := .agg #[.int .i64 0, .int .i64 0, .int .i64 0, .int .i64 0]) (by simp [results, Try.results54, go_sem, *]) rfl ⟨rfl, ?_⟩
  exact below_set4 (below_next (below_a2 _ _ _) b1) (by omega) _ _ _ _

theorem rplain_same (A : Q) (w : World) (h : emptyQ A = false) :
    Calls Try.prog 54 #[.agg #[.int .i64 A.x0, .int .i64 A.y0, .int .i64 A.x1, .int .i64 A.y1]] w fun e w' => e = .returned (.agg #[.int .i64 A.x0, .int .i64 A.y0, .int .i64 A.x1, .int .i64 A.y1]) ∧ Below w.heap.size w w' := by
  have E := fun w => rempty_any A w
  rw [h] at E
  clear h
  go_enter Try.func54, Try.ntmps54
  go_wp2_with (first | (go_at_call 25; ((with_reducible refine (E _).mono ?_); rintro e w1 ⟨rfl, b1⟩; obtain ⟨c1, f1⟩ := bcell b1; have z1 : w.heap.size + 1 < w1.heap.size := (by have := b1.size; (try simp at this); omega))))
  refine bodyPost_ret (v := .agg #[.int .i64 A.x0, .int .i64 A.y0, .int .i64 A.x1, .int .i64 A.y1]) (by simp [results, Try.results54, go_sem, *]) rfl ⟨rfl, ?_⟩
  exact below_set4 (below_next (below_a2 _ _ _) b1) (by omega) _ _ _ _

end Go.Proofs.Ytdbnjlmkbmfhkaa
