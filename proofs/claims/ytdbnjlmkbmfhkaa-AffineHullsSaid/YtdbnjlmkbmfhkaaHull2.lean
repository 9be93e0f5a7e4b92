/- The hull of any two lists of points, of the program. -/
import Derived.Test.YtdbnjlmkbmfhkaaHull
import Derived.Test.YtdbnjlmkbmfhkaaMem
namespace Go.Proofs.Ytdbnjlmkbmfhkaa
open Go.RowKit

theorem lists_ints {w : World} {B0 : Nat} {A : Option Addr} {zs : List Int} (h : Lists w B0 A (intCells zs)) (h0 : 0 < zs.length) :
    ∃ b o, A = some ⟨b, o, none⟩ ∧ b < B0 ∧ ∀ j, j < zs.length → w.cell? ⟨b, o + j, none⟩ = some (.int .i64 (zs.getD j 0)) := by
  obtain ⟨b, o, hA, hb, hc⟩ := h.plain (by intro e; have := intCells_len zs; rw [e] at this; simp at this; omega)
  exact ⟨b, o, hA, hb, fun j hj => hc j _ (intCells_get zs j hj)⟩

theorem allMay_lists (A : Option Addr) (n c B0 : Nat) (zs : List Int) (w : World) (hn : zs.length = n) (hm : n ≤ 9223372036854775807) (h : Lists w B0 A (intCells zs)) :
    Calls Try.prog 42 #[.slice A n c] w fun e w' => e = .returned (.bool (zs.all mayB)) ∧ w = w' := by
  rcases Nat.eq_zero_or_pos n with h0 | h0
  · subst h0
    obtain rfl : zs = [] := List.eq_nil_of_length_eq_zero hn
    exact allMay_nil_affine c A w
  · obtain ⟨b, o, rfl, _, hc⟩ := lists_ints h (by omega)
    exact allMay_affine b o n c zs w hn.symm hm hc

theorem hull_differ (A A2 : Option Addr) (n c n2 c2 : Nat) (w : World) (hn : n ≠ n2) :
    Calls Try.prog 35 #[.slice A n c, .slice A2 n2 c2] w fun e w' => e = .returned (.tuple #[.agg #[.int .i64 0, .int .i64 0, .int .i64 0, .int .i64 0], .int .i64 1]) ∧ Below w.heap.size w w' := by
  have hd : ((n : Int) != (n2 : Int)) = true := by simp; omega
  clear hn
  go_enter Try.func35, Try.ntmps35
  go_wp2
  refine bodyPost_ret (v := .tuple #[.agg #[.int .i64 0, .int .i64 0, .int .i64 0, .int .i64 0], .int .i64 1]) (by simp [results, Try.results35, go_sem]) rfl ⟨rfl, below_a1 _ _⟩

theorem hull_over (A A2 : Option Addr) (n c c2 B0 B1 : Nat) (xs ys : List Int) (w : World) (hx : xs.length = n) (hy : ys.length = n) (hm : n ≤ 9223372036854775807) (lx : Lists w B0 A (intCells xs)) (ly : Lists w B1 A2 (intCells ys)) (hB0 : B0 ≤ w.heap.size) (hB1 : B1 ≤ w.heap.size)
    (ha : (xs.all mayB && ys.all mayB) = false) :
    Calls Try.prog 35 #[.slice A n c, .slice A2 n c2] w fun e w' => e = .returned (.tuple #[.agg #[.int .i64 0, .int .i64 0, .int .i64 0, .int .i64 0], .int .i64 10]) ∧ Below w.heap.size w w' := by
  have A1 := allMay_lists A n c B0 xs _ hx hm (lx.alloc hB0 (.cells #[.int .i64 0, .int .i64 0, .int .i64 0, .int .i64 0] 37))
  have A2' := allMay_lists A2 n c2 B1 ys _ hy hm (ly.alloc hB1 (.cells #[.int .i64 0, .int .i64 0, .int .i64 0, .int .i64 0] 37))
  have hd : ((n : Int) != (n : Int)) = false := by simp
  clear hx hy lx ly hB0 hB1
  cases h1 : xs.all mayB
  · rw [h1] at A1
    clear h1 ha A2'
    go_enter Try.func35, Try.ntmps35
    go_wp2_with (first | (go_at_call 42; ((with_reducible refine A1.mono ?_); rintro e w' ⟨rfl, rfl⟩)))
    refine bodyPost_ret (v := .tuple #[.agg #[.int .i64 0, .int .i64 0, .int .i64 0, .int .i64 0], .int .i64 10]) (by simp [results, Try.results35, go_sem]) rfl ⟨rfl, below_a1 _ _⟩
  · rw [h1] at A1 ha
    rw [show ys.all mayB = false by simpa using ha] at A2'
    clear h1 ha
    go_enter Try.func35, Try.ntmps35
    go_wp2_with (first | (go_at_call 42; ((with_reducible refine A1.mono ?_); rintro e w' ⟨rfl, rfl⟩)) | (go_at_call 42; ((with_reducible refine A2'.mono ?_); rintro e w' ⟨rfl, rfl⟩)))
    refine bodyPost_ret (v := .tuple #[.agg #[.int .i64 0, .int .i64 0, .int .i64 0, .int .i64 0], .int .i64 10]) (by simp [results, Try.results35, go_sem]) rfl ⟨rfl, below_a1 _ _⟩

theorem hull_none (A A2 : Option Addr) (c c2 : Nat) (w : World) :
    Calls Try.prog 35 #[.slice A 0 c, .slice A2 0 c2] w fun e w' => e = .returned (.tuple #[.agg #[.int .i64 0, .int .i64 0, .int .i64 0, .int .i64 0], .int .i64 0]) ∧ Below w.heap.size w w' := by
  have A1 := fun w => allMay_nil_affine c A w
  have A2' := fun w => allMay_nil_affine c2 A2 w
  go_enter Try.func35, Try.ntmps35
  go_wp2_with (first | (go_at_call 42; ((with_reducible refine (A1 _).mono ?_); rintro e w' ⟨rfl, rfl⟩)) | (go_at_call 42; ((with_reducible refine (A2' _).mono ?_); rintro e w' ⟨rfl, rfl⟩)))
  refine bodyPost_ret (v := .tuple #[.agg #[.int .i64 0, .int .i64 0, .int .i64 0, .int .i64 0], .int .i64 0]) (by simp [results, Try.results35, go_sem]) rfl ⟨rfl, below_a1 _ _⟩

theorem hull_some (A A2 : Option Addr) (n c c2 B0 B1 : Nat) (xs ys : List Int) (w : World) (hx : xs.length = n) (hy : ys.length = n) (hm : n ≤ 9223372036854775807) (h0 : 0 < n) (lx : Lists w B0 A (intCells xs)) (ly : Lists w B1 A2 (intCells ys)) (hB0 : B0 ≤ w.heap.size) (hB1 : B1 ≤ w.heap.size)
    (mx : xs.all mayB = true) (my : ys.all mayB = true) : Calls Try.prog 35 #[.slice A n c, .slice A2 n c2] w fun e w' => e = .returned (.tuple #[.agg #[.int .i64 (hullQ xs ys).x0, .int .i64 (hullQ xs ys).y0, .int .i64 (hullQ xs ys).x1, .int .i64 (hullQ xs ys).y1], .int .i64 0]) ∧ Below w.heap.size w w' := by
  obtain ⟨b, o, rfl, hb, hc⟩ := lists_ints lx (by omega)
  obtain ⟨b2, o2, rfl, hb2, hc2⟩ := lists_ints ly (by omega)
  exact hull_full b o n c b2 o2 c2 xs ys w h0 ⟨hx.symm, hm, by omega, hc⟩ ⟨hy.symm, hm, by omega, hc2⟩ mx my

end Go.Proofs.Ytdbnjlmkbmfhkaa
