/- serifref02.Hull: a loop that takes the least and the greatest. -/
import Derived.Test.YtdbnjlmkbmfhkaaHull2
import Derived.Test.YtdbnjlmkbmfhkaaPlan
import Derived.Test.YtdbnjlmkbmfhkaaKnow
import Derived.Outline
import Derived.Lib.Hide
namespace Go.Proofs.Ytdbnjlmkbmfhkaa
open Go.RowKit

theorem least_r (x y : Int) (w : World) : Calls Try.prog 55 #[.int .i64 x, .int .i64 y] w fun e w' => e = .returned (.int .i64 (min x y)) ∧ w = w' := rleast_any x y w
theorem most_r (x y : Int) (w : World) : Calls Try.prog 56 #[.int .i64 x, .int .i64 y] w fun e w' => e = .returned (.int .i64 (max x y)) ∧ w = w' := rmost_any x y w

/-- the hull of the first k points -/
def accQ (xs ys : List Int) (k : Nat) : Q := if k = 0 then zeroQ else hullQ (xs.take k) (ys.take k)
def stepQ (A : Q) (x y : Int) : Q := ⟨min A.x0 x, min A.y0 y, max A.x1 x, max A.y1 y⟩

theorem foldl_snoc (f : Int → Int → Int) (zs : List Int) (z0 : Int) (k : Nat) (h : k < zs.length) : (zs.take (k + 1)).foldl f z0 = f ((zs.take k).foldl f z0) (zs.getD k 0) := by
  rw [List.take_succ_eq_append_getElem h, List.foldl_append]; simp [List.getD, h]
theorem getD_take (zs : List Int) (k : Nat) (hk : 0 < k) : (zs.take k).getD 0 0 = zs.getD 0 0 := by simp [List.getD, hk]
theorem acc_first (xs ys : List Int) (hx : 0 < xs.length) (hy : 0 < ys.length) : accQ xs ys 1 = ⟨xs.getD 0 0, ys.getD 0 0, xs.getD 0 0, ys.getD 0 0⟩ := by
  unfold accQ hullQ
  rw [if_neg (by omega), getD_take xs 1 (by omega), getD_take ys 1 (by omega), foldl_snoc _ _ _ 0 hx, foldl_snoc _ _ _ 0 hy, foldl_snoc _ _ _ 0 hx, foldl_snoc _ _ _ 0 hy]
  simp only [List.take_zero, List.foldl_nil, Int.min_self, Int.max_self]
theorem acc_next (xs ys : List Int) (k : Nat) (h0 : 0 < k) (hx : k < xs.length) (hy : k < ys.length) : accQ xs ys (k + 1) = stepQ (accQ xs ys k) (xs.getD k 0) (ys.getD k 0) := by
  unfold accQ hullQ stepQ
  rw [if_neg (by omega), if_neg (by omega), getD_take xs _ (by omega), getD_take ys _ (by omega), getD_take xs _ h0, getD_take ys _ h0, foldl_snoc _ _ _ k hx, foldl_snoc _ _ _ k hy, foldl_snoc _ _ _ k hx, foldl_snoc _ _ _ k hy]

set_option maxHeartbeats 4000000 in
theorem rhull_any (A A2 : Option Addr) (n c c2 : Nat) (xs ys : List Int) (w : World) (hx : xs.length = n) (hy : ys.length = n) (hm : n ≤ 9223372036854775807) (lx : Lists w w.heap.size A (intCells xs)) (ly : Lists w w.heap.size A2 (intCells ys)) :
    Calls Try.prog 36 #[.slice A n c, .slice A2 n c2] w fun e w' => e = .returned (.agg #[.int .i64 (accQ xs ys n).x0, .int .i64 (accQ xs ys n).y0, .int .i64 (accQ xs ys n).x1, .int .i64 (accQ xs ys n).y1]) ∧ Below w.heap.size w w' := by
  have LX := lx.alloc (Nat.le_refl _) (.cells #[.int .i64 0, .int .i64 0, .int .i64 0, .int .i64 0] 37)
  have LY := ly.alloc (Nat.le_refl _) (.cells #[.int .i64 0, .int .i64 0, .int .i64 0, .int .i64 0] 37)
  have HX := Lib.hid hx
  have HY := Lib.hid hy
  have HLX := Lib.hid LX
  have HLY := Lib.hid LY
  clear hx hy lx ly LX LY
  have I0 : Known (w.alloc (.cells #[.int .i64 0, .int .i64 0, .int .i64 0, .int .i64 0] 37)) ((w.alloc (.cells #[.int .i64 0, .int .i64 0, .int .i64 0, .int .i64 0] 37)).alloc (.cells #[.int .i64 0, .int .i64 0, .int .i64 0, .int .i64 0] 37)) [((w.heap.size + 1), [.int .i64 0, .int .i64 0, .int .i64 0, .int .i64 0])] := by simpa using (Known.start (w.alloc (.cells #[.int .i64 0, .int .i64 0, .int .i64 0, .int .i64 0] 37))).new (#[.int .i64 0, .int .i64 0, .int .i64 0, .int .i64 0]) 37
  go_enter Try.func36, Try.ntmps36
  go_wp2
  go_loopw [6] (fun i wr => ∃ k : Nat, k ≤ n ∧ i = .int .i64 k ∧ Known (w.alloc (.cells #[.int .i64 0, .int .i64 0, .int .i64 0, .int .i64 0] 37)) wr [((w.heap.size + 1), [.int .i64 (accQ xs ys k).x0, .int .i64 (accQ xs ys k).y0, .int .i64 (accQ xs ys k).x1, .int .i64 (accQ xs ys k).y1])]) (fun i _ => n - (intOf i).toNat)
  case atStart => exact ⟨0, Nat.zero_le _, rfl, I0⟩
  case round =>
    obtain ⟨k, hk, rfl, I⟩ := hrel
    by_cases hlt : k < n
    · obtain ⟨bx, ox, hA, hbx, hcx⟩ := lists_ints HLX.out (by have := HX.out; omega)
      obtain ⟨bw, oy, hA2, hby, hcy⟩ := lists_ints HLY.out (by have := HY.out; omega)
      subst hA hA2
      have hxk := hcx k (by have := HX.out; omega)
      have hyk := hcy k (by have := HY.out; omega)
      have hx0 := hcx 0 (by have := HX.out; omega)
      have hy0 := hcy 0 (by have := HY.out; omega)
      rw [Nat.add_zero] at hx0 hy0
      have hbx : bx < (w.alloc (.cells #[.int .i64 0, .int .i64 0, .int .i64 0, .int .i64 0] 37)).heap.size := by simp; omega
      have hby : bw < (w.alloc (.cells #[.int .i64 0, .int .i64 0, .int .i64 0, .int .i64 0] 37)).heap.size := by simp; omega
      have hn0 : (0 : Int) < n := by omega
      clear hcx hcy
      rcases Nat.eq_zero_or_pos k with h0 | h0
      · subst h0
        have HAcc := Lib.hid (acc_first xs ys (by have := HX.out; omega) (by have := HY.out; omega))
        clear hxk hyk
        rw [show accQ xs ys 0 = zeroQ from rfl] at I
        generalize xs.getD 0 0 = x0 at *
        generalize ys.getD 0 0 = y0 at *
        go_wp2
        refine wp_region_last (fun w' => Known (w.alloc (.cells #[.int .i64 0, .int .i64 0, .int .i64 0, .int .i64 0] 37)) w' [((w.heap.size + 1), [.int .i64 0, .int .i64 0, .int .i64 0, .int .i64 0])]) _ _ (by rfl) (by kernel_rfl) (by kernel_rfl) (by rfl) (I.drew) ?_
        repeat (first
          | (refine PlanL.skip (by rfl) ?_; simp only [Act.put, List.setIfInBounds_toArray, List.set_cons_zero, List.set_cons_succ])
          | (refine PlanL.val (v := ?_) (by rfl) ?_ ?_; rotate_left; (focus (intro w' hS; have F := hS.2; simp only [KB, CellsAt, Nat.zero_add, Nat.reduceAdd, and_true] at F; have fx0 := (hS.1.cell (p := ⟨bx, ox, none⟩) hbx).trans hx0; have fy0 := (hS.1.cell (p := ⟨bw, oy, none⟩) hby).trans hy0; go_simp <;> with_reducible rfl)); try simp only [Act.put, List.setIfInBounds_toArray, List.set_cons_zero, List.set_cons_succ]))
        refine PlanL.nil ?_
        intro w' hS
        have F := hS.2; simp only [KB, CellsAt, Nat.zero_add, Nat.reduceAdd, and_true] at F; have fx0 := (hS.1.cell (p := ⟨bx, ox, none⟩) hbx).trans hx0; have fy0 := (hS.1.cell (p := ⟨bw, oy, none⟩) hby).trans hy0
        have I1 : Known (w.alloc (.cells #[.int .i64 0, .int .i64 0, .int .i64 0, .int .i64 0] 37)) _ [((w.heap.size + 1), [.int .i64 x0, .int .i64 y0, .int .i64 x0, .int .i64 y0])] := (Known.start (w.alloc (.cells #[.int .i64 0, .int .i64 0, .int .i64 0, .int .i64 0] 37))).put4 (b := (w.heap.size + 1)) (by simp) hS.1 hS.2.1 hS.2.2.1 hS.2.2.2.1 _ _ _ _
        go_wp2
        clear hS F fx0 fy0
        have I := I1
        clear I1
        refine wp_region_last (fun w' => Known (w.alloc (.cells #[.int .i64 0, .int .i64 0, .int .i64 0, .int .i64 0] 37)) w' [((w.heap.size + 1), [.int .i64 x0, .int .i64 y0, .int .i64 x0, .int .i64 y0])]) _ _ (by rfl) (by kernel_rfl) (by kernel_rfl) (by rfl) (I.drew) ?_
        repeat (first
          | (refine PlanL.skip (by rfl) ?_; simp only [Act.put, List.setIfInBounds_toArray, List.set_cons_zero, List.set_cons_succ])
          | (refine PlanL.val (v := ?_) (by rfl) ?_ ?_; rotate_left; (focus (intro w' hS; have F := hS.2; simp only [KB, CellsAt, Nat.zero_add, Nat.reduceAdd, and_true] at F; have fx0 := (hS.1.cell (p := ⟨bx, ox, none⟩) hbx).trans hx0; have fy0 := (hS.1.cell (p := ⟨bw, oy, none⟩) hby).trans hy0; go_simp <;> with_reducible rfl)); try simp only [Act.put, List.setIfInBounds_toArray, List.set_cons_zero, List.set_cons_succ])
          | (refine PlanL.call (v := ?_) (f := ?_) (args := ?_) (by rfl) ?_ ?_ ?_; rotate_left 3; (focus (intro w' hS; have F := hS.2; simp only [KB, CellsAt, Nat.zero_add, Nat.reduceAdd, and_true] at F; have fx0 := (hS.1.cell (p := ⟨bx, ox, none⟩) hbx).trans hx0; have fy0 := (hS.1.cell (p := ⟨bw, oy, none⟩) hby).trans hy0; go_simp; (constructor <;> with_reducible rfl))); (focus (intro w' hS; first | ((with_reducible refine (least_r _ _ _).mono ?_); rintro e w'' ⟨rfl, rfl⟩; refine ⟨?_, hS⟩; with_reducible rfl) | ((with_reducible refine (most_r _ _ _).mono ?_); rintro e w'' ⟨rfl, rfl⟩; refine ⟨?_, hS⟩; with_reducible rfl) | fail)); try simp only [Act.put, List.setIfInBounds_toArray, List.set_cons_zero, List.set_cons_succ]))
        refine PlanL.nil ?_
        intro w' hS
        have F := hS.2; simp only [KB, CellsAt, Nat.zero_add, Nat.reduceAdd, and_true] at F; have fx0 := (hS.1.cell (p := ⟨bx, ox, none⟩) hbx).trans hx0; have fy0 := (hS.1.cell (p := ⟨bw, oy, none⟩) hby).trans hy0
        have I1 : Known (w.alloc (.cells #[.int .i64 0, .int .i64 0, .int .i64 0, .int .i64 0] 37)) _ [((w.heap.size + 1), [.int .i64 x0, .int .i64 y0, .int .i64 x0, .int .i64 y0])] := (Known.start (w.alloc (.cells #[.int .i64 0, .int .i64 0, .int .i64 0, .int .i64 0] 37))).put4 (b := (w.heap.size + 1)) (by simp) hS.1 hS.2.1 hS.2.2.1 hS.2.2.2.1 _ _ _ _
        go_wp2
        go_roundw
        case rel => exact ⟨1, by omega, by go_num, by rw [HAcc.out]; exact I1⟩
        case measure => simp [intOf]; omega
      · have HAcc := Lib.hid (acc_next xs ys k h0 (by have := HX.out; omega) (by have := HY.out; omega))
        have hk0 : ((k : Int) == 0) = false := by simp; omega
        generalize accQ xs ys k = AQ at I HAcc
        generalize xs.getD k 0 = xk at *
        generalize ys.getD k 0 = yk at *
        clear hx0 hy0
        go_wp2
        refine wp_region_last (fun w' => Known (w.alloc (.cells #[.int .i64 0, .int .i64 0, .int .i64 0, .int .i64 0] 37)) w' [((w.heap.size + 1), [.int .i64 AQ.x0, .int .i64 AQ.y0, .int .i64 AQ.x1, .int .i64 AQ.y1])]) _ _ (by rfl) (by kernel_rfl) (by kernel_rfl) (by rfl) (I.drew) ?_
        repeat (first
          | (refine PlanL.skip (by rfl) ?_; simp only [Act.put, List.setIfInBounds_toArray, List.set_cons_zero, List.set_cons_succ])
          | (refine PlanL.val (v := ?_) (by rfl) ?_ ?_; rotate_left; (focus (intro w' hS; have F := hS.2; simp only [KB, CellsAt, Nat.zero_add, Nat.reduceAdd, and_true] at F; have fx := (hS.1.cell (p := ⟨bx, ox + k, none⟩) hbx).trans hxk; have fy := (hS.1.cell (p := ⟨bw, oy + k, none⟩) hby).trans hyk; go_simp <;> with_reducible rfl)); try simp only [Act.put, List.setIfInBounds_toArray, List.set_cons_zero, List.set_cons_succ])
          | (refine PlanL.call (v := ?_) (f := ?_) (args := ?_) (by rfl) ?_ ?_ ?_; rotate_left 3; (focus (intro w' hS; have F := hS.2; simp only [KB, CellsAt, Nat.zero_add, Nat.reduceAdd, and_true] at F; have fx := (hS.1.cell (p := ⟨bx, ox + k, none⟩) hbx).trans hxk; have fy := (hS.1.cell (p := ⟨bw, oy + k, none⟩) hby).trans hyk; go_simp; (constructor <;> with_reducible rfl))); (focus (intro w' hS; first | ((with_reducible refine (least_r _ _ _).mono ?_); rintro e w'' ⟨rfl, rfl⟩; refine ⟨?_, hS⟩; with_reducible rfl) | ((with_reducible refine (most_r _ _ _).mono ?_); rintro e w'' ⟨rfl, rfl⟩; refine ⟨?_, hS⟩; with_reducible rfl) | fail)); try simp only [Act.put, List.setIfInBounds_toArray, List.set_cons_zero, List.set_cons_succ]))
        refine PlanL.nil ?_
        intro w' hS
        have F := hS.2; simp only [KB, CellsAt, Nat.zero_add, Nat.reduceAdd, and_true] at F; have fx := (hS.1.cell (p := ⟨bx, ox + k, none⟩) hbx).trans hxk; have fy := (hS.1.cell (p := ⟨bw, oy + k, none⟩) hby).trans hyk
        have I1 : Known (w.alloc (.cells #[.int .i64 0, .int .i64 0, .int .i64 0, .int .i64 0] 37)) _ [((w.heap.size + 1), [.int .i64 (stepQ AQ xk yk).x0, .int .i64 (stepQ AQ xk yk).y0, .int .i64 (stepQ AQ xk yk).x1, .int .i64 (stepQ AQ xk yk).y1])] := (Known.start (w.alloc (.cells #[.int .i64 0, .int .i64 0, .int .i64 0, .int .i64 0] 37))).put4 (b := (w.heap.size + 1)) (by simp) hS.1 hS.2.1 hS.2.2.1 hS.2.2.2.1 _ _ _ _
        go_wp2
        go_roundw
        case rel => exact ⟨k + 1, by omega, by go_num, by rw [HAcc.out]; exact I1⟩
        case measure => simp [intOf]; omega
    · obtain rfl : k = n := by omega
      have F := I.2
      simp only [KB, CellsAt, Nat.zero_add, Nat.reduceAdd, and_true] at F
      have z0 := (I.1.cell (p := ⟨w.heap.size, 0, none⟩) (by simp))
      have z1 := (I.1.cell (p := ⟨w.heap.size, 1, none⟩) (by simp))
      have z2 := (I.1.cell (p := ⟨w.heap.size, 2, none⟩) (by simp))
      have z3 := (I.1.cell (p := ⟨w.heap.size, 3, none⟩) (by simp))
      have zf := fun o => (I.1.frozen (p := ⟨w.heap.size, o, none⟩) (by simp))
      simp only [World.cell?_alloc_new, World.frozen?_alloc_new] at z0 z1 z2 z3 zf
      go_wp2
      refine bodyPost_ret (v := .agg #[.int .i64 (accQ xs ys k).x0, .int .i64 (accQ xs ys k).y0, .int .i64 (accQ xs ys k).x1, .int .i64 (accQ xs ys k).y1]) (by simp [results, Try.results36, go_sem, *]) rfl ⟨rfl, ?_⟩
      exact below_set4 (b := w.heap.size) ((below_a1 w _).trans (I.1.mono (by simp))) (Nat.le_refl _) _ _ _ _

end Go.Proofs.Ytdbnjlmkbmfhkaa
