/- AffineShifts: any box, shifted; its whole pixels; how many places it has; for every box and every two ints. -/
import Derived.Test.YtdbnjlmkbmfhkaaLaw4
import Derived.Test.YtdbnjlmkbmfhkaaLives2
import Derived.Test.YtdbnjlmkbmfhkaaBox8
import Derived.Test.YtdbnjlmkbmfhkaaPlan
import Derived.Test.YtdbnjlmkbmfhkaaKnow
import Derived.Test.YtdbnjlmkbmfhkaaEq4n
namespace Go.Proofs.Ytdbnjlmkbmfhkaa.affineShifts
open Go.ChangeShapes Go.WideShapes Go.ChangeAt Go.RowKit

theorem eq4_self (A : Q) : eq4 A.x0 A.y0 A.x1 A.y1 A.x0 A.y0 A.x1 A.y1 = true := by unfold eq4; simp

set_option linter.unusedVariables false in
set_option maxHeartbeats 16000000 in
theorem walk (A : Q) (hwA : ((Lit.int .i64 A.x0).wf = true ∧ (Lit.int .i64 A.y0).wf = true ∧ (Lit.int .i64 A.x1).wf = true ∧ (Lit.int .i64 A.y1).wf = true)) (x : Int) (wx : (Lit.int .i64 x).wf = true) (y : Int) (wy : (Lit.int .i64 y).wf = true) (w : World) :
    Calls Try.prog 7 #[.agg #[.int .i64 A.x0, .int .i64 A.y0, .int .i64 A.x1, .int .i64 A.y1], .int .i64 x, .int .i64 y] w fun e w' => e = .returned (.bool true) ∧ Below w.heap.size w w' := by
  clear hwA wx wy
  have LV := fun w => lives2 w
  have MB := fun w => rmayQ_any A w
  have X := fun w => may_ref x w
  have Y := fun w => may_ref y w
  have EM := fun w => rempty_any A w
  cases hA : mayQ A
  · have SH := fun w => shift_no A x y w hA
    have PX := fun w => pixels_no A w hA
    have AR := fun w => area_no A w hA
    have q1 := fun w => eqB_run 0 0 0 0 0 0 0 0 w
    have q2 := fun x y w => eqB_guard 0 0 0 0 0 0 0 0 x y w
    rw [show eq4 0 0 0 0 0 0 0 0 = true from rfl] at q1
    rw [hA] at MB
    clear hA
    have X0 := X
    go_enter Try.func7, Try.ntmps7
    have I : Known w _ [(w.heap.size, [.int .i64 A.x0, .int .i64 A.y0, .int .i64 A.x1, .int .i64 A.y1])] := (Known.start w).new _ 37
    have F := I.2
    simp only [KB, CellsAt, Nat.zero_add, Nat.reduceAdd, and_true] at F
    go_wp2_with (first | (go_at_call 30; ((with_reducible refine (SH _).mono ?_); rintro e ws ⟨rfl, b⟩; have I : Known w ws [(w.heap.size, [.int .i64 A.x0, .int .i64 A.y0, .int .i64 A.x1, .int .i64 A.y1])] := I.next b; (try clear F); have F := I.2; simp only [KB, CellsAt, Nat.zero_add, Nat.reduceAdd, and_true] at F)) | (go_at_call 31; ((with_reducible refine (PX _).mono ?_); rintro e wp ⟨rfl, b⟩; have I : Known w wp [(ws.heap.size, [.int .i64 0, .int .i64 0, .int .i64 0, .int .i64 0]), (w.heap.size, [.int .i64 A.x0, .int .i64 A.y0, .int .i64 A.x1, .int .i64 A.y1])] := (I.new _ _).next b; (try clear F); have F := I.2; simp only [KB, CellsAt, Nat.zero_add, Nat.reduceAdd, and_true] at F)) | (go_at_call 32; ((with_reducible refine (AR _).mono ?_); rintro e wa ⟨rfl, b⟩; have I : Known w wa [(wp.heap.size, [.int .i64 0, .int .i64 0, .int .i64 0, .int .i64 0]), (ws.heap.size, [.int .i64 0, .int .i64 0, .int .i64 0, .int .i64 0]), (w.heap.size, [.int .i64 A.x0, .int .i64 A.y0, .int .i64 A.x1, .int .i64 A.y1])] := (I.new _ _).next b; (try clear F); have F := I.2; simp only [KB, CellsAt, Nat.zero_add, Nat.reduceAdd, and_true] at F)) | (go_at_call 14; ((with_reducible refine (LV _).mono ?_); rintro e wl ⟨rfl, b⟩; have I : Known w wl [(wp.heap.size, [.int .i64 0, .int .i64 0, .int .i64 0, .int .i64 0]), (ws.heap.size, [.int .i64 0, .int .i64 0, .int .i64 0, .int .i64 0]), (w.heap.size, [.int .i64 A.x0, .int .i64 A.y0, .int .i64 A.x1, .int .i64 A.y1])] := I.next b; (try clear F); have F := I.2; simp only [KB, CellsAt, Nat.zero_add, Nat.reduceAdd, and_true] at F)) | (go_at_call 23; ((with_reducible refine (MB _).mono ?_); rintro e wm ⟨rfl, b⟩; have I : Known w wm [(wp.heap.size, [.int .i64 0, .int .i64 0, .int .i64 0, .int .i64 0]), (ws.heap.size, [.int .i64 0, .int .i64 0, .int .i64 0, .int .i64 0]), (w.heap.size, [.int .i64 A.x0, .int .i64 A.y0, .int .i64 A.x1, .int .i64 A.y1])] := I.next b; (try clear F); have F := I.2; simp only [KB, CellsAt, Nat.zero_add, Nat.reduceAdd, and_true] at F)) | (go_at_call 13; ((with_reducible refine (X _).mono ?_); rintro e w' ⟨rfl, rfl⟩)) | (go_at_call 13; ((with_reducible refine (Y _).mono ?_); rintro e w' ⟨rfl, rfl⟩)) | (go_at_call 13; ((with_reducible refine (X0 _).mono ?_); rintro e w' ⟨rfl, rfl⟩)))
    go_ret
    exact ⟨rfl, I.1⟩
  · rw [hA] at MB
    obtain ⟨PQ, hPQ⟩ : ∃ Z : Q, Z = ⟨(plainQ A).x0 / 64, (plainQ A).y0 / 64, ((plainQ A).x1 + 63) / 64, ((plainQ A).y1 + 63) / 64⟩ := ⟨_, rfl⟩
    have PX : ∀ w, Calls Try.prog 31 #[.agg #[.int .i64 A.x0, .int .i64 A.y0, .int .i64 A.x1, .int .i64 A.y1]] w (fun e w' => e = .returned (.tuple #[.agg #[.int .i64 PQ.x0, .int .i64 PQ.y0, .int .i64 PQ.x1, .int .i64 PQ.y1], .int .i64 0]) ∧ Below w.heap.size w w') := fun w => by rw [hPQ]; exact pixels_any A w hA
    have RP : ∀ w, Calls Try.prog 34 #[.agg #[.int .i64 A.x0, .int .i64 A.y0, .int .i64 A.x1, .int .i64 A.y1]] w (fun e w' => e = .returned (.agg #[.int .i64 PQ.x0, .int .i64 PQ.y0, .int .i64 PQ.x1, .int .i64 PQ.y1]) ∧ Below w.heap.size w w') := fun w => by rw [hPQ]; exact rpixels_any A w hA
    clear hPQ
    have n2 := fun w => neB_run PQ.x0 PQ.y0 PQ.x1 PQ.y1 PQ.x0 PQ.y0 PQ.x1 PQ.y1 w
    have n2g := fun x y w => neB_guard PQ.x0 PQ.y0 PQ.x1 PQ.y1 PQ.x0 PQ.y0 PQ.x1 PQ.y1 x y w
    rw [eq4_self] at n2
    simp only [Bool.not_true] at n2

    cases hxy : (mayB x && mayB y)
    · cases hE : emptyQ A
      · have SH := fun w => shift_far A x y w hA hxy
        have n1 := fun w => neB_run 0 0 0 0 0 0 0 0 w
        have n1g := fun x y w => neB_guard 0 0 0 0 0 0 0 0 x y w
        rw [show eq4 0 0 0 0 0 0 0 0 = true from rfl] at n1
        simp only [Bool.not_true] at n1

        have AR := fun w => area_full A w hA hE
        obtain ⟨⟨l1, l2⟩, ⟨l3, l4⟩, ⟨l5, l6⟩, ⟨l7, l8⟩⟩ := mayQ_lims hA
        obtain ⟨m1, m2⟩ := empty_lims hE
        rw [hE] at EM
        clear hE hA
        
        have s1 : IntKind.i64.wrap (A.x1 - A.x0) = A.x1 - A.x0 := IntWalk.i64_in _ (by omega)
        have s2 : IntKind.i64.wrap (A.y1 - A.y0) = A.y1 - A.y0 := IntWalk.i64_in _ (by omega)
        have n3 : 1 ≤ A.x1 - A.x0 := by omega
        have n4 : A.x1 - A.x0 ≤ 4294967296 := by omega
        have n5 : 1 ≤ A.y1 - A.y0 := by omega
        have n6 : A.y1 - A.y0 ≤ 4294967296 := by omega
        by_cases hc : 1099511627776 / (A.x1 - A.x0) < A.y1 - A.y0
        · rw [if_pos hc, if_pos hc] at AR
          cases hx : mayB x
          · rw [hx] at X
            clear hxy hx Y
            have Y := X
            have X0 := X
            go_enter Try.func7, Try.ntmps7
            have I : Known w _ [(w.heap.size, [.int .i64 A.x0, .int .i64 A.y0, .int .i64 A.x1, .int .i64 A.y1])] := (Known.start w).new _ 37
            have F := I.2
            simp only [KB, CellsAt, Nat.zero_add, Nat.reduceAdd, and_true] at F
            go_wp2_with (first | (go_at_call 30; ((with_reducible refine (SH _).mono ?_); rintro e ws ⟨rfl, b⟩; have I : Known w ws [(w.heap.size, [.int .i64 A.x0, .int .i64 A.y0, .int .i64 A.x1, .int .i64 A.y1])] := I.next b; (try clear F); have F := I.2; simp only [KB, CellsAt, Nat.zero_add, Nat.reduceAdd, and_true] at F)) | (go_at_call 31; ((with_reducible refine (PX _).mono ?_); rintro e wp ⟨rfl, b⟩; have I : Known w wp [(ws.heap.size, [.int .i64 0, .int .i64 0, .int .i64 0, .int .i64 0]), (w.heap.size, [.int .i64 A.x0, .int .i64 A.y0, .int .i64 A.x1, .int .i64 A.y1])] := (I.new _ _).next b; (try clear F); have F := I.2; simp only [KB, CellsAt, Nat.zero_add, Nat.reduceAdd, and_true] at F)) | (go_at_call 32; ((with_reducible refine (AR _).mono ?_); rintro e wa ⟨rfl, b⟩; have I : Known w wa [(wp.heap.size, [.int .i64 PQ.x0, .int .i64 PQ.y0, .int .i64 PQ.x1, .int .i64 PQ.y1]), (ws.heap.size, [.int .i64 0, .int .i64 0, .int .i64 0, .int .i64 0]), (w.heap.size, [.int .i64 A.x0, .int .i64 A.y0, .int .i64 A.x1, .int .i64 A.y1])] := (I.new _ _).next b; (try clear F); have F := I.2; simp only [KB, CellsAt, Nat.zero_add, Nat.reduceAdd, and_true] at F)) | (go_at_call 14; ((with_reducible refine (LV _).mono ?_); rintro e wl ⟨rfl, b⟩; have I : Known w wl [(wp.heap.size, [.int .i64 PQ.x0, .int .i64 PQ.y0, .int .i64 PQ.x1, .int .i64 PQ.y1]), (ws.heap.size, [.int .i64 0, .int .i64 0, .int .i64 0, .int .i64 0]), (w.heap.size, [.int .i64 A.x0, .int .i64 A.y0, .int .i64 A.x1, .int .i64 A.y1])] := I.next b; (try clear F); have F := I.2; simp only [KB, CellsAt, Nat.zero_add, Nat.reduceAdd, and_true] at F)) | (go_at_call 23; ((with_reducible refine (MB _).mono ?_); rintro e wm ⟨rfl, b⟩; have I : Known w wm [(wp.heap.size, [.int .i64 PQ.x0, .int .i64 PQ.y0, .int .i64 PQ.x1, .int .i64 PQ.y1]), (ws.heap.size, [.int .i64 0, .int .i64 0, .int .i64 0, .int .i64 0]), (w.heap.size, [.int .i64 A.x0, .int .i64 A.y0, .int .i64 A.x1, .int .i64 A.y1])] := I.next b; (try clear F); have F := I.2; simp only [KB, CellsAt, Nat.zero_add, Nat.reduceAdd, and_true] at F)) | (go_at_call 13; ((with_reducible refine (X _).mono ?_); rintro e w' ⟨rfl, rfl⟩)) | (go_at_call 13; ((with_reducible refine (Y _).mono ?_); rintro e w' ⟨rfl, rfl⟩)) | (go_at_call 13; ((with_reducible refine (X0 _).mono ?_); rintro e w' ⟨rfl, rfl⟩)))
            refine wp_region_plan (fun w' => Known w w' [(wm.heap.size, [.int .i64 0, .int .i64 0, .int .i64 0, .int .i64 0]), (wp.heap.size, [.int .i64 PQ.x0, .int .i64 PQ.y0, .int .i64 PQ.x1, .int .i64 PQ.y1]), (ws.heap.size, [.int .i64 0, .int .i64 0, .int .i64 0, .int .i64 0]), (w.heap.size, [.int .i64 A.x0, .int .i64 A.y0, .int .i64 A.x1, .int .i64 A.y1])]) _ rfl (by kernel_rfl) (by kernel_rfl) ((I.new _ _).drew) ?_
            (try clear F)
            repeat (first
              | (refine PlanL.skip (by rfl) ?_; simp only [Act.put, List.setIfInBounds_toArray, List.set_cons_zero, List.set_cons_succ])
              | (refine PlanL.val (v := ?_) (by rfl) ?_ ?_; rotate_left; (focus (intro w' hS; have F := hS.2; simp only [KB, CellsAt, Nat.zero_add, Nat.reduceAdd, and_true] at F; go_simp <;> with_reducible rfl)); try simp only [Act.put, List.setIfInBounds_toArray, List.set_cons_zero, List.set_cons_succ])
              | (refine PlanL.call (v := ?_) (f := ?_) (args := ?_) (by rfl) ?_ ?_ ?_; rotate_left 3; (focus (intro w' hS; have F := hS.2; simp only [KB, CellsAt, Nat.zero_add, Nat.reduceAdd, and_true] at F; go_simp; (constructor <;> with_reducible rfl))); (focus (intro w' hS; first | ((with_reducible refine (RP _).mono ?_); rintro e w'' ⟨rfl, b⟩; refine ⟨?_, Known.next hS b⟩; with_reducible rfl))); try simp only [Act.put, List.setIfInBounds_toArray, List.set_cons_zero, List.set_cons_succ]))
            refine PlanL.nil ?_
            intro w' I
            have F := I.2
            simp only [KB, CellsAt, Nat.zero_add, Nat.reduceAdd, and_true] at F
            go_wp2_with (first | (go_at_call 25; ((with_reducible refine (EM _).mono ?_); rintro e we ⟨rfl, b⟩; have I : Known w we [(wm.heap.size, [.int .i64 0, .int .i64 0, .int .i64 0, .int .i64 0]), (wp.heap.size, [.int .i64 PQ.x0, .int .i64 PQ.y0, .int .i64 PQ.x1, .int .i64 PQ.y1]), (ws.heap.size, [.int .i64 0, .int .i64 0, .int .i64 0, .int .i64 0]), (w.heap.size, [.int .i64 A.x0, .int .i64 A.y0, .int .i64 A.x1, .int .i64 A.y1])] := I.next b; (try clear F); have F := I.2; simp only [KB, CellsAt, Nat.zero_add, Nat.reduceAdd, and_true] at F)))
            refine wp_region_plan (fun w' => Known w w' [(wm.heap.size, [.int .i64 0, .int .i64 0, .int .i64 0, .int .i64 0]), (wp.heap.size, [.int .i64 PQ.x0, .int .i64 PQ.y0, .int .i64 PQ.x1, .int .i64 PQ.y1]), (ws.heap.size, [.int .i64 0, .int .i64 0, .int .i64 0, .int .i64 0]), (w.heap.size, [.int .i64 A.x0, .int .i64 A.y0, .int .i64 A.x1, .int .i64 A.y1])]) _ rfl (by kernel_rfl) (by kernel_rfl) (I.drew) ?_
            (try clear F)
            repeat (first
              | (refine PlanL.skip (by rfl) ?_; simp only [Act.put, List.setIfInBounds_toArray, List.set_cons_zero, List.set_cons_succ])
              | (refine PlanL.val (v := ?_) (by rfl) ?_ ?_; rotate_left; (focus (intro w' hS; have F := hS.2; simp only [KB, CellsAt, Nat.zero_add, Nat.reduceAdd, and_true] at F; go_simp <;> with_reducible rfl)); try simp only [Act.put, List.setIfInBounds_toArray, List.set_cons_zero, List.set_cons_succ]))
            refine PlanL.nil ?_
            intro w' I
            have F := I.2
            simp only [KB, CellsAt, Nat.zero_add, Nat.reduceAdd, and_true] at F
            clear s1 s2
            go_wp2
            go_ret
            exact ⟨rfl, I.1⟩
          · rw [hx] at hxy X
            rw [show mayB y = false by simpa using hxy] at Y
            clear hxy hx
            have X0 := X
            go_enter Try.func7, Try.ntmps7
            have I : Known w _ [(w.heap.size, [.int .i64 A.x0, .int .i64 A.y0, .int .i64 A.x1, .int .i64 A.y1])] := (Known.start w).new _ 37
            have F := I.2
            simp only [KB, CellsAt, Nat.zero_add, Nat.reduceAdd, and_true] at F
            go_wp2_with (first | (go_at_call 30; ((with_reducible refine (SH _).mono ?_); rintro e ws ⟨rfl, b⟩; have I : Known w ws [(w.heap.size, [.int .i64 A.x0, .int .i64 A.y0, .int .i64 A.x1, .int .i64 A.y1])] := I.next b; (try clear F); have F := I.2; simp only [KB, CellsAt, Nat.zero_add, Nat.reduceAdd, and_true] at F)) | (go_at_call 31; ((with_reducible refine (PX _).mono ?_); rintro e wp ⟨rfl, b⟩; have I : Known w wp [(ws.heap.size, [.int .i64 0, .int .i64 0, .int .i64 0, .int .i64 0]), (w.heap.size, [.int .i64 A.x0, .int .i64 A.y0, .int .i64 A.x1, .int .i64 A.y1])] := (I.new _ _).next b; (try clear F); have F := I.2; simp only [KB, CellsAt, Nat.zero_add, Nat.reduceAdd, and_true] at F)) | (go_at_call 32; ((with_reducible refine (AR _).mono ?_); rintro e wa ⟨rfl, b⟩; have I : Known w wa [(wp.heap.size, [.int .i64 PQ.x0, .int .i64 PQ.y0, .int .i64 PQ.x1, .int .i64 PQ.y1]), (ws.heap.size, [.int .i64 0, .int .i64 0, .int .i64 0, .int .i64 0]), (w.heap.size, [.int .i64 A.x0, .int .i64 A.y0, .int .i64 A.x1, .int .i64 A.y1])] := (I.new _ _).next b; (try clear F); have F := I.2; simp only [KB, CellsAt, Nat.zero_add, Nat.reduceAdd, and_true] at F)) | (go_at_call 14; ((with_reducible refine (LV _).mono ?_); rintro e wl ⟨rfl, b⟩; have I : Known w wl [(wp.heap.size, [.int .i64 PQ.x0, .int .i64 PQ.y0, .int .i64 PQ.x1, .int .i64 PQ.y1]), (ws.heap.size, [.int .i64 0, .int .i64 0, .int .i64 0, .int .i64 0]), (w.heap.size, [.int .i64 A.x0, .int .i64 A.y0, .int .i64 A.x1, .int .i64 A.y1])] := I.next b; (try clear F); have F := I.2; simp only [KB, CellsAt, Nat.zero_add, Nat.reduceAdd, and_true] at F)) | (go_at_call 23; ((with_reducible refine (MB _).mono ?_); rintro e wm ⟨rfl, b⟩; have I : Known w wm [(wp.heap.size, [.int .i64 PQ.x0, .int .i64 PQ.y0, .int .i64 PQ.x1, .int .i64 PQ.y1]), (ws.heap.size, [.int .i64 0, .int .i64 0, .int .i64 0, .int .i64 0]), (w.heap.size, [.int .i64 A.x0, .int .i64 A.y0, .int .i64 A.x1, .int .i64 A.y1])] := I.next b; (try clear F); have F := I.2; simp only [KB, CellsAt, Nat.zero_add, Nat.reduceAdd, and_true] at F)) | (go_at_call 13; ((with_reducible refine (X _).mono ?_); rintro e w' ⟨rfl, rfl⟩)) | (go_at_call 13; ((with_reducible refine (Y _).mono ?_); rintro e w' ⟨rfl, rfl⟩)) | (go_at_call 13; ((with_reducible refine (X0 _).mono ?_); rintro e w' ⟨rfl, rfl⟩)))
            refine wp_region_plan (fun w' => Known w w' [(wm.heap.size, [.int .i64 0, .int .i64 0, .int .i64 0, .int .i64 0]), (wp.heap.size, [.int .i64 PQ.x0, .int .i64 PQ.y0, .int .i64 PQ.x1, .int .i64 PQ.y1]), (ws.heap.size, [.int .i64 0, .int .i64 0, .int .i64 0, .int .i64 0]), (w.heap.size, [.int .i64 A.x0, .int .i64 A.y0, .int .i64 A.x1, .int .i64 A.y1])]) _ rfl (by kernel_rfl) (by kernel_rfl) ((I.new _ _).drew) ?_
            (try clear F)
            repeat (first
              | (refine PlanL.skip (by rfl) ?_; simp only [Act.put, List.setIfInBounds_toArray, List.set_cons_zero, List.set_cons_succ])
              | (refine PlanL.val (v := ?_) (by rfl) ?_ ?_; rotate_left; (focus (intro w' hS; have F := hS.2; simp only [KB, CellsAt, Nat.zero_add, Nat.reduceAdd, and_true] at F; go_simp <;> with_reducible rfl)); try simp only [Act.put, List.setIfInBounds_toArray, List.set_cons_zero, List.set_cons_succ])
              | (refine PlanL.call (v := ?_) (f := ?_) (args := ?_) (by rfl) ?_ ?_ ?_; rotate_left 3; (focus (intro w' hS; have F := hS.2; simp only [KB, CellsAt, Nat.zero_add, Nat.reduceAdd, and_true] at F; go_simp; (constructor <;> with_reducible rfl))); (focus (intro w' hS; first | ((with_reducible refine (RP _).mono ?_); rintro e w'' ⟨rfl, b⟩; refine ⟨?_, Known.next hS b⟩; with_reducible rfl))); try simp only [Act.put, List.setIfInBounds_toArray, List.set_cons_zero, List.set_cons_succ]))
            refine PlanL.nil ?_
            intro w' I
            have F := I.2
            simp only [KB, CellsAt, Nat.zero_add, Nat.reduceAdd, and_true] at F
            go_wp2_with (first | (go_at_call 25; ((with_reducible refine (EM _).mono ?_); rintro e we ⟨rfl, b⟩; have I : Known w we [(wm.heap.size, [.int .i64 0, .int .i64 0, .int .i64 0, .int .i64 0]), (wp.heap.size, [.int .i64 PQ.x0, .int .i64 PQ.y0, .int .i64 PQ.x1, .int .i64 PQ.y1]), (ws.heap.size, [.int .i64 0, .int .i64 0, .int .i64 0, .int .i64 0]), (w.heap.size, [.int .i64 A.x0, .int .i64 A.y0, .int .i64 A.x1, .int .i64 A.y1])] := I.next b; (try clear F); have F := I.2; simp only [KB, CellsAt, Nat.zero_add, Nat.reduceAdd, and_true] at F)))
            refine wp_region_plan (fun w' => Known w w' [(wm.heap.size, [.int .i64 0, .int .i64 0, .int .i64 0, .int .i64 0]), (wp.heap.size, [.int .i64 PQ.x0, .int .i64 PQ.y0, .int .i64 PQ.x1, .int .i64 PQ.y1]), (ws.heap.size, [.int .i64 0, .int .i64 0, .int .i64 0, .int .i64 0]), (w.heap.size, [.int .i64 A.x0, .int .i64 A.y0, .int .i64 A.x1, .int .i64 A.y1])]) _ rfl (by kernel_rfl) (by kernel_rfl) (I.drew) ?_
            (try clear F)
            repeat (first
              | (refine PlanL.skip (by rfl) ?_; simp only [Act.put, List.setIfInBounds_toArray, List.set_cons_zero, List.set_cons_succ])
              | (refine PlanL.val (v := ?_) (by rfl) ?_ ?_; rotate_left; (focus (intro w' hS; have F := hS.2; simp only [KB, CellsAt, Nat.zero_add, Nat.reduceAdd, and_true] at F; go_simp <;> with_reducible rfl)); try simp only [Act.put, List.setIfInBounds_toArray, List.set_cons_zero, List.set_cons_succ]))
            refine PlanL.nil ?_
            intro w' I
            have F := I.2
            simp only [KB, CellsAt, Nat.zero_add, Nat.reduceAdd, and_true] at F
            clear s1 s2
            go_wp2
            go_ret
            exact ⟨rfl, I.1⟩
        · rw [if_neg hc, if_neg hc] at AR
          have p0 : (A.x1 - A.x0) * (A.y1 - A.y0) ≤ 1099511627776 := by
            have h1 : (A.x1 - A.x0) * (A.y1 - A.y0) ≤ (A.x1 - A.x0) * (1099511627776 / (A.x1 - A.x0)) := Int.mul_le_mul_of_nonneg_left (by omega) (by omega)
            have h2 := Int.mul_ediv_self_le (x := 1099511627776) (k := A.x1 - A.x0) (by omega)
            omega
          have p1 : 0 ≤ (A.x1 - A.x0) * (A.y1 - A.y0) := Int.mul_nonneg (by omega) (by omega)
          have hc' : A.y1 - A.y0 ≤ 1099511627776 / (A.x1 - A.x0) := by omega
          clear hc
          cases hx : mayB x
          · rw [hx] at X
            clear hxy hx Y
            have Y := X
            have X0 := X
            go_enter Try.func7, Try.ntmps7
            have I : Known w _ [(w.heap.size, [.int .i64 A.x0, .int .i64 A.y0, .int .i64 A.x1, .int .i64 A.y1])] := (Known.start w).new _ 37
            have F := I.2
            simp only [KB, CellsAt, Nat.zero_add, Nat.reduceAdd, and_true] at F
            go_wp2_with (first | (go_at_call 30; ((with_reducible refine (SH _).mono ?_); rintro e ws ⟨rfl, b⟩; have I : Known w ws [(w.heap.size, [.int .i64 A.x0, .int .i64 A.y0, .int .i64 A.x1, .int .i64 A.y1])] := I.next b; (try clear F); have F := I.2; simp only [KB, CellsAt, Nat.zero_add, Nat.reduceAdd, and_true] at F)) | (go_at_call 31; ((with_reducible refine (PX _).mono ?_); rintro e wp ⟨rfl, b⟩; have I : Known w wp [(ws.heap.size, [.int .i64 0, .int .i64 0, .int .i64 0, .int .i64 0]), (w.heap.size, [.int .i64 A.x0, .int .i64 A.y0, .int .i64 A.x1, .int .i64 A.y1])] := (I.new _ _).next b; (try clear F); have F := I.2; simp only [KB, CellsAt, Nat.zero_add, Nat.reduceAdd, and_true] at F)) | (go_at_call 32; ((with_reducible refine (AR _).mono ?_); rintro e wa ⟨rfl, b⟩; have I : Known w wa [(wp.heap.size, [.int .i64 PQ.x0, .int .i64 PQ.y0, .int .i64 PQ.x1, .int .i64 PQ.y1]), (ws.heap.size, [.int .i64 0, .int .i64 0, .int .i64 0, .int .i64 0]), (w.heap.size, [.int .i64 A.x0, .int .i64 A.y0, .int .i64 A.x1, .int .i64 A.y1])] := (I.new _ _).next b; (try clear F); have F := I.2; simp only [KB, CellsAt, Nat.zero_add, Nat.reduceAdd, and_true] at F)) | (go_at_call 14; ((with_reducible refine (LV _).mono ?_); rintro e wl ⟨rfl, b⟩; have I : Known w wl [(wp.heap.size, [.int .i64 PQ.x0, .int .i64 PQ.y0, .int .i64 PQ.x1, .int .i64 PQ.y1]), (ws.heap.size, [.int .i64 0, .int .i64 0, .int .i64 0, .int .i64 0]), (w.heap.size, [.int .i64 A.x0, .int .i64 A.y0, .int .i64 A.x1, .int .i64 A.y1])] := I.next b; (try clear F); have F := I.2; simp only [KB, CellsAt, Nat.zero_add, Nat.reduceAdd, and_true] at F)) | (go_at_call 23; ((with_reducible refine (MB _).mono ?_); rintro e wm ⟨rfl, b⟩; have I : Known w wm [(wp.heap.size, [.int .i64 PQ.x0, .int .i64 PQ.y0, .int .i64 PQ.x1, .int .i64 PQ.y1]), (ws.heap.size, [.int .i64 0, .int .i64 0, .int .i64 0, .int .i64 0]), (w.heap.size, [.int .i64 A.x0, .int .i64 A.y0, .int .i64 A.x1, .int .i64 A.y1])] := I.next b; (try clear F); have F := I.2; simp only [KB, CellsAt, Nat.zero_add, Nat.reduceAdd, and_true] at F)) | (go_at_call 13; ((with_reducible refine (X _).mono ?_); rintro e w' ⟨rfl, rfl⟩)) | (go_at_call 13; ((with_reducible refine (Y _).mono ?_); rintro e w' ⟨rfl, rfl⟩)) | (go_at_call 13; ((with_reducible refine (X0 _).mono ?_); rintro e w' ⟨rfl, rfl⟩)))
            refine wp_region_plan (fun w' => Known w w' [(wm.heap.size, [.int .i64 0, .int .i64 0, .int .i64 0, .int .i64 0]), (wp.heap.size, [.int .i64 PQ.x0, .int .i64 PQ.y0, .int .i64 PQ.x1, .int .i64 PQ.y1]), (ws.heap.size, [.int .i64 0, .int .i64 0, .int .i64 0, .int .i64 0]), (w.heap.size, [.int .i64 A.x0, .int .i64 A.y0, .int .i64 A.x1, .int .i64 A.y1])]) _ rfl (by kernel_rfl) (by kernel_rfl) ((I.new _ _).drew) ?_
            (try clear F)
            repeat (first
              | (refine PlanL.skip (by rfl) ?_; simp only [Act.put, List.setIfInBounds_toArray, List.set_cons_zero, List.set_cons_succ])
              | (refine PlanL.val (v := ?_) (by rfl) ?_ ?_; rotate_left; (focus (intro w' hS; have F := hS.2; simp only [KB, CellsAt, Nat.zero_add, Nat.reduceAdd, and_true] at F; go_simp <;> with_reducible rfl)); try simp only [Act.put, List.setIfInBounds_toArray, List.set_cons_zero, List.set_cons_succ])
              | (refine PlanL.call (v := ?_) (f := ?_) (args := ?_) (by rfl) ?_ ?_ ?_; rotate_left 3; (focus (intro w' hS; have F := hS.2; simp only [KB, CellsAt, Nat.zero_add, Nat.reduceAdd, and_true] at F; go_simp; (constructor <;> with_reducible rfl))); (focus (intro w' hS; first | ((with_reducible refine (RP _).mono ?_); rintro e w'' ⟨rfl, b⟩; refine ⟨?_, Known.next hS b⟩; with_reducible rfl))); try simp only [Act.put, List.setIfInBounds_toArray, List.set_cons_zero, List.set_cons_succ]))
            refine PlanL.nil ?_
            intro w' I
            have F := I.2
            simp only [KB, CellsAt, Nat.zero_add, Nat.reduceAdd, and_true] at F
            go_wp2_with (first | (go_at_call 25; ((with_reducible refine (EM _).mono ?_); rintro e we ⟨rfl, b⟩; have I : Known w we [(wm.heap.size, [.int .i64 0, .int .i64 0, .int .i64 0, .int .i64 0]), (wp.heap.size, [.int .i64 PQ.x0, .int .i64 PQ.y0, .int .i64 PQ.x1, .int .i64 PQ.y1]), (ws.heap.size, [.int .i64 0, .int .i64 0, .int .i64 0, .int .i64 0]), (w.heap.size, [.int .i64 A.x0, .int .i64 A.y0, .int .i64 A.x1, .int .i64 A.y1])] := I.next b; (try clear F); have F := I.2; simp only [KB, CellsAt, Nat.zero_add, Nat.reduceAdd, and_true] at F)))
            refine wp_region_plan (fun w' => Known w w' [(wm.heap.size, [.int .i64 0, .int .i64 0, .int .i64 0, .int .i64 0]), (wp.heap.size, [.int .i64 PQ.x0, .int .i64 PQ.y0, .int .i64 PQ.x1, .int .i64 PQ.y1]), (ws.heap.size, [.int .i64 0, .int .i64 0, .int .i64 0, .int .i64 0]), (w.heap.size, [.int .i64 A.x0, .int .i64 A.y0, .int .i64 A.x1, .int .i64 A.y1])]) _ rfl (by kernel_rfl) (by kernel_rfl) (I.drew) ?_
            (try clear F)
            repeat (first
              | (refine PlanL.skip (by rfl) ?_; simp only [Act.put, List.setIfInBounds_toArray, List.set_cons_zero, List.set_cons_succ])
              | (refine PlanL.val (v := ?_) (by rfl) ?_ ?_; rotate_left; (focus (intro w' hS; have F := hS.2; simp only [KB, CellsAt, Nat.zero_add, Nat.reduceAdd, and_true] at F; go_simp <;> with_reducible rfl)); try simp only [Act.put, List.setIfInBounds_toArray, List.set_cons_zero, List.set_cons_succ]))
            refine PlanL.nil ?_
            intro w' I
            have F := I.2
            simp only [KB, CellsAt, Nat.zero_add, Nat.reduceAdd, and_true] at F
            clear s1 s2
            go_wp2
            go_ret
            exact ⟨rfl, I.1⟩
          · rw [hx] at hxy X
            rw [show mayB y = false by simpa using hxy] at Y
            clear hxy hx
            have X0 := X
            go_enter Try.func7, Try.ntmps7
            have I : Known w _ [(w.heap.size, [.int .i64 A.x0, .int .i64 A.y0, .int .i64 A.x1, .int .i64 A.y1])] := (Known.start w).new _ 37
            have F := I.2
            simp only [KB, CellsAt, Nat.zero_add, Nat.reduceAdd, and_true] at F
            go_wp2_with (first | (go_at_call 30; ((with_reducible refine (SH _).mono ?_); rintro e ws ⟨rfl, b⟩; have I : Known w ws [(w.heap.size, [.int .i64 A.x0, .int .i64 A.y0, .int .i64 A.x1, .int .i64 A.y1])] := I.next b; (try clear F); have F := I.2; simp only [KB, CellsAt, Nat.zero_add, Nat.reduceAdd, and_true] at F)) | (go_at_call 31; ((with_reducible refine (PX _).mono ?_); rintro e wp ⟨rfl, b⟩; have I : Known w wp [(ws.heap.size, [.int .i64 0, .int .i64 0, .int .i64 0, .int .i64 0]), (w.heap.size, [.int .i64 A.x0, .int .i64 A.y0, .int .i64 A.x1, .int .i64 A.y1])] := (I.new _ _).next b; (try clear F); have F := I.2; simp only [KB, CellsAt, Nat.zero_add, Nat.reduceAdd, and_true] at F)) | (go_at_call 32; ((with_reducible refine (AR _).mono ?_); rintro e wa ⟨rfl, b⟩; have I : Known w wa [(wp.heap.size, [.int .i64 PQ.x0, .int .i64 PQ.y0, .int .i64 PQ.x1, .int .i64 PQ.y1]), (ws.heap.size, [.int .i64 0, .int .i64 0, .int .i64 0, .int .i64 0]), (w.heap.size, [.int .i64 A.x0, .int .i64 A.y0, .int .i64 A.x1, .int .i64 A.y1])] := (I.new _ _).next b; (try clear F); have F := I.2; simp only [KB, CellsAt, Nat.zero_add, Nat.reduceAdd, and_true] at F)) | (go_at_call 14; ((with_reducible refine (LV _).mono ?_); rintro e wl ⟨rfl, b⟩; have I : Known w wl [(wp.heap.size, [.int .i64 PQ.x0, .int .i64 PQ.y0, .int .i64 PQ.x1, .int .i64 PQ.y1]), (ws.heap.size, [.int .i64 0, .int .i64 0, .int .i64 0, .int .i64 0]), (w.heap.size, [.int .i64 A.x0, .int .i64 A.y0, .int .i64 A.x1, .int .i64 A.y1])] := I.next b; (try clear F); have F := I.2; simp only [KB, CellsAt, Nat.zero_add, Nat.reduceAdd, and_true] at F)) | (go_at_call 23; ((with_reducible refine (MB _).mono ?_); rintro e wm ⟨rfl, b⟩; have I : Known w wm [(wp.heap.size, [.int .i64 PQ.x0, .int .i64 PQ.y0, .int .i64 PQ.x1, .int .i64 PQ.y1]), (ws.heap.size, [.int .i64 0, .int .i64 0, .int .i64 0, .int .i64 0]), (w.heap.size, [.int .i64 A.x0, .int .i64 A.y0, .int .i64 A.x1, .int .i64 A.y1])] := I.next b; (try clear F); have F := I.2; simp only [KB, CellsAt, Nat.zero_add, Nat.reduceAdd, and_true] at F)) | (go_at_call 13; ((with_reducible refine (X _).mono ?_); rintro e w' ⟨rfl, rfl⟩)) | (go_at_call 13; ((with_reducible refine (Y _).mono ?_); rintro e w' ⟨rfl, rfl⟩)) | (go_at_call 13; ((with_reducible refine (X0 _).mono ?_); rintro e w' ⟨rfl, rfl⟩)))
            refine wp_region_plan (fun w' => Known w w' [(wm.heap.size, [.int .i64 0, .int .i64 0, .int .i64 0, .int .i64 0]), (wp.heap.size, [.int .i64 PQ.x0, .int .i64 PQ.y0, .int .i64 PQ.x1, .int .i64 PQ.y1]), (ws.heap.size, [.int .i64 0, .int .i64 0, .int .i64 0, .int .i64 0]), (w.heap.size, [.int .i64 A.x0, .int .i64 A.y0, .int .i64 A.x1, .int .i64 A.y1])]) _ rfl (by kernel_rfl) (by kernel_rfl) ((I.new _ _).drew) ?_
            (try clear F)
            repeat (first
              | (refine PlanL.skip (by rfl) ?_; simp only [Act.put, List.setIfInBounds_toArray, List.set_cons_zero, List.set_cons_succ])
              | (refine PlanL.val (v := ?_) (by rfl) ?_ ?_; rotate_left; (focus (intro w' hS; have F := hS.2; simp only [KB, CellsAt, Nat.zero_add, Nat.reduceAdd, and_true] at F; go_simp <;> with_reducible rfl)); try simp only [Act.put, List.setIfInBounds_toArray, List.set_cons_zero, List.set_cons_succ])
              | (refine PlanL.call (v := ?_) (f := ?_) (args := ?_) (by rfl) ?_ ?_ ?_; rotate_left 3; (focus (intro w' hS; have F := hS.2; simp only [KB, CellsAt, Nat.zero_add, Nat.reduceAdd, and_true] at F; go_simp; (constructor <;> with_reducible rfl))); (focus (intro w' hS; first | ((with_reducible refine (RP _).mono ?_); rintro e w'' ⟨rfl, b⟩; refine ⟨?_, Known.next hS b⟩; with_reducible rfl))); try simp only [Act.put, List.setIfInBounds_toArray, List.set_cons_zero, List.set_cons_succ]))
            refine PlanL.nil ?_
            intro w' I
            have F := I.2
            simp only [KB, CellsAt, Nat.zero_add, Nat.reduceAdd, and_true] at F
            go_wp2_with (first | (go_at_call 25; ((with_reducible refine (EM _).mono ?_); rintro e we ⟨rfl, b⟩; have I : Known w we [(wm.heap.size, [.int .i64 0, .int .i64 0, .int .i64 0, .int .i64 0]), (wp.heap.size, [.int .i64 PQ.x0, .int .i64 PQ.y0, .int .i64 PQ.x1, .int .i64 PQ.y1]), (ws.heap.size, [.int .i64 0, .int .i64 0, .int .i64 0, .int .i64 0]), (w.heap.size, [.int .i64 A.x0, .int .i64 A.y0, .int .i64 A.x1, .int .i64 A.y1])] := I.next b; (try clear F); have F := I.2; simp only [KB, CellsAt, Nat.zero_add, Nat.reduceAdd, and_true] at F)))
            refine wp_region_plan (fun w' => Known w w' [(wm.heap.size, [.int .i64 0, .int .i64 0, .int .i64 0, .int .i64 0]), (wp.heap.size, [.int .i64 PQ.x0, .int .i64 PQ.y0, .int .i64 PQ.x1, .int .i64 PQ.y1]), (ws.heap.size, [.int .i64 0, .int .i64 0, .int .i64 0, .int .i64 0]), (w.heap.size, [.int .i64 A.x0, .int .i64 A.y0, .int .i64 A.x1, .int .i64 A.y1])]) _ rfl (by kernel_rfl) (by kernel_rfl) (I.drew) ?_
            (try clear F)
            repeat (first
              | (refine PlanL.skip (by rfl) ?_; simp only [Act.put, List.setIfInBounds_toArray, List.set_cons_zero, List.set_cons_succ])
              | (refine PlanL.val (v := ?_) (by rfl) ?_ ?_; rotate_left; (focus (intro w' hS; have F := hS.2; simp only [KB, CellsAt, Nat.zero_add, Nat.reduceAdd, and_true] at F; go_simp <;> with_reducible rfl)); try simp only [Act.put, List.setIfInBounds_toArray, List.set_cons_zero, List.set_cons_succ]))
            refine PlanL.nil ?_
            intro w' I
            have F := I.2
            simp only [KB, CellsAt, Nat.zero_add, Nat.reduceAdd, and_true] at F
            clear s1 s2
            go_wp2
            go_ret
            exact ⟨rfl, I.1⟩
      · have SH := fun w => shift_far A x y w hA hxy
        have n1 := fun w => neB_run 0 0 0 0 0 0 0 0 w
        have n1g := fun x y w => neB_guard 0 0 0 0 0 0 0 0 x y w
        rw [show eq4 0 0 0 0 0 0 0 0 = true from rfl] at n1
        simp only [Bool.not_true] at n1

        have AR := fun w => area_none A w hA hE
        rw [hE] at EM
        clear hE hA
        
        cases hx : mayB x
        · rw [hx] at X
          clear hxy hx Y
          have Y := X
          have X0 := X
          go_enter Try.func7, Try.ntmps7
          have I : Known w _ [(w.heap.size, [.int .i64 A.x0, .int .i64 A.y0, .int .i64 A.x1, .int .i64 A.y1])] := (Known.start w).new _ 37
          have F := I.2
          simp only [KB, CellsAt, Nat.zero_add, Nat.reduceAdd, and_true] at F
          go_wp2_with (first | (go_at_call 30; ((with_reducible refine (SH _).mono ?_); rintro e ws ⟨rfl, b⟩; have I : Known w ws [(w.heap.size, [.int .i64 A.x0, .int .i64 A.y0, .int .i64 A.x1, .int .i64 A.y1])] := I.next b; (try clear F); have F := I.2; simp only [KB, CellsAt, Nat.zero_add, Nat.reduceAdd, and_true] at F)) | (go_at_call 31; ((with_reducible refine (PX _).mono ?_); rintro e wp ⟨rfl, b⟩; have I : Known w wp [(ws.heap.size, [.int .i64 0, .int .i64 0, .int .i64 0, .int .i64 0]), (w.heap.size, [.int .i64 A.x0, .int .i64 A.y0, .int .i64 A.x1, .int .i64 A.y1])] := (I.new _ _).next b; (try clear F); have F := I.2; simp only [KB, CellsAt, Nat.zero_add, Nat.reduceAdd, and_true] at F)) | (go_at_call 32; ((with_reducible refine (AR _).mono ?_); rintro e wa ⟨rfl, b⟩; have I : Known w wa [(wp.heap.size, [.int .i64 PQ.x0, .int .i64 PQ.y0, .int .i64 PQ.x1, .int .i64 PQ.y1]), (ws.heap.size, [.int .i64 0, .int .i64 0, .int .i64 0, .int .i64 0]), (w.heap.size, [.int .i64 A.x0, .int .i64 A.y0, .int .i64 A.x1, .int .i64 A.y1])] := (I.new _ _).next b; (try clear F); have F := I.2; simp only [KB, CellsAt, Nat.zero_add, Nat.reduceAdd, and_true] at F)) | (go_at_call 14; ((with_reducible refine (LV _).mono ?_); rintro e wl ⟨rfl, b⟩; have I : Known w wl [(wp.heap.size, [.int .i64 PQ.x0, .int .i64 PQ.y0, .int .i64 PQ.x1, .int .i64 PQ.y1]), (ws.heap.size, [.int .i64 0, .int .i64 0, .int .i64 0, .int .i64 0]), (w.heap.size, [.int .i64 A.x0, .int .i64 A.y0, .int .i64 A.x1, .int .i64 A.y1])] := I.next b; (try clear F); have F := I.2; simp only [KB, CellsAt, Nat.zero_add, Nat.reduceAdd, and_true] at F)) | (go_at_call 23; ((with_reducible refine (MB _).mono ?_); rintro e wm ⟨rfl, b⟩; have I : Known w wm [(wp.heap.size, [.int .i64 PQ.x0, .int .i64 PQ.y0, .int .i64 PQ.x1, .int .i64 PQ.y1]), (ws.heap.size, [.int .i64 0, .int .i64 0, .int .i64 0, .int .i64 0]), (w.heap.size, [.int .i64 A.x0, .int .i64 A.y0, .int .i64 A.x1, .int .i64 A.y1])] := I.next b; (try clear F); have F := I.2; simp only [KB, CellsAt, Nat.zero_add, Nat.reduceAdd, and_true] at F)) | (go_at_call 13; ((with_reducible refine (X _).mono ?_); rintro e w' ⟨rfl, rfl⟩)) | (go_at_call 13; ((with_reducible refine (Y _).mono ?_); rintro e w' ⟨rfl, rfl⟩)) | (go_at_call 13; ((with_reducible refine (X0 _).mono ?_); rintro e w' ⟨rfl, rfl⟩)))
          refine wp_region_plan (fun w' => Known w w' [(wm.heap.size, [.int .i64 0, .int .i64 0, .int .i64 0, .int .i64 0]), (wp.heap.size, [.int .i64 PQ.x0, .int .i64 PQ.y0, .int .i64 PQ.x1, .int .i64 PQ.y1]), (ws.heap.size, [.int .i64 0, .int .i64 0, .int .i64 0, .int .i64 0]), (w.heap.size, [.int .i64 A.x0, .int .i64 A.y0, .int .i64 A.x1, .int .i64 A.y1])]) _ rfl (by kernel_rfl) (by kernel_rfl) ((I.new _ _).drew) ?_
          (try clear F)
          repeat (first
            | (refine PlanL.skip (by rfl) ?_; simp only [Act.put, List.setIfInBounds_toArray, List.set_cons_zero, List.set_cons_succ])
            | (refine PlanL.val (v := ?_) (by rfl) ?_ ?_; rotate_left; (focus (intro w' hS; have F := hS.2; simp only [KB, CellsAt, Nat.zero_add, Nat.reduceAdd, and_true] at F; go_simp <;> with_reducible rfl)); try simp only [Act.put, List.setIfInBounds_toArray, List.set_cons_zero, List.set_cons_succ])
            | (refine PlanL.call (v := ?_) (f := ?_) (args := ?_) (by rfl) ?_ ?_ ?_; rotate_left 3; (focus (intro w' hS; have F := hS.2; simp only [KB, CellsAt, Nat.zero_add, Nat.reduceAdd, and_true] at F; go_simp; (constructor <;> with_reducible rfl))); (focus (intro w' hS; first | ((with_reducible refine (RP _).mono ?_); rintro e w'' ⟨rfl, b⟩; refine ⟨?_, Known.next hS b⟩; with_reducible rfl))); try simp only [Act.put, List.setIfInBounds_toArray, List.set_cons_zero, List.set_cons_succ]))
          refine PlanL.nil ?_
          intro w' I
          have F := I.2
          simp only [KB, CellsAt, Nat.zero_add, Nat.reduceAdd, and_true] at F
          go_wp2_with (first | (go_at_call 25; ((with_reducible refine (EM _).mono ?_); rintro e we ⟨rfl, b⟩; have I : Known w we [(wm.heap.size, [.int .i64 0, .int .i64 0, .int .i64 0, .int .i64 0]), (wp.heap.size, [.int .i64 PQ.x0, .int .i64 PQ.y0, .int .i64 PQ.x1, .int .i64 PQ.y1]), (ws.heap.size, [.int .i64 0, .int .i64 0, .int .i64 0, .int .i64 0]), (w.heap.size, [.int .i64 A.x0, .int .i64 A.y0, .int .i64 A.x1, .int .i64 A.y1])] := I.next b; (try clear F); have F := I.2; simp only [KB, CellsAt, Nat.zero_add, Nat.reduceAdd, and_true] at F)))
          go_ret
          exact ⟨rfl, I.1⟩
        · rw [hx] at hxy X
          rw [show mayB y = false by simpa using hxy] at Y
          clear hxy hx
          have X0 := X
          go_enter Try.func7, Try.ntmps7
          have I : Known w _ [(w.heap.size, [.int .i64 A.x0, .int .i64 A.y0, .int .i64 A.x1, .int .i64 A.y1])] := (Known.start w).new _ 37
          have F := I.2
          simp only [KB, CellsAt, Nat.zero_add, Nat.reduceAdd, and_true] at F
          go_wp2_with (first | (go_at_call 30; ((with_reducible refine (SH _).mono ?_); rintro e ws ⟨rfl, b⟩; have I : Known w ws [(w.heap.size, [.int .i64 A.x0, .int .i64 A.y0, .int .i64 A.x1, .int .i64 A.y1])] := I.next b; (try clear F); have F := I.2; simp only [KB, CellsAt, Nat.zero_add, Nat.reduceAdd, and_true] at F)) | (go_at_call 31; ((with_reducible refine (PX _).mono ?_); rintro e wp ⟨rfl, b⟩; have I : Known w wp [(ws.heap.size, [.int .i64 0, .int .i64 0, .int .i64 0, .int .i64 0]), (w.heap.size, [.int .i64 A.x0, .int .i64 A.y0, .int .i64 A.x1, .int .i64 A.y1])] := (I.new _ _).next b; (try clear F); have F := I.2; simp only [KB, CellsAt, Nat.zero_add, Nat.reduceAdd, and_true] at F)) | (go_at_call 32; ((with_reducible refine (AR _).mono ?_); rintro e wa ⟨rfl, b⟩; have I : Known w wa [(wp.heap.size, [.int .i64 PQ.x0, .int .i64 PQ.y0, .int .i64 PQ.x1, .int .i64 PQ.y1]), (ws.heap.size, [.int .i64 0, .int .i64 0, .int .i64 0, .int .i64 0]), (w.heap.size, [.int .i64 A.x0, .int .i64 A.y0, .int .i64 A.x1, .int .i64 A.y1])] := (I.new _ _).next b; (try clear F); have F := I.2; simp only [KB, CellsAt, Nat.zero_add, Nat.reduceAdd, and_true] at F)) | (go_at_call 14; ((with_reducible refine (LV _).mono ?_); rintro e wl ⟨rfl, b⟩; have I : Known w wl [(wp.heap.size, [.int .i64 PQ.x0, .int .i64 PQ.y0, .int .i64 PQ.x1, .int .i64 PQ.y1]), (ws.heap.size, [.int .i64 0, .int .i64 0, .int .i64 0, .int .i64 0]), (w.heap.size, [.int .i64 A.x0, .int .i64 A.y0, .int .i64 A.x1, .int .i64 A.y1])] := I.next b; (try clear F); have F := I.2; simp only [KB, CellsAt, Nat.zero_add, Nat.reduceAdd, and_true] at F)) | (go_at_call 23; ((with_reducible refine (MB _).mono ?_); rintro e wm ⟨rfl, b⟩; have I : Known w wm [(wp.heap.size, [.int .i64 PQ.x0, .int .i64 PQ.y0, .int .i64 PQ.x1, .int .i64 PQ.y1]), (ws.heap.size, [.int .i64 0, .int .i64 0, .int .i64 0, .int .i64 0]), (w.heap.size, [.int .i64 A.x0, .int .i64 A.y0, .int .i64 A.x1, .int .i64 A.y1])] := I.next b; (try clear F); have F := I.2; simp only [KB, CellsAt, Nat.zero_add, Nat.reduceAdd, and_true] at F)) | (go_at_call 13; ((with_reducible refine (X _).mono ?_); rintro e w' ⟨rfl, rfl⟩)) | (go_at_call 13; ((with_reducible refine (Y _).mono ?_); rintro e w' ⟨rfl, rfl⟩)) | (go_at_call 13; ((with_reducible refine (X0 _).mono ?_); rintro e w' ⟨rfl, rfl⟩)))
          refine wp_region_plan (fun w' => Known w w' [(wm.heap.size, [.int .i64 0, .int .i64 0, .int .i64 0, .int .i64 0]), (wp.heap.size, [.int .i64 PQ.x0, .int .i64 PQ.y0, .int .i64 PQ.x1, .int .i64 PQ.y1]), (ws.heap.size, [.int .i64 0, .int .i64 0, .int .i64 0, .int .i64 0]), (w.heap.size, [.int .i64 A.x0, .int .i64 A.y0, .int .i64 A.x1, .int .i64 A.y1])]) _ rfl (by kernel_rfl) (by kernel_rfl) ((I.new _ _).drew) ?_
          (try clear F)
          repeat (first
            | (refine PlanL.skip (by rfl) ?_; simp only [Act.put, List.setIfInBounds_toArray, List.set_cons_zero, List.set_cons_succ])
            | (refine PlanL.val (v := ?_) (by rfl) ?_ ?_; rotate_left; (focus (intro w' hS; have F := hS.2; simp only [KB, CellsAt, Nat.zero_add, Nat.reduceAdd, and_true] at F; go_simp <;> with_reducible rfl)); try simp only [Act.put, List.setIfInBounds_toArray, List.set_cons_zero, List.set_cons_succ])
            | (refine PlanL.call (v := ?_) (f := ?_) (args := ?_) (by rfl) ?_ ?_ ?_; rotate_left 3; (focus (intro w' hS; have F := hS.2; simp only [KB, CellsAt, Nat.zero_add, Nat.reduceAdd, and_true] at F; go_simp; (constructor <;> with_reducible rfl))); (focus (intro w' hS; first | ((with_reducible refine (RP _).mono ?_); rintro e w'' ⟨rfl, b⟩; refine ⟨?_, Known.next hS b⟩; with_reducible rfl))); try simp only [Act.put, List.setIfInBounds_toArray, List.set_cons_zero, List.set_cons_succ]))
          refine PlanL.nil ?_
          intro w' I
          have F := I.2
          simp only [KB, CellsAt, Nat.zero_add, Nat.reduceAdd, and_true] at F
          go_wp2_with (first | (go_at_call 25; ((with_reducible refine (EM _).mono ?_); rintro e we ⟨rfl, b⟩; have I : Known w we [(wm.heap.size, [.int .i64 0, .int .i64 0, .int .i64 0, .int .i64 0]), (wp.heap.size, [.int .i64 PQ.x0, .int .i64 PQ.y0, .int .i64 PQ.x1, .int .i64 PQ.y1]), (ws.heap.size, [.int .i64 0, .int .i64 0, .int .i64 0, .int .i64 0]), (w.heap.size, [.int .i64 A.x0, .int .i64 A.y0, .int .i64 A.x1, .int .i64 A.y1])] := I.next b; (try clear F); have F := I.2; simp only [KB, CellsAt, Nat.zero_add, Nat.reduceAdd, and_true] at F)))
          go_ret
          exact ⟨rfl, I.1⟩
    · cases hE : emptyQ A
      · obtain ⟨RQ, hRQ⟩ : ∃ R : Q, R = if mayQ (shiftQ A x y) then shiftQ A x y else zeroQ := ⟨_, rfl⟩
        obtain ⟨er, her⟩ : ∃ E : Int, E = if mayQ (shiftQ A x y) then 0 else 10 := ⟨_, rfl⟩
        have SH := fun w => shift_go A x y w hA hxy hE RQ er hRQ her
        have RS := fun w => rshift_go A x y w hA hxy hE RQ er hRQ her
        clear hRQ her
        have n1 := fun w => neB_run RQ.x0 RQ.y0 RQ.x1 RQ.y1 RQ.x0 RQ.y0 RQ.x1 RQ.y1 w
        have n1g := fun x y w => neB_guard RQ.x0 RQ.y0 RQ.x1 RQ.y1 RQ.x0 RQ.y0 RQ.x1 RQ.y1 x y w
        rw [eq4_self] at n1
        simp only [Bool.not_true] at n1

        have AR := fun w => area_full A w hA hE
        obtain ⟨⟨l1, l2⟩, ⟨l3, l4⟩, ⟨l5, l6⟩, ⟨l7, l8⟩⟩ := mayQ_lims hA
        obtain ⟨m1, m2⟩ := empty_lims hE
        rw [hE] at EM
        clear hE hA
        rw [Bool.and_eq_true] at hxy
        rw [hxy.1] at X
        rw [hxy.2] at Y
        clear hxy
        have X0 := X

        have s1 : IntKind.i64.wrap (A.x1 - A.x0) = A.x1 - A.x0 := IntWalk.i64_in _ (by omega)
        have s2 : IntKind.i64.wrap (A.y1 - A.y0) = A.y1 - A.y0 := IntWalk.i64_in _ (by omega)
        have n3 : 1 ≤ A.x1 - A.x0 := by omega
        have n4 : A.x1 - A.x0 ≤ 4294967296 := by omega
        have n5 : 1 ≤ A.y1 - A.y0 := by omega
        have n6 : A.y1 - A.y0 ≤ 4294967296 := by omega
        by_cases hc : 1099511627776 / (A.x1 - A.x0) < A.y1 - A.y0
        · rw [if_pos hc, if_pos hc] at AR
          go_enter Try.func7, Try.ntmps7
          have I : Known w _ [(w.heap.size, [.int .i64 A.x0, .int .i64 A.y0, .int .i64 A.x1, .int .i64 A.y1])] := (Known.start w).new _ 37
          have F := I.2
          simp only [KB, CellsAt, Nat.zero_add, Nat.reduceAdd, and_true] at F
          go_wp2_with (first | (go_at_call 30; ((with_reducible refine (SH _).mono ?_); rintro e ws ⟨rfl, b⟩; have I : Known w ws [(w.heap.size, [.int .i64 A.x0, .int .i64 A.y0, .int .i64 A.x1, .int .i64 A.y1])] := I.next b; (try clear F); have F := I.2; simp only [KB, CellsAt, Nat.zero_add, Nat.reduceAdd, and_true] at F)) | (go_at_call 31; ((with_reducible refine (PX _).mono ?_); rintro e wp ⟨rfl, b⟩; have I : Known w wp [(ws.heap.size, [.int .i64 RQ.x0, .int .i64 RQ.y0, .int .i64 RQ.x1, .int .i64 RQ.y1]), (w.heap.size, [.int .i64 A.x0, .int .i64 A.y0, .int .i64 A.x1, .int .i64 A.y1])] := (I.new _ _).next b; (try clear F); have F := I.2; simp only [KB, CellsAt, Nat.zero_add, Nat.reduceAdd, and_true] at F)) | (go_at_call 32; ((with_reducible refine (AR _).mono ?_); rintro e wa ⟨rfl, b⟩; have I : Known w wa [(wp.heap.size, [.int .i64 PQ.x0, .int .i64 PQ.y0, .int .i64 PQ.x1, .int .i64 PQ.y1]), (ws.heap.size, [.int .i64 RQ.x0, .int .i64 RQ.y0, .int .i64 RQ.x1, .int .i64 RQ.y1]), (w.heap.size, [.int .i64 A.x0, .int .i64 A.y0, .int .i64 A.x1, .int .i64 A.y1])] := (I.new _ _).next b; (try clear F); have F := I.2; simp only [KB, CellsAt, Nat.zero_add, Nat.reduceAdd, and_true] at F)) | (go_at_call 14; ((with_reducible refine (LV _).mono ?_); rintro e wl ⟨rfl, b⟩; have I : Known w wl [(wp.heap.size, [.int .i64 PQ.x0, .int .i64 PQ.y0, .int .i64 PQ.x1, .int .i64 PQ.y1]), (ws.heap.size, [.int .i64 RQ.x0, .int .i64 RQ.y0, .int .i64 RQ.x1, .int .i64 RQ.y1]), (w.heap.size, [.int .i64 A.x0, .int .i64 A.y0, .int .i64 A.x1, .int .i64 A.y1])] := I.next b; (try clear F); have F := I.2; simp only [KB, CellsAt, Nat.zero_add, Nat.reduceAdd, and_true] at F)) | (go_at_call 23; ((with_reducible refine (MB _).mono ?_); rintro e wm ⟨rfl, b⟩; have I : Known w wm [(wp.heap.size, [.int .i64 PQ.x0, .int .i64 PQ.y0, .int .i64 PQ.x1, .int .i64 PQ.y1]), (ws.heap.size, [.int .i64 RQ.x0, .int .i64 RQ.y0, .int .i64 RQ.x1, .int .i64 RQ.y1]), (w.heap.size, [.int .i64 A.x0, .int .i64 A.y0, .int .i64 A.x1, .int .i64 A.y1])] := I.next b; (try clear F); have F := I.2; simp only [KB, CellsAt, Nat.zero_add, Nat.reduceAdd, and_true] at F)) | (go_at_call 13; ((with_reducible refine (X _).mono ?_); rintro e w' ⟨rfl, rfl⟩)) | (go_at_call 13; ((with_reducible refine (Y _).mono ?_); rintro e w' ⟨rfl, rfl⟩)) | (go_at_call 13; ((with_reducible refine (X0 _).mono ?_); rintro e w' ⟨rfl, rfl⟩)) | (go_at_call 33; ((with_reducible refine (RS _).mono ?_); rintro e wr ⟨rfl, b⟩; have I8 := I; have B8 : Below wm.heap.size wm wr := (below_a1 wm _).trans (b.mono (by simp)); have I : Known w wr [(wm.heap.size, [.int .i64 0, .int .i64 0, .int .i64 0, .int .i64 0]), (wp.heap.size, [.int .i64 PQ.x0, .int .i64 PQ.y0, .int .i64 PQ.x1, .int .i64 PQ.y1]), (ws.heap.size, [.int .i64 RQ.x0, .int .i64 RQ.y0, .int .i64 RQ.x1, .int .i64 RQ.y1]), (w.heap.size, [.int .i64 A.x0, .int .i64 A.y0, .int .i64 A.x1, .int .i64 A.y1])] := (I.new _ _).next b; (try clear F); have F := I.2; simp only [KB, CellsAt, Nat.zero_add, Nat.reduceAdd, and_true] at F)))
          refine wp_region_plan (fun w' => Known w w' [(wm.heap.size, [.int .i64 RQ.x0, .int .i64 RQ.y0, .int .i64 RQ.x1, .int .i64 RQ.y1]), (wp.heap.size, [.int .i64 PQ.x0, .int .i64 PQ.y0, .int .i64 PQ.x1, .int .i64 PQ.y1]), (ws.heap.size, [.int .i64 RQ.x0, .int .i64 RQ.y0, .int .i64 RQ.x1, .int .i64 RQ.y1]), (w.heap.size, [.int .i64 A.x0, .int .i64 A.y0, .int .i64 A.x1, .int .i64 A.y1])]) _ rfl (by kernel_rfl) (by kernel_rfl) ((I8.put4 (Nat.le_refl _) B8 I.2.1 I.2.2.1 I.2.2.2.1 _ _ _ _).drew) ?_
          (try clear F)
          repeat (first
            | (refine PlanL.skip (by rfl) ?_; simp only [Act.put, List.setIfInBounds_toArray, List.set_cons_zero, List.set_cons_succ])
            | (refine PlanL.val (v := ?_) (by rfl) ?_ ?_; rotate_left; (focus (intro w' hS; have F := hS.2; simp only [KB, CellsAt, Nat.zero_add, Nat.reduceAdd, and_true] at F; go_simp <;> with_reducible rfl)); try simp only [Act.put, List.setIfInBounds_toArray, List.set_cons_zero, List.set_cons_succ])
            | (refine PlanL.call (v := ?_) (f := ?_) (args := ?_) (by rfl) ?_ ?_ ?_; rotate_left 3; (focus (intro w' hS; have F := hS.2; simp only [KB, CellsAt, Nat.zero_add, Nat.reduceAdd, and_true] at F; go_simp; (constructor <;> with_reducible rfl))); (focus (intro w' hS; first | ((with_reducible refine (RP _).mono ?_); rintro e w'' ⟨rfl, b⟩; refine ⟨?_, Known.next hS b⟩; with_reducible rfl))); try simp only [Act.put, List.setIfInBounds_toArray, List.set_cons_zero, List.set_cons_succ]))
          refine PlanL.nil ?_
          intro w' I
          have F := I.2
          simp only [KB, CellsAt, Nat.zero_add, Nat.reduceAdd, and_true] at F
          go_wp2_with (first | (go_at_call 25; ((with_reducible refine (EM _).mono ?_); rintro e we ⟨rfl, b⟩; have I : Known w we [(wm.heap.size, [.int .i64 RQ.x0, .int .i64 RQ.y0, .int .i64 RQ.x1, .int .i64 RQ.y1]), (wp.heap.size, [.int .i64 PQ.x0, .int .i64 PQ.y0, .int .i64 PQ.x1, .int .i64 PQ.y1]), (ws.heap.size, [.int .i64 RQ.x0, .int .i64 RQ.y0, .int .i64 RQ.x1, .int .i64 RQ.y1]), (w.heap.size, [.int .i64 A.x0, .int .i64 A.y0, .int .i64 A.x1, .int .i64 A.y1])] := I.next b; (try clear F); have F := I.2; simp only [KB, CellsAt, Nat.zero_add, Nat.reduceAdd, and_true] at F)))
          refine wp_region_plan (fun w' => Known w w' [(wm.heap.size, [.int .i64 RQ.x0, .int .i64 RQ.y0, .int .i64 RQ.x1, .int .i64 RQ.y1]), (wp.heap.size, [.int .i64 PQ.x0, .int .i64 PQ.y0, .int .i64 PQ.x1, .int .i64 PQ.y1]), (ws.heap.size, [.int .i64 RQ.x0, .int .i64 RQ.y0, .int .i64 RQ.x1, .int .i64 RQ.y1]), (w.heap.size, [.int .i64 A.x0, .int .i64 A.y0, .int .i64 A.x1, .int .i64 A.y1])]) _ rfl (by kernel_rfl) (by kernel_rfl) (I.drew) ?_
          (try clear F)
          repeat (first
            | (refine PlanL.skip (by rfl) ?_; simp only [Act.put, List.setIfInBounds_toArray, List.set_cons_zero, List.set_cons_succ])
            | (refine PlanL.val (v := ?_) (by rfl) ?_ ?_; rotate_left; (focus (intro w' hS; have F := hS.2; simp only [KB, CellsAt, Nat.zero_add, Nat.reduceAdd, and_true] at F; go_simp <;> with_reducible rfl)); try simp only [Act.put, List.setIfInBounds_toArray, List.set_cons_zero, List.set_cons_succ]))
          refine PlanL.nil ?_
          intro w' I
          have F := I.2
          simp only [KB, CellsAt, Nat.zero_add, Nat.reduceAdd, and_true] at F
          clear s1 s2
          go_wp2
          go_ret
          exact ⟨rfl, I.1⟩
        · rw [if_neg hc, if_neg hc] at AR
          have p0 : (A.x1 - A.x0) * (A.y1 - A.y0) ≤ 1099511627776 := by
            have h1 : (A.x1 - A.x0) * (A.y1 - A.y0) ≤ (A.x1 - A.x0) * (1099511627776 / (A.x1 - A.x0)) := Int.mul_le_mul_of_nonneg_left (by omega) (by omega)
            have h2 := Int.mul_ediv_self_le (x := 1099511627776) (k := A.x1 - A.x0) (by omega)
            omega
          have p1 : 0 ≤ (A.x1 - A.x0) * (A.y1 - A.y0) := Int.mul_nonneg (by omega) (by omega)
          have hc' : A.y1 - A.y0 ≤ 1099511627776 / (A.x1 - A.x0) := by omega
          clear hc
          go_enter Try.func7, Try.ntmps7
          have I : Known w _ [(w.heap.size, [.int .i64 A.x0, .int .i64 A.y0, .int .i64 A.x1, .int .i64 A.y1])] := (Known.start w).new _ 37
          have F := I.2
          simp only [KB, CellsAt, Nat.zero_add, Nat.reduceAdd, and_true] at F
          go_wp2_with (first | (go_at_call 30; ((with_reducible refine (SH _).mono ?_); rintro e ws ⟨rfl, b⟩; have I : Known w ws [(w.heap.size, [.int .i64 A.x0, .int .i64 A.y0, .int .i64 A.x1, .int .i64 A.y1])] := I.next b; (try clear F); have F := I.2; simp only [KB, CellsAt, Nat.zero_add, Nat.reduceAdd, and_true] at F)) | (go_at_call 31; ((with_reducible refine (PX _).mono ?_); rintro e wp ⟨rfl, b⟩; have I : Known w wp [(ws.heap.size, [.int .i64 RQ.x0, .int .i64 RQ.y0, .int .i64 RQ.x1, .int .i64 RQ.y1]), (w.heap.size, [.int .i64 A.x0, .int .i64 A.y0, .int .i64 A.x1, .int .i64 A.y1])] := (I.new _ _).next b; (try clear F); have F := I.2; simp only [KB, CellsAt, Nat.zero_add, Nat.reduceAdd, and_true] at F)) | (go_at_call 32; ((with_reducible refine (AR _).mono ?_); rintro e wa ⟨rfl, b⟩; have I : Known w wa [(wp.heap.size, [.int .i64 PQ.x0, .int .i64 PQ.y0, .int .i64 PQ.x1, .int .i64 PQ.y1]), (ws.heap.size, [.int .i64 RQ.x0, .int .i64 RQ.y0, .int .i64 RQ.x1, .int .i64 RQ.y1]), (w.heap.size, [.int .i64 A.x0, .int .i64 A.y0, .int .i64 A.x1, .int .i64 A.y1])] := (I.new _ _).next b; (try clear F); have F := I.2; simp only [KB, CellsAt, Nat.zero_add, Nat.reduceAdd, and_true] at F)) | (go_at_call 14; ((with_reducible refine (LV _).mono ?_); rintro e wl ⟨rfl, b⟩; have I : Known w wl [(wp.heap.size, [.int .i64 PQ.x0, .int .i64 PQ.y0, .int .i64 PQ.x1, .int .i64 PQ.y1]), (ws.heap.size, [.int .i64 RQ.x0, .int .i64 RQ.y0, .int .i64 RQ.x1, .int .i64 RQ.y1]), (w.heap.size, [.int .i64 A.x0, .int .i64 A.y0, .int .i64 A.x1, .int .i64 A.y1])] := I.next b; (try clear F); have F := I.2; simp only [KB, CellsAt, Nat.zero_add, Nat.reduceAdd, and_true] at F)) | (go_at_call 23; ((with_reducible refine (MB _).mono ?_); rintro e wm ⟨rfl, b⟩; have I : Known w wm [(wp.heap.size, [.int .i64 PQ.x0, .int .i64 PQ.y0, .int .i64 PQ.x1, .int .i64 PQ.y1]), (ws.heap.size, [.int .i64 RQ.x0, .int .i64 RQ.y0, .int .i64 RQ.x1, .int .i64 RQ.y1]), (w.heap.size, [.int .i64 A.x0, .int .i64 A.y0, .int .i64 A.x1, .int .i64 A.y1])] := I.next b; (try clear F); have F := I.2; simp only [KB, CellsAt, Nat.zero_add, Nat.reduceAdd, and_true] at F)) | (go_at_call 13; ((with_reducible refine (X _).mono ?_); rintro e w' ⟨rfl, rfl⟩)) | (go_at_call 13; ((with_reducible refine (Y _).mono ?_); rintro e w' ⟨rfl, rfl⟩)) | (go_at_call 13; ((with_reducible refine (X0 _).mono ?_); rintro e w' ⟨rfl, rfl⟩)) | (go_at_call 33; ((with_reducible refine (RS _).mono ?_); rintro e wr ⟨rfl, b⟩; have I8 := I; have B8 : Below wm.heap.size wm wr := (below_a1 wm _).trans (b.mono (by simp)); have I : Known w wr [(wm.heap.size, [.int .i64 0, .int .i64 0, .int .i64 0, .int .i64 0]), (wp.heap.size, [.int .i64 PQ.x0, .int .i64 PQ.y0, .int .i64 PQ.x1, .int .i64 PQ.y1]), (ws.heap.size, [.int .i64 RQ.x0, .int .i64 RQ.y0, .int .i64 RQ.x1, .int .i64 RQ.y1]), (w.heap.size, [.int .i64 A.x0, .int .i64 A.y0, .int .i64 A.x1, .int .i64 A.y1])] := (I.new _ _).next b; (try clear F); have F := I.2; simp only [KB, CellsAt, Nat.zero_add, Nat.reduceAdd, and_true] at F)))
          refine wp_region_plan (fun w' => Known w w' [(wm.heap.size, [.int .i64 RQ.x0, .int .i64 RQ.y0, .int .i64 RQ.x1, .int .i64 RQ.y1]), (wp.heap.size, [.int .i64 PQ.x0, .int .i64 PQ.y0, .int .i64 PQ.x1, .int .i64 PQ.y1]), (ws.heap.size, [.int .i64 RQ.x0, .int .i64 RQ.y0, .int .i64 RQ.x1, .int .i64 RQ.y1]), (w.heap.size, [.int .i64 A.x0, .int .i64 A.y0, .int .i64 A.x1, .int .i64 A.y1])]) _ rfl (by kernel_rfl) (by kernel_rfl) ((I8.put4 (Nat.le_refl _) B8 I.2.1 I.2.2.1 I.2.2.2.1 _ _ _ _).drew) ?_
          (try clear F)
          repeat (first
            | (refine PlanL.skip (by rfl) ?_; simp only [Act.put, List.setIfInBounds_toArray, List.set_cons_zero, List.set_cons_succ])
            | (refine PlanL.val (v := ?_) (by rfl) ?_ ?_; rotate_left; (focus (intro w' hS; have F := hS.2; simp only [KB, CellsAt, Nat.zero_add, Nat.reduceAdd, and_true] at F; go_simp <;> with_reducible rfl)); try simp only [Act.put, List.setIfInBounds_toArray, List.set_cons_zero, List.set_cons_succ])
            | (refine PlanL.call (v := ?_) (f := ?_) (args := ?_) (by rfl) ?_ ?_ ?_; rotate_left 3; (focus (intro w' hS; have F := hS.2; simp only [KB, CellsAt, Nat.zero_add, Nat.reduceAdd, and_true] at F; go_simp; (constructor <;> with_reducible rfl))); (focus (intro w' hS; first | ((with_reducible refine (RP _).mono ?_); rintro e w'' ⟨rfl, b⟩; refine ⟨?_, Known.next hS b⟩; with_reducible rfl))); try simp only [Act.put, List.setIfInBounds_toArray, List.set_cons_zero, List.set_cons_succ]))
          refine PlanL.nil ?_
          intro w' I
          have F := I.2
          simp only [KB, CellsAt, Nat.zero_add, Nat.reduceAdd, and_true] at F
          go_wp2_with (first | (go_at_call 25; ((with_reducible refine (EM _).mono ?_); rintro e we ⟨rfl, b⟩; have I : Known w we [(wm.heap.size, [.int .i64 RQ.x0, .int .i64 RQ.y0, .int .i64 RQ.x1, .int .i64 RQ.y1]), (wp.heap.size, [.int .i64 PQ.x0, .int .i64 PQ.y0, .int .i64 PQ.x1, .int .i64 PQ.y1]), (ws.heap.size, [.int .i64 RQ.x0, .int .i64 RQ.y0, .int .i64 RQ.x1, .int .i64 RQ.y1]), (w.heap.size, [.int .i64 A.x0, .int .i64 A.y0, .int .i64 A.x1, .int .i64 A.y1])] := I.next b; (try clear F); have F := I.2; simp only [KB, CellsAt, Nat.zero_add, Nat.reduceAdd, and_true] at F)))
          refine wp_region_plan (fun w' => Known w w' [(wm.heap.size, [.int .i64 RQ.x0, .int .i64 RQ.y0, .int .i64 RQ.x1, .int .i64 RQ.y1]), (wp.heap.size, [.int .i64 PQ.x0, .int .i64 PQ.y0, .int .i64 PQ.x1, .int .i64 PQ.y1]), (ws.heap.size, [.int .i64 RQ.x0, .int .i64 RQ.y0, .int .i64 RQ.x1, .int .i64 RQ.y1]), (w.heap.size, [.int .i64 A.x0, .int .i64 A.y0, .int .i64 A.x1, .int .i64 A.y1])]) _ rfl (by kernel_rfl) (by kernel_rfl) (I.drew) ?_
          (try clear F)
          repeat (first
            | (refine PlanL.skip (by rfl) ?_; simp only [Act.put, List.setIfInBounds_toArray, List.set_cons_zero, List.set_cons_succ])
            | (refine PlanL.val (v := ?_) (by rfl) ?_ ?_; rotate_left; (focus (intro w' hS; have F := hS.2; simp only [KB, CellsAt, Nat.zero_add, Nat.reduceAdd, and_true] at F; go_simp <;> with_reducible rfl)); try simp only [Act.put, List.setIfInBounds_toArray, List.set_cons_zero, List.set_cons_succ]))
          refine PlanL.nil ?_
          intro w' I
          have F := I.2
          simp only [KB, CellsAt, Nat.zero_add, Nat.reduceAdd, and_true] at F
          clear s1 s2
          go_wp2
          go_ret
          exact ⟨rfl, I.1⟩
      · obtain ⟨RQ, hRQ⟩ : ∃ Z : Q, Z = zeroQ := ⟨_, rfl⟩
        have SH : ∀ w, Calls Try.prog 30 #[.agg #[.int .i64 A.x0, .int .i64 A.y0, .int .i64 A.x1, .int .i64 A.y1], .int .i64 x, .int .i64 y] w (fun e w' => e = .returned (.tuple #[.agg #[.int .i64 RQ.x0, .int .i64 RQ.y0, .int .i64 RQ.x1, .int .i64 RQ.y1], .int .i64 0]) ∧ Below w.heap.size w w') := fun w => by rw [hRQ]; exact shift_none A x y w hA hxy hE
        have RS : ∀ w, Calls Try.prog 33 #[.agg #[.int .i64 A.x0, .int .i64 A.y0, .int .i64 A.x1, .int .i64 A.y1], .int .i64 x, .int .i64 y] w (fun e w' => e = .returned (.tuple #[.agg #[.int .i64 RQ.x0, .int .i64 RQ.y0, .int .i64 RQ.x1, .int .i64 RQ.y1], .int .i64 0]) ∧ Below w.heap.size w w') := fun w => by rw [hRQ]; exact rshift_none A x y w hE
        clear hRQ
        have n1 := fun w => neB_run RQ.x0 RQ.y0 RQ.x1 RQ.y1 RQ.x0 RQ.y0 RQ.x1 RQ.y1 w
        have n1g := fun x y w => neB_guard RQ.x0 RQ.y0 RQ.x1 RQ.y1 RQ.x0 RQ.y0 RQ.x1 RQ.y1 x y w
        rw [eq4_self] at n1
        simp only [Bool.not_true] at n1

        have AR := fun w => area_none A w hA hE
        rw [hE] at EM
        clear hE hA
        rw [Bool.and_eq_true] at hxy
        rw [hxy.1] at X
        rw [hxy.2] at Y
        clear hxy
        have X0 := X

        go_enter Try.func7, Try.ntmps7
        have I : Known w _ [(w.heap.size, [.int .i64 A.x0, .int .i64 A.y0, .int .i64 A.x1, .int .i64 A.y1])] := (Known.start w).new _ 37
        have F := I.2
        simp only [KB, CellsAt, Nat.zero_add, Nat.reduceAdd, and_true] at F
        go_wp2_with (first | (go_at_call 30; ((with_reducible refine (SH _).mono ?_); rintro e ws ⟨rfl, b⟩; have I : Known w ws [(w.heap.size, [.int .i64 A.x0, .int .i64 A.y0, .int .i64 A.x1, .int .i64 A.y1])] := I.next b; (try clear F); have F := I.2; simp only [KB, CellsAt, Nat.zero_add, Nat.reduceAdd, and_true] at F)) | (go_at_call 31; ((with_reducible refine (PX _).mono ?_); rintro e wp ⟨rfl, b⟩; have I : Known w wp [(ws.heap.size, [.int .i64 RQ.x0, .int .i64 RQ.y0, .int .i64 RQ.x1, .int .i64 RQ.y1]), (w.heap.size, [.int .i64 A.x0, .int .i64 A.y0, .int .i64 A.x1, .int .i64 A.y1])] := (I.new _ _).next b; (try clear F); have F := I.2; simp only [KB, CellsAt, Nat.zero_add, Nat.reduceAdd, and_true] at F)) | (go_at_call 32; ((with_reducible refine (AR _).mono ?_); rintro e wa ⟨rfl, b⟩; have I : Known w wa [(wp.heap.size, [.int .i64 PQ.x0, .int .i64 PQ.y0, .int .i64 PQ.x1, .int .i64 PQ.y1]), (ws.heap.size, [.int .i64 RQ.x0, .int .i64 RQ.y0, .int .i64 RQ.x1, .int .i64 RQ.y1]), (w.heap.size, [.int .i64 A.x0, .int .i64 A.y0, .int .i64 A.x1, .int .i64 A.y1])] := (I.new _ _).next b; (try clear F); have F := I.2; simp only [KB, CellsAt, Nat.zero_add, Nat.reduceAdd, and_true] at F)) | (go_at_call 14; ((with_reducible refine (LV _).mono ?_); rintro e wl ⟨rfl, b⟩; have I : Known w wl [(wp.heap.size, [.int .i64 PQ.x0, .int .i64 PQ.y0, .int .i64 PQ.x1, .int .i64 PQ.y1]), (ws.heap.size, [.int .i64 RQ.x0, .int .i64 RQ.y0, .int .i64 RQ.x1, .int .i64 RQ.y1]), (w.heap.size, [.int .i64 A.x0, .int .i64 A.y0, .int .i64 A.x1, .int .i64 A.y1])] := I.next b; (try clear F); have F := I.2; simp only [KB, CellsAt, Nat.zero_add, Nat.reduceAdd, and_true] at F)) | (go_at_call 23; ((with_reducible refine (MB _).mono ?_); rintro e wm ⟨rfl, b⟩; have I : Known w wm [(wp.heap.size, [.int .i64 PQ.x0, .int .i64 PQ.y0, .int .i64 PQ.x1, .int .i64 PQ.y1]), (ws.heap.size, [.int .i64 RQ.x0, .int .i64 RQ.y0, .int .i64 RQ.x1, .int .i64 RQ.y1]), (w.heap.size, [.int .i64 A.x0, .int .i64 A.y0, .int .i64 A.x1, .int .i64 A.y1])] := I.next b; (try clear F); have F := I.2; simp only [KB, CellsAt, Nat.zero_add, Nat.reduceAdd, and_true] at F)) | (go_at_call 13; ((with_reducible refine (X _).mono ?_); rintro e w' ⟨rfl, rfl⟩)) | (go_at_call 13; ((with_reducible refine (Y _).mono ?_); rintro e w' ⟨rfl, rfl⟩)) | (go_at_call 13; ((with_reducible refine (X0 _).mono ?_); rintro e w' ⟨rfl, rfl⟩)) | (go_at_call 33; ((with_reducible refine (RS _).mono ?_); rintro e wr ⟨rfl, b⟩; have I8 := I; have B8 : Below wm.heap.size wm wr := (below_a1 wm _).trans (b.mono (by simp)); have I : Known w wr [(wm.heap.size, [.int .i64 0, .int .i64 0, .int .i64 0, .int .i64 0]), (wp.heap.size, [.int .i64 PQ.x0, .int .i64 PQ.y0, .int .i64 PQ.x1, .int .i64 PQ.y1]), (ws.heap.size, [.int .i64 RQ.x0, .int .i64 RQ.y0, .int .i64 RQ.x1, .int .i64 RQ.y1]), (w.heap.size, [.int .i64 A.x0, .int .i64 A.y0, .int .i64 A.x1, .int .i64 A.y1])] := (I.new _ _).next b; (try clear F); have F := I.2; simp only [KB, CellsAt, Nat.zero_add, Nat.reduceAdd, and_true] at F)))
        refine wp_region_plan (fun w' => Known w w' [(wm.heap.size, [.int .i64 RQ.x0, .int .i64 RQ.y0, .int .i64 RQ.x1, .int .i64 RQ.y1]), (wp.heap.size, [.int .i64 PQ.x0, .int .i64 PQ.y0, .int .i64 PQ.x1, .int .i64 PQ.y1]), (ws.heap.size, [.int .i64 RQ.x0, .int .i64 RQ.y0, .int .i64 RQ.x1, .int .i64 RQ.y1]), (w.heap.size, [.int .i64 A.x0, .int .i64 A.y0, .int .i64 A.x1, .int .i64 A.y1])]) _ rfl (by kernel_rfl) (by kernel_rfl) ((I8.put4 (Nat.le_refl _) B8 I.2.1 I.2.2.1 I.2.2.2.1 _ _ _ _).drew) ?_
        (try clear F)
        repeat (first
          | (refine PlanL.skip (by rfl) ?_; simp only [Act.put, List.setIfInBounds_toArray, List.set_cons_zero, List.set_cons_succ])
          | (refine PlanL.val (v := ?_) (by rfl) ?_ ?_; rotate_left; (focus (intro w' hS; have F := hS.2; simp only [KB, CellsAt, Nat.zero_add, Nat.reduceAdd, and_true] at F; go_simp <;> with_reducible rfl)); try simp only [Act.put, List.setIfInBounds_toArray, List.set_cons_zero, List.set_cons_succ])
          | (refine PlanL.call (v := ?_) (f := ?_) (args := ?_) (by rfl) ?_ ?_ ?_; rotate_left 3; (focus (intro w' hS; have F := hS.2; simp only [KB, CellsAt, Nat.zero_add, Nat.reduceAdd, and_true] at F; go_simp; (constructor <;> with_reducible rfl))); (focus (intro w' hS; first | ((with_reducible refine (RP _).mono ?_); rintro e w'' ⟨rfl, b⟩; refine ⟨?_, Known.next hS b⟩; with_reducible rfl))); try simp only [Act.put, List.setIfInBounds_toArray, List.set_cons_zero, List.set_cons_succ]))
        refine PlanL.nil ?_
        intro w' I
        have F := I.2
        simp only [KB, CellsAt, Nat.zero_add, Nat.reduceAdd, and_true] at F
        go_wp2_with (first | (go_at_call 25; ((with_reducible refine (EM _).mono ?_); rintro e we ⟨rfl, b⟩; have I : Known w we [(wm.heap.size, [.int .i64 RQ.x0, .int .i64 RQ.y0, .int .i64 RQ.x1, .int .i64 RQ.y1]), (wp.heap.size, [.int .i64 PQ.x0, .int .i64 PQ.y0, .int .i64 PQ.x1, .int .i64 PQ.y1]), (ws.heap.size, [.int .i64 RQ.x0, .int .i64 RQ.y0, .int .i64 RQ.x1, .int .i64 RQ.y1]), (w.heap.size, [.int .i64 A.x0, .int .i64 A.y0, .int .i64 A.x1, .int .i64 A.y1])] := I.next b; (try clear F); have F := I.2; simp only [KB, CellsAt, Nat.zero_add, Nat.reduceAdd, and_true] at F)))
        go_ret
        exact ⟨rfl, I.1⟩

set_option linter.unusedVariables false in
set_option maxRecDepth 100000 in
theorem lifted (os : Os) (started : os.Started) (H : Type) (enc : TypeId × Value → H) :
    ReturnsInHanded {} Try.checked os 7 .any (Rows.affineShiftsSpec.pre6 enc Try.prog Try.f7 Rows.affineShiftsRow.domain false) (Rows.affineShiftsSpec.post enc Try.prog Try.f7 false true false false) := by
  refine returnsInHanded_of_change (C := Try.checked) Try.own started (by kernel_rfl) Try.func7
    (ChangeSpec.witness6 (enc := enc) (C := Try.checked) false ⟨#[], #[.agg #[.int .i64 0, .int .i64 0, .int .i64 0, .int .i64 0], .int .i64 0, .int .i64 0], []⟩ 8 (by kernel_rfl) (by kernel_rfl) (by kernel_rfl) (by kernel_rfl)) ?_
  intro W base args ds gs before hval0 hW hcnd _
  have hval : ∀ (j : Nat) t v, Try.f7.params[j]? = some t → args[j]? = some v → Value.okWide Try.prog W .any base t v := hval0
  have hW' := hW
  obtain ⟨p, q, hA0, hV, rfl, hfz, hnd⟩ := hW
  have hA : DataW.TrodAll enc Try.prog W 0 (fun _ => true) true Try.f7.params.toList args.toList ds p := hA0
  rw [Try.params7] at hA hval
  obtain ⟨v0, vs0, d0, ds0, p0, q0, hargs, rfl, rfl, h0, r0⟩ := trodAll_cons hA
  obtain ⟨v1, vs1, d1, ds1, p1, q1, rfl, rfl, rfl, h1, r1⟩ := trodAll_cons r0
  obtain ⟨v2, vs2, d2, ds2, p2, q2, rfl, rfl, rfl, h2, r2⟩ := trodAll_cons r1
  obtain ⟨rfl, rfl, rfl⟩ := trodAll_nil r2
  obtain rfl : args = #[v0, v1, v2] := by cases args; simp_all
  obtain ⟨rfl, rfl⟩ := trodVars_none hV
  obtain ⟨a0, b0, c0, e0, rfl, wa0, wb0, wc0, we0⟩ := open_four Try.underlying37 (by kernel_rfl) Try.cellsB Try.underlying3 Try.underlying3 Try.underlying3 Try.underlying3 (hval 0 37 v0 rfl rfl) h0
  obtain ⟨a1, rfl, rfl, rfl, w1⟩ := open_int Try.underlying3 (hval 1 3 v1 rfl rfl) h1
  obtain ⟨a2, rfl, rfl, rfl, w2⟩ := open_int Try.underlying3 (hval 2 3 v2 rfl rfl) h2
  clear hA0 hval0
  simp only [List.append_nil] at hW'
  refine (walk ⟨a0, b0, c0, e0⟩ ⟨wa0, wb0, wc0, we0⟩ a1 w1 a2 w2 W).mono fun e W' ⟨he, hg⟩ => ?_
  subst he
  exact ⟨_, rfl, law_post Try.laidOut rfl Try.underlying4 (by kernel_rfl) rfl rfl rfl rfl hW' hg⟩

theorem over : Rows.affineShiftsRow.holds Try.pinned (OpenSpec.ofChange Rows.affineShiftsSpec) :=
  OpenClaim.holds_of_wide 7 Try.f7 rfl rfl rfl rfl rfl rfl rfl ⟨rfl, rfl, rfl, rfl, rfl⟩ rfl rfl rfl rfl rfl (by kernel_rfl) Try.func7 (by kernel_rfl)
    (of_decide_eq_true (by kernel_rfl)) (by unfold Func.isWrapper; first | (rw [if_pos (by decide +kernel)]; kernel_rfl) | (rw [if_neg (by decide +kernel)]; exact ⟨rfl, rfl⟩))
    (fun os started H enc _ => lifted os started H enc)

theorem proved : Rows.AffineShiftsSaid :=
  over

end Go.Proofs.Ytdbnjlmkbmfhkaa.affineShifts
