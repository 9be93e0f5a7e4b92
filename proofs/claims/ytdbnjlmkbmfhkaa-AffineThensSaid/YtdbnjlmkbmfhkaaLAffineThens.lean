/- AffineThens: one matrix behind another is the document's, and so is how much it stretches; for every two matrices. -/
import Derived.Outline
import Derived.Test.YtdbnjlmkbmfhkaaLaw4
import Derived.Test.YtdbnjlmkbmfhkaaLives2
import Derived.Test.YtdbnjlmkbmfhkaaPlan
import Derived.Test.YtdbnjlmkbmfhkaaKnow
namespace Go.Proofs.Ytdbnjlmkbmfhkaa.affineThens
open Go.ChangeShapes Go.WideShapes Go.ChangeAt Go.RowKit

theorem eq4_self (A : Q) : eq4 A.x0 A.y0 A.x1 A.y1 A.x0 A.y0 A.x1 A.y1 = true := by unfold eq4; simp
def oneQ : Q := ⟨16384, 0, 0, 16384⟩
theorem fit_may {x : Int} (h : fitB x = true) : mayB x = true := by
  have := fitB_lo h
  have := fitB_hi h
  unfold mayB; simp; omega
theorem ap_one (x y : Int) (hx : fitB x = true) (hy : fitB y = true) : apU 16384 0 0 16384 x y = x ∧ apV 16384 0 0 16384 x y = y := by
  have e1 : apX 16384 0 x y = x := near_pos (by omega) (by omega) (by omega)
  have e2 : apX 0 16384 x y = y := near_pos (by omega) (by omega) (by omega)
  have e3 : apE 16384 0 0 16384 x y = 0 := by
    unfold apE
    rw [show fitM 16384 0 0 16384 = true from rfl, if_pos rfl, e1, e2, fit_may hx, fit_may hy]; rfl
  unfold apU apV
  rw [e3, if_pos rfl, if_pos rfl]
  exact ⟨e1, e2⟩
theorem then_one (A : Q) (h : fitM A.x0 A.y0 A.x1 A.y1 = true) : thenS A oneQ = A ∧ thenE A oneQ = 0 := by
  have hh := h
  unfold fitM at hh
  simp only [Bool.and_eq_true] at hh
  have e : thenQ A oneQ = A := by
    have a1 := ap_one A.x0 A.y0 hh.1.1.1 hh.1.1.2
    have a2 := ap_one A.x1 A.y1 hh.1.2 hh.2
    show (⟨apU 16384 0 0 16384 A.x0 A.y0, apV 16384 0 0 16384 A.x0 A.y0, apU 16384 0 0 16384 A.x1 A.y1, apV 16384 0 0 16384 A.x1 A.y1⟩ : Q) = A
    rw [a1.1, a1.2, a2.1, a2.2]
  unfold thenS thenE
  rw [e, h, show fitM oneQ.x0 oneQ.y0 oneQ.x1 oneQ.y1 = true from rfl]
  exact ⟨rfl, rfl⟩


set_option linter.unusedVariables false in
set_option maxHeartbeats 8000000 in
theorem walk (A : Q) (hwA : ((Lit.int .i64 A.x0).wf = true ∧ (Lit.int .i64 A.y0).wf = true ∧ (Lit.int .i64 A.x1).wf = true ∧ (Lit.int .i64 A.y1).wf = true)) (B : Q) (hwB : ((Lit.int .i64 B.x0).wf = true ∧ (Lit.int .i64 B.y0).wf = true ∧ (Lit.int .i64 B.x1).wf = true ∧ (Lit.int .i64 B.y1).wf = true)) (w : World) :
    Calls Try.prog 4 #[.agg #[.int .i64 A.x0, .int .i64 A.y0, .int .i64 A.x1, .int .i64 A.y1], .agg #[.int .i64 B.x0, .int .i64 B.y0, .int .i64 B.x1, .int .i64 B.y1]] w fun e w' => e = .returned (.bool true) ∧ Below w.heap.size w w' := by
  clear hwA hwB
  have L := fun w => lives2 w
  have P := fun w => then_any A B w
  have R := fun w => rthen_any A B w
  have M := fun w => rmayM_any A.x0 A.y0 A.x1 A.y1 w
  have D := fun w => det_any A.x0 A.y0 A.x1 A.y1 w
  have O : ∀ w, Calls Try.prog 12 #[] w (fun e w' => e = .returned (.agg #[.int .i64 oneQ.x0, .int .i64 oneQ.y0, .int .i64 oneQ.x1, .int .i64 oneQ.y1]) ∧ Below w.heap.size w w') := fun w => one_any w
  generalize thenS A B = TQ at P R
  generalize thenE A B = te at P R
  have q1 := fun w => eqM_run TQ.x0 TQ.y0 TQ.x1 TQ.y1 TQ.x0 TQ.y0 TQ.x1 TQ.y1 w
  have q2 := fun x y w => eqM_guard TQ.x0 TQ.y0 TQ.x1 TQ.y1 TQ.x0 TQ.y0 TQ.x1 TQ.y1 x y w
  rw [eq4_self] at q1
  cases hm : fitM A.x0 A.y0 A.x1 A.y1
  · have C := fun w => then_any A oneQ w
    rw [hm] at M
    unfold detV at D
    rw [hm] at D
    clear hm
    generalize thenS A oneQ = CQ at C
    generalize thenE A oneQ = ce at C
    go_enter Try.func4, Try.ntmps4
    have I : Known w ((w.alloc (.cells #[.int .i64 A.x0, .int .i64 A.y0, .int .i64 A.x1, .int .i64 A.y1] 23)).alloc (.cells #[.int .i64 B.x0, .int .i64 B.y0, .int .i64 B.x1, .int .i64 B.y1] 23)) [(w.heap.size + 1, [.int .i64 B.x0, .int .i64 B.y0, .int .i64 B.x1, .int .i64 B.y1]), (w.heap.size, [.int .i64 A.x0, .int .i64 A.y0, .int .i64 A.x1, .int .i64 A.y1])] := by simpa using ((Known.start w).new #[.int .i64 A.x0, .int .i64 A.y0, .int .i64 A.x1, .int .i64 A.y1] 23).new #[.int .i64 B.x0, .int .i64 B.y0, .int .i64 B.x1, .int .i64 B.y1] 23
    have F := I.2
    simp only [KB, CellsAt, Nat.zero_add, Nat.reduceAdd, and_true] at F
    go_wp2_with (first | (go_at_call 17; ((with_reducible refine (P _).mono ?_); rintro e wt ⟨rfl, b⟩; have I : Known w wt [(w.heap.size + 1, [.int .i64 B.x0, .int .i64 B.y0, .int .i64 B.x1, .int .i64 B.y1]), (w.heap.size, [.int .i64 A.x0, .int .i64 A.y0, .int .i64 A.x1, .int .i64 A.y1])] := I.next b; (try clear F); have F := I.2; simp only [KB, CellsAt, Nat.zero_add, Nat.reduceAdd, and_true] at F)) | (go_at_call 18; ((with_reducible refine (R _).mono ?_); rintro e wr ⟨rfl, b⟩; have I : Known w wr [(wt.heap.size, [.int .i64 TQ.x0, .int .i64 TQ.y0, .int .i64 TQ.x1, .int .i64 TQ.y1]), (w.heap.size + 1, [.int .i64 B.x0, .int .i64 B.y0, .int .i64 B.x1, .int .i64 B.y1]), (w.heap.size, [.int .i64 A.x0, .int .i64 A.y0, .int .i64 A.x1, .int .i64 A.y1])] := (I.new _ _).next b; (try clear F); have F := I.2; simp only [KB, CellsAt, Nat.zero_add, Nat.reduceAdd, and_true] at F)) | (go_at_call 16; ((with_reducible refine (M _).mono ?_); rintro e wv ⟨rfl, b⟩; have I : Known w wv [(wr.heap.size, [.int .i64 TQ.x0, .int .i64 TQ.y0, .int .i64 TQ.x1, .int .i64 TQ.y1]), (wt.heap.size, [.int .i64 TQ.x0, .int .i64 TQ.y0, .int .i64 TQ.x1, .int .i64 TQ.y1]), (w.heap.size + 1, [.int .i64 B.x0, .int .i64 B.y0, .int .i64 B.x1, .int .i64 B.y1]), (w.heap.size, [.int .i64 A.x0, .int .i64 A.y0, .int .i64 A.x1, .int .i64 A.y1])] := (I.new _ _).next b; (try clear F); have F := I.2; simp only [KB, CellsAt, Nat.zero_add, Nat.reduceAdd, and_true] at F)))
    have Iv := I
    have n_wv : ¬ w.heap.size = wv.heap.size := (by omega)
    have m_wv : ¬ wv.heap.size = w.heap.size := (by omega)
    go_region_held3 (fun w' => w'.cell? ⟨w.heap.size, 0, none⟩ = some (.int .i64 A.x0) ∧ w'.cell? ⟨w.heap.size, 1, none⟩ = some (.int .i64 A.y0) ∧ w'.cell? ⟨w.heap.size, 2, none⟩ = some (.int .i64 A.x1) ∧ w'.cell? ⟨w.heap.size, 3, none⟩ = some (.int .i64 A.y1)) (first | (refine ⟨?_, ?_, ?_, ?_⟩ <;> go_simp)) (first | (go_at_call 12; ((with_reducible refine (O _).mono ?_); rintro e wo ⟨rfl, b⟩; (first | have I : Known w wo [(wr.heap.size, [.int .i64 TQ.x0, .int .i64 TQ.y0, .int .i64 TQ.x1, .int .i64 TQ.y1]), (wt.heap.size, [.int .i64 TQ.x0, .int .i64 TQ.y0, .int .i64 TQ.x1, .int .i64 TQ.y1]), (w.heap.size + 1, [.int .i64 B.x0, .int .i64 B.y0, .int .i64 B.x1, .int .i64 B.y1]), (w.heap.size, [.int .i64 A.x0, .int .i64 A.y0, .int .i64 A.x1, .int .i64 A.y1])] := I.drew.next b | have I := I.next b | have I : Known w wo [(wv.heap.size, [.int .i64 0, .int .i64 0, .int .i64 0, .int .i64 0]), (wr.heap.size, [.int .i64 TQ.x0, .int .i64 TQ.y0, .int .i64 TQ.x1, .int .i64 TQ.y1]), (wt.heap.size, [.int .i64 TQ.x0, .int .i64 TQ.y0, .int .i64 TQ.x1, .int .i64 TQ.y1]), (w.heap.size + 1, [.int .i64 B.x0, .int .i64 B.y0, .int .i64 B.x1, .int .i64 B.y1]), (w.heap.size, [.int .i64 A.x0, .int .i64 A.y0, .int .i64 A.x1, .int .i64 A.y1])] := (I.drew.new _ _).next b | have I : Known w wo [(wo.heap.size, [.int .i64 0, .int .i64 0, .int .i64 0, .int .i64 0]), (wr.heap.size, [.int .i64 TQ.x0, .int .i64 TQ.y0, .int .i64 TQ.x1, .int .i64 TQ.y1]), (wt.heap.size, [.int .i64 TQ.x0, .int .i64 TQ.y0, .int .i64 TQ.x1, .int .i64 TQ.y1]), (w.heap.size + 1, [.int .i64 B.x0, .int .i64 B.y0, .int .i64 B.x1, .int .i64 B.y1]), (w.heap.size, [.int .i64 A.x0, .int .i64 A.y0, .int .i64 A.x1, .int .i64 A.y1])] := (I.new _ _).next b | fail); (try clear F); have F := I.2; simp only [KB, CellsAt, Nat.zero_add, Nat.reduceAdd, and_true] at F; (first | have Bv : Below wv.heap.size wv wo := below_next ((Below.refl _ _).drew) b | have Bv : Below wv.heap.size wv wo := below_next ((Below.refl _ _).drew.alloc (Nat.le_refl _) _) b | have Bv : Below wv.heap.size wv wo := below_next Bv b | have Bv : Below wv.heap.size wv wo := below_next (Bv.alloc Bv.size _) b | fail); have z_wo : wv.heap.size ≤ wo.heap.size := Bv.size; have n_wo : ¬ w.heap.size = wo.heap.size := (by omega); have m_wo : ¬ wo.heap.size = w.heap.size := (by omega))) | (go_at_call 17; ((with_reducible refine (C _).mono ?_); rintro e wc ⟨rfl, b⟩; (first | have I : Known w wc [(wr.heap.size, [.int .i64 TQ.x0, .int .i64 TQ.y0, .int .i64 TQ.x1, .int .i64 TQ.y1]), (wt.heap.size, [.int .i64 TQ.x0, .int .i64 TQ.y0, .int .i64 TQ.x1, .int .i64 TQ.y1]), (w.heap.size + 1, [.int .i64 B.x0, .int .i64 B.y0, .int .i64 B.x1, .int .i64 B.y1]), (w.heap.size, [.int .i64 A.x0, .int .i64 A.y0, .int .i64 A.x1, .int .i64 A.y1])] := I.drew.next b | have I := I.next b | have I : Known w wc [(wv.heap.size, [.int .i64 0, .int .i64 0, .int .i64 0, .int .i64 0]), (wr.heap.size, [.int .i64 TQ.x0, .int .i64 TQ.y0, .int .i64 TQ.x1, .int .i64 TQ.y1]), (wt.heap.size, [.int .i64 TQ.x0, .int .i64 TQ.y0, .int .i64 TQ.x1, .int .i64 TQ.y1]), (w.heap.size + 1, [.int .i64 B.x0, .int .i64 B.y0, .int .i64 B.x1, .int .i64 B.y1]), (w.heap.size, [.int .i64 A.x0, .int .i64 A.y0, .int .i64 A.x1, .int .i64 A.y1])] := (I.drew.new _ _).next b | have I : Known w wc [(wo.heap.size, [.int .i64 0, .int .i64 0, .int .i64 0, .int .i64 0]), (wr.heap.size, [.int .i64 TQ.x0, .int .i64 TQ.y0, .int .i64 TQ.x1, .int .i64 TQ.y1]), (wt.heap.size, [.int .i64 TQ.x0, .int .i64 TQ.y0, .int .i64 TQ.x1, .int .i64 TQ.y1]), (w.heap.size + 1, [.int .i64 B.x0, .int .i64 B.y0, .int .i64 B.x1, .int .i64 B.y1]), (w.heap.size, [.int .i64 A.x0, .int .i64 A.y0, .int .i64 A.x1, .int .i64 A.y1])] := (I.new _ _).next b | fail); (try clear F); have F := I.2; simp only [KB, CellsAt, Nat.zero_add, Nat.reduceAdd, and_true] at F; (first | have Bv : Below wv.heap.size wv wc := below_next ((Below.refl _ _).drew) b | have Bv : Below wv.heap.size wv wc := below_next ((Below.refl _ _).drew.alloc (Nat.le_refl _) _) b | have Bv : Below wv.heap.size wv wc := below_next Bv b | have Bv : Below wv.heap.size wv wc := below_next (Bv.alloc Bv.size _) b | fail); have z_wc : wv.heap.size ≤ wc.heap.size := Bv.size; have n_wc : ¬ w.heap.size = wc.heap.size := (by omega); have m_wc : ¬ wc.heap.size = w.heap.size := (by omega))))
    all_goals go_wp2_with (first | (go_at_call 14; ((with_reducible refine (L _).mono ?_); rintro e wl ⟨rfl, b⟩; (first | have I : Known w wl [(wv.heap.size, [.int .i64 CQ.x0, .int .i64 CQ.y0, .int .i64 CQ.x1, .int .i64 CQ.y1]), (wr.heap.size, [.int .i64 TQ.x0, .int .i64 TQ.y0, .int .i64 TQ.x1, .int .i64 TQ.y1]), (wt.heap.size, [.int .i64 TQ.x0, .int .i64 TQ.y0, .int .i64 TQ.x1, .int .i64 TQ.y1]), (w.heap.size + 1, [.int .i64 B.x0, .int .i64 B.y0, .int .i64 B.x1, .int .i64 B.y1]), (w.heap.size, [.int .i64 A.x0, .int .i64 A.y0, .int .i64 A.x1, .int .i64 A.y1])] := (Iv.put4 (Nat.le_refl _) Bv I.2.1 I.2.2.1 I.2.2.2.1 _ _ _ _).next b | have I : Known w wl [(wo.heap.size, [.int .i64 CQ.x0, .int .i64 CQ.y0, .int .i64 CQ.x1, .int .i64 CQ.y1]), (wr.heap.size, [.int .i64 TQ.x0, .int .i64 TQ.y0, .int .i64 TQ.x1, .int .i64 TQ.y1]), (wt.heap.size, [.int .i64 TQ.x0, .int .i64 TQ.y0, .int .i64 TQ.x1, .int .i64 TQ.y1]), (w.heap.size + 1, [.int .i64 B.x0, .int .i64 B.y0, .int .i64 B.x1, .int .i64 B.y1]), (w.heap.size, [.int .i64 A.x0, .int .i64 A.y0, .int .i64 A.x1, .int .i64 A.y1])] := (Iv.put4 z_wo Bv I.2.1 I.2.2.1 I.2.2.2.1 _ _ _ _).next b | have I : Known w wl [(wc.heap.size, [.int .i64 CQ.x0, .int .i64 CQ.y0, .int .i64 CQ.x1, .int .i64 CQ.y1]), (wr.heap.size, [.int .i64 TQ.x0, .int .i64 TQ.y0, .int .i64 TQ.x1, .int .i64 TQ.y1]), (wt.heap.size, [.int .i64 TQ.x0, .int .i64 TQ.y0, .int .i64 TQ.x1, .int .i64 TQ.y1]), (w.heap.size + 1, [.int .i64 B.x0, .int .i64 B.y0, .int .i64 B.x1, .int .i64 B.y1]), (w.heap.size, [.int .i64 A.x0, .int .i64 A.y0, .int .i64 A.x1, .int .i64 A.y1])] := (I.new _ _).next b | fail); (try clear F); have F := I.2; simp only [KB, CellsAt, Nat.zero_add, Nat.reduceAdd, and_true] at F)) | (go_at_call 19; ((with_reducible refine (D _).mono ?_); rintro e wd ⟨rfl, b⟩; have I := I.next b; (try clear F); have F := I.2; simp only [KB, CellsAt, Nat.zero_add, Nat.reduceAdd, and_true] at F)) | (go_at_call 16; ((with_reducible refine (M _).mono ?_); rintro e wf ⟨rfl, b⟩; have I := I.next b; (try clear F); have F := I.2; simp only [KB, CellsAt, Nat.zero_add, Nat.reduceAdd, and_true] at F)))
    all_goals go_ret
    all_goals exact ⟨rfl, I.1⟩
  · have t1 := then_one A hm
    obtain ⟨CQ, hCQ⟩ : ∃ Z : Q, Z = A := ⟨_, rfl⟩
    have C : ∀ w, Calls Try.prog 17 #[.agg #[.int .i64 A.x0, .int .i64 A.y0, .int .i64 A.x1, .int .i64 A.y1], .agg #[.int .i64 oneQ.x0, .int .i64 oneQ.y0, .int .i64 oneQ.x1, .int .i64 oneQ.y1]] w (fun e w' => e = .returned (.tuple #[.agg #[.int .i64 CQ.x0, .int .i64 CQ.y0, .int .i64 CQ.x1, .int .i64 CQ.y1], .int .i64 0]) ∧ Below w.heap.size w w') := fun w => by
      have := then_any A oneQ w
      rw [t1.1, t1.2] at this
      rw [hCQ]; exact this
    have q3 : ∀ w, (binOp .eql 23 (.agg #[.int .i64 CQ.x0, .int .i64 CQ.y0, .int .i64 CQ.x1, .int .i64 CQ.y1]) (.agg #[.int .i64 A.x0, .int .i64 A.y0, .int .i64 A.x1, .int .i64 A.y1])).run Try.prog w = .ok (.bool true) w := fun w => by rw [hCQ, eqM_run, eq4_self]
    have q4 : ∀ x y w, (eqGuard .eql 23 x y (.agg #[.int .i64 CQ.x0, .int .i64 CQ.y0, .int .i64 CQ.x1, .int .i64 CQ.y1]) (.agg #[.int .i64 A.x0, .int .i64 A.y0, .int .i64 A.x1, .int .i64 A.y1])).run Try.prog w = .ok () w := fun x y w => by rw [hCQ]; exact eqM_guard _ _ _ _ _ _ _ _ x y w
    clear hCQ
    rw [hm] at M
    unfold detV at D
    rw [hm, if_pos rfl] at D
    unfold fitM at hm
    simp only [Bool.and_eq_true] at hm
    have a1 := fitB_lo hm.1.1.1
    have a2 := fitB_hi hm.1.1.1
    have b1 := fitB_lo hm.1.1.2
    have b2 := fitB_hi hm.1.1.2
    have c1 := fitB_lo hm.1.2
    have c2 := fitB_hi hm.1.2
    have d1 := fitB_lo hm.2
    have d2 := fitB_hi hm.2
    obtain ⟨p1, p2⟩ := mul_bound (a := A.x0) (b := A.y1) 32768 32768 (by omega) (by omega) (by omega) (by omega)
    obtain ⟨p3, p4⟩ := mul_bound (a := A.y0) (b := A.x1) 32768 32768 (by omega) (by omega) (by omega) (by omega)
    simp only [show ((32768 * 32768 : Nat) : Int) = 1073741824 from rfl] at p1 p2 p3 p4
    clear hm a1 a2 b1 b2 c1 c2 d1 d2 t1
    go_enter Try.func4, Try.ntmps4
    have I : Known w ((w.alloc (.cells #[.int .i64 A.x0, .int .i64 A.y0, .int .i64 A.x1, .int .i64 A.y1] 23)).alloc (.cells #[.int .i64 B.x0, .int .i64 B.y0, .int .i64 B.x1, .int .i64 B.y1] 23)) [(w.heap.size + 1, [.int .i64 B.x0, .int .i64 B.y0, .int .i64 B.x1, .int .i64 B.y1]), (w.heap.size, [.int .i64 A.x0, .int .i64 A.y0, .int .i64 A.x1, .int .i64 A.y1])] := by simpa using ((Known.start w).new #[.int .i64 A.x0, .int .i64 A.y0, .int .i64 A.x1, .int .i64 A.y1] 23).new #[.int .i64 B.x0, .int .i64 B.y0, .int .i64 B.x1, .int .i64 B.y1] 23
    have F := I.2
    simp only [KB, CellsAt, Nat.zero_add, Nat.reduceAdd, and_true] at F
    go_wp2_with (first | (go_at_call 17; ((with_reducible refine (P _).mono ?_); rintro e wt ⟨rfl, b⟩; have I : Known w wt [(w.heap.size + 1, [.int .i64 B.x0, .int .i64 B.y0, .int .i64 B.x1, .int .i64 B.y1]), (w.heap.size, [.int .i64 A.x0, .int .i64 A.y0, .int .i64 A.x1, .int .i64 A.y1])] := I.next b; (try clear F); have F := I.2; simp only [KB, CellsAt, Nat.zero_add, Nat.reduceAdd, and_true] at F)) | (go_at_call 18; ((with_reducible refine (R _).mono ?_); rintro e wr ⟨rfl, b⟩; have I : Known w wr [(wt.heap.size, [.int .i64 TQ.x0, .int .i64 TQ.y0, .int .i64 TQ.x1, .int .i64 TQ.y1]), (w.heap.size + 1, [.int .i64 B.x0, .int .i64 B.y0, .int .i64 B.x1, .int .i64 B.y1]), (w.heap.size, [.int .i64 A.x0, .int .i64 A.y0, .int .i64 A.x1, .int .i64 A.y1])] := (I.new _ _).next b; (try clear F); have F := I.2; simp only [KB, CellsAt, Nat.zero_add, Nat.reduceAdd, and_true] at F)) | (go_at_call 16; ((with_reducible refine (M _).mono ?_); rintro e wv ⟨rfl, b⟩; have I : Known w wv [(wr.heap.size, [.int .i64 TQ.x0, .int .i64 TQ.y0, .int .i64 TQ.x1, .int .i64 TQ.y1]), (wt.heap.size, [.int .i64 TQ.x0, .int .i64 TQ.y0, .int .i64 TQ.x1, .int .i64 TQ.y1]), (w.heap.size + 1, [.int .i64 B.x0, .int .i64 B.y0, .int .i64 B.x1, .int .i64 B.y1]), (w.heap.size, [.int .i64 A.x0, .int .i64 A.y0, .int .i64 A.x1, .int .i64 A.y1])] := (I.new _ _).next b; (try clear F); have F := I.2; simp only [KB, CellsAt, Nat.zero_add, Nat.reduceAdd, and_true] at F)))
    have Iv := I
    have n_wv : ¬ w.heap.size = wv.heap.size := (by omega)
    have m_wv : ¬ wv.heap.size = w.heap.size := (by omega)
    go_region_held3 (fun w' => w'.cell? ⟨w.heap.size, 0, none⟩ = some (.int .i64 A.x0) ∧ w'.cell? ⟨w.heap.size, 1, none⟩ = some (.int .i64 A.y0) ∧ w'.cell? ⟨w.heap.size, 2, none⟩ = some (.int .i64 A.x1) ∧ w'.cell? ⟨w.heap.size, 3, none⟩ = some (.int .i64 A.y1)) (first | (refine ⟨?_, ?_, ?_, ?_⟩ <;> go_simp)) (first | (go_at_call 12; ((with_reducible refine (O _).mono ?_); rintro e wo ⟨rfl, b⟩; (first | have I : Known w wo [(wr.heap.size, [.int .i64 TQ.x0, .int .i64 TQ.y0, .int .i64 TQ.x1, .int .i64 TQ.y1]), (wt.heap.size, [.int .i64 TQ.x0, .int .i64 TQ.y0, .int .i64 TQ.x1, .int .i64 TQ.y1]), (w.heap.size + 1, [.int .i64 B.x0, .int .i64 B.y0, .int .i64 B.x1, .int .i64 B.y1]), (w.heap.size, [.int .i64 A.x0, .int .i64 A.y0, .int .i64 A.x1, .int .i64 A.y1])] := I.drew.next b | have I := I.next b | have I : Known w wo [(wv.heap.size, [.int .i64 0, .int .i64 0, .int .i64 0, .int .i64 0]), (wr.heap.size, [.int .i64 TQ.x0, .int .i64 TQ.y0, .int .i64 TQ.x1, .int .i64 TQ.y1]), (wt.heap.size, [.int .i64 TQ.x0, .int .i64 TQ.y0, .int .i64 TQ.x1, .int .i64 TQ.y1]), (w.heap.size + 1, [.int .i64 B.x0, .int .i64 B.y0, .int .i64 B.x1, .int .i64 B.y1]), (w.heap.size, [.int .i64 A.x0, .int .i64 A.y0, .int .i64 A.x1, .int .i64 A.y1])] := (I.drew.new _ _).next b | have I : Known w wo [(wo.heap.size, [.int .i64 0, .int .i64 0, .int .i64 0, .int .i64 0]), (wr.heap.size, [.int .i64 TQ.x0, .int .i64 TQ.y0, .int .i64 TQ.x1, .int .i64 TQ.y1]), (wt.heap.size, [.int .i64 TQ.x0, .int .i64 TQ.y0, .int .i64 TQ.x1, .int .i64 TQ.y1]), (w.heap.size + 1, [.int .i64 B.x0, .int .i64 B.y0, .int .i64 B.x1, .int .i64 B.y1]), (w.heap.size, [.int .i64 A.x0, .int .i64 A.y0, .int .i64 A.x1, .int .i64 A.y1])] := (I.new _ _).next b | fail); (try clear F); have F := I.2; simp only [KB, CellsAt, Nat.zero_add, Nat.reduceAdd, and_true] at F; (first | have Bv : Below wv.heap.size wv wo := below_next ((Below.refl _ _).drew) b | have Bv : Below wv.heap.size wv wo := below_next ((Below.refl _ _).drew.alloc (Nat.le_refl _) _) b | have Bv : Below wv.heap.size wv wo := below_next Bv b | have Bv : Below wv.heap.size wv wo := below_next (Bv.alloc Bv.size _) b | fail); have z_wo : wv.heap.size ≤ wo.heap.size := Bv.size; have n_wo : ¬ w.heap.size = wo.heap.size := (by omega); have m_wo : ¬ wo.heap.size = w.heap.size := (by omega))) | (go_at_call 17; ((with_reducible refine (C _).mono ?_); rintro e wc ⟨rfl, b⟩; (first | have I : Known w wc [(wr.heap.size, [.int .i64 TQ.x0, .int .i64 TQ.y0, .int .i64 TQ.x1, .int .i64 TQ.y1]), (wt.heap.size, [.int .i64 TQ.x0, .int .i64 TQ.y0, .int .i64 TQ.x1, .int .i64 TQ.y1]), (w.heap.size + 1, [.int .i64 B.x0, .int .i64 B.y0, .int .i64 B.x1, .int .i64 B.y1]), (w.heap.size, [.int .i64 A.x0, .int .i64 A.y0, .int .i64 A.x1, .int .i64 A.y1])] := I.drew.next b | have I := I.next b | have I : Known w wc [(wv.heap.size, [.int .i64 0, .int .i64 0, .int .i64 0, .int .i64 0]), (wr.heap.size, [.int .i64 TQ.x0, .int .i64 TQ.y0, .int .i64 TQ.x1, .int .i64 TQ.y1]), (wt.heap.size, [.int .i64 TQ.x0, .int .i64 TQ.y0, .int .i64 TQ.x1, .int .i64 TQ.y1]), (w.heap.size + 1, [.int .i64 B.x0, .int .i64 B.y0, .int .i64 B.x1, .int .i64 B.y1]), (w.heap.size, [.int .i64 A.x0, .int .i64 A.y0, .int .i64 A.x1, .int .i64 A.y1])] := (I.drew.new _ _).next b | have I : Known w wc [(wo.heap.size, [.int .i64 0, .int .i64 0, .int .i64 0, .int .i64 0]), (wr.heap.size, [.int .i64 TQ.x0, .int .i64 TQ.y0, .int .i64 TQ.x1, .int .i64 TQ.y1]), (wt.heap.size, [.int .i64 TQ.x0, .int .i64 TQ.y0, .int .i64 TQ.x1, .int .i64 TQ.y1]), (w.heap.size + 1, [.int .i64 B.x0, .int .i64 B.y0, .int .i64 B.x1, .int .i64 B.y1]), (w.heap.size, [.int .i64 A.x0, .int .i64 A.y0, .int .i64 A.x1, .int .i64 A.y1])] := (I.new _ _).next b | fail); (try clear F); have F := I.2; simp only [KB, CellsAt, Nat.zero_add, Nat.reduceAdd, and_true] at F; (first | have Bv : Below wv.heap.size wv wc := below_next ((Below.refl _ _).drew) b | have Bv : Below wv.heap.size wv wc := below_next ((Below.refl _ _).drew.alloc (Nat.le_refl _) _) b | have Bv : Below wv.heap.size wv wc := below_next Bv b | have Bv : Below wv.heap.size wv wc := below_next (Bv.alloc Bv.size _) b | fail); have z_wc : wv.heap.size ≤ wc.heap.size := Bv.size; have n_wc : ¬ w.heap.size = wc.heap.size := (by omega); have m_wc : ¬ wc.heap.size = w.heap.size := (by omega))))
    all_goals go_wp2_with (first | (go_at_call 14; ((with_reducible refine (L _).mono ?_); rintro e wl ⟨rfl, b⟩; (first | have I : Known w wl [(wv.heap.size, [.int .i64 CQ.x0, .int .i64 CQ.y0, .int .i64 CQ.x1, .int .i64 CQ.y1]), (wr.heap.size, [.int .i64 TQ.x0, .int .i64 TQ.y0, .int .i64 TQ.x1, .int .i64 TQ.y1]), (wt.heap.size, [.int .i64 TQ.x0, .int .i64 TQ.y0, .int .i64 TQ.x1, .int .i64 TQ.y1]), (w.heap.size + 1, [.int .i64 B.x0, .int .i64 B.y0, .int .i64 B.x1, .int .i64 B.y1]), (w.heap.size, [.int .i64 A.x0, .int .i64 A.y0, .int .i64 A.x1, .int .i64 A.y1])] := (Iv.put4 (Nat.le_refl _) Bv I.2.1 I.2.2.1 I.2.2.2.1 _ _ _ _).next b | have I : Known w wl [(wo.heap.size, [.int .i64 CQ.x0, .int .i64 CQ.y0, .int .i64 CQ.x1, .int .i64 CQ.y1]), (wr.heap.size, [.int .i64 TQ.x0, .int .i64 TQ.y0, .int .i64 TQ.x1, .int .i64 TQ.y1]), (wt.heap.size, [.int .i64 TQ.x0, .int .i64 TQ.y0, .int .i64 TQ.x1, .int .i64 TQ.y1]), (w.heap.size + 1, [.int .i64 B.x0, .int .i64 B.y0, .int .i64 B.x1, .int .i64 B.y1]), (w.heap.size, [.int .i64 A.x0, .int .i64 A.y0, .int .i64 A.x1, .int .i64 A.y1])] := (Iv.put4 z_wo Bv I.2.1 I.2.2.1 I.2.2.2.1 _ _ _ _).next b | have I : Known w wl [(wc.heap.size, [.int .i64 CQ.x0, .int .i64 CQ.y0, .int .i64 CQ.x1, .int .i64 CQ.y1]), (wr.heap.size, [.int .i64 TQ.x0, .int .i64 TQ.y0, .int .i64 TQ.x1, .int .i64 TQ.y1]), (wt.heap.size, [.int .i64 TQ.x0, .int .i64 TQ.y0, .int .i64 TQ.x1, .int .i64 TQ.y1]), (w.heap.size + 1, [.int .i64 B.x0, .int .i64 B.y0, .int .i64 B.x1, .int .i64 B.y1]), (w.heap.size, [.int .i64 A.x0, .int .i64 A.y0, .int .i64 A.x1, .int .i64 A.y1])] := (I.new _ _).next b | fail); (try clear F); have F := I.2; simp only [KB, CellsAt, Nat.zero_add, Nat.reduceAdd, and_true] at F)) | (go_at_call 19; ((with_reducible refine (D _).mono ?_); rintro e wd ⟨rfl, b⟩; have I := I.next b; (try clear F); have F := I.2; simp only [KB, CellsAt, Nat.zero_add, Nat.reduceAdd, and_true] at F)) | (go_at_call 16; ((with_reducible refine (M _).mono ?_); rintro e wf ⟨rfl, b⟩; have I := I.next b; (try clear F); have F := I.2; simp only [KB, CellsAt, Nat.zero_add, Nat.reduceAdd, and_true] at F)))
    all_goals go_ret
    all_goals exact ⟨rfl, I.1⟩

set_option linter.unusedVariables false in
set_option maxRecDepth 100000 in
theorem lifted (os : Os) (started : os.Started) (H : Type) (enc : TypeId × Value → H) :
    ReturnsInHanded {} Try.checked os 4 .any (Rows.affineThensSpec.pre6 enc Try.prog Try.f4 Rows.affineThensRow.domain false) (Rows.affineThensSpec.post enc Try.prog Try.f4 false true false false) := by
  refine returnsInHanded_of_change (C := Try.checked) Try.own started (by kernel_rfl) Try.func4
    (ChangeSpec.witness6 (enc := enc) (C := Try.checked) false ⟨#[], #[.agg #[.int .i64 0, .int .i64 0, .int .i64 0, .int .i64 0], .agg #[.int .i64 0, .int .i64 0, .int .i64 0, .int .i64 0]], []⟩ 8 (by kernel_rfl) (by kernel_rfl) (by kernel_rfl) (by kernel_rfl)) ?_
  intro W base args ds gs before hval0 hW hcnd _
  have hval : ∀ (j : Nat) t v, Try.f4.params[j]? = some t → args[j]? = some v → Value.okWide Try.prog W .any base t v := hval0
  have hW' := hW
  obtain ⟨p, q, hA0, hV, rfl, hfz, hnd⟩ := hW
  have hA : DataW.TrodAll enc Try.prog W 0 (fun _ => true) true Try.f4.params.toList args.toList ds p := hA0
  rw [Try.params4] at hA hval
  obtain ⟨v0, vs0, d0, ds0, p0, q0, hargs, rfl, rfl, h0, r0⟩ := trodAll_cons hA
  obtain ⟨v1, vs1, d1, ds1, p1, q1, rfl, rfl, rfl, h1, r1⟩ := trodAll_cons r0
  obtain ⟨rfl, rfl, rfl⟩ := trodAll_nil r1
  obtain rfl : args = #[v0, v1] := by cases args; simp_all
  obtain ⟨rfl, rfl⟩ := trodVars_none hV
  obtain ⟨a0, b0, c0, e0, rfl, wa0, wb0, wc0, we0⟩ := open_four Try.underlying23 (by kernel_rfl) Try.cellsM Try.underlying3 Try.underlying3 Try.underlying3 Try.underlying3 (hval 0 23 v0 rfl rfl) h0
  obtain ⟨a1, b1, c1, e1, rfl, wa1, wb1, wc1, we1⟩ := open_four Try.underlying23 (by kernel_rfl) Try.cellsM Try.underlying3 Try.underlying3 Try.underlying3 Try.underlying3 (hval 1 23 v1 rfl rfl) h1
  clear hA0 hval0
  simp only [List.append_nil] at hW'
  refine (walk ⟨a0, b0, c0, e0⟩ ⟨wa0, wb0, wc0, we0⟩ ⟨a1, b1, c1, e1⟩ ⟨wa1, wb1, wc1, we1⟩ W).mono fun e W' ⟨he, hg⟩ => ?_
  subst he
  exact ⟨_, rfl, law_post Try.laidOut rfl Try.underlying4 (by kernel_rfl) rfl rfl rfl rfl hW' hg⟩

theorem over : Rows.affineThensRow.holds Try.pinned (OpenSpec.ofChange Rows.affineThensSpec) :=
  OpenClaim.holds_of_wide 4 Try.f4 rfl rfl rfl rfl rfl rfl rfl ⟨rfl, rfl, rfl, rfl, rfl⟩ rfl rfl rfl rfl rfl (by kernel_rfl) Try.func4 (by kernel_rfl)
    (of_decide_eq_true (by kernel_rfl)) (by unfold Func.isWrapper; first | (rw [if_pos (by decide +kernel)]; kernel_rfl) | (rw [if_neg (by decide +kernel)]; exact ⟨rfl, rfl⟩))
    (fun os started H enc _ => lifted os started H enc)

theorem proved : Rows.AffineThensSaid :=
  over

end Go.Proofs.Ytdbnjlmkbmfhkaa.affineThens
