/- AffineBoxes: join and meet are the document's, and so is which boxes may be and which are empty; for every two boxes. -/
import Derived.Test.YtpodlcjahfdpmaaLaw4
import Derived.Test.YtpodlcjahfdpmaaLives2
import Derived.Test.YtpodlcjahfdpmaaBox7
namespace Go.Proofs.Ytpodlcjahfdpmaa.affineBoxes
open Go.ChangeShapes Go.WideShapes Go.ChangeAt Go.RowKit

theorem eq4_self (A : Q) : eq4 A.x0 A.y0 A.x1 A.y1 A.x0 A.y0 A.x1 A.y1 = true := by unfold eq4; simp
theorem dr_at {A : Q} {w : World} {bk : Nat} (h : w.cell? ⟨bk, 0, none⟩ = some (.int .i64 A.x0) ∧ w.cell? ⟨bk, 1, none⟩ = some (.int .i64 A.y0) ∧ w.cell? ⟨bk, 2, none⟩ = some (.int .i64 A.x1) ∧ w.cell? ⟨bk, 3, none⟩ = some (.int .i64 A.y1)) : w.drew.cell? ⟨bk, 0, none⟩ = some (.int .i64 A.x0) ∧ w.drew.cell? ⟨bk, 1, none⟩ = some (.int .i64 A.y0) ∧ w.drew.cell? ⟨bk, 2, none⟩ = some (.int .i64 A.x1) ∧ w.drew.cell? ⟨bk, 3, none⟩ = some (.int .i64 A.y1) := h

set_option linter.unusedVariables false in
set_option maxHeartbeats 8000000 in
theorem walk (A : Q) (hwA : ((Lit.int .i64 A.x0).wf = true ∧ (Lit.int .i64 A.y0).wf = true ∧ (Lit.int .i64 A.x1).wf = true ∧ (Lit.int .i64 A.y1).wf = true)) (B : Q) (hwB : ((Lit.int .i64 B.x0).wf = true ∧ (Lit.int .i64 B.y0).wf = true ∧ (Lit.int .i64 B.x1).wf = true ∧ (Lit.int .i64 B.y1).wf = true)) (w : World) :
    Calls Try.prog 12 #[.agg #[.int .i64 A.x0, .int .i64 A.y0, .int .i64 A.x1, .int .i64 A.y1], .agg #[.int .i64 B.x0, .int .i64 B.y0, .int .i64 B.x1, .int .i64 B.y1]] w fun e w' => e = .returned (.bool true) ∧ Below w.heap.size w w' := by
  clear hwA hwB
  have L := fun w => lives2 w
  have P1 := fun w => mayBox_any A w
  have P2 := fun w => rmayQ_any A w
  have P3 := fun w => empty_any A w
  have P4 := fun w => rempty_any A w
  have P5 := fun w => rmayQ_any B w
  have I := In2.start w A B
  obtain ⟨_, ⟨y1, y2⟩, hA, hB, f1, f2⟩ := id I
  obtain ⟨JQ, hJQ⟩ : ∃ Z : Q, Z = zeroQ := ⟨_, rfl⟩
  obtain ⟨MQ, hMQ⟩ : ∃ Z : Q, Z = zeroQ := ⟨_, rfl⟩
  cases hA' : mayQ A
  · have J : ∀ w, Calls Try.prog 50 #[.agg #[.int .i64 A.x0, .int .i64 A.y0, .int .i64 A.x1, .int .i64 A.y1], .agg #[.int .i64 B.x0, .int .i64 B.y0, .int .i64 B.x1, .int .i64 B.y1]] w (fun e w' => e = .returned (.tuple #[.agg #[.int .i64 JQ.x0, .int .i64 JQ.y0, .int .i64 JQ.x1, .int .i64 JQ.y1], .int .i64 10]) ∧ Below w.heap.size w w') := fun w => by rw [hJQ]; exact join_no1 A B w hA'
    have M : ∀ w, Calls Try.prog 51 #[.agg #[.int .i64 A.x0, .int .i64 A.y0, .int .i64 A.x1, .int .i64 A.y1], .agg #[.int .i64 B.x0, .int .i64 B.y0, .int .i64 B.x1, .int .i64 B.y1]] w (fun e w' => e = .returned (.tuple #[.agg #[.int .i64 MQ.x0, .int .i64 MQ.y0, .int .i64 MQ.x1, .int .i64 MQ.y1], .int .i64 10]) ∧ Below w.heap.size w w') := fun w => by rw [hMQ]; exact meet_no1 A B w hA'
    have q1 := fun w => eqB_run JQ.x0 JQ.y0 JQ.x1 JQ.y1 0 0 0 0 w
    have q2 := fun x y w => eqB_guard JQ.x0 JQ.y0 JQ.x1 JQ.y1 0 0 0 0 x y w
    have q3 := fun w => eqB_run MQ.x0 MQ.y0 MQ.x1 MQ.y1 0 0 0 0 w
    have q4 := fun x y w => eqB_guard MQ.x0 MQ.y0 MQ.x1 MQ.y1 0 0 0 0 x y w
    rw [show eq4 JQ.x0 JQ.y0 JQ.x1 JQ.y1 0 0 0 0 = true by rw [hJQ]; rfl] at q1
    rw [show eq4 MQ.x0 MQ.y0 MQ.x1 MQ.y1 0 0 0 0 = true by rw [hMQ]; rfl] at q3
    clear hJQ hMQ
    rw [hA'] at P1 P2
    clear hA'
    cases hE : emptyQ A
    all_goals
      rw [hE] at P3 P4
      clear hE
      go_enter Try.func12, Try.ntmps12
      go_wp2_with (first | (go_at_call 50; ((with_reducible refine (J _).mono ?_); rintro e wj ⟨rfl, b⟩; (first | have I := I.next b | have I := (In2.drewN I 1).next b); obtain ⟨_, ⟨y1, y2⟩, hA, hB, f1, f2⟩ := id I)) | (go_at_call 51; ((with_reducible refine (M _).mono ?_); rintro e wm ⟨rfl, b⟩; have hJ : wm.cell? ⟨wj.heap.size, 0, none⟩ = some (.int .i64 JQ.x0) ∧ wm.cell? ⟨wj.heap.size, 1, none⟩ = some (.int .i64 JQ.y0) ∧ wm.cell? ⟨wj.heap.size, 2, none⟩ = some (.int .i64 JQ.x1) ∧ wm.cell? ⟨wj.heap.size, 3, none⟩ = some (.int .i64 JQ.y1) := at_next (A := JQ) b (by simp) (by refine ⟨?_, ?_, ?_, ?_⟩ <;> go_simp); have zJ : wj.heap.size < wm.heap.size := lt_next b (by simp); have I := (I.alloc _).next b; obtain ⟨_, ⟨y1, y2⟩, hA, hB, f1, f2⟩ := id I)))
      (go_region_held3 (fun w' => w'.cell? ⟨w.heap.size, 0, none⟩ = some (.int .i64 A.x0) ∧ w'.cell? ⟨w.heap.size, 1, none⟩ = some (.int .i64 A.y0) ∧ w'.cell? ⟨w.heap.size, 2, none⟩ = some (.int .i64 A.x1) ∧ w'.cell? ⟨w.heap.size, 3, none⟩ = some (.int .i64 A.y1) ∧ w'.cell? ⟨w.heap.size + 1, 0, none⟩ = some (.int .i64 B.x0) ∧ w'.cell? ⟨w.heap.size + 1, 1, none⟩ = some (.int .i64 B.y0) ∧ w'.cell? ⟨w.heap.size + 1, 2, none⟩ = some (.int .i64 B.x1) ∧ w'.cell? ⟨w.heap.size + 1, 3, none⟩ = some (.int .i64 B.y1)) (go_keep) (first | (go_at_call 44; ((with_reducible refine (L _).mono ?_); rintro e wl ⟨rfl, b⟩; have hJ : wl.cell? ⟨wj.heap.size, 0, none⟩ = some (.int .i64 JQ.x0) ∧ wl.cell? ⟨wj.heap.size, 1, none⟩ = some (.int .i64 JQ.y0) ∧ wl.cell? ⟨wj.heap.size, 2, none⟩ = some (.int .i64 JQ.x1) ∧ wl.cell? ⟨wj.heap.size, 3, none⟩ = some (.int .i64 JQ.y1) := at_next (A := JQ) b (by first | omega | (simp; done) | (simp; omega)) (dr_at (A := JQ) (at_next (A := JQ) (below_a1 _ _) zJ hJ)); have hM : wl.cell? ⟨wm.heap.size, 0, none⟩ = some (.int .i64 MQ.x0) ∧ wl.cell? ⟨wm.heap.size, 1, none⟩ = some (.int .i64 MQ.y0) ∧ wl.cell? ⟨wm.heap.size, 2, none⟩ = some (.int .i64 MQ.x1) ∧ wl.cell? ⟨wm.heap.size, 3, none⟩ = some (.int .i64 MQ.y1) := at_next (A := MQ) b (by simp) (by refine ⟨?_, ?_, ?_, ?_⟩ <;> go_simp); have zJ : wj.heap.size < wl.heap.size := lt_next b (by first | omega | (simp; done) | (simp; omega)); have zM : wm.heap.size < wl.heap.size := lt_next b (by simp); have I := ((I.alloc _).drewN 1).next b; obtain ⟨_, ⟨y1, y2⟩, hA, hB, f1, f2⟩ := id I)) | (go_at_call 52; ((with_reducible refine (P1 _).mono ?_); rintro e wl ⟨rfl, b⟩; (first | have hJ := at_next (A := JQ) b zJ hJ | have hJ := at_next (A := JQ) b zJ (dr_at (A := JQ) hJ)); (first | have hM := at_next (A := MQ) b zM hM | have hM := at_next (A := MQ) b zM (dr_at (A := MQ) hM)); have zJ := lt_next b zJ; have zM := lt_next b zM; (first | have I := I.next b | have I := (In2.drewN I 1).next b); obtain ⟨_, ⟨y1, y2⟩, hA, hB, f1, f2⟩ := id I)) | (go_at_call 53; ((with_reducible refine (P2 _).mono ?_); rintro e wl ⟨rfl, b⟩; (first | have hJ := at_next (A := JQ) b zJ hJ | have hJ := at_next (A := JQ) b zJ (dr_at (A := JQ) hJ)); (first | have hM := at_next (A := MQ) b zM hM | have hM := at_next (A := MQ) b zM (dr_at (A := MQ) hM)); have zJ := lt_next b zJ; have zM := lt_next b zM; (first | have I := I.next b | have I := (In2.drewN I 1).next b); obtain ⟨_, ⟨y1, y2⟩, hA, hB, f1, f2⟩ := id I)) | (go_at_call 54; ((with_reducible refine (P3 _).mono ?_); rintro e wl ⟨rfl, b⟩; (first | have hJ := at_next (A := JQ) b zJ hJ | have hJ := at_next (A := JQ) b zJ (dr_at (A := JQ) hJ)); (first | have hM := at_next (A := MQ) b zM hM | have hM := at_next (A := MQ) b zM (dr_at (A := MQ) hM)); have zJ := lt_next b zJ; have zM := lt_next b zM; (first | have I := I.next b | have I := (In2.drewN I 1).next b); obtain ⟨_, ⟨y1, y2⟩, hA, hB, f1, f2⟩ := id I)) | (go_at_call 55; ((with_reducible refine (P4 _).mono ?_); rintro e wl ⟨rfl, b⟩; (first | have hJ := at_next (A := JQ) b zJ hJ | have hJ := at_next (A := JQ) b zJ (dr_at (A := JQ) hJ)); (first | have hM := at_next (A := MQ) b zM hM | have hM := at_next (A := MQ) b zM (dr_at (A := MQ) hM)); have zJ := lt_next b zJ; have zM := lt_next b zM; (first | have I := I.next b | have I := (In2.drewN I 1).next b); obtain ⟨_, ⟨y1, y2⟩, hA, hB, f1, f2⟩ := id I))))
      go_wp2_with (first | (go_at_call 53; ((with_reducible refine (P2 _).mono ?_); rintro e wl ⟨rfl, b⟩; (first | have hJ := at_next (A := JQ) b zJ hJ | have hJ := at_next (A := JQ) b zJ (dr_at (A := JQ) hJ)); (first | have hM := at_next (A := MQ) b zM hM | have hM := at_next (A := MQ) b zM (dr_at (A := MQ) hM)); have zJ := lt_next b zJ; have zM := lt_next b zM; (first | have I := I.next b | have I := (In2.drewN I 1).next b); obtain ⟨_, ⟨y1, y2⟩, hA, hB, f1, f2⟩ := id I)) | (go_at_call 53; ((with_reducible refine (P5 _).mono ?_); rintro e wl ⟨rfl, b⟩; (first | have hJ := at_next (A := JQ) b zJ hJ | have hJ := at_next (A := JQ) b zJ (dr_at (A := JQ) hJ)); (first | have hM := at_next (A := MQ) b zM hM | have hM := at_next (A := MQ) b zM (dr_at (A := MQ) hM)); have zJ := lt_next b zJ; have zM := lt_next b zM; (first | have I := I.next b | have I := (In2.drewN I 1).next b); obtain ⟨_, ⟨y1, y2⟩, hA, hB, f1, f2⟩ := id I)))
      all_goals go_ret
      all_goals exact ⟨rfl, I.1⟩
  · cases hB' : mayQ B
    · have J : ∀ w, Calls Try.prog 50 #[.agg #[.int .i64 A.x0, .int .i64 A.y0, .int .i64 A.x1, .int .i64 A.y1], .agg #[.int .i64 B.x0, .int .i64 B.y0, .int .i64 B.x1, .int .i64 B.y1]] w (fun e w' => e = .returned (.tuple #[.agg #[.int .i64 JQ.x0, .int .i64 JQ.y0, .int .i64 JQ.x1, .int .i64 JQ.y1], .int .i64 10]) ∧ Below w.heap.size w w') := fun w => by rw [hJQ]; exact join_no2 A B w hA' hB'
      have M : ∀ w, Calls Try.prog 51 #[.agg #[.int .i64 A.x0, .int .i64 A.y0, .int .i64 A.x1, .int .i64 A.y1], .agg #[.int .i64 B.x0, .int .i64 B.y0, .int .i64 B.x1, .int .i64 B.y1]] w (fun e w' => e = .returned (.tuple #[.agg #[.int .i64 MQ.x0, .int .i64 MQ.y0, .int .i64 MQ.x1, .int .i64 MQ.y1], .int .i64 10]) ∧ Below w.heap.size w w') := fun w => by rw [hMQ]; exact meet_no2 A B w hA' hB'
      have q1 := fun w => eqB_run JQ.x0 JQ.y0 JQ.x1 JQ.y1 0 0 0 0 w
      have q2 := fun x y w => eqB_guard JQ.x0 JQ.y0 JQ.x1 JQ.y1 0 0 0 0 x y w
      have q3 := fun w => eqB_run MQ.x0 MQ.y0 MQ.x1 MQ.y1 0 0 0 0 w
      have q4 := fun x y w => eqB_guard MQ.x0 MQ.y0 MQ.x1 MQ.y1 0 0 0 0 x y w
      rw [show eq4 JQ.x0 JQ.y0 JQ.x1 JQ.y1 0 0 0 0 = true by rw [hJQ]; rfl] at q1
      rw [show eq4 MQ.x0 MQ.y0 MQ.x1 MQ.y1 0 0 0 0 = true by rw [hMQ]; rfl] at q3
      clear hJQ hMQ
      rw [hA'] at P1 P2
      rw [hB'] at P5
      clear hA' hB'
      cases hE : emptyQ A
      all_goals
        rw [hE] at P3 P4
        clear hE
        go_enter Try.func12, Try.ntmps12
        go_wp2_with (first | (go_at_call 50; ((with_reducible refine (J _).mono ?_); rintro e wj ⟨rfl, b⟩; (first | have I := I.next b | have I := (In2.drewN I 1).next b); obtain ⟨_, ⟨y1, y2⟩, hA, hB, f1, f2⟩ := id I)) | (go_at_call 51; ((with_reducible refine (M _).mono ?_); rintro e wm ⟨rfl, b⟩; have hJ : wm.cell? ⟨wj.heap.size, 0, none⟩ = some (.int .i64 JQ.x0) ∧ wm.cell? ⟨wj.heap.size, 1, none⟩ = some (.int .i64 JQ.y0) ∧ wm.cell? ⟨wj.heap.size, 2, none⟩ = some (.int .i64 JQ.x1) ∧ wm.cell? ⟨wj.heap.size, 3, none⟩ = some (.int .i64 JQ.y1) := at_next (A := JQ) b (by simp) (by refine ⟨?_, ?_, ?_, ?_⟩ <;> go_simp); have zJ : wj.heap.size < wm.heap.size := lt_next b (by simp); have I := (I.alloc _).next b; obtain ⟨_, ⟨y1, y2⟩, hA, hB, f1, f2⟩ := id I)))
        (go_region_held3 (fun w' => w'.cell? ⟨w.heap.size, 0, none⟩ = some (.int .i64 A.x0) ∧ w'.cell? ⟨w.heap.size, 1, none⟩ = some (.int .i64 A.y0) ∧ w'.cell? ⟨w.heap.size, 2, none⟩ = some (.int .i64 A.x1) ∧ w'.cell? ⟨w.heap.size, 3, none⟩ = some (.int .i64 A.y1) ∧ w'.cell? ⟨w.heap.size + 1, 0, none⟩ = some (.int .i64 B.x0) ∧ w'.cell? ⟨w.heap.size + 1, 1, none⟩ = some (.int .i64 B.y0) ∧ w'.cell? ⟨w.heap.size + 1, 2, none⟩ = some (.int .i64 B.x1) ∧ w'.cell? ⟨w.heap.size + 1, 3, none⟩ = some (.int .i64 B.y1)) (go_keep) (first | (go_at_call 44; ((with_reducible refine (L _).mono ?_); rintro e wl ⟨rfl, b⟩; have hJ : wl.cell? ⟨wj.heap.size, 0, none⟩ = some (.int .i64 JQ.x0) ∧ wl.cell? ⟨wj.heap.size, 1, none⟩ = some (.int .i64 JQ.y0) ∧ wl.cell? ⟨wj.heap.size, 2, none⟩ = some (.int .i64 JQ.x1) ∧ wl.cell? ⟨wj.heap.size, 3, none⟩ = some (.int .i64 JQ.y1) := at_next (A := JQ) b (by first | omega | (simp; done) | (simp; omega)) (dr_at (A := JQ) (at_next (A := JQ) (below_a1 _ _) zJ hJ)); have hM : wl.cell? ⟨wm.heap.size, 0, none⟩ = some (.int .i64 MQ.x0) ∧ wl.cell? ⟨wm.heap.size, 1, none⟩ = some (.int .i64 MQ.y0) ∧ wl.cell? ⟨wm.heap.size, 2, none⟩ = some (.int .i64 MQ.x1) ∧ wl.cell? ⟨wm.heap.size, 3, none⟩ = some (.int .i64 MQ.y1) := at_next (A := MQ) b (by simp) (by refine ⟨?_, ?_, ?_, ?_⟩ <;> go_simp); have zJ : wj.heap.size < wl.heap.size := lt_next b (by first | omega | (simp; done) | (simp; omega)); have zM : wm.heap.size < wl.heap.size := lt_next b (by simp); have I := ((I.alloc _).drewN 1).next b; obtain ⟨_, ⟨y1, y2⟩, hA, hB, f1, f2⟩ := id I)) | (go_at_call 52; ((with_reducible refine (P1 _).mono ?_); rintro e wl ⟨rfl, b⟩; (first | have hJ := at_next (A := JQ) b zJ hJ | have hJ := at_next (A := JQ) b zJ (dr_at (A := JQ) hJ)); (first | have hM := at_next (A := MQ) b zM hM | have hM := at_next (A := MQ) b zM (dr_at (A := MQ) hM)); have zJ := lt_next b zJ; have zM := lt_next b zM; (first | have I := I.next b | have I := (In2.drewN I 1).next b); obtain ⟨_, ⟨y1, y2⟩, hA, hB, f1, f2⟩ := id I)) | (go_at_call 53; ((with_reducible refine (P2 _).mono ?_); rintro e wl ⟨rfl, b⟩; (first | have hJ := at_next (A := JQ) b zJ hJ | have hJ := at_next (A := JQ) b zJ (dr_at (A := JQ) hJ)); (first | have hM := at_next (A := MQ) b zM hM | have hM := at_next (A := MQ) b zM (dr_at (A := MQ) hM)); have zJ := lt_next b zJ; have zM := lt_next b zM; (first | have I := I.next b | have I := (In2.drewN I 1).next b); obtain ⟨_, ⟨y1, y2⟩, hA, hB, f1, f2⟩ := id I)) | (go_at_call 54; ((with_reducible refine (P3 _).mono ?_); rintro e wl ⟨rfl, b⟩; (first | have hJ := at_next (A := JQ) b zJ hJ | have hJ := at_next (A := JQ) b zJ (dr_at (A := JQ) hJ)); (first | have hM := at_next (A := MQ) b zM hM | have hM := at_next (A := MQ) b zM (dr_at (A := MQ) hM)); have zJ := lt_next b zJ; have zM := lt_next b zM; (first | have I := I.next b | have I := (In2.drewN I 1).next b); obtain ⟨_, ⟨y1, y2⟩, hA, hB, f1, f2⟩ := id I)) | (go_at_call 55; ((with_reducible refine (P4 _).mono ?_); rintro e wl ⟨rfl, b⟩; (first | have hJ := at_next (A := JQ) b zJ hJ | have hJ := at_next (A := JQ) b zJ (dr_at (A := JQ) hJ)); (first | have hM := at_next (A := MQ) b zM hM | have hM := at_next (A := MQ) b zM (dr_at (A := MQ) hM)); have zJ := lt_next b zJ; have zM := lt_next b zM; (first | have I := I.next b | have I := (In2.drewN I 1).next b); obtain ⟨_, ⟨y1, y2⟩, hA, hB, f1, f2⟩ := id I))))
        go_wp2_with (first | (go_at_call 53; ((with_reducible refine (P2 _).mono ?_); rintro e wl ⟨rfl, b⟩; (first | have hJ := at_next (A := JQ) b zJ hJ | have hJ := at_next (A := JQ) b zJ (dr_at (A := JQ) hJ)); (first | have hM := at_next (A := MQ) b zM hM | have hM := at_next (A := MQ) b zM (dr_at (A := MQ) hM)); have zJ := lt_next b zJ; have zM := lt_next b zM; (first | have I := I.next b | have I := (In2.drewN I 1).next b); obtain ⟨_, ⟨y1, y2⟩, hA, hB, f1, f2⟩ := id I)) | (go_at_call 53; ((with_reducible refine (P5 _).mono ?_); rintro e wl ⟨rfl, b⟩; (first | have hJ := at_next (A := JQ) b zJ hJ | have hJ := at_next (A := JQ) b zJ (dr_at (A := JQ) hJ)); (first | have hM := at_next (A := MQ) b zM hM | have hM := at_next (A := MQ) b zM (dr_at (A := MQ) hM)); have zJ := lt_next b zJ; have zM := lt_next b zM; (first | have I := I.next b | have I := (In2.drewN I 1).next b); obtain ⟨_, ⟨y1, y2⟩, hA, hB, f1, f2⟩ := id I)))
        all_goals go_ret
        all_goals exact ⟨rfl, I.1⟩
    · have J := fun w => join_any A B w hA' hB'
      have M := fun w => meet_any A B w hA' hB'
      have RJ := fun w => rjoin_any A B w
      have RM := fun w => rmeet_any A B w
      clear hJQ hMQ JQ MQ
      generalize joinR A B = JQ at *
      generalize meetR A B = MQ at *
      have q1 := fun w => eqB_run JQ.x0 JQ.y0 JQ.x1 JQ.y1 JQ.x0 JQ.y0 JQ.x1 JQ.y1 w
      have q2 := fun x y w => eqB_guard JQ.x0 JQ.y0 JQ.x1 JQ.y1 JQ.x0 JQ.y0 JQ.x1 JQ.y1 x y w
      have q3 := fun w => eqB_run MQ.x0 MQ.y0 MQ.x1 MQ.y1 MQ.x0 MQ.y0 MQ.x1 MQ.y1 w
      have q4 := fun x y w => eqB_guard MQ.x0 MQ.y0 MQ.x1 MQ.y1 MQ.x0 MQ.y0 MQ.x1 MQ.y1 x y w
      rw [eq4_self] at q1 q3
      rw [hA'] at P1 P2
      rw [hB'] at P5
      clear hA' hB'
      cases hE : emptyQ A
      all_goals
        rw [hE] at P3 P4
        clear hE
        go_enter Try.func12, Try.ntmps12
        go_wp2_with (first | (go_at_call 50; ((with_reducible refine (J _).mono ?_); rintro e wj ⟨rfl, b⟩; (first | have I := I.next b | have I := (In2.drewN I 1).next b); obtain ⟨_, ⟨y1, y2⟩, hA, hB, f1, f2⟩ := id I)) | (go_at_call 51; ((with_reducible refine (M _).mono ?_); rintro e wm ⟨rfl, b⟩; have hJ : wm.cell? ⟨wj.heap.size, 0, none⟩ = some (.int .i64 JQ.x0) ∧ wm.cell? ⟨wj.heap.size, 1, none⟩ = some (.int .i64 JQ.y0) ∧ wm.cell? ⟨wj.heap.size, 2, none⟩ = some (.int .i64 JQ.x1) ∧ wm.cell? ⟨wj.heap.size, 3, none⟩ = some (.int .i64 JQ.y1) := at_next (A := JQ) b (by simp) (by refine ⟨?_, ?_, ?_, ?_⟩ <;> go_simp); have zJ : wj.heap.size < wm.heap.size := lt_next b (by simp); have I := (I.alloc _).next b; obtain ⟨_, ⟨y1, y2⟩, hA, hB, f1, f2⟩ := id I)))
        (go_region_held3 (fun w' => w'.cell? ⟨w.heap.size, 0, none⟩ = some (.int .i64 A.x0) ∧ w'.cell? ⟨w.heap.size, 1, none⟩ = some (.int .i64 A.y0) ∧ w'.cell? ⟨w.heap.size, 2, none⟩ = some (.int .i64 A.x1) ∧ w'.cell? ⟨w.heap.size, 3, none⟩ = some (.int .i64 A.y1) ∧ w'.cell? ⟨w.heap.size + 1, 0, none⟩ = some (.int .i64 B.x0) ∧ w'.cell? ⟨w.heap.size + 1, 1, none⟩ = some (.int .i64 B.y0) ∧ w'.cell? ⟨w.heap.size + 1, 2, none⟩ = some (.int .i64 B.x1) ∧ w'.cell? ⟨w.heap.size + 1, 3, none⟩ = some (.int .i64 B.y1)) (go_keep) (first | (go_at_call 44; ((with_reducible refine (L _).mono ?_); rintro e wl ⟨rfl, b⟩; have hJ : wl.cell? ⟨wj.heap.size, 0, none⟩ = some (.int .i64 JQ.x0) ∧ wl.cell? ⟨wj.heap.size, 1, none⟩ = some (.int .i64 JQ.y0) ∧ wl.cell? ⟨wj.heap.size, 2, none⟩ = some (.int .i64 JQ.x1) ∧ wl.cell? ⟨wj.heap.size, 3, none⟩ = some (.int .i64 JQ.y1) := at_next (A := JQ) b (by first | omega | (simp; done) | (simp; omega)) (dr_at (A := JQ) (at_next (A := JQ) (below_a1 _ _) zJ hJ)); have hM : wl.cell? ⟨wm.heap.size, 0, none⟩ = some (.int .i64 MQ.x0) ∧ wl.cell? ⟨wm.heap.size, 1, none⟩ = some (.int .i64 MQ.y0) ∧ wl.cell? ⟨wm.heap.size, 2, none⟩ = some (.int .i64 MQ.x1) ∧ wl.cell? ⟨wm.heap.size, 3, none⟩ = some (.int .i64 MQ.y1) := at_next (A := MQ) b (by simp) (by refine ⟨?_, ?_, ?_, ?_⟩ <;> go_simp); have zJ : wj.heap.size < wl.heap.size := lt_next b (by first | omega | (simp; done) | (simp; omega)); have zM : wm.heap.size < wl.heap.size := lt_next b (by simp); have I := ((I.alloc _).drewN 1).next b; obtain ⟨_, ⟨y1, y2⟩, hA, hB, f1, f2⟩ := id I)) | (go_at_call 52; ((with_reducible refine (P1 _).mono ?_); rintro e wl ⟨rfl, b⟩; (first | have hJ := at_next (A := JQ) b zJ hJ | have hJ := at_next (A := JQ) b zJ (dr_at (A := JQ) hJ)); (first | have hM := at_next (A := MQ) b zM hM | have hM := at_next (A := MQ) b zM (dr_at (A := MQ) hM)); have zJ := lt_next b zJ; have zM := lt_next b zM; (first | have I := I.next b | have I := (In2.drewN I 1).next b); obtain ⟨_, ⟨y1, y2⟩, hA, hB, f1, f2⟩ := id I)) | (go_at_call 53; ((with_reducible refine (P2 _).mono ?_); rintro e wl ⟨rfl, b⟩; (first | have hJ := at_next (A := JQ) b zJ hJ | have hJ := at_next (A := JQ) b zJ (dr_at (A := JQ) hJ)); (first | have hM := at_next (A := MQ) b zM hM | have hM := at_next (A := MQ) b zM (dr_at (A := MQ) hM)); have zJ := lt_next b zJ; have zM := lt_next b zM; (first | have I := I.next b | have I := (In2.drewN I 1).next b); obtain ⟨_, ⟨y1, y2⟩, hA, hB, f1, f2⟩ := id I)) | (go_at_call 54; ((with_reducible refine (P3 _).mono ?_); rintro e wl ⟨rfl, b⟩; (first | have hJ := at_next (A := JQ) b zJ hJ | have hJ := at_next (A := JQ) b zJ (dr_at (A := JQ) hJ)); (first | have hM := at_next (A := MQ) b zM hM | have hM := at_next (A := MQ) b zM (dr_at (A := MQ) hM)); have zJ := lt_next b zJ; have zM := lt_next b zM; (first | have I := I.next b | have I := (In2.drewN I 1).next b); obtain ⟨_, ⟨y1, y2⟩, hA, hB, f1, f2⟩ := id I)) | (go_at_call 55; ((with_reducible refine (P4 _).mono ?_); rintro e wl ⟨rfl, b⟩; (first | have hJ := at_next (A := JQ) b zJ hJ | have hJ := at_next (A := JQ) b zJ (dr_at (A := JQ) hJ)); (first | have hM := at_next (A := MQ) b zM hM | have hM := at_next (A := MQ) b zM (dr_at (A := MQ) hM)); have zJ := lt_next b zJ; have zM := lt_next b zM; (first | have I := I.next b | have I := (In2.drewN I 1).next b); obtain ⟨_, ⟨y1, y2⟩, hA, hB, f1, f2⟩ := id I))))
        go_wp2_with (first | (go_at_call 53; ((with_reducible refine (P2 _).mono ?_); rintro e wl ⟨rfl, b⟩; (first | have hJ := at_next (A := JQ) b zJ hJ | have hJ := at_next (A := JQ) b zJ (dr_at (A := JQ) hJ)); (first | have hM := at_next (A := MQ) b zM hM | have hM := at_next (A := MQ) b zM (dr_at (A := MQ) hM)); have zJ := lt_next b zJ; have zM := lt_next b zM; (first | have I := I.next b | have I := (In2.drewN I 1).next b); obtain ⟨_, ⟨y1, y2⟩, hA, hB, f1, f2⟩ := id I)) | (go_at_call 53; ((with_reducible refine (P5 _).mono ?_); rintro e wl ⟨rfl, b⟩; (first | have hJ := at_next (A := JQ) b zJ hJ | have hJ := at_next (A := JQ) b zJ (dr_at (A := JQ) hJ)); (first | have hM := at_next (A := MQ) b zM hM | have hM := at_next (A := MQ) b zM (dr_at (A := MQ) hM)); have zJ := lt_next b zJ; have zM := lt_next b zM; (first | have I := I.next b | have I := (In2.drewN I 1).next b); obtain ⟨_, ⟨y1, y2⟩, hA, hB, f1, f2⟩ := id I)))
        first | (go_region_held3 (fun w' => w'.cell? ⟨w.heap.size, 0, none⟩ = some (.int .i64 A.x0) ∧ w'.cell? ⟨w.heap.size, 1, none⟩ = some (.int .i64 A.y0) ∧ w'.cell? ⟨w.heap.size, 2, none⟩ = some (.int .i64 A.x1) ∧ w'.cell? ⟨w.heap.size, 3, none⟩ = some (.int .i64 A.y1) ∧ w'.cell? ⟨w.heap.size + 1, 0, none⟩ = some (.int .i64 B.x0) ∧ w'.cell? ⟨w.heap.size + 1, 1, none⟩ = some (.int .i64 B.y0) ∧ w'.cell? ⟨w.heap.size + 1, 2, none⟩ = some (.int .i64 B.x1) ∧ w'.cell? ⟨w.heap.size + 1, 3, none⟩ = some (.int .i64 B.y1) ∧ w'.cell? ⟨wj.heap.size, 0, none⟩ = some (.int .i64 JQ.x0) ∧ w'.cell? ⟨wj.heap.size, 1, none⟩ = some (.int .i64 JQ.y0) ∧ w'.cell? ⟨wj.heap.size, 2, none⟩ = some (.int .i64 JQ.x1) ∧ w'.cell? ⟨wj.heap.size, 3, none⟩ = some (.int .i64 JQ.y1) ∧ w'.cell? ⟨wm.heap.size, 0, none⟩ = some (.int .i64 MQ.x0) ∧ w'.cell? ⟨wm.heap.size, 1, none⟩ = some (.int .i64 MQ.y0) ∧ w'.cell? ⟨wm.heap.size, 2, none⟩ = some (.int .i64 MQ.x1) ∧ w'.cell? ⟨wm.heap.size, 3, none⟩ = some (.int .i64 MQ.y1)) (go_keep) (first | (go_at_call 56; ((with_reducible refine (RJ _).mono ?_); rintro e wl ⟨rfl, b⟩; (first | have hJ := at_next (A := JQ) b zJ hJ | have hJ := at_next (A := JQ) b zJ (dr_at (A := JQ) hJ)); (first | have hM := at_next (A := MQ) b zM hM | have hM := at_next (A := MQ) b zM (dr_at (A := MQ) hM)); have zJ := lt_next b zJ; have zM := lt_next b zM; (first | have I := I.next b | have I := (In2.drewN I 1).next b); obtain ⟨_, ⟨y1, y2⟩, hA, hB, f1, f2⟩ := id I)) | (go_at_call 57; ((with_reducible refine (RM _).mono ?_); rintro e wl ⟨rfl, b⟩; (first | have hJ := at_next (A := JQ) b zJ hJ | have hJ := at_next (A := JQ) b zJ (dr_at (A := JQ) hJ)); (first | have hM := at_next (A := MQ) b zM hM | have hM := at_next (A := MQ) b zM (dr_at (A := MQ) hM)); have zJ := lt_next b zJ; have zM := lt_next b zM; (first | have I := I.next b | have I := (In2.drewN I 1).next b); obtain ⟨_, ⟨y1, y2⟩, hA, hB, f1, f2⟩ := id I)))) | fail
        all_goals go_wp2
        all_goals go_ret
        all_goals exact ⟨rfl, I.1⟩

set_option linter.unusedVariables false in
set_option maxRecDepth 100000 in
theorem lifted (os : Os) (started : os.Started) (H : Type) (enc : TypeId × Value → H) :
    ReturnsInHanded {} Try.checked os 12 .any (Rows.affineBoxesSpec.pre6 enc Try.prog Try.f12 Rows.affineBoxesRow.domain false) (Rows.affineBoxesSpec.post enc Try.prog Try.f12 false true false false) := by
  refine returnsInHanded_of_change (C := Try.checked) Try.own started (by kernel_rfl) Try.func12
    (ChangeSpec.witness6 (enc := enc) (C := Try.checked) false ⟨#[], #[.agg #[.int .i64 0, .int .i64 0, .int .i64 0, .int .i64 0], .agg #[.int .i64 0, .int .i64 0, .int .i64 0, .int .i64 0]], []⟩ 8 (by kernel_rfl) (by kernel_rfl) (by kernel_rfl) (by kernel_rfl)) ?_
  intro W base args ds gs before hval0 hW hcnd _
  have hval : ∀ (j : Nat) t v, Try.f12.params[j]? = some t → args[j]? = some v → Value.okWide Try.prog W .any base t v := hval0
  have hW' := hW
  obtain ⟨p, q, hA0, hV, rfl, hfz, hnd⟩ := hW
  have hA : DataW.TrodAll enc Try.prog W 0 (fun _ => true) true Try.f12.params.toList args.toList ds p := hA0
  rw [Try.params12] at hA hval
  obtain ⟨v0, vs0, d0, ds0, p0, q0, hargs, rfl, rfl, h0, r0⟩ := trodAll_cons hA
  obtain ⟨v1, vs1, d1, ds1, p1, q1, rfl, rfl, rfl, h1, r1⟩ := trodAll_cons r0
  obtain ⟨rfl, rfl, rfl⟩ := trodAll_nil r1
  obtain rfl : args = #[v0, v1] := by cases args; simp_all
  obtain ⟨rfl, rfl⟩ := trodVars_none hV
  obtain ⟨a0, b0, c0, e0, rfl, wa0, wb0, wc0, we0⟩ := open_four Try.underlying45 (by kernel_rfl) Try.cellsB Try.underlying3 Try.underlying3 Try.underlying3 Try.underlying3 (hval 0 45 v0 rfl rfl) h0
  obtain ⟨a1, b1, c1, e1, rfl, wa1, wb1, wc1, we1⟩ := open_four Try.underlying45 (by kernel_rfl) Try.cellsB Try.underlying3 Try.underlying3 Try.underlying3 Try.underlying3 (hval 1 45 v1 rfl rfl) h1
  clear hA0 hval0
  simp only [List.append_nil] at hW'
  refine (walk ⟨a0, b0, c0, e0⟩ ⟨wa0, wb0, wc0, we0⟩ ⟨a1, b1, c1, e1⟩ ⟨wa1, wb1, wc1, we1⟩ W).mono fun e W' ⟨he, hg⟩ => ?_
  subst he
  exact ⟨_, rfl, law_post Try.laidOut rfl Try.underlying4 (by kernel_rfl) rfl rfl rfl rfl hW' hg⟩

theorem over : Rows.affineBoxesRow.holds Try.pinned (OpenSpec.ofChange Rows.affineBoxesSpec) :=
  OpenClaim.holds_of_wide 12 Try.f12 rfl rfl rfl rfl rfl rfl rfl ⟨rfl, rfl, rfl, rfl, rfl⟩ rfl rfl rfl rfl rfl (by kernel_rfl) Try.func12 (by kernel_rfl)
    (of_decide_eq_true (by kernel_rfl)) (by unfold Func.isWrapper; first | (rw [if_pos (by decide +kernel)]; kernel_rfl) | (rw [if_neg (by decide +kernel)]; exact ⟨rfl, rfl⟩))
    (fun os started H enc _ => lifted os started H enc)

theorem proved : Rows.AffineBoxesSaid :=
  over

end Go.Proofs.Ytpodlcjahfdpmaa.affineBoxes
