/- AffineHolds: what is in both boxes is in each, what is in one is in the join; for every two boxes and every place. -/
import Derived.Test.YtpodlcjahfdpmaaLaw4
import Derived.Test.YtpodlcjahfdpmaaLives2
import Derived.Test.YtpodlcjahfdpmaaBox7
namespace Go.Proofs.Ytpodlcjahfdpmaa.affineHolds
open Go.ChangeShapes Go.WideShapes Go.ChangeAt Go.RowKit

theorem meet_holds (A B : Q) (x y : Int) (hA : mayQ A = true) (hB : mayQ B = true) : holdsQ (meetR A B) x y = (holdsQ A x y && holdsQ B x y) := by
  obtain ⟨⟨l1, l2⟩, ⟨l3, l4⟩, ⟨l5, l6⟩, ⟨l7, l8⟩⟩ := mayQ_lims hA
  obtain ⟨⟨k1, k2⟩, ⟨k3, k4⟩, ⟨k5, k6⟩, ⟨k7, k8⟩⟩ := mayQ_lims hB
  have hm : mayQ (meetQ A B) = true := by
    unfold mayQ mayB meetQ
    simp only [Bool.and_eq_true, decide_eq_true_eq]
    omega
  have hM : mayQ (meetR A B) = true := by unfold meetR plainQ; split; decide; exact hm
  unfold holdsQ
  rw [hM, hA, hB, Bool.eq_iff_iff]
  unfold meetR plainQ
  split
  · rename_i he
    unfold emptyQ meetQ at he
    unfold zeroQ
    simp only [Bool.true_and, Bool.and_eq_true, decide_eq_true_eq, Bool.or_eq_true] at he ⊢
    omega
  · unfold meetQ
    simp only [Bool.true_and, Bool.and_eq_true, decide_eq_true_eq]
    omega

theorem join_holds (A B : Q) (x y : Int) (hA : mayQ A = true) (hB : mayQ B = true) (h : holdsQ A x y = true ∨ holdsQ B x y = true) : holdsQ (joinR A B) x y = true := by
  obtain ⟨⟨l1, l2⟩, ⟨l3, l4⟩, ⟨l5, l6⟩, ⟨l7, l8⟩⟩ := mayQ_lims hA
  obtain ⟨⟨k1, k2⟩, ⟨k3, k4⟩, ⟨k5, k6⟩, ⟨k7, k8⟩⟩ := mayQ_lims hB
  have hm : mayQ (joinQ A B) = true := by
    unfold mayQ mayB joinQ
    simp only [Bool.and_eq_true, decide_eq_true_eq]
    omega
  unfold holdsQ at h ⊢
  rw [hA, hB] at h
  unfold joinR plainQ
  simp only [Bool.true_and, Bool.and_eq_true, decide_eq_true_eq] at h
  have e1 : emptyQ A = true → A.x1 ≤ A.x0 ∨ A.y1 ≤ A.y0 := fun he => by unfold emptyQ at he; simpa using he
  have e2 : emptyQ B = true → B.x1 ≤ B.x0 ∨ B.y1 ≤ B.y0 := fun he => by unfold emptyQ at he; simpa using he
  split
  · rename_i he
    have := e1 he
    split
    · rename_i he2
      have := e2 he2
      omega
    · rw [hB]
      simp only [Bool.true_and, Bool.and_eq_true, decide_eq_true_eq]
      omega
  · split
    · rename_i he
      have := e2 he
      rw [hA]
      simp only [Bool.true_and, Bool.and_eq_true, decide_eq_true_eq]
      omega
    · rw [hm]
      unfold joinQ
      simp only [Bool.true_and, Bool.and_eq_true, decide_eq_true_eq]
      omega

set_option linter.unusedVariables false in
set_option maxHeartbeats 8000000 in
theorem walk (A : Q) (hwA : ((Lit.int .i64 A.x0).wf = true ∧ (Lit.int .i64 A.y0).wf = true ∧ (Lit.int .i64 A.x1).wf = true ∧ (Lit.int .i64 A.y1).wf = true)) (B : Q) (hwB : ((Lit.int .i64 B.x0).wf = true ∧ (Lit.int .i64 B.y0).wf = true ∧ (Lit.int .i64 B.x1).wf = true ∧ (Lit.int .i64 B.y1).wf = true)) (x : Int) (wx : (Lit.int .i64 x).wf = true) (y : Int) (wy : (Lit.int .i64 y).wf = true) (w : World) :
    Calls Try.prog 13 #[.agg #[.int .i64 A.x0, .int .i64 A.y0, .int .i64 A.x1, .int .i64 A.y1], .agg #[.int .i64 B.x0, .int .i64 B.y0, .int .i64 B.x1, .int .i64 B.y1], .int .i64 x, .int .i64 y] w fun e w' => e = .returned (.bool true) ∧ Below w.heap.size w w' := by
  clear hwA hwB wx wy
  have L := fun w => lives2 w
  have PA := fun w => holds_any A x y w
  have PB := fun w => holds_any B x y w
  have RA := fun w => rholds_any A x y w
  have RB := fun w => rholds_any B x y w
  have MA := fun w => rmayQ_any A w
  have MB := fun w => rmayQ_any B w
  have I := In2.start w A B
  obtain ⟨_, ⟨y1, y2⟩, hA, hB, f1, f2⟩ := id I
  cases hA' : mayQ A
  · rw [hA'] at MA
    cases hp : holdsQ A x y <;> cases hq : holdsQ B x y
    all_goals
      rw [hp] at PA RA
      rw [hq] at PB RB
      clear hA' hp hq MB
      go_enter Try.func13, Try.ntmps13
      go_wp2
      first | (go_region_held3 (fun w' => w'.cell? ⟨w.heap.size, 0, none⟩ = some (.int .i64 A.x0) ∧ w'.cell? ⟨w.heap.size, 1, none⟩ = some (.int .i64 A.y0) ∧ w'.cell? ⟨w.heap.size, 2, none⟩ = some (.int .i64 A.x1) ∧ w'.cell? ⟨w.heap.size, 3, none⟩ = some (.int .i64 A.y1) ∧ w'.cell? ⟨w.heap.size + 1, 0, none⟩ = some (.int .i64 B.x0) ∧ w'.cell? ⟨w.heap.size + 1, 1, none⟩ = some (.int .i64 B.y0) ∧ w'.cell? ⟨w.heap.size + 1, 2, none⟩ = some (.int .i64 B.x1) ∧ w'.cell? ⟨w.heap.size + 1, 3, none⟩ = some (.int .i64 B.y1)) (go_keep) (first | (go_at_call 58; ((with_reducible refine (PA _).mono ?_); rintro e w' ⟨rfl, b⟩; (first | have I := I.next b | have I := (In2.drewN I 1).next b); obtain ⟨_, ⟨y1, y2⟩, hA, hB, f1, f2⟩ := id I)) | (go_at_call 58; ((with_reducible refine (PB _).mono ?_); rintro e w' ⟨rfl, b⟩; (first | have I := I.next b | have I := (In2.drewN I 1).next b); obtain ⟨_, ⟨y1, y2⟩, hA, hB, f1, f2⟩ := id I)))) | fail
      all_goals
        go_wp2_with (first | (go_at_call 44; ((with_reducible refine (L _).mono ?_); rintro e w' ⟨rfl, b⟩; (first | have I := I.next b | have I := (In2.drewN I 1).next b); obtain ⟨_, ⟨y1, y2⟩, hA, hB, f1, f2⟩ := id I)) | (go_at_call 59; ((with_reducible refine (RA _).mono ?_); rintro e w' ⟨rfl, b⟩; (first | have I := I.next b | have I := (In2.drewN I 1).next b); obtain ⟨_, ⟨y1, y2⟩, hA, hB, f1, f2⟩ := id I)) | (go_at_call 59; ((with_reducible refine (RB _).mono ?_); rintro e w' ⟨rfl, b⟩; (first | have I := I.next b | have I := (In2.drewN I 1).next b); obtain ⟨_, ⟨y1, y2⟩, hA, hB, f1, f2⟩ := id I)) | (go_at_call 53; ((with_reducible refine (MA _).mono ?_); rintro e w' ⟨rfl, b⟩; (first | have I := I.next b | have I := (In2.drewN I 1).next b); obtain ⟨_, ⟨y1, y2⟩, hA, hB, f1, f2⟩ := id I)) | (go_at_call 53; ((with_reducible refine (MB _).mono ?_); rintro e w' ⟨rfl, b⟩; (first | have I := I.next b | have I := (In2.drewN I 1).next b); obtain ⟨_, ⟨y1, y2⟩, hA, hB, f1, f2⟩ := id I)))
        go_ret
        exact ⟨rfl, I.1⟩
  · cases hB' : mayQ B
    · rw [hA'] at MA
      rw [hB'] at MB
      cases hp : holdsQ A x y <;> cases hq : holdsQ B x y
      all_goals
        rw [hp] at PA RA
        rw [hq] at PB RB
        clear hA' hB' hp hq
        go_enter Try.func13, Try.ntmps13
        go_wp2
        first | (go_region_held3 (fun w' => w'.cell? ⟨w.heap.size, 0, none⟩ = some (.int .i64 A.x0) ∧ w'.cell? ⟨w.heap.size, 1, none⟩ = some (.int .i64 A.y0) ∧ w'.cell? ⟨w.heap.size, 2, none⟩ = some (.int .i64 A.x1) ∧ w'.cell? ⟨w.heap.size, 3, none⟩ = some (.int .i64 A.y1) ∧ w'.cell? ⟨w.heap.size + 1, 0, none⟩ = some (.int .i64 B.x0) ∧ w'.cell? ⟨w.heap.size + 1, 1, none⟩ = some (.int .i64 B.y0) ∧ w'.cell? ⟨w.heap.size + 1, 2, none⟩ = some (.int .i64 B.x1) ∧ w'.cell? ⟨w.heap.size + 1, 3, none⟩ = some (.int .i64 B.y1)) (go_keep) (first | (go_at_call 58; ((with_reducible refine (PA _).mono ?_); rintro e w' ⟨rfl, b⟩; (first | have I := I.next b | have I := (In2.drewN I 1).next b); obtain ⟨_, ⟨y1, y2⟩, hA, hB, f1, f2⟩ := id I)) | (go_at_call 58; ((with_reducible refine (PB _).mono ?_); rintro e w' ⟨rfl, b⟩; (first | have I := I.next b | have I := (In2.drewN I 1).next b); obtain ⟨_, ⟨y1, y2⟩, hA, hB, f1, f2⟩ := id I)))) | fail
        all_goals
          go_wp2_with (first | (go_at_call 44; ((with_reducible refine (L _).mono ?_); rintro e w' ⟨rfl, b⟩; (first | have I := I.next b | have I := (In2.drewN I 1).next b); obtain ⟨_, ⟨y1, y2⟩, hA, hB, f1, f2⟩ := id I)) | (go_at_call 59; ((with_reducible refine (RA _).mono ?_); rintro e w' ⟨rfl, b⟩; (first | have I := I.next b | have I := (In2.drewN I 1).next b); obtain ⟨_, ⟨y1, y2⟩, hA, hB, f1, f2⟩ := id I)) | (go_at_call 59; ((with_reducible refine (RB _).mono ?_); rintro e w' ⟨rfl, b⟩; (first | have I := I.next b | have I := (In2.drewN I 1).next b); obtain ⟨_, ⟨y1, y2⟩, hA, hB, f1, f2⟩ := id I)) | (go_at_call 53; ((with_reducible refine (MA _).mono ?_); rintro e w' ⟨rfl, b⟩; (first | have I := I.next b | have I := (In2.drewN I 1).next b); obtain ⟨_, ⟨y1, y2⟩, hA, hB, f1, f2⟩ := id I)) | (go_at_call 53; ((with_reducible refine (MB _).mono ?_); rintro e w' ⟨rfl, b⟩; (first | have I := I.next b | have I := (In2.drewN I 1).next b); obtain ⟨_, ⟨y1, y2⟩, hA, hB, f1, f2⟩ := id I)))
          go_ret
          exact ⟨rfl, I.1⟩
    · have J := fun w => join_any A B w hA' hB'
      have M := fun w => meet_any A B w hA' hB'
      have HM := fun w => holds_any (meetR A B) x y w
      have HJ := fun w => holds_any (joinR A B) x y w
      rw [meet_holds A B x y hA' hB'] at HM
      have jh := join_holds A B x y hA' hB'
      rw [hA'] at MA
      rw [hB'] at MB
      generalize joinR A B = JQ at *
      generalize meetR A B = MQ at *
      clear hA' hB'
      cases hp : holdsQ A x y <;> cases hq : holdsQ B x y
      · rw [hp] at PA RA HM
        rw [hq] at PB RB HM
        clear jh hp hq
        generalize holdsQ JQ x y = jv at *
        go_enter Try.func13, Try.ntmps13
        go_wp2
        first | (go_region_held3 (fun w' => w'.cell? ⟨w.heap.size, 0, none⟩ = some (.int .i64 A.x0) ∧ w'.cell? ⟨w.heap.size, 1, none⟩ = some (.int .i64 A.y0) ∧ w'.cell? ⟨w.heap.size, 2, none⟩ = some (.int .i64 A.x1) ∧ w'.cell? ⟨w.heap.size, 3, none⟩ = some (.int .i64 A.y1) ∧ w'.cell? ⟨w.heap.size + 1, 0, none⟩ = some (.int .i64 B.x0) ∧ w'.cell? ⟨w.heap.size + 1, 1, none⟩ = some (.int .i64 B.y0) ∧ w'.cell? ⟨w.heap.size + 1, 2, none⟩ = some (.int .i64 B.x1) ∧ w'.cell? ⟨w.heap.size + 1, 3, none⟩ = some (.int .i64 B.y1)) (go_keep) (first | (go_at_call 58; ((with_reducible refine (PA _).mono ?_); rintro e w' ⟨rfl, b⟩; (first | have I := I.next b | have I := (In2.drewN I 1).next b); obtain ⟨_, ⟨y1, y2⟩, hA, hB, f1, f2⟩ := id I)) | (go_at_call 58; ((with_reducible refine (PB _).mono ?_); rintro e w' ⟨rfl, b⟩; (first | have I := I.next b | have I := (In2.drewN I 1).next b); obtain ⟨_, ⟨y1, y2⟩, hA, hB, f1, f2⟩ := id I)))) | fail
        all_goals
          go_wp2_with (first | (go_at_call 44; ((with_reducible refine (L _).mono ?_); rintro e w' ⟨rfl, b⟩; (first | have I := I.next b | have I := (In2.drewN I 1).next b); obtain ⟨_, ⟨y1, y2⟩, hA, hB, f1, f2⟩ := id I)) | (go_at_call 59; ((with_reducible refine (RA _).mono ?_); rintro e w' ⟨rfl, b⟩; (first | have I := I.next b | have I := (In2.drewN I 1).next b); obtain ⟨_, ⟨y1, y2⟩, hA, hB, f1, f2⟩ := id I)) | (go_at_call 59; ((with_reducible refine (RB _).mono ?_); rintro e w' ⟨rfl, b⟩; (first | have I := I.next b | have I := (In2.drewN I 1).next b); obtain ⟨_, ⟨y1, y2⟩, hA, hB, f1, f2⟩ := id I)) | (go_at_call 53; ((with_reducible refine (MA _).mono ?_); rintro e w' ⟨rfl, b⟩; (first | have I := I.next b | have I := (In2.drewN I 1).next b); obtain ⟨_, ⟨y1, y2⟩, hA, hB, f1, f2⟩ := id I)) | (go_at_call 53; ((with_reducible refine (MB _).mono ?_); rintro e w' ⟨rfl, b⟩; (first | have I := I.next b | have I := (In2.drewN I 1).next b); obtain ⟨_, ⟨y1, y2⟩, hA, hB, f1, f2⟩ := id I)) | (go_at_call 50; ((with_reducible refine (J _).mono ?_); rintro e wj ⟨rfl, b⟩; (first | have I := I.next b | have I := (In2.drewN I 1).next b); obtain ⟨_, ⟨y1, y2⟩, hA, hB, f1, f2⟩ := id I)) | (go_at_call 51; ((with_reducible refine (M _).mono ?_); rintro e wm ⟨rfl, b⟩; have hJ : wm.cell? ⟨wj.heap.size, 0, none⟩ = some (.int .i64 JQ.x0) ∧ wm.cell? ⟨wj.heap.size, 1, none⟩ = some (.int .i64 JQ.y0) ∧ wm.cell? ⟨wj.heap.size, 2, none⟩ = some (.int .i64 JQ.x1) ∧ wm.cell? ⟨wj.heap.size, 3, none⟩ = some (.int .i64 JQ.y1) := at_next (A := JQ) b (by simp) (by refine ⟨?_, ?_, ?_, ?_⟩ <;> go_simp); have zJ : wj.heap.size < wm.heap.size := lt_next b (by simp); have I := (I.alloc _).next b; obtain ⟨_, ⟨y1, y2⟩, hA, hB, f1, f2⟩ := id I)) | (go_at_call 58; ((with_reducible refine (HM _).mono ?_); rintro e wh ⟨rfl, b⟩; have hJ : wh.cell? ⟨wj.heap.size, 0, none⟩ = some (.int .i64 JQ.x0) ∧ wh.cell? ⟨wj.heap.size, 1, none⟩ = some (.int .i64 JQ.y0) ∧ wh.cell? ⟨wj.heap.size, 2, none⟩ = some (.int .i64 JQ.x1) ∧ wh.cell? ⟨wj.heap.size, 3, none⟩ = some (.int .i64 JQ.y1) := at_next (A := JQ) b (by simp; omega) (at_next (A := JQ) (below_a1 _ _) zJ hJ); have I := (I.alloc _).next b; obtain ⟨_, ⟨y1, y2⟩, hA, hB, f1, f2⟩ := id I)) | (go_at_call 58; ((with_reducible refine (HJ _).mono ?_); rintro e wx ⟨rfl, b⟩; have I := I.next b; obtain ⟨_, ⟨y1, y2⟩, hA, hB, f1, f2⟩ := id I)))
          go_ret
          exact ⟨rfl, I.1⟩
      all_goals
        rw [jh (by simp [hp, hq])] at HJ
        rw [hp] at PA RA HM
        rw [hq] at PB RB HM
        clear jh hp hq
        go_enter Try.func13, Try.ntmps13
        go_wp2
        first | (go_region_held3 (fun w' => w'.cell? ⟨w.heap.size, 0, none⟩ = some (.int .i64 A.x0) ∧ w'.cell? ⟨w.heap.size, 1, none⟩ = some (.int .i64 A.y0) ∧ w'.cell? ⟨w.heap.size, 2, none⟩ = some (.int .i64 A.x1) ∧ w'.cell? ⟨w.heap.size, 3, none⟩ = some (.int .i64 A.y1) ∧ w'.cell? ⟨w.heap.size + 1, 0, none⟩ = some (.int .i64 B.x0) ∧ w'.cell? ⟨w.heap.size + 1, 1, none⟩ = some (.int .i64 B.y0) ∧ w'.cell? ⟨w.heap.size + 1, 2, none⟩ = some (.int .i64 B.x1) ∧ w'.cell? ⟨w.heap.size + 1, 3, none⟩ = some (.int .i64 B.y1)) (go_keep) (first | (go_at_call 58; ((with_reducible refine (PA _).mono ?_); rintro e w' ⟨rfl, b⟩; (first | have I := I.next b | have I := (In2.drewN I 1).next b); obtain ⟨_, ⟨y1, y2⟩, hA, hB, f1, f2⟩ := id I)) | (go_at_call 58; ((with_reducible refine (PB _).mono ?_); rintro e w' ⟨rfl, b⟩; (first | have I := I.next b | have I := (In2.drewN I 1).next b); obtain ⟨_, ⟨y1, y2⟩, hA, hB, f1, f2⟩ := id I)))) | fail
        all_goals
          go_wp2_with (first | (go_at_call 44; ((with_reducible refine (L _).mono ?_); rintro e w' ⟨rfl, b⟩; (first | have I := I.next b | have I := (In2.drewN I 1).next b); obtain ⟨_, ⟨y1, y2⟩, hA, hB, f1, f2⟩ := id I)) | (go_at_call 59; ((with_reducible refine (RA _).mono ?_); rintro e w' ⟨rfl, b⟩; (first | have I := I.next b | have I := (In2.drewN I 1).next b); obtain ⟨_, ⟨y1, y2⟩, hA, hB, f1, f2⟩ := id I)) | (go_at_call 59; ((with_reducible refine (RB _).mono ?_); rintro e w' ⟨rfl, b⟩; (first | have I := I.next b | have I := (In2.drewN I 1).next b); obtain ⟨_, ⟨y1, y2⟩, hA, hB, f1, f2⟩ := id I)) | (go_at_call 53; ((with_reducible refine (MA _).mono ?_); rintro e w' ⟨rfl, b⟩; (first | have I := I.next b | have I := (In2.drewN I 1).next b); obtain ⟨_, ⟨y1, y2⟩, hA, hB, f1, f2⟩ := id I)) | (go_at_call 53; ((with_reducible refine (MB _).mono ?_); rintro e w' ⟨rfl, b⟩; (first | have I := I.next b | have I := (In2.drewN I 1).next b); obtain ⟨_, ⟨y1, y2⟩, hA, hB, f1, f2⟩ := id I)) | (go_at_call 50; ((with_reducible refine (J _).mono ?_); rintro e wj ⟨rfl, b⟩; (first | have I := I.next b | have I := (In2.drewN I 1).next b); obtain ⟨_, ⟨y1, y2⟩, hA, hB, f1, f2⟩ := id I)) | (go_at_call 51; ((with_reducible refine (M _).mono ?_); rintro e wm ⟨rfl, b⟩; have hJ : wm.cell? ⟨wj.heap.size, 0, none⟩ = some (.int .i64 JQ.x0) ∧ wm.cell? ⟨wj.heap.size, 1, none⟩ = some (.int .i64 JQ.y0) ∧ wm.cell? ⟨wj.heap.size, 2, none⟩ = some (.int .i64 JQ.x1) ∧ wm.cell? ⟨wj.heap.size, 3, none⟩ = some (.int .i64 JQ.y1) := at_next (A := JQ) b (by simp) (by refine ⟨?_, ?_, ?_, ?_⟩ <;> go_simp); have zJ : wj.heap.size < wm.heap.size := lt_next b (by simp); have I := (I.alloc _).next b; obtain ⟨_, ⟨y1, y2⟩, hA, hB, f1, f2⟩ := id I)) | (go_at_call 58; ((with_reducible refine (HM _).mono ?_); rintro e wh ⟨rfl, b⟩; have hJ : wh.cell? ⟨wj.heap.size, 0, none⟩ = some (.int .i64 JQ.x0) ∧ wh.cell? ⟨wj.heap.size, 1, none⟩ = some (.int .i64 JQ.y0) ∧ wh.cell? ⟨wj.heap.size, 2, none⟩ = some (.int .i64 JQ.x1) ∧ wh.cell? ⟨wj.heap.size, 3, none⟩ = some (.int .i64 JQ.y1) := at_next (A := JQ) b (by simp; omega) (at_next (A := JQ) (below_a1 _ _) zJ hJ); have I := (I.alloc _).next b; obtain ⟨_, ⟨y1, y2⟩, hA, hB, f1, f2⟩ := id I)) | (go_at_call 58; ((with_reducible refine (HJ _).mono ?_); rintro e wx ⟨rfl, b⟩; have I := I.next b; obtain ⟨_, ⟨y1, y2⟩, hA, hB, f1, f2⟩ := id I)))
          go_ret
          exact ⟨rfl, I.1⟩

set_option linter.unusedVariables false in
set_option maxRecDepth 100000 in
theorem lifted (os : Os) (started : os.Started) (H : Type) (enc : TypeId × Value → H) :
    ReturnsInHanded {} Try.checked os 13 .any (Rows.affineHoldsSpec.pre6 enc Try.prog Try.f13 Rows.affineHoldsRow.domain false) (Rows.affineHoldsSpec.post enc Try.prog Try.f13 false true false false) := by
  refine returnsInHanded_of_change (C := Try.checked) Try.own started (by kernel_rfl) Try.func13
    (ChangeSpec.witness6 (enc := enc) (C := Try.checked) false ⟨#[], #[.agg #[.int .i64 0, .int .i64 0, .int .i64 0, .int .i64 0], .agg #[.int .i64 0, .int .i64 0, .int .i64 0, .int .i64 0], .int .i64 0, .int .i64 0], []⟩ 8 (by kernel_rfl) (by kernel_rfl) (by kernel_rfl) (by kernel_rfl)) ?_
  intro W base args ds gs before hval0 hW hcnd _
  have hval : ∀ (j : Nat) t v, Try.f13.params[j]? = some t → args[j]? = some v → Value.okWide Try.prog W .any base t v := hval0
  have hW' := hW
  obtain ⟨p, q, hA0, hV, rfl, hfz, hnd⟩ := hW
  have hA : DataW.TrodAll enc Try.prog W 0 (fun _ => true) true Try.f13.params.toList args.toList ds p := hA0
  rw [Try.params13] at hA hval
  obtain ⟨v0, vs0, d0, ds0, p0, q0, hargs, rfl, rfl, h0, r0⟩ := trodAll_cons hA
  obtain ⟨v1, vs1, d1, ds1, p1, q1, rfl, rfl, rfl, h1, r1⟩ := trodAll_cons r0
  obtain ⟨v2, vs2, d2, ds2, p2, q2, rfl, rfl, rfl, h2, r2⟩ := trodAll_cons r1
  obtain ⟨v3, vs3, d3, ds3, p3, q3, rfl, rfl, rfl, h3, r3⟩ := trodAll_cons r2
  obtain ⟨rfl, rfl, rfl⟩ := trodAll_nil r3
  obtain rfl : args = #[v0, v1, v2, v3] := by cases args; simp_all
  obtain ⟨rfl, rfl⟩ := trodVars_none hV
  obtain ⟨a0, b0, c0, e0, rfl, wa0, wb0, wc0, we0⟩ := open_four Try.underlying45 (by kernel_rfl) Try.cellsB Try.underlying3 Try.underlying3 Try.underlying3 Try.underlying3 (hval 0 45 v0 rfl rfl) h0
  obtain ⟨a1, b1, c1, e1, rfl, wa1, wb1, wc1, we1⟩ := open_four Try.underlying45 (by kernel_rfl) Try.cellsB Try.underlying3 Try.underlying3 Try.underlying3 Try.underlying3 (hval 1 45 v1 rfl rfl) h1
  obtain ⟨a2, rfl, rfl, rfl, w2⟩ := open_int Try.underlying3 (hval 2 3 v2 rfl rfl) h2
  obtain ⟨a3, rfl, rfl, rfl, w3⟩ := open_int Try.underlying3 (hval 3 3 v3 rfl rfl) h3
  clear hA0 hval0
  simp only [List.append_nil] at hW'
  refine (walk ⟨a0, b0, c0, e0⟩ ⟨wa0, wb0, wc0, we0⟩ ⟨a1, b1, c1, e1⟩ ⟨wa1, wb1, wc1, we1⟩ a2 w2 a3 w3 W).mono fun e W' ⟨he, hg⟩ => ?_
  subst he
  exact ⟨_, rfl, law_post Try.laidOut rfl Try.underlying4 (by kernel_rfl) rfl rfl rfl rfl hW' hg⟩

theorem over : Rows.affineHoldsRow.holds Try.pinned (OpenSpec.ofChange Rows.affineHoldsSpec) :=
  OpenClaim.holds_of_wide 13 Try.f13 rfl rfl rfl rfl rfl rfl rfl ⟨rfl, rfl, rfl, rfl, rfl⟩ rfl rfl rfl rfl rfl (by kernel_rfl) Try.func13 (by kernel_rfl)
    (of_decide_eq_true (by kernel_rfl)) (by unfold Func.isWrapper; first | (rw [if_pos (by decide +kernel)]; kernel_rfl) | (rw [if_neg (by decide +kernel)]; exact ⟨rfl, rfl⟩))
    (fun os started H enc _ => lifted os started H enc)

theorem proved : Rows.AffineHoldsSaid :=
  over

end Go.Proofs.Ytpodlcjahfdpmaa.affineHolds
