/- AffineApplies: any point behind any matrix is where the document says, and One leaves a point as it is; for every matrix and every two ints. -/
import Derived.Test.YtdbnjlmkbmfhkaaLaw4
import Derived.Test.YtdbnjlmkbmfhkaaLives2
import Derived.Test.YtdbnjlmkbmfhkaaPlan
namespace Go.Proofs.Ytdbnjlmkbmfhkaa.affineApplies
open Go.ChangeShapes Go.WideShapes Go.ChangeAt Go.RowKit

theorem In1dr {w wx : World} {a b c d : Int} (h : In1M w wx a b c d) : In1M w wx.drew a b c d := ⟨h.1.drew, h.2.1, h.2.2⟩

theorem one_apply (x y : Int) (h : (mayB x && mayB y) = true) (w : World) :
    Calls Try.prog 10 #[.agg #[.int .i64 16384, .int .i64 0, .int .i64 0, .int .i64 16384], .int .i64 x, .int .i64 y] w fun e w' => e = .returned (.tuple #[.int .i64 x, .int .i64 y, .int .i64 0]) ∧ Below w.heap.size w w' := by
  have hh := h
  rw [Bool.and_eq_true] at h
  have e1 : apX 16384 0 x y = x := near_pos (by omega) (by omega) (by omega)
  have e2 : apX 0 16384 x y = y := near_pos (by omega) (by omega) (by omega)
  have e3 : apE 16384 0 0 16384 x y = 0 := by
    unfold apE
    rw [show fitM 16384 0 0 16384 = true from rfl, if_pos rfl, if_pos hh, e1, e2, h.1, h.2]; rfl
  have A := apply_any 16384 0 0 16384 x y w
  unfold apU apV at A
  rwa [e3, if_pos rfl, if_pos rfl, e1, e2] at A

set_option linter.unusedVariables false in
set_option maxHeartbeats 4000000 in
theorem walk (A : Q) (hw : ((Lit.int .i64 A.x0).wf = true ∧ (Lit.int .i64 A.y0).wf = true ∧ (Lit.int .i64 A.x1).wf = true ∧ (Lit.int .i64 A.y1).wf = true)) (x : Int) (wx : (Lit.int .i64 x).wf = true) (y : Int) (wy : (Lit.int .i64 y).wf = true) (w : World) :
    Calls Try.prog 3 #[.agg #[.int .i64 A.x0, .int .i64 A.y0, .int .i64 A.x1, .int .i64 A.y1], .int .i64 x, .int .i64 y] w fun e w' => e = .returned (.bool true) ∧ Below w.heap.size w w' := by
  clear hw wx wy
  have L := fun w => lives2 w
  have P := fun w => apply_any A.x0 A.y0 A.x1 A.y1 x y w
  have R := fun w => rapply_any A.x0 A.y0 A.x1 A.y1 x y w
  have O := fun w => one_any w
  have M := fun w => mayM_any A.x0 A.y0 A.x1 A.y1 w
  have N := fun w => rmayM_any A.x0 A.y0 A.x1 A.y1 w
  have X := fun w => may_ref x w
  have Y := fun w => may_ref y w
  generalize apU A.x0 A.y0 A.x1 A.y1 x y = u at P R
  generalize apV A.x0 A.y0 A.x1 A.y1 x y = v at P R
  generalize apE A.x0 A.y0 A.x1 A.y1 x y = er at P R
  generalize fitM A.x0 A.y0 A.x1 A.y1 = fm at M N
  have I := In1mk w A.x0 A.y0 A.x1 A.y1
  cases hxy : (mayB x && mayB y)
  · have S := fun w => apply_any 16384 0 0 16384 x y w
    generalize apU 16384 0 0 16384 x y = u1 at S
    generalize apV 16384 0 0 16384 x y = v1 at S
    generalize apE 16384 0 0 16384 x y = er1 at S
    cases hx : mayB x
    · rw [hx] at X
      clear hxy hx Y
      have Y := X
      cases fm
      all_goals
      go_enter Try.func3, Try.ntmps3
      go_wp2_with (first | (go_at_call 10; ((with_reducible refine (P _).mono ?_); rintro e w' ⟨rfl, b⟩; (first | have I := In1nx I b | have I := In1nx (In1dr I) b); obtain ⟨_, y1, hA⟩ := id I)) | (go_at_call 11; ((with_reducible refine (R _).mono ?_); rintro e w' ⟨rfl, b⟩; (first | have I := In1nx I b | have I := In1nx (In1dr I) b); obtain ⟨_, y1, hA⟩ := id I)) | (go_at_call 12; ((with_reducible refine (O _).mono ?_); rintro e w' ⟨rfl, b⟩; (first | have I := In1nx I b | have I := In1nx (In1dr I) b); obtain ⟨_, y1, hA⟩ := id I)) | (go_at_call 10; ((with_reducible refine (S _).mono ?_); rintro e w' ⟨rfl, b⟩; (first | have I := In1nx I b | have I := In1nx (In1dr I) b); obtain ⟨_, y1, hA⟩ := id I)) | (go_at_call 13; ((with_reducible refine (X _).mono ?_); rintro e w' ⟨rfl, rfl⟩)) | (go_at_call 13; ((with_reducible refine (Y _).mono ?_); rintro e w' ⟨rfl, rfl⟩)))
      refine wp_region_plan (fun w' => In1M w w' A.x0 A.y0 A.x1 A.y1) _ rfl (by kernel_rfl) (by kernel_rfl) (In1dr I) ?_
      repeat (first
        | (refine PlanL.skip (by rfl) ?_; simp only [Act.put, List.setIfInBounds_toArray, List.set_cons_zero, List.set_cons_succ])
        | (refine PlanL.val (v := ?_) (by rfl) ?_ ?_; rotate_left; (focus (intro w' hS; obtain ⟨_, y1, hA⟩ := id hS; go_simp <;> with_reducible rfl)); try simp only [Act.put, List.setIfInBounds_toArray, List.set_cons_zero, List.set_cons_succ])
        | (refine PlanL.call (v := ?_) (f := ?_) (args := ?_) (by rfl) ?_ ?_ ?_; rotate_left 3; (focus (intro w' hS; obtain ⟨_, y1, hA⟩ := id hS; go_simp; (constructor <;> with_reducible rfl))); (focus (intro w' hS; first | ((with_reducible refine (L _).mono ?_); rintro e w'' ⟨rfl, b⟩; refine ⟨?_, In1nx hS b⟩; with_reducible rfl) | ((with_reducible refine (M _).mono ?_); rintro e w'' ⟨rfl, b⟩; refine ⟨?_, In1nx hS b⟩; with_reducible rfl) | ((with_reducible refine (N _).mono ?_); rintro e w'' ⟨rfl, b⟩; refine ⟨?_, In1nx hS b⟩; with_reducible rfl))); try simp only [Act.put, List.setIfInBounds_toArray, List.set_cons_zero, List.set_cons_succ]))
      refine PlanL.nil ?_
      intro w' hS
      obtain ⟨_, y1, hA⟩ := id hS
      go_wp2
      all_goals go_ret
      all_goals exact ⟨rfl, hS.1⟩
    · have hy : mayB y = false := by rw [hx] at hxy; simpa using hxy
      rw [hx] at X
      rw [hy] at Y
      clear hxy hx hy
      cases fm
      all_goals
      go_enter Try.func3, Try.ntmps3
      go_wp2_with (first | (go_at_call 10; ((with_reducible refine (P _).mono ?_); rintro e w' ⟨rfl, b⟩; (first | have I := In1nx I b | have I := In1nx (In1dr I) b); obtain ⟨_, y1, hA⟩ := id I)) | (go_at_call 11; ((with_reducible refine (R _).mono ?_); rintro e w' ⟨rfl, b⟩; (first | have I := In1nx I b | have I := In1nx (In1dr I) b); obtain ⟨_, y1, hA⟩ := id I)) | (go_at_call 12; ((with_reducible refine (O _).mono ?_); rintro e w' ⟨rfl, b⟩; (first | have I := In1nx I b | have I := In1nx (In1dr I) b); obtain ⟨_, y1, hA⟩ := id I)) | (go_at_call 10; ((with_reducible refine (S _).mono ?_); rintro e w' ⟨rfl, b⟩; (first | have I := In1nx I b | have I := In1nx (In1dr I) b); obtain ⟨_, y1, hA⟩ := id I)) | (go_at_call 13; ((with_reducible refine (X _).mono ?_); rintro e w' ⟨rfl, rfl⟩)) | (go_at_call 13; ((with_reducible refine (Y _).mono ?_); rintro e w' ⟨rfl, rfl⟩)))
      refine wp_region_plan (fun w' => In1M w w' A.x0 A.y0 A.x1 A.y1) _ rfl (by kernel_rfl) (by kernel_rfl) (In1dr I) ?_
      repeat (first
        | (refine PlanL.skip (by rfl) ?_; simp only [Act.put, List.setIfInBounds_toArray, List.set_cons_zero, List.set_cons_succ])
        | (refine PlanL.val (v := ?_) (by rfl) ?_ ?_; rotate_left; (focus (intro w' hS; obtain ⟨_, y1, hA⟩ := id hS; go_simp <;> with_reducible rfl)); try simp only [Act.put, List.setIfInBounds_toArray, List.set_cons_zero, List.set_cons_succ])
        | (refine PlanL.call (v := ?_) (f := ?_) (args := ?_) (by rfl) ?_ ?_ ?_; rotate_left 3; (focus (intro w' hS; obtain ⟨_, y1, hA⟩ := id hS; go_simp; (constructor <;> with_reducible rfl))); (focus (intro w' hS; first | ((with_reducible refine (L _).mono ?_); rintro e w'' ⟨rfl, b⟩; refine ⟨?_, In1nx hS b⟩; with_reducible rfl) | ((with_reducible refine (M _).mono ?_); rintro e w'' ⟨rfl, b⟩; refine ⟨?_, In1nx hS b⟩; with_reducible rfl) | ((with_reducible refine (N _).mono ?_); rintro e w'' ⟨rfl, b⟩; refine ⟨?_, In1nx hS b⟩; with_reducible rfl))); try simp only [Act.put, List.setIfInBounds_toArray, List.set_cons_zero, List.set_cons_succ]))
      refine PlanL.nil ?_
      intro w' hS
      obtain ⟨_, y1, hA⟩ := id hS
      go_wp2
      all_goals go_ret
      all_goals exact ⟨rfl, hS.1⟩
  · have S := fun w => one_apply x y hxy w
    rw [Bool.and_eq_true] at hxy
    rw [hxy.1] at X
    rw [hxy.2] at Y
    clear hxy
    cases fm
    all_goals
      go_enter Try.func3, Try.ntmps3
      go_wp2_with (first | (go_at_call 10; ((with_reducible refine (P _).mono ?_); rintro e w' ⟨rfl, b⟩; (first | have I := In1nx I b | have I := In1nx (In1dr I) b); obtain ⟨_, y1, hA⟩ := id I)) | (go_at_call 11; ((with_reducible refine (R _).mono ?_); rintro e w' ⟨rfl, b⟩; (first | have I := In1nx I b | have I := In1nx (In1dr I) b); obtain ⟨_, y1, hA⟩ := id I)) | (go_at_call 12; ((with_reducible refine (O _).mono ?_); rintro e w' ⟨rfl, b⟩; (first | have I := In1nx I b | have I := In1nx (In1dr I) b); obtain ⟨_, y1, hA⟩ := id I)) | (go_at_call 10; ((with_reducible refine (S _).mono ?_); rintro e w' ⟨rfl, b⟩; (first | have I := In1nx I b | have I := In1nx (In1dr I) b); obtain ⟨_, y1, hA⟩ := id I)) | (go_at_call 13; ((with_reducible refine (X _).mono ?_); rintro e w' ⟨rfl, rfl⟩)) | (go_at_call 13; ((with_reducible refine (Y _).mono ?_); rintro e w' ⟨rfl, rfl⟩)))
      refine wp_region_plan (fun w' => In1M w w' A.x0 A.y0 A.x1 A.y1) _ rfl (by kernel_rfl) (by kernel_rfl) (In1dr I) ?_
      repeat (first
        | (refine PlanL.skip (by rfl) ?_; simp only [Act.put, List.setIfInBounds_toArray, List.set_cons_zero, List.set_cons_succ])
        | (refine PlanL.val (v := ?_) (by rfl) ?_ ?_; rotate_left; (focus (intro w' hS; obtain ⟨_, y1, hA⟩ := id hS; go_simp <;> with_reducible rfl)); try simp only [Act.put, List.setIfInBounds_toArray, List.set_cons_zero, List.set_cons_succ])
        | (refine PlanL.call (v := ?_) (f := ?_) (args := ?_) (by rfl) ?_ ?_ ?_; rotate_left 3; (focus (intro w' hS; obtain ⟨_, y1, hA⟩ := id hS; go_simp; (constructor <;> with_reducible rfl))); (focus (intro w' hS; first | ((with_reducible refine (L _).mono ?_); rintro e w'' ⟨rfl, b⟩; refine ⟨?_, In1nx hS b⟩; with_reducible rfl) | ((with_reducible refine (M _).mono ?_); rintro e w'' ⟨rfl, b⟩; refine ⟨?_, In1nx hS b⟩; with_reducible rfl) | ((with_reducible refine (N _).mono ?_); rintro e w'' ⟨rfl, b⟩; refine ⟨?_, In1nx hS b⟩; with_reducible rfl))); try simp only [Act.put, List.setIfInBounds_toArray, List.set_cons_zero, List.set_cons_succ]))
      refine PlanL.nil ?_
      intro w' hS
      obtain ⟨_, y1, hA⟩ := id hS
      go_wp2
      all_goals go_ret
      all_goals exact ⟨rfl, hS.1⟩

set_option linter.unusedVariables false in
set_option maxRecDepth 100000 in
theorem lifted (os : Os) (started : os.Started) (H : Type) (enc : TypeId × Value → H) :
    ReturnsInHanded {} Try.checked os 3 .any (Rows.affineAppliesSpec.pre6 enc Try.prog Try.f3 Rows.affineAppliesRow.domain false) (Rows.affineAppliesSpec.post enc Try.prog Try.f3 false true false false) := by
  refine returnsInHanded_of_change (C := Try.checked) Try.own started (by kernel_rfl) Try.func3
    (ChangeSpec.witness6 (enc := enc) (C := Try.checked) false ⟨#[], #[.agg #[.int .i64 0, .int .i64 0, .int .i64 0, .int .i64 0], .int .i64 0, .int .i64 0], []⟩ 8 (by kernel_rfl) (by kernel_rfl) (by kernel_rfl) (by kernel_rfl)) ?_
  intro W base args ds gs before hval0 hW hcnd _
  have hval : ∀ (j : Nat) t v, Try.f3.params[j]? = some t → args[j]? = some v → Value.okWide Try.prog W .any base t v := hval0
  have hW' := hW
  obtain ⟨p, q, hA0, hV, rfl, hfz, hnd⟩ := hW
  have hA : DataW.TrodAll enc Try.prog W 0 (fun _ => true) true Try.f3.params.toList args.toList ds p := hA0
  rw [Try.params3] at hA hval
  obtain ⟨v0, vs0, d0, ds0, p0, q0, hargs, rfl, rfl, h0, r0⟩ := trodAll_cons hA
  obtain ⟨v1, vs1, d1, ds1, p1, q1, rfl, rfl, rfl, h1, r1⟩ := trodAll_cons r0
  obtain ⟨v2, vs2, d2, ds2, p2, q2, rfl, rfl, rfl, h2, r2⟩ := trodAll_cons r1
  obtain ⟨rfl, rfl, rfl⟩ := trodAll_nil r2
  obtain rfl : args = #[v0, v1, v2] := by cases args; simp_all
  obtain ⟨rfl, rfl⟩ := trodVars_none hV
  obtain ⟨a0, b0, c0, e0, rfl, wa0, wb0, wc0, we0⟩ := open_four Try.underlying23 (by kernel_rfl) Try.cellsM Try.underlying3 Try.underlying3 Try.underlying3 Try.underlying3 (hval 0 23 v0 rfl rfl) h0
  obtain ⟨a1, rfl, rfl, rfl, w1⟩ := open_int Try.underlying3 (hval 1 3 v1 rfl rfl) h1
  obtain ⟨a2, rfl, rfl, rfl, w2⟩ := open_int Try.underlying3 (hval 2 3 v2 rfl rfl) h2
  clear hA0 hval0
  simp only [List.append_nil] at hW'
  refine (walk ⟨a0, b0, c0, e0⟩ ⟨wa0, wb0, wc0, we0⟩ a1 w1 a2 w2 W).mono fun e W' ⟨he, hg⟩ => ?_
  subst he
  exact ⟨_, rfl, law_post Try.laidOut rfl Try.underlying4 (by kernel_rfl) rfl rfl rfl rfl hW' hg⟩

theorem over : Rows.affineAppliesRow.holds Try.pinned (OpenSpec.ofChange Rows.affineAppliesSpec) :=
  OpenClaim.holds_of_wide 3 Try.f3 rfl rfl rfl rfl rfl rfl rfl ⟨rfl, rfl, rfl, rfl, rfl⟩ rfl rfl rfl rfl rfl (by kernel_rfl) Try.func3 (by kernel_rfl)
    (of_decide_eq_true (by kernel_rfl)) (by unfold Func.isWrapper; first | (rw [if_pos (by decide +kernel)]; kernel_rfl) | (rw [if_neg (by decide +kernel)]; exact ⟨rfl, rfl⟩))
    (fun os started H enc _ => lifted os started H enc)

theorem proved : Rows.AffineAppliesSaid :=
  over

end Go.Proofs.Ytdbnjlmkbmfhkaa.affineApplies
