/- FixedNears: the nearest whole number to any quotient is within a half of it; for every two ints. -/
import Derived.Test.YtpodlcjahfdpmaaLaw
import Derived.Test.YtpodlcjahfdpmaaLives1
import Derived.Test.YtpodlcjahfdpmaaFix3
namespace Go.Proofs.Ytpodlcjahfdpmaa.fixedNears
open Go.ChangeShapes Go.WideShapes Go.ChangeAt Go.RowKit

theorem walk (a0 : Int) (w0 : (Lit.int .i64 a0).wf = true) (a1 : Int) (w1 : (Lit.int .i64 a1).wf = true) (w : World) :
    Calls Try.prog 7 #[.int .i64 a0, .int .i64 a1] w fun e w' => e = .returned (.bool true) ∧ Below w.heap.size w w' := by
  have lo0 : -9223372036854775808 ≤ a0 := by have h := w0; simp only [Lit.wf, Bool.and_eq_true, decide_eq_true_eq] at h; exact h.1
  have hi0 : a0 ≤ 9223372036854775807 := by have h := w0; simp only [Lit.wf, Bool.and_eq_true, decide_eq_true_eq] at h; exact h.2
  have lo1 : -9223372036854775808 ≤ a1 := by have h := w1; simp only [Lit.wf, Bool.and_eq_true, decide_eq_true_eq] at h; exact h.1
  have hi1 : a1 ≤ 9223372036854775807 := by have h := w1; simp only [Lit.wf, Bool.and_eq_true, decide_eq_true_eq] at h; exact h.2
  clear w0 w1
  have L := fun w => lives1 w
  by_cases hb : a1 < 1
  · have N := fun w => near_arg a0 a1 w hb
    go_enter Try.func7, Try.ntmps7
    go_wp2_with (first | (go_at_call 28; refine (N _).mono ?_; rintro e w' ⟨rfl, rfl⟩) | (go_at_call 19; refine (L _).mono ?_; rintro e w1 ⟨rfl, b1⟩))
    go_ret
    exact ⟨rfl, b1⟩
  · by_cases hov : a0 < -2305843009213693952 ∨ a0 > 2305843009213693952 ∨ a1 > 2305843009213693952
    · have N := fun w => near_over a0 a1 w hb hov
      have hb' : 1 ≤ a1 := by omega
      by_cases h1 : a0 < -2305843009213693952 <;> by_cases h2 : a0 > 2305843009213693952 <;> by_cases h3 : a1 > 2305843009213693952
      all_goals first | (exfalso; omega) | skip
      all_goals clear hov
      all_goals
        go_enter Try.func7, Try.ntmps7
        go_wp2_with (first | (go_at_call 28; refine (N _).mono ?_; rintro e w' ⟨rfl, rfl⟩) | (go_at_call 19; refine (L _).mono ?_; rintro e w1 ⟨rfl, b1⟩))
        go_ret
        exact ⟨rfl, b1⟩
    · have N := fun w => near_ok a0 a1 w (by omega) (by omega) (by omega) (by omega)
      have R := fun w => rnear_ok a0 a1 w (by omega) (by omega) (by omega) (by omega)
      have c1 : 1 ≤ a1 := by omega
      have c2 : -2305843009213693952 ≤ a0 := by omega
      have c3 : a0 ≤ 2305843009213693952 := by omega
      have c4 : a1 ≤ 2305843009213693952 := by omega
      have hq := near_spec a0 a1 c1
      generalize near a0 a1 = z at N R hq
      obtain ⟨q1, q2⟩ := hq
      have q3 : -9223372036854775808 ≤ z * a1 := by omega
      have q4 : z * a1 ≤ 9223372036854775807 := by omega
      clear hb hov
      go_enter Try.func7, Try.ntmps7
      go_wp2_with (first | (go_at_call 28; refine (N _).mono ?_; rintro e w' ⟨rfl, k, rfl⟩) | (go_at_call 19; refine (L _).mono ?_; rintro e w1 ⟨rfl, b1⟩) | (go_at_call 29; refine (R _).mono ?_; rintro e w' ⟨rfl, rfl⟩))
      go_ret
      exact ⟨rfl, below_next (below_drewN (Below.refl _ _) _) b1⟩

set_option linter.unusedVariables false in
set_option maxRecDepth 100000 in
theorem lifted (os : Os) (started : os.Started) (H : Type) (enc : TypeId × Value → H) :
    ReturnsInHanded {} Try.checked os 7 .any (Rows.fixedNearsSpec.pre6 enc Try.prog Try.f7 Rows.fixedNearsRow.domain false) (Rows.fixedNearsSpec.post enc Try.prog Try.f7 false true false false) := by
  refine returnsInHanded_of_change (C := Try.checked) Try.own started (by kernel_rfl) Try.func7
    (ChangeSpec.witness6 (enc := enc) (C := Try.checked) false ⟨#[], #[.int .i64 0, .int .i64 0], []⟩ 8 (by kernel_rfl) (by kernel_rfl) (by kernel_rfl) (by kernel_rfl)) ?_
  intro W base args ds gs before hval0 hW hcnd _
  have hval : ∀ (j : Nat) t v, Try.f7.params[j]? = some t → args[j]? = some v → Value.okWide Try.prog W .any base t v := hval0
  have hW' := hW
  obtain ⟨p, q, hA0, hV, rfl, hfz, hnd⟩ := hW
  have hA : DataW.TrodAll enc Try.prog W 0 (fun _ => true) true Try.f7.params.toList args.toList ds p := hA0
  rw [Try.params7] at hA hval
  obtain ⟨v0, vs0, d0, ds0, p0, q0, hargs, rfl, rfl, h0, r0⟩ := trodAll_cons hA
  obtain ⟨v1, vs1, d1, ds1, p1, q1, rfl, rfl, rfl, h1, r1⟩ := trodAll_cons r0
  obtain ⟨rfl, rfl, rfl⟩ := trodAll_nil r1
  obtain rfl : args = #[v0, v1] := by cases args; simp_all
  obtain ⟨rfl, rfl⟩ := trodVars_none hV
  obtain ⟨a0, rfl, rfl, rfl, w0⟩ := open_int Try.underlying3 (hval 0 3 v0 rfl rfl) h0
  obtain ⟨a1, rfl, rfl, rfl, w1⟩ := open_int Try.underlying3 (hval 1 3 v1 rfl rfl) h1
  clear hA0 hval0
  simp only [List.append_nil] at hW'
  refine (walk a0 w0 a1 w1 W).mono fun e W' ⟨he, hg⟩ => ?_
  subst he
  exact ⟨_, rfl, law_post Try.laidOut rfl Try.underlying4 (by kernel_rfl) rfl rfl rfl rfl hW' hg⟩

theorem over : Rows.fixedNearsRow.holds Try.pinned (OpenSpec.ofChange Rows.fixedNearsSpec) :=
  OpenClaim.holds_of_wide 7 Try.f7 rfl rfl rfl rfl rfl rfl rfl ⟨rfl, rfl, rfl, rfl, rfl⟩ rfl rfl rfl rfl rfl (by kernel_rfl) Try.func7 (by kernel_rfl)
    (of_decide_eq_true (by kernel_rfl)) (by unfold Func.isWrapper; first | (rw [if_pos (by decide +kernel)]; kernel_rfl) | (rw [if_neg (by decide +kernel)]; exact ⟨rfl, rfl⟩))
    (fun os started H enc _ => lifted os started H enc)

theorem proved : Rows.FixedNearsSaid :=
  over

end Go.Proofs.Ytpodlcjahfdpmaa.fixedNears
