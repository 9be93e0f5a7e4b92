/- FixedAdds: sums and differences are the document's, and what was added can be taken away; for every two ints. -/
import Derived.Test.YtpodlcjahfdpmaaLaw
import Derived.Test.YtpodlcjahfdpmaaLives1
import Derived.Test.YtpodlcjahfdpmaaRef1
namespace Go.Proofs.Ytpodlcjahfdpmaa.fixedAdds
open Go.ChangeShapes Go.WideShapes Go.ChangeAt Go.RowKit

theorem add_any (a b : Int) (w : World) : Calls Try.prog 15 #[.int .i64 a, .int .i64 b] w fun e w' => e = .returned (.tuple #[.int .i64 (if mayB a && mayB b then outR (a + b) else 0), .int .i64 (if mayB a && mayB b then outE (a + b) else 10)]) ∧ Below w.heap.size w w' := by
  by_cases h : (mayB a && mayB b) = true
  · rw [if_pos h, if_pos h]; exact add_yes a b w h
  · rw [if_neg h, if_neg h]; exact add_no a b w (by simpa using h)
theorem sub_any (a b : Int) (w : World) : Calls Try.prog 16 #[.int .i64 a, .int .i64 b] w fun e w' => e = .returned (.tuple #[.int .i64 (if mayB a && mayB b then outR (a - b) else 0), .int .i64 (if mayB a && mayB b then outE (a - b) else 10)]) ∧ Below w.heap.size w w' := by
  by_cases h : (mayB a && mayB b) = true
  · rw [if_pos h, if_pos h]; exact sub_yes a b w h
  · rw [if_neg h, if_neg h]; exact sub_no a b w (by simpa using h)
theorem radd_any (a b : Int) (w : World) : Calls Try.prog 17 #[.int .i64 a, .int .i64 b] w fun e w' => e = .returned (.tuple #[.int .i64 (if mayB a && mayB b then outR (a + b) else 0), .int .i64 (if mayB a && mayB b then outE (a + b) else 10)]) ∧ w = w' := by
  by_cases h : (mayB a && mayB b) = true
  · rw [if_pos h, if_pos h]; exact radd_yes a b w h
  · rw [if_neg h, if_neg h]; exact radd_no a b w (by simpa using h)
theorem rsub_any (a b : Int) (w : World) : Calls Try.prog 18 #[.int .i64 a, .int .i64 b] w fun e w' => e = .returned (.tuple #[.int .i64 (if mayB a && mayB b then outR (a - b) else 0), .int .i64 (if mayB a && mayB b then outE (a - b) else 10)]) ∧ w = w' := by
  by_cases h : (mayB a && mayB b) = true
  · rw [if_pos h, if_pos h]; exact rsub_yes a b w h
  · rw [if_neg h, if_neg h]; exact rsub_no a b w (by simpa using h)

theorem outE_is (x : Int) : outE x = 0 ∨ outE x = 10 := by unfold outE; split <;> simp

set_option linter.unusedVariables false in
theorem walk (a0 : Int) (w0 : (Lit.int .i64 a0).wf = true) (a1 : Int) (w1 : (Lit.int .i64 a1).wf = true) (w : World) :
    Calls Try.prog 3 #[.int .i64 a0, .int .i64 a1] w fun e w' => e = .returned (.bool true) ∧ Below w.heap.size w w' := by
  clear w0 w1
  have L := fun w => lives1 w
  have A := fun w => add_any a0 a1 w
  have S := fun w => sub_any a0 a1 w
  have RA := fun w => radd_any a0 a1 w
  have RS := fun w => rsub_any a0 a1 w
  have M := fun w => may_any a0 w
  have RM := fun w => may_ref a0 w
  by_cases hok : (mayB a0 && mayB a1) = true ∧ mayB (a0 + a1) = true
  · have U : ∀ w, Calls Try.prog 16 #[.int .i64 (a0 + a1), .int .i64 a1] w (fun e w' => e = .returned (.tuple #[.int .i64 a0, .int .i64 0]) ∧ Below w.heap.size w w') := fun w => by
      have h := sub_yes (a0 + a1) a1 w (by rw [hok.2]; have := hok.1; rw [Bool.and_eq_true] at this; rw [this.2]; rfl)
      have h0 : mayB a0 = true := by have := hok.1; rw [Bool.and_eq_true] at this; exact this.1
      rwa [show a0 + a1 - a1 = a0 by omega, show outR a0 = a0 by simp [outR, h0], show outE a0 = 0 by simp [outE, h0]] at h
    rw [if_pos hok.1, if_pos hok.1, show outR (a0 + a1) = a0 + a1 by simp [outR, hok.2], show outE (a0 + a1) = 0 by simp [outE, hok.2]] at A RA
    generalize (if (mayB a0 && mayB a1) = true then outR (a0 - a1) else 0) = s at S RS
    generalize (if (mayB a0 && mayB a1) = true then outE (a0 - a1) else 10) = f at S RS
    generalize a0 + a1 = z at A RA U
    clear hok
    generalize mayB a0 = m at M RM
    go_enter Try.func3, Try.ntmps3
    go_wp2_with (first | (go_at_call 15; refine (A _).mono ?_; rintro e wa ⟨rfl, ba⟩) | (go_at_call 16; ((with_reducible refine (S _).mono ?_); rintro e ws ⟨rfl, bs⟩)) | (go_at_call 16; ((with_reducible refine (U _).mono ?_); rintro e wu ⟨rfl, bu⟩)) | (go_at_call 17; refine (RA _).mono ?_; rintro e w' ⟨rfl, rfl⟩) | (go_at_call 18; refine (RS _).mono ?_; rintro e w' ⟨rfl, rfl⟩) | (go_at_call 19; refine (L _).mono ?_; rintro e wl ⟨rfl, bl⟩) | (go_at_call 20; refine (M _).mono ?_; rintro e w' ⟨rfl, rfl⟩) | (go_at_call 21; refine (RM _).mono ?_; rintro e w' ⟨rfl, rfl⟩))
    all_goals go_ret
    all_goals exact ⟨rfl, below_next (below_next (below_next ba bs) bl) bu⟩
  · have hE : (if (mayB a0 && mayB a1) = true then outE (a0 + a1) else 10) = 10 := by
      split
      · rename_i h; unfold outE; rw [if_neg (fun c => hok ⟨h, c⟩)]
      · rfl
    rw [hE] at A RA
    clear hok hE
    generalize (if (mayB a0 && mayB a1) = true then outR (a0 + a1) else 0) = t at A RA
    generalize (if (mayB a0 && mayB a1) = true then outR (a0 - a1) else 0) = s at S RS
    generalize (if (mayB a0 && mayB a1) = true then outE (a0 - a1) else 10) = f at S RS
    generalize mayB a0 = m at M RM
    go_enter Try.func3, Try.ntmps3
    go_wp2_with (first | (go_at_call 15; refine (A _).mono ?_; rintro e wa ⟨rfl, ba⟩) | (go_at_call 16; ((with_reducible refine (S _).mono ?_); rintro e ws ⟨rfl, bs⟩)) | (go_at_call 17; refine (RA _).mono ?_; rintro e w' ⟨rfl, rfl⟩) | (go_at_call 18; refine (RS _).mono ?_; rintro e w' ⟨rfl, rfl⟩) | (go_at_call 19; refine (L _).mono ?_; rintro e wl ⟨rfl, bl⟩) | (go_at_call 20; refine (M _).mono ?_; rintro e w' ⟨rfl, rfl⟩) | (go_at_call 21; refine (RM _).mono ?_; rintro e w' ⟨rfl, rfl⟩))
    all_goals go_ret
    all_goals exact ⟨rfl, below_next (below_next ba bs) bl⟩

set_option linter.unusedVariables false in
set_option maxRecDepth 100000 in
theorem lifted (os : Os) (started : os.Started) (H : Type) (enc : TypeId × Value → H) :
    ReturnsInHanded {} Try.checked os 3 .any (Rows.fixedAddsSpec.pre6 enc Try.prog Try.f3 Rows.fixedAddsRow.domain false) (Rows.fixedAddsSpec.post enc Try.prog Try.f3 false true false false) := by
  refine returnsInHanded_of_change (C := Try.checked) Try.own started (by kernel_rfl) Try.func3
    (ChangeSpec.witness6 (enc := enc) (C := Try.checked) false ⟨#[], #[.int .i64 0, .int .i64 0], []⟩ 8 (by kernel_rfl) (by kernel_rfl) (by kernel_rfl) (by kernel_rfl)) ?_
  intro W base args ds gs before hval0 hW hcnd _
  have hval : ∀ (j : Nat) t v, Try.f3.params[j]? = some t → args[j]? = some v → Value.okWide Try.prog W .any base t v := hval0
  have hW' := hW
  obtain ⟨p, q, hA0, hV, rfl, hfz, hnd⟩ := hW
  have hA : DataW.TrodAll enc Try.prog W 0 (fun _ => true) true Try.f3.params.toList args.toList ds p := hA0
  rw [Try.params3] at hA hval
  obtain ⟨v0, vs0, d0, ds0, p0, q0, hargs, rfl, rfl, h0, r0⟩ := trodAll_cons hA
  obtain ⟨v1, vs1, d1, ds1, p1, q1, rfl, rfl, rfl, h1, r1⟩ := trodAll_cons r0
  obtain ⟨rfl, rfl, rfl⟩ := trodAll_nil r1
  obtain rfl : args = #[v0, v1] := by cases args; simp_all
  obtain ⟨rfl, rfl⟩ := trodVars_none hV
  obtain ⟨a0, rfl, rfl, rfl, w0⟩ := open_int Try.underlying3 (hval 0 3 v0 rfl rfl) h0
  obtain ⟨a1, rfl, rfl, rfl, w1⟩ := open_int Try.underlying3 (hval 1 3 v1 rfl rfl) h1
  clear hA0 hval0
  simp only [List.append_nil] at hW'
  refine (walk a0 w0 a1 w1 W).mono fun e W' ⟨he, hg⟩ => ?_
  subst he
  exact ⟨_, rfl, law_post Try.laidOut rfl Try.underlying4 (by kernel_rfl) rfl rfl rfl rfl hW' hg⟩

theorem over : Rows.fixedAddsRow.holds Try.pinned (OpenSpec.ofChange Rows.fixedAddsSpec) :=
  OpenClaim.holds_of_wide 3 Try.f3 rfl rfl rfl rfl rfl rfl rfl ⟨rfl, rfl, rfl, rfl, rfl⟩ rfl rfl rfl rfl rfl (by kernel_rfl) Try.func3 (by kernel_rfl)
    (of_decide_eq_true (by kernel_rfl)) (by unfold Func.isWrapper; first | (rw [if_pos (by decide +kernel)]; kernel_rfl) | (rw [if_neg (by decide +kernel)]; exact ⟨rfl, rfl⟩))
    (fun os started H enc _ => lifted os started H enc)

theorem proved : Rows.FixedAddsSaid :=
  over

end Go.Proofs.Ytpodlcjahfdpmaa.fixedAdds
