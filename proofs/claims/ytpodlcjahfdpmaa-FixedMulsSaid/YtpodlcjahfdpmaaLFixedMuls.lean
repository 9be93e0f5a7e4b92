/- FixedMuls: products are the document's, and a product with 1 is the number; for every two ints. -/
import Derived.Test.YtpodlcjahfdpmaaLaw
import Derived.Test.YtpodlcjahfdpmaaLives1
import Derived.Test.YtpodlcjahfdpmaaRef2
namespace Go.Proofs.Ytpodlcjahfdpmaa.fixedMuls
open Go.ChangeShapes Go.WideShapes Go.ChangeAt Go.RowKit

theorem mul_comm_R (a b : Int) : mdR a b 65536 = mdR b a 65536 := by unfold mdR; rw [Int.mul_comm a b, Bool.and_comm (mayB a) (mayB b)]
theorem mul_comm_E (a b : Int) : mdE a b 65536 = mdE b a 65536 := by unfold mdE; rw [Int.mul_comm a b, Bool.and_comm (mayB a) (mayB b)]
theorem mul_one (a : Int) (h : mayB a = true) : mdR a 65536 65536 = a ∧ mdE a 65536 65536 = 0 := by
  have e : near (a * 65536) 65536 = a := near_pos (by omega) (by omega) (by omega)
  have hz : mayB 65536 = true := by decide
  unfold mdR mdE
  rw [h, hz, e]
  simp [outR, outE, h]

set_option linter.unusedVariables false in
theorem walk (a0 : Int) (w0 : (Lit.int .i64 a0).wf = true) (a1 : Int) (w1 : (Lit.int .i64 a1).wf = true) (w : World) :
    Calls Try.prog 4 #[.int .i64 a0, .int .i64 a1] w fun e w' => e = .returned (.bool true) ∧ Below w.heap.size w w' := by
  clear w0 w1
  have L := fun w => lives1 w
  have A := fun w => mul_any a0 a1 w
  have R := fun w => rmul_any a0 a1 w
  have T := fun w => mul_any a1 a0 w
  have U := fun w => mul_any a0 65536 w
  have RM := fun w => may_ref a0 w
  rw [← mul_comm_R a0 a1, ← mul_comm_E a0 a1] at T
  by_cases hm : mayB a0 = true
  · rw [(mul_one a0 hm).1, (mul_one a0 hm).2] at U
    rw [hm] at RM
    clear hm
    generalize mdR a0 a1 65536 = s at A R T
    generalize mdE a0 a1 65536 = f at A R T
    go_enter Try.func4, Try.ntmps4
    go_wp2_with fail
    refine (A _).mono ?_; rintro e wa ⟨rfl, ba⟩
    go_wp2_with (go_at_call 23; refine (R _).mono ?_; rintro e w' ⟨rfl, rfl⟩)
    refine (T _).mono ?_; rintro e wt ⟨rfl, bt⟩
    go_wp2_with fail
    refine (U _).mono ?_; rintro e wu ⟨rfl, bu⟩
    go_wp2_with (first | (go_at_call 19; refine (L _).mono ?_; rintro e wl ⟨rfl, bl⟩) | (go_at_call 21; refine (RM _).mono ?_; rintro e w' ⟨rfl, rfl⟩))
    all_goals go_ret
    all_goals exact ⟨rfl, below_next (below_next (below_next ba bt) bu) bl⟩
  · have hm : mayB a0 = false := by simpa using hm
    rw [hm] at RM
    clear hm
    generalize mdR a0 a1 65536 = s at A R T
    generalize mdE a0 a1 65536 = f at A R T
    generalize mdR a0 65536 65536 = s1 at U
    generalize mdE a0 65536 65536 = f1 at U
    go_enter Try.func4, Try.ntmps4
    go_wp2_with fail
    refine (A _).mono ?_; rintro e wa ⟨rfl, ba⟩
    go_wp2_with (go_at_call 23; refine (R _).mono ?_; rintro e w' ⟨rfl, rfl⟩)
    refine (T _).mono ?_; rintro e wt ⟨rfl, bt⟩
    go_wp2_with fail
    refine (U _).mono ?_; rintro e wu ⟨rfl, bu⟩
    go_wp2_with (first | (go_at_call 19; refine (L _).mono ?_; rintro e wl ⟨rfl, bl⟩) | (go_at_call 21; refine (RM _).mono ?_; rintro e w' ⟨rfl, rfl⟩))
    all_goals go_ret
    all_goals exact ⟨rfl, below_next (below_next (below_next ba bt) bu) bl⟩

set_option linter.unusedVariables false in
set_option maxRecDepth 100000 in
theorem lifted (os : Os) (started : os.Started) (H : Type) (enc : TypeId × Value → H) :
    ReturnsInHanded {} Try.checked os 4 .any (Rows.fixedMulsSpec.pre6 enc Try.prog Try.f4 Rows.fixedMulsRow.domain false) (Rows.fixedMulsSpec.post enc Try.prog Try.f4 false true false false) := by
  refine returnsInHanded_of_change (C := Try.checked) Try.own started (by kernel_rfl) Try.func4
    (ChangeSpec.witness6 (enc := enc) (C := Try.checked) false ⟨#[], #[.int .i64 0, .int .i64 0], []⟩ 8 (by kernel_rfl) (by kernel_rfl) (by kernel_rfl) (by kernel_rfl)) ?_
  intro W base args ds gs before hval0 hW hcnd _
  have hval : ∀ (j : Nat) t v, Try.f4.params[j]? = some t → args[j]? = some v → Value.okWide Try.prog W .any base t v := hval0
  have hW' := hW
  obtain ⟨p, q, hA0, hV, rfl, hfz, hnd⟩ := hW
  have hA : DataW.TrodAll enc Try.prog W 0 (fun _ => true) true Try.f4.params.toList args.toList ds p := hA0
  rw [Try.params4] at hA hval
  obtain ⟨v0, vs0, d0, ds0, p0, q0, hargs, rfl, rfl, h0, r0⟩ := trodAll_cons hA
  obtain ⟨v1, vs1, d1, ds1, p1, q1, rfl, rfl, rfl, h1, r1⟩ := trodAll_cons r0
  obtain ⟨rfl, rfl, rfl⟩ := trodAll_nil r1
  obtain rfl : args = #[v0, v1] := by cases args; simp_all
  obtain ⟨rfl, rfl⟩ := trodVars_none hV
  obtain ⟨a0, rfl, rfl, rfl, w0⟩ := open_int Try.underlying3 (hval 0 3 v0 rfl rfl) h0
  obtain ⟨a1, rfl, rfl, rfl, w1⟩ := open_int Try.underlying3 (hval 1 3 v1 rfl rfl) h1
  clear hA0 hval0
  simp only [List.append_nil] at hW'
  refine (walk a0 w0 a1 w1 W).mono fun e W' ⟨he, hg⟩ => ?_
  subst he
  exact ⟨_, rfl, law_post Try.laidOut rfl Try.underlying4 (by kernel_rfl) rfl rfl rfl rfl hW' hg⟩

theorem over : Rows.fixedMulsRow.holds Try.pinned (OpenSpec.ofChange Rows.fixedMulsSpec) :=
  OpenClaim.holds_of_wide 4 Try.f4 rfl rfl rfl rfl rfl rfl rfl ⟨rfl, rfl, rfl, rfl, rfl⟩ rfl rfl rfl rfl rfl (by kernel_rfl) Try.func4 (by kernel_rfl)
    (of_decide_eq_true (by kernel_rfl)) (by unfold Func.isWrapper; first | (rw [if_pos (by decide +kernel)]; kernel_rfl) | (rw [if_neg (by decide +kernel)]; exact ⟨rfl, rfl⟩))
    (fun os started H enc _ => lifted os started H enc)

theorem proved : Rows.FixedMulsSaid :=
  over

end Go.Proofs.Ytpodlcjahfdpmaa.fixedMuls
