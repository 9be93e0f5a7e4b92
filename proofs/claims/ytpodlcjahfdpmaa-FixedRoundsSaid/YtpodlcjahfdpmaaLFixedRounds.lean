/- FixedRounds: floor, ceil, the nearest, and the other forms are the document's; for every int. -/
import Derived.Test.YtpodlcjahfdpmaaLaw
import Derived.Test.YtpodlcjahfdpmaaLives1
namespace Go.Proofs.Ytpodlcjahfdpmaa.fixedRounds
open Go.ChangeShapes Go.WideShapes Go.ChangeAt Go.RowKit

set_option linter.unusedVariables false in
set_option maxHeartbeats 1600000 in
theorem walk (a0 : Int) (w0 : (Lit.int .i64 a0).wf = true) (w : World) :
    Calls Try.prog 8 #[.int .i64 a0] w fun e w' => e = .returned (.bool true) ∧ Below w.heap.size w w' := by
  have lo0 : -9223372036854775808 ≤ a0 := by have h := w0; simp only [Lit.wf, Bool.and_eq_true, decide_eq_true_eq] at h; exact h.1
  have hi0 : a0 ≤ 9223372036854775807 := by have h := w0; simp only [Lit.wf, Bool.and_eq_true, decide_eq_true_eq] at h; exact h.2
  clear w0
  have L := fun w => lives1 w
  have F := fun w => floor_ref a0 64 w (by omega) lo0 hi0
  have FF := fun w => floor26_any a0 w
  have C := fun w => ceil26_any a0 w lo0 hi0
  have R := fun w => round26_any a0 w lo0 hi0
  have RR := fun w => rround26_any a0 w lo0 hi0
  have O := fun w => to26_any a0 w lo0 hi0
  have RO := fun w => rto26_any a0 w lo0 hi0
  generalize (a0 + 32) / 64 = r at R RR
  generalize (a0 + 512) / 1024 = o at O RO
  have hfc : (64 * (a0 / 64) = a0 ∧ (a0 + 63) / 64 = a0 / 64) ∨ (¬ 64 * (a0 / 64) = a0 ∧ (a0 + 63) / 64 = a0 / 64 + 1) := by omega
  generalize hc : (a0 + 63) / 64 = c at C hfc
  clear hc
  have hf : -9223372036854775808 ≤ 64 * (a0 / 64) := by omega
  have hf2 : 64 * (a0 / 64) ≤ 9223372036854775807 := by omega
  generalize hff : a0 / 64 = f at F FF hfc hf hf2
  have hf3 : -9223372036854775800 ≤ f := by omega
  have hf4 : f ≤ 9223372036854775800 := by omega
  clear hff
  rcases (by omega : (a0 < -2097152 ∨ 2097152 < a0) ∨ (¬ (a0 < -2097152 ∨ 2097152 < a0) ∧ (a0 < -32768 ∨ 32768 < a0)) ∨ (-32768 ≤ a0 ∧ a0 ≤ 32768)) with hx | ⟨hx, hy⟩ | hx
  · have T := fun w => to16_no a0 w hx
    have W := fun w => whole_no a0 w (by omega)
    rcases hfc with ⟨h1, h2⟩ | ⟨h1, h2⟩
    · have hb : (64 * f != a0) = false := by simp [h1]
      rw [h2] at C
      clear h1 h2
      rcases hx with hx | hx
      · go_enter Try.func8, Try.ntmps8
        go_wp2_with (first | (go_at_call 30; refine (F _).mono ?_; rintro e w' ⟨rfl, rfl⟩) | (go_at_call 31; refine (T _).mono ?_; rintro e w' ⟨rfl, rfl⟩) | (go_at_call 32; refine (W _).mono ?_; rintro e w' ⟨rfl, rfl⟩) | (go_at_call 19; refine (L _).mono ?_; rintro e wl ⟨rfl, bl⟩) | (go_at_call 33; refine (FF _).mono ?_; rintro e w' ⟨rfl, rfl⟩) | (go_at_call 34; refine (C _).mono ?_; rintro e w' ⟨rfl, rfl⟩) | (go_at_call 35; refine (R _).mono ?_; rintro e w' ⟨rfl, k1, rfl⟩) | (go_at_call 36; refine (RR _).mono ?_; rintro e w' ⟨rfl, rfl⟩) | (go_at_call 37; refine (O _).mono ?_; rintro e w' ⟨rfl, k2, rfl⟩) | (go_at_call 38; refine (RO _).mono ?_; rintro e w' ⟨rfl, rfl⟩))
        all_goals go_ret
        all_goals exact ⟨rfl, below_drewN bl _⟩
      · have hx2 : ¬ a0 < -2097152 := by omega
        go_enter Try.func8, Try.ntmps8
        go_wp2_with (first | (go_at_call 30; refine (F _).mono ?_; rintro e w' ⟨rfl, rfl⟩) | (go_at_call 31; refine (T _).mono ?_; rintro e w' ⟨rfl, rfl⟩) | (go_at_call 32; refine (W _).mono ?_; rintro e w' ⟨rfl, rfl⟩) | (go_at_call 19; refine (L _).mono ?_; rintro e wl ⟨rfl, bl⟩) | (go_at_call 33; refine (FF _).mono ?_; rintro e w' ⟨rfl, rfl⟩) | (go_at_call 34; refine (C _).mono ?_; rintro e w' ⟨rfl, rfl⟩) | (go_at_call 35; refine (R _).mono ?_; rintro e w' ⟨rfl, k1, rfl⟩) | (go_at_call 36; refine (RR _).mono ?_; rintro e w' ⟨rfl, rfl⟩) | (go_at_call 37; refine (O _).mono ?_; rintro e w' ⟨rfl, k2, rfl⟩) | (go_at_call 38; refine (RO _).mono ?_; rintro e w' ⟨rfl, rfl⟩))
        all_goals go_ret
        all_goals exact ⟨rfl, below_drewN bl _⟩
    · have hb : (64 * f != a0) = true := by simp [h1]
      rw [h2] at C
      clear h1 h2
      rcases hx with hx | hx
      · go_enter Try.func8, Try.ntmps8
        go_wp2_with (first | (go_at_call 30; refine (F _).mono ?_; rintro e w' ⟨rfl, rfl⟩) | (go_at_call 31; refine (T _).mono ?_; rintro e w' ⟨rfl, rfl⟩) | (go_at_call 32; refine (W _).mono ?_; rintro e w' ⟨rfl, rfl⟩) | (go_at_call 19; refine (L _).mono ?_; rintro e wl ⟨rfl, bl⟩) | (go_at_call 33; refine (FF _).mono ?_; rintro e w' ⟨rfl, rfl⟩) | (go_at_call 34; refine (C _).mono ?_; rintro e w' ⟨rfl, rfl⟩) | (go_at_call 35; refine (R _).mono ?_; rintro e w' ⟨rfl, k1, rfl⟩) | (go_at_call 36; refine (RR _).mono ?_; rintro e w' ⟨rfl, rfl⟩) | (go_at_call 37; refine (O _).mono ?_; rintro e w' ⟨rfl, k2, rfl⟩) | (go_at_call 38; refine (RO _).mono ?_; rintro e w' ⟨rfl, rfl⟩))
        all_goals go_ret
        all_goals exact ⟨rfl, below_drewN bl _⟩
      · have hx2 : ¬ a0 < -2097152 := by omega
        go_enter Try.func8, Try.ntmps8
        go_wp2_with (first | (go_at_call 30; refine (F _).mono ?_; rintro e w' ⟨rfl, rfl⟩) | (go_at_call 31; refine (T _).mono ?_; rintro e w' ⟨rfl, rfl⟩) | (go_at_call 32; refine (W _).mono ?_; rintro e w' ⟨rfl, rfl⟩) | (go_at_call 19; refine (L _).mono ?_; rintro e wl ⟨rfl, bl⟩) | (go_at_call 33; refine (FF _).mono ?_; rintro e w' ⟨rfl, rfl⟩) | (go_at_call 34; refine (C _).mono ?_; rintro e w' ⟨rfl, rfl⟩) | (go_at_call 35; refine (R _).mono ?_; rintro e w' ⟨rfl, k1, rfl⟩) | (go_at_call 36; refine (RR _).mono ?_; rintro e w' ⟨rfl, rfl⟩) | (go_at_call 37; refine (O _).mono ?_; rintro e w' ⟨rfl, k2, rfl⟩) | (go_at_call 38; refine (RO _).mono ?_; rintro e w' ⟨rfl, rfl⟩))
        all_goals go_ret
        all_goals exact ⟨rfl, below_drewN bl _⟩
  · have T := fun w => to16_ok a0 w (by omega) (by omega)
    have W := fun w => whole_no a0 w hy
    have g1 : -2097152 ≤ a0 := by omega
    have g2 : a0 ≤ 2097152 := by omega
    clear hx
    rcases hfc with ⟨h1, h2⟩ | ⟨h1, h2⟩
    · have hb : (64 * f != a0) = false := by simp [h1]
      rw [h2] at C
      clear h1 h2
      rcases hy with hy | hy
      · go_enter Try.func8, Try.ntmps8
        go_wp2_with (first | (go_at_call 30; refine (F _).mono ?_; rintro e w' ⟨rfl, rfl⟩) | (go_at_call 31; refine (T _).mono ?_; rintro e w' ⟨rfl, rfl⟩) | (go_at_call 32; refine (W _).mono ?_; rintro e w' ⟨rfl, rfl⟩) | (go_at_call 19; refine (L _).mono ?_; rintro e wl ⟨rfl, bl⟩) | (go_at_call 33; refine (FF _).mono ?_; rintro e w' ⟨rfl, rfl⟩) | (go_at_call 34; refine (C _).mono ?_; rintro e w' ⟨rfl, rfl⟩) | (go_at_call 35; refine (R _).mono ?_; rintro e w' ⟨rfl, k1, rfl⟩) | (go_at_call 36; refine (RR _).mono ?_; rintro e w' ⟨rfl, rfl⟩) | (go_at_call 37; refine (O _).mono ?_; rintro e w' ⟨rfl, k2, rfl⟩) | (go_at_call 38; refine (RO _).mono ?_; rintro e w' ⟨rfl, rfl⟩))
        all_goals go_ret
        all_goals exact ⟨rfl, below_drewN bl _⟩
      · have hy2 : ¬ a0 < -32768 := by omega
        go_enter Try.func8, Try.ntmps8
        go_wp2_with (first | (go_at_call 30; refine (F _).mono ?_; rintro e w' ⟨rfl, rfl⟩) | (go_at_call 31; refine (T _).mono ?_; rintro e w' ⟨rfl, rfl⟩) | (go_at_call 32; refine (W _).mono ?_; rintro e w' ⟨rfl, rfl⟩) | (go_at_call 19; refine (L _).mono ?_; rintro e wl ⟨rfl, bl⟩) | (go_at_call 33; refine (FF _).mono ?_; rintro e w' ⟨rfl, rfl⟩) | (go_at_call 34; refine (C _).mono ?_; rintro e w' ⟨rfl, rfl⟩) | (go_at_call 35; refine (R _).mono ?_; rintro e w' ⟨rfl, k1, rfl⟩) | (go_at_call 36; refine (RR _).mono ?_; rintro e w' ⟨rfl, rfl⟩) | (go_at_call 37; refine (O _).mono ?_; rintro e w' ⟨rfl, k2, rfl⟩) | (go_at_call 38; refine (RO _).mono ?_; rintro e w' ⟨rfl, rfl⟩))
        all_goals go_ret
        all_goals exact ⟨rfl, below_drewN bl _⟩
    · have hb : (64 * f != a0) = true := by simp [h1]
      rw [h2] at C
      clear h1 h2
      rcases hy with hy | hy
      · go_enter Try.func8, Try.ntmps8
        go_wp2_with (first | (go_at_call 30; refine (F _).mono ?_; rintro e w' ⟨rfl, rfl⟩) | (go_at_call 31; refine (T _).mono ?_; rintro e w' ⟨rfl, rfl⟩) | (go_at_call 32; refine (W _).mono ?_; rintro e w' ⟨rfl, rfl⟩) | (go_at_call 19; refine (L _).mono ?_; rintro e wl ⟨rfl, bl⟩) | (go_at_call 33; refine (FF _).mono ?_; rintro e w' ⟨rfl, rfl⟩) | (go_at_call 34; refine (C _).mono ?_; rintro e w' ⟨rfl, rfl⟩) | (go_at_call 35; refine (R _).mono ?_; rintro e w' ⟨rfl, k1, rfl⟩) | (go_at_call 36; refine (RR _).mono ?_; rintro e w' ⟨rfl, rfl⟩) | (go_at_call 37; refine (O _).mono ?_; rintro e w' ⟨rfl, k2, rfl⟩) | (go_at_call 38; refine (RO _).mono ?_; rintro e w' ⟨rfl, rfl⟩))
        all_goals go_ret
        all_goals exact ⟨rfl, below_drewN bl _⟩
      · have hy2 : ¬ a0 < -32768 := by omega
        go_enter Try.func8, Try.ntmps8
        go_wp2_with (first | (go_at_call 30; refine (F _).mono ?_; rintro e w' ⟨rfl, rfl⟩) | (go_at_call 31; refine (T _).mono ?_; rintro e w' ⟨rfl, rfl⟩) | (go_at_call 32; refine (W _).mono ?_; rintro e w' ⟨rfl, rfl⟩) | (go_at_call 19; refine (L _).mono ?_; rintro e wl ⟨rfl, bl⟩) | (go_at_call 33; refine (FF _).mono ?_; rintro e w' ⟨rfl, rfl⟩) | (go_at_call 34; refine (C _).mono ?_; rintro e w' ⟨rfl, rfl⟩) | (go_at_call 35; refine (R _).mono ?_; rintro e w' ⟨rfl, k1, rfl⟩) | (go_at_call 36; refine (RR _).mono ?_; rintro e w' ⟨rfl, rfl⟩) | (go_at_call 37; refine (O _).mono ?_; rintro e w' ⟨rfl, k2, rfl⟩) | (go_at_call 38; refine (RO _).mono ?_; rintro e w' ⟨rfl, rfl⟩))
        all_goals go_ret
        all_goals exact ⟨rfl, below_drewN bl _⟩
  · have T := fun w => to16_ok a0 w (by omega) (by omega)
    have W := fun w => whole_ok a0 w (by omega) (by omega)
    obtain ⟨g1, g2⟩ := hx
    rcases hfc with ⟨h1, h2⟩ | ⟨h1, h2⟩
    · have hb : (64 * f != a0) = false := by simp [h1]
      rw [h2] at C
      clear h1 h2
      go_enter Try.func8, Try.ntmps8
      go_wp2_with (first | (go_at_call 30; refine (F _).mono ?_; rintro e w' ⟨rfl, rfl⟩) | (go_at_call 31; refine (T _).mono ?_; rintro e w' ⟨rfl, rfl⟩) | (go_at_call 32; refine (W _).mono ?_; rintro e w' ⟨rfl, rfl⟩) | (go_at_call 19; refine (L _).mono ?_; rintro e wl ⟨rfl, bl⟩) | (go_at_call 33; refine (FF _).mono ?_; rintro e w' ⟨rfl, rfl⟩) | (go_at_call 34; refine (C _).mono ?_; rintro e w' ⟨rfl, rfl⟩) | (go_at_call 35; refine (R _).mono ?_; rintro e w' ⟨rfl, k1, rfl⟩) | (go_at_call 36; refine (RR _).mono ?_; rintro e w' ⟨rfl, rfl⟩) | (go_at_call 37; refine (O _).mono ?_; rintro e w' ⟨rfl, k2, rfl⟩) | (go_at_call 38; refine (RO _).mono ?_; rintro e w' ⟨rfl, rfl⟩))
      all_goals go_ret
      all_goals exact ⟨rfl, below_drewN bl _⟩
    · have hb : (64 * f != a0) = true := by simp [h1]
      rw [h2] at C
      clear h1 h2
      go_enter Try.func8, Try.ntmps8
      go_wp2_with (first | (go_at_call 30; refine (F _).mono ?_; rintro e w' ⟨rfl, rfl⟩) | (go_at_call 31; refine (T _).mono ?_; rintro e w' ⟨rfl, rfl⟩) | (go_at_call 32; refine (W _).mono ?_; rintro e w' ⟨rfl, rfl⟩) | (go_at_call 19; refine (L _).mono ?_; rintro e wl ⟨rfl, bl⟩) | (go_at_call 33; refine (FF _).mono ?_; rintro e w' ⟨rfl, rfl⟩) | (go_at_call 34; refine (C _).mono ?_; rintro e w' ⟨rfl, rfl⟩) | (go_at_call 35; refine (R _).mono ?_; rintro e w' ⟨rfl, k1, rfl⟩) | (go_at_call 36; refine (RR _).mono ?_; rintro e w' ⟨rfl, rfl⟩) | (go_at_call 37; refine (O _).mono ?_; rintro e w' ⟨rfl, k2, rfl⟩) | (go_at_call 38; refine (RO _).mono ?_; rintro e w' ⟨rfl, rfl⟩))
      all_goals go_ret
      all_goals exact ⟨rfl, below_drewN bl _⟩

set_option linter.unusedVariables false in
set_option maxRecDepth 100000 in
theorem lifted (os : Os) (started : os.Started) (H : Type) (enc : TypeId × Value → H) :
    ReturnsInHanded {} Try.checked os 8 .any (Rows.fixedRoundsSpec.pre6 enc Try.prog Try.f8 Rows.fixedRoundsRow.domain false) (Rows.fixedRoundsSpec.post enc Try.prog Try.f8 false true false false) := by
  refine returnsInHanded_of_change (C := Try.checked) Try.own started (by kernel_rfl) Try.func8
    (ChangeSpec.witness6 (enc := enc) (C := Try.checked) false ⟨#[], #[.int .i64 0], []⟩ 8 (by kernel_rfl) (by kernel_rfl) (by kernel_rfl) (by kernel_rfl)) ?_
  intro W base args ds gs before hval0 hW hcnd _
  have hval : ∀ (j : Nat) t v, Try.f8.params[j]? = some t → args[j]? = some v → Value.okWide Try.prog W .any base t v := hval0
  have hW' := hW
  obtain ⟨p, q, hA0, hV, rfl, hfz, hnd⟩ := hW
  have hA : DataW.TrodAll enc Try.prog W 0 (fun _ => true) true Try.f8.params.toList args.toList ds p := hA0
  rw [Try.params8] at hA hval
  obtain ⟨v0, vs0, d0, ds0, p0, q0, hargs, rfl, rfl, h0, r0⟩ := trodAll_cons hA
  obtain ⟨rfl, rfl, rfl⟩ := trodAll_nil r0
  obtain rfl : args = #[v0] := by cases args; simp_all
  obtain ⟨rfl, rfl⟩ := trodVars_none hV
  obtain ⟨a0, rfl, rfl, rfl, w0⟩ := open_int Try.underlying3 (hval 0 3 v0 rfl rfl) h0
  clear hA0 hval0
  simp only [List.append_nil] at hW'
  refine (walk a0 w0 W).mono fun e W' ⟨he, hg⟩ => ?_
  subst he
  exact ⟨_, rfl, law_post Try.laidOut rfl Try.underlying4 (by kernel_rfl) rfl rfl rfl rfl hW' hg⟩

theorem over : Rows.fixedRoundsRow.holds Try.pinned (OpenSpec.ofChange Rows.fixedRoundsSpec) :=
  OpenClaim.holds_of_wide 8 Try.f8 rfl rfl rfl rfl rfl rfl rfl ⟨rfl, rfl, rfl, rfl, rfl⟩ rfl rfl rfl rfl rfl (by kernel_rfl) Try.func8 (by kernel_rfl)
    (of_decide_eq_true (by kernel_rfl)) (by unfold Func.isWrapper; first | (rw [if_pos (by decide +kernel)]; kernel_rfl) | (rw [if_neg (by decide +kernel)]; exact ⟨rfl, rfl⟩))
    (fun os started H enc _ => lifted os started H enc)

theorem proved : Rows.FixedRoundsSaid :=
  over

end Go.Proofs.Ytpodlcjahfdpmaa.fixedRounds
