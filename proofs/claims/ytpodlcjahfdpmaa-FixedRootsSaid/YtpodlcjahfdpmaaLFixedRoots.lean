/- FixedRoots: the square root is the document's; for every int. -/
import Derived.Test.YtpodlcjahfdpmaaLaw
import Derived.Test.YtpodlcjahfdpmaaLives1
namespace Go.Proofs.Ytpodlcjahfdpmaa.fixedRoots
open Go.ChangeShapes Go.WideShapes Go.ChangeAt Go.RowKit

theorem root_exists : ∀ n : Nat, ∃ q, IsRoot n q
  | 0 => ⟨0, by unfold IsRoot; omega⟩
  | n + 1 => by
    obtain ⟨q, h1, h2⟩ := root_exists n
    by_cases h : (q + 1) * (q + 1) ≤ n + 1
    · refine ⟨q + 1, h, ?_⟩
      have : (q + 1 + 1) * (q + 1 + 1) = (q + 1) * (q + 1) + 2 * (q + 1) + 1 := by simp only [Nat.add_mul, Nat.mul_add]; omega
      omega
    · exact ⟨q, by omega, by omega⟩

/-- what Root answers: either both refuse alike, or both have the one root -/
theorem both (x : Int) : ∃ q f : Int, (∀ w, Calls Try.prog 39 #[.int .i64 x] w (fun e w' => e = .returned (.tuple #[.int .i64 q, .int .i64 f]) ∧ Below w.heap.size w w')) ∧
    (∀ w, Calls Try.prog 40 #[.int .i64 x] w (fun e w' => e = .returned (.tuple #[.int .i64 q, .int .i64 f]) ∧ w = w')) := by
  by_cases h : mayB x = true
  · by_cases hx : x < 0
    · exact ⟨0, 1, fun w => root_neg x w h hx, fun w => rroot_neg x w h hx⟩
    · have h2 := mayB_hi h
      obtain ⟨n, rfl⟩ : ∃ n : Nat, x = n := ⟨x.toNat, by omega⟩
      have hn : n ≤ 2147483648 := by omega
      obtain ⟨q, hq⟩ := root_exists (65536 * n)
      refine ⟨q, 0, fun w => (root_ok n w hn).mono ?_, fun w => (rroot_ok n w hn).mono ?_⟩
      · rintro e w' ⟨p, rfl, hp, hb⟩
        rw [isRoot_unique hp hq]; exact ⟨rfl, hb⟩
      · rintro e w' ⟨p, rfl, hp, hb⟩
        rw [isRoot_unique hp hq]; exact ⟨rfl, hb⟩
  · have h : mayB x = false := by simpa using h
    exact ⟨0, 10, fun w => root_no x w h, fun w => rroot_no x w h⟩

set_option linter.unusedVariables false in
theorem walk (a0 : Int) (w0 : (Lit.int .i64 a0).wf = true) (w : World) :
    Calls Try.prog 9 #[.int .i64 a0] w fun e w' => e = .returned (.bool true) ∧ Below w.heap.size w w' := by
  clear w0
  have L := fun w => lives1 w
  obtain ⟨q, f, A, R⟩ := both a0
  go_enter Try.func9, Try.ntmps9
  go_wp2_with (first | (go_at_call 39; refine (A _).mono ?_; rintro e wa ⟨rfl, ba⟩) | (go_at_call 40; refine (R _).mono ?_; rintro e w' ⟨rfl, rfl⟩) | (go_at_call 19; refine (L _).mono ?_; rintro e wl ⟨rfl, bl⟩))
  all_goals go_ret
  all_goals exact ⟨rfl, below_next ba bl⟩

set_option linter.unusedVariables false in
set_option maxRecDepth 100000 in
theorem lifted (os : Os) (started : os.Started) (H : Type) (enc : TypeId × Value → H) :
    ReturnsInHanded {} Try.checked os 9 .any (Rows.fixedRootsSpec.pre6 enc Try.prog Try.f9 Rows.fixedRootsRow.domain false) (Rows.fixedRootsSpec.post enc Try.prog Try.f9 false true false false) := by
  refine returnsInHanded_of_change (C := Try.checked) Try.own started (by kernel_rfl) Try.func9
    (ChangeSpec.witness6 (enc := enc) (C := Try.checked) false ⟨#[], #[.int .i64 0], []⟩ 8 (by kernel_rfl) (by kernel_rfl) (by kernel_rfl) (by kernel_rfl)) ?_
  intro W base args ds gs before hval0 hW hcnd _
  have hval : ∀ (j : Nat) t v, Try.f9.params[j]? = some t → args[j]? = some v → Value.okWide Try.prog W .any base t v := hval0
  have hW' := hW
  obtain ⟨p, q, hA0, hV, rfl, hfz, hnd⟩ := hW
  have hA : DataW.TrodAll enc Try.prog W 0 (fun _ => true) true Try.f9.params.toList args.toList ds p := hA0
  rw [Try.params9] at hA hval
  obtain ⟨v0, vs0, d0, ds0, p0, q0, hargs, rfl, rfl, h0, r0⟩ := trodAll_cons hA
  obtain ⟨rfl, rfl, rfl⟩ := trodAll_nil r0
  obtain rfl : args = #[v0] := by cases args; simp_all
  obtain ⟨rfl, rfl⟩ := trodVars_none hV
  obtain ⟨a0, rfl, rfl, rfl, w0⟩ := open_int Try.underlying3 (hval 0 3 v0 rfl rfl) h0
  clear hA0 hval0
  simp only [List.append_nil] at hW'
  refine (walk a0 w0 W).mono fun e W' ⟨he, hg⟩ => ?_
  subst he
  exact ⟨_, rfl, law_post Try.laidOut rfl Try.underlying4 (by kernel_rfl) rfl rfl rfl rfl hW' hg⟩

theorem over : Rows.fixedRootsRow.holds Try.pinned (OpenSpec.ofChange Rows.fixedRootsSpec) :=
  OpenClaim.holds_of_wide 9 Try.f9 rfl rfl rfl rfl rfl rfl rfl ⟨rfl, rfl, rfl, rfl, rfl⟩ rfl rfl rfl rfl rfl (by kernel_rfl) Try.func9 (by kernel_rfl)
    (of_decide_eq_true (by kernel_rfl)) (by unfold Func.isWrapper; first | (rw [if_pos (by decide +kernel)]; kernel_rfl) | (rw [if_neg (by decide +kernel)]; exact ⟨rfl, rfl⟩))
    (fun os started H enc _ => lifted os started H enc)

theorem proved : Rows.FixedRootsSaid :=
  over

end Go.Proofs.Ytpodlcjahfdpmaa.fixedRoots
