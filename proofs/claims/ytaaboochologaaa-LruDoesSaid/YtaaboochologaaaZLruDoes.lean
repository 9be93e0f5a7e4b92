/- LruDoes: every call, in every order; for all budgets and calls. -/
import Derived.Test.YtaaboochologaaaM15LruDoes

namespace Go.Proofs.Ytaaboochologaaa.lruDoes
open Go Go.ChangeShapes Go.WideShapes Go.ChangeAt Go.RowKit
set_option linter.unusedVariables false
set_option linter.unusedSimpArgs false

variable {W : World}
theorem walk (bud : Int) (_ : (Lit.int .i64 bud).wf = true) (A : Option Addr) (c : Nat) (L : List LRec) (hc : L.length ≤ c) (hm : c ≤ 9223372036854775807) (hl : Lists W W.heap.size A (L.flatMap lrL)) (hs : ∀ r ∈ L, LrOk W W.heap.size r) : Calls Try.prog 3 #[.int .i64 bud, .slice A L.length c] W fun e w' => e = .returned (.bool true) ∧ Below W.heap.size W w' := by
  cases hb : inZ 0 16777216 bud with
  | true => exact lrdoes_main bud hb A c L hc hm hl hs
  | false =>
    have CN := fun W => lrnew_bad bud hb W
    have CL := fun W => lives25_any W
    have CM := fun W => rlmay_any bud W
    rw [hb] at CM
    clear hl hs hb
    go_enter Try.func3, Try.ntmps3
    go_upto_region 2 with (go_at_call 8; refine (CN _).mono ?_; rintro e w1 ⟨rfl, rfl⟩)
    go_wp2_with (first
      | (go_at_call 9; refine (CL _).mono ?_; rintro e w2 ⟨rfl, b2⟩)
      | (go_at_call 10; refine (CM _).mono ?_; rintro e w4 ⟨rfl, rfl⟩))
    go_ret
    exact ⟨rfl, b2⟩

set_option linter.unusedVariables false in
set_option maxRecDepth 100000 in
theorem lifted (os : Os) (started : os.Started) (H : Type) (enc : TypeId × Value → H) :
    ReturnsInHanded {} Try.checked os 3 .any (Rows.lruDoesSpec.pre6 enc Try.prog Try.f3 Rows.lruDoesRow.domain false) (Rows.lruDoesSpec.post enc Try.prog Try.f3 false true false false) := by
  refine returnsInHanded_of_change (C := Try.checked) Try.own started (by kernel_rfl) Try.func3
    (ChangeSpec.witness6 (enc := enc) (C := Try.checked) false ⟨#[], #[.int .i64 0, .slice none 0 0], []⟩ 8 (by kernel_rfl) (by kernel_rfl) (by kernel_rfl) (by kernel_rfl)) ?_
  intro W base args ds gs before hval0 hW hcnd _
  have hval : ∀ (j : Nat) t v, Try.f3.params[j]? = some t → args[j]? = some v → Value.okWide Try.prog W .any base t v := hval0
  have hW' := hW
  obtain ⟨p, q, hA0, hV, rfl, hfz, hnd⟩ := hW
  have hA : DataW.TrodAll enc Try.prog W 0 (fun _ => true) true Try.f3.params.toList args.toList ds p := hA0
  rw [Try.params3] at hA hval
  obtain ⟨v0, vs0, d0, ds0, p0, q0, hargs, rfl, rfl, h0, r0⟩ := trodAll_cons hA
  obtain ⟨v1, vs1, d1, ds1, p1, q1, rfl, rfl, rfl, h1, r1⟩ := trodAll_cons r0
  obtain ⟨rfl, rfl, rfl⟩ := trodAll_nil r1
  obtain rfl : args = #[v0, v1] := by cases args; simp_all
  obtain ⟨rfl, rfl⟩ := trodVars_none hV
  obtain ⟨a0, rfl, rfl, rfl, w0⟩ := open_int Try.underlying3 (hval 0 3 v0 rfl rfl) h0
  obtain ⟨A1, c1, L1, rfl, k1, m1, l1, s1⟩ := open_lcalls (hval 1 22 v1 rfl rfl) h1
  clear hA0 hval0
  simp only [List.append_nil] at hW'
  refine (walk (W := W) a0 w0 A1 c1 L1 k1 m1 l1 s1).mono fun e W' ⟨he, hg⟩ => ?_
  subst he
  exact ⟨_, rfl, law_post Try.laidOut rfl Try.underlying4 (by kernel_rfl) rfl rfl rfl rfl hW' hg⟩

theorem over : Rows.lruDoesRow.holds Try.pinned (OpenSpec.ofChange Rows.lruDoesSpec) :=
  OpenClaim.holds_of_wide 3 Try.f3 rfl rfl rfl rfl rfl rfl rfl ⟨rfl, rfl, rfl, rfl, rfl⟩ rfl rfl rfl rfl rfl (by kernel_rfl) Try.func3 (by kernel_rfl)
    (of_decide_eq_true (by kernel_rfl)) (by unfold Func.isWrapper; first | (rw [if_pos (by decide +kernel)]; kernel_rfl) | (rw [if_neg (by decide +kernel)]; exact ⟨rfl, rfl⟩))
    (fun os started H enc _ => lifted os started H enc)

theorem proved : Rows.LruDoesSaid :=
  over

end Go.Proofs.Ytaaboochologaaa.lruDoes
