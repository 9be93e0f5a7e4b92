/- LruLast: what is got is what was put last, if it was kept at all; for all budgets, calls, keys. -/
import Derived.Test.YtaaboochologaaaM0LruLast

namespace Go.Proofs.Ytaaboochologaaa.lruLast
open Go Go.ChangeShapes Go.WideShapes Go.ChangeAt Go.RowKit
set_option linter.unusedVariables false
set_option linter.unusedSimpArgs false

variable {W : World}
theorem walk (bud : Int) (_ : (Lit.int .i64 bud).wf = true) (A : Option Addr) (c : Nat) (L : List LRec) (hc : L.length ≤ c) (hm : c ≤ 9223372036854775807) (hl : Lists W W.heap.size A (L.flatMap lrL)) (hs : ∀ r ∈ L, LrOk W W.heap.size r) (y : Ky) (hy : kyW y) : Calls Try.prog 4 #[.int .i64 bud, .slice A L.length c, .agg #[.int .i64 y.1, .int .i64 y.2.1, .int .i64 y.2.2.1, .int .i64 y.2.2.2]] W fun e w' => e = .returned (.bool true) ∧ Below W.heap.size W w' := by
  cases hb : inZ 0 16777216 bud with
  | true => exact lrlast_main bud hb A c L hc hm hl hs y hy
  | false =>
    have B1 : Below W.heap.size W (W.alloc (.cells #[.int .i64 y.1, .int .i64 y.2.1, .int .i64 y.2.2.1, .int .i64 y.2.2.2] 39)) := below_a1 _ _
    have CN := fun W => lrnew_bad bud hb W
    have CL := fun W => lives25_any W
    have CM := fun W => rlmay_any bud W
    rw [hb] at CM
    clear hl hs hy hb
    go_enter Try.func4, Try.ntmps4
    go_upto_region 2 with (go_at_call 8; refine (CN _).mono ?_; rintro e w1 ⟨rfl, rfl⟩)
    go_upto_region 3 with (go_at_call 9; refine (CL _).mono ?_; rintro e w2 ⟨rfl, b2⟩)
    have B2 := B1.trans (b2.mono B1.size)
    go_wp2_with (first
      | (go_at_call 9; refine (CL _).mono ?_; rintro e w3 ⟨rfl, b3⟩)
      | (go_at_call 10; refine (CM _).mono ?_; rintro e w4 ⟨rfl, rfl⟩))
    go_ret
    exact ⟨rfl, B2.trans (b3.mono B2.size)⟩

set_option linter.unusedVariables false in
set_option maxRecDepth 100000 in
theorem lifted (os : Os) (started : os.Started) (H : Type) (enc : TypeId × Value → H) :
    ReturnsInHanded {} Try.checked os 4 .any (Rows.lruLastSpec.pre6 enc Try.prog Try.f4 Rows.lruLastRow.domain false) (Rows.lruLastSpec.post enc Try.prog Try.f4 false true false false) := by
  refine returnsInHanded_of_change (C := Try.checked) Try.own started (by kernel_rfl) Try.func4
    (ChangeSpec.witness6 (enc := enc) (C := Try.checked) false ⟨#[], #[.int .i64 0, .slice none 0 0, .agg #[.int .i64 0, .int .i64 0, .int .i64 0, .int .i64 0]], []⟩ 8 (by kernel_rfl) (by kernel_rfl) (by kernel_rfl) (by kernel_rfl)) ?_
  intro W base args ds gs before hval0 hW hcnd _
  have hval : ∀ (j : Nat) t v, Try.f4.params[j]? = some t → args[j]? = some v → Value.okWide Try.prog W .any base t v := hval0
  have hW' := hW
  obtain ⟨p, q, hA0, hV, rfl, hfz, hnd⟩ := hW
  have hA : DataW.TrodAll enc Try.prog W 0 (fun _ => true) true Try.f4.params.toList args.toList ds p := hA0
  rw [Try.params4] at hA hval
  obtain ⟨v0, vs0, d0, ds0, p0, q0, hargs, rfl, rfl, h0, r0⟩ := trodAll_cons hA
  obtain ⟨v1, vs1, d1, ds1, p1, q1, rfl, rfl, rfl, h1, r1⟩ := trodAll_cons r0
  obtain ⟨v2, vs2, d2, ds2, p2, q2, rfl, rfl, rfl, h2, r2⟩ := trodAll_cons r1
  obtain ⟨rfl, rfl, rfl⟩ := trodAll_nil r2
  obtain rfl : args = #[v0, v1, v2] := by cases args; simp_all
  obtain ⟨rfl, rfl⟩ := trodVars_none hV
  obtain ⟨a0, rfl, rfl, rfl, w0⟩ := open_int Try.underlying3 (hval 0 3 v0 rfl rfl) h0
  obtain ⟨A1, c1, L1, rfl, k1, m1, l1, s1⟩ := open_lcalls (hval 1 22 v1 rfl rfl) h1
  obtain ⟨y2, rfl, s2⟩ := open_lkey (hval 2 39 v2 rfl rfl) h2
  clear hA0 hval0
  simp only [List.append_nil] at hW'
  refine (walk (W := W) a0 w0 A1 c1 L1 k1 m1 l1 s1 y2 s2).mono fun e W' ⟨he, hg⟩ => ?_
  subst he
  exact ⟨_, rfl, law_post Try.laidOut rfl Try.underlying4 (by kernel_rfl) rfl rfl rfl rfl hW' hg⟩

theorem over : Rows.lruLastRow.holds Try.pinned (OpenSpec.ofChange Rows.lruLastSpec) :=
  OpenClaim.holds_of_wide 4 Try.f4 rfl rfl rfl rfl rfl rfl rfl ⟨rfl, rfl, rfl, rfl, rfl⟩ rfl rfl rfl rfl rfl (by kernel_rfl) Try.func4 (by kernel_rfl)
    (of_decide_eq_true (by kernel_rfl)) (by unfold Func.isWrapper; first | (rw [if_pos (by decide +kernel)]; kernel_rfl) | (rw [if_neg (by decide +kernel)]; exact ⟨rfl, rfl⟩))
    (fun os started H enc _ => lifted os started H enc)

theorem proved : Rows.LruLastSaid :=
  over

end Go.Proofs.Ytaaboochologaaa.lruLast
