/- ComposePlain: a plain part of any glyph, further on by any steps; no condition but what the row prints. -/
import Derived.Test.YtekailhghjideaaCCm20

namespace Go.Proofs.Ytekailhghjideaa.composePlain
open Go.ChangeShapes Go.WideShapes Go.ChangeAt Go.RowKit
set_option linter.unusedVariables false
set_option linter.unusedSimpArgs false

variable {W : World}
set_option maxRecDepth 100000 in
set_option maxHeartbeats 2000000 in
theorem walk (g : Int) (_ : (Lit.int .i64 g).wf = true) (x : Int) (_ : (Lit.int .i64 x).wf = true) (y : Int) (_ : (Lit.int .i64 y).wf = true) : Calls Try.prog 6 #[.int .i64 g, .int .i64 x, .int .i64 y] W fun e w' => e = .returned (.bool true) ∧ Below W.heap.size W w' := by
  have CP := fun w => plain_any g x y w
  have CO := fun w => rone_any w
  have CM := fun w => pmay_any (g, one14, false, x, y, false, 0, 0) w
  have CN := fun w => rmay_any (g, one14, false, x, y, false, 0, 0) w
  have CE := eqPr_run (g, one14, false, x, y, false, 0, 0) (g, one14, false, x, y, false, 0, 0) true (prEq.2 rfl)
  have CG : ∀ (s s' : Operand) w, (eqGuard .eql 36 s s' (.agg #[.int .i64 g, .int .i64 16384, .int .i64 0, .int .i64 0, .int .i64 16384, .bool false, .int .i64 x, .int .i64 y, .bool false, .int .i64 0, .int .i64 0]) (.agg #[.int .i64 g, .int .i64 16384, .int .i64 0, .int .i64 0, .int .i64 16384, .bool false, .int .i64 x, .int .i64 y, .bool false, .int .i64 0, .int .i64 0])).run Try.prog w = .ok () w := fun s s' w => run_eqGuard_agg w .eql 36 _ _ _ _ (by kernel_rfl)
  have PB : Try.prog.built 36 [(0, .int .i64 g), (1, .agg #[.int .i64 16384, .int .i64 0, .int .i64 0, .int .i64 16384]), (3, .int .i64 x), (4, .int .i64 y)] = some #[.int .i64 g, .int .i64 16384, .int .i64 0, .int .i64 0, .int .i64 16384, .bool false, .int .i64 x, .int .i64 y, .bool false, .int .i64 0, .int .i64 0] := by kernel_rfl
  generalize mayP (g, one14, false, x, y, false, 0, 0) = m0 at *
  simp only [prL, mtV, one14] at CP CO CM CN CE
  go_enter Try.func6, Try.ntmps6
  go_wp2_with (first
    | (go_at_call 15; ((with_reducible refine (CP _).mono ?_); rintro e w1 ⟨rfl, b1⟩; have B1 := b1.alloc b1.size (.cells #[.int .i64 g, .int .i64 16384, .int .i64 0, .int .i64 0, .int .i64 16384, .bool false, .int .i64 x, .int .i64 y, .bool false, .int .i64 0, .int .i64 0] 36); have K7 := Blk.new w1 36 #[.int .i64 g, .int .i64 16384, .int .i64 0, .int .i64 0, .int .i64 16384, .bool false, .int .i64 x, .int .i64 y, .bool false, .int .i64 0, .int .i64 0]))
    | (refine wpList_store_row rfl 36 (.tmp 7) (.tmp 12) (by with_reducible rfl) w1.heap.size #[.int .i64 g, .int .i64 16384, .int .i64 0, .int .i64 0, .int .i64 16384, .bool false, .int .i64 x, .int .i64 y, .bool false, .int .i64 0, .int .i64 0] (by rfl) (by rfl) 36 #[.int .i64 0, .int .i64 0, .int .i64 0, .int .i64 0, .int .i64 0, .bool false, .int .i64 0, .int .i64 0, .bool false, .int .i64 0, .int .i64 0] (by exact Blk.new _ _ _) prSize rfl (by simp [Value.oneCell']) ?_; rw [World.setRow_alloc_new])
    | (go_at_call 16; ((with_reducible refine (CO _).mono ?_); rintro e w2 ⟨rfl, b2⟩; have B2 := B1.trans (b2.mono B1.size); have K7 := (K7.below b2).below ((Below.refl _ _).alloc (Nat.le_refl _) (.cells #[.int .i64 g, .int .i64 16384, .int .i64 0, .int .i64 0, .int .i64 16384, .bool false, .int .i64 x, .int .i64 y, .bool false, .int .i64 0, .int .i64 0] 36)); have B3 := B2.alloc B2.size (.cells #[.int .i64 g, .int .i64 16384, .int .i64 0, .int .i64 0, .int .i64 16384, .bool false, .int .i64 x, .int .i64 y, .bool false, .int .i64 0, .int .i64 0] 36); have K8 := Blk.new w2 36 #[.int .i64 g, .int .i64 16384, .int .i64 0, .int .i64 0, .int .i64 16384, .bool false, .int .i64 x, .int .i64 y, .bool false, .int .i64 0, .int .i64 0]))
    | (refine wpList_store_row rfl 36 (.tmp 8) (.tmp 17) (by with_reducible rfl) w2.heap.size #[.int .i64 g, .int .i64 16384, .int .i64 0, .int .i64 0, .int .i64 16384, .bool false, .int .i64 x, .int .i64 y, .bool false, .int .i64 0, .int .i64 0] (by rfl) (by rfl) 36 #[.int .i64 0, .int .i64 0, .int .i64 0, .int .i64 0, .int .i64 0, .bool false, .int .i64 0, .int .i64 0, .bool false, .int .i64 0, .int .i64 0] (by exact Blk.new _ _ _) prSize rfl (by simp [Value.oneCell']) ?_; rw [World.setRow_alloc_new]))
  generalize w2.alloc (.cells #[.int .i64 g, .int .i64 16384, .int .i64 0, .int .i64 0, .int .i64 16384, .bool false, .int .i64 x, .int .i64 y, .bool false, .int .i64 0, .int .i64 0] 36) = X at *
  have J7 := K7.below ((Below.refl _ _).drew)
  have J8 := K8.below ((Below.refl _ _).drew)
  refine wp_region_chain (fun V => Blk V w1.heap.size 36 #[.int .i64 g, .int .i64 16384, .int .i64 0, .int .i64 0, .int .i64 16384, .bool false, .int .i64 x, .int .i64 y, .bool false, .int .i64 0, .int .i64 0] ∧ Blk V w2.heap.size 36 #[.int .i64 g, .int .i64 16384, .int .i64 0, .int .i64 0, .int .i64 16384, .bool false, .int .i64 x, .int .i64 y, .bool false, .int .i64 0, .int .i64 0]) [(0, true), (1, false), (2, false), (3, false), (4, false), (5, false), (6, false), (7, false), (9, false), (8, true), (10, true), (11, false), (12, false), (13, false)] (by kernel_rfl) (by kernel_rfl) ⟨J7, J8⟩ ?_
  refine ChainL.call (o := ?_) (f := ?_) (args := ?_) ?_ ?_ ?_ ?_
  rotate_left 3
  (focus (simp only [List.getElem?_toArray, List.getElem?_cons_succ, List.getElem?_cons_zero]; with_reducible rfl))
  (focus rfl)
  (focus (go_simp; (constructor <;> with_reducible rfl)))
  refine (lives12 _).mono ?_
  rintro e w4 ⟨rfl, b4⟩
  have J7 := J7.below b4; have J8 := J8.below b4; have B4 := (B3.drew).trans (b4.mono (B3.drew).size); refine ⟨_, rfl, ⟨J7, J8⟩, ?_⟩
  simp only [Act.put, List.setIfInBounds_toArray, List.set_cons_zero, List.set_cons_succ]
  repeat (first
    | (refine ChainL.skip (o := ?_) ?_ ?_ ?_; rotate_left; (focus (first | (simp only [List.getElem?_toArray, List.getElem?_cons_succ, List.getElem?_cons_zero]; with_reducible rfl) | (simp only [List.getElem?_toArray, List.getElem?_cons_zero]; with_reducible rfl))); (focus rfl); simp only [Act.put, List.setIfInBounds_toArray, List.set_cons_zero, List.set_cons_succ])
    | (refine ChainL.val (o := ?_) (v := ?_) ?_ ?_ ?_ ?_ ?_; rotate_left 2; (focus (first | (simp only [List.getElem?_toArray, List.getElem?_cons_succ, List.getElem?_cons_zero]; with_reducible rfl) | (simp only [List.getElem?_toArray, List.getElem?_cons_zero]; with_reducible rfl))); (focus (intro _ _ h; cases h)); (focus rfl); (focus (intro w' hI; have hA := load_blk (P := Try.prog) hI.1 Try.underlying36 rfl prSize; have hB := load_blk (P := Try.prog) hI.2 Try.underlying36 rfl prSize; first | (have H := fun ρ o x => @exec_load _ ρ o _ _ x _ _ hA; refine H _ _ ?_ ?_ ?_; rotate_left; (focus rfl); (focus rfl)) | (have H := fun ρ o x => @exec_load _ ρ o _ _ x _ _ hB; refine H _ _ ?_ ?_ ?_; rotate_left; (focus rfl); (focus rfl)) | (go_simp <;> with_reducible rfl))); simp only [Act.put, List.setIfInBounds_toArray, List.set_cons_zero, List.set_cons_succ]))
  refine ChainL.call (o := ?_) (f := ?_) (args := ?_) ?_ ?_ ?_ ?_
  rotate_left 3
  (focus (simp only [List.getElem?_toArray, List.getElem?_cons_succ, List.getElem?_cons_zero]; with_reducible rfl))
  (focus rfl)
  (focus (go_simp; (constructor <;> with_reducible rfl)))
  refine (CM _).mono ?_
  rintro e w5 ⟨rfl, b5⟩
  have J7 := J7.below b5; have J8 := J8.below b5; have B5 := B4.trans (b5.mono B4.size); refine ⟨_, rfl, ⟨J7, J8⟩, ?_⟩
  simp only [Act.put, List.setIfInBounds_toArray, List.set_cons_zero, List.set_cons_succ]
  refine ChainL.call (o := ?_) (f := ?_) (args := ?_) ?_ ?_ ?_ ?_
  rotate_left 3
  (focus (simp only [List.getElem?_toArray, List.getElem?_cons_succ, List.getElem?_cons_zero]; with_reducible rfl))
  (focus rfl)
  (focus (go_simp; (constructor <;> with_reducible rfl)))
  refine (CN _).mono ?_
  rintro e w6 ⟨rfl, b6⟩
  have J7 := J7.below b6; have J8 := J8.below b6; have B6 := B5.trans (b6.mono B5.size); refine ⟨_, rfl, ⟨J7, J8⟩, ?_⟩
  simp only [Act.put, List.setIfInBounds_toArray, List.set_cons_zero, List.set_cons_succ]
  repeat (first
    | (refine ChainL.skip (o := ?_) ?_ ?_ ?_; rotate_left; (focus (first | (simp only [List.getElem?_toArray, List.getElem?_cons_succ, List.getElem?_cons_zero]; with_reducible rfl) | (simp only [List.getElem?_toArray, List.getElem?_cons_zero]; with_reducible rfl))); (focus rfl); simp only [Act.put, List.setIfInBounds_toArray, List.set_cons_zero, List.set_cons_succ])
    | (refine ChainL.val (o := ?_) (v := ?_) ?_ ?_ ?_ ?_ ?_; rotate_left 2; (focus (first | (simp only [List.getElem?_toArray, List.getElem?_cons_succ, List.getElem?_cons_zero]; with_reducible rfl) | (simp only [List.getElem?_toArray, List.getElem?_cons_zero]; with_reducible rfl))); (focus (intro _ _ h; cases h)); (focus rfl); (focus (intro w' hI; have hA := load_blk (P := Try.prog) hI.1 Try.underlying36 rfl prSize; have hB := load_blk (P := Try.prog) hI.2 Try.underlying36 rfl prSize; first | (have H := fun ρ o x => @exec_load _ ρ o _ _ x _ _ hA; refine H _ _ ?_ ?_ ?_; rotate_left; (focus rfl); (focus rfl)) | (have H := fun ρ o x => @exec_load _ ρ o _ _ x _ _ hB; refine H _ _ ?_ ?_ ?_; rotate_left; (focus rfl); (focus rfl)) | (go_simp <;> with_reducible rfl))); simp only [Act.put, List.setIfInBounds_toArray, List.set_cons_zero, List.set_cons_succ]))
  refine ChainL.nil ?_
  go_wp2
  go_ret
  exact ⟨rfl, B6⟩

set_option linter.unusedVariables false in
set_option maxRecDepth 100000 in
theorem lifted (os : Os) (started : os.Started) (H : Type) (enc : TypeId × Value → H) :
    ReturnsInHanded {} Try.checked os 6 .any (Rows.composePlainSpec.pre6 enc Try.prog Try.f6 Rows.composePlainRow.domain false) (Rows.composePlainSpec.post enc Try.prog Try.f6 false true false false) := by
  refine returnsInHanded_of_change (C := Try.checked) Try.own started (by kernel_rfl) Try.func6
    (ChangeSpec.witness6 (enc := enc) (C := Try.checked) false ⟨#[], #[.int .i64 0, .int .i64 0, .int .i64 0], []⟩ 8 (by kernel_rfl) (by kernel_rfl) (by kernel_rfl) (by kernel_rfl)) ?_
  intro W base args ds gs before hval0 hW hcnd _
  have hval : ∀ (j : Nat) t v, Try.f6.params[j]? = some t → args[j]? = some v → Value.okWide Try.prog W .any base t v := hval0
  have hW' := hW
  obtain ⟨p, q, hA0, hV, rfl, hfz, hnd⟩ := hW
  have hA : DataW.TrodAll enc Try.prog W 0 (fun _ => true) true Try.f6.params.toList args.toList ds p := hA0
  rw [Try.params6] at hA hval
  obtain ⟨v0, vs0, d0, ds0, p0, q0, hargs, rfl, rfl, h0, r0⟩ := trodAll_cons hA
  obtain ⟨v1, vs1, d1, ds1, p1, q1, rfl, rfl, rfl, h1, r1⟩ := trodAll_cons r0
  obtain ⟨v2, vs2, d2, ds2, p2, q2, rfl, rfl, rfl, h2, r2⟩ := trodAll_cons r1
  obtain ⟨rfl, rfl, rfl⟩ := trodAll_nil r2
  obtain rfl : args = #[v0, v1, v2] := by cases args; simp_all
  obtain ⟨rfl, rfl⟩ := trodVars_none hV
  obtain ⟨a0, rfl, rfl, rfl, w0⟩ := open_int Try.underlying3 (hval 0 3 v0 rfl rfl) h0
  obtain ⟨a1, rfl, rfl, rfl, w1⟩ := open_int Try.underlying3 (hval 1 3 v1 rfl rfl) h1
  obtain ⟨a2, rfl, rfl, rfl, w2⟩ := open_int Try.underlying3 (hval 2 3 v2 rfl rfl) h2
  clear hA0 hval0
  simp only [List.append_nil] at hW'
  refine (walk (W := W) a0 w0 a1 w1 a2 w2).mono fun e W' ⟨he, hg⟩ => ?_
  subst he
  exact ⟨_, rfl, law_post Try.laidOut rfl Try.underlying4 (by kernel_rfl) rfl rfl rfl rfl hW' hg⟩

theorem over : Rows.composePlainRow.holds Try.pinned (OpenSpec.ofChange Rows.composePlainSpec) :=
  OpenClaim.holds_of_wide 6 Try.f6 rfl rfl rfl rfl rfl rfl rfl ⟨rfl, rfl, rfl, rfl, rfl⟩ rfl rfl rfl rfl rfl (by kernel_rfl) Try.func6 (by kernel_rfl)
    (of_decide_eq_true (by kernel_rfl)) (by unfold Func.isWrapper; first | (rw [if_pos (by decide +kernel)]; kernel_rfl) | (rw [if_neg (by decide +kernel)]; exact ⟨rfl, rfl⟩))
    (fun os started H enc _ => lifted os started H enc)

theorem proved : Rows.ComposePlainSaid :=
  over

end Go.Proofs.Ytekailhghjideaa.composePlain
