/- CanvasMixes: what is put of any three bytes is as the document says, lies between the byte and the colour, is the byte by 0 and the colour by 255; other numbers are refused; for all ints. -/
import Derived.Test.YtlbbigehjdnjmaaCCn9

namespace Go.Proofs.Ytlbbigehjdnjmaa.canvasMixes
open Go Go.ChangeShapes Go.WideShapes Go.ChangeAt Go.RowKit
set_option linter.unusedVariables false
set_option linter.unusedSimpArgs false

theorem mix_facts2 {d c m : Int} (hd : inZ 0 255 d = true) (hc : inZ 0 255 c = true) (hm : inZ 0 255 m = true) : (c < d → c ≤ mixZ d c m ∧ mixZ d c m ≤ d) ∧ (d ≤ c → d ≤ mixZ d c m ∧ mixZ d c m ≤ c) ∧ (m = 0 → mixZ d c m = d) ∧ (m = 255 → mixZ d c m = c) := by
  have a1 := inB_in hd
  have a2 := inB_in hc
  have a3 := inB_in hm
  unfold mixZ
  refine ⟨fun h => ?_, fun h => ?_, fun h => ?_, fun h => ?_⟩
  · have p1 : c * (255 - m) ≤ d * (255 - m) := Int.mul_le_mul_of_nonneg_right (by omega) (by omega)
    have p2 : c * m ≤ d * m := Int.mul_le_mul_of_nonneg_right (by omega) a3.1
    have p3 : c * (255 - m) = c * 255 - c * m := Int.mul_sub c 255 m
    have p4 : d * (255 - m) = d * 255 - d * m := Int.mul_sub d 255 m
    omega
  · have p1 : d * (255 - m) ≤ c * (255 - m) := Int.mul_le_mul_of_nonneg_right (by omega) (by omega)
    have p2 : d * m ≤ c * m := Int.mul_le_mul_of_nonneg_right (by omega) a3.1
    have p3 : c * (255 - m) = c * 255 - c * m := Int.mul_sub c 255 m
    have p4 : d * (255 - m) = d * 255 - d * m := Int.mul_sub d 255 m
    omega
  · subst h; omega
  · subst h; omega
set_option maxRecDepth 100000 in
theorem walk_no (d c m : Int) (h : (inZ 0 255 d && inZ 0 255 c && inZ 0 255 m) = false) (w : World) : Calls Try.prog 5 #[.int .i64 d, .int .i64 c, .int .i64 m] w fun e w' => e = .returned (.bool true) ∧ Below w.heap.size w w' := by
  have CM := fun W => cmix_any d c m W
  unfold mixE at CM
  rw [h] at CM
  simp only [Bool.false_eq_true, if_false] at CM
  have CL := fun W => lives26 W
  have Cd := fun W => ris_any d W
  have Cc := fun W => ris_any c W
  have Cm := fun W => ris_any m W
  have B := Below.refl w.heap.size w
  cases hd : inZ 0 255 d
  · rw [hd] at Cd
    clear h hd
    go_enter Try.func5, Try.ntmps5
    go_wp2_with (first | (go_at_call 20; ((with_reducible refine (CM _).mono ?_); rintro e w1 ⟨rfl, b1⟩)) | (go_at_call 9; ((with_reducible refine (CL _).mono ?_); rintro e w2 ⟨rfl, b2⟩; have B := b1.trans (b2.mono b1.size))) | (go_at_call 21; ((with_reducible refine (Cd _).mono ?_); rintro e w4 ⟨rfl, rfl⟩)))
    go_ret
    exact ⟨rfl, B⟩
  · rw [hd] at Cd h
    cases hc : inZ 0 255 c
    · rw [hc] at Cc
      clear h hd hc
      go_enter Try.func5, Try.ntmps5
      go_wp2_with (first | (go_at_call 20; ((with_reducible refine (CM _).mono ?_); rintro e w1 ⟨rfl, b1⟩)) | (go_at_call 9; ((with_reducible refine (CL _).mono ?_); rintro e w2 ⟨rfl, b2⟩; have B := b1.trans (b2.mono b1.size))) | (go_at_call 21; ((with_reducible refine (Cd _).mono ?_); rintro e w4 ⟨rfl, rfl⟩)) | (go_at_call 21; ((with_reducible refine (Cc _).mono ?_); rintro e w4 ⟨rfl, rfl⟩)))
      go_ret
      exact ⟨rfl, B⟩
    · rw [hc] at Cc h
      have hm : inZ 0 255 m = false := by simpa using h
      rw [hm] at Cm
      clear h hd hc hm
      go_enter Try.func5, Try.ntmps5
      go_wp2_with (first | (go_at_call 20; ((with_reducible refine (CM _).mono ?_); rintro e w1 ⟨rfl, b1⟩)) | (go_at_call 9; ((with_reducible refine (CL _).mono ?_); rintro e w2 ⟨rfl, b2⟩; have B := b1.trans (b2.mono b1.size))) | (go_at_call 21; ((with_reducible refine (Cd _).mono ?_); rintro e w4 ⟨rfl, rfl⟩)) | (go_at_call 21; ((with_reducible refine (Cc _).mono ?_); rintro e w4 ⟨rfl, rfl⟩)) | (go_at_call 21; ((with_reducible refine (Cm _).mono ?_); rintro e w4 ⟨rfl, rfl⟩)))
      go_ret
      exact ⟨rfl, B⟩
set_option maxRecDepth 100000 in
set_option maxHeartbeats 1000000 in
theorem walk_yes (d c m : Int) (h : (inZ 0 255 d && inZ 0 255 c && inZ 0 255 m) = true) (w : World) : Calls Try.prog 5 #[.int .i64 d, .int .i64 c, .int .i64 m] w fun e w' => e = .returned (.bool true) ∧ Below w.heap.size w w' := by
  have CM := fun W => cmix_any d c m W
  unfold mixE at CM
  rw [h] at CM
  simp only [if_true] at CM
  simp only [Bool.and_eq_true] at h
  obtain ⟨⟨hd, hc⟩, hm⟩ := h
  have CL := fun W => lives26 W
  have Cd := fun W => ris_any d W
  have Cc := fun W => ris_any c W
  have Cm := fun W => ris_any m W
  rw [hd] at Cd
  rw [hc] at Cc
  rw [hm] at Cm
  have CR := fun W => rmix_any d c m W hd hc hm
  obtain ⟨f1, f2, f3, f4⟩ := mix_facts2 hd hc hm
  clear hd hc hm
  generalize mixZ d c m = r at *
  by_cases h1 : c < d <;> by_cases h2 : m = 0 <;> by_cases h3 : m = 255
  all_goals
    try have g1 := (f1 h1).1
    try have g2 := (f1 h1).2
    try have g1 := (f2 (by omega)).1
    try have g2 := (f2 (by omega)).2
    try have g3 := f3 h2
    try have g4 := f4 h3
    try omega
  all_goals
    clear f1 f2 f3 f4
    try subst h2
    try subst h3
    try subst g3
    try subst g4
    try have n2 : (m != 0) = true := by simpa using h2
    try have n3 : (m != 255) = true := by simpa using h3
    go_enter Try.func5, Try.ntmps5
    go_wp2_with (first | (go_at_call 20; ((with_reducible refine (CM _).mono ?_); rintro e w1 ⟨rfl, b1⟩)) | (go_at_call 9; ((with_reducible refine (CL _).mono ?_); rintro e w2 ⟨rfl, b2⟩; have B := b1.trans (b2.mono b1.size))) | (go_at_call 21; ((with_reducible refine (Cd _).mono ?_); rintro e w4 ⟨rfl, rfl⟩)) | (go_at_call 21; ((with_reducible refine (Cc _).mono ?_); rintro e w4 ⟨rfl, rfl⟩)) | (go_at_call 21; ((with_reducible refine (Cm _).mono ?_); rintro e w4 ⟨rfl, rfl⟩)) | (go_at_call 22; ((with_reducible refine (CR _).mono ?_); rintro e w5 ⟨rfl, rfl⟩)))
    go_ret
    exact ⟨by simp, B⟩
theorem walk (d : Int) (_ : (Lit.int .i64 d).wf = true) (c : Int) (_ : (Lit.int .i64 c).wf = true) (m : Int) (_ : (Lit.int .i64 m).wf = true) (w : World) : Calls Try.prog 5 #[.int .i64 d, .int .i64 c, .int .i64 m] w fun e w' => e = .returned (.bool true) ∧ Below w.heap.size w w' := by
  cases h : (inZ 0 255 d && inZ 0 255 c && inZ 0 255 m)
  · exact walk_no d c m h w
  · exact walk_yes d c m h w

set_option linter.unusedVariables false in
set_option maxRecDepth 100000 in
theorem lifted (os : Os) (started : os.Started) (H : Type) (enc : TypeId × Value → H) :
    ReturnsInHanded {} Try.checked os 5 .any (Rows.canvasMixesSpec.pre6 enc Try.prog Try.f5 Rows.canvasMixesRow.domain false) (Rows.canvasMixesSpec.post enc Try.prog Try.f5 false true false false) := by
  refine returnsInHanded_of_change (C := Try.checked) Try.own started (by kernel_rfl) Try.func5
    (ChangeSpec.witness6 (enc := enc) (C := Try.checked) false ⟨#[], #[.int .i64 0, .int .i64 0, .int .i64 0], []⟩ 8 (by kernel_rfl) (by kernel_rfl) (by kernel_rfl) (by kernel_rfl)) ?_
  intro W base args ds gs before hval0 hW hcnd _
  have hval : ∀ (j : Nat) t v, Try.f5.params[j]? = some t → args[j]? = some v → Value.okWide Try.prog W .any base t v := hval0
  have hW' := hW
  obtain ⟨p, q, hA0, hV, rfl, hfz, hnd⟩ := hW
  have hA : DataW.TrodAll enc Try.prog W 0 (fun _ => true) true Try.f5.params.toList args.toList ds p := hA0
  rw [Try.params5] at hA hval
  obtain ⟨v0, vs0, d0, ds0, p0, q0, hargs, rfl, rfl, h0, r0⟩ := trodAll_cons hA
  obtain ⟨v1, vs1, d1, ds1, p1, q1, rfl, rfl, rfl, h1, r1⟩ := trodAll_cons r0
  obtain ⟨v2, vs2, d2, ds2, p2, q2, rfl, rfl, rfl, h2, r2⟩ := trodAll_cons r1
  obtain ⟨rfl, rfl, rfl⟩ := trodAll_nil r2
  obtain rfl : args = #[v0, v1, v2] := by cases args; simp_all
  obtain ⟨rfl, rfl⟩ := trodVars_none hV
  obtain ⟨a0, rfl, rfl, rfl, w0⟩ := open_int Try.underlying3 (hval 0 3 v0 rfl rfl) h0
  obtain ⟨a1, rfl, rfl, rfl, w1⟩ := open_int Try.underlying3 (hval 1 3 v1 rfl rfl) h1
  obtain ⟨a2, rfl, rfl, rfl, w2⟩ := open_int Try.underlying3 (hval 2 3 v2 rfl rfl) h2
  clear hA0 hval0
  simp only [List.append_nil] at hW'
  refine (walk a0 w0 a1 w1 a2 w2 W).mono fun e W' ⟨he, hg⟩ => ?_
  subst he
  exact ⟨_, rfl, law_post Try.laidOut rfl Try.underlying4 (by kernel_rfl) rfl rfl rfl rfl hW' hg⟩

theorem over : Rows.canvasMixesRow.holds Try.pinned (OpenSpec.ofChange Rows.canvasMixesSpec) :=
  OpenClaim.holds_of_wide 5 Try.f5 rfl rfl rfl rfl rfl rfl rfl ⟨rfl, rfl, rfl, rfl, rfl⟩ rfl rfl rfl rfl rfl (by kernel_rfl) Try.func5 (by kernel_rfl)
    (of_decide_eq_true (by kernel_rfl)) (by unfold Func.isWrapper; first | (rw [if_pos (by decide +kernel)]; kernel_rfl) | (rw [if_neg (by decide +kernel)]; exact ⟨rfl, rfl⟩))
    (fun os started H enc _ => lifted os started H enc)

theorem proved : Rows.CanvasMixesSaid :=
  over

end Go.Proofs.Ytlbbigehjdnjmaa.canvasMixes
