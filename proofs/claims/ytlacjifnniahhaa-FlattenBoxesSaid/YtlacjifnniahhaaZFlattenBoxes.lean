/- FlattenBoxes: whether closed lines may be, their box and their area are as the document says; for every list of lists of dots. -/
import Derived.Test.YtlacjifnniahhaaM2FlattenBoxes

namespace Go.Proofs.Ytlacjifnniahhaa.flattenBoxes
open Go Go.ChangeShapes Go.WideShapes Go.ChangeAt Go.RowKit Go.Shelf
set_option linter.unusedVariables false
set_option linter.unusedSimpArgs false

set_option maxRecDepth 100000 in
set_option maxHeartbeats 4000000 in
theorem walk_big {W : World} (A : Option Addr) (c : Nat) (Ls : List (List Dt)) (h : OutF dtL W W.heap.size A Ls) (hm : ∀ L ∈ Ls, L.length ≤ 17592186044416) (hn : Ls.length ≤ 9223372036854775807) (hbig : 70000 < cntW Ls ∨ 5000 < Ls.length) : Calls Try.prog 5 #[.slice A Ls.length c] W fun e w' => e = .returned (.bool true) ∧ Below W.heap.size W w' := by
  have CT := rcnt21 A c Ls W h hm hn
  clear h hm
  by_cases h7 : 70000 < cntW Ls
  · have d7 : decide (70000 < cntW Ls) = true := by simpa using h7
    clear h7 hbig
    generalize cntW Ls = C at *
    generalize Ls.length = n at *
    go_enter Try.func5, Try.ntmps5
    go_wp2_with (first
      | (go_at_call 20; (with_reducible refine (CT).mono ?_); rintro e w1 ⟨rfl, rfl⟩)
      | (go_at_call 10; ((with_reducible refine (lives21 _).mono ?_); rintro e w2 ⟨rfl, b2⟩)))
    go_ret
    exact ⟨rfl, b2⟩
  · have d7 : decide (70000 < cntW Ls) = false := by simpa using h7
    have d5 : decide ((5000 : Int) < (Ls.length : Int)) = true := by simp; omega
    clear h7 hbig
    generalize cntW Ls = C at *
    generalize Ls.length = n at *
    go_enter Try.func5, Try.ntmps5
    go_wp2_with (first
      | (go_at_call 20; (with_reducible refine (CT).mono ?_); rintro e w1 ⟨rfl, rfl⟩)
      | (go_at_call 10; ((with_reducible refine (lives21 _).mono ?_); rintro e w2 ⟨rfl, b2⟩)))
    go_ret
    exact ⟨rfl, b2⟩
set_option maxRecDepth 100000 in
set_option maxHeartbeats 4000000 in
theorem walk_bad {W : World} (A : Option Addr) (c : Nat) (Ls : List (List Dt)) (h : OutF dtL W W.heap.size A Ls) (hm : ∀ L ∈ Ls, L.length ≤ 17592186044416) (hn : Ls.length ≤ 9223372036854775807) (h7 : ¬ 70000 < cntW Ls) (h5 : Ls.length ≤ 5000) (hg : mayF Ls ≠ 0) : Calls Try.prog 5 #[.slice A Ls.length c] W fun e w' => e = .returned (.bool true) ∧ Below W.heap.size W w' := by
  have hcw : cntW Ls = ((cntF Ls : Nat) : Int) := by have := cntW_eq hm h5 Ls.length; rwa [List.take_length] at this
  have hsm : SmF Ls := ⟨by omega, by rw [hcw] at h7; omega⟩
  have CT := rcnt21 A c Ls W h hm hn
  have d7 : decide (70000 < cntW Ls) = false := by simp; omega
  have d5 : decide ((5000 : Int) < (Ls.length : Int)) = false := by simp; omega
  have UP := fun V (b : Below W.heap.size W V) => (h.below b).more b.size
  have CB := fbox_bad A c Ls W h hsm hg
  have CA := fun V b => farea_any A c Ls V (UP V b) hsm
  have CR := fun V b => rmay21 A c Ls V (UP V b) hsm h5
  have CM := fun V b => fmay_any A c Ls V (UP V b) hsm
  have HG := Lib.hid hg
  have g1 : (mayF Ls != 0) = true := by simpa using hg
  simp only [if_neg hg] at CA
  have p1 := eqB_run 0 0 0 0 0 0 0 0
  rw [show eq4 0 0 0 0 0 0 0 0 = true from rfl] at p1
  have p2 := eqB_guard 0 0 0 0 0 0 0 0
  clear hg h7 h5 hcw hsm h hm UP
  generalize cntW Ls = C at *
  generalize mayF Ls = g at *
  generalize Ls.length = n at *
  go_enter Try.func5, Try.ntmps5
  go_upto_region 3 with (go_at_call 20; (with_reducible refine (CT).mono ?_); rintro e w1 ⟨rfl, rfl⟩)
  go_upto_region 4 with (go_at_call 21; (with_reducible refine (CB).mono ?_); rintro e w2 ⟨rfl, b2⟩)
  obtain ⟨W2, hW2⟩ : ∃ W2, W2 = w2.alloc (.cells #[.int .i64 0, .int .i64 0, .int .i64 0, .int .i64 0] 48) := ⟨_, rfl⟩
  have KQ : Blk W2 w2.heap.size 48 #[.int .i64 0, .int .i64 0, .int .i64 0, .int .i64 0] := hW2 ▸ Blk.new _ _ _
  have B2 : Below w1.heap.size w1 W2 := hW2 ▸ b2.alloc b2.size _
  rw [← hW2]
  obtain ⟨qb, hqb⟩ : ∃ qb, qb = w2.heap.size := ⟨_, rfl⟩
  rw [← hqb] at KQ ⊢
  clear hW2 hqb b2
  have CA2 := CA _ B2
  go_upto_region 5 with (go_at_call 22; (with_reducible refine (CA2).mono ?_); rintro e w3 ⟨rfl, b3⟩)
  have B3 := B2.trans (b3.mono B2.size)
  have KQ3 := KQ.below b3
  have CR3 := CR _ B3
  go_upto_region 6 with (go_at_call 23; (with_reducible refine (CR3).mono ?_); rintro e w4 ⟨rfl, rfl⟩)
  go_upto_region 8 with (first
    | (go_at_call 10; ((with_reducible refine (lives21 _).mono ?_); rintro e w5 ⟨rfl, b5⟩; have B5 := B3.trans (b5.mono B3.size); have KQ5 := KQ3.below b5; have CM5 := CM _ B5))
    | (go_at_call 19; ((with_reducible refine (CM5).mono ?_); rintro e w6 ⟨rfl, b6⟩)))
  have B6 := B5.trans (b6.mono B5.size)
  have KQ6 := KQ5.below b6
  have z0 := KQ6.cell 0; have z1 := KQ6.cell 1; have z2 := KQ6.cell 2; have z3 := KQ6.cell 3; have zl := KQ6.lt; simp only [List.getElem?_toArray, List.getElem?_cons_succ, List.getElem?_cons_zero] at z0 z1 z2 z3
  clear KQ KQ3 KQ5 b3 b5 b6 B2 B3 B5
  go_wp2
  go_ret
  exact ⟨rfl, B6⟩
set_option maxRecDepth 100000 in
set_option maxHeartbeats 4000000 in
theorem walk_ok {W : World} (A : Option Addr) (c : Nat) (Ls : List (List Dt)) (h : OutF dtL W W.heap.size A Ls) (hm : ∀ L ∈ Ls, L.length ≤ 17592186044416) (hn : Ls.length ≤ 9223372036854775807) (h7 : ¬ 70000 < cntW Ls) (h5 : Ls.length ≤ 5000) (hg : mayF Ls = 0) : Calls Try.prog 5 #[.slice A Ls.length c] W fun e w' => e = .returned (.bool true) ∧ Below W.heap.size W w' := by
  have hcw : cntW Ls = ((cntF Ls : Nat) : Int) := by have := cntW_eq hm h5 Ls.length; rwa [List.take_length] at this
  have hsm : SmF Ls := ⟨by omega, by rw [hcw] at h7; omega⟩
  have CT := rcnt21 A c Ls W h hm hn
  have d7 : decide (70000 < cntW Ls) = false := by simp; omega
  have d5 : decide ((5000 : Int) < (Ls.length : Int)) = false := by simp; omega
  have UP := fun V (b : Below W.heap.size W V) => (h.below b).more b.size
  have CB := fbox_ok A c Ls W h hsm hg
  have CA := fun V b => farea_any A c Ls V (UP V b) hsm
  have CR := fun V b => rmay21 A c Ls V (UP V b) hsm h5
  have CM := fun V b => fmay_any A c Ls V (UP V b) hsm
  have CX := fun V b => rbox21 A c Ls V (UP V b) hsm hg
  have CY := fun V b => rarea21 A c Ls V (UP V b) hsm hg
  simp only [if_pos hg] at CA
  simp only [hg] at CA CR CM
  clear hg h7 h5 hcw hsm h hm UP
  generalize cntW Ls = C at *
  generalize boxF Ls = Q at *
  generalize arF (lnA Ls) = a at *
  generalize Ls.length = n at *
  obtain ⟨X0, Y0, X1, Y1⟩ := Q
  have p1 := eqB_run X0 Y0 X1 Y1 X0 Y0 X1 Y1
  rw [show eq4 X0 Y0 X1 Y1 X0 Y0 X1 Y1 = true by simp [eq4]] at p1
  have p2 := eqB_guard X0 Y0 X1 Y1 X0 Y0 X1 Y1
  go_enter Try.func5, Try.ntmps5
  go_upto_region 3 with (go_at_call 20; (with_reducible refine (CT).mono ?_); rintro e w1 ⟨rfl, rfl⟩)
  go_upto_region 4 with (go_at_call 21; (with_reducible refine (CB).mono ?_); rintro e w2 ⟨rfl, b2⟩)
  obtain ⟨W2, hW2⟩ : ∃ W2, W2 = w2.alloc (.cells #[.int .i64 X0, .int .i64 Y0, .int .i64 X1, .int .i64 Y1] 48) := ⟨_, rfl⟩
  have KQ : Blk W2 w2.heap.size 48 #[.int .i64 X0, .int .i64 Y0, .int .i64 X1, .int .i64 Y1] := hW2 ▸ Blk.new _ _ _
  have B2 : Below w1.heap.size w1 W2 := hW2 ▸ b2.alloc b2.size _
  rw [← hW2]
  obtain ⟨qb, hqb⟩ : ∃ qb, qb = w2.heap.size := ⟨_, rfl⟩
  rw [← hqb] at KQ ⊢
  clear hW2 hqb b2
  have CA2 := CA _ B2
  go_upto_region 5 with (go_at_call 22; (with_reducible refine (CA2).mono ?_); rintro e w3 ⟨rfl, b3⟩)
  have B3 := B2.trans (b3.mono B2.size)
  have KQ3 := KQ.below b3
  have CR3 := CR _ B3
  go_upto_region 6 with (go_at_call 23; (with_reducible refine (CR3).mono ?_); rintro e w4 ⟨rfl, rfl⟩)
  go_upto_region 8 with (first
    | (go_at_call 10; ((with_reducible refine (lives21 _).mono ?_); rintro e w5 ⟨rfl, b5⟩; have B5 := B3.trans (b5.mono B3.size); have KQ5 := KQ3.below b5; have CM5 := CM _ B5))
    | (go_at_call 19; ((with_reducible refine (CM5).mono ?_); rintro e w6 ⟨rfl, b6⟩)))
  have B6 := B5.trans (b6.mono B5.size)
  have KQ6 := KQ5.below b6
  have z0 := KQ6.cell 0; have z1 := KQ6.cell 1; have z2 := KQ6.cell 2; have z3 := KQ6.cell 3; have zl := KQ6.lt; simp only [List.getElem?_toArray, List.getElem?_cons_succ, List.getElem?_cons_zero] at z0 z1 z2 z3
  clear KQ KQ3 KQ5 b3 b5 b6 B2 B3 B5
  go_upto_region 10 with fail
  have HD : Hid (∀ V : World, Below w6.heap.size w6 V → V.cell? ⟨qb, 0, none⟩ = some (.int .i64 X0) ∧ V.cell? ⟨qb, 1, none⟩ = some (.int .i64 Y0) ∧ V.cell? ⟨qb, 2, none⟩ = some (.int .i64 X1) ∧ V.cell? ⟨qb, 3, none⟩ = some (.int .i64 Y1) ∧ qb < V.heap.size) := Lib.hid fun V hV => ⟨(hV.cell (p := ⟨qb, 0, none⟩) zl).trans z0, (hV.cell (p := ⟨qb, 1, none⟩) zl).trans z1, (hV.cell (p := ⟨qb, 2, none⟩) zl).trans z2, (hV.cell (p := ⟨qb, 3, none⟩) zl).trans z3, Nat.lt_of_lt_of_le zl hV.size⟩
  clear z0 z1 z2 z3 zl KQ6
  have hI : Below w6.heap.size w6 w6.drew := (Below.refl _ _).drew
  refine wp_region_chain (fun V => Below w6.heap.size w6 V) [(0, false), (1, false), (2, true), (3, false), (4, false), (5, false), (6, false), (7, true), (8, false), (9, false), (10, false)] (by kernel_rfl) (by kernel_rfl) hI ?_
  obtain ⟨wd, hwd⟩ : ∃ wd, wd = w6.drew := ⟨_, rfl⟩
  rw [← hwd] at hI ⊢
  clear hwd
  repeat (first
    | (refine ChainL.skip (o := ?_) ?_ ?_ ?_; rotate_left; (focus (first | (simp only [List.getElem?_toArray, List.getElem?_cons_succ, List.getElem?_cons_zero]; with_reducible rfl) | (simp only [List.getElem?_toArray, List.getElem?_cons_zero]; with_reducible rfl))); (focus rfl); simp only [Act.put, List.setIfInBounds_toArray, List.set_cons_zero, List.set_cons_succ])
    | (refine ChainL.val (o := ?_) (v := ?_) ?_ ?_ ?_ ?_ ?_; rotate_left 2; (focus (first | (simp only [List.getElem?_toArray, List.getElem?_cons_succ, List.getElem?_cons_zero]; with_reducible rfl) | (simp only [List.getElem?_toArray, List.getElem?_cons_zero]; with_reducible rfl))); (focus (intro _ _ h; cases h)); (focus rfl); (focus (intro w' hJ; obtain ⟨z0, z1, z2, z3, zl⟩ := HD.out _ hJ; go_simp <;> with_reducible rfl)); simp only [Act.put, List.setIfInBounds_toArray, List.set_cons_zero, List.set_cons_succ]))
  refine ChainL.call (o := ?_) (f := ?_) (args := ?_) ?_ ?_ ?_ ?_
  rotate_left 3
  (focus (first | (simp only [List.getElem?_toArray, List.getElem?_cons_succ, List.getElem?_cons_zero]; with_reducible rfl) | (simp only [List.getElem?_toArray, List.getElem?_cons_zero]; with_reducible rfl)))
  (focus rfl)
  (focus (go_simp; (constructor <;> with_reducible rfl)))
  with_reducible refine (CX _ (B6.trans (hI.mono B6.size))).mono ?_
  rintro e w7 ⟨rfl, b7⟩
  have hI7 : Below w6.heap.size w6 w7 := hI.trans (b7.mono hI.size)
  refine ⟨_, rfl, hI7, ?_⟩
  simp only [Act.put, List.setIfInBounds_toArray, List.set_cons_zero, List.set_cons_succ]
  repeat (first
    | (refine ChainL.skip (o := ?_) ?_ ?_ ?_; rotate_left; (focus (first | (simp only [List.getElem?_toArray, List.getElem?_cons_succ, List.getElem?_cons_zero]; with_reducible rfl) | (simp only [List.getElem?_toArray, List.getElem?_cons_zero]; with_reducible rfl))); (focus rfl); simp only [Act.put, List.setIfInBounds_toArray, List.set_cons_zero, List.set_cons_succ])
    | (refine ChainL.val (o := ?_) (v := ?_) ?_ ?_ ?_ ?_ ?_; rotate_left 2; (focus (first | (simp only [List.getElem?_toArray, List.getElem?_cons_succ, List.getElem?_cons_zero]; with_reducible rfl) | (simp only [List.getElem?_toArray, List.getElem?_cons_zero]; with_reducible rfl))); (focus (intro _ _ h; cases h)); (focus rfl); (focus (intro w' hJ; obtain ⟨z0, z1, z2, z3, zl⟩ := HD.out _ hJ; go_simp <;> with_reducible rfl)); simp only [Act.put, List.setIfInBounds_toArray, List.set_cons_zero, List.set_cons_succ]))
  refine ChainL.call (o := ?_) (f := ?_) (args := ?_) ?_ ?_ ?_ ?_
  rotate_left 3
  (focus (first | (simp only [List.getElem?_toArray, List.getElem?_cons_succ, List.getElem?_cons_zero]; with_reducible rfl) | (simp only [List.getElem?_toArray, List.getElem?_cons_zero]; with_reducible rfl)))
  (focus rfl)
  (focus (go_simp; (constructor <;> with_reducible rfl)))
  with_reducible refine (CY _ (B6.trans (hI7.mono B6.size))).mono ?_
  rintro e w8 ⟨rfl, b8⟩
  have hI8 : Below w6.heap.size w6 w8 := hI7.trans (b8.mono hI7.size)
  refine ⟨_, rfl, hI8, ?_⟩
  simp only [Act.put, List.setIfInBounds_toArray, List.set_cons_zero, List.set_cons_succ]
  repeat (first
    | (refine ChainL.skip (o := ?_) ?_ ?_ ?_; rotate_left; (focus (first | (simp only [List.getElem?_toArray, List.getElem?_cons_succ, List.getElem?_cons_zero]; with_reducible rfl) | (simp only [List.getElem?_toArray, List.getElem?_cons_zero]; with_reducible rfl))); (focus rfl); simp only [Act.put, List.setIfInBounds_toArray, List.set_cons_zero, List.set_cons_succ])
    | (refine ChainL.val (o := ?_) (v := ?_) ?_ ?_ ?_ ?_ ?_; rotate_left 2; (focus (first | (simp only [List.getElem?_toArray, List.getElem?_cons_succ, List.getElem?_cons_zero]; with_reducible rfl) | (simp only [List.getElem?_toArray, List.getElem?_cons_zero]; with_reducible rfl))); (focus (intro _ _ h; cases h)); (focus rfl); (focus (intro w' hJ; obtain ⟨z0, z1, z2, z3, zl⟩ := HD.out _ hJ; go_simp <;> with_reducible rfl)); simp only [Act.put, List.setIfInBounds_toArray, List.set_cons_zero, List.set_cons_succ]))
  refine ChainL.nil ?_
  go_wp2
  go_ret
  exact ⟨rfl, B6.trans (hI8.mono B6.size)⟩
theorem walk {W : World} (A : Option Addr) (c : Nat) (Ls : List (List Dt)) (h : OutF dtL W W.heap.size A Ls) (hm : ∀ L ∈ Ls, L.length ≤ 17592186044416) (hn : Ls.length ≤ 9223372036854775807) (hc : Ls.length ≤ c) : Calls Try.prog 5 #[.slice A Ls.length c] W fun e w' => e = .returned (.bool true) ∧ Below W.heap.size W w' := by
  by_cases h7 : 70000 < cntW Ls
  · exact walk_big A c Ls h hm hn (.inl h7)
  · by_cases h5 : 5000 < Ls.length
    · exact walk_big A c Ls h hm hn (.inr h5)
    · by_cases hg : mayF Ls = 0
      · exact walk_ok A c Ls h hm hn h7 (by omega) hg
      · exact walk_bad A c Ls h hm hn h7 (by omega) hg

set_option linter.unusedVariables false in
set_option maxRecDepth 100000 in
theorem lifted (os : Os) (started : os.Started) (H : Type) (enc : TypeId × Value → H) :
    ReturnsInHanded {} Try.checked os 5 .any (Rows.flattenBoxesSpec.pre6 enc Try.prog Try.f5 Rows.flattenBoxesRow.domain false) (Rows.flattenBoxesSpec.post enc Try.prog Try.f5 false true false false) := by
  refine returnsInHanded_of_change_sized (C := Try.checked) Try.own started (by kernel_rfl) Try.func5
    (ChangeSpec.witness6 (enc := enc) (C := Try.checked) false ⟨#[], #[.slice none 0 0], []⟩ 8 (by kernel_rfl) (by kernel_rfl) (by kernel_rfl) (by kernel_rfl)) ?_
  intro W base args ds gs before hval0 hW hcnd hsz0 _
  have hsz : (DataW.weightsEach Try.prog (Try.f5.params.toList ++ Rows.flattenBoxesSpec.plain.varTypes Try.prog) (ds ++ gs)).all (· ≤ reachBytes) = true := hsz0
  have hval : ∀ (j : Nat) t v, Try.f5.params[j]? = some t → args[j]? = some v → Value.okWide Try.prog W .any base t v := hval0
  have hW' := hW
  obtain ⟨p, q, hA0, hV, rfl, hfz, hnd⟩ := hW
  have hA : DataW.TrodAll enc Try.prog W 0 (fun _ => true) true Try.f5.params.toList args.toList ds p := hA0
  rw [Try.params5] at hA hval hsz
  obtain ⟨v0, vs0, d0, ds0, p0, q0, hargs, rfl, rfl, h0, r0⟩ := trodAll_cons hA
  obtain ⟨rfl, rfl, rfl⟩ := trodAll_nil r0
  obtain rfl : args = #[v0] := by cases args; simp_all
  obtain ⟨rfl, rfl⟩ := trodVars_none hV
  have hz0 : ∀ m ∈ d0.weights Try.prog 39, m ≤ reachBytes := fun m hm => of_decide_eq_true (List.all_eq_true.1 hsz m (DataW.weights_mem_each (j := 0) rfl rfl m hm))
  obtain ⟨A0, c0, L0, rfl, k0, m0, n0, p09, q09⟩ := open_outF (f := dtL) (sz := 2) (by_ := 16) Try.underlying39 Try.underlying61 (by kernel_rfl) (by kernel_rfl) dtLen (by decide) open_dtF (by kernel_rfl) (by decide) (hval 0 39 v0 rfl rfl) h0 hz0
  clear hA0 hval0
  simp only [List.append_nil] at hW'
  refine (walk (W := W) A0 c0 L0 k0 m0 n0 p09).mono fun e W' ⟨he, hg⟩ => ?_
  subst he
  exact ⟨_, rfl, law_post Try.laidOut rfl Try.underlying4 (by kernel_rfl) rfl rfl rfl rfl hW' hg⟩

theorem over : Rows.flattenBoxesRow.holds Try.pinned (OpenSpec.ofChange Rows.flattenBoxesSpec) :=
  OpenClaim.holds_of_wide 5 Try.f5 rfl rfl rfl rfl rfl rfl rfl ⟨rfl, rfl, rfl, rfl, rfl⟩ rfl rfl rfl rfl rfl (by kernel_rfl) Try.func5 (by kernel_rfl)
    (of_decide_eq_true (by kernel_rfl)) (by unfold Func.isWrapper; first | (rw [if_pos (by decide +kernel)]; kernel_rfl) | (rw [if_neg (by decide +kernel)]; exact ⟨rfl, rfl⟩))
    (fun os started H enc _ => lifted os started H enc)

theorem proved : Rows.FlattenBoxesSaid :=
  over

end Go.Proofs.Ytlacjifnniahhaa.flattenBoxes
