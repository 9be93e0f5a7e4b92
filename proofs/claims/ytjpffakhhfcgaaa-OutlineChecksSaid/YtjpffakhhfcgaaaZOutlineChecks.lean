/- OutlineChecks: which outlines may be, how many points they have, their hull; no condition but what the row prints. -/
import Derived.Test.YtjpffakhhfcgaaaCOut9

namespace Go.Proofs.Ytjpffakhhfcgaaa.outlineChecks
open Go.ChangeShapes Go.WideShapes Go.ChangeAt Go.RowKit

variable {W : World}
set_option maxRecDepth 100000 in
set_option maxHeartbeats 4000000 in
theorem walk (A : Option Addr) (c : Nat) (Ls : List (List Pt)) (h : OutAt W W.heap.size A Ls) (hm : ∀ L ∈ Ls, L.length ≤ 17592186044416) (hn : Ls.length ≤ 9223372036854775807) (W' : World) (hW : W' = W) :
    Calls Try.prog 3 #[.slice A Ls.length c] W' fun e w' => e = .returned (.bool true) ∧ Below W'.heap.size W' w' := by
  subst hW
  cases hb : bigB Ls
  · have hs2 := sm_of hb
    have hs := hs2.sm
    have CL := large_any W'.heap.size A c Ls W' (Nat.le_refl _) h hm hn false hb
    have CK := fun w1 (b1 : Below W'.heap.size W' w1) => rcheck_any W'.heap.size A c Ls w1 b1.size (h.below b1) hs
    have CC := fun w1 (b1 : Below W'.heap.size W' w1) => (lcopied_any W'.heap.size A c Ls w1 b1.size (h.below b1) hs).mono fun _ _ k => gave (n := Ls.length) rfl k
    have CP := fun (w1 : World) A c (o : OutAt w1 w1.heap.size A Ls) => check_any w1.heap.size A c Ls w1 (Nat.le_refl _) o hs
    have CN := fun w1 (b1 : Below W'.heap.size W' w1) => count_any W'.heap.size A c Ls w1 b1.size (h.below b1) hs
    have CM := fun w1 (b1 : Below W'.heap.size W' w1) => rcount_any W'.heap.size A c Ls w1 b1.size (h.below b1) hs
    have CR := fun w1 (b1 : Below W'.heap.size W' w1) (hc : cntO Ls ≤ 4096) => rhullO_any W'.heap.size A c Ls w1 b1.size (h.below b1) hs
    rw [chk_same] at CK
    by_cases hc : chkE Ls = 0
    · have CH := fun (w1 : World) A c (o : OutAt w1 w1.heap.size A Ls) => hull_any w1.heap.size A c Ls w1 (Nat.le_refl _) o hs hc
      have CRR := fun w1 b1 => CR w1 b1 (chk_zero hc).2.1 hc
      clear CR
      rw [hc] at CK CP
      clear h hm hs hs2 hc hb
      obtain ⟨n, hnn⟩ : ∃ n, n = Ls.length := ⟨_, rfl⟩
      rw [← hnn] at CL CK CC CN CM CRR CH CP ⊢
      clear hnn
      generalize boxO Ls = Q0 at *
      generalize cntO Ls = k0 at *
      have p5 := eqB_run Q0.x0 Q0.y0 Q0.x1 Q0.y1 Q0.x0 Q0.y0 Q0.x1 Q0.y1
      rw [show eq4 Q0.x0 Q0.y0 Q0.x1 Q0.y1 Q0.x0 Q0.y0 Q0.x1 Q0.y1 = true by simp [eq4]] at p5
      have p6 := eqB_guard Q0.x0 Q0.y0 Q0.x1 Q0.y1 Q0.x0 Q0.y0 Q0.x1 Q0.y1
      have d1 : ((k0 : Int) != (k0 : Int)) = false := by simp
      go_enter Try.func3, Try.ntmps3
      go_wp2_with (first
    | (go_at_call 7; ((with_reducible refine (CL).mono ?_); rintro e w1 ⟨rfl, B1⟩))
    | (go_at_call 9; ((with_reducible refine (CK _ B1).mono ?_); rintro e w2 ⟨rfl, b2⟩; have B2 := B1.trans (b2.mono B1.size)))
    | (go_at_call 11; ((with_reducible refine (CC _ B2).mono ?_); rintro e w3 ⟨A3, c3, rfl, o3, b3⟩; have B3 := B2.trans (b3.mono B2.size)))
    | (go_at_call 10; ((with_reducible refine (CH _ _ _ o3).mono ?_); rintro e w4 ⟨rfl, b4⟩; have B4 := B3.trans (b4.mono B3.size); have kb := Blk.new w4 28 #[.int .i64 Q0.x0, .int .i64 Q0.y0, .int .i64 Q0.x1, .int .i64 Q0.y1]; have B5 := B4.alloc B4.size (.cells #[.int .i64 Q0.x0, .int .i64 Q0.y0, .int .i64 Q0.x1, .int .i64 Q0.y1] 28)))
    | (go_at_call 8; ((with_reducible refine (lives10 _).mono ?_); rintro e w6 ⟨rfl, b6⟩; have B6 := B5.trans (b6.mono B5.size); have kb := kb.below b6))
    | (go_at_call 11; ((with_reducible refine (CC _ B6).mono ?_); rintro e w7 ⟨A7, c7, rfl, o7, b7⟩; have B7 := B6.trans (b7.mono B6.size); have kb := kb.below b7))
    | (go_at_call 12; ((with_reducible refine (CP _ _ _ o7).mono ?_); rintro e w8 ⟨rfl, b8⟩; have B8 := B7.trans (b8.mono B7.size); have kb := kb.below b8))
    | (go_at_call 13; ((with_reducible refine (CN _ B8).mono ?_); rintro e w9 ⟨rfl, b9⟩; have B9 := B8.trans (b9.mono B8.size); have kb := kb.below b9))
    | (go_at_call 14; ((with_reducible refine (CM _ B9).mono ?_); rintro e w10 ⟨rfl, b10⟩; have B10 := B9.trans (b10.mono B9.size); have kb := kb.below b10; have y0 := kb.cell 0; have y1 := kb.cell 1; have y2 := kb.cell 2; have y3 := kb.cell 3; have y4 := kb.lt; simp only [List.getElem?_toArray, List.getElem?_cons_zero, List.getElem?_cons_succ] at y0 y1 y2 y3)))
      refine wp_region_chain (fun V => Below w10.heap.size w10 V) [(0, false), (1, false), (2, true), (3, false), (4, false), (5, false), (6, false), (7, false), (8, false)] (by kernel_rfl) (by kernel_rfl) ((Below.refl _ _).drew) ?_
      repeat (first
        | (refine ChainL.skip (o := ?_) ?_ ?_ ?_; rotate_left; (focus (first | (simp only [List.getElem?_toArray, List.getElem?_cons_succ, List.getElem?_cons_zero]; with_reducible rfl) | (simp only [List.getElem?_toArray, List.getElem?_cons_zero]; with_reducible rfl))); (focus rfl); simp only [Act.put, List.setIfInBounds_toArray, List.set_cons_zero, List.set_cons_succ])
        | (refine ChainL.val (o := ?_) (v := ?_) ?_ ?_ ?_ ?_ ?_; rotate_left 2; (focus (first | (simp only [List.getElem?_toArray, List.getElem?_cons_succ, List.getElem?_cons_zero]; with_reducible rfl) | (simp only [List.getElem?_toArray, List.getElem?_cons_zero]; with_reducible rfl))); (focus (intro _ _ h; cases h)); (focus rfl); (focus (intro w' hJ; have kc := kb.below hJ; have z0 := kc.cell 0; have z1 := kc.cell 1; have z2 := kc.cell 2; have z3 := kc.cell 3; have z4 := kc.lt; simp only [List.getElem?_toArray, List.getElem?_cons_zero, List.getElem?_cons_succ] at z0 z1 z2 z3; go_simp <;> with_reducible rfl)); simp only [Act.put, List.setIfInBounds_toArray, List.set_cons_zero, List.set_cons_succ]))
      refine ChainL.call (o := ?_) (f := ?_) (args := ?_) ?_ ?_ ?_ ?_
      rotate_left 3
      (focus (simp only [List.getElem?_toArray, List.getElem?_cons_succ, List.getElem?_cons_zero]; with_reducible rfl))
      (focus rfl)
      (focus (go_simp; (constructor <;> with_reducible rfl)))
      refine (CRR _ (B10.drew)).mono ?_
      rintro e w11 ⟨rfl, b11⟩
      have b12 := ((Below.refl w10.heap.size w10).drew).trans b11
      refine ⟨_, rfl, b12, ?_⟩
      simp only [Act.put, List.setIfInBounds_toArray, List.set_cons_zero, List.set_cons_succ]
      repeat (first
        | (refine ChainL.skip (o := ?_) ?_ ?_ ?_; rotate_left; (focus (first | (simp only [List.getElem?_toArray, List.getElem?_cons_succ, List.getElem?_cons_zero]; with_reducible rfl) | (simp only [List.getElem?_toArray, List.getElem?_cons_zero]; with_reducible rfl))); (focus rfl); simp only [Act.put, List.setIfInBounds_toArray, List.set_cons_zero, List.set_cons_succ])
        | (refine ChainL.val (o := ?_) (v := ?_) ?_ ?_ ?_ ?_ ?_; rotate_left 2; (focus (first | (simp only [List.getElem?_toArray, List.getElem?_cons_succ, List.getElem?_cons_zero]; with_reducible rfl) | (simp only [List.getElem?_toArray, List.getElem?_cons_zero]; with_reducible rfl))); (focus (intro _ _ h; cases h)); (focus rfl); (focus (intro w' hJ; have kc := kb.below hJ; have z0 := kc.cell 0; have z1 := kc.cell 1; have z2 := kc.cell 2; have z3 := kc.cell 3; have z4 := kc.lt; simp only [List.getElem?_toArray, List.getElem?_cons_zero, List.getElem?_cons_succ] at z0 z1 z2 z3; go_simp <;> with_reducible rfl)); simp only [Act.put, List.setIfInBounds_toArray, List.set_cons_zero, List.set_cons_succ]))
      refine ChainL.nil ?_
      go_wp2
      go_ret
      exact ⟨rfl, B10.trans (b12.mono B10.size)⟩
    · have CH := fun (w1 : World) A c (o : OutAt w1 w1.heap.size A Ls) => hull_no w1.heap.size A c Ls w1 (Nat.le_refl _) o hs hc
      clear h hm hs hs2 hb CR
      obtain ⟨n, hnn⟩ : ∃ n, n = Ls.length := ⟨_, rfl⟩
      rw [← hnn] at CL CK CC CN CM CH CP ⊢
      clear hnn
      generalize chkE Ls = x at *
      generalize cntO Ls = k0 at *
      have p5 := eqB_run 0 0 0 0 0 0 0 0
      rw [show eq4 0 0 0 0 0 0 0 0 = true from rfl] at p5
      have p6 := eqB_guard 0 0 0 0 0 0 0 0
      have d1 : ((k0 : Int) != (k0 : Int)) = false := by simp
      have d2 : (x != x) = false := by simp
      have d3 : (x == 0) = false := by simpa using hc
      have d4 : (x != 0) = true := by simpa using hc
      have d5 : (x == x) = true := by simp
      go_enter Try.func3, Try.ntmps3
      go_wp2_with (first
    | (go_at_call 7; ((with_reducible refine (CL).mono ?_); rintro e w1 ⟨rfl, B1⟩))
    | (go_at_call 9; ((with_reducible refine (CK _ B1).mono ?_); rintro e w2 ⟨rfl, b2⟩; have B2 := B1.trans (b2.mono B1.size)))
    | (go_at_call 11; ((with_reducible refine (CC _ B2).mono ?_); rintro e w3 ⟨A3, c3, rfl, o3, b3⟩; have B3 := B2.trans (b3.mono B2.size)))
    | (go_at_call 10; ((with_reducible refine (CH _ _ _ o3).mono ?_); rintro e w4 ⟨rfl, b4⟩; have B4 := B3.trans (b4.mono B3.size); have kb := Blk.new w4 28 #[.int .i64 0, .int .i64 0, .int .i64 0, .int .i64 0]; have B5 := B4.alloc B4.size (.cells #[.int .i64 0, .int .i64 0, .int .i64 0, .int .i64 0] 28)))
    | (go_at_call 8; ((with_reducible refine (lives10 _).mono ?_); rintro e w6 ⟨rfl, b6⟩; have B6 := B5.trans (b6.mono B5.size); have kb := kb.below b6))
    | (go_at_call 11; ((with_reducible refine (CC _ B6).mono ?_); rintro e w7 ⟨A7, c7, rfl, o7, b7⟩; have B7 := B6.trans (b7.mono B6.size); have kb := kb.below b7))
    | (go_at_call 12; ((with_reducible refine (CP _ _ _ o7).mono ?_); rintro e w8 ⟨rfl, b8⟩; have B8 := B7.trans (b8.mono B7.size); have kb := kb.below b8))
    | (go_at_call 13; ((with_reducible refine (CN _ B8).mono ?_); rintro e w9 ⟨rfl, b9⟩; have B9 := B8.trans (b9.mono B8.size); have kb := kb.below b9))
    | (go_at_call 14; ((with_reducible refine (CM _ B9).mono ?_); rintro e w10 ⟨rfl, b10⟩; have B10 := B9.trans (b10.mono B9.size); have kb := kb.below b10; have y0 := kb.cell 0; have y1 := kb.cell 1; have y2 := kb.cell 2; have y3 := kb.cell 3; have y4 := kb.lt; simp only [List.getElem?_toArray, List.getElem?_cons_zero, List.getElem?_cons_succ] at y0 y1 y2 y3)))
      go_ret
      exact ⟨rfl, B10⟩
  · have CL := large_any W'.heap.size A c Ls W' (Nat.le_refl _) h hm hn true hb
    clear h hm hb
    obtain ⟨n, hnn⟩ : ∃ n, n = Ls.length := ⟨_, rfl⟩
    rw [← hnn] at CL ⊢
    clear hnn
    go_enter Try.func3, Try.ntmps3
    go_wp2_with (first | (go_at_call 7; ((with_reducible refine (CL).mono ?_); rintro e w1 ⟨rfl, B1⟩)) | (go_at_call 8; ((with_reducible refine (lives10 _).mono ?_); rintro e w2 ⟨rfl, b2⟩)))
    go_ret
    exact ⟨rfl, B1.trans (b2.mono B1.size)⟩

set_option linter.unusedVariables false in
set_option maxRecDepth 100000 in
theorem lifted (os : Os) (started : os.Started) (H : Type) (enc : TypeId × Value → H) :
    ReturnsInHanded {} Try.checked os 3 .any (Rows.outlineChecksSpec.pre6 enc Try.prog Try.f3 Rows.outlineChecksRow.domain false) (Rows.outlineChecksSpec.post enc Try.prog Try.f3 false true false false) := by
  refine returnsInHanded_of_change_sized (C := Try.checked) Try.own started (by kernel_rfl) Try.func3
    (ChangeSpec.witness6 (enc := enc) (C := Try.checked) false ⟨#[], #[.slice none 0 0], []⟩ 8 (by kernel_rfl) (by kernel_rfl) (by kernel_rfl) (by kernel_rfl)) ?_
  intro W base args ds gs before hval0 hW hcnd hsz0 _
  have hsz : (DataW.weightsEach Try.prog (Try.f3.params.toList ++ Rows.outlineChecksSpec.plain.varTypes Try.prog) (ds ++ gs)).all (· ≤ reachBytes) = true := hsz0
  have hval : ∀ (j : Nat) t v, Try.f3.params[j]? = some t → args[j]? = some v → Value.okWide Try.prog W .any base t v := hval0
  have hW' := hW
  obtain ⟨p, q, hA0, hV, rfl, hfz, hnd⟩ := hW
  have hA : DataW.TrodAll enc Try.prog W 0 (fun _ => true) true Try.f3.params.toList args.toList ds p := hA0
  rw [Try.params3] at hA hval hsz
  obtain ⟨v0, vs0, d0, ds0, p0, q0, hargs, rfl, rfl, h0, r0⟩ := trodAll_cons hA
  obtain ⟨rfl, rfl, rfl⟩ := trodAll_nil r0
  obtain rfl : args = #[v0] := by cases args; simp_all
  obtain ⟨rfl, rfl⟩ := trodVars_none hV
  have hz0 : ∀ m ∈ d0.weights Try.prog 22, m ≤ reachBytes := fun m hm => of_decide_eq_true (List.all_eq_true.1 hsz m (DataW.weights_mem_each (j := 0) rfl rfl m hm))
  obtain ⟨A0, c0, L0, rfl, k0, m0, n0⟩ := open_outl Try.underlying22 Try.underlying48 (by kernel_rfl) Try.underlying43 (by kernel_rfl) (by kernel_rfl) (by kernel_rfl) Try.underlying3 Try.underlying3 Try.underlying3 (hval 0 22 v0 rfl rfl) h0 hz0
  clear hA0 hval0
  simp only [List.append_nil] at hW'
  refine (walk A0 c0 L0 k0 m0 n0 W rfl).mono fun e W' ⟨he, hg⟩ => ?_
  subst he
  exact ⟨_, rfl, law_post Try.laidOut rfl Try.underlying4 (by kernel_rfl) rfl rfl rfl rfl hW' hg⟩

theorem over : Rows.outlineChecksRow.holds Try.pinned (OpenSpec.ofChange Rows.outlineChecksSpec) :=
  OpenClaim.holds_of_wide 3 Try.f3 rfl rfl rfl rfl rfl rfl rfl ⟨rfl, rfl, rfl, rfl, rfl⟩ rfl rfl rfl rfl rfl (by kernel_rfl) Try.func3 (by kernel_rfl)
    (of_decide_eq_true (by kernel_rfl)) (by unfold Func.isWrapper; first | (rw [if_pos (by decide +kernel)]; kernel_rfl) | (rw [if_neg (by decide +kernel)]; exact ⟨rfl, rfl⟩))
    (fun os started H enc _ => lifted os started H enc)

theorem proved : Rows.OutlineChecksSaid :=
  over

end Go.Proofs.Ytjpffakhhfcgaaa.outlineChecks
