/- ComposeEncodes: the bytes of any parts; which parts may be; no condition but what the row prints. -/
import Derived.Test.YtekailhghjideaaCCm20

namespace Go.Proofs.Ytekailhghjideaa.composeEncodes
open Go.ChangeShapes Go.WideShapes Go.ChangeAt Go.RowKit
set_option linter.unusedVariables false
set_option linter.unusedSimpArgs false

variable {W : World}
set_option maxRecDepth 100000 in
theorem walk_big (A0 : Option Addr) (c0 n : Nat) (hn : 300 < n) : Calls Try.prog 4 #[.slice A0 n c0] W fun e w' => e = .returned (.bool true) ∧ Below W.heap.size W w' := by
  have d0 : decide ((n : Int) > 300) = true := by simp; omega
  go_enter Try.func4, Try.ntmps4
  go_wp2_with (first | (go_at_call 9; ((with_reducible refine (lives12 _).mono ?_); rintro e w2 ⟨rfl, b2⟩)))
  go_ret
  exact ⟨rfl, b2⟩

set_option maxRecDepth 100000 in
set_option maxHeartbeats 4000000 in
theorem walk (A0 : Option Addr) (c0 : Nat) (L : List Prt) (k0 : L.length ≤ c0) (m0 : c0 ≤ 9223372036854775807) (l0 : Lists W W.heap.size A0 (L.flatMap prL)) :
    Calls Try.prog 4 #[.slice A0 L.length c0] W fun e w' => e = .returned (.bool true) ∧ Below W.heap.size W w' := by
  rcases Nat.lt_or_ge 300 L.length with hbig | hn
  · exact walk_big A0 c0 _ hbig
  obtain ⟨bs, code, h8, h1034, C1, C2, _, _⟩ := enc_both L hn
  obtain ⟨n, hnn⟩ : ∃ n, L.length = n := ⟨_, rfl⟩
  have HL := Lib.hid l0
  have HLL := Lib.hid (show (L.flatMap prL).length = n * 11 by rw [flat_len prLen, hnn])
  have HONE := Lib.hid (part_one L)
  have H8 := Lib.hid h8
  have HN := Lib.hid hnn
  rw [hnn] at hn k0 C1 C2 ⊢
  obtain ⟨j0, hj, hy0, hy1, hy2⟩ := info_partsP prInfo
  have d0 : decide ((n : Int) > 300) = false := by simp; omega
  clear l0 h8 hnn
  go_enter Try.func4, Try.ntmps4
  go_wp2_with (first
    | (at_builtin; refine wpList_append_src_wide _ rfl (.tmp 13) (.tmp 14) 23 rfl W.heap.size 36 j0 (.agg #[.int .i64 0, .int .i64 0, .int .i64 0, .int .i64 0, .int .i64 0, .bool false, .int .i64 0, .int .i64 0, .bool false, .int .i64 0, .int .i64 0]) 11 88 Try.underlying23 hj hy0 hy1 hy2 rfl (by decide) (.slice (some ⟨W.heap.size, 0, none⟩) 0 0) 0 [] rfl (own_newP W) _ A0 n c0 _ rfl (HL.out.alloc (Nat.le_refl _) _) HLL.out HONE.out (by simp only [maxLen]; omega) (by omega) (by simp) ?_; intro v1 w1 own1 hg1; rw [Nat.zero_add, List.nil_append] at own1; have b1 : Below W.heap.size W w1 := ((Below.refl _ _).alloc (Nat.le_refl _) _).grown hg1 (by simp) (fun b hb => by simp [Value.ownBlock] at hb; omega); obtain ⟨A9, c9, rfl, l9, hc9⟩ := own_lists own1; have hcap := own_capc own1; have HL9 := Lib.hid l9; clear l9)
    | (go_at_call 11; ((with_reducible refine (C1 A9 c9 _ HL9.out hc9 hcap).mono ?_); rintro e w2 ⟨A2, c2, rfl, l2, _, _, b2⟩; have B2 := b1.trans (b2.mono b1.size)))
    | (go_at_call 12; ((with_reducible refine (C2 A0 c0 _ ((HL.out.below B2).more B2.size)).mono ?_); rintro e w3 ⟨A3, c3, rfl, l3, b3⟩; have B3 := B2.trans (b3.mono B2.size))))
  go_loopw [7] (fun i wr => ∃ k : Nat, k ≤ n ∧ i = .int .i64 k ∧ Below W.heap.size W wr ∧ Below w3.heap.size w3 wr) (fun i _ => n - (intOf i).toNat)
  case atStart => exact ⟨0, Nat.zero_le _, rfl, B3, Below.refl _ _⟩
  case round =>
    obtain ⟨k, hk, rfl, hbW, hbw⟩ := hrel
    by_cases hlt : k < n
    · have d1 : decide ((k : Int) < (n : Int)) = true := by simp; omega
      obtain ⟨x, hx⟩ : ∃ x, L[k]? = some x := ⟨L[k]'(by rw [HN.out]; exact hlt), List.getElem?_eq_getElem _⟩
      obtain ⟨b, o, rfl, hb, hc⟩ := lists_flat prLen (by decide) HL.out hx
      have CM := fun V => pmay_any x V
      have CN := fun V => rmay_any x V
      clear hx
      cases hy : mayP x
      all_goals
        rw [hy] at CM CN
        clear hy
        go_wp2
        refine wp_region_chain (fun V => Below W.heap.size W V) [(0, false), (1, false), (2, false), (3, false), (5, false), (6, false), (7, false), (8, false), (4, true), (9, true), (10, false)] (by kernel_rfl) (by kernel_rfl) (hbW.drew) ?_
        repeat (first
          | (refine ChainL.skip (o := ?_) ?_ ?_ ?_; rotate_left; (focus (first | (simp only [List.getElem?_toArray, List.getElem?_cons_succ, List.getElem?_cons_zero]; with_reducible rfl) | (simp only [List.getElem?_toArray, List.getElem?_cons_zero]; with_reducible rfl))); (focus rfl); simp only [Act.put, List.setIfInBounds_toArray, List.set_cons_zero, List.set_cons_succ])
          | (refine ChainL.val (o := ?_) (v := ?_) ?_ ?_ ?_ ?_ ?_; rotate_left 2; (focus (first | (simp only [List.getElem?_toArray, List.getElem?_cons_succ, List.getElem?_cons_zero]; with_reducible rfl) | (simp only [List.getElem?_toArray, List.getElem?_cons_zero]; with_reducible rfl))); (focus (intro _ _ h; cases h)); (focus rfl); (focus (intro w' hI; have hA := run_loadAt_mid (P := Try.prog) w' b (o + k * 11) 36 (prL x) _ (range_below hc (Nat.lt_of_lt_of_le hb (Nat.le_refl _)) hI) Try.underlying36 rfl (by rw [prLen]; kernel_rfl); first | (have H := fun ρ o x => @exec_load _ ρ o _ _ x _ _ hA; refine H _ _ ?_ ?_ ?_; rotate_left; (focus rfl); (focus rfl)) | (go_simp <;> with_reducible rfl))); simp only [Act.put, List.setIfInBounds_toArray, List.set_cons_zero, List.set_cons_succ]))
        refine ChainL.call (o := ?_) (f := ?_) (args := ?_) ?_ ?_ ?_ ?_
        rotate_left 3
        (focus (simp only [List.getElem?_toArray, List.getElem?_cons_succ, List.getElem?_cons_zero]; with_reducible rfl))
        (focus rfl)
        (focus (go_simp; (constructor <;> with_reducible rfl)))
        refine (CM _).mono ?_
        rintro e w5 ⟨rfl, b5⟩
        have b5W := (hbW.drew).trans (b5.mono (hbW.drew).size); have b5w := (hbw.drew).trans (b5.mono (hbw.drew).size); refine ⟨_, rfl, b5W, ?_⟩
        simp only [Act.put, List.setIfInBounds_toArray, List.set_cons_zero, List.set_cons_succ]
        refine ChainL.call (o := ?_) (f := ?_) (args := ?_) ?_ ?_ ?_ ?_
        rotate_left 3
        (focus (simp only [List.getElem?_toArray, List.getElem?_cons_succ, List.getElem?_cons_zero]; with_reducible rfl))
        (focus rfl)
        (focus (go_simp; (constructor <;> with_reducible rfl)))
        refine (CN _).mono ?_
        rintro e w6 ⟨rfl, b6⟩
        have b6W := b5W.trans (b6.mono b5W.size); have b6w := b5w.trans (b6.mono b5w.size); refine ⟨_, rfl, b6W, ?_⟩
        simp only [Act.put, List.setIfInBounds_toArray, List.set_cons_zero, List.set_cons_succ]
        repeat (first
          | (refine ChainL.skip (o := ?_) ?_ ?_ ?_; rotate_left; (focus (first | (simp only [List.getElem?_toArray, List.getElem?_cons_succ, List.getElem?_cons_zero]; with_reducible rfl) | (simp only [List.getElem?_toArray, List.getElem?_cons_zero]; with_reducible rfl))); (focus rfl); simp only [Act.put, List.setIfInBounds_toArray, List.set_cons_zero, List.set_cons_succ])
          | (refine ChainL.val (o := ?_) (v := ?_) ?_ ?_ ?_ ?_ ?_; rotate_left 2; (focus (first | (simp only [List.getElem?_toArray, List.getElem?_cons_succ, List.getElem?_cons_zero]; with_reducible rfl) | (simp only [List.getElem?_toArray, List.getElem?_cons_zero]; with_reducible rfl))); (focus (intro _ _ h; cases h)); (focus rfl); (focus (intro w' hI; have hA := run_loadAt_mid (P := Try.prog) w' b (o + k * 11) 36 (prL x) _ (range_below hc (Nat.lt_of_lt_of_le hb (Nat.le_refl _)) hI) Try.underlying36 rfl (by rw [prLen]; kernel_rfl); first | (have H := fun ρ o x => @exec_load _ ρ o _ _ x _ _ hA; refine H _ _ ?_ ?_ ?_; rotate_left; (focus rfl); (focus rfl)) | (go_simp <;> with_reducible rfl))); simp only [Act.put, List.setIfInBounds_toArray, List.set_cons_zero, List.set_cons_succ]))
        refine ChainL.nil ?_
        go_wp2
        go_roundw
        case rel => exact ⟨k + 1, by omega, by go_num, b6W, b6w⟩
        case measure => simp [intOf]; omega
    · obtain rfl : k = n := by omega
      have d1 : decide ((k : Int) < (k : Int)) = false := by simp
      go_wp2_with (first | (go_at_call 9; ((with_reducible refine (lives12 _).mono ?_); rintro e w7 ⟨rfl, b7⟩; have B7 := hbW.trans (b7.mono hbW.size); have b37 := hbw.trans (b7.mono hbw.size); have b27 := b3.trans (b37.mono b3.size); have q1 := conv_lists (c := c2) ((l2.out.below b27).more b27.size) rfl H8.out; have q2 := conv_lists (c := c3) ((l3.out.below b37).more b37.size) rfl H8.out)))
      go_ret
      exact ⟨rfl, B7⟩

set_option linter.unusedVariables false in
set_option maxRecDepth 100000 in
theorem lifted (os : Os) (started : os.Started) (H : Type) (enc : TypeId × Value → H) :
    ReturnsInHanded {} Try.checked os 4 .any (Rows.composeEncodesSpec.pre6 enc Try.prog Try.f4 Rows.composeEncodesRow.domain false) (Rows.composeEncodesSpec.post enc Try.prog Try.f4 false true false false) := by
  refine returnsInHanded_of_change (C := Try.checked) Try.own started (by kernel_rfl) Try.func4
    (ChangeSpec.witness6 (enc := enc) (C := Try.checked) false ⟨#[], #[.slice none 0 0], []⟩ 8 (by kernel_rfl) (by kernel_rfl) (by kernel_rfl) (by kernel_rfl)) ?_
  intro W base args ds gs before hval0 hW hcnd _
  have hval : ∀ (j : Nat) t v, Try.f4.params[j]? = some t → args[j]? = some v → Value.okWide Try.prog W .any base t v := hval0
  have hW' := hW
  obtain ⟨p, q, hA0, hV, rfl, hfz, hnd⟩ := hW
  have hA : DataW.TrodAll enc Try.prog W 0 (fun _ => true) true Try.f4.params.toList args.toList ds p := hA0
  rw [Try.params4] at hA hval
  obtain ⟨v0, vs0, d0, ds0, p0, q0, hargs, rfl, rfl, h0, r0⟩ := trodAll_cons hA
  obtain ⟨rfl, rfl, rfl⟩ := trodAll_nil r0
  obtain rfl : args = #[v0] := by cases args; simp_all
  obtain ⟨rfl, rfl⟩ := trodVars_none hV
  obtain ⟨A0, c0, L0, rfl, k0, m0, l0⟩ := open_parts (hval 0 23 v0 rfl rfl) h0
  clear hA0 hval0
  simp only [List.append_nil] at hW'
  refine (walk (W := W) A0 c0 L0 k0 m0 l0).mono fun e W' ⟨he, hg⟩ => ?_
  subst he
  exact ⟨_, rfl, law_post Try.laidOut rfl Try.underlying4 (by kernel_rfl) rfl rfl rfl rfl hW' hg⟩

theorem over : Rows.composeEncodesRow.holds Try.pinned (OpenSpec.ofChange Rows.composeEncodesSpec) :=
  OpenClaim.holds_of_wide 4 Try.f4 rfl rfl rfl rfl rfl rfl rfl ⟨rfl, rfl, rfl, rfl, rfl⟩ rfl rfl rfl rfl rfl (by kernel_rfl) Try.func4 (by kernel_rfl)
    (of_decide_eq_true (by kernel_rfl)) (by unfold Func.isWrapper; first | (rw [if_pos (by decide +kernel)]; kernel_rfl) | (rw [if_neg (by decide +kernel)]; exact ⟨rfl, rfl⟩))
    (fun os started H enc _ => lifted os started H enc)

theorem proved : Rows.ComposeEncodesSaid :=
  over

end Go.Proofs.Ytekailhghjideaa.composeEncodes
