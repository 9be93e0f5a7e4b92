/- SimpleCuts: no beginning of an outline's bytes but the empty one is a glyph; no condition but what the row prints. -/
import Derived.Test.YtelhckckcilpaaaCSp14

namespace Go.Proofs.Ytelhckckcilpaaa.simpleCuts
open Go.ChangeShapes Go.WideShapes Go.ChangeAt Go.RowKit

variable {W : World}
set_option maxRecDepth 100000 in
theorem walk_big (A0 : Option Addr) (c0 : Nat) (L0 : List (List Pt)) (h : OutAt W W.heap.size A0 L0) (hm : ∀ L ∈ L0, L.length ≤ 17592186044416) (hn : L0.length ≤ 9223372036854775807) (hb : bigB L0 = true) (S : Value) : Calls Try.prog 6 #[.slice A0 L0.length c0, S] W fun e w' => e = .returned (.bool true) ∧ Below W.heap.size W w' := by
  have CL := splarge_any W.heap.size A0 c0 L0 W (Nat.le_refl _) h hm hn true hb
  generalize L0.length = n at *
  clear h hm hb
  go_enter Try.func6, Try.ntmps6
  go_wp2_with (first | (go_at_call 13; ((with_reducible refine (CL).mono ?_); rintro e w1 ⟨rfl, B1⟩)) | (go_at_call 9; ((with_reducible refine (lives11 _).mono ?_); rintro e w2 ⟨rfl, b2⟩)))
  go_ret
  exact ⟨rfl, B1.trans (b2.mono B1.size)⟩

set_option maxRecDepth 100000 in
theorem walk_no (A0 : Option Addr) (c0 n : Nat) (L0 : List (List Pt)) (hn : L0.length = n) (h : OutAt W W.heap.size A0 L0) (hm : ∀ L ∈ L0, L.length ≤ 17592186044416) (hnn : n ≤ 9223372036854775807) (hb : bigB L0 = false) (x : Int) (bs : List Value) (m : Nat) (hmm : bs.length = m) (r : Int) (he : encS L0 = (r, bs)) (hr : r ≠ 0 ∨ x < 1 ∨ (m : Int) ≤ x) :
    Calls Try.prog 6 #[.slice A0 n c0, .int .i64 x] W fun e w' => e = .returned (.bool true) ∧ Below W.heap.size W w' := by
  have CL := splarge_any W.heap.size A0 c0 L0 W (Nat.le_refl _) h hm (by omega) false hb
  rw [hn] at CL
  have CE := fun w1 (b1 : Below W.heap.size W w1) => spenc_l A0 c0 n L0 w1 (tup h b1) (spsm_of hb) hn bs r he m hmm
  clear h hm hb he hn hmm
  by_cases hz : r = 0
  · subst hz
    by_cases hx : x < 1
    · have d1 : decide (x < 1) = true := by simpa using hx
      go_enter Try.func6, Try.ntmps6
      go_wp2_with (first | (go_at_call 13; ((with_reducible refine (CL).mono ?_); rintro e w1 ⟨rfl, B1⟩)) | (go_at_call 14; ((with_reducible refine (CE _ B1).mono ?_); rintro e w2 ⟨A2, c2, rfl, l2, hc2, hm2, b2⟩; have B2 := B1.trans (b2.mono B1.size))) | (go_at_call 9; ((with_reducible refine (lives11 w2).mono ?_); rintro e w3 ⟨rfl, b3⟩; have B3 := B2.trans (b3.mono B2.size))) | (go_at_call 9; ((with_reducible refine (lives11 w3).mono ?_); rintro e w4 ⟨rfl, b4⟩; have B4 := B3.trans (b4.mono B3.size))))
      go_ret
      exact ⟨rfl, B4⟩
    · have d1 : decide (x < 1) = false := by simpa using hx
      have d2 : decide ((m : Int) ≤ x) = true := by simp; omega
      have d3 : decide (x ≥ (m : Int)) = true := by simp; omega
      go_enter Try.func6, Try.ntmps6
      go_wp2_with (first | (go_at_call 13; ((with_reducible refine (CL).mono ?_); rintro e w1 ⟨rfl, B1⟩)) | (go_at_call 14; ((with_reducible refine (CE _ B1).mono ?_); rintro e w2 ⟨A2, c2, rfl, l2, hc2, hm2, b2⟩; have B2 := B1.trans (b2.mono B1.size))) | (go_at_call 9; ((with_reducible refine (lives11 w2).mono ?_); rintro e w3 ⟨rfl, b3⟩; have B3 := B2.trans (b3.mono B2.size))) | (go_at_call 9; ((with_reducible refine (lives11 w3).mono ?_); rintro e w4 ⟨rfl, b4⟩; have B4 := B3.trans (b4.mono B3.size))))
      go_ret
      exact ⟨rfl, B4⟩
  · have d1 : (r != 0) = true := by simpa using hz
    go_enter Try.func6, Try.ntmps6
    go_wp2_with (first | (go_at_call 13; ((with_reducible refine (CL).mono ?_); rintro e w1 ⟨rfl, B1⟩)) | (go_at_call 14; ((with_reducible refine (CE _ B1).mono ?_); rintro e w2 ⟨A2, c2, rfl, l2, hc2, hm2, b2⟩; have B2 := B1.trans (b2.mono B1.size))) | (go_at_call 9; ((with_reducible refine (lives11 w2).mono ?_); rintro e w3 ⟨rfl, b3⟩; have B3 := B2.trans (b3.mono B2.size))) | (go_at_call 9; ((with_reducible refine (lives11 w3).mono ?_); rintro e w4 ⟨rfl, b4⟩; have B4 := B3.trans (b4.mono B3.size))))
    go_ret
    exact ⟨rfl, B4⟩
set_option maxRecDepth 100000 in
set_option maxHeartbeats 2000000 in
theorem walk_yes (A0 : Option Addr) (c0 n : Nat) (L0 : List (List Pt)) (hn : L0.length = n) (h : OutAt W W.heap.size A0 L0) (hm : ∀ L ∈ L0, L.length ≤ 17592186044416) (hnn : n ≤ 9223372036854775807) (hb : bigB L0 = false) (k : Nat)
    (bs : List Value) (he : encS L0 = (0, bs)) (h8 : Bytes8 bs) (hl : bs.length ≤ 90635) (hk1 : 1 ≤ k) (hk2 : k < bs.length) (hd : decS (bs.take k) = ([], 110)) :
    Calls Try.prog 6 #[.slice A0 n c0, .int .i64 (k : Nat)] W fun e w' => e = .returned (.bool true) ∧ Below W.heap.size W w' := by
  have CL := splarge_any W.heap.size A0 c0 L0 W (Nat.le_refl _) h hm (by omega) false hb
  rw [hn] at CL
  have hs := spsm_of hb
  obtain ⟨m, hmm⟩ : ∃ m, bs.length = m := ⟨_, rfl⟩
  have CE := fun w1 (b1 : Below W.heap.size W w1) => spenc_l A0 c0 n L0 w1 (tup h b1) hs hn bs 0 he m hmm
  have HM := Lib.hid (show (bs.take k).length = k by rw [List.length_take]; omega)
  rw [hmm] at hl hk2
  have h8t : Bytes8 (bs.take k) := fun u hu => h8 u (List.mem_of_mem_take hu)
  have CD := fun A c V (l : Lists V V.heap.size A (bs.take k)) (k1 : k ≤ c) (k2 : c ≤ 9223372036854775807) => sdec_lw A c k (bs.take k) V l HM.out h8t k1 k2 (by omega) [] 110 hd 0 rfl
  have H8 := Lib.hid h8t
  obtain ⟨i0, hi, hz0, hz1, hz2⟩ := info_parts1 u8Info
  have d0 : decide ((k : Int) < 1) = false := by simp; omega
  have d1 : decide ((m : Int) ≤ (k : Int)) = false := by simp; omega
  have d2 : decide ((k : Int) ≥ (m : Int)) = false := by simp; omega
  have e1 : (0 : Int) ≤ (k : Int) := by omega
  clear h hm hb he hn hmm hd hs h8 h8t
  go_enter Try.func6, Try.ntmps6
  go_wp2_with (first
    | (go_at_call 13; ((with_reducible refine (CL).mono ?_); rintro e w1 ⟨rfl, B1⟩))
    | (go_at_call 14; ((with_reducible refine (CE _ B1).mono ?_); rintro e w2 ⟨A2, c2, rfl, l2, hc2, hm2, b2⟩; have B2 := B1.trans (b2.mono B1.size)))
    | (go_at_call 9; ((with_reducible refine (lives11 w2).mono ?_); rintro e w3 ⟨rfl, b3⟩; have B3 := B2.trans (b3.mono B2.size); have l3 := Lib.hid (lists_head (lup l2.out b3) k); have e2 : (k : Int) ≤ (c2 : Int) := (by omega)))
    | (at_builtin; refine wpList_append_src_wide _ rfl (.tmp 35) (.tmp 38) 22 rfl w3.heap.size 5 i0 (.int .u8 0) 1 1 Try.underlying22 hi hz0 hz1 hz2 rfl (by decide) (.slice (some ⟨w3.heap.size, 0, none⟩) 0 0) 0 [] rfl (own_new w3) _ A2 k c2 (bs.take k) rfl (l3.out.alloc (Nat.le_refl _) _) (by rw [HM.out, Nat.mul_one]) H8.out.one (by simp only [maxLen]; omega) (by omega) (by simp) ?_; intro v1 w4 own1 hg1; rw [Nat.zero_add, List.nil_append] at own1; have b4 : Below w3.heap.size w3 w4 := ((Below.refl _ _).alloc (Nat.le_refl _) _).grown hg1 (by simp) (fun b hb => by simp [Value.ownBlock] at hb; omega); have B4 := B3.trans (b4.mono B3.size); obtain ⟨A5, c5, rfl, l5, hc5⟩ := own_lists own1; have hcap5 := own_capS own1; have HL5 := Lib.hid l5; clear l5)
    | (go_at_call 7; ((with_reducible refine (CD A5 c5 _ HL5.out hc5 hcap5).mono ?_); rintro e w6 ⟨A6, c6, rfl, o6, b6⟩; have B6 := B4.trans (b6.mono B4.size))))
  go_ret
  exact ⟨rfl, B6⟩
theorem walk (A0 : Option Addr) (c0 : Nat) (L0 : List (List Pt)) (h : OutAt W W.heap.size A0 L0) (hm : ∀ L ∈ L0, L.length ≤ 17592186044416) (hn : L0.length ≤ 9223372036854775807) (x : Int) (_ : (Lit.int .i64 x).wf = true) :
    Calls Try.prog 6 #[.slice A0 L0.length c0, .int .i64 x] W fun e w' => e = .returned (.bool true) ∧ Below W.heap.size W w' := by
  cases hb : bigB L0
  · by_cases hr : (encS L0).1 = 0
    · by_cases hx : x < 1 ∨ (((encS L0).2.length : Nat) : Int) ≤ x
      · exact walk_no A0 c0 _ L0 rfl h hm hn hb x _ _ rfl _ rfl (.inr hx)
      · rcases encS_cases L0 hr with ⟨h1, h2⟩ | ⟨X, Y, hc, hX, hY, hcub, hne, h2⟩
        · rw [h2] at hx; simp at hx; omega
        · rw [h2] at hx
          obtain ⟨k, rfl⟩ : ∃ k : Nat, x = (k : Int) := ⟨x.toNat, by omega⟩
          refine walk_yes A0 c0 _ L0 rfl h hm hn hb k (spB L0 X Y) ?_ (b8_spB L0 X Y) (spB_len L0 X Y hc hX hY).2 (by omega) (by omega) (spB_cut L0 X Y k hc hX hY hcub hne (by omega) (by omega))
          rw [← hr, ← h2]
    · exact walk_no A0 c0 _ L0 rfl h hm hn hb x _ _ rfl _ rfl (.inl hr)
  · exact walk_big A0 c0 L0 h hm hn hb _

set_option linter.unusedVariables false in
set_option maxRecDepth 100000 in
theorem lifted (os : Os) (started : os.Started) (H : Type) (enc : TypeId × Value → H) :
    ReturnsInHanded {} Try.checked os 6 .any (Rows.simpleCutsSpec.pre6 enc Try.prog Try.f6 Rows.simpleCutsRow.domain false) (Rows.simpleCutsSpec.post enc Try.prog Try.f6 false true false false) := by
  refine returnsInHanded_of_change_sized (C := Try.checked) Try.own started (by kernel_rfl) Try.func6
    (ChangeSpec.witness6 (enc := enc) (C := Try.checked) false ⟨#[], #[.slice none 0 0, .int .i64 0], []⟩ 8 (by kernel_rfl) (by kernel_rfl) (by kernel_rfl) (by kernel_rfl)) ?_
  intro W base args ds gs before hval0 hW hcnd hsz0 _
  have hsz : (DataW.weightsEach Try.prog (Try.f6.params.toList ++ Rows.simpleCutsSpec.plain.varTypes Try.prog) (ds ++ gs)).all (· ≤ reachBytes) = true := hsz0
  have hval : ∀ (j : Nat) t v, Try.f6.params[j]? = some t → args[j]? = some v → Value.okWide Try.prog W .any base t v := hval0
  have hW' := hW
  obtain ⟨p, q, hA0, hV, rfl, hfz, hnd⟩ := hW
  have hA : DataW.TrodAll enc Try.prog W 0 (fun _ => true) true Try.f6.params.toList args.toList ds p := hA0
  rw [Try.params6] at hA hval hsz
  obtain ⟨v0, vs0, d0, ds0, p0, q0, hargs, rfl, rfl, h0, r0⟩ := trodAll_cons hA
  obtain ⟨v1, vs1, d1, ds1, p1, q1, rfl, rfl, rfl, h1, r1⟩ := trodAll_cons r0
  obtain ⟨rfl, rfl, rfl⟩ := trodAll_nil r1
  obtain rfl : args = #[v0, v1] := by cases args; simp_all
  obtain ⟨rfl, rfl⟩ := trodVars_none hV
  have hz0 : ∀ m ∈ d0.weights Try.prog 23, m ≤ reachBytes := fun m hm => of_decide_eq_true (List.all_eq_true.1 hsz m (DataW.weights_mem_each (j := 0) rfl rfl m hm))
  obtain ⟨A0, c0, L0, rfl, k0, m0, n0⟩ := open_outl Try.underlying23 Try.underlying43 (by kernel_rfl) Try.underlying57 (by kernel_rfl) (by kernel_rfl) (by kernel_rfl) Try.underlying3 Try.underlying3 Try.underlying3 (hval 0 23 v0 rfl rfl) h0 hz0
  obtain ⟨a1, rfl, rfl, rfl, w1⟩ := open_int Try.underlying3 (hval 1 3 v1 rfl rfl) h1
  clear hA0 hval0
  simp only [List.append_nil] at hW'
  refine (walk (W := W) A0 c0 L0 k0 m0 n0 a1 w1).mono fun e W' ⟨he, hg⟩ => ?_
  subst he
  exact ⟨_, rfl, law_post Try.laidOut rfl Try.underlying4 (by kernel_rfl) rfl rfl rfl rfl hW' hg⟩

theorem over : Rows.simpleCutsRow.holds Try.pinned (OpenSpec.ofChange Rows.simpleCutsSpec) :=
  OpenClaim.holds_of_wide 6 Try.f6 rfl rfl rfl rfl rfl rfl rfl ⟨rfl, rfl, rfl, rfl, rfl⟩ rfl rfl rfl rfl rfl (by kernel_rfl) Try.func6 (by kernel_rfl)
    (of_decide_eq_true (by kernel_rfl)) (by unfold Func.isWrapper; first | (rw [if_pos (by decide +kernel)]; kernel_rfl) | (rw [if_neg (by decide +kernel)]; exact ⟨rfl, rfl⟩))
    (fun os started H enc _ => lifted os started H enc)

theorem proved : Rows.SimpleCutsSaid :=
  over

end Go.Proofs.Ytelhckckcilpaaa.simpleCuts
