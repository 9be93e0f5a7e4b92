/- ComposeDecodes: what any bytes are as a composite glyph; no condition but what the row prints. -/
import Derived.Test.YtekailhghjideaaCCm20

namespace Go.Proofs.Ytekailhghjideaa.composeDecodes
open Go.ChangeShapes Go.WideShapes Go.ChangeAt Go.RowKit
set_option linter.unusedVariables false
set_option linter.unusedSimpArgs false

variable {W : World}
theorem dec_out {w w' : World} {e : Ending} {R : List Prt × Int} (h : DecPost w R e w') : ∃ A c, e = .returned (.tuple #[.slice A R.1.length c, .int .i64 R.2]) ∧ Hid (Lists w' w'.heap.size A (R.1.flatMap prL)) ∧ Below w.heap.size w w' := by
  obtain ⟨v, h1, h2, h3⟩ := h
  obtain ⟨A, c, rfl, hl, _⟩ := own_lists h2
  exact ⟨A, c, h1, Lib.hid hl, h3⟩
theorem decP_le (bs : List Value) : ∀ (n k : Nat) (acc : List Prt), (decP bs n k acc).1.length ≤ acc.length + n
  | 0, k, acc => by simp [decP]
  | n + 1, k, acc => by
    unfold decP
    split
    · split
      · have := decP_le bs n (endP (flgAt bs k) k) (acc ++ [prtOf bs (flgAt bs k) k])
        simp at this
        omega
      · simp
    · simp
theorem decG_le (bs : List Value) : (decG bs).1.length ≤ 64 := by
  unfold decG
  split
  · simp
  · have := decP_le bs 64 10 []
    simpa using this
set_option maxRecDepth 100000 in
set_option maxHeartbeats 4000000 in
theorem walk (A0 : Option Addr) (c0 : Nat) (E0 : List Value) (k0 : E0.length ≤ c0) (m0 : c0 ≤ 9223372036854775807) (l0 : Lists W W.heap.size A0 E0) (s0 : Bytes8 E0) (t0 : E0.length ≤ 140737488355328) :
    Calls Try.prog 3 #[.slice A0 E0.length c0] W fun e w' => e = .returned (.bool true) ∧ Below W.heap.size W w' := by
  have C1 : ∀ A c V, Lists V V.heap.size A E0 → E0.length ≤ c → c ≤ 9223372036854775807 → Calls Try.prog 7 #[.slice A E0.length c] V fun e w' => ∃ A c, e = .returned (.tuple #[.slice A (decG E0).1.length c, .int .i64 (decG E0).2]) ∧ Hid (Lists w' w'.heap.size A ((decG E0).1.flatMap prL)) ∧ Below V.heap.size V w' := fun A c V h1 h2 h3 => by
    have := decode_any A c E0 V h1 s0 h2 h3 t0
    rw [decG_take] at this
    exact this.mono fun e w' h => dec_out h
  have C2 : ∀ V, Below W.heap.size W V → Calls Try.prog 8 #[.slice A0 E0.length c0] V fun e w' => ∃ A c, e = .returned (.tuple #[.slice A (decG E0).1.length c, .int .i64 (decG E0).2]) ∧ Hid (Lists w' w'.heap.size A ((decG E0).1.flatMap prL)) ∧ Below V.heap.size V w' := fun V hb =>
    (rdecode_any A0 c0 E0 V ((l0.below hb).more hb.size) s0 k0 m0 t0).mono fun e w' h => dec_out h
  have hle := decG_le E0
  have C3 : ∀ V A A2 c c2, Lists V V.heap.size A ((decG E0).1.flatMap prL) → Lists V V.heap.size A2 ((decG E0).1.flatMap prL) → Calls Try.prog 10 #[.slice A (decG E0).1.length c, .slice A2 (decG E0).1.length c2] V fun e w' => e = .returned (.bool true) ∧ Below V.heap.size V w' := fun V A A2 c c2 h1 h2 => csame_any V.heap.size A A2 c c2 _ _ V (Nat.le_refl _) h1 h2 (by omega) true ⟨fun _ => rfl, fun _ => rfl⟩
  generalize (decG E0).1 = R at *
  generalize (decG E0).2 = code at *
  have HS0 := Lib.hid s0
  have HL0 := Lib.hid l0
  obtain ⟨i0, hi, hz0, hz1, hz2⟩ := info_partsP u8Info
  clear s0 l0 hle
  go_enter Try.func3, Try.ntmps3
  go_wp2_with (first
    | (at_builtin; refine wpList_append_src_wide _ rfl (.tmp 8) (.tmp 9) 22 rfl W.heap.size 5 i0 (.int .u8 0) 1 1 Try.underlying22 hi hz0 hz1 hz2 rfl (by decide) (.slice (some ⟨W.heap.size, 0, none⟩) 0 0) 0 [] rfl (own_new W) _ A0 E0.length c0 E0 rfl (HL0.out.alloc (Nat.le_refl _) _) (by simp [*]) HS0.out.one (by simp only [maxLen]; omega) (by omega) (by simp) ?_; intro v1 w1 own1 hg1; rw [Nat.zero_add, List.nil_append] at own1; have b1 : Below W.heap.size W w1 := ((Below.refl _ _).alloc (Nat.le_refl _) _).grown hg1 (by simp) (fun b hb => by simp [Value.ownBlock] at hb; omega); obtain ⟨A9, c9, rfl, l9, hc9⟩ := own_lists own1; have hcap := own_capc own1; have HL9 := Lib.hid l9; clear l9)
    | (go_at_call 7; ((with_reducible refine (C1 A9 c9 _ HL9.out hc9 hcap).mono ?_); rintro e w2 ⟨A2, c2, rfl, l2, b2⟩; have B2 := b1.trans (b2.mono b1.size)))
    | (go_at_call 8; ((with_reducible refine (C2 _ B2).mono ?_); rintro e w3 ⟨A3, c3, rfl, l3, b3⟩; have B3 := B2.trans (b3.mono B2.size)))
    | (go_at_call 9; ((with_reducible refine (lives12 _).mono ?_); rintro e w4 ⟨rfl, b4⟩; have B4 := B3.trans (b4.mono B3.size); have b34 := b3.trans (b4.mono b3.size)))
    | (go_at_call 10; ((with_reducible refine (C3 w4 A2 A3 c2 c3 ((l2.out.below b34).more b34.size) ((l3.out.below b4).more b4.size)).mono ?_); rintro e w5 ⟨rfl, b5⟩; have B5 := B4.trans (b5.mono B4.size); have b25 := b2.trans ((b34.trans (b5.mono b34.size)).mono b2.size); have q1 := conv_lists (c := c9) ((HL9.out.below b25).more b25.size) rfl HS0.out; have q2 := conv_lists (c := c0) ((HL0.out.below B5).more B5.size) rfl HS0.out)))
  go_ret
  exact ⟨rfl, B5⟩

set_option linter.unusedVariables false in
set_option maxRecDepth 100000 in
theorem lifted (os : Os) (started : os.Started) (H : Type) (enc : TypeId × Value → H) :
    ReturnsInHanded {} Try.checked os 3 .any (Rows.composeDecodesSpec.pre6 enc Try.prog Try.f3 Rows.composeDecodesRow.domain false) (Rows.composeDecodesSpec.post enc Try.prog Try.f3 false true false false) := by
  refine returnsInHanded_of_change_sized (C := Try.checked) Try.own started (by kernel_rfl) Try.func3
    (ChangeSpec.witness6 (enc := enc) (C := Try.checked) false ⟨#[], #[.slice none 0 0], []⟩ 8 (by kernel_rfl) (by kernel_rfl) (by kernel_rfl) (by kernel_rfl)) ?_
  intro W base args ds gs before hval0 hW hcnd hsz0 _
  have hsz : (DataW.weightsEach Try.prog (Try.f3.params.toList ++ Rows.composeDecodesSpec.plain.varTypes Try.prog) (ds ++ gs)).all (· ≤ reachBytes) = true := hsz0
  have hval : ∀ (j : Nat) t v, Try.f3.params[j]? = some t → args[j]? = some v → Value.okWide Try.prog W .any base t v := hval0
  have hW' := hW
  obtain ⟨p, q, hA0, hV, rfl, hfz, hnd⟩ := hW
  have hA : DataW.TrodAll enc Try.prog W 0 (fun _ => true) true Try.f3.params.toList args.toList ds p := hA0
  rw [Try.params3] at hA hval hsz
  obtain ⟨v0, vs0, d0, ds0, p0, q0, hargs, rfl, rfl, h0, r0⟩ := trodAll_cons hA
  obtain ⟨rfl, rfl, rfl⟩ := trodAll_nil r0
  obtain rfl : args = #[v0] := by cases args; simp_all
  obtain ⟨rfl, rfl⟩ := trodVars_none hV
  have hz0 : ∀ m ∈ d0.weights Try.prog 22, m ≤ reachBytes := fun m hm => of_decide_eq_true (List.all_eq_true.1 hsz m (DataW.weights_mem_each (j := 0) rfl rfl m hm))
  obtain ⟨A0, c0, E0, rfl, k0, m0, l0, s0, t0⟩ := open_bytes Try.underlying22 Try.underlying5 (by kernel_rfl) (by kernel_rfl) (hval 0 22 v0 rfl rfl) h0 hz0
  clear hA0 hval0
  simp only [List.append_nil] at hW'
  refine (walk (W := W) A0 c0 E0 k0 m0 l0 s0 t0).mono fun e W' ⟨he, hg⟩ => ?_
  subst he
  exact ⟨_, rfl, law_post Try.laidOut rfl Try.underlying4 (by kernel_rfl) rfl rfl rfl rfl hW' hg⟩

theorem over : Rows.composeDecodesRow.holds Try.pinned (OpenSpec.ofChange Rows.composeDecodesSpec) :=
  OpenClaim.holds_of_wide 3 Try.f3 rfl rfl rfl rfl rfl rfl rfl ⟨rfl, rfl, rfl, rfl, rfl⟩ rfl rfl rfl rfl rfl (by kernel_rfl) Try.func3 (by kernel_rfl)
    (of_decide_eq_true (by kernel_rfl)) (by unfold Func.isWrapper; first | (rw [if_pos (by decide +kernel)]; kernel_rfl) | (rw [if_neg (by decide +kernel)]; exact ⟨rfl, rfl⟩))
    (fun os started H enc _ => lifted os started H enc)

theorem proved : Rows.ComposeDecodesSaid :=
  over

end Go.Proofs.Ytekailhghjideaa.composeDecodes
