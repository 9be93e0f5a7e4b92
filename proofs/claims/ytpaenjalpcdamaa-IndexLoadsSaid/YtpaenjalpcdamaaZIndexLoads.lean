/- IndexLoads: what any bytes are as an INDEX, gone over as far as one goes on; no condition but what the row prints. -/
import Derived.Test.YtpaenjalpcdamaaCIx9

namespace Go.Proofs.Ytpaenjalpcdamaa.indexLoads
open Go.ChangeShapes Go.WideShapes Go.ChangeAt Go.RowKit Go.Shelf
set_option linter.unusedVariables false
set_option linter.unusedSimpArgs false

variable {W : World}
set_option maxRecDepth 100000 in
theorem walk_big (A0 : Option Addr) (c0 n : Nat) (a1 : Int) (hn : 20000 < n) : Calls Try.prog 3 #[.slice A0 n c0, .int .i64 a1] W fun e w' => e = .returned (.bool true) ∧ Below W.heap.size W w' := by
  have d0 : decide ((n : Int) > 20000) = true := by simp; omega
  go_enter Try.func3, Try.ntmps3
  go_wp2_with (first | (go_at_call 7; ((with_reducible refine (lives14 _).mono ?_); rintro e w2 ⟨rfl, b2⟩)))
  go_ret
  exact ⟨rfl, b2⟩
set_option maxRecDepth 100000 in
set_option maxHeartbeats 4000000 in
theorem walk_no (A0 : Option Addr) (c0 : Nat) (E0 : List Value) (k0 : E0.length ≤ c0) (m0 : c0 ≤ 9223372036854775807) (l0 : Lists W W.heap.size A0 E0) (s0 : Bytes8 E0) (t0 : E0.length ≤ 140737488355328) (a1 : Int) (hn : E0.length ≤ 20000) (hld : ldX E0 = none) : Calls Try.prog 3 #[.slice A0 E0.length c0, .int .i64 a1] W fun e w' => e = .returned (.bool true) ∧ Below W.heap.size W w' := by
  have C1 : ∀ A c V, Lists V V.heap.size A E0 → E0.length ≤ c → Calls Try.prog 8 #[.slice A E0.length c] V (NoIx V) := fun A c V h1 h2 => by
    have := load_any A c E0 V h1 s0 h2 (by omega)
    rw [hld] at this
    exact this
  have C2 : ∀ V, Below W.heap.size W V → Calls Try.prog 9 #[.slice A0 E0.length c0] V fun e w' => (∃ s, e = .returned (.tuple #[.slice none 0 0, .int .i64 s, .bool false])) ∧ Below V.heap.size V w' := fun V hb => by
    have := rload_any A0 c0 E0 V ((l0.below hb).more hb.size) s0 k0 m0 hn
    rw [hld] at this
    exact this
  have d0 : decide ((E0.length : Int) > 20000) = false := by simp; omega
  have HS0 := Lib.hid s0
  have HL0 := Lib.hid l0
  obtain ⟨i0, hi, hz0, hz1, hz2⟩ := info_parts u8Info
  clear s0 l0 hld
  go_enter Try.func3, Try.ntmps3
  go_wp2_with (first
    | (at_builtin; refine wpList_append_src_wide _ rfl (.tmp 15) (.tmp 16) 22 rfl W.heap.size 5 i0 (.int .u8 0) 1 1 Try.underlying22 hi hz0 hz1 hz2 rfl (by decide) (.slice (some ⟨W.heap.size, 0, none⟩) 0 0) 0 [] rfl (own_new W) _ A0 E0.length c0 E0 rfl (HL0.out.alloc (Nat.le_refl _) _) (by simp [*]) (bytes8_one HS0.out) (by simp only [maxLen]; omega) (by omega) (by simp) ?_; intro v1 w1 own1 hg1; rw [Nat.zero_add, List.nil_append] at own1; have b1 : Below W.heap.size W w1 := ((Below.refl _ _).alloc (Nat.le_refl _) _).grown hg1 (by simp) (fun b hb => by simp [Value.ownBlock] at hb; omega); obtain ⟨A9, c9, rfl, l9, hc9⟩ := own_lists own1; have hcap := own_capI own1; have HL9 := Lib.hid l9; clear l9)
    | (go_at_call 8; ((with_reducible refine (C1 A9 c9 _ HL9.out hc9).mono ?_); rintro e w2 ⟨rfl, b2⟩; have B2 := b1.trans (b2.mono b1.size)))
    | (go_at_call 9; ((with_reducible refine (C2 _ B2).mono ?_); rintro e w3 ⟨⟨s, rfl⟩, b3⟩; have B3 := B2.trans (b3.mono B2.size)))
    | (go_at_call 7; ((with_reducible refine (lives14 _).mono ?_); rintro e w4 ⟨rfl, b4⟩; have B4 := B3.trans (b4.mono B3.size))))
  go_ret
  exact ⟨rfl, B4⟩
set_option maxRecDepth 100000 in
set_option maxHeartbeats 4000000 in
theorem walk_yes (A0 : Option Addr) (c0 : Nat) (E0 : List Value) (k0 : E0.length ≤ c0) (m0 : c0 ≤ 9223372036854775807) (l0 : Lists W W.heap.size A0 E0) (s0 : Bytes8 E0) (t0 : E0.length ≤ 140737488355328) (a1 : Int) (hn : E0.length ≤ 20000) (os : List Nat) (D : List Value) (s : Nat) (hld : ldX E0 = some (os, D, s)) : Calls Try.prog 3 #[.slice A0 E0.length c0, .int .i64 a1] W fun e w' => e = .returned (.bool true) ∧ Below W.heap.size W w' := by
  have ho := ixOk_of s0 hld
  have C1 : ∀ A c V, Lists V V.heap.size A E0 → E0.length ≤ c → Calls Try.prog 8 #[.slice A E0.length c] V (GotIx V os D (s : Nat)) := fun A c V h1 h2 => by
    have := load_any A c E0 V h1 s0 h2 (by omega)
    rw [hld] at this
    exact this
  obtain ⟨Ls, hLs⟩ : ∃ Ls, Ls = lsts os D := ⟨_, rfl⟩
  have C2 : ∀ V, Below W.heap.size W V → Calls Try.prog 9 #[.slice A0 E0.length c0] V fun e w' => ∃ A c, e = .returned (.tuple #[.slice A Ls.length c, .int .i64 (s : Nat), .bool true]) ∧ RowsAt w' w'.heap.size A Ls ∧ Below V.heap.size V w' := fun V hb => by
    have := rload_any A0 c0 E0 V ((l0.below hb).more hb.size) s0 k0 m0 hn
    rw [hld] at this
    rw [hLs]
    exact this
  have C3 := fun p A c V h1 h2 => holds_at p os D ((s : Nat) : Int) A c Ls a1 V h1 ho hLs h2
  have d0 : decide ((E0.length : Int) > 20000) = false := by simp; omega
  have HS0 := Lib.hid s0
  have HL0 := Lib.hid l0
  obtain ⟨i0, hi, hz0, hz1, hz2⟩ := info_parts u8Info
  clear s0 l0 hld hLs ho
  go_enter Try.func3, Try.ntmps3
  go_wp2_with (first
    | (at_builtin; refine wpList_append_src_wide _ rfl (.tmp 15) (.tmp 16) 22 rfl W.heap.size 5 i0 (.int .u8 0) 1 1 Try.underlying22 hi hz0 hz1 hz2 rfl (by decide) (.slice (some ⟨W.heap.size, 0, none⟩) 0 0) 0 [] rfl (own_new W) _ A0 E0.length c0 E0 rfl (HL0.out.alloc (Nat.le_refl _) _) (by simp [*]) (bytes8_one HS0.out) (by simp only [maxLen]; omega) (by omega) (by simp) ?_; intro v1 w1 own1 hg1; rw [Nat.zero_add, List.nil_append] at own1; have b1 : Below W.heap.size W w1 := ((Below.refl _ _).alloc (Nat.le_refl _) _).grown hg1 (by simp) (fun b hb => by simp [Value.ownBlock] at hb; omega); obtain ⟨A9, c9, rfl, l9, hc9⟩ := own_lists own1; have hcap := own_capI own1; have HL9 := Lib.hid l9; clear l9)
    | (go_at_call 8; ((with_reducible refine (C1 A9 c9 _ HL9.out hc9).mono ?_); rintro e w2 ⟨p, rfl, X2, b2⟩; have B2 := b1.trans (b2.mono b1.size)))
    | (go_at_call 9; ((with_reducible refine (C2 _ B2).mono ?_); rintro e w3 ⟨A3, c3, rfl, l3, b3⟩; have HR3 := Lib.hid l3; clear l3; have B3 := B2.trans (b3.mono B2.size); have X3 := X2.up b3))
    | (go_at_call 7; ((with_reducible refine (lives14 _).mono ?_); rintro e w4 ⟨rfl, b4⟩; have B4 := B3.trans (b4.mono B3.size); have X4 := X3.up b4))
    | (go_at_call 10; ((with_reducible refine (C3 p A3 c3 w4 X4 ((HR3.out.below b4).more b4.size)).mono ?_); rintro e w5 ⟨rfl, b5⟩; have B5 := B4.trans (b5.mono B4.size); have b25 := b2.trans ((b3.trans ((b4.trans (b5.mono b4.size)).mono b3.size)).mono b2.size); have q1 := conv_lists (c := c9) ((HL9.out.below b25).more b25.size) rfl HS0.out; have q2 := conv_lists (c := c0) ((HL0.out.below B5).more B5.size) rfl HS0.out)))
  go_ret
  exact ⟨rfl, B5⟩
theorem walk (A0 : Option Addr) (c0 : Nat) (E0 : List Value) (k0 : E0.length ≤ c0) (m0 : c0 ≤ 9223372036854775807) (l0 : Lists W W.heap.size A0 E0) (s0 : Bytes8 E0) (t0 : E0.length ≤ 140737488355328) (a1 : Int) (_ : (Lit.int .i64 a1).wf = true) : Calls Try.prog 3 #[.slice A0 E0.length c0, .int .i64 a1] W fun e w' => e = .returned (.bool true) ∧ Below W.heap.size W w' := by
  rcases Nat.lt_or_ge 20000 E0.length with h | h
  · exact walk_big A0 c0 _ a1 h
  · cases hld : ldX E0 with
    | none => exact walk_no A0 c0 E0 k0 m0 l0 s0 t0 a1 h hld
    | some r => exact walk_yes A0 c0 E0 k0 m0 l0 s0 t0 a1 h r.1 r.2.1 r.2.2 hld

set_option linter.unusedVariables false in
set_option maxRecDepth 100000 in
theorem lifted (os : Os) (started : os.Started) (H : Type) (enc : TypeId × Value → H) :
    ReturnsInHanded {} Try.checked os 3 .any (Rows.indexLoadsSpec.pre6 enc Try.prog Try.f3 Rows.indexLoadsRow.domain false) (Rows.indexLoadsSpec.post enc Try.prog Try.f3 false true false false) := by
  refine returnsInHanded_of_change_sized (C := Try.checked) Try.own started (by kernel_rfl) Try.func3
    (ChangeSpec.witness6 (enc := enc) (C := Try.checked) false ⟨#[], #[.slice none 0 0, .int .i64 0], []⟩ 8 (by kernel_rfl) (by kernel_rfl) (by kernel_rfl) (by kernel_rfl)) ?_
  intro W base args ds gs before hval0 hW hcnd hsz0 _
  have hsz : (DataW.weightsEach Try.prog (Try.f3.params.toList ++ Rows.indexLoadsSpec.plain.varTypes Try.prog) (ds ++ gs)).all (· ≤ reachBytes) = true := hsz0
  have hval : ∀ (j : Nat) t v, Try.f3.params[j]? = some t → args[j]? = some v → Value.okWide Try.prog W .any base t v := hval0
  have hW' := hW
  obtain ⟨p, q, hA0, hV, rfl, hfz, hnd⟩ := hW
  have hA : DataW.TrodAll enc Try.prog W 0 (fun _ => true) true Try.f3.params.toList args.toList ds p := hA0
  rw [Try.params3] at hA hval hsz
  obtain ⟨v0, vs0, d0, ds0, p0, q0, hargs, rfl, rfl, h0, r0⟩ := trodAll_cons hA
  obtain ⟨v1, vs1, d1, ds1, p1, q1, rfl, rfl, rfl, h1, r1⟩ := trodAll_cons r0
  obtain ⟨rfl, rfl, rfl⟩ := trodAll_nil r1
  obtain rfl : args = #[v0, v1] := by cases args; simp_all
  obtain ⟨rfl, rfl⟩ := trodVars_none hV
  have hz0 : ∀ m ∈ d0.weights Try.prog 22, m ≤ reachBytes := fun m hm => of_decide_eq_true (List.all_eq_true.1 hsz m (DataW.weights_mem_each (j := 0) rfl rfl m hm))
  obtain ⟨A0, c0, E0, rfl, k0, m0, l0, s0, t0⟩ := open_bytes Try.underlying22 Try.underlying5 (by kernel_rfl) (by kernel_rfl) (hval 0 22 v0 rfl rfl) h0 hz0
  obtain ⟨a1, rfl, rfl, rfl, w1⟩ := open_int Try.underlying3 (hval 1 3 v1 rfl rfl) h1
  clear hA0 hval0
  simp only [List.append_nil] at hW'
  refine (walk (W := W) A0 c0 E0 k0 m0 l0 s0 t0 a1 w1).mono fun e W' ⟨he, hg⟩ => ?_
  subst he
  exact ⟨_, rfl, law_post Try.laidOut rfl Try.underlying4 (by kernel_rfl) rfl rfl rfl rfl hW' hg⟩

theorem over : Rows.indexLoadsRow.holds Try.pinned (OpenSpec.ofChange Rows.indexLoadsSpec) :=
  OpenClaim.holds_of_wide 3 Try.f3 rfl rfl rfl rfl rfl rfl rfl ⟨rfl, rfl, rfl, rfl, rfl⟩ rfl rfl rfl rfl rfl (by kernel_rfl) Try.func3 (by kernel_rfl)
    (of_decide_eq_true (by kernel_rfl)) (by unfold Func.isWrapper; first | (rw [if_pos (by decide +kernel)]; kernel_rfl) | (rw [if_neg (by decide +kernel)]; exact ⟨rfl, rfl⟩))
    (fun os started H enc _ => lifted os started H enc)

theorem proved : Rows.IndexLoadsSaid :=
  over

end Go.Proofs.Ytpaenjalpcdamaa.indexLoads
