/- SimpleDecodes: what any bytes are as a glyph, and of which kind; no condition but what the row prints. -/
import Derived.Test.YtelhckckcilpaaaM2SimpleDecodes

namespace Go.Proofs.Ytelhckckcilpaaa.simpleDecodes
open Go.ChangeShapes Go.WideShapes Go.ChangeAt Go.RowKit

variable {W : World}
theorem decS_sm (E : List Value) : Sm (decS E).1 := by
  unfold decS
  split
  · exact ⟨Nat.zero_le _, fun L hL => by simp at hL⟩
  · unfold decB
    split
    · rename_i h0 hz
      obtain ⟨r1, r2⟩ := lasR_ris hz
      have r3 := cnt_le r1
      unfold decL
      split
      · exact ⟨Nat.zero_le _, fun L hL => by simp at hL⟩
      · rename_i P hP
        split
        · refine ⟨by rw [con_len]; omega, fun L hL => ?_⟩
          have h1 := con_le P (lasR (E.take 90635)).1 0 L hL
          have h2 : P.length ≤ 4096 := by
            unfold rpC at hP
            split at hP
            · rename_i hl
              have := pts_len _ _ _ _ _ P (by unfold rpX; rw [carr_len _ _ _ _ _ _ _ (by simp [zer, hl])]; simp [zer, hl]) (by unfold rpY; rw [carr_len _ _ _ _ _ _ _ (by simp [zer, hl])]; simp [zer, hl]) hP
              omega
            · cases hP
          omega
        · exact ⟨Nat.zero_le _, fun L hL => by simp at hL⟩
    · exact ⟨Nat.zero_le _, fun L hL => by simp at hL⟩
set_option maxRecDepth 100000 in
set_option maxHeartbeats 2000000 in
theorem walk (A0 : Option Addr) (c0 : Nat) (E0 : List Value) (k0 : E0.length ≤ c0) (m0 : c0 ≤ 9223372036854775807) (l0 : Lists W W.heap.size A0 E0) (s0 : Bytes8 E0) (t0 : E0.length ≤ 140737488355328) :
    Calls Try.prog 3 #[.slice A0 E0.length c0] W fun e w' => e = .returned (.bool true) ∧ Below W.heap.size W w' := by
  have hsm := decS_sm E0
  obtain ⟨⟨L, r⟩, hd⟩ : ∃ q, decS E0 = q := ⟨_, rfl⟩
  rw [hd] at hsm
  dsimp only at hsm
  obtain ⟨m, hm⟩ : ∃ m, L.length = m := ⟨_, rfl⟩
  have CD := fun A c V (l : Lists V V.heap.size A E0) (h1 : E0.length ≤ c) (h2 : c ≤ 9223372036854775807) => sdec_lw A c E0.length E0 V l rfl s0 h1 h2 (by omega) L r hd m hm
  have CR : ∀ V, Below W.heap.size W V → Calls Try.prog 8 #[.slice A0 E0.length c0] V (DecL V L m r) := fun V hb => (rdec_any A0 c0 E0.length E0 V (lup l0 hb) rfl s0 k0 m0 t0).mono fun e w' ⟨v, h1, h2, h3⟩ => by
    rw [hd] at h1 h2
    obtain ⟨A', c', rfl, o⟩ := h2.out
    rw [hm] at h1
    exact ⟨A', c', h1, o, h3⟩
  have CS := fun V A A2 c c2 (o : OutAt V V.heap.size A L) (o2 : OutAt V V.heap.size A2 L) => rsame_any V.heap.size A A2 c c2 L L V (Nat.le_refl _) o o2 hsm hsm true (by simp)
  rw [hm] at CS
  have CK := fun A c V (l : Lists V V.heap.size A E0) (h1 : E0.length ≤ c) (h2 : c ≤ 9223372036854775807) => spkind_any A c E0.length E0 V l rfl s0 h1 h2 (by omega)
  have CKR := fun V (hb : Below W.heap.size W V) => rkind_any A0 c0 E0.length E0 V (lup l0 hb) rfl s0 k0 m0 t0
  generalize knE E0 = kn at *
  have dr : (r == r) = true := by simp
  have dk : (kn == kn) = true := by simp
  have H8 := Lib.hid s0
  have HL := Lib.hid l0
  obtain ⟨n, hn⟩ : ∃ n, n = E0.length := ⟨_, rfl⟩
  have HN := Lib.hid hn
  rw [← hn] at k0 t0 CD CR CK CKR ⊢
  obtain ⟨i0, hi, hz0, hz1, hz2⟩ := info_parts1 u8Info
  clear l0 s0 hn hd hm hsm
  go_enter Try.func3, Try.ntmps3
  go_wp2_with (first
    | (at_builtin; refine wpList_append_src_wide _ rfl (.tmp 8) (.tmp 9) 22 rfl W.heap.size 5 i0 (.int .u8 0) 1 1 Try.underlying22 hi hz0 hz1 hz2 rfl (by decide) (.slice (some ⟨W.heap.size, 0, none⟩) 0 0) 0 [] rfl (own_new W) _ A0 n c0 E0 rfl (HL.out.alloc (Nat.le_refl _) _) (by rw [← HN.out, Nat.mul_one]) H8.out.one (by simp only [maxLen]; omega) (by omega) (by simp) ?_; intro v1 w1 own1 hg1; rw [Nat.zero_add, List.nil_append] at own1; have b1 : Below W.heap.size W w1 := ((Below.refl _ _).alloc (Nat.le_refl _) _).grown hg1 (by simp) (fun b hb => by simp [Value.ownBlock] at hb; omega); obtain ⟨A1, c1, rfl, l1, hc1⟩ := own_lists own1; have hcap1 := own_capS own1; have HL1 := Lib.hid l1; clear l1)
    | (go_at_call 7; ((with_reducible refine (CD A1 c1 _ HL1.out hc1 hcap1).mono ?_); rintro e w2 ⟨A2, c2, rfl, o2, b2⟩; have B2 := b1.trans (b2.mono b1.size); have HL2 := Lib.hid (lup HL1.out b2)))
    | (go_at_call 8; ((with_reducible refine (CR _ B2).mono ?_); rintro e w3 ⟨A3, c3, rfl, o3, b3⟩; have B3 := B2.trans (b3.mono B2.size); have HL3 := Lib.hid (lup HL2.out b3); have o2 := tup o2 b3))
    | (go_at_call 9; ((with_reducible refine (lives11 w3).mono ?_); rintro e w4 ⟨rfl, b4⟩; have B4 := B3.trans (b4.mono B3.size); have HL4 := Lib.hid (lup HL3.out b4); have o2 := tup o2 b4; have o3 := tup o3 b4))
    | (go_at_call 10; ((with_reducible refine (CS _ A2 A3 c2 c3 o2 o3).mono ?_); rintro e w5 ⟨rfl, b5⟩; have B5 := B4.trans (b5.mono B4.size); have HL5 := Lib.hid (lup HL4.out b5)))
    | (go_at_call 11; ((with_reducible refine (CK A1 c1 _ HL5.out hc1 hcap1).mono ?_); rintro e w6 ⟨rfl, b6⟩; have B6 := B5.trans (b6.mono B5.size); have HL6 := Lib.hid (lup HL5.out b6)))
    | (go_at_call 12; ((with_reducible refine (CKR _ B6).mono ?_); rintro e w7 ⟨rfl, b7⟩; have B7 := B6.trans (b7.mono B6.size); have q1 := conv_lists (c := c1) (lup HL6.out b7) HN.out.symm H8.out; have q2 := conv_lists (c := c0) (lup HL.out B7) HN.out.symm H8.out)))
  go_ret
  exact ⟨rfl, B7⟩

set_option linter.unusedVariables false in
set_option maxRecDepth 100000 in
theorem lifted (os : Os) (started : os.Started) (H : Type) (enc : TypeId × Value → H) :
    ReturnsInHanded {} Try.checked os 3 .any (Rows.simpleDecodesSpec.pre6 enc Try.prog Try.f3 Rows.simpleDecodesRow.domain false) (Rows.simpleDecodesSpec.post enc Try.prog Try.f3 false true false false) := by
  refine returnsInHanded_of_change_sized (C := Try.checked) Try.own started (by kernel_rfl) Try.func3
    (ChangeSpec.witness6 (enc := enc) (C := Try.checked) false ⟨#[], #[.slice none 0 0], []⟩ 8 (by kernel_rfl) (by kernel_rfl) (by kernel_rfl) (by kernel_rfl)) ?_
  intro W base args ds gs before hval0 hW hcnd hsz0 _
  have hsz : (DataW.weightsEach Try.prog (Try.f3.params.toList ++ Rows.simpleDecodesSpec.plain.varTypes Try.prog) (ds ++ gs)).all (· ≤ reachBytes) = true := hsz0
  have hval : ∀ (j : Nat) t v, Try.f3.params[j]? = some t → args[j]? = some v → Value.okWide Try.prog W .any base t v := hval0
  have hW' := hW
  obtain ⟨p, q, hA0, hV, rfl, hfz, hnd⟩ := hW
  have hA : DataW.TrodAll enc Try.prog W 0 (fun _ => true) true Try.f3.params.toList args.toList ds p := hA0
  rw [Try.params3] at hA hval hsz
  obtain ⟨v0, vs0, d0, ds0, p0, q0, hargs, rfl, rfl, h0, r0⟩ := trodAll_cons hA
  obtain ⟨rfl, rfl, rfl⟩ := trodAll_nil r0
  obtain rfl : args = #[v0] := by cases args; simp_all
  obtain ⟨rfl, rfl⟩ := trodVars_none hV
  have hz0 : ∀ m ∈ d0.weights Try.prog 22, m ≤ reachBytes := fun m hm => of_decide_eq_true (List.all_eq_true.1 hsz m (DataW.weights_mem_each (j := 0) rfl rfl m hm))
  obtain ⟨A0, c0, E0, rfl, k0, m0, l0, s0, t0⟩ := open_bytes Try.underlying22 Try.underlying5 (by kernel_rfl) (by kernel_rfl) (hval 0 22 v0 rfl rfl) h0 hz0
  clear hA0 hval0
  simp only [List.append_nil] at hW'
  refine (walk (W := W) A0 c0 E0 k0 m0 l0 s0 t0).mono fun e W' ⟨he, hg⟩ => ?_
  subst he
  exact ⟨_, rfl, law_post Try.laidOut rfl Try.underlying4 (by kernel_rfl) rfl rfl rfl rfl hW' hg⟩

theorem over : Rows.simpleDecodesRow.holds Try.pinned (OpenSpec.ofChange Rows.simpleDecodesSpec) :=
  OpenClaim.holds_of_wide 3 Try.f3 rfl rfl rfl rfl rfl rfl rfl ⟨rfl, rfl, rfl, rfl, rfl⟩ rfl rfl rfl rfl rfl (by kernel_rfl) Try.func3 (by kernel_rfl)
    (of_decide_eq_true (by kernel_rfl)) (by unfold Func.isWrapper; first | (rw [if_pos (by decide +kernel)]; kernel_rfl) | (rw [if_neg (by decide +kernel)]; exact ⟨rfl, rfl⟩))
    (fun os started H enc _ => lifted os started H enc)

theorem proved : Rows.SimpleDecodesSaid :=
  over

end Go.Proofs.Ytelhckckcilpaaa.simpleDecodes
