/- ComposeBack: what was encoded is decoded, whatever follows; no condition but what the row prints. -/
import Derived.Test.YtekailhghjideaaCCm20

namespace Go.Proofs.Ytekailhghjideaa.composeBack
open Go.ChangeShapes Go.WideShapes Go.ChangeAt Go.RowKit
set_option linter.unusedVariables false
set_option linter.unusedSimpArgs false

variable {W : World}
set_option maxRecDepth 100000 in
theorem walk_big (A0 : Option Addr) (c0 n : Nat) (hn : 300 < n) (S : Value) : Calls Try.prog 5 #[.slice A0 n c0, S] W fun e w' => e = .returned (.bool true) ∧ Below W.heap.size W w' := by
  have d0 : decide ((n : Int) > 300) = true := by simp; omega
  go_enter Try.func5, Try.ntmps5
  go_wp2_with (first | (go_at_call 9; ((with_reducible refine (lives12 _).mono ?_); rintro e w2 ⟨rfl, b2⟩)))
  go_ret
  exact ⟨rfl, b2⟩

set_option maxRecDepth 100000 in
set_option maxHeartbeats 4000000 in
theorem walk_no (A0 : Option Addr) (c0 n : Nat) (L : List Prt) (S : Value) (code : Int) (hnn : L.length = n) (hn : n ≤ 300) (k0 : n ≤ c0) (m0 : c0 ≤ 9223372036854775807) (l0 : Lists W W.heap.size A0 (L.flatMap prL)) (hcode : code ≠ 0)
    (C1 : ∀ A c w, Lists w w.heap.size A (L.flatMap prL) → n ≤ c → c ≤ 9223372036854775807 → Calls Try.prog 11 #[.slice A n c] w (EP w [] code)) :
    Calls Try.prog 5 #[.slice A0 n c0, S] W fun e w' => e = .returned (.bool true) ∧ Below W.heap.size W w' := by
  have HL := Lib.hid l0
  have HLL := Lib.hid (show (L.flatMap prL).length = n * 11 by rw [flat_len prLen, hnn])
  have HONE := Lib.hid (part_one L)
  obtain ⟨j0, hj, hy0, hy1, hy2⟩ := info_partsP prInfo
  have d0 : decide ((n : Int) > 300) = false := by simp; omega
  have d1 : (code != 0) = true := by simpa using hcode
  clear l0 hnn hcode
  go_enter Try.func5, Try.ntmps5
  go_wp2_with (first
    | (at_builtin; refine wpList_append_src_wide _ rfl (.tmp 14) (.tmp 15) 23 rfl W.heap.size 36 j0 (.agg #[.int .i64 0, .int .i64 0, .int .i64 0, .int .i64 0, .int .i64 0, .bool false, .int .i64 0, .int .i64 0, .bool false, .int .i64 0, .int .i64 0]) 11 88 Try.underlying23 hj hy0 hy1 hy2 rfl (by decide) (.slice (some ⟨W.heap.size, 0, none⟩) 0 0) 0 [] rfl (own_newP W) _ A0 n c0 _ rfl (HL.out.alloc (Nat.le_refl _) _) HLL.out HONE.out (by simp only [maxLen]; omega) (by omega) (by simp) ?_; intro v1 w1 own1 hg1; rw [Nat.zero_add, List.nil_append] at own1; have b1 : Below W.heap.size W w1 := ((Below.refl _ _).alloc (Nat.le_refl _) _).grown hg1 (by simp) (fun b hb => by simp [Value.ownBlock] at hb; omega); obtain ⟨A9, c9, rfl, l9, hc9⟩ := own_lists own1; have hcap := own_capc own1; have HL9 := Lib.hid l9; clear l9)
    | (go_at_call 11; ((with_reducible refine (C1 A9 c9 _ HL9.out hc9 hcap).mono ?_); rintro e w2 ⟨A2, c2, rfl, l2, _, _, b2⟩; have B2 := b1.trans (b2.mono b1.size)))
    | (go_at_call 9; ((with_reducible refine (lives12 _).mono ?_); rintro e w3 ⟨rfl, b3⟩; have B3 := B2.trans (b3.mono B2.size)))
    | (go_at_call 9; ((with_reducible refine (lives12 _).mono ?_); rintro e w4 ⟨rfl, b4⟩; have B4 := B3.trans (b4.mono B3.size))))
  go_ret
  exact ⟨rfl, B4⟩
set_option maxRecDepth 100000 in
set_option maxHeartbeats 4000000 in
theorem walk_yes (A0 : Option Addr) (c0 n : Nat) (L : List Prt) (A1 : Option Addr) (c1 : Nat) (E1 bs : List Value) (hnn : L.length = n) (hn : n ≤ 300) (k0 : n ≤ c0) (m0 : c0 ≤ 9223372036854775807) (l0 : Lists W W.heap.size A0 (L.flatMap prL)) (l1 : Lists W W.heap.size A1 E1) (s1 : Bytes8 E1) (t1 : E1.length ≤ 140737488351232) (h8 : Bytes8 bs) (hbl : bs.length ≤ 1034)
    (C1 : ∀ A c w, Lists w w.heap.size A (L.flatMap prL) → n ≤ c → c ≤ 9223372036854775807 → Calls Try.prog 11 #[.slice A n c] w (EP w bs 0)) (hd : decG (bs ++ E1) = (L, 0)) :
    Calls Try.prog 5 #[.slice A0 n c0, .slice A1 E1.length c1] W fun e w' => e = .returned (.bool true) ∧ Below W.heap.size W w' := by
  have C4 : ∀ A c V, Lists V V.heap.size A (bs ++ E1) → bs.length + E1.length ≤ c → c ≤ 9223372036854775807 → Calls Try.prog 7 #[.slice A (bs.length + E1.length) c] V fun e w' => ∃ A c, e = .returned (.tuple #[.slice A n c, .int .i64 0]) ∧ Hid (Lists w' w'.heap.size A (L.flatMap prL)) ∧ Below V.heap.size V w' := fun A c V h1 h2 h3 => by
    have := decode_any A c (bs ++ E1) V h1 (h8.append s1) (by rw [List.length_append]; exact h2) h3 (by rw [List.length_append]; omega)
    rw [decG_take, hd, List.length_append] at this
    refine this.mono fun e w' h => ?_
    obtain ⟨v, h1, h2, h3⟩ := h
    obtain ⟨A, c, rfl, hl, _⟩ := own_lists h2
    rw [hnn] at h1
    exact ⟨A, c, h1, Lib.hid hl, h3⟩
  have C5 : ∀ V A A2 c c2, Lists V V.heap.size A (L.flatMap prL) → Lists V V.heap.size A2 (L.flatMap prL) → Calls Try.prog 10 #[.slice A n c, .slice A2 n c2] V fun e w' => e = .returned (.bool true) ∧ Below V.heap.size V w' := fun V A A2 c c2 h1 h2 => by
    have := csame_any V.heap.size A A2 c c2 L L V (Nat.le_refl _) h1 h2 (by omega) true ⟨fun _ => rfl, fun _ => rfl⟩
    rw [hnn] at this
    exact this
  have HL := Lib.hid l0
  have HLL := Lib.hid (show (L.flatMap prL).length = n * 11 by rw [flat_len prLen, hnn])
  have HONE := Lib.hid (part_one L)
  have H8 := Lib.hid h8
  have HS1 := Lib.hid s1
  have HL1 := Lib.hid l1
  obtain ⟨m, hm⟩ : ∃ m, bs.length = m := ⟨_, rfl⟩
  have HM := Lib.hid hm
  have C1 : ∀ A c w, Lists w w.heap.size A (L.flatMap prL) → n ≤ c → c ≤ 9223372036854775807 → Calls Try.prog 11 #[.slice A n c] w fun e w' => ∃ A c, e = .returned (.tuple #[.slice A m c, .int .i64 0]) ∧ Hid (Lists w' w'.heap.size A bs) ∧ Below w.heap.size w w' := fun A c w h1 h2 h3 => (C1 A c w h1 h2 h3).mono fun e w' h => by
    obtain ⟨A, c, h1, h2, _, _, h3⟩ := h
    rw [hm] at h1
    exact ⟨A, c, h1, h2, h3⟩
  rw [hm] at C4 hbl
  obtain ⟨j0, hj, hy0, hy1, hy2⟩ := info_partsP prInfo
  obtain ⟨i0, hi, hz0, hz1, hz2⟩ := info_partsP u8Info
  have d0 : decide ((n : Int) > 300) = false := by simp; omega
  clear l0 hnn hd h8 s1 l1 hm
  go_enter Try.func5, Try.ntmps5
  go_wp2_with (first
    | (at_builtin; refine wpList_append_src_wide _ rfl (.tmp 14) (.tmp 15) 23 rfl W.heap.size 36 j0 (.agg #[.int .i64 0, .int .i64 0, .int .i64 0, .int .i64 0, .int .i64 0, .bool false, .int .i64 0, .int .i64 0, .bool false, .int .i64 0, .int .i64 0]) 11 88 Try.underlying23 hj hy0 hy1 hy2 rfl (by decide) (.slice (some ⟨W.heap.size, 0, none⟩) 0 0) 0 [] rfl (own_newP W) _ A0 n c0 _ rfl (HL.out.alloc (Nat.le_refl _) _) HLL.out HONE.out (by simp only [maxLen]; omega) (by omega) (by simp) ?_; intro v1 w1 own1 hg1; rw [Nat.zero_add, List.nil_append] at own1; have b1 : Below W.heap.size W w1 := ((Below.refl _ _).alloc (Nat.le_refl _) _).grown hg1 (by simp) (fun b hb => by simp [Value.ownBlock] at hb; omega); obtain ⟨A9, c9, rfl, l9, hc9⟩ := own_lists own1; have hcap := own_capc own1; have HL9 := Lib.hid l9; clear l9)
    | (go_at_call 11; ((with_reducible refine (C1 A9 c9 _ HL9.out hc9 hcap).mono ?_); rintro e w2 ⟨A2, c2, rfl, l2, b2⟩; have B2 := b1.trans (b2.mono b1.size)))
    | (go_at_call 9; ((with_reducible refine (lives12 _).mono ?_); rintro e w3 ⟨rfl, b3⟩; have B3 := B2.trans (b3.mono B2.size); have l3 := Lib.hid ((l2.out.below b3).more b3.size)))
    | (at_builtin; refine wpList_append_src_wide _ rfl (.tmp 33) (.tmp 34) 22 rfl w3.heap.size 5 i0 (.int .u8 0) 1 1 Try.underlying22 hi hz0 hz1 hz2 rfl (by decide) (.slice (some ⟨w3.heap.size, 0, none⟩) 0 0) 0 [] rfl (own_new w3) _ A2 m c2 bs rfl (l3.out.alloc (Nat.le_refl _) _) (by rw [HM.out, Nat.mul_one]) H8.out.one (by simp only [maxLen]; omega) (by omega) (by simp) ?_; intro v1 w4 own1 hg1; rw [Nat.zero_add, List.nil_append] at own1; have b4 : Below w3.heap.size w3 w4 := ((Below.refl _ _).alloc (Nat.le_refl _) _).grown hg1 (by simp) (fun b hb => by simp [Value.ownBlock] at hb; omega); have B4 := B3.trans (b4.mono B3.size))
    | (at_builtin; refine wpList_append_src_wide _ rfl (.tmp 35) (.tmp 36) 22 rfl w3.heap.size 5 i0 (.int .u8 0) 1 1 Try.underlying22 hi hz0 hz1 hz2 rfl (by decide) v1 m bs rfl own1 _ A1 E1.length c1 E1 rfl (HL1.out.below B4) (by simp) HS1.out.one (by simp only [maxLen]; omega) (by omega) b4.size ?_; intro v5 w5 own5 hg5; have b35 : Below w3.heap.size w3 w5 := b4.grown hg5 b4.size (fun b hb => own_lowc own1 b (by simp [blk, hb])); have B5 := B3.trans (b35.mono B3.size); obtain ⟨A5, c5, rfl, l5, hc5⟩ := own_lists own5; have hcap5 := own_capc own5; have HL5 := Lib.hid l5; clear l5)
    | (go_at_call 7; ((with_reducible refine (C4 A5 c5 _ HL5.out hc5 hcap5).mono ?_); rintro e w6 ⟨A6, c6, rfl, l6, b6⟩; have B6 := B5.trans (b6.mono B5.size)))
    | (go_at_call 10; ((with_reducible refine (C5 w6 A6 A0 c6 c0 l6.out ((HL.out.below B6).more B6.size)).mono ?_); rintro e w7 ⟨rfl, b7⟩; have B7 := B6.trans (b7.mono B6.size))))
  go_ret
  exact ⟨rfl, B7⟩
theorem walk (A0 : Option Addr) (c0 : Nat) (L : List Prt) (k0 : L.length ≤ c0) (m0 : c0 ≤ 9223372036854775807) (l0 : Lists W W.heap.size A0 (L.flatMap prL)) (A1 : Option Addr) (c1 : Nat) (E1 : List Value) (_ : E1.length ≤ c1) (_ : c1 ≤ 9223372036854775807) (l1 : Lists W W.heap.size A1 E1) (s1 : Bytes8 E1) (t1 : E1.length ≤ 140737488351232) :
    Calls Try.prog 5 #[.slice A0 L.length c0, .slice A1 E1.length c1] W fun e w' => e = .returned (.bool true) ∧ Below W.heap.size W w' := by
  rcases Nat.lt_or_ge 300 L.length with hbig | hn
  · exact walk_big A0 c0 _ hbig _
  obtain ⟨bs, code, h8, h1034, C1, _, hno, hyes⟩ := enc_both L hn
  by_cases hc : code = 0
  · subst hc
    exact walk_yes A0 c0 _ L A1 c1 E1 bs rfl hn k0 m0 l0 l1 s1 t1 h8 h1034 C1 (hyes rfl E1)
  · obtain rfl := hno hc
    exact walk_no A0 c0 _ L _ code rfl hn k0 m0 l0 hc C1

set_option linter.unusedVariables false in
set_option maxRecDepth 100000 in
theorem lifted (os : Os) (started : os.Started) (H : Type) (enc : TypeId × Value → H) :
    ReturnsInHanded {} Try.checked os 5 .any (Rows.composeBackSpec.pre6 enc Try.prog Try.f5 Rows.composeBackRow.domain false) (Rows.composeBackSpec.post enc Try.prog Try.f5 false true false false) := by
  refine returnsInHanded_of_change_sized (C := Try.checked) Try.own started (by kernel_rfl) Try.func5
    (ChangeSpec.witness6 (enc := enc) (C := Try.checked) false ⟨#[], #[.slice none 0 0, .slice none 0 0], []⟩ 8 (by kernel_rfl) (by kernel_rfl) (by kernel_rfl) (by kernel_rfl)) ?_
  intro W base args ds gs before hval0 hW hcnd hsz0 _
  have hsz : (DataW.weightsEach Try.prog (Try.f5.params.toList ++ Rows.composeBackSpec.plain.varTypes Try.prog) (ds ++ gs)).all (· ≤ reachBytes) = true := hsz0
  have hval : ∀ (j : Nat) t v, Try.f5.params[j]? = some t → args[j]? = some v → Value.okWide Try.prog W .any base t v := hval0
  have hW' := hW
  obtain ⟨p, q, hA0, hV, rfl, hfz, hnd⟩ := hW
  have hA : DataW.TrodAll enc Try.prog W 0 (fun _ => true) true Try.f5.params.toList args.toList ds p := hA0
  rw [Try.params5] at hA hval hsz
  obtain ⟨v0, vs0, d0, ds0, p0, q0, hargs, rfl, rfl, h0, r0⟩ := trodAll_cons hA
  obtain ⟨v1, vs1, d1, ds1, p1, q1, rfl, rfl, rfl, h1, r1⟩ := trodAll_cons r0
  obtain ⟨rfl, rfl, rfl⟩ := trodAll_nil r1
  obtain rfl : args = #[v0, v1] := by cases args; simp_all
  obtain ⟨rfl, rfl⟩ := trodVars_none hV
  obtain ⟨A0, c0, L0, rfl, k0, m0, l0⟩ := open_parts (hval 0 23 v0 rfl rfl) h0
  have hz1 : ∀ m ∈ d1.weights Try.prog 22, m ≤ reachBytes := fun m hm => of_decide_eq_true (List.all_eq_true.1 hsz m (DataW.weights_mem_each (j := 1) rfl rfl m hm))
  obtain ⟨A1, c1, E1, rfl, k1, m1, l1, s1, t1⟩ := open_bytes_less Try.underlying22 Try.underlying5 (by kernel_rfl) (by kernel_rfl) (hval 1 22 v1 rfl rfl) h1 hz1
  clear hA0 hval0
  simp only [List.append_nil] at hW'
  refine (walk (W := W) A0 c0 L0 k0 m0 l0 A1 c1 E1 k1 m1 l1 s1 t1).mono fun e W' ⟨he, hg⟩ => ?_
  subst he
  exact ⟨_, rfl, law_post Try.laidOut rfl Try.underlying4 (by kernel_rfl) rfl rfl rfl rfl hW' hg⟩

theorem over : Rows.composeBackRow.holds Try.pinned (OpenSpec.ofChange Rows.composeBackSpec) :=
  OpenClaim.holds_of_wide 5 Try.f5 rfl rfl rfl rfl rfl rfl rfl ⟨rfl, rfl, rfl, rfl, rfl⟩ rfl rfl rfl rfl rfl (by kernel_rfl) Try.func5 (by kernel_rfl)
    (of_decide_eq_true (by kernel_rfl)) (by unfold Func.isWrapper; first | (rw [if_pos (by decide +kernel)]; kernel_rfl) | (rw [if_neg (by decide +kernel)]; exact ⟨rfl, rfl⟩))
    (fun os started H enc _ => lifted os started H enc)

theorem proved : Rows.ComposeBackSaid :=
  over

end Go.Proofs.Ytekailhghjideaa.composeBack
