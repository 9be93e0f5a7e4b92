/- CharsetSelects: what any bytes are as a selection; the table of how many a range has is tied to the text; no condition but what the card prints. -/
import Derived.Test.YteffijgajhngeaaDoorCards
import Derived.Test.YteffijgajhngeaaDoorTie
import Derived.SevenTiedAt
import Derived.Test.YteffijgajhngeaaDoorM0CharsetSelects

namespace Go.Proofs.YteffijgajhngeaaDoor.charsetSelects
open Go.ChangeShapes Go.WideShapes Go.ChangeAt Go.RowKit Go.Shelf
set_option linter.unusedVariables false
set_option linter.unusedSimpArgs false

variable {W : World}
theorem bytes8_oneC {M : List Value} (h : Bytes8 M) : ∀ u ∈ M, u.oneCell' = true := fun u hu => by
  obtain ⟨k, _, rfl⟩ := h u hu
  rfl
set_option maxRecDepth 100000 in
theorem walk_mid (hG : GL W) (S0 : Value) (n : Int) (x : Int) (h1 : 5000 < n) (h2 : n ≤ 65535) : Calls Tryd.prog 5 #[S0, .int .i64 n, .int .i64 x] W fun e w' => e = .returned (.bool true) ∧ Below W.heap.size W w' := by
  have d1 : n > 5000 := h1
  have HG := Lib.hid hG
  go_enter Tryd.func5, Tryd.ntmps5
  go_wp2_with (first | (go_at_call 7; ((with_reducible refine (lives16 _ HG.out).mono ?_); rintro e w2 ⟨rfl, b2⟩)))
  go_ret
  exact ⟨rfl, b2⟩
set_option maxRecDepth 100000 in
set_option maxHeartbeats 4000000 in
theorem walk_arg (hG : GL W) (A0 : Option Addr) (c0 : Nat) (E0 : List Value) (k0 : E0.length ≤ c0) (m0 : c0 ≤ 9223372036854775807) (l0 : Lists W W.heap.size A0 E0) (s0 : Bytes8 E0) (t0 : E0.length ≤ 140737488355328) (n : Int) (x : Int) (hm : ¬ (5000 < n ∧ n ≤ 65535)) (hn : (inB 1 65535 n && inB 1 256 x) = false) : Calls Tryd.prog 5 #[.slice A0 E0.length c0, .int .i64 n, .int .i64 x] W fun e w' => e = .returned (.bool true) ∧ Below W.heap.size W w' := by
  have C1 := fun A c l V => csel_arg A c l n x V hn
  have HS0 := Lib.hid s0
  have HL0 := Lib.hid l0
  have HG := Lib.hid hG
  obtain ⟨i0, hi, hz0, hz1, hz2⟩ := info_parts u8Info
  clear s0 l0 hG
  by_cases h1 : n < 1
  · have d1 : ¬ n > 5000 := by omega
    skip
    go_enter Tryd.func5, Tryd.ntmps5
    go_wp2_with (first
      | (at_builtin; refine wpList_append_src_wide _ rfl (.tmp 19) (.tmp 20) 22 rfl W.heap.size 5 i0 (.int .u8 0) 1 1 Tryd.underlying22 hi hz0 hz1 hz2 rfl (by decide) (.slice (some ⟨W.heap.size, 0, none⟩) 0 0) 0 [] rfl (own_new W) _ A0 E0.length c0 E0 rfl (HL0.out.alloc (Nat.le_refl _) _) (by simp [*]) (bytes8_oneC HS0.out) (by simp only [maxLen]; omega) (by omega) (by simp) ?_; intro v1 w1 own1 hg1; rw [Nat.zero_add, List.nil_append] at own1; have b1 : Below W.heap.size W w1 := ((Below.refl _ _).alloc (Nat.le_refl _) _).grown hg1 (by simp) (fun b hb => by simp [Value.ownBlock] at hb; omega); obtain ⟨A9, c9, rfl, l9, hc9⟩ := own_lists own1; have HL9 := Lib.hid l9; clear l9; have G1 := HG.out.below b1)
      | (go_at_call 16; ((with_reducible refine (C1 A9 c9 _ _).mono ?_); rintro e w2 ⟨rfl, b2⟩; have B2 := b1.trans (b2.mono b1.size); have G2 := G1.below b2))
      | (go_at_call 7; ((with_reducible refine (lives16 _ G2).mono ?_); rintro e w4 ⟨rfl, b4⟩; have B4 := B2.trans (b4.mono B2.size))))
    go_ret
    exact ⟨rfl, B4⟩
  · by_cases h2 : n > 65535
    · have d1 : n > 5000 := by omega
      have d2 : ¬ n ≤ 65535 := by omega
      skip
      go_enter Tryd.func5, Tryd.ntmps5
      go_wp2_with (first
        | (at_builtin; refine wpList_append_src_wide _ rfl (.tmp 19) (.tmp 20) 22 rfl W.heap.size 5 i0 (.int .u8 0) 1 1 Tryd.underlying22 hi hz0 hz1 hz2 rfl (by decide) (.slice (some ⟨W.heap.size, 0, none⟩) 0 0) 0 [] rfl (own_new W) _ A0 E0.length c0 E0 rfl (HL0.out.alloc (Nat.le_refl _) _) (by simp [*]) (bytes8_oneC HS0.out) (by simp only [maxLen]; omega) (by omega) (by simp) ?_; intro v1 w1 own1 hg1; rw [Nat.zero_add, List.nil_append] at own1; have b1 : Below W.heap.size W w1 := ((Below.refl _ _).alloc (Nat.le_refl _) _).grown hg1 (by simp) (fun b hb => by simp [Value.ownBlock] at hb; omega); obtain ⟨A9, c9, rfl, l9, hc9⟩ := own_lists own1; have HL9 := Lib.hid l9; clear l9; have G1 := HG.out.below b1)
        | (go_at_call 16; ((with_reducible refine (C1 A9 c9 _ _).mono ?_); rintro e w2 ⟨rfl, b2⟩; have B2 := b1.trans (b2.mono b1.size); have G2 := G1.below b2))
        | (go_at_call 7; ((with_reducible refine (lives16 _ G2).mono ?_); rintro e w4 ⟨rfl, b4⟩; have B4 := B2.trans (b4.mono B2.size))))
      go_ret
      exact ⟨rfl, B4⟩
    · have d1 : ¬ n > 5000 := by omega
      by_cases h3 : x < 1
      · skip
        go_enter Tryd.func5, Tryd.ntmps5
        go_wp2_with (first
          | (at_builtin; refine wpList_append_src_wide _ rfl (.tmp 19) (.tmp 20) 22 rfl W.heap.size 5 i0 (.int .u8 0) 1 1 Tryd.underlying22 hi hz0 hz1 hz2 rfl (by decide) (.slice (some ⟨W.heap.size, 0, none⟩) 0 0) 0 [] rfl (own_new W) _ A0 E0.length c0 E0 rfl (HL0.out.alloc (Nat.le_refl _) _) (by simp [*]) (bytes8_oneC HS0.out) (by simp only [maxLen]; omega) (by omega) (by simp) ?_; intro v1 w1 own1 hg1; rw [Nat.zero_add, List.nil_append] at own1; have b1 : Below W.heap.size W w1 := ((Below.refl _ _).alloc (Nat.le_refl _) _).grown hg1 (by simp) (fun b hb => by simp [Value.ownBlock] at hb; omega); obtain ⟨A9, c9, rfl, l9, hc9⟩ := own_lists own1; have HL9 := Lib.hid l9; clear l9; have G1 := HG.out.below b1)
          | (go_at_call 16; ((with_reducible refine (C1 A9 c9 _ _).mono ?_); rintro e w2 ⟨rfl, b2⟩; have B2 := b1.trans (b2.mono b1.size); have G2 := G1.below b2))
          | (go_at_call 7; ((with_reducible refine (lives16 _ G2).mono ?_); rintro e w4 ⟨rfl, b4⟩; have B4 := B2.trans (b4.mono B2.size))))
        go_ret
        exact ⟨rfl, B4⟩
      · have h4 : x > 256 := by
          have a1 : inB 1 65535 n = true := inB_yes (by omega) (by omega)
          refine Decidable.byContradiction fun h => ?_
          rw [a1, inB_yes (by omega) (by omega)] at hn
          cases hn
        skip
        go_enter Tryd.func5, Tryd.ntmps5
        go_wp2_with (first
          | (at_builtin; refine wpList_append_src_wide _ rfl (.tmp 19) (.tmp 20) 22 rfl W.heap.size 5 i0 (.int .u8 0) 1 1 Tryd.underlying22 hi hz0 hz1 hz2 rfl (by decide) (.slice (some ⟨W.heap.size, 0, none⟩) 0 0) 0 [] rfl (own_new W) _ A0 E0.length c0 E0 rfl (HL0.out.alloc (Nat.le_refl _) _) (by simp [*]) (bytes8_oneC HS0.out) (by simp only [maxLen]; omega) (by omega) (by simp) ?_; intro v1 w1 own1 hg1; rw [Nat.zero_add, List.nil_append] at own1; have b1 : Below W.heap.size W w1 := ((Below.refl _ _).alloc (Nat.le_refl _) _).grown hg1 (by simp) (fun b hb => by simp [Value.ownBlock] at hb; omega); obtain ⟨A9, c9, rfl, l9, hc9⟩ := own_lists own1; have HL9 := Lib.hid l9; clear l9; have G1 := HG.out.below b1)
          | (go_at_call 16; ((with_reducible refine (C1 A9 c9 _ _).mono ?_); rintro e w2 ⟨rfl, b2⟩; have B2 := b1.trans (b2.mono b1.size); have G2 := G1.below b2))
          | (go_at_call 7; ((with_reducible refine (lives16 _ G2).mono ?_); rintro e w4 ⟨rfl, b4⟩; have B4 := B2.trans (b4.mono B2.size))))
        go_ret
        exact ⟨rfl, B4⟩
set_option maxRecDepth 100000 in
set_option maxHeartbeats 4000000 in
theorem walk_no (hG : GL W) (A0 : Option Addr) (c0 : Nat) (E0 : List Value) (k0 : E0.length ≤ c0) (m0 : c0 ≤ 9223372036854775807) (l0 : Lists W W.heap.size A0 E0) (s0 : Bytes8 E0) (t0 : E0.length ≤ 140737488355328) (n : Nat) (x : Int) (h1 : 1 ≤ n) (h2 : n ≤ 5000) (hk1 : 1 ≤ x) (hk2 : x ≤ 256) (hld : selC E0 n x = none) : Calls Tryd.prog 5 #[.slice A0 E0.length c0, .int .i64 (n : Nat), .int .i64 x] W fun e w' => e = .returned (.bool true) ∧ Below W.heap.size W w' := by
  have C1 : ∀ A c V, Lists V V.heap.size A E0 → E0.length ≤ c → Calls Tryd.prog 16 #[.slice A E0.length c, .int .i64 (n : Nat), .int .i64 x] V fun e w' => e = .returned (.tuple #[.slice none 0 0, .int .i64 160]) ∧ Below V.heap.size V w' := fun A c V h3 h4 => by
    have h := csel_any A c E0 n x V h3 s0 h4 (by omega) h1 (by omega) hk1 hk2
    rw [hld] at h
    exact h
  have C2 : ∀ V, Below W.heap.size W V → Calls Tryd.prog 17 #[.slice A0 E0.length c0, .int .i64 (n : Nat), .int .i64 x] V fun e w' => e = .returned (.tuple #[.slice none 0 0, .bool false]) ∧ Below V.heap.size V w' := fun V hb => by
    have h := rsel_any A0 c0 n x E0 V ((l0.below hb).more hb.size) s0 k0 m0 t0 h1 h2 hk1 hk2
    rw [hld] at h
    exact h
  have d1 : ¬ (n : Int) > 5000 := by omega
  have d2 : ¬ (n : Int) < 1 := by omega
  have d3 : ¬ (n : Int) > 65535 := by omega
  have d4 : ¬ x < 1 := by omega
  have d5 : ¬ x > 256 := by omega
  have HS0 := Lib.hid s0
  have HL0 := Lib.hid l0
  have HG := Lib.hid hG
  obtain ⟨i0, hi, hz0, hz1, hz2⟩ := info_parts u8Info
  clear s0 l0 hG hld
  go_enter Tryd.func5, Tryd.ntmps5
  go_wp2_with (first
    | (at_builtin; refine wpList_append_src_wide _ rfl (.tmp 19) (.tmp 20) 22 rfl W.heap.size 5 i0 (.int .u8 0) 1 1 Tryd.underlying22 hi hz0 hz1 hz2 rfl (by decide) (.slice (some ⟨W.heap.size, 0, none⟩) 0 0) 0 [] rfl (own_new W) _ A0 E0.length c0 E0 rfl (HL0.out.alloc (Nat.le_refl _) _) (by simp [*]) (bytes8_oneC HS0.out) (by simp only [maxLen]; omega) (by omega) (by simp) ?_; intro v1 w1 own1 hg1; rw [Nat.zero_add, List.nil_append] at own1; have b1 : Below W.heap.size W w1 := ((Below.refl _ _).alloc (Nat.le_refl _) _).grown hg1 (by simp) (fun b hb => by simp [Value.ownBlock] at hb; omega); obtain ⟨A9, c9, rfl, l9, hc9⟩ := own_lists own1; have HL9 := Lib.hid l9; clear l9; have G1 := HG.out.below b1)
    | (go_at_call 16; ((with_reducible refine (C1 A9 c9 _ HL9.out hc9).mono ?_); rintro e w2 ⟨rfl, b2⟩; have B2 := b1.trans (b2.mono b1.size); have G2 := G1.below b2))
    | (go_at_call 7; ((with_reducible refine (lives16 _ G2).mono ?_); rintro e w3 ⟨rfl, b3⟩; have B3 := B2.trans (b3.mono B2.size)))
    | (go_at_call 17; ((with_reducible refine (C2 _ B3).mono ?_); rintro e w4 ⟨rfl, b4⟩; have B4 := B3.trans (b4.mono B3.size))))
  go_ret
  exact ⟨rfl, B4⟩
set_option maxRecDepth 100000 in
set_option maxHeartbeats 4000000 in
theorem walk_yes (hG : GL W) (A0 : Option Addr) (c0 : Nat) (E0 : List Value) (k0 : E0.length ≤ c0) (m0 : c0 ≤ 9223372036854775807) (l0 : Lists W W.heap.size A0 E0) (s0 : Bytes8 E0) (t0 : E0.length ≤ 140737488355328) (n : Nat) (x : Int) (h1 : 1 ≤ n) (h2 : n ≤ 5000) (hk1 : 1 ≤ x) (hk2 : x ≤ 256) (L : List Int) (hld : selC E0 n x = some L) : Calls Tryd.prog 5 #[.slice A0 E0.length c0, .int .i64 (n : Nat), .int .i64 x] W fun e w' => e = .returned (.bool true) ∧ Below W.heap.size W w' := by
  have hlen := selC_len hld
  have C1 : ∀ A c V, Lists V V.heap.size A E0 → E0.length ≤ c → Calls Tryd.prog 16 #[.slice A E0.length c, .int .i64 (n : Nat), .int .i64 x] V fun e w' => ∃ A c, e = .returned (.tuple #[.slice A n c, .int .i64 0]) ∧ Hid (Lists w' w'.heap.size A (intCells L)) ∧ Below V.heap.size V w' := fun A c V h3 h4 => by
    have h := csel_any A c E0 n x V h3 s0 h4 (by omega) h1 (by omega) hk1 hk2
    rw [hld] at h
    refine h.mono fun e w' ⟨A, c, k1, k2, _, k3⟩ => ⟨A, c, ?_, k2, k3⟩
    rw [k1, hlen]
  have C2 : ∀ V, Below W.heap.size W V → Calls Tryd.prog 17 #[.slice A0 E0.length c0, .int .i64 (n : Nat), .int .i64 x] V fun e w' => ∃ A c, e = .returned (.tuple #[.slice A n c, .bool true]) ∧ Hid (Lists w' w'.heap.size A (intCells L)) ∧ Below V.heap.size V w' := fun V hb => by
    have h := rsel_any A0 c0 n x E0 V ((l0.below hb).more hb.size) s0 k0 m0 t0 h1 h2 hk1 hk2
    rw [hld] at h
    refine h.mono fun e w' ⟨A, c, k1, k2, k3⟩ => ⟨A, c, ?_, k2, k3⟩
    rw [k1, hlen]
  have C5 := fun A A2 c c2 V (h : Lists V V.heap.size A (intCells L)) (h2 : Lists V V.heap.size A2 (intCells L)) => sameInts_eq n V.heap.size A A2 c c2 L V (Nat.le_refl _) h h2 hlen (by omega)
  have d1 : ¬ (n : Int) > 5000 := by omega
  have d2 : ¬ (n : Int) < 1 := by omega
  have d3 : ¬ (n : Int) > 65535 := by omega
  have d4 : ¬ x < 1 := by omega
  have d5 : ¬ x > 256 := by omega
  have HS0 := Lib.hid s0
  have HL0 := Lib.hid l0
  have HG := Lib.hid hG
  obtain ⟨i0, hi, hz0, hz1, hz2⟩ := info_parts u8Info
  clear s0 l0 hG hld hlen
  go_enter Tryd.func5, Tryd.ntmps5
  go_wp2_with (first
    | (at_builtin; refine wpList_append_src_wide _ rfl (.tmp 19) (.tmp 20) 22 rfl W.heap.size 5 i0 (.int .u8 0) 1 1 Tryd.underlying22 hi hz0 hz1 hz2 rfl (by decide) (.slice (some ⟨W.heap.size, 0, none⟩) 0 0) 0 [] rfl (own_new W) _ A0 E0.length c0 E0 rfl (HL0.out.alloc (Nat.le_refl _) _) (by simp [*]) (bytes8_oneC HS0.out) (by simp only [maxLen]; omega) (by omega) (by simp) ?_; intro v1 w1 own1 hg1; rw [Nat.zero_add, List.nil_append] at own1; have b1 : Below W.heap.size W w1 := ((Below.refl _ _).alloc (Nat.le_refl _) _).grown hg1 (by simp) (fun b hb => by simp [Value.ownBlock] at hb; omega); obtain ⟨A9, c9, rfl, l9, hc9⟩ := own_lists own1; have HL9 := Lib.hid l9; clear l9; have G1 := HG.out.below b1)
    | (go_at_call 16; ((with_reducible refine (C1 A9 c9 _ HL9.out hc9).mono ?_); rintro e w2 ⟨A2, c2, rfl, l2, b2⟩; have B2 := b1.trans (b2.mono b1.size); have G2 := G1.below b2))
    | (go_at_call 7; ((with_reducible refine (lives16 _ G2).mono ?_); rintro e w3 ⟨rfl, b3⟩; have l2b := hl_up l2 b3; have B3 := B2.trans (b3.mono B2.size)))
    | (go_at_call 17; ((with_reducible refine (C2 _ B3).mono ?_); rintro e w4 ⟨A4, c4, rfl, l4, b4⟩; have B4 := B3.trans (b4.mono B3.size); have l2c := hl_up l2b b4))
    | (go_at_call 12; ((with_reducible refine (C5 A2 A4 c2 c4 _ l2c.out l4.out).mono ?_); rintro e w7 ⟨rfl, b7⟩; have B7 := B4.trans (b7.mono B4.size))))
  go_ret
  exact ⟨rfl, B7⟩
theorem walk (hG : GL W) (A0 : Option Addr) (c0 : Nat) (E0 : List Value) (k0 : E0.length ≤ c0) (m0 : c0 ≤ 9223372036854775807) (l0 : Lists W W.heap.size A0 E0) (s0 : Bytes8 E0) (t0 : E0.length ≤ 140737488355328) (n : Int) (_ : (Lit.int .i64 n).wf = true) (x : Int) (_ : (Lit.int .i64 x).wf = true) : Calls Tryd.prog 5 #[.slice A0 E0.length c0, .int .i64 n, .int .i64 x] W fun e w' => e = .returned (.bool true) ∧ Below W.heap.size W w' := by
  by_cases h2 : 5000 < n ∧ n ≤ 65535
  · exact walk_mid hG _ n x h2.1 h2.2
  · cases h1 : inB 1 65535 n && inB 1 256 x
    · exact walk_arg hG A0 c0 E0 k0 m0 l0 s0 t0 n x h2 h1
    · rw [Bool.and_eq_true] at h1
      have e1 := inB_true h1.1
      have e2 := inB_true h1.2
      obtain ⟨k, rfl⟩ : ∃ k : Nat, n = (k : Int) := ⟨n.toNat, by omega⟩
      cases hld : selC E0 k x with
      | none => exact walk_no hG A0 c0 E0 k0 m0 l0 s0 t0 k x (by omega) (by omega) (by omega) (by omega) hld
      | some L => exact walk_yes hG A0 c0 E0 k0 m0 l0 s0 t0 k x (by omega) (by omega) (by omega) (by omega) L hld

set_option maxRecDepth 100000 in
theorem lifted (os : Os) (started : os.Started) (H : Type) (enc : TypeId × Value → H) :
    ReturnsInHanded {} Tryd.checked os 5 .any (fun w args => (Rows.charsetSelectsSpec.pre enc Tryd.prog Tryd.f5 [] false w args ∧ laidMetH Tryd.prog laid16 w) ∧ sizedMet enc Tryd.prog Tryd.f5 (OpenSpec.ofChange Rows.charsetSelectsSpec) false w args)
      (Rows.charsetSelectsSpec.post enc Tryd.prog Tryd.f5 false true false false) := by
  refine returnsInHanded_of_change_and (C := Tryd.checked) (X := fun w _ => laidMetH Tryd.prog laid16 w) (fun _ _ _ hh h => h.of_heap hh) Tryd.own started (by kernel_rfl) Tryd.func5
    (ChangeSpec.witness_shaped (enc := enc) (C := Tryd.checked) (os := os) (X := fun w _ => laidMetH Tryd.prog laid16 w) false (World.doorLaid Tryd.prog 400 os) #[.slice none 0 0, .int .i64 0, .int .i64 0] 8 rfl (World.shaped_of_RefB (by kernel_rfl) (by kernel_rfl)) (by kernel_rfl) (by kernel_rfl) (by kernel_rfl) (door_met os _)) ?_
  intro W base args ds gs before hval0 hW hcnd hsz0 hL _
  have hG := gl_of_laid hL
  have hsz : (DataW.weightsEach Tryd.prog (Tryd.f5.params.toList ++ Rows.charsetSelectsSpec.plain.varTypes Tryd.prog) (ds ++ gs)).all (· ≤ reachBytes) = true := hsz0
  have hval : ∀ (j : Nat) t v, Tryd.f5.params[j]? = some t → args[j]? = some v → Value.okWide Tryd.prog W .any base t v := hval0
  have hW' := hW
  obtain ⟨p, q, hA0, hV, rfl, hfz, hnd⟩ := hW
  have hA : DataW.TrodAll enc Tryd.prog W 0 (fun _ => true) true Tryd.f5.params.toList args.toList ds p := hA0
  rw [Tryd.params5] at hA hval hsz
  obtain ⟨v0, vs0, d0, ds0, p0, q0, hargs, rfl, rfl, h0, r0⟩ := trodAll_cons hA
  obtain ⟨v1, vs1, d1, ds1, p1, q1, rfl, rfl, rfl, h1, r1⟩ := trodAll_cons r0
  obtain ⟨v2, vs2, d2, ds2, p2, q2, rfl, rfl, rfl, h2, r2⟩ := trodAll_cons r1
  obtain ⟨rfl, rfl, rfl⟩ := trodAll_nil r2
  obtain rfl : args = #[v0, v1, v2] := by cases args; simp_all
  obtain ⟨rfl, rfl⟩ := trodVars_none hV
  have hz0 : ∀ m ∈ d0.weights Tryd.prog 22, m ≤ reachBytes := fun m hm => of_decide_eq_true (List.all_eq_true.1 hsz m (DataW.weights_mem_each (j := 0) rfl rfl m hm))
  obtain ⟨A0, c0, E0, rfl, k0, m0, l0, s0, t0⟩ := open_bytes Tryd.underlying22 Tryd.underlying5 (by kernel_rfl) (by kernel_rfl) (hval 0 22 v0 rfl rfl) h0 hz0
  obtain ⟨a1, rfl, rfl, rfl, w1⟩ := open_int Tryd.underlying3 (hval 1 3 v1 rfl rfl) h1
  obtain ⟨a2, rfl, rfl, rfl, w2⟩ := open_int Tryd.underlying3 (hval 2 3 v2 rfl rfl) h2
  clear hA0 hval0
  simp only [List.append_nil] at hW'
  refine (walk (W := W) hG A0 c0 E0 k0 m0 l0 s0 t0 a1 w1 a2 w2).mono fun e W' ⟨he, hg⟩ => ?_
  subst he
  exact ⟨_, rfl, law_post Tryd.laidOut rfl Tryd.underlying4 (by kernel_rfl) rfl rfl rfl rfl hW' hg⟩

theorem over : Rows.CharsetSelectsSaid :=
  OpenClaim.holds_of_wide 5 Tryd.f5 rfl rfl rfl rfl rfl rfl rfl ⟨rfl, rfl, rfl, rfl, rfl⟩ rfl rfl rfl rfl rfl (by kernel_rfl) Tryd.func5 (by kernel_rfl)
    (of_decide_eq_true (by kernel_rfl)) (by unfold Func.isWrapper; first | (rw [if_pos (by decide +kernel)]; kernel_rfl) | (rw [if_neg (by decide +kernel)]; exact ⟨rfl, rfl⟩))
    (fun os started H enc _ => lifted os started H enc)

theorem proved : Rows.CharsetSelectsCardSaid :=
  Claim7.holds_tied_plain_at .later [] [.data] true Rows.charsetSelectsCard.stood.harness false
    over (fun _ h => by cases h) (by kernel_rfl) (fun _ h => by cases h) charsetSelects_row_tie rfl ⟨rfl, rfl⟩ (by kernel_rfl) rfl
    (fun f fn hf hfn => by
      obtain rfl : f = 5 := Option.some.inj ((show Tryd.prog.funcNamed "serif/seriflaw16.CharsetSelects" = some 5 by kernel_rfl).symm.trans hf) |>.symm
      obtain rfl : fn = Tryd.f5 := (Option.some.inj (Tryd.func5.symm.trans hfn)).symm
      exact ⟨by kernel_rfl, fun j t ht => by
        rw [Tryd.params5] at ht
        have hm : t ∈ [22, 3] := by simpa using Array.mem_of_getElem? ht
        have hall : ([22, 3].all fun u => !Tryd.prog.wantsStandIn u) = true := by kernel_rfl
        exact (show Tryd.prog.wantsStandIn t = false by simpa using List.all_eq_true.1 hall t hm)⟩)
    (by kernel_rfl)

end Go.Proofs.YteffijgajhngeaaDoor.charsetSelects
