/- CharsetSelectPuts: the bytes of any selection, in any format, and that they are selected again, whatever follows; the table of how many a range has is tied to the text; no condition but what the card prints. -/
import Derived.Test.YteffijgajhngeaaDoorCards
import Derived.Test.YteffijgajhngeaaDoorTie
import Derived.SevenTiedAt
import Derived.Test.YteffijgajhngeaaDoorM3CharsetSelectPuts

namespace Go.Proofs.YteffijgajhngeaaDoor.charsetSelectPuts
open Go.ChangeShapes Go.WideShapes Go.ChangeAt Go.RowKit Go.Shelf
set_option linter.unusedVariables false
set_option linter.unusedSimpArgs false

variable {W : World}
theorem bytes8_oneC {M : List Value} (h : Bytes8 M) : ∀ u ∈ M, u.oneCell' = true := fun u hu => by
  obtain ⟨k, _, rfl⟩ := h u hu
  rfl
set_option maxRecDepth 100000 in
theorem walk_big (hG : GL W) (A0 : Option Addr) (c0 n : Nat) (S1 S2 S3 : Value) (h3 : 3000 < n) : Calls Tryd.prog 6 #[.slice A0 n c0, S1, S2, S3] W fun e w' => e = .returned (.bool true) ∧ Below W.heap.size W w' := by
  have d1 : (n : Int) > 3000 := by omega
  have HG := Lib.hid hG
  go_enter Tryd.func6, Tryd.ntmps6
  go_wp2_with (first | (go_at_call 7; ((with_reducible refine (lives16 _ HG.out).mono ?_); rintro e w2 ⟨rfl, b2⟩)))
  go_ret
  exact ⟨rfl, b2⟩
set_option maxRecDepth 100000 in
set_option maxHeartbeats 4000000 in
theorem walk_no (hG : GL W) (A0 : Option Addr) (c0 n : Nat) (L : List Int) (hl : Lists W W.heap.size A0 (intCells L)) (hnn : L.length = n) (h3 : n ≤ 3000) (kf f : Int) (S2 : Value) (hr : mayS L kf f = false) : Calls Tryd.prog 6 #[.slice A0 n c0, .int .i64 kf, .int .i64 f, S2] W fun e w' => e = .returned (.bool true) ∧ Below W.heap.size W w' := by
  have C1 := fun A c V h1 h2 => cpsel_bad A c n L kf f V h1 hnn h2 (by omega) hr
  have C2 : ∀ V, Below W.heap.size W V → Calls Tryd.prog 19 #[.slice A0 n c0, .int .i64 kf, .int .i64 f] V fun e w' => e = .returned (.bool false) ∧ V = w' := fun V hb => (rmaysel_any A0 c0 n L kf f V ((hl.below hb).more hb.size) hnn (by omega) false hr).mono fun e w' h => ⟨h.1, h.2.symm⟩
  have d1 : ¬ (n : Int) > 3000 := by omega
  have HG := Lib.hid hG
  have HL := Lib.hid hl
  have HN := Lib.hid hnn
  obtain ⟨j0, hj, hy0, hy1, hy2⟩ := info_parts intInfoC
  clear hl hnn hr hG
  go_enter Tryd.func6, Tryd.ntmps6
  go_wp2_with (first
    | (at_builtin; refine wpList_append_src_wide _ rfl (.tmp 18) (.tmp 19) 24 rfl W.heap.size 3 j0 (.int .i64 0) 1 8 Tryd.underlying24 hj hy0 hy1 hy2 rfl (by decide) (.slice (some ⟨W.heap.size, 0, none⟩) 0 0) 0 [] rfl (own_newI W) _ A0 n c0 (intCells L) rfl (HL.out.alloc (Nat.le_refl _) _) (by rw [intCells_len, HN.out, Nat.mul_one]) (intCells_oneC L) (by simp only [maxLen]; omega) (by omega) (by simp) ?_; intro v1 w1 own1 hg1; rw [Nat.zero_add, List.nil_append] at own1; have b1 : Below W.heap.size W w1 := ((Below.refl _ _).alloc (Nat.le_refl _) _).grown hg1 (by simp) (fun b hb => by simp [Value.ownBlock] at hb; omega); obtain ⟨A9, c9, rfl, l9, hc9⟩ := own_lists own1; have HL9 := Lib.hid l9; clear l9; have G1 := HG.out.below b1)
    | (go_at_call 18; ((with_reducible refine (C1 A9 c9 _ HL9.out hc9).mono ?_); rintro e w2 ⟨rfl, b2⟩; have B2 := b1.trans (b2.mono b1.size); have G2 := G1.below b2))
    | (go_at_call 7; ((with_reducible refine (lives16 _ G2).mono ?_); rintro e w3 ⟨rfl, b3⟩; have B3 := B2.trans (b3.mono B2.size)))
    | (go_at_call 19; ((with_reducible refine (C2 _ B3).mono ?_); rintro e w4 ⟨rfl, rfl⟩)))
  go_ret
  exact ⟨rfl, B3⟩
set_option maxRecDepth 100000 in
set_option maxHeartbeats 4000000 in
theorem walk_yes (hG : GL W) (A0 : Option Addr) (c0 n : Nat) (L : List Int) (hl : Lists W W.heap.size A0 (intCells L)) (hnn : L.length = n) (h3 : n ≤ 3000) (kf : Int) (f : Nat) (A2 : Option Addr) (c2 : Nat) (E2 : List Value) (l2 : Lists W W.heap.size A2 E2) (s2 : Bytes8 E2) (t2 : E2.length ≤ 140737488355328) (hr : mayS L kf (f : Nat) = true) (hn1 : 1 ≤ n) (bs : List Value) (hbs : bs = putS L f) (hk1 : 1 ≤ kf) (hk2 : kf ≤ 256) (hld : selC (bs ++ E2) n kf = some L) : Calls Tryd.prog 6 #[.slice A0 n c0, .int .i64 kf, .int .i64 (f : Nat), .slice A2 E2.length c2] W fun e w' => e = .returned (.bool true) ∧ Below W.heap.size W w' := by
  have C1 : ∀ A c V, GL V → Lists V V.heap.size A (intCells L) → n ≤ c → Calls Tryd.prog 18 #[.slice A n c, .int .i64 kf, .int .i64 (f : Nat)] V fun e w' => ∃ A c, e = .returned (.tuple #[.slice A bs.length c, .int .i64 0]) ∧ Hid (Lists w' w'.heap.size A bs) ∧ Below V.heap.size V w' := fun A c V hg h1 h2 => by
    have h := cpsel_any A c L kf f V h1 (by rw [hnn]; exact h2) hr
    rw [hnn] at h
    refine h.mono fun e w' ⟨A, c, k1, k2, k3⟩ => ?_
    rw [← hbs] at k1 k2
    obtain ⟨A', c', k4, k5, _⟩ := own_lists k2
    injection k4 with k6 _ k7
    subst k6
    exact ⟨_, _, k1, Lib.hid k5, k3⟩
  have C2 : ∀ V, Below W.heap.size W V → Calls Tryd.prog 19 #[.slice A0 n c0, .int .i64 kf, .int .i64 (f : Nat)] V fun e w' => e = .returned (.bool true) ∧ V = w' := fun V hb => (rmaysel_any A0 c0 n L kf f V ((hl.below hb).more hb.size) hnn (by omega) true hr).mono fun e w' h => ⟨h.1, h.2.symm⟩
  have C3 : ∀ V, Below W.heap.size W V → Calls Tryd.prog 20 #[.slice A0 n c0, .int .i64 (f : Nat)] V fun e w' => ∃ A c, e = .returned (.slice A bs.length c) ∧ Hid (Lists w' w'.heap.size A bs) ∧ Below V.heap.size V w' := fun V hb => by
    have h := rpselC_any A0 c0 f L kf V ((hl.below hb).more hb.size) (by rw [hnn]; exact h3) hr
    rw [hnn] at h
    unfold RPutS at h
    rw [← hbs] at h
    exact h
  have hpl : bs.length ≤ 13000 := by rw [hbs]; have := putS_le L f (by omega); omega
  have hpb : Bytes8 bs := by rw [hbs]; exact putS_bytes L f
  have C4 : ∀ A c V, Lists V V.heap.size A (bs ++ E2) → bs.length + E2.length ≤ c → Calls Tryd.prog 16 #[.slice A (bs.length + E2.length) c, .int .i64 (n : Nat), .int .i64 kf] V fun e w' => ∃ A c, e = .returned (.tuple #[.slice A n c, .int .i64 0]) ∧ Hid (Lists w' w'.heap.size A (intCells L)) ∧ Below V.heap.size V w' := fun A c V h1 h2 => by
    have h := csel_any A c (bs ++ E2) n kf V h1 (hpb.append s2) (by rw [List.length_append]; exact h2) (by rw [List.length_append]; omega) hn1 (by omega) hk1 hk2
    rw [hld, List.length_append] at h
    refine h.mono fun e w' ⟨A, c, k1, k2, _, k3⟩ => ⟨A, c, ?_, k2, k3⟩
    rw [k1, hnn]
  have C5 : ∀ A c V, Lists V V.heap.size A (intCells L) → Below W.heap.size W V → True → Calls Tryd.prog 12 #[.slice A n c, .slice A0 n c0] V fun e w' => e = .returned (.bool true) ∧ Below V.heap.size V w' := fun A c V h hb _ => sameInts_eq n V.heap.size A A0 c c0 L V (Nat.le_refl _) h ((hl.below hb).more hb.size) hnn (by omega)
  have d1 : ¬ (n : Int) > 3000 := by omega
  have HG := Lib.hid hG
  have HL := Lib.hid hl
  have HN := Lib.hid hnn
  have HPB := Lib.hid hpb
  have HS2 := Lib.hid s2
  have HL2 := Lib.hid l2
  obtain ⟨j0, hj, hy0, hy1, hy2⟩ := info_parts intInfoC
  obtain ⟨i0, hi, hz0, hz1, hz2⟩ := info_parts u8Info
  clear hl hnn hr hG hbs hld hpb s2 l2
  go_enter Tryd.func6, Tryd.ntmps6
  go_wp2_with (first
    | (at_builtin; refine wpList_append_src_wide _ rfl (.tmp 18) (.tmp 19) 24 rfl W.heap.size 3 j0 (.int .i64 0) 1 8 Tryd.underlying24 hj hy0 hy1 hy2 rfl (by decide) (.slice (some ⟨W.heap.size, 0, none⟩) 0 0) 0 [] rfl (own_newI W) _ A0 n c0 (intCells L) rfl (HL.out.alloc (Nat.le_refl _) _) (by rw [intCells_len, HN.out, Nat.mul_one]) (intCells_oneC L) (by simp only [maxLen]; omega) (by omega) (by simp) ?_; intro v1 w1 own1 hg1; rw [Nat.zero_add, List.nil_append] at own1; have b1 : Below W.heap.size W w1 := ((Below.refl _ _).alloc (Nat.le_refl _) _).grown hg1 (by simp) (fun b hb => by simp [Value.ownBlock] at hb; omega); obtain ⟨A9, c9, rfl, l9, hc9⟩ := own_lists own1; have HL9 := Lib.hid l9; clear l9; have G1 := HG.out.below b1)
    | (go_at_call 18; ((with_reducible refine (C1 A9 c9 _ G1 HL9.out hc9).mono ?_); rintro e w2 ⟨A7, c7, rfl, l7, b2⟩; have B2 := b1.trans (b2.mono b1.size); have G2 := G1.below b2))
    | (go_at_call 7; ((with_reducible refine (lives16 _ G2).mono ?_); rintro e w3 ⟨rfl, b3⟩; have l73 := hl_up l7 b3; have B3 := B2.trans (b3.mono B2.size)))
    | (go_at_call 19; ((with_reducible refine (C2 _ B3).mono ?_); rintro e w4 ⟨rfl, rfl⟩))
    | (at_builtin; refine wpList_append_src_wide _ rfl (.tmp 41) (.tmp 42) 22 rfl w3.heap.size 5 i0 (.int .u8 0) 1 1 Tryd.underlying22 hi hz0 hz1 hz2 rfl (by decide) (.slice (some ⟨w3.heap.size, 0, none⟩) 0 0) 0 [] rfl (own_new w3) _ A7 bs.length c7 bs rfl (l73.out.alloc (Nat.le_refl _) _) (by simp [*]) (bytes8_oneC HPB.out) (by simp only [maxLen]; omega) (by omega) (by simp) ?_; intro v1 w4 own1 hg1; rw [Nat.zero_add, List.nil_append] at own1; have b4 : Below w3.heap.size w3 w4 := ((Below.refl _ _).alloc (Nat.le_refl _) _).grown hg1 (by simp) (fun b hb => by simp [Value.ownBlock] at hb; omega); have B4 := B3.trans (b4.mono B3.size))
    | (at_builtin; refine wpList_append_src_wide _ rfl (.tmp 43) (.tmp 44) 22 rfl w3.heap.size 5 i0 (.int .u8 0) 1 1 Tryd.underlying22 hi hz0 hz1 hz2 rfl (by decide) v1 bs.length bs rfl own1 _ A2 E2.length c2 E2 rfl (HL2.out.below B4) (by simp) (bytes8_oneC HS2.out) (by simp only [maxLen]; omega) (by omega) b4.size ?_; intro v5 w5 own5 hg5; have b35 : Below w3.heap.size w3 w5 := b4.grown hg5 b4.size (fun b hb => ownC_low own1 b (by simp [blk, hb])); have B5 := B3.trans (b35.mono B3.size); obtain ⟨A5, c5, rfl, l5, hc5⟩ := own_lists own5; have HL5 := Lib.hid l5; clear l5)
    | (go_at_call 16; ((with_reducible refine (C4 A5 c5 _ HL5.out hc5).mono ?_); rintro e w6 ⟨A6, c6, rfl, l6, b6⟩; have B6 := B5.trans (b6.mono B5.size); have l76 := hl_up l73 (b35.trans (b6.mono b35.size)))))
  have hI : Below w6.heap.size w6 w6.drew := (Below.refl _ _).drew
  refine wp_region_chain (fun V => Below w6.heap.size w6 V) [(0, false), (1, false), (2, false), (3, false), (4, false), (5, false), (6, false), (7, true), (8, true), (9, false), (10, false), (11, false), (12, false), (13, false), (14, false), (15, false), (16, false), (17, false), (18, true), (19, false), (20, false)] (by kernel_rfl) (by kernel_rfl) hI ?_
  repeat (first
    | (refine ChainL.skip (o := ?_) ?_ ?_ ?_; rotate_left; (focus (first | (simp only [List.getElem?_toArray, List.getElem?_cons_succ, List.getElem?_cons_zero]; with_reducible rfl) | (simp only [List.getElem?_toArray, List.getElem?_cons_zero]; with_reducible rfl))); (focus rfl); simp only [Act.put, List.setIfInBounds_toArray, List.set_cons_zero, List.set_cons_succ])
    | (refine ChainL.val (o := ?_) (v := ?_) ?_ ?_ ?_ ?_ ?_; rotate_left 2; (focus (first | (simp only [List.getElem?_toArray, List.getElem?_cons_succ, List.getElem?_cons_zero]; with_reducible rfl) | (simp only [List.getElem?_toArray, List.getElem?_cons_zero]; with_reducible rfl))); (focus (intro _ _ h; cases h)); (focus rfl); (focus (intro w' hJ; have q1 := conv_lists (c := c7) (l76.out.below hJ) rfl HPB.out; go_simp <;> with_reducible rfl)); simp only [Act.put, List.setIfInBounds_toArray, List.set_cons_zero, List.set_cons_succ]))
  refine ChainL.call (o := ?_) (f := ?_) (args := ?_) ?_ ?_ ?_ ?_
  rotate_left 3
  (focus (simp only [List.getElem?_toArray, List.getElem?_cons_succ, List.getElem?_cons_zero]; with_reducible rfl))
  (focus rfl)
  (focus (go_simp; (constructor <;> with_reducible rfl)))
  refine (C3 _ (B6.trans (hI.mono B6.size))).mono ?_
  rintro e w7 ⟨A8, c8, rfl, l8, b7⟩
  have b67 := hI.trans (b7.mono hI.size)
  refine ⟨_, rfl, b67, ?_⟩
  simp only [Act.put, List.setIfInBounds_toArray, List.set_cons_zero, List.set_cons_succ]
  have q2 := conv_lists (c := c8) l8.out rfl HPB.out
  refine ChainL.does (o := ?_) (v := ?_) (w1 := ?_) ?_ ?_ ?_ ?_ ?_
  rotate_left 3
  (focus (simp only [List.getElem?_toArray, List.getElem?_cons_succ, List.getElem?_cons_zero]; with_reducible rfl))
  (focus rfl)
  (focus (go_simp; (constructor <;> with_reducible rfl)))
  exact b67
  simp only [Act.put, List.setIfInBounds_toArray, List.set_cons_zero, List.set_cons_succ]
  repeat (first
    | (refine ChainL.skip (o := ?_) ?_ ?_ ?_; rotate_left; (focus (first | (simp only [List.getElem?_toArray, List.getElem?_cons_succ, List.getElem?_cons_zero]; with_reducible rfl) | (simp only [List.getElem?_toArray, List.getElem?_cons_zero]; with_reducible rfl))); (focus rfl); simp only [Act.put, List.setIfInBounds_toArray, List.set_cons_zero, List.set_cons_succ])
    | (refine ChainL.val (o := ?_) (v := ?_) ?_ ?_ ?_ ?_ ?_; rotate_left 2; (focus (first | (simp only [List.getElem?_toArray, List.getElem?_cons_succ, List.getElem?_cons_zero]; with_reducible rfl) | (simp only [List.getElem?_toArray, List.getElem?_cons_zero]; with_reducible rfl))); (focus (intro _ _ h; cases h)); (focus rfl); (focus (intro w' hJ; skip; go_simp <;> with_reducible rfl)); simp only [Act.put, List.setIfInBounds_toArray, List.set_cons_zero, List.set_cons_succ]))
  refine ChainL.call (o := ?_) (f := ?_) (args := ?_) ?_ ?_ ?_ ?_
  rotate_left 3
  (focus (simp only [List.getElem?_toArray, List.getElem?_cons_succ, List.getElem?_cons_zero]; with_reducible rfl))
  (focus rfl)
  (focus (go_simp; (constructor <;> with_reducible rfl)))
  refine (C5 A6 c6 _ ((l6.out.below b67).more b67.size) (B6.trans (b67.mono B6.size)) trivial).mono ?_
  rintro e w8 ⟨rfl, b8⟩
  have b68 := b67.trans (b8.mono b67.size)
  refine ⟨_, rfl, b68, ?_⟩
  simp only [Act.put, List.setIfInBounds_toArray, List.set_cons_zero, List.set_cons_succ]
  repeat (first
    | (refine ChainL.skip (o := ?_) ?_ ?_ ?_; rotate_left; (focus (first | (simp only [List.getElem?_toArray, List.getElem?_cons_succ, List.getElem?_cons_zero]; with_reducible rfl) | (simp only [List.getElem?_toArray, List.getElem?_cons_zero]; with_reducible rfl))); (focus rfl); simp only [Act.put, List.setIfInBounds_toArray, List.set_cons_zero, List.set_cons_succ])
    | (refine ChainL.val (o := ?_) (v := ?_) ?_ ?_ ?_ ?_ ?_; rotate_left 2; (focus (first | (simp only [List.getElem?_toArray, List.getElem?_cons_succ, List.getElem?_cons_zero]; with_reducible rfl) | (simp only [List.getElem?_toArray, List.getElem?_cons_zero]; with_reducible rfl))); (focus (intro _ _ h; cases h)); (focus rfl); (focus (intro w' hJ; skip; go_simp <;> with_reducible rfl)); simp only [Act.put, List.setIfInBounds_toArray, List.set_cons_zero, List.set_cons_succ]))
  refine ChainL.nil ?_
  go_wp2
  go_ret
  exact ⟨rfl, B6.trans (b68.mono B6.size)⟩
theorem walk (hG : GL W) (A0 : Option Addr) (c0 : Nat) (L : List Int) (_ : L.length ≤ c0) (_ : c0 ≤ maxLen) (hl : Lists W W.heap.size A0 (intCells L)) (kf : Int) (_ : (Lit.int .i64 kf).wf = true) (f : Int) (_ : (Lit.int .i64 f).wf = true) (A2 : Option Addr) (c2 : Nat) (E2 : List Value) (_ : E2.length ≤ c2) (_ : c2 ≤ 9223372036854775807) (l2 : Lists W W.heap.size A2 E2) (s2 : Bytes8 E2) (t2 : E2.length ≤ 140737488355328) :
    Calls Tryd.prog 6 #[.slice A0 L.length c0, .int .i64 kf, .int .i64 f, .slice A2 E2.length c2] W fun e w' => e = .returned (.bool true) ∧ Below W.heap.size W w' := by
  rcases Nat.lt_or_ge 3000 L.length with h | h
  · exact walk_big hG A0 c0 L.length _ _ _ h
  · cases hr : mayS L kf f
    · exact walk_no hG A0 c0 L.length L hl rfl h kf f _ hr
    · have hm := hr
      unfold mayS at hm
      simp only [Bool.and_eq_true, Bool.or_eq_true, beq_iff_eq] at hm
      obtain ⟨⟨⟨h1, h0⟩, hall⟩, hf⟩ := hm
      have h1 := inB_true h1
      have h0 := inB_true h0
      obtain ⟨k, rfl⟩ : ∃ k : Nat, f = (k : Int) := ⟨f.toNat, by omega⟩
      exact walk_yes hG A0 c0 L.length L hl rfl h kf k A2 c2 E2 l2 s2 t2 hr (by omega) (putS L k) rfl h0.1 h0.2 (selC_put k L.length kf L E2 rfl (by omega) (by omega) h0.2 hall (by omega))

set_option maxRecDepth 100000 in
theorem lifted (os : Os) (started : os.Started) (H : Type) (enc : TypeId × Value → H) :
    ReturnsInHanded {} Tryd.checked os 6 .any (fun w args => (Rows.charsetSelectPutsSpec.pre enc Tryd.prog Tryd.f6 [] false w args ∧ laidMetH Tryd.prog laid16 w) ∧ sizedMet enc Tryd.prog Tryd.f6 (OpenSpec.ofChange Rows.charsetSelectPutsSpec) false w args)
      (Rows.charsetSelectPutsSpec.post enc Tryd.prog Tryd.f6 false true false false) := by
  refine returnsInHanded_of_change_and (C := Tryd.checked) (X := fun w _ => laidMetH Tryd.prog laid16 w) (fun _ _ _ hh h => h.of_heap hh) Tryd.own started (by kernel_rfl) Tryd.func6
    (ChangeSpec.witness_shaped (enc := enc) (C := Tryd.checked) (os := os) (X := fun w _ => laidMetH Tryd.prog laid16 w) false (World.doorLaid Tryd.prog 400 os) #[.slice none 0 0, .int .i64 0, .int .i64 0, .slice none 0 0] 8 rfl (World.shaped_of_RefB (by kernel_rfl) (by kernel_rfl)) (by kernel_rfl) (by kernel_rfl) (by kernel_rfl) (door_met os _)) ?_
  intro W base args ds gs before hval0 hW hcnd hsz0 hL _
  have hG := gl_of_laid hL
  have hsz : (DataW.weightsEach Tryd.prog (Tryd.f6.params.toList ++ Rows.charsetSelectPutsSpec.plain.varTypes Tryd.prog) (ds ++ gs)).all (· ≤ reachBytes) = true := hsz0
  have hval : ∀ (j : Nat) t v, Tryd.f6.params[j]? = some t → args[j]? = some v → Value.okWide Tryd.prog W .any base t v := hval0
  have hW' := hW
  obtain ⟨p, q, hA0, hV, rfl, hfz, hnd⟩ := hW
  have hA : DataW.TrodAll enc Tryd.prog W 0 (fun _ => true) true Tryd.f6.params.toList args.toList ds p := hA0
  rw [Tryd.params6] at hA hval hsz
  obtain ⟨v0, vs0, d0, ds0, p0, q0, hargs, rfl, rfl, h0, r0⟩ := trodAll_cons hA
  obtain ⟨v1, vs1, d1, ds1, p1, q1, rfl, rfl, rfl, h1, r1⟩ := trodAll_cons r0
  obtain ⟨v2, vs2, d2, ds2, p2, q2, rfl, rfl, rfl, h2, r2⟩ := trodAll_cons r1
  obtain ⟨v3, vs3, d3, ds3, p3, q3, rfl, rfl, rfl, h3, r3⟩ := trodAll_cons r2
  obtain ⟨rfl, rfl, rfl⟩ := trodAll_nil r3
  obtain rfl : args = #[v0, v1, v2, v3] := by cases args; simp_all
  obtain ⟨rfl, rfl⟩ := trodVars_none hV
  obtain ⟨A0, n0, c0, L0, rfl, rfl, k0, m0, l0, w0⟩ := open_list_int Tryd.underlying24 Tryd.underlying3 (by kernel_rfl) (hval 0 24 v0 rfl rfl) h0
  obtain ⟨a1, rfl, rfl, rfl, w1⟩ := open_int Tryd.underlying3 (hval 1 3 v1 rfl rfl) h1
  obtain ⟨a2, rfl, rfl, rfl, w2⟩ := open_int Tryd.underlying3 (hval 2 3 v2 rfl rfl) h2
  have hz3 : ∀ m ∈ d3.weights Tryd.prog 22, m ≤ reachBytes := fun m hm => of_decide_eq_true (List.all_eq_true.1 hsz m (DataW.weights_mem_each (j := 3) rfl rfl m hm))
  obtain ⟨A3, c3, E3, rfl, k3, m3, l3, s3, t3⟩ := open_bytes Tryd.underlying22 Tryd.underlying5 (by kernel_rfl) (by kernel_rfl) (hval 3 22 v3 rfl rfl) h3 hz3
  clear hA0 hval0
  simp only [List.append_nil] at hW'
  refine (walk (W := W) hG A0 c0 L0 k0 m0 l0 a1 w1 a2 w2 A3 c3 E3 k3 m3 l3 s3 t3).mono fun e W' ⟨he, hg⟩ => ?_
  subst he
  exact ⟨_, rfl, law_post Tryd.laidOut rfl Tryd.underlying4 (by kernel_rfl) rfl rfl rfl rfl hW' hg⟩

theorem over : Rows.CharsetSelectPutsSaid :=
  OpenClaim.holds_of_wide 6 Tryd.f6 rfl rfl rfl rfl rfl rfl rfl ⟨rfl, rfl, rfl, rfl, rfl⟩ rfl rfl rfl rfl rfl (by kernel_rfl) Tryd.func6 (by kernel_rfl)
    (of_decide_eq_true (by kernel_rfl)) (by unfold Func.isWrapper; first | (rw [if_pos (by decide +kernel)]; kernel_rfl) | (rw [if_neg (by decide +kernel)]; exact ⟨rfl, rfl⟩))
    (fun os started H enc _ => lifted os started H enc)

theorem proved : Rows.CharsetSelectPutsCardSaid :=
  Claim7.holds_tied_plain_at .later [] [.data] true Rows.charsetSelectPutsCard.stood.harness false
    over (fun _ h => by cases h) (by kernel_rfl) (fun _ h => by cases h) charsetSelectPuts_row_tie rfl ⟨rfl, rfl⟩ (by kernel_rfl) rfl
    (fun f fn hf hfn => by
      obtain rfl : f = 6 := Option.some.inj ((show Tryd.prog.funcNamed "serif/seriflaw16.CharsetSelectPuts" = some 6 by kernel_rfl).symm.trans hf) |>.symm
      obtain rfl : fn = Tryd.f6 := (Option.some.inj (Tryd.func6.symm.trans hfn)).symm
      exact ⟨by kernel_rfl, fun j t ht => by
        rw [Tryd.params6] at ht
        have hm : t ∈ [24, 3, 22] := by simpa using Array.mem_of_getElem? ht
        have hall : ([24, 3, 22].all fun u => !Tryd.prog.wantsStandIn u) = true := by kernel_rfl
        exact (show Tryd.prog.wantsStandIn t = false by simpa using List.all_eq_true.1 hall t hm)⟩)
    (by kernel_rfl)

end Go.Proofs.YteffijgajhngeaaDoor.charsetSelectPuts
