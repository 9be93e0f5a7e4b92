/- IndexBack: what was put is loaded again, whatever follows, gone over as far as one goes on; no condition but what the row prints. -/
import Derived.Test.YtpaenjalpcdamaaCIx9

namespace Go.Proofs.Ytpaenjalpcdamaa.indexBack
open Go.ChangeShapes Go.WideShapes Go.ChangeAt Go.RowKit Go.Shelf
set_option linter.unusedVariables false
set_option linter.unusedSimpArgs false

variable {W : World}
set_option maxRecDepth 100000 in
theorem walk_big (A0 : Option Addr) (c0 n : Nat) (S1 S2 : Value) (u : Bool) (CL : Calls Try.prog 11 #[.slice A0 n c0] W fun e w' => e = .returned (.bool u) ∧ w' = W) (hu : u = true ∨ 3000 < n) : Calls Try.prog 5 #[.slice A0 n c0, S1, S2] W fun e w' => e = .returned (.bool true) ∧ Below W.heap.size W w' := by
  cases u
  · have h3 : 3000 < n := hu.resolve_left (by simp)
    have d0 : decide ((n : Int) > 3000) = true := by simp; omega
    clear hu
    go_enter Try.func5, Try.ntmps5
    go_wp2_with (first | (go_at_call 11; ((with_reducible refine (CL).mono ?_); rintro e w1 ⟨rfl, rfl⟩)) | (go_at_call 7; ((with_reducible refine (lives14 _).mono ?_); rintro e w2 ⟨rfl, b2⟩)))
    go_ret
    exact ⟨rfl, b2⟩
  · clear hu
    go_enter Try.func5, Try.ntmps5
    go_wp2_with (first | (go_at_call 11; ((with_reducible refine (CL).mono ?_); rintro e w1 ⟨rfl, rfl⟩)) | (go_at_call 7; ((with_reducible refine (lives14 _).mono ?_); rintro e w2 ⟨rfl, b2⟩)))
    go_ret
    exact ⟨rfl, b2⟩
set_option maxRecDepth 100000 in
set_option maxHeartbeats 2000000 in
theorem walk_no (A0 : Option Addr) (c0 n : Nat) (S1 S2 : Value) (hn : n ≤ 3000) (CL : ∀ V, V = W → Calls Try.prog 11 #[.slice A0 n c0] V fun e w' => e = .returned (.bool false) ∧ w' = V)
    (CP : Calls Try.prog 12 #[.slice A0 n c0] W fun e w' => e = .returned (.tuple #[.slice none 0 0, .int .i64 3]) ∧ Below W.heap.size W w') :
    Calls Try.prog 5 #[.slice A0 n c0, S1, S2] W fun e w' => e = .returned (.bool true) ∧ Below W.heap.size W w' := by
  have d0 : decide ((n : Int) > 3000) = false := by simp; omega
  go_enter Try.func5, Try.ntmps5
  go_wp2_with (first
    | (go_at_call 11; ((with_reducible refine (CL _ rfl).mono ?_); rintro e w1 ⟨rfl, rfl⟩))
    | (go_at_call 12; ((with_reducible refine (CP).mono ?_); rintro e w2 ⟨rfl, b2⟩))
    | (go_at_call 7; ((with_reducible refine (lives14 _).mono ?_); rintro e w3 ⟨rfl, b3⟩; have B3 := b2.trans (b3.mono b2.size)))
    | (go_at_call 7; ((with_reducible refine (lives14 _).mono ?_); rintro e w4 ⟨rfl, b4⟩; have B4 := B3.trans (b4.mono B3.size))))
  go_ret
  exact ⟨rfl, B4⟩
set_option maxRecDepth 100000 in
set_option maxHeartbeats 4000000 in
theorem walk_yes (A0 : Option Addr) (c0 n : Nat) (Ls : List (List Value)) (hl : RowsAt W W.heap.size A0 Ls) (hnn : Ls.length = n) (A1 : Option Addr) (c1 : Nat) (E1 bs : List Value) (k1 : E1.length ≤ c1) (l1 : Lists W W.heap.size A1 E1) (s1 : Bytes8 E1) (t1 : E1.length ≤ 140737488351232) (h8 : Bytes8 bs) (hbl : bs.length ≤ 1048576) (a2 : Int) (hn : n ≤ 3000)
    (os : List Nat) (D : List Value) (hd : ldX (bs ++ E1) = some (os, D, bs.length)) (hL : lsts os D = Ls)
    (CL : ∀ V, V = W → Calls Try.prog 11 #[.slice A0 n c0] V fun e w' => e = .returned (.bool false) ∧ w' = V)
    (CP : Calls Try.prog 12 #[.slice A0 n c0] W fun e w' => ∃ A c, e = .returned (.tuple #[.slice A bs.length c, .int .i64 0]) ∧ Hid (Lists w' w'.heap.size A bs) ∧ Below W.heap.size W w') :
    Calls Try.prog 5 #[.slice A0 n c0, .slice A1 E1.length c1, .int .i64 a2] W fun e w' => e = .returned (.bool true) ∧ Below W.heap.size W w' := by
  have d0 : decide ((n : Int) > 3000) = false := by simp; omega
  have ho := ixOk_of (h8.append s1) hd
  obtain ⟨m, hm⟩ : ∃ m, bs.length = m := ⟨_, rfl⟩
  rw [hm] at CP hbl hd
  have C4 : ∀ A c V, Lists V V.heap.size A (bs ++ E1) → m + E1.length ≤ c → Calls Try.prog 8 #[.slice A (m + E1.length) c] V (GotIx V os D (m : Nat)) := fun A c V h1 h2 => by
    have := load_any A c (bs ++ E1) V h1 (h8.append s1) (by rw [List.length_append, hm]; exact h2) (by rw [List.length_append, hm]; omega)
    rw [hd, List.length_append, hm] at this
    exact this
  have C5 := fun p V h1 (h2 : RowsAt V V.heap.size A0 Ls) => holds_at p os D ((m : Nat) : Int) A0 c0 Ls a2 V h1 ho hL.symm h2
  rw [hnn] at C5
  have HR := Lib.hid hl
  have H8 := Lib.hid h8
  have HS1 := Lib.hid s1
  have HL1 := Lib.hid l1
  have HM := Lib.hid hm
  obtain ⟨i0, hi, hz0, hz1, hz2⟩ := info_parts u8Info
  clear hl hnn hd hL h8 s1 l1 hm ho
  go_enter Try.func5, Try.ntmps5
  go_wp2_with (first
    | (go_at_call 11; ((with_reducible refine (CL _ rfl).mono ?_); rintro e w1 ⟨rfl, rfl⟩))
    | (go_at_call 12; ((with_reducible refine (CP).mono ?_); rintro e w2 ⟨A2, c2, rfl, l2, b2⟩))
    | (go_at_call 7; ((with_reducible refine (lives14 _).mono ?_); rintro e w3 ⟨rfl, b3⟩; have B3 := b2.trans (b3.mono b2.size); have l3 := Lib.hid ((l2.out.below b3).more b3.size)))
    | (at_builtin; refine wpList_append_src_wide _ rfl (.tmp 37) (.tmp 38) 22 rfl w3.heap.size 5 i0 (.int .u8 0) 1 1 Try.underlying22 hi hz0 hz1 hz2 rfl (by decide) (.slice (some ⟨w3.heap.size, 0, none⟩) 0 0) 0 [] rfl (own_new w3) _ A2 m c2 bs rfl (l3.out.alloc (Nat.le_refl _) _) (by rw [HM.out, Nat.mul_one]) (bytes8_one H8.out) (by simp only [maxLen]; omega) (by omega) (by simp) ?_; intro v1 w4 own1 hg1; rw [Nat.zero_add, List.nil_append] at own1; have b4 : Below w3.heap.size w3 w4 := ((Below.refl _ _).alloc (Nat.le_refl _) _).grown hg1 (by simp) (fun b hb => by simp [Value.ownBlock] at hb; omega); have B4 := B3.trans (b4.mono B3.size))
    | (at_builtin; refine wpList_append_src_wide _ rfl (.tmp 39) (.tmp 40) 22 rfl w3.heap.size 5 i0 (.int .u8 0) 1 1 Try.underlying22 hi hz0 hz1 hz2 rfl (by decide) v1 m bs rfl own1 _ A1 E1.length c1 E1 rfl (HL1.out.below B4) (by simp) (bytes8_one HS1.out) (by simp only [maxLen]; omega) (by omega) b4.size ?_; intro v5 w5 own5 hg5; have b35 : Below w3.heap.size w3 w5 := b4.grown hg5 b4.size (fun b hb => own_lowI own1 b (by simp [blk, hb])); have B5 := B3.trans (b35.mono B3.size); obtain ⟨A5, c5, rfl, l5, hc5⟩ := own_lists own5; have HL5 := Lib.hid l5; clear l5)
    | (go_at_call 8; ((with_reducible refine (C4 A5 c5 _ HL5.out hc5).mono ?_); rintro e w6 ⟨p, rfl, X6, b6⟩; have B6 := B5.trans (b6.mono B5.size)))
    | (go_at_call 10; ((with_reducible refine (C5 p w6 X6 ((HR.out.below B6).more B6.size)).mono ?_); rintro e w7 ⟨rfl, b7⟩; have B7 := B6.trans (b7.mono B6.size))))
  go_ret
  exact ⟨rfl, B7⟩
theorem walk (A0 : Option Addr) (c0 : Nat) (Ls : List (List Value)) (hl : RowsAt W W.heap.size A0 Ls) (hm : ∀ L ∈ Ls, L.length ≤ 140737488351232 ∧ Bytes8 L) (hn : Ls.length ≤ 9223372036854775807) (A1 : Option Addr) (c1 : Nat) (E1 : List Value) (k1 : E1.length ≤ c1) (_ : c1 ≤ 9223372036854775807) (l1 : Lists W W.heap.size A1 E1) (s1 : Bytes8 E1) (t1 : E1.length ≤ 140737488351232) (a2 : Int) (_ : (Lit.int .i64 a2).wf = true) :
    Calls Try.prog 5 #[.slice A0 Ls.length c0, .slice A1 E1.length c1, .int .i64 a2] W fun e w' => e = .returned (.bool true) ∧ Below W.heap.size W w' := by
  have CL := fun V (hV : V = W) => large_any W.heap.size A0 c0 Ls V (by rw [hV]; exact Nat.le_refl _) (by rw [hV]; exact hl) (fun L hL => Nat.le_trans (hm L hL).1 (by decide)) hn _ rfl
  rcases Nat.lt_or_ge 3000 Ls.length with hbig | h3
  · exact walk_big A0 c0 _ _ _ _ (CL W rfl) (.inr hbig)
  cases hb : bigI Ls
  · rw [hb] at CL
    obtain ⟨h1, h2, h4⟩ := bigI_no hb
    have h8 : ∀ L ∈ Ls, Bytes8 L := fun L hL => (hm L hL).2
    have CP := put_any A0 c0 Ls W hl h8 (by omega) (fun _ => by omega)
    cases hok : okIx Ls
    · exact walk_no A0 c0 Ls.length _ _ h3 CL (CP.mono fun e w' h => h.2 hok)
    · obtain ⟨os, D, hd, hL⟩ := ld_put Ls E1 hok
      have hbl : (putIx Ls).length ≤ 1048576 := by
        unfold okIx at hok
        simp only [Bool.and_eq_true, decide_eq_true_eq] at hok
        exact hok.2
      exact walk_yes A0 c0 Ls.length Ls hl rfl A1 c1 E1 (putIx Ls) k1 l1 s1 t1 (putIx_bytes Ls h8) hbl a2 h3 os D hd hL CL (CP.mono fun e w' h => by
        obtain ⟨A, c, h1, h2, _, _, h3⟩ := gave_outI (h.1 hok) rfl
        exact ⟨A, c, h1, h2, h3⟩)
  · rw [hb] at CL
    exact walk_big A0 c0 _ _ _ _ (CL W rfl) (.inl rfl)

set_option linter.unusedVariables false in
set_option maxRecDepth 100000 in
theorem lifted (os : Os) (started : os.Started) (H : Type) (enc : TypeId × Value → H) :
    ReturnsInHanded {} Try.checked os 5 .any (Rows.indexBackSpec.pre6 enc Try.prog Try.f5 Rows.indexBackRow.domain false) (Rows.indexBackSpec.post enc Try.prog Try.f5 false true false false) := by
  refine returnsInHanded_of_change_sized (C := Try.checked) Try.own started (by kernel_rfl) Try.func5
    (ChangeSpec.witness6 (enc := enc) (C := Try.checked) false ⟨#[], #[.slice none 0 0, .slice none 0 0, .int .i64 0], []⟩ 8 (by kernel_rfl) (by kernel_rfl) (by kernel_rfl) (by kernel_rfl)) ?_
  intro W base args ds gs before hval0 hW hcnd hsz0 _
  have hsz : (DataW.weightsEach Try.prog (Try.f5.params.toList ++ Rows.indexBackSpec.plain.varTypes Try.prog) (ds ++ gs)).all (· ≤ reachBytes) = true := hsz0
  have hval : ∀ (j : Nat) t v, Try.f5.params[j]? = some t → args[j]? = some v → Value.okWide Try.prog W .any base t v := hval0
  have hW' := hW
  obtain ⟨p, q, hA0, hV, rfl, hfz, hnd⟩ := hW
  have hA : DataW.TrodAll enc Try.prog W 0 (fun _ => true) true Try.f5.params.toList args.toList ds p := hA0
  rw [Try.params5] at hA hval hsz
  obtain ⟨v0, vs0, d0, ds0, p0, q0, hargs, rfl, rfl, h0, r0⟩ := trodAll_cons hA
  obtain ⟨v1, vs1, d1, ds1, p1, q1, rfl, rfl, rfl, h1, r1⟩ := trodAll_cons r0
  obtain ⟨v2, vs2, d2, ds2, p2, q2, rfl, rfl, rfl, h2, r2⟩ := trodAll_cons r1
  obtain ⟨rfl, rfl, rfl⟩ := trodAll_nil r2
  obtain rfl : args = #[v0, v1, v2] := by cases args; simp_all
  obtain ⟨rfl, rfl⟩ := trodVars_none hV
  have hz0 : ∀ m ∈ d0.weights Try.prog 28, m ≤ reachBytes := fun m hm => of_decide_eq_true (List.all_eq_true.1 hsz m (DataW.weights_mem_each (j := 0) rfl rfl m hm))
  obtain ⟨A0, c0, L0, rfl, k0, m0, n0⟩ := open_rows Try.underlying28 Try.underlying22 (by kernel_rfl) Try.underlying5 (by kernel_rfl) (by kernel_rfl) (hval 0 28 v0 rfl rfl) h0 hz0
  have hz1 : ∀ m ∈ d1.weights Try.prog 22, m ≤ reachBytes := fun m hm => of_decide_eq_true (List.all_eq_true.1 hsz m (DataW.weights_mem_each (j := 1) rfl rfl m hm))
  obtain ⟨A1, c1, E1, rfl, k1, m1, l1, s1, t1⟩ := open_less Try.underlying22 Try.underlying5 (by kernel_rfl) (by kernel_rfl) (hval 1 22 v1 rfl rfl) h1 hz1
  obtain ⟨a2, rfl, rfl, rfl, w2⟩ := open_int Try.underlying3 (hval 2 3 v2 rfl rfl) h2
  clear hA0 hval0
  simp only [List.append_nil] at hW'
  refine (walk (W := W) A0 c0 L0 k0 m0 n0 A1 c1 E1 k1 m1 l1 s1 t1 a2 w2).mono fun e W' ⟨he, hg⟩ => ?_
  subst he
  exact ⟨_, rfl, law_post Try.laidOut rfl Try.underlying4 (by kernel_rfl) rfl rfl rfl rfl hW' hg⟩

theorem over : Rows.indexBackRow.holds Try.pinned (OpenSpec.ofChange Rows.indexBackSpec) :=
  OpenClaim.holds_of_wide 5 Try.f5 rfl rfl rfl rfl rfl rfl rfl ⟨rfl, rfl, rfl, rfl, rfl⟩ rfl rfl rfl rfl rfl (by kernel_rfl) Try.func5 (by kernel_rfl)
    (of_decide_eq_true (by kernel_rfl)) (by unfold Func.isWrapper; first | (rw [if_pos (by decide +kernel)]; kernel_rfl) | (rw [if_neg (by decide +kernel)]; exact ⟨rfl, rfl⟩))
    (fun os started H enc _ => lifted os started H enc)

theorem proved : Rows.IndexBackSaid :=
  over

end Go.Proofs.Ytpaenjalpcdamaa.indexBack
