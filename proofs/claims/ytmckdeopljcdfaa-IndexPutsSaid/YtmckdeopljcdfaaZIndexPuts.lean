/- IndexPuts: the INDEX of any lists; no condition but what the row prints. -/
import Derived.Test.YtmckdeopljcdfaaM6IndexPuts

namespace Go.Proofs.Ytmckdeopljcdfaa.indexPuts
open Go.ChangeShapes Go.WideShapes Go.ChangeAt Go.RowKit
set_option linter.unusedVariables false
set_option linter.unusedSimpArgs false

variable {W : World}
set_option maxRecDepth 100000 in
theorem walk_big (A0 : Option Addr) (c0 n : Nat) (CL : Calls Try.prog 11 #[.slice A0 n c0] W fun e w' => e = .returned (.bool true) ∧ w' = W) : Calls Try.prog 4 #[.slice A0 n c0] W fun e w' => e = .returned (.bool true) ∧ Below W.heap.size W w' := by
  go_enter Try.func4, Try.ntmps4
  go_wp2_with (first | (go_at_call 11; ((with_reducible refine (CL).mono ?_); rintro e w1 ⟨rfl, rfl⟩)) | (go_at_call 7; ((with_reducible refine (lives14 _).mono ?_); rintro e w2 ⟨rfl, b2⟩)))
  go_ret
  exact ⟨rfl, b2⟩
set_option maxRecDepth 100000 in
set_option maxHeartbeats 2000000 in
theorem walk_yes (A0 : Option Addr) (c0 n : Nat) (bs : List Value) (h8 : Bytes8 bs) (CL : ∀ V, V = W → Calls Try.prog 11 #[.slice A0 n c0] V fun e w' => e = .returned (.bool false) ∧ w' = V)
    (CP : Calls Try.prog 12 #[.slice A0 n c0] W fun e w' => ∃ A c, e = .returned (.tuple #[.slice A bs.length c, .int .i64 0]) ∧ Hid (Lists w' w'.heap.size A bs) ∧ Below W.heap.size W w')
    (CR : ∀ V, Below W.heap.size W V → Calls Try.prog 13 #[.slice A0 n c0] V fun e w' => ∃ A c, e = .returned (.tuple #[.slice A bs.length c, .bool true]) ∧ Hid (Lists w' w'.heap.size A bs) ∧ Below V.heap.size V w') :
    Calls Try.prog 4 #[.slice A0 n c0] W fun e w' => e = .returned (.bool true) ∧ Below W.heap.size W w' := by
  have H8 := Lib.hid h8
  clear h8
  go_enter Try.func4, Try.ntmps4
  go_wp2_with (first
    | (go_at_call 11; ((with_reducible refine (CL _ rfl).mono ?_); rintro e w1 ⟨rfl, rfl⟩))
    | (go_at_call 12; ((with_reducible refine (CP).mono ?_); rintro e w2 ⟨A2, c2, rfl, l2, b2⟩))
    | (go_at_call 13; ((with_reducible refine (CR _ b2).mono ?_); rintro e w3 ⟨A3, c3, rfl, l3, b3⟩; have B3 := b2.trans (b3.mono b2.size)))
    | (go_at_call 7; ((with_reducible refine (lives14 _).mono ?_); rintro e w4 ⟨rfl, b4⟩; have B4 := B3.trans (b4.mono B3.size); have b34 := b3.trans (b4.mono b3.size); have q1 := conv_lists (c := c2) ((l2.out.below b34).more b34.size) rfl H8.out; have q2 := conv_lists (c := c3) ((l3.out.below b4).more b4.size) rfl H8.out)))
  go_ret
  exact ⟨rfl, B4⟩
set_option maxRecDepth 100000 in
set_option maxHeartbeats 2000000 in
theorem walk_no (A0 : Option Addr) (c0 n : Nat) (CL : ∀ V, V = W → Calls Try.prog 11 #[.slice A0 n c0] V fun e w' => e = .returned (.bool false) ∧ w' = V)
    (CP : Calls Try.prog 12 #[.slice A0 n c0] W fun e w' => e = .returned (.tuple #[.slice none 0 0, .int .i64 3]) ∧ Below W.heap.size W w')
    (CR : ∀ V, Below W.heap.size W V → Calls Try.prog 13 #[.slice A0 n c0] V fun e w' => e = .returned (.tuple #[.slice none 0 0, .bool false]) ∧ Below V.heap.size V w') :
    Calls Try.prog 4 #[.slice A0 n c0] W fun e w' => e = .returned (.bool true) ∧ Below W.heap.size W w' := by
  have q1 := fun V => conv_lists (w := V) (B := 0) (n := 0) (c := 0) (A := none) (E := []) (Lists.empty _ _ _) rfl (fun u hu => by simp at hu)
  go_enter Try.func4, Try.ntmps4
  go_wp2_with (first
    | (go_at_call 11; ((with_reducible refine (CL _ rfl).mono ?_); rintro e w1 ⟨rfl, rfl⟩))
    | (go_at_call 12; ((with_reducible refine (CP).mono ?_); rintro e w2 ⟨rfl, b2⟩))
    | (go_at_call 13; ((with_reducible refine (CR _ b2).mono ?_); rintro e w3 ⟨rfl, b3⟩; have B3 := b2.trans (b3.mono b2.size)))
    | (go_at_call 7; ((with_reducible refine (lives14 _).mono ?_); rintro e w4 ⟨rfl, b4⟩; have B4 := B3.trans (b4.mono B3.size); have q2 := q1 w4)))
  go_ret
  exact ⟨rfl, B4⟩
theorem walk (A0 : Option Addr) (c0 : Nat) (Ls : List (List Value)) (hl : RowsAt W W.heap.size A0 Ls) (hm : ∀ L ∈ Ls, L.length ≤ 140737488351232 ∧ Bytes8 L) (hn : Ls.length ≤ 9223372036854775807) :
    Calls Try.prog 4 #[.slice A0 Ls.length c0] W fun e w' => e = .returned (.bool true) ∧ Below W.heap.size W w' := by
  have CL := fun V (hV : V = W) => large_any W.heap.size A0 c0 Ls V (by rw [hV]; exact Nat.le_refl _) (by rw [hV]; exact hl) (fun L hL => Nat.le_trans (hm L hL).1 (by decide)) hn _ rfl
  cases hb : bigI Ls
  · rw [hb] at CL
    obtain ⟨h1, h2, h3⟩ := bigI_no hb
    have h8 : ∀ L ∈ Ls, Bytes8 L := fun L hL => (hm L hL).2
    have CP := put_any A0 c0 Ls W hl h8 (by omega) (fun _ => by omega)
    have CR := fun V (hV : Below W.heap.size W V) => rput_all A0 c0 Ls V ((hl.below hV).more hV.size) h8 h1 h3 h2
    cases hok : okIx Ls
    · exact walk_no A0 c0 Ls.length CL (CP.mono fun e w' h => h.2 hok) (fun V hV => (CR V hV).mono fun e w' h => h.2 hok)
    · exact walk_yes A0 c0 Ls.length (putIx Ls) (putIx_bytes Ls h8) CL (CP.mono fun e w' h => by
        obtain ⟨A, c, h1, h2, _, _, h3⟩ := gave_outI (h.1 hok) rfl
        exact ⟨A, c, h1, h2, h3⟩) (fun V hV => (CR V hV).mono fun e w' h => h.1 hok)
  · rw [hb] at CL
    exact walk_big A0 c0 _ (CL W rfl)

set_option linter.unusedVariables false in
set_option maxRecDepth 100000 in
theorem lifted (os : Os) (started : os.Started) (H : Type) (enc : TypeId × Value → H) :
    ReturnsInHanded {} Try.checked os 4 .any (Rows.indexPutsSpec.pre6 enc Try.prog Try.f4 Rows.indexPutsRow.domain false) (Rows.indexPutsSpec.post enc Try.prog Try.f4 false true false false) := by
  refine returnsInHanded_of_change_sized (C := Try.checked) Try.own started (by kernel_rfl) Try.func4
    (ChangeSpec.witness6 (enc := enc) (C := Try.checked) false ⟨#[], #[.slice none 0 0], []⟩ 8 (by kernel_rfl) (by kernel_rfl) (by kernel_rfl) (by kernel_rfl)) ?_
  intro W base args ds gs before hval0 hW hcnd hsz0 _
  have hsz : (DataW.weightsEach Try.prog (Try.f4.params.toList ++ Rows.indexPutsSpec.plain.varTypes Try.prog) (ds ++ gs)).all (· ≤ reachBytes) = true := hsz0
  have hval : ∀ (j : Nat) t v, Try.f4.params[j]? = some t → args[j]? = some v → Value.okWide Try.prog W .any base t v := hval0
  have hW' := hW
  obtain ⟨p, q, hA0, hV, rfl, hfz, hnd⟩ := hW
  have hA : DataW.TrodAll enc Try.prog W 0 (fun _ => true) true Try.f4.params.toList args.toList ds p := hA0
  rw [Try.params4] at hA hval hsz
  obtain ⟨v0, vs0, d0, ds0, p0, q0, hargs, rfl, rfl, h0, r0⟩ := trodAll_cons hA
  obtain ⟨rfl, rfl, rfl⟩ := trodAll_nil r0
  obtain rfl : args = #[v0] := by cases args; simp_all
  obtain ⟨rfl, rfl⟩ := trodVars_none hV
  have hz0 : ∀ m ∈ d0.weights Try.prog 28, m ≤ reachBytes := fun m hm => of_decide_eq_true (List.all_eq_true.1 hsz m (DataW.weights_mem_each (j := 0) rfl rfl m hm))
  obtain ⟨A0, c0, L0, rfl, k0, m0, n0⟩ := open_rows Try.underlying28 Try.underlying22 (by kernel_rfl) Try.underlying5 (by kernel_rfl) (by kernel_rfl) (hval 0 28 v0 rfl rfl) h0 hz0
  clear hA0 hval0
  simp only [List.append_nil] at hW'
  refine (walk (W := W) A0 c0 L0 k0 m0 n0).mono fun e W' ⟨he, hg⟩ => ?_
  subst he
  exact ⟨_, rfl, law_post Try.laidOut rfl Try.underlying4 (by kernel_rfl) rfl rfl rfl rfl hW' hg⟩

theorem over : Rows.indexPutsRow.holds Try.pinned (OpenSpec.ofChange Rows.indexPutsSpec) :=
  OpenClaim.holds_of_wide 4 Try.f4 rfl rfl rfl rfl rfl rfl rfl ⟨rfl, rfl, rfl, rfl, rfl⟩ rfl rfl rfl rfl rfl (by kernel_rfl) Try.func4 (by kernel_rfl)
    (of_decide_eq_true (by kernel_rfl)) (by unfold Func.isWrapper; first | (rw [if_pos (by decide +kernel)]; kernel_rfl) | (rw [if_neg (by decide +kernel)]; exact ⟨rfl, rfl⟩))
    (fun os started H enc _ => lifted os started H enc)

theorem proved : Rows.IndexPutsSaid :=
  over

end Go.Proofs.Ytmckdeopljcdfaa.indexPuts
