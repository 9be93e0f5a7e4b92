/- SimpleEncodes: what any outline's bytes are; no condition but what the row prints. -/
import Derived.Test.YtelhckckcilpaaaM4SimpleEncodes

namespace Go.Proofs.Ytelhckckcilpaaa.simpleEncodes
open Go.ChangeShapes Go.WideShapes Go.ChangeAt Go.RowKit

variable {W : World}
theorem renc_any (A : Option Addr) (c : Nat) (Ls : List (List Pt)) (w : World) (h : OutAt w w.heap.size A Ls) (hs : Sm Ls) : Calls Try.prog 15 #[.slice A Ls.length c] w (RncP w (encS Ls)) := by
  by_cases hc : chkE Ls = 0
  · by_cases hne : Ls = []
    · subst hne
      have := renc_nil A c w h
      rwa [show ((0, []) : Int × List Value) = encS [] by rfl] at this
    · exact renc_ne A c Ls w h hs hc hne
  · have := renc_chk A c Ls w h hs hc
    rwa [show ((chkE Ls, []) : Int × List Value) = encS Ls by unfold encS; rw [if_neg hc]] at this
def RncL (w : World) (bs : List Value) (n : Nat) (r : Int) (e : Ending) (w' : World) : Prop := ∃ A c, e = .returned (.tuple #[.slice A n c, .int .i64 r]) ∧ Hid (Lists w' w'.heap.size A bs) ∧ Below w.heap.size w w'
theorem renc_l (A : Option Addr) (c m : Nat) (Ls : List (List Pt)) (w : World) (h : OutAt w w.heap.size A Ls) (hs : Sm Ls) (hm : Ls.length = m) (bs : List Value) (r : Int) (he : encS Ls = (r, bs)) (n : Nat) (hn : bs.length = n) : Calls Try.prog 15 #[.slice A m c] w (RncL w bs n r) := by
  subst hm hn
  refine (renc_any A c Ls w h hs).mono fun e w' ⟨A', c', h1, h2, h3⟩ => ?_
  rw [he] at h1 h2
  exact ⟨A', c', h1, Lib.hid h2, h3⟩
theorem encS_b8 (Ls : List (List Pt)) : Bytes8 (encS Ls).2 := by
  by_cases hr : (encS Ls).1 = 0
  · rcases encS_cases Ls hr with ⟨h1, h2⟩ | ⟨X, Y, _, _, _, _, _, h2⟩
    · rw [h2]; intro u hu; simp at hu
    · rw [h2]; exact b8_spB Ls X Y
  · rw [encS_bad Ls hr]; intro u hu; simp at hu
set_option maxRecDepth 100000 in
theorem walk_big (A0 : Option Addr) (c0 : Nat) (L0 : List (List Pt)) (h : OutAt W W.heap.size A0 L0) (hm : ∀ L ∈ L0, L.length ≤ 17592186044416) (hn : L0.length ≤ 9223372036854775807) (hb : bigB L0 = true) : Calls Try.prog 4 #[.slice A0 L0.length c0] W fun e w' => e = .returned (.bool true) ∧ Below W.heap.size W w' := by
  have CL := splarge_any W.heap.size A0 c0 L0 W (Nat.le_refl _) h hm hn true hb
  generalize L0.length = n at *
  clear h hm hb
  go_enter Try.func4, Try.ntmps4
  go_wp2_with (first | (go_at_call 13; ((with_reducible refine (CL).mono ?_); rintro e w1 ⟨rfl, B1⟩)) | (go_at_call 9; ((with_reducible refine (lives11 _).mono ?_); rintro e w2 ⟨rfl, b2⟩)))
  go_ret
  exact ⟨rfl, B1.trans (b2.mono B1.size)⟩

set_option maxRecDepth 100000 in
set_option maxHeartbeats 2000000 in
theorem walk (A0 : Option Addr) (c0 : Nat) (L0 : List (List Pt)) (h : OutAt W W.heap.size A0 L0) (hm : ∀ L ∈ L0, L.length ≤ 17592186044416) (hn : L0.length ≤ 9223372036854775807) :
    Calls Try.prog 4 #[.slice A0 L0.length c0] W fun e w' => e = .returned (.bool true) ∧ Below W.heap.size W w' := by
  cases hb : bigB L0
  case true => exact walk_big A0 c0 L0 h hm hn hb
  have CL := splarge_any W.heap.size A0 c0 L0 W (Nat.le_refl _) h hm hn false hb
  have hs := spsm_of hb
  have h8 := encS_b8 L0
  obtain ⟨⟨r, bs⟩, he⟩ : ∃ q, encS L0 = q := ⟨_, rfl⟩
  rw [he] at h8
  dsimp only at h8
  obtain ⟨n, hnn⟩ : ∃ n, L0.length = n := ⟨_, rfl⟩
  obtain ⟨m, hmm⟩ : ∃ m, bs.length = m := ⟨_, rfl⟩
  have CE := fun w1 (b1 : Below W.heap.size W w1) => spenc_l A0 c0 n L0 w1 (tup h b1) hs hnn bs r he m hmm
  have CR := fun w1 (b1 : Below W.heap.size W w1) => renc_l A0 c0 n L0 w1 (tup h b1) hs hnn bs r he m hmm
  rw [hnn] at CL hn ⊢
  have HM := Lib.hid hmm
  have H8 := Lib.hid h8
  have dr : (r == r) = true := by simp
  clear h hm hb he hnn hmm hs h8
  go_enter Try.func4, Try.ntmps4
  go_wp2_with (first
    | (go_at_call 13; ((with_reducible refine (CL).mono ?_); rintro e w1 ⟨rfl, B1⟩))
    | (go_at_call 14; ((with_reducible refine (CE _ B1).mono ?_); rintro e w2 ⟨A2, c2, rfl, l2, hc2, hm2, b2⟩; have B2 := B1.trans (b2.mono B1.size)))
    | (go_at_call 15; ((with_reducible refine (CR _ B2).mono ?_); rintro e w3 ⟨A3, c3, rfl, l3, b3⟩; have B3 := B2.trans (b3.mono B2.size); have l2 := Lib.hid (lup l2.out b3)))
    | (go_at_call 9; ((with_reducible refine (lives11 w3).mono ?_); rintro e w4 ⟨rfl, b4⟩; have B4 := B3.trans (b4.mono B3.size); have q1 := conv_lists (c := c2) (lup l2.out b4) HM.out H8.out; have q2 := conv_lists (c := c3) (lup l3.out b4) HM.out H8.out)))
  go_ret
  exact ⟨rfl, B4⟩

set_option linter.unusedVariables false in
set_option maxRecDepth 100000 in
theorem lifted (os : Os) (started : os.Started) (H : Type) (enc : TypeId × Value → H) :
    ReturnsInHanded {} Try.checked os 4 .any (Rows.simpleEncodesSpec.pre6 enc Try.prog Try.f4 Rows.simpleEncodesRow.domain false) (Rows.simpleEncodesSpec.post enc Try.prog Try.f4 false true false false) := by
  refine returnsInHanded_of_change_sized (C := Try.checked) Try.own started (by kernel_rfl) Try.func4
    (ChangeSpec.witness6 (enc := enc) (C := Try.checked) false ⟨#[], #[.slice none 0 0], []⟩ 8 (by kernel_rfl) (by kernel_rfl) (by kernel_rfl) (by kernel_rfl)) ?_
  intro W base args ds gs before hval0 hW hcnd hsz0 _
  have hsz : (DataW.weightsEach Try.prog (Try.f4.params.toList ++ Rows.simpleEncodesSpec.plain.varTypes Try.prog) (ds ++ gs)).all (· ≤ reachBytes) = true := hsz0
  have hval : ∀ (j : Nat) t v, Try.f4.params[j]? = some t → args[j]? = some v → Value.okWide Try.prog W .any base t v := hval0
  have hW' := hW
  obtain ⟨p, q, hA0, hV, rfl, hfz, hnd⟩ := hW
  have hA : DataW.TrodAll enc Try.prog W 0 (fun _ => true) true Try.f4.params.toList args.toList ds p := hA0
  rw [Try.params4] at hA hval hsz
  obtain ⟨v0, vs0, d0, ds0, p0, q0, hargs, rfl, rfl, h0, r0⟩ := trodAll_cons hA
  obtain ⟨rfl, rfl, rfl⟩ := trodAll_nil r0
  obtain rfl : args = #[v0] := by cases args; simp_all
  obtain ⟨rfl, rfl⟩ := trodVars_none hV
  have hz0 : ∀ m ∈ d0.weights Try.prog 23, m ≤ reachBytes := fun m hm => of_decide_eq_true (List.all_eq_true.1 hsz m (DataW.weights_mem_each (j := 0) rfl rfl m hm))
  obtain ⟨A0, c0, L0, rfl, k0, m0, n0⟩ := open_outl Try.underlying23 Try.underlying43 (by kernel_rfl) Try.underlying57 (by kernel_rfl) (by kernel_rfl) (by kernel_rfl) Try.underlying3 Try.underlying3 Try.underlying3 (hval 0 23 v0 rfl rfl) h0 hz0
  clear hA0 hval0
  simp only [List.append_nil] at hW'
  refine (walk (W := W) A0 c0 L0 k0 m0 n0).mono fun e W' ⟨he, hg⟩ => ?_
  subst he
  exact ⟨_, rfl, law_post Try.laidOut rfl Try.underlying4 (by kernel_rfl) rfl rfl rfl rfl hW' hg⟩

theorem over : Rows.simpleEncodesRow.holds Try.pinned (OpenSpec.ofChange Rows.simpleEncodesSpec) :=
  OpenClaim.holds_of_wide 4 Try.f4 rfl rfl rfl rfl rfl rfl rfl ⟨rfl, rfl, rfl, rfl, rfl⟩ rfl rfl rfl rfl rfl (by kernel_rfl) Try.func4 (by kernel_rfl)
    (of_decide_eq_true (by kernel_rfl)) (by unfold Func.isWrapper; first | (rw [if_pos (by decide +kernel)]; kernel_rfl) | (rw [if_neg (by decide +kernel)]; exact ⟨rfl, rfl⟩))
    (fun os started H enc _ => lifted os started H enc)

theorem proved : Rows.SimpleEncodesSaid :=
  over

end Go.Proofs.Ytelhckckcilpaaa.simpleEncodes
