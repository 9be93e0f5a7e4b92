/- OutlineExplicits: any outline, made explicit; what is so already stays as it is; no condition but what the row prints. -/
import Derived.Test.YtjpffakhhfcgaaaCOut9

namespace Go.Proofs.Ytjpffakhhfcgaaa.outlineExplicits
open Go.ChangeShapes Go.WideShapes Go.ChangeAt Go.RowKit

variable {W : World}
theorem sm_ex {Ls : List (List Pt)} (h : bigB Ls = false) : Sm (Ls.map exE) := by
  have hs := sm_of h
  obtain ⟨h1, h2⟩ := big_no h
  refine ⟨by rw [List.length_map]; omega, fun E hE => ?_⟩
  obtain ⟨L, hL, rfl⟩ := List.mem_map.1 hE
  have h3 : L.length ≤ cntO Ls := by
    obtain ⟨i, hi⟩ := List.mem_iff_getElem?.1 hL
    have e1 := cntO_take Ls (i + 1)
    rw [take_snoc1 hi, cntO_snoc] at e1
    omega
  have := exK_len L L.length
  unfold exE
  omega
theorem map_rex {Ls : List (List Pt)} (h : ∀ L ∈ Ls, mayC L = true) : Ls.map rexE = Ls.map exE := List.map_congr_left fun L hL => (ex_rex (h L hL)).symm
theorem map_stays {Ls : List (List Pt)} (h : ∀ L ∈ Ls, mayC L = true) : (Ls.map exE).map exE = Ls.map exE := by
  rw [List.map_map]
  exact List.map_congr_left fun L hL => ex_stays (h L hL)
set_option maxRecDepth 100000 in
set_option maxHeartbeats 4000000 in
theorem walk (A : Option Addr) (c : Nat) (Ls : List (List Pt)) (h : OutAt W W.heap.size A Ls) (hm : ∀ L ∈ Ls, L.length ≤ 17592186044416) (hn : Ls.length ≤ 9223372036854775807) (W' : World) (hW : W' = W) :
    Calls Try.prog 4 #[.slice A Ls.length c] W' fun e w' => e = .returned (.bool true) ∧ Below W'.heap.size W' w' := by
  subst hW
  cases hb : bigB Ls
  · have hs := (sm_of hb).sm
    have hx := sm_ex hb
    have CL := large_any W'.heap.size A c Ls W' (Nat.le_refl _) h hm hn false hb
    have CK := fun w1 (b1 : Below W'.heap.size W' w1) => rcheck_any W'.heap.size A c Ls w1 b1.size (h.below b1) hs
    have CC := fun w1 (b1 : Below W'.heap.size W' w1) => (lcopied_any W'.heap.size A c Ls w1 b1.size (h.below b1) hs).mono fun _ _ k => gave (n := Ls.length) rfl k
    have CX := fun (w1 : World) A c (o : OutAt w1 w1.heap.size A Ls) => explicits_any w1.heap.size A c Ls w1 (Nat.le_refl _) o hs
    rw [chk_same] at CK
    by_cases hc : chkE Ls = 0
    · have hmay := (chk_zero hc).2.2
      have CE : ∀ (w1 : World) A c, OutAt w1 w1.heap.size A Ls → Calls Try.prog 16 #[.slice A Ls.length c] w1 fun e w' => ∃ A3 c3, e = .returned (.tuple #[.slice A3 Ls.length c3, .int .i64 0]) ∧ OutAt w' w'.heap.size A3 (Ls.map exE) ∧ Below w1.heap.size w1 w' := fun w1 A c o => (CX w1 A c o).mono fun _ _ k => by
        obtain ⟨v, k1, k2, k3⟩ := k.2 hc
        obtain ⟨A5, c5, rfl, o5⟩ := k2.out
        rw [List.length_map] at k1
        exact ⟨A5, c5, k1, o5, k3⟩
      have CR := fun w1 (b1 : Below W'.heap.size W' w1) => (rexplicits_any W'.heap.size A c Ls w1 b1.size (h.below b1) hs hmay).mono fun _ _ k => gave (n := Ls.length) (List.length_map _) k
      rw [map_rex hmay] at CR
      have CS := fun (w1 : World) A c A2 c2 (o : OutAt w1 w1.heap.size A (Ls.map exE)) (o2 : OutAt w1 w1.heap.size A2 (Ls.map exE)) => rsame_any w1.heap.size A A2 c c2 (Ls.map exE) (Ls.map exE) w1 (Nat.le_refl _) o o2 hx hx true (by simp)
      have CW := fun (w1 : World) A c (o : OutAt w1 w1.heap.size A (Ls.map exE)) => rcheck_any w1.heap.size A c (Ls.map exE) w1 (Nat.le_refl _) o hx
      have CCW := fun (w1 : World) A c (o : OutAt w1 w1.heap.size A (Ls.map exE)) => (lcopied_any w1.heap.size A c (Ls.map exE) w1 (Nat.le_refl _) o hx).mono fun _ _ k => gave (n := Ls.length) (List.length_map _) k
      have CXW := fun (w1 : World) A c (o : OutAt w1 w1.heap.size A (Ls.map exE)) => explicits_any w1.heap.size A c (Ls.map exE) w1 (Nat.le_refl _) o hx
      rw [chk_same] at CW
      rw [hc] at CK
      simp only [List.length_map] at CS CW CCW CXW
      by_cases hy : chkE (Ls.map exE) = 0
      · have CEW : ∀ (w1 : World) A c, OutAt w1 w1.heap.size A (Ls.map exE) → Calls Try.prog 16 #[.slice A Ls.length c] w1 fun e w' => ∃ A3 c3, e = .returned (.tuple #[.slice A3 Ls.length c3, .int .i64 0]) ∧ OutAt w' w'.heap.size A3 (Ls.map exE) ∧ Below w1.heap.size w1 w' := fun w1 A c o => (CXW w1 A c o).mono fun _ _ k => by
          obtain ⟨v, k1, k2, k3⟩ := k.2 hy
          rw [map_stays hmay] at k2
          obtain ⟨A5, c5, rfl, o5⟩ := k2.out
          rw [List.length_map] at k1
          exact ⟨A5, c5, k1, o5, k3⟩
        rw [hy] at CW
        clear h hm hs hx hc hb hmay CX CXW hy
        generalize Ls.map exE = Es at *
        obtain ⟨n, hnn⟩ : ∃ n, n = Ls.length := ⟨_, rfl⟩
        rw [← hnn] at CL CK CC CE CR CS CW CCW CEW ⊢
        clear hnn
        go_enter Try.func4, Try.ntmps4
        go_wp2_with (first
    | (go_at_call 7; ((with_reducible refine (CL).mono ?_); rintro e w1 ⟨rfl, B1⟩))
    | (go_at_call 11; ((with_reducible refine (CC _ B1).mono ?_); rintro e w2 ⟨A2, c2, rfl, o2, b2⟩; have B2 := B1.trans (b2.mono B1.size)))
    | (go_at_call 16; ((with_reducible refine (CE _ _ _ o2).mono ?_); rintro e w3 ⟨A3, c3, rfl, o3, b3⟩; have B3 := B2.trans (b3.mono B2.size)))
    | (go_at_call 8; ((with_reducible refine (lives10 _).mono ?_); rintro e w4 ⟨rfl, b4⟩; have B4 := B3.trans (b4.mono B3.size); have o3 := up o3 b4))
    | (go_at_call 9; ((with_reducible refine (CK _ B4).mono ?_); rintro e w5 ⟨rfl, b5⟩; have B5 := B4.trans (b5.mono B4.size); have o3 := up o3 b5))
    | (go_at_call 17; ((with_reducible refine (CR _ B5).mono ?_); rintro e w6 ⟨A6, c6, rfl, o6, b6⟩; have B6 := B5.trans (b6.mono B5.size); have o3 := up o3 b6))
    | (go_at_call 18; ((with_reducible refine (CS _ _ _ _ _ o3 o6).mono ?_); rintro e w7 ⟨rfl, b7⟩; have B7 := B6.trans (b7.mono B6.size); have o6 := up o6 b7))
    | (go_at_call 9; ((with_reducible refine (CW _ _ _ o6).mono ?_); rintro e w8 ⟨rfl, b8⟩; have B8 := B7.trans (b8.mono B7.size); have o6 := up o6 b8))
    | (go_at_call 11; ((with_reducible refine (CCW _ _ _ o6).mono ?_); rintro e w9 ⟨A9, c9, rfl, o9, b9⟩; have B9 := B8.trans (b9.mono B8.size); have o6 := up o6 b9))
    | (go_at_call 16; ((with_reducible refine (CEW _ _ _ o9).mono ?_); rintro e w10 ⟨A10, c10, rfl, o10, b10⟩; have B10 := B9.trans (b10.mono B9.size); have o6 := up o6 b10))
    | (go_at_call 18; ((with_reducible refine (CS _ _ _ _ _ o10 o6).mono ?_); rintro e w11 ⟨rfl, b11⟩; have B11 := B10.trans (b11.mono B10.size))))
        go_ret
        exact ⟨rfl, B10.trans (b11.mono B10.size)⟩
      · clear h hm hs hx hc hb hmay CX CXW
        generalize Ls.map exE = Es at *
        obtain ⟨n, hnn⟩ : ∃ n, n = Ls.length := ⟨_, rfl⟩
        rw [← hnn] at CL CK CC CE CR CS CW CCW ⊢
        clear hnn
        generalize chkE Es = y at *
        have d3 : (y == 0) = false := by simpa using hy
        have d4 : (y != 0) = true := by simpa using hy
        go_enter Try.func4, Try.ntmps4
        go_wp2_with (first
    | (go_at_call 7; ((with_reducible refine (CL).mono ?_); rintro e w1 ⟨rfl, B1⟩))
    | (go_at_call 11; ((with_reducible refine (CC _ B1).mono ?_); rintro e w2 ⟨A2, c2, rfl, o2, b2⟩; have B2 := B1.trans (b2.mono B1.size)))
    | (go_at_call 16; ((with_reducible refine (CE _ _ _ o2).mono ?_); rintro e w3 ⟨A3, c3, rfl, o3, b3⟩; have B3 := B2.trans (b3.mono B2.size)))
    | (go_at_call 8; ((with_reducible refine (lives10 _).mono ?_); rintro e w4 ⟨rfl, b4⟩; have B4 := B3.trans (b4.mono B3.size); have o3 := up o3 b4))
    | (go_at_call 9; ((with_reducible refine (CK _ B4).mono ?_); rintro e w5 ⟨rfl, b5⟩; have B5 := B4.trans (b5.mono B4.size); have o3 := up o3 b5))
    | (go_at_call 17; ((with_reducible refine (CR _ B5).mono ?_); rintro e w6 ⟨A6, c6, rfl, o6, b6⟩; have B6 := B5.trans (b6.mono B5.size); have o3 := up o3 b6))
    | (go_at_call 18; ((with_reducible refine (CS _ _ _ _ _ o3 o6).mono ?_); rintro e w7 ⟨rfl, b7⟩; have B7 := B6.trans (b7.mono B6.size); have o6 := up o6 b7))
    | (go_at_call 9; ((with_reducible refine (CW _ _ _ o6).mono ?_); rintro e w8 ⟨rfl, b8⟩; have B8 := B7.trans (b8.mono B7.size); have o6 := up o6 b8)))
        go_ret
        exact ⟨rfl, B8⟩
    · have CE : ∀ (w1 : World) A c, OutAt w1 w1.heap.size A Ls → Calls Try.prog 16 #[.slice A Ls.length c] w1 fun e w' => e = .returned (.tuple #[.slice none 0 0, .int .i64 (chkE Ls)]) ∧ Below w1.heap.size w1 w' := fun w1 A c o => (CX w1 A c o).mono fun _ _ k => k.1 hc
      clear h hm hs hx hb CX
      obtain ⟨n, hnn⟩ : ∃ n, n = Ls.length := ⟨_, rfl⟩
      rw [← hnn] at CL CK CC CE ⊢
      clear hnn
      generalize chkE Ls = x at *
      have d3 : (x == 0) = false := by simpa using hc
      have d4 : (x != 0) = true := by simpa using hc
      have d5 : (x == x) = true := by simp
      go_enter Try.func4, Try.ntmps4
      go_wp2_with (first
    | (go_at_call 7; ((with_reducible refine (CL).mono ?_); rintro e w1 ⟨rfl, B1⟩))
    | (go_at_call 11; ((with_reducible refine (CC _ B1).mono ?_); rintro e w2 ⟨A2, c2, rfl, o2, b2⟩; have B2 := B1.trans (b2.mono B1.size)))
    | (go_at_call 16; ((with_reducible refine (CE _ _ _ o2).mono ?_); rintro e w3 ⟨rfl, b3⟩; have B3 := B2.trans (b3.mono B2.size)))
    | (go_at_call 8; ((with_reducible refine (lives10 _).mono ?_); rintro e w4 ⟨rfl, b4⟩; have B4 := B3.trans (b4.mono B3.size)))
    | (go_at_call 9; ((with_reducible refine (CK _ B4).mono ?_); rintro e w5 ⟨rfl, b5⟩; have B5 := B4.trans (b5.mono B4.size))))
      go_ret
      exact ⟨rfl, B5⟩
  · have CL := large_any W'.heap.size A c Ls W' (Nat.le_refl _) h hm hn true hb
    clear h hm hb
    obtain ⟨n, hnn⟩ : ∃ n, n = Ls.length := ⟨_, rfl⟩
    rw [← hnn] at CL ⊢
    clear hnn
    go_enter Try.func4, Try.ntmps4
    go_wp2_with (first | (go_at_call 7; ((with_reducible refine (CL).mono ?_); rintro e w1 ⟨rfl, B1⟩)) | (go_at_call 8; ((with_reducible refine (lives10 _).mono ?_); rintro e w2 ⟨rfl, b2⟩)))
    go_ret
    exact ⟨rfl, B1.trans (b2.mono B1.size)⟩

set_option linter.unusedVariables false in
set_option maxRecDepth 100000 in
theorem lifted (os : Os) (started : os.Started) (H : Type) (enc : TypeId × Value → H) :
    ReturnsInHanded {} Try.checked os 4 .any (Rows.outlineExplicitsSpec.pre6 enc Try.prog Try.f4 Rows.outlineExplicitsRow.domain false) (Rows.outlineExplicitsSpec.post enc Try.prog Try.f4 false true false false) := by
  refine returnsInHanded_of_change_sized (C := Try.checked) Try.own started (by kernel_rfl) Try.func4
    (ChangeSpec.witness6 (enc := enc) (C := Try.checked) false ⟨#[], #[.slice none 0 0], []⟩ 8 (by kernel_rfl) (by kernel_rfl) (by kernel_rfl) (by kernel_rfl)) ?_
  intro W base args ds gs before hval0 hW hcnd hsz0 _
  have hsz : (DataW.weightsEach Try.prog (Try.f4.params.toList ++ Rows.outlineExplicitsSpec.plain.varTypes Try.prog) (ds ++ gs)).all (· ≤ reachBytes) = true := hsz0
  have hval : ∀ (j : Nat) t v, Try.f4.params[j]? = some t → args[j]? = some v → Value.okWide Try.prog W .any base t v := hval0
  have hW' := hW
  obtain ⟨p, q, hA0, hV, rfl, hfz, hnd⟩ := hW
  have hA : DataW.TrodAll enc Try.prog W 0 (fun _ => true) true Try.f4.params.toList args.toList ds p := hA0
  rw [Try.params4] at hA hval hsz
  obtain ⟨v0, vs0, d0, ds0, p0, q0, hargs, rfl, rfl, h0, r0⟩ := trodAll_cons hA
  obtain ⟨rfl, rfl, rfl⟩ := trodAll_nil r0
  obtain rfl : args = #[v0] := by cases args; simp_all
  obtain ⟨rfl, rfl⟩ := trodVars_none hV
  have hz0 : ∀ m ∈ d0.weights Try.prog 22, m ≤ reachBytes := fun m hm => of_decide_eq_true (List.all_eq_true.1 hsz m (DataW.weights_mem_each (j := 0) rfl rfl m hm))
  obtain ⟨A0, c0, L0, rfl, k0, m0, n0⟩ := open_outl Try.underlying22 Try.underlying48 (by kernel_rfl) Try.underlying43 (by kernel_rfl) (by kernel_rfl) (by kernel_rfl) Try.underlying3 Try.underlying3 Try.underlying3 (hval 0 22 v0 rfl rfl) h0 hz0
  clear hA0 hval0
  simp only [List.append_nil] at hW'
  refine (walk A0 c0 L0 k0 m0 n0 W rfl).mono fun e W' ⟨he, hg⟩ => ?_
  subst he
  exact ⟨_, rfl, law_post Try.laidOut rfl Try.underlying4 (by kernel_rfl) rfl rfl rfl rfl hW' hg⟩

theorem over : Rows.outlineExplicitsRow.holds Try.pinned (OpenSpec.ofChange Rows.outlineExplicitsSpec) :=
  OpenClaim.holds_of_wide 4 Try.f4 rfl rfl rfl rfl rfl rfl rfl ⟨rfl, rfl, rfl, rfl, rfl⟩ rfl rfl rfl rfl rfl (by kernel_rfl) Try.func4 (by kernel_rfl)
    (of_decide_eq_true (by kernel_rfl)) (by unfold Func.isWrapper; first | (rw [if_pos (by decide +kernel)]; kernel_rfl) | (rw [if_neg (by decide +kernel)]; exact ⟨rfl, rfl⟩))
    (fun os started H enc _ => lifted os started H enc)

theorem proved : Rows.OutlineExplicitsSaid :=
  over

end Go.Proofs.Ytjpffakhhfcgaaa.outlineExplicits
