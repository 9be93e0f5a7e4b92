/- DictPuts: the DICT of any entries; the table of the texts of half bytes is tied to the text; no condition but what the card prints. -/
import Derived.Test.YthoocoaalbeopaaDoorCards
import Derived.Test.YthoocoaalbeopaaDoorTie
import Derived.SevenTiedAt
import Derived.Test.YthoocoaalbeopaaDoorCDc10

namespace Go.Proofs.YthoocoaalbeopaaDoor.dictPuts
open Go.ChangeShapes Go.WideShapes Go.ChangeAt Go.RowKit Go.Shelf
set_option linter.unusedVariables false
set_option linter.unusedSimpArgs false

variable {W : World}
set_option maxRecDepth 100000 in
theorem walk_big (hG : GD W) (A0 : Option Addr) (c0 n : Nat) (Es : List Ent) (hn : Es.length = n) (l0 : EntAt W W.heap.size A0 Es) (h : bigD Es = true) (hnn : n ≤ 9223372036854775807) (hs : ∀ q ∈ Es, q.2.length ≤ 17592186044416) :
    Calls Tryd.prog 4 #[.slice A0 n c0] W fun e w' => e = .returned (.bool true) ∧ Below W.heap.size W w' := by
  have CL := large_any A0 c0 n Es W l0 hn hnn hs
  rw [h] at CL
  have CL := CL.mono fun e w' h => And.intro h.1 h.2.symm
  have HG := Lib.hid hG
  have B0 := Below.refl W.heap.size W
  clear hn l0 h hs hG
  go_enter Tryd.func4, Tryd.ntmps4
  go_wp2_with (first | (go_at_call 13; ((with_reducible refine (CL).mono ?_); rintro e w1 ⟨rfl, rfl⟩)) | (go_at_call 8; ((with_reducible refine (lives15 _ HG.out).mono ?_); rintro e w2 ⟨rfl, b2⟩; have B2 := B0.trans (b2.mono B0.size))))
  exact bodyPost_ret (results_tmp rfl _ _ _) rfl ⟨rfl, B2⟩
set_option maxRecDepth 100000 in
theorem walk_bad (hG : GD W) (A0 : Option Addr) (c0 n : Nat) (Es : List Ent) (hn : Es.length = n) (l0 : EntAt W W.heap.size A0 Es) (h : bigD Es = false) (hr : Es.all mayQ = false) :
    Calls Tryd.prog 4 #[.slice A0 n c0] W fun e w' => e = .returned (.bool true) ∧ Below W.heap.size W w' := by
  obtain ⟨hb1, hb2⟩ := big_noD h
  have CL := large_any A0 c0 n Es W l0 hn (by omega) (fun q hq => by have := hb2 q hq; omega)
  rw [h] at CL
  have CL := CL.mono fun e w' h => And.intro h.1 h.2.symm
  have C1 := dput_bad A0 c0 n Es W l0 hn (by omega) (fun q hq => by have := hb2 q hq; omega) hr
  have C2 : ∀ V, Below W.heap.size W V → Calls Tryd.prog 15 #[.slice A0 n c0] V fun e w' => e = .returned (.bool false) ∧ w' = V := fun V hb => by
    have := rmay15 A0 c0 n Es V ((l0.below hb).more hb.size) hn (by omega) (fun q hq => by have := hb2 q hq; omega)
    rwa [hr] at this
  have HG := Lib.hid hG
  clear hn l0 h hb1 hb2 hG hr
  go_enter Tryd.func4, Tryd.ntmps4
  go_wp2_with (first | (go_at_call 13; ((with_reducible refine (CL).mono ?_); rintro e w1 ⟨rfl, rfl⟩)) | (go_at_call 14; ((with_reducible refine (C1).mono ?_); rintro e w2 ⟨rfl, B2⟩)) | (go_at_call 8; ((with_reducible refine (lives15 _ (HG.out.below B2)).mono ?_); rintro e w3 ⟨rfl, b3⟩; have B3 := B2.trans (b3.mono B2.size))) | (go_at_call 15; ((with_reducible refine (C2 _ B3).mono ?_); rintro e w4 ⟨rfl, rfl⟩)))
  exact bodyPost_ret (results_tmp rfl _ _ _) rfl ⟨rfl, B3⟩
set_option maxRecDepth 100000 in
set_option maxHeartbeats 1000000 in
theorem walk_yes (hG : GD W) (A0 : Option Addr) (c0 n : Nat) (Es : List Ent) (hn : Es.length = n) (l0 : EntAt W W.heap.size A0 Es) (h : bigD Es = false) (hr : Es.all mayQ = true) :
    Calls Tryd.prog 4 #[.slice A0 n c0] W fun e w' => e = .returned (.bool true) ∧ Below W.heap.size W w' := by
  obtain ⟨hb1, hb2⟩ := big_noD h
  have CL := large_any A0 c0 n Es W l0 hn (by omega) (fun q hq => by have := hb2 q hq; omega)
  rw [h] at CL
  have CL := CL.mono fun e w' h => And.intro h.1 h.2.symm
  have hbytes := putE_bytes Es
  have C1 : Calls Tryd.prog 14 #[.slice A0 n c0] W fun e w' => ∃ A c, e = .returned (.tuple #[.slice A (putE Es).length c, .int .i64 0]) ∧ Hid (Lists w' w'.heap.size A (putE Es)) ∧ Below W.heap.size W w' := by
    refine (dput_ok A0 c0 n Es W l0 hn (by omega) (fun q hq => by have := hb2 q hq; omega) hr).mono fun e w' ⟨A, c, k1, k2, k3⟩ => ?_
    obtain ⟨A', c', k4, k5, _⟩ := own_lists k2
    injection k4 with k6 _ k7
    subst k6
    exact ⟨_, _, k1, Lib.hid k5, k3⟩
  have C2 : ∀ V, Below W.heap.size W V → Calls Tryd.prog 15 #[.slice A0 n c0] V fun e w' => e = .returned (.bool true) ∧ w' = V := fun V hb => by
    have := rmay15 A0 c0 n Es V ((l0.below hb).more hb.size) hn (by omega) (fun q hq => by have := hb2 q hq; omega)
    rwa [hr] at this
  have C3 : ∀ V, Below W.heap.size W V → Calls Tryd.prog 16 #[.slice A0 n c0] V (RNum V (putE Es)) := fun V hb => rput15 A0 c0 n Es V ((l0.below hb).more hb.size) hn (by omega) hr
  have HG := Lib.hid hG
  have HC : Hid (∀ (V : World) (A : Option Addr) (m c : Nat), Lists V V.heap.size A (putE Es) → m = (putE Es).length → (∀ dst, Tryd.prog.underlying dst = some .string → (convert 22 dst (.slice A m c)).run Tryd.prog V = .ok (.string ⟨((putE Es).map toU8).toArray⟩) V)) := Lib.hid fun V A m c h e => conv_lists h e.symm hbytes
  generalize (⟨((putE Es).map toU8).toArray⟩ : ByteArray) = S at *
  clear hn l0 h hb1 hb2 hG hr hbytes
  obtain ⟨m, hm⟩ : ∃ m, m = (putE Es).length := ⟨_, rfl⟩
  have HM := Lib.hid hm
  unfold RNum at C3
  rw [← hm] at C1 C3
  clear hm
  generalize putE Es = X at *
  go_enter Tryd.func4, Tryd.ntmps4
  go_wp2_with (first | (go_at_call 13; ((with_reducible refine (CL).mono ?_); rintro e w1 ⟨rfl, rfl⟩)) | (go_at_call 14; ((with_reducible refine (C1).mono ?_); rintro e w2 ⟨A2, c2, rfl, l2, B2⟩)) | (go_at_call 8; ((with_reducible refine (lives15 _ (HG.out.below B2)).mono ?_); rintro e w3 ⟨rfl, b3⟩; have B3 := B2.trans (b3.mono B2.size))) | (go_at_call 15; ((with_reducible refine (C2 _ B3).mono ?_); rintro e w3 ⟨rfl, rfl⟩)))
  have l3 := hlst_up l2 b3
  have HX := Lib.hid (show ∀ V, Below w3.heap.size w3 V → Below W.heap.size W V ∧ (∀ dst, Tryd.prog.underlying dst = some .string → (convert 22 dst (.slice A2 m c2)).run Tryd.prog V = .ok (.string S) V) from fun V hV => ⟨B3.trans (hV.mono B3.size), HC.out V A2 m c2 ((l3.out.below hV).more hV.size) HM.out⟩)
  have hI : Below w3.heap.size w3 w3.drew := (Below.refl _ _).drew
  refine wp_region_chain (fun V => Below w3.heap.size w3 V) [(0, false), (1, false), (2, false), (3, false), (4, false), (5, false), (6, true), (7, true), (8, false), (9, false), (10, false)] (by kernel_rfl) (by kernel_rfl) hI ?_
  repeat (first
    | (refine ChainL.skip (o := ?_) ?_ ?_ ?_; rotate_left; (focus (first | (simp only [List.getElem?_toArray, List.getElem?_cons_succ, List.getElem?_cons_zero]; with_reducible rfl) | (simp only [List.getElem?_toArray, List.getElem?_cons_zero]; with_reducible rfl))); (focus rfl); simp only [Act.put, List.setIfInBounds_toArray, List.set_cons_zero, List.set_cons_succ])
    | (refine ChainL.val (o := ?_) (v := ?_) ?_ ?_ ?_ ?_ ?_; rotate_left 2; (focus (first | (simp only [List.getElem?_toArray, List.getElem?_cons_succ, List.getElem?_cons_zero]; with_reducible rfl) | (simp only [List.getElem?_toArray, List.getElem?_cons_zero]; with_reducible rfl))); (focus (intro _ _ h; cases h)); (focus rfl); (focus (intro w' hJ; obtain ⟨_, q1⟩ := HX.out _ hJ; go_simp <;> with_reducible rfl)); simp only [Act.put, List.setIfInBounds_toArray, List.set_cons_zero, List.set_cons_succ]))
  refine ChainL.call (o := ?_) (f := ?_) (args := ?_) ?_ ?_ ?_ ?_
  rotate_left 3
  (focus (first | (simp only [List.getElem?_toArray, List.getElem?_cons_succ, List.getElem?_cons_zero]; with_reducible rfl) | (simp only [List.getElem?_toArray, List.getElem?_cons_zero]; with_reducible rfl)))
  (focus rfl)
  (focus (go_simp; (constructor <;> with_reducible rfl)))
  with_reducible refine (C3 _ (HX.out _ hI).1).mono ?_
  rintro e wc1 ⟨A7, c7, rfl, l7, b7⟩
  have hI1 := hI.trans (b7.mono hI.size)
  have q2 := HC.out _ A7 m c7 l7.out HM.out
  refine ⟨_, rfl, hI1, ?_⟩
  simp only [Act.put, List.setIfInBounds_toArray, List.set_cons_zero, List.set_cons_succ]
  refine ChainL.does (o := ?_) (v := ?_) (w1 := ?_) ?_ ?_ ?_ ?_ ?_
  rotate_left 3
  (focus (first | (simp only [List.getElem?_toArray, List.getElem?_cons_succ, List.getElem?_cons_zero]; with_reducible rfl) | (simp only [List.getElem?_toArray, List.getElem?_cons_zero]; with_reducible rfl)))
  (focus rfl)
  (focus (go_simp; (constructor <;> with_reducible rfl)))
  exact hI1
  simp only [Act.put, List.setIfInBounds_toArray, List.set_cons_zero, List.set_cons_succ]
  repeat (first
    | (refine ChainL.skip (o := ?_) ?_ ?_ ?_; rotate_left; (focus (first | (simp only [List.getElem?_toArray, List.getElem?_cons_succ, List.getElem?_cons_zero]; with_reducible rfl) | (simp only [List.getElem?_toArray, List.getElem?_cons_zero]; with_reducible rfl))); (focus rfl); simp only [Act.put, List.setIfInBounds_toArray, List.set_cons_zero, List.set_cons_succ])
    | (refine ChainL.val (o := ?_) (v := ?_) ?_ ?_ ?_ ?_ ?_; rotate_left 2; (focus (first | (simp only [List.getElem?_toArray, List.getElem?_cons_succ, List.getElem?_cons_zero]; with_reducible rfl) | (simp only [List.getElem?_toArray, List.getElem?_cons_zero]; with_reducible rfl))); (focus (intro _ _ h; cases h)); (focus rfl); (focus (intro w' hJ; skip; go_simp <;> with_reducible rfl)); simp only [Act.put, List.setIfInBounds_toArray, List.set_cons_zero, List.set_cons_succ]))
  refine ChainL.nil ?_
  have hF := (HX.out _ hI1).1
  go_wp2
  exact bodyPost_ret (results_tmp rfl _ _ _) rfl ⟨rfl, hF⟩
theorem walk (hG : GD W) (A0 : Option Addr) (c0 : Nat) (Es : List Ent) (k0 : Es.length ≤ c0) (m0 : c0 ≤ 9223372036854775807) (l0 : EntAt W W.heap.size A0 Es) (s0 : ∀ q ∈ Es, q.2.length ≤ 17592186044416 ∧ In64 q.1 ∧ ∀ x ∈ q.2, In64 x) :
    Calls Tryd.prog 4 #[.slice A0 Es.length c0] W fun e w' => e = .returned (.bool true) ∧ Below W.heap.size W w' := by
  cases h : bigD Es
  · cases hr : Es.all mayQ
    · exact walk_bad hG A0 c0 Es.length Es rfl l0 h hr
    · exact walk_yes hG A0 c0 Es.length Es rfl l0 h hr
  · exact walk_big hG A0 c0 Es.length Es rfl l0 h (by omega) (fun q hq => (s0 q hq).1)

set_option maxRecDepth 100000 in
theorem lifted (os : Os) (started : os.Started) (H : Type) (enc : TypeId × Value → H) :
    ReturnsInHanded {} Tryd.checked os 4 .any (fun w args => (Rows.dictPutsSpec.pre enc Tryd.prog Tryd.f4 [] false w args ∧ laidMetH Tryd.prog laid15 w) ∧ sizedMet enc Tryd.prog Tryd.f4 (OpenSpec.ofChange Rows.dictPutsSpec) false w args)
      (Rows.dictPutsSpec.post enc Tryd.prog Tryd.f4 false true false false) := by
  refine returnsInHanded_of_change_and (C := Tryd.checked) (X := fun w _ => laidMetH Tryd.prog laid15 w) (fun _ _ _ hh h => h.of_heap hh) Tryd.own started (by kernel_rfl) Tryd.func4
    (ChangeSpec.witness_shaped (enc := enc) (C := Tryd.checked) (os := os) (X := fun w _ => laidMetH Tryd.prog laid15 w) false (World.doorLaid Tryd.prog 400 os) #[.slice none 0 0] 8 rfl (World.shaped_of_RefB (by kernel_rfl) (by kernel_rfl)) (by kernel_rfl) (by kernel_rfl) (by kernel_rfl) (door_metD os _)) ?_
  intro W base args ds gs before hval0 hW hcnd hsz0 hL _
  have hG := gd_of_laid hL
  have hsz : (DataW.weightsEach Tryd.prog (Tryd.f4.params.toList ++ Rows.dictPutsSpec.plain.varTypes Tryd.prog) (ds ++ gs)).all (· ≤ reachBytes) = true := hsz0
  have hval : ∀ (j : Nat) t v, Tryd.f4.params[j]? = some t → args[j]? = some v → Value.okWide Tryd.prog W .any base t v := hval0
  have hW' := hW
  obtain ⟨p, q, hA0, hV, rfl, hfz, hnd⟩ := hW
  have hA : DataW.TrodAll enc Tryd.prog W 0 (fun _ => true) true Tryd.f4.params.toList args.toList ds p := hA0
  rw [Tryd.params4] at hA hval hsz
  obtain ⟨v0, vs0, d0, ds0, p0, q0, hargs, rfl, rfl, h0, r0⟩ := trodAll_cons hA
  obtain ⟨rfl, rfl, rfl⟩ := trodAll_nil r0
  obtain rfl : args = #[v0] := by cases args; simp_all
  obtain ⟨rfl, rfl⟩ := trodVars_none hV
  have hz0 : ∀ m ∈ d0.weights Tryd.prog 24, m ≤ reachBytes := fun m hm => of_decide_eq_true (List.all_eq_true.1 hsz m (DataW.weights_mem_each (j := 0) rfl rfl m hm))
  obtain ⟨A0, c0, Es0, rfl, k0, m0, l0, s0⟩ := open_ents Tryd.underlying24 Tryd.underlying42 (by kernel_rfl) (by kernel_rfl) Tryd.underlying3 Tryd.underlying37 Tryd.underlying3 (by kernel_rfl) (by kernel_rfl) (hval 0 24 v0 rfl rfl) h0 hz0
  clear hA0 hval0
  simp only [List.append_nil] at hW'
  refine (walk (W := W) hG A0 c0 Es0 k0 m0 l0 s0).mono fun e W' ⟨he, hg⟩ => ?_
  subst he
  exact ⟨_, rfl, law_post Tryd.laidOut rfl Tryd.underlying4 (by kernel_rfl) rfl rfl rfl rfl hW' hg⟩

theorem over : Rows.DictPutsSaid :=
  OpenClaim.holds_of_wide 4 Tryd.f4 rfl rfl rfl rfl rfl rfl rfl ⟨rfl, rfl, rfl, rfl, rfl⟩ rfl rfl rfl rfl rfl (by kernel_rfl) Tryd.func4 (by kernel_rfl)
    (of_decide_eq_true (by kernel_rfl)) (by unfold Func.isWrapper; first | (rw [if_pos (by decide +kernel)]; kernel_rfl) | (rw [if_neg (by decide +kernel)]; exact ⟨rfl, rfl⟩))
    (fun os started H enc _ => lifted os started H enc)

theorem proved : Rows.DictPutsCardSaid :=
  Claim7.holds_tied_plain_at .later [] [.data] true Rows.dictPutsCard.stood.harness false
    over (fun _ h => by cases h) (by kernel_rfl) (fun _ h => by cases h) dictPuts_row_tie rfl ⟨rfl, rfl⟩ (by kernel_rfl) rfl
    (fun f fn hf hfn => by
      obtain rfl : f = 4 := Option.some.inj ((show Tryd.prog.funcNamed "serif/seriflaw15.DictPuts" = some 4 by kernel_rfl).symm.trans hf) |>.symm
      obtain rfl : fn = Tryd.f4 := (Option.some.inj (Tryd.func4.symm.trans hfn)).symm
      exact ⟨by kernel_rfl, fun j t ht => by
        rw [Tryd.params4] at ht
        have hm : t ∈ [24] := by simpa using Array.mem_of_getElem? ht
        have hall : ([24].all fun u => !Tryd.prog.wantsStandIn u) = true := by kernel_rfl
        exact (show Tryd.prog.wantsStandIn t = false by simpa using List.all_eq_true.1 hall t hm)⟩)
    (by kernel_rfl)

end Go.Proofs.YthoocoaalbeopaaDoor.dictPuts
