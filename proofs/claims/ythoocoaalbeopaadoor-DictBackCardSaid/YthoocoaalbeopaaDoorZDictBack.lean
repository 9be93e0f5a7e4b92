/- DictBack: what was put is parsed again; the table of the texts of half bytes is tied to the text; no condition but what the card prints. -/
import Derived.Test.YthoocoaalbeopaaDoorCards
import Derived.Test.YthoocoaalbeopaaDoorTie
import Derived.SevenTiedAt
import Derived.Test.YthoocoaalbeopaaDoorM0DictBack

namespace Go.Proofs.YthoocoaalbeopaaDoor.dictBack
open Go.ChangeShapes Go.WideShapes Go.ChangeAt Go.RowKit Go.Shelf
set_option linter.unusedVariables false
set_option linter.unusedSimpArgs false

variable {W : World}
set_option maxRecDepth 100000 in
theorem walk_big (hG : GD W) (A0 : Option Addr) (c0 n : Nat) (Es : List Ent) (hn : Es.length = n) (op other : Int) (l0 : EntAt W W.heap.size A0 Es) (h : bigD Es = true) (hnn : n ≤ 9223372036854775807) (hs : ∀ q ∈ Es, q.2.length ≤ 17592186044416) :
    Calls Tryd.prog 5 #[.slice A0 n c0, .int .i64 op, .int .i64 other] W fun e w' => e = .returned (.bool true) ∧ Below W.heap.size W w' := by
  have CL := large_any A0 c0 n Es W l0 hn hnn hs
  rw [h] at CL
  have CL := CL.mono fun e w' h => And.intro h.1 h.2.symm
  have HG := Lib.hid hG
  have B0 := Below.refl W.heap.size W
  clear hn l0 h hs hG
  go_enter Tryd.func5, Tryd.ntmps5
  go_wp2_with (first | (go_at_call 13; ((with_reducible refine (CL).mono ?_); rintro e w1 ⟨rfl, rfl⟩)) | (go_at_call 8; ((with_reducible refine (lives15 _ HG.out).mono ?_); rintro e w2 ⟨rfl, b2⟩; have B2 := B0.trans (b2.mono B0.size))))
  exact bodyPost_ret (results_tmp rfl _ _ _) rfl ⟨rfl, B2⟩
set_option maxRecDepth 100000 in
theorem walk_bad (hG : GD W) (A0 : Option Addr) (c0 n : Nat) (Es : List Ent) (hn : Es.length = n) (op other : Int) (l0 : EntAt W W.heap.size A0 Es) (h : bigD Es = false) (hr : Es.all mayQ = false) :
    Calls Tryd.prog 5 #[.slice A0 n c0, .int .i64 op, .int .i64 other] W fun e w' => e = .returned (.bool true) ∧ Below W.heap.size W w' := by
  obtain ⟨hb1, hb2⟩ := big_noD h
  have CL := large_any A0 c0 n Es W l0 hn (by omega) (fun q hq => by have := hb2 q hq; omega)
  rw [h] at CL
  have CL := CL.mono fun e w' h => And.intro h.1 h.2.symm
  have C1 := dput_bad A0 c0 n Es W l0 hn (by omega) (fun q hq => by have := hb2 q hq; omega) hr
  have HG := Lib.hid hG
  clear hn l0 h hb1 hb2 hG hr
  go_enter Tryd.func5, Tryd.ntmps5
  go_wp2_with (first | (go_at_call 13; ((with_reducible refine (CL).mono ?_); rintro e w1 ⟨rfl, rfl⟩)) | (go_at_call 14; ((with_reducible refine (C1).mono ?_); rintro e w2 ⟨rfl, B2⟩)) | (go_at_call 8; ((with_reducible refine (lives15 _ (HG.out.below B2)).mono ?_); rintro e w3 ⟨rfl, b3⟩; have B3 := B2.trans (b3.mono B2.size))) | (go_at_call 8; ((with_reducible refine (lives15 _ (HG.out.below B3)).mono ?_); rintro e w4 ⟨rfl, b4⟩; have B4 := B3.trans (b4.mono B3.size))))
  exact bodyPost_ret (results_tmp rfl _ _ _) rfl ⟨rfl, B4⟩
set_option maxRecDepth 100000 in
set_option maxHeartbeats 1000000 in
theorem walk_yes (hG : GD W) (A0 : Option Addr) (c0 n : Nat) (Es : List Ent) (hn : Es.length = n) (op other : Int) (l0 : EntAt W W.heap.size A0 Es) (h : bigD Es = false) (hr : Es.all mayQ = true) (hi : ∀ q ∈ Es, ∀ x ∈ q.2, In64 x) :
    Calls Tryd.prog 5 #[.slice A0 n c0, .int .i64 op, .int .i64 other] W fun e w' => e = .returned (.bool true) ∧ Below W.heap.size W w' := by
  obtain ⟨hb1, hb2⟩ := big_noD h
  have CL := large_any A0 c0 n Es W l0 hn (by omega) (fun q hq => by have := hb2 q hq; omega)
  rw [h] at CL
  have CL := CL.mono fun e w' h => And.intro h.1 h.2.symm
  have hbytes := putE_bytes Es
  have hle := cntE_le h
  have C1 : Calls Tryd.prog 14 #[.slice A0 n c0] W fun e w' => ∃ A c, e = .returned (.tuple #[.slice A (putE Es).length c, .int .i64 0]) ∧ Hid (Lists w' w'.heap.size A (putE Es)) ∧ Below W.heap.size W w' := by
    refine (dput_ok A0 c0 n Es W l0 hn (by omega) (fun q hq => by have := hb2 q hq; omega) hr).mono fun e w' ⟨A, c, k1, k2, k3⟩ => ?_
    obtain ⟨A', c', k4, k5, _⟩ := own_lists k2
    injection k4 with k6 _ k7
    subst k6
    exact ⟨_, _, k1, Lib.hid k5, k3⟩
  have C2 : ∀ (A : Option Addr) (c : Nat) (V : World), Hid (Lists V V.heap.size A (putE Es)) → Below W.heap.size W V → Calls Tryd.prog 9 #[.slice A (putE Es).length c] V fun e w' => ∃ A c, e = .returned (.tuple #[.slice A n c, .int .i64 0]) ∧ Hid (EntAt w' w'.heap.size A Es) ∧ Below V.heap.size V w' := fun A c V hl hb => by
    refine (dparse_any A (putE Es).length c (putE Es) (itemsE Es) (Es, []) V hl.out rfl hbytes (by omega) (bytes_items Es).symm (ok_items hr) (by rw [run_items hr hi]; simp) (hG.below hb)).mono ?_
    rintro e w' ⟨v, rfl, ho, hb⟩
    obtain ⟨A, c, rfl, hc, hE⟩ := ho.out
    exact ⟨A, c, by rw [← hn]; rfl, Lib.hid hE, hb⟩
  have C3 : ∀ (A : Option Addr) (c : Nat) (V : World), Hid (EntAt V V.heap.size A Es) → Below W.heap.size W V → Calls Tryd.prog 11 #[.slice A n c, .slice A0 n c0] V fun e w' => e = .returned (.bool true) ∧ Below V.heap.size V w' := fun A c V hE hb => rsame15 n A A0 c c0 Es V hE.out ((l0.below hb).more hb.size) hn (by omega) (fun q hq => by have := hb2 q hq; omega)
  have C4 : ∀ V, Below W.heap.size W V → Calls Tryd.prog 12 #[.slice A0 n c0, .int .i64 op, .int .i64 other] V fun e w' => e = .returned (.bool true) ∧ Below V.heap.size V w' := fun V hb => gets15 n A0 c0 Es op other V ((l0.below hb).more hb.size) hn (by omega) (fun q hq => by have := hb2 q hq; omega)
  have HG := Lib.hid hG
  clear hn l0 h hb1 hb2 hG hr hi hbytes hle
  generalize putE Es = X at *
  obtain ⟨m, hm⟩ : ∃ m, m = X.length := ⟨_, rfl⟩
  rw [← hm] at C1 C2
  clear hm
  go_enter Tryd.func5, Tryd.ntmps5
  go_wp2_with (first | (go_at_call 13; ((with_reducible refine (CL).mono ?_); rintro e w1 ⟨rfl, rfl⟩)) | (go_at_call 14; ((with_reducible refine (C1).mono ?_); rintro e w2 ⟨A2, c2, rfl, l2, B2⟩)) | (go_at_call 8; ((with_reducible refine (lives15 _ (HG.out.below B2)).mono ?_); rintro e w3 ⟨rfl, b3⟩; have l3 := hlst_up l2 b3; have B3 := B2.trans (b3.mono B2.size))) | (go_at_call 9; ((with_reducible refine (C2 A2 c2 _ l3 B3).mono ?_); rintro e w4 ⟨A4, c4, rfl, l4, b4⟩; have B4 := B3.trans (b4.mono B3.size))) | (go_at_call 11; ((with_reducible refine (C3 A4 c4 _ l4 B4).mono ?_); rintro e w5 ⟨rfl, b5⟩; have B5 := B4.trans (b5.mono B4.size))) | (go_at_call 12; ((with_reducible refine (C4 _ B5).mono ?_); rintro e w6 ⟨rfl, b6⟩; have B6 := B5.trans (b6.mono B5.size))))
  exact bodyPost_ret (results_tmp rfl _ _ _) rfl ⟨rfl, B6⟩
theorem walk (hG : GD W) (A0 : Option Addr) (c0 : Nat) (Es : List Ent) (k0 : Es.length ≤ c0) (m0 : c0 ≤ 9223372036854775807) (l0 : EntAt W W.heap.size A0 Es) (s0 : ∀ q ∈ Es, q.2.length ≤ 17592186044416 ∧ In64 q.1 ∧ ∀ x ∈ q.2, In64 x) (op : Int) (_ : (Lit.int .i64 op).wf = true) (other : Int) (_ : (Lit.int .i64 other).wf = true) :
    Calls Tryd.prog 5 #[.slice A0 Es.length c0, .int .i64 op, .int .i64 other] W fun e w' => e = .returned (.bool true) ∧ Below W.heap.size W w' := by
  cases h : bigD Es
  · cases hr : Es.all mayQ
    · exact walk_bad hG A0 c0 Es.length Es rfl op other l0 h hr
    · exact walk_yes hG A0 c0 Es.length Es rfl op other l0 h hr (fun q hq => (s0 q hq).2.2)
  · exact walk_big hG A0 c0 Es.length Es rfl op other l0 h (by omega) (fun q hq => (s0 q hq).1)

set_option maxRecDepth 100000 in
theorem lifted (os : Os) (started : os.Started) (H : Type) (enc : TypeId × Value → H) :
    ReturnsInHanded {} Tryd.checked os 5 .any (fun w args => (Rows.dictBackSpec.pre enc Tryd.prog Tryd.f5 [] false w args ∧ laidMetH Tryd.prog laid15 w) ∧ sizedMet enc Tryd.prog Tryd.f5 (OpenSpec.ofChange Rows.dictBackSpec) false w args)
      (Rows.dictBackSpec.post enc Tryd.prog Tryd.f5 false true false false) := by
  refine returnsInHanded_of_change_and (C := Tryd.checked) (X := fun w _ => laidMetH Tryd.prog laid15 w) (fun _ _ _ hh h => h.of_heap hh) Tryd.own started (by kernel_rfl) Tryd.func5
    (ChangeSpec.witness_shaped (enc := enc) (C := Tryd.checked) (os := os) (X := fun w _ => laidMetH Tryd.prog laid15 w) false (World.doorLaid Tryd.prog 400 os) #[.slice none 0 0, .int .i64 0, .int .i64 0] 8 rfl (World.shaped_of_RefB (by kernel_rfl) (by kernel_rfl)) (by kernel_rfl) (by kernel_rfl) (by kernel_rfl) (door_metD os _)) ?_
  intro W base args ds gs before hval0 hW hcnd hsz0 hL _
  have hG := gd_of_laid hL
  have hsz : (DataW.weightsEach Tryd.prog (Tryd.f5.params.toList ++ Rows.dictBackSpec.plain.varTypes Tryd.prog) (ds ++ gs)).all (· ≤ reachBytes) = true := hsz0
  have hval : ∀ (j : Nat) t v, Tryd.f5.params[j]? = some t → args[j]? = some v → Value.okWide Tryd.prog W .any base t v := hval0
  have hW' := hW
  obtain ⟨p, q, hA0, hV, rfl, hfz, hnd⟩ := hW
  have hA : DataW.TrodAll enc Tryd.prog W 0 (fun _ => true) true Tryd.f5.params.toList args.toList ds p := hA0
  rw [Tryd.params5] at hA hval hsz
  obtain ⟨v0, vs0, d0, ds0, p0, q0, hargs, rfl, rfl, h0, r0⟩ := trodAll_cons hA
  obtain ⟨v1, vs1, d1, ds1, p1, q1, rfl, rfl, rfl, h1, r1⟩ := trodAll_cons r0
  obtain ⟨v2, vs2, d2, ds2, p2, q2, rfl, rfl, rfl, h2, r2⟩ := trodAll_cons r1
  obtain ⟨rfl, rfl, rfl⟩ := trodAll_nil r2
  obtain rfl : args = #[v0, v1, v2] := by cases args; simp_all
  obtain ⟨rfl, rfl⟩ := trodVars_none hV
  have hz0 : ∀ m ∈ d0.weights Tryd.prog 24, m ≤ reachBytes := fun m hm => of_decide_eq_true (List.all_eq_true.1 hsz m (DataW.weights_mem_each (j := 0) rfl rfl m hm))
  obtain ⟨A0, c0, Es0, rfl, k0, m0, l0, s0⟩ := open_ents Tryd.underlying24 Tryd.underlying42 (by kernel_rfl) (by kernel_rfl) Tryd.underlying3 Tryd.underlying37 Tryd.underlying3 (by kernel_rfl) (by kernel_rfl) (hval 0 24 v0 rfl rfl) h0 hz0
  obtain ⟨a1, rfl, rfl, rfl, w1⟩ := open_int Tryd.underlying3 (hval 1 3 v1 rfl rfl) h1
  obtain ⟨a2, rfl, rfl, rfl, w2⟩ := open_int Tryd.underlying3 (hval 2 3 v2 rfl rfl) h2
  clear hA0 hval0
  simp only [List.append_nil] at hW'
  refine (walk (W := W) hG A0 c0 Es0 k0 m0 l0 s0 a1 w1 a2 w2).mono fun e W' ⟨he, hg⟩ => ?_
  subst he
  exact ⟨_, rfl, law_post Tryd.laidOut rfl Tryd.underlying4 (by kernel_rfl) rfl rfl rfl rfl hW' hg⟩

theorem over : Rows.DictBackSaid :=
  OpenClaim.holds_of_wide 5 Tryd.f5 rfl rfl rfl rfl rfl rfl rfl ⟨rfl, rfl, rfl, rfl, rfl⟩ rfl rfl rfl rfl rfl (by kernel_rfl) Tryd.func5 (by kernel_rfl)
    (of_decide_eq_true (by kernel_rfl)) (by unfold Func.isWrapper; first | (rw [if_pos (by decide +kernel)]; kernel_rfl) | (rw [if_neg (by decide +kernel)]; exact ⟨rfl, rfl⟩))
    (fun os started H enc _ => lifted os started H enc)

theorem proved : Rows.DictBackCardSaid :=
  Claim7.holds_tied_plain_at .later [] [.data] true Rows.dictBackCard.stood.harness false
    over (fun _ h => by cases h) (by kernel_rfl) (fun _ h => by cases h) dictBack_row_tie rfl ⟨rfl, rfl⟩ (by kernel_rfl) rfl
    (fun f fn hf hfn => by
      obtain rfl : f = 5 := Option.some.inj ((show Tryd.prog.funcNamed "serif/seriflaw15.DictBack" = some 5 by kernel_rfl).symm.trans hf) |>.symm
      obtain rfl : fn = Tryd.f5 := (Option.some.inj (Tryd.func5.symm.trans hfn)).symm
      exact ⟨by kernel_rfl, fun j t ht => by
        rw [Tryd.params5] at ht
        have hm : t ∈ [24, 3] := by simpa using Array.mem_of_getElem? ht
        have hall : ([24, 3].all fun u => !Tryd.prog.wantsStandIn u) = true := by kernel_rfl
        exact (show Tryd.prog.wantsStandIn t = false by simpa using List.all_eq_true.1 hall t hm)⟩)
    (by kernel_rfl)

end Go.Proofs.YthoocoaalbeopaaDoor.dictBack
