/- Part 20 of the proof: CmP. -/
import Derived.Test.YtekailhghjideaaCCm18

namespace Go.Proofs.Ytekailhghjideaa
open Go Go.RowKit
set_option linter.unusedVariables false
set_option linter.unusedSimpArgs false

set_option maxRecDepth 100000 in
set_option maxHeartbeats 4000000 in
theorem rput_any (w0 w : World) (q R : Nat) (L : List Value) (g a b c d : Int) (mm : Bool) (x y : Int) (t : Bool) (p qq : Int) (more : Bool) (fm : Int) (ns : List Int) (h : RWS w0 w q R L) (hx : L.length + 16 ≤ R) (hR : R ≤ 1099511627776)
    (hf : (fm = 0 ∧ ns = [] ∧ a = 16384 ∧ b = 0 ∧ c = 0 ∧ d = 16384) ∨ (fm = 8 ∧ ns = [a] ∧ b = 0 ∧ c = 0 ∧ a = d ∧ a ≠ 16384) ∨ (fm = 64 ∧ ns = [a, d] ∧ b = 0 ∧ c = 0 ∧ a ≠ d) ∨ (fm = 128 ∧ ns = [a, b, c, d] ∧ (b ≠ 0 ∨ (b = 0 ∧ c ≠ 0)))) :
    Calls Try.prog 35 #[.pointer (some ⟨q, 0, none⟩), .agg #[.int .i64 g, .int .i64 a, .int .i64 b, .int .i64 c, .int .i64 d, .bool mm, .int .i64 x, .int .i64 y, .bool t, .int .i64 p, .int .i64 qq], .bool more] w
      (RWrote w0 q R L (putX (f4Of (f3Of (f2Of (f1Of mm t) (smOf mm x y p qq)) fm) more) g (smOf mm x y p qq) (if mm then p else x) (if mm then qq else y) ns)) := by
  have H := h.keep.new 36 #[.int .i64 g, .int .i64 a, .int .i64 b, .int .i64 c, .int .i64 d, .bool mm, .int .i64 x, .int .i64 y, .bool t, .int .i64 p, .int .i64 qq] _ rfl
  have K := Blk.new w 36 #[.int .i64 g, .int .i64 a, .int .i64 b, .int .i64 c, .int .i64 d, .bool mm, .int .i64 x, .int .i64 y, .bool t, .int .i64 p, .int .i64 qq]
  have RO := fun W => rone_any W
  simp only [mtV, one14] at RO
  have HF := Lib.hid hf
  obtain ⟨n, hnn⟩ : ∃ n, ns.length = n := ⟨_, rfl⟩
  have hn4 : n ≤ 4 := by subst hnn; rcases hf with ⟨_, rfl, _⟩ | ⟨_, rfl, _⟩ | ⟨_, rfl, _⟩ | ⟨_, rfl, _⟩ <;> simp
  have HN := Lib.hid hnn
  clear hnn hf h
  obtain ⟨s, hs⟩ : ∃ s, s = smOf mm x y p qq := ⟨_, rfl⟩
  obtain ⟨u, hu⟩ : ∃ u, u = if mm then p else x := ⟨_, rfl⟩
  obtain ⟨v, hv⟩ : ∃ v, v = if mm then qq else y := ⟨_, rfl⟩
  obtain ⟨F1, hF⟩ : ∃ F1, F1 = f1Of mm t := ⟨_, rfl⟩
  rw [← hs, ← hu, ← hv, ← hF]
  have HSM := Lib.hid hs
  have HU := Lib.hid hu
  have HV := Lib.hid hv
  have HF1 := Lib.hid hF
  clear hs hu hv hF
  go_enter Try.func35, Try.ntmps35
  go_wp2
  obtain ⟨kp, hkp⟩ : ∃ kp, kp = w.heap.size := ⟨_, rfl⟩
  rw [← hkp] at K H ⊢
  clear hkp
  generalize w.alloc (.cells #[.int .i64 g, .int .i64 a, .int .i64 b, .int .i64 c, .int .i64 d, .bool mm, .int .i64 x, .int .i64 y, .bool t, .int .i64 p, .int .i64 qq] 36) = X0 at *
  refine wp_region_chain (fun W' => Blk W' kp 36 #[.int .i64 g, .int .i64 a, .int .i64 b, .int .i64 c, .int .i64 d, .bool mm, .int .i64 x, .int .i64 y, .bool t, .int .i64 p, .int .i64 qq]) [(0, false), (1, false), (2, false), (3, false), (4, false), (5, false), (6, false)] (by kernel_rfl) (by kernel_rfl) (K.below ((Below.refl _ _).drew)) ?_
  repeat (first
    | (refine ChainL.skip (o := ?_) ?_ ?_ ?_; rotate_left; (focus (first | (simp only [List.getElem?_toArray, List.getElem?_cons_succ, List.getElem?_cons_zero]; with_reducible rfl) | (simp only [List.getElem?_toArray, List.getElem?_cons_zero]; with_reducible rfl))); (focus rfl); simp only [Act.put, List.setIfInBounds_toArray, List.set_cons_zero, List.set_cons_succ])
    | (refine ChainL.val (o := ?_) (v := ?_) ?_ ?_ ?_ ?_ ?_; rotate_left 2; (focus (first | (simp only [List.getElem?_toArray, List.getElem?_cons_succ, List.getElem?_cons_zero]; with_reducible rfl) | (simp only [List.getElem?_toArray, List.getElem?_cons_zero]; with_reducible rfl))); (focus (intro _ _ h; cases h)); (focus rfl); (focus (intro w' hI; have c0 := hI.cell 0; have c1 := hI.cell 1; have c2 := hI.cell 2; have c3 := hI.cell 3; have c4 := hI.cell 4; have c5 := hI.cell 5; have c6 := hI.cell 6; have c7 := hI.cell 7; have c8 := hI.cell 8; have c9 := hI.cell 9; have c10 := hI.cell 10; have hkl := hI.lt; simp only [List.getElem?_toArray, List.getElem?_cons_zero, List.getElem?_cons_succ] at c0 c1 c2 c3 c4 c5 c6 c7 c8 c9 c10; go_simp <;> with_reducible rfl)); simp only [Act.put, List.setIfInBounds_toArray, List.set_cons_zero, List.set_cons_succ]))
  refine ChainL.nil ?_
  have K := K.below ((Below.refl _ _).drew)
  have H := H.below ((Below.refl _ _).drew)
  generalize X0.drew = X1 at *
  have c0 := K.cell 0; have c1 := K.cell 1; have c2 := K.cell 2; have c3 := K.cell 3; have c4 := K.cell 4; have c5 := K.cell 5; have c6 := K.cell 6; have c7 := K.cell 7; have c8 := K.cell 8; have c9 := K.cell 9; have c10 := K.cell 10; have hkl := K.lt; simp only [List.getElem?_toArray, List.getElem?_cons_zero, List.getElem?_cons_succ] at c0 c1 c2 c3 c4 c5 c6 c7 c8 c9 c10
  go_upto_region 2 with (fail)
  go_cut [9] from 13 (fun sv wx => Hid (mm = true → sv = .bool s) ∧ wx = X1)
  case first =>
    by_cases e1 : p < 256
    all_goals (by_cases e2 : qq < 256)
    all_goals
      go_wp2
      go_meet
      case rel => exact ⟨Lib.hid (fun h => by subst h; rw [HSM.out]; simp [smOf, e1, e2]), rfl⟩
  case rest =>
  obtain ⟨HS, rfl⟩ := hcut
  go_upto_if 25 with (fail)
  go_cut [6, 7, 8, 9] from 13 (fun f uv vv sv wx => f = .int .i64 F1 ∧ uv = .int .i64 u ∧ vv = .int .i64 v ∧ sv = .bool s ∧ RWK w0 wx q R L [(kp, 36, #[.int .i64 g, .int .i64 a, .int .i64 b, .int .i64 c, .int .i64 d, .bool mm, .int .i64 x, .int .i64 y, .bool t, .int .i64 p, .int .i64 qq])])
  case first =>
    cases mm
    · as_aux_lemma =>
      have hu : x = u := HU.out.symm
      have hv : y = v := HV.out.symm
      clear HU HV HS
      subst hu hv
      go_wp2
      refine wp_region_chain (fun W' => Blk W' kp 36 #[.int .i64 g, .int .i64 a, .int .i64 b, .int .i64 c, .int .i64 d, .bool false, .int .i64 x, .int .i64 y, .bool t, .int .i64 p, .int .i64 qq]) [(0, false), (1, false), (2, false), (3, false), (4, false), (5, false), (6, false)] (by kernel_rfl) (by kernel_rfl) (K.below ((Below.refl _ _).drew)) ?_
      repeat (first
        | (refine ChainL.skip (o := ?_) ?_ ?_ ?_; rotate_left; (focus (first | (simp only [List.getElem?_toArray, List.getElem?_cons_succ, List.getElem?_cons_zero]; with_reducible rfl) | (simp only [List.getElem?_toArray, List.getElem?_cons_zero]; with_reducible rfl))); (focus rfl); simp only [Act.put, List.setIfInBounds_toArray, List.set_cons_zero, List.set_cons_succ])
        | (refine ChainL.val (o := ?_) (v := ?_) ?_ ?_ ?_ ?_ ?_; rotate_left 2; (focus (first | (simp only [List.getElem?_toArray, List.getElem?_cons_succ, List.getElem?_cons_zero]; with_reducible rfl) | (simp only [List.getElem?_toArray, List.getElem?_cons_zero]; with_reducible rfl))); (focus (intro _ _ h; cases h)); (focus rfl); (focus (intro w' hI; have c0 := hI.cell 0; have c1 := hI.cell 1; have c2 := hI.cell 2; have c3 := hI.cell 3; have c4 := hI.cell 4; have c5 := hI.cell 5; have c6 := hI.cell 6; have c7 := hI.cell 7; have c8 := hI.cell 8; have c9 := hI.cell 9; have c10 := hI.cell 10; have hkl := hI.lt; simp only [List.getElem?_toArray, List.getElem?_cons_zero, List.getElem?_cons_succ] at c0 c1 c2 c3 c4 c5 c6 c7 c8 c9 c10; go_simp <;> with_reducible rfl)); simp only [Act.put, List.setIfInBounds_toArray, List.set_cons_zero, List.set_cons_succ]))
      refine ChainL.nil ?_
      have K := K.below ((Below.refl _ _).drew)
      have H := H.below ((Below.refl _ _).drew)
      generalize wc.drew = X2 at *
      clear c0 c1 c2 c3 c4 c5 c6 c7 c8 c9 c10
      have c8 := K.cell 8; have hkl := K.lt; simp only [List.getElem?_toArray, List.getElem?_cons_zero, List.getElem?_cons_succ] at c8
      have z1 : decide (x ≥ (-128)) = decide ((-128) ≤ x) := rfl
      have z2 : decide (y ≥ (-128)) = decide ((-128) ≤ y) := rfl
      rcases (show ((-128) ≤ x ∧ x < 128 ∧ (-128) ≤ y ∧ y < 128) ∨ ((-128) ≤ x ∧ x < 128 ∧ (-128) ≤ y ∧ ¬ y < 128) ∨ ((-128) ≤ x ∧ x < 128 ∧ ¬ (-128) ≤ y) ∨ ((-128) ≤ x ∧ ¬ x < 128) ∨ ¬ (-128) ≤ x by omega) with ⟨e1, e2, e3, e4⟩ | ⟨e1, e2, e3, e4⟩ | ⟨e1, e2, e3⟩ | ⟨e1, e2⟩ | e1
      all_goals (cases t)
      all_goals
        go_wp2
        go_meet
        case rel => exact ⟨by rw [HF1.out]; rfl, rfl, rfl, by rw [HSM.out]; first | (simp [smOf, e1, e2, e3, e4]; done) | (simp [smOf]; intros; omega), H⟩
    · have hs := HS.out rfl
      have hu : p = u := HU.out.symm
      have hv : qq = v := HV.out.symm
      have hF : 0 = F1 := HF1.out.symm
      clear HSM HU HV HF1 HS
      subst hs hu hv hF
      go_wp2
      go_meet
      case rel => exact ⟨rfl, rfl, rfl, rfl, H⟩
  case rest =>
  obtain ⟨rfl, rfl, rfl, rfl, H⟩ := hcut
  clear K HS c0 c1 c2 c3 c4 c5 c6 c7 c8 c9 c10 hkl
  have K := H.blk (List.Mem.head _)
  go_upto_if 51 with (fail)
  go_cut [6] from 13 (fun f wx => f = .int .i64 (f2Of F1 s) ∧ wx = wc)
  case first =>
    cases s
    all_goals
      go_wp2
      go_meet
      case rel => exact ⟨rfl, rfl⟩
  case rest =>
  obtain ⟨rfl, rfl⟩ := hcut
  generalize f2Of F1 s = F2 at *
  have c0 := K.cell 0; have c1 := K.cell 1; have c2 := K.cell 2; have c3 := K.cell 3; have c4 := K.cell 4; have c5 := K.cell 5; have c6 := K.cell 6; have c7 := K.cell 7; have c8 := K.cell 8; have c9 := K.cell 9; have c10 := K.cell 10; have hkl := K.lt; simp only [List.getElem?_toArray, List.getElem?_cons_zero, List.getElem?_cons_succ] at c0 c1 c2 c3 c4 c5 c6 c7 c8 c9 c10
  go_upto_block 0 with (fail)
  go_cut [6, 10] from 13 (fun f m wx => f = .int .i64 (f3Of F2 fm) ∧ ∃ A cc, m = .slice A n cc ∧ ∃ KS, RWK w0 wx q R L KS ∧ (kp, 36, #[.int .i64 g, .int .i64 a, .int .i64 b, .int .i64 c, .int .i64 d, .bool mm, .int .i64 x, .int .i64 y, .bool t, .int .i64 p, .int .i64 qq]) ∈ KS ∧ ∀ (j : Nat) z, ns[j]? = some z → ∃ mb, A = some ⟨mb, 0, none⟩ ∧ (mb, 3, (intCells ns).toArray) ∈ KS)
  case first =>
    rcases HF.out with ⟨rfl, rfl, rfl, rfl, rfl, rfl⟩ | ⟨rfl, rfl, rfl, rfl, rfl, h1⟩ | ⟨rfl, rfl, rfl, rfl, h1⟩ | ⟨rfl, rfl, h1⟩
    · as_aux_lemma =>
      have hn : n = 0 := HN.out.symm
      subst hn
      have QM := fun W => eqM_run 16384 0 0 16384 16384 0 0 16384 W
      rw [show eq4 16384 0 0 16384 16384 0 0 16384 = true from by rfl] at QM
      have QG := eqM_guard 16384 0 0 16384 16384 0 0 16384
      go_wp2
      refine wp_region_chain (fun W' => Blk W' kp 36 #[.int .i64 g, .int .i64 16384, .int .i64 0, .int .i64 0, .int .i64 16384, .bool mm, .int .i64 x, .int .i64 y, .bool t, .int .i64 p, .int .i64 qq]) [(0, false), (1, false), (2, true), (3, false), (4, false)] (by kernel_rfl) (by kernel_rfl) (K.below ((Below.refl _ _).drew)) ?_
      repeat (first
        | (refine ChainL.skip (o := ?_) ?_ ?_ ?_; rotate_left; (focus (first | (simp only [List.getElem?_toArray, List.getElem?_cons_succ, List.getElem?_cons_zero]; with_reducible rfl) | (simp only [List.getElem?_toArray, List.getElem?_cons_zero]; with_reducible rfl))); (focus rfl); simp only [Act.put, List.setIfInBounds_toArray, List.set_cons_zero, List.set_cons_succ])
        | (refine ChainL.val (o := ?_) (v := ?_) ?_ ?_ ?_ ?_ ?_; rotate_left 2; (focus (first | (simp only [List.getElem?_toArray, List.getElem?_cons_succ, List.getElem?_cons_zero]; with_reducible rfl) | (simp only [List.getElem?_toArray, List.getElem?_cons_zero]; with_reducible rfl))); (focus (intro _ _ h; cases h)); (focus rfl); (focus (intro w' hI; have hL := run_loadAt_mid (P := Try.prog) w' kp 1 34 [.int .i64 16384, .int .i64 0, .int .i64 0, .int .i64 16384] _ (mid_part hI) Try.underlying34 rfl (by kernel_rfl); first | (have H := fun ρ o x => @exec_load _ ρ o _ _ x _ _ hL; refine H _ _ ?_ ?_ ?_; rotate_left; (focus rfl); (focus rfl)) | (go_simp <;> with_reducible rfl))); simp only [Act.put, List.setIfInBounds_toArray, List.set_cons_zero, List.set_cons_succ]))
      refine ChainL.call (o := ?_) (f := ?_) (args := ?_) ?_ ?_ ?_ ?_
      rotate_left 3
      (focus (simp only [List.getElem?_toArray, List.getElem?_cons_succ, List.getElem?_cons_zero]; with_reducible rfl))
      (focus rfl)
      (focus (go_simp; (constructor <;> with_reducible rfl)))
      refine (RO _).mono ?_
      rintro e w1 ⟨rfl, b1⟩
      have K := (K.below ((Below.refl _ _).drew)).below b1; have H := (H.below ((Below.refl _ _).drew)).below b1; refine ⟨_, rfl, K, ?_⟩
      simp only [Act.put, List.setIfInBounds_toArray, List.set_cons_zero, List.set_cons_succ]
      repeat (first
        | (refine ChainL.skip (o := ?_) ?_ ?_ ?_; rotate_left; (focus (first | (simp only [List.getElem?_toArray, List.getElem?_cons_succ, List.getElem?_cons_zero]; with_reducible rfl) | (simp only [List.getElem?_toArray, List.getElem?_cons_zero]; with_reducible rfl))); (focus rfl); simp only [Act.put, List.setIfInBounds_toArray, List.set_cons_zero, List.set_cons_succ])
        | (refine ChainL.val (o := ?_) (v := ?_) ?_ ?_ ?_ ?_ ?_; rotate_left 2; (focus (first | (simp only [List.getElem?_toArray, List.getElem?_cons_succ, List.getElem?_cons_zero]; with_reducible rfl) | (simp only [List.getElem?_toArray, List.getElem?_cons_zero]; with_reducible rfl))); (focus (intro _ _ h; cases h)); (focus rfl); (focus (intro w' hI; have hL := run_loadAt_mid (P := Try.prog) w' kp 1 34 [.int .i64 16384, .int .i64 0, .int .i64 0, .int .i64 16384] _ (mid_part hI) Try.underlying34 rfl (by kernel_rfl); first | (have H := fun ρ o x => @exec_load _ ρ o _ _ x _ _ hL; refine H _ _ ?_ ?_ ?_; rotate_left; (focus rfl); (focus rfl)) | (go_simp <;> with_reducible rfl))); simp only [Act.put, List.setIfInBounds_toArray, List.set_cons_zero, List.set_cons_succ]))
      refine ChainL.nil ?_
      clear c0 c1 c2 c3 c4 c5 c6 c7 c8 c9 c10
      have c0 := K.cell 0; have c1 := K.cell 1; have c2 := K.cell 2; have c3 := K.cell 3; have c4 := K.cell 4; have hkl := K.lt; simp only [List.getElem?_toArray, List.getElem?_cons_zero, List.getElem?_cons_succ] at c0 c1 c2 c3 c4
      go_wp2
      go_meet
      case rel => exact ⟨rfl, none, 0, rfl, _, H, List.Mem.head _, fun j z h => by simp at h⟩
    · as_aux_lemma =>
      have hn : n = 1 := HN.out.symm
      subst hn
      have QM := fun W => eqM_run a 0 0 a 16384 0 0 16384 W
      rw [show eq4 a 0 0 a 16384 0 0 16384 = false from by unfold eq4; simp; omega] at QM
      have QG := eqM_guard a 0 0 a 16384 0 0 16384
      go_wp2
      refine wp_region_chain (fun W' => Blk W' kp 36 #[.int .i64 g, .int .i64 a, .int .i64 0, .int .i64 0, .int .i64 a, .bool mm, .int .i64 x, .int .i64 y, .bool t, .int .i64 p, .int .i64 qq]) [(0, false), (1, false), (2, true), (3, false), (4, false)] (by kernel_rfl) (by kernel_rfl) (K.below ((Below.refl _ _).drew)) ?_
      repeat (first
        | (refine ChainL.skip (o := ?_) ?_ ?_ ?_; rotate_left; (focus (first | (simp only [List.getElem?_toArray, List.getElem?_cons_succ, List.getElem?_cons_zero]; with_reducible rfl) | (simp only [List.getElem?_toArray, List.getElem?_cons_zero]; with_reducible rfl))); (focus rfl); simp only [Act.put, List.setIfInBounds_toArray, List.set_cons_zero, List.set_cons_succ])
        | (refine ChainL.val (o := ?_) (v := ?_) ?_ ?_ ?_ ?_ ?_; rotate_left 2; (focus (first | (simp only [List.getElem?_toArray, List.getElem?_cons_succ, List.getElem?_cons_zero]; with_reducible rfl) | (simp only [List.getElem?_toArray, List.getElem?_cons_zero]; with_reducible rfl))); (focus (intro _ _ h; cases h)); (focus rfl); (focus (intro w' hI; have hL := run_loadAt_mid (P := Try.prog) w' kp 1 34 [.int .i64 a, .int .i64 0, .int .i64 0, .int .i64 a] _ (mid_part hI) Try.underlying34 rfl (by kernel_rfl); first | (have H := fun ρ o x => @exec_load _ ρ o _ _ x _ _ hL; refine H _ _ ?_ ?_ ?_; rotate_left; (focus rfl); (focus rfl)) | (go_simp <;> with_reducible rfl))); simp only [Act.put, List.setIfInBounds_toArray, List.set_cons_zero, List.set_cons_succ]))
      refine ChainL.call (o := ?_) (f := ?_) (args := ?_) ?_ ?_ ?_ ?_
      rotate_left 3
      (focus (simp only [List.getElem?_toArray, List.getElem?_cons_succ, List.getElem?_cons_zero]; with_reducible rfl))
      (focus rfl)
      (focus (go_simp; (constructor <;> with_reducible rfl)))
      refine (RO _).mono ?_
      rintro e w1 ⟨rfl, b1⟩
      have K := (K.below ((Below.refl _ _).drew)).below b1; have H := (H.below ((Below.refl _ _).drew)).below b1; refine ⟨_, rfl, K, ?_⟩
      simp only [Act.put, List.setIfInBounds_toArray, List.set_cons_zero, List.set_cons_succ]
      repeat (first
        | (refine ChainL.skip (o := ?_) ?_ ?_ ?_; rotate_left; (focus (first | (simp only [List.getElem?_toArray, List.getElem?_cons_succ, List.getElem?_cons_zero]; with_reducible rfl) | (simp only [List.getElem?_toArray, List.getElem?_cons_zero]; with_reducible rfl))); (focus rfl); simp only [Act.put, List.setIfInBounds_toArray, List.set_cons_zero, List.set_cons_succ])
        | (refine ChainL.val (o := ?_) (v := ?_) ?_ ?_ ?_ ?_ ?_; rotate_left 2; (focus (first | (simp only [List.getElem?_toArray, List.getElem?_cons_succ, List.getElem?_cons_zero]; with_reducible rfl) | (simp only [List.getElem?_toArray, List.getElem?_cons_zero]; with_reducible rfl))); (focus (intro _ _ h; cases h)); (focus rfl); (focus (intro w' hI; have hL := run_loadAt_mid (P := Try.prog) w' kp 1 34 [.int .i64 a, .int .i64 0, .int .i64 0, .int .i64 a] _ (mid_part hI) Try.underlying34 rfl (by kernel_rfl); first | (have H := fun ρ o x => @exec_load _ ρ o _ _ x _ _ hL; refine H _ _ ?_ ?_ ?_; rotate_left; (focus rfl); (focus rfl)) | (go_simp <;> with_reducible rfl))); simp only [Act.put, List.setIfInBounds_toArray, List.set_cons_zero, List.set_cons_succ]))
      refine ChainL.nil ?_
      clear c0 c1 c2 c3 c4 c5 c6 c7 c8 c9 c10
      have c0 := K.cell 0; have c1 := K.cell 1; have c2 := K.cell 2; have c3 := K.cell 3; have c4 := K.cell 4; have hkl := K.lt; simp only [List.getElem?_toArray, List.getElem?_cons_zero, List.getElem?_cons_succ] at c0 c1 c2 c3 c4
      go_wp2
      have H := (H.new 3 #[.int .i64 a] _ rfl).below ((Below.refl _ _).drew)
      refine wp_region_chain (fun W' => Blk W' kp 36 #[.int .i64 g, .int .i64 a, .int .i64 0, .int .i64 0, .int .i64 a, .bool mm, .int .i64 x, .int .i64 y, .bool t, .int .i64 p, .int .i64 qq]) [(0, false), (1, false), (2, false), (3, false), (4, false), (6, false), (5, true), (7, false)] (by kernel_rfl) (by kernel_rfl) (K.below ((Below.refl _ _).drew)) ?_
      repeat (first
        | (refine ChainL.skip (o := ?_) ?_ ?_ ?_; rotate_left; (focus (first | (simp only [List.getElem?_toArray, List.getElem?_cons_succ, List.getElem?_cons_zero]; with_reducible rfl) | (simp only [List.getElem?_toArray, List.getElem?_cons_zero]; with_reducible rfl))); (focus rfl); simp only [Act.put, List.setIfInBounds_toArray, List.set_cons_zero, List.set_cons_succ])
        | (refine ChainL.val (o := ?_) (v := ?_) ?_ ?_ ?_ ?_ ?_; rotate_left 2; (focus (first | (simp only [List.getElem?_toArray, List.getElem?_cons_succ, List.getElem?_cons_zero]; with_reducible rfl) | (simp only [List.getElem?_toArray, List.getElem?_cons_zero]; with_reducible rfl))); (focus (intro _ _ h; cases h)); (focus rfl); (focus (intro w' hI; have c0 := hI.cell 0; have c1 := hI.cell 1; have c2 := hI.cell 2; have c3 := hI.cell 3; have c4 := hI.cell 4; have hkl := hI.lt; simp only [List.getElem?_toArray, List.getElem?_cons_zero, List.getElem?_cons_succ] at c0 c1 c2 c3 c4; go_simp <;> with_reducible rfl)); simp only [Act.put, List.setIfInBounds_toArray, List.set_cons_zero, List.set_cons_succ]))
      refine ChainL.does (o := ?_) (v := ?_) (w1 := ?_) ?_ ?_ ?_ ?_ ?_
      rotate_left 3
      (focus (simp only [List.getElem?_toArray, List.getElem?_cons_succ, List.getElem?_cons_zero]; with_reducible rfl))
      (focus rfl)
      (focus (go_simp; (constructor <;> with_reducible rfl)))
      (focus (exact H.blk (List.Mem.tail _ (List.Mem.head _))))
      simp only [Act.put, List.setIfInBounds_toArray, List.set_cons_zero, List.set_cons_succ]
      repeat (first
        | (refine ChainL.skip (o := ?_) ?_ ?_ ?_; rotate_left; (focus (first | (simp only [List.getElem?_toArray, List.getElem?_cons_succ, List.getElem?_cons_zero]; with_reducible rfl) | (simp only [List.getElem?_toArray, List.getElem?_cons_zero]; with_reducible rfl))); (focus rfl); simp only [Act.put, List.setIfInBounds_toArray, List.set_cons_zero, List.set_cons_succ])
        | (refine ChainL.val (o := ?_) (v := ?_) ?_ ?_ ?_ ?_ ?_; rotate_left 2; (focus (first | (simp only [List.getElem?_toArray, List.getElem?_cons_succ, List.getElem?_cons_zero]; with_reducible rfl) | (simp only [List.getElem?_toArray, List.getElem?_cons_zero]; with_reducible rfl))); (focus (intro _ _ h; cases h)); (focus rfl); (focus (intro w' hI; have c0 := hI.cell 0; have c1 := hI.cell 1; have c2 := hI.cell 2; have c3 := hI.cell 3; have c4 := hI.cell 4; have hkl := hI.lt; simp only [List.getElem?_toArray, List.getElem?_cons_zero, List.getElem?_cons_succ] at c0 c1 c2 c3 c4; go_simp <;> with_reducible rfl)); simp only [Act.put, List.setIfInBounds_toArray, List.set_cons_zero, List.set_cons_succ]))
      refine ChainL.nil ?_
      go_wp2
      go_meet
      case rel => exact ⟨rfl, some _, _, rfl, _, H, List.Mem.tail _ (List.Mem.head _), fun j z h => ⟨_, rfl, List.Mem.head _⟩⟩
    · as_aux_lemma =>
      have hn : n = 2 := HN.out.symm
      subst hn
      have QM := fun W => eqM_run a 0 0 d 16384 0 0 16384 W
      rw [show eq4 a 0 0 d 16384 0 0 16384 = false from by unfold eq4; simp; omega] at QM
      have QG := eqM_guard a 0 0 d 16384 0 0 16384
      go_wp2
      refine wp_region_chain (fun W' => Blk W' kp 36 #[.int .i64 g, .int .i64 a, .int .i64 0, .int .i64 0, .int .i64 d, .bool mm, .int .i64 x, .int .i64 y, .bool t, .int .i64 p, .int .i64 qq]) [(0, false), (1, false), (2, true), (3, false), (4, false)] (by kernel_rfl) (by kernel_rfl) (K.below ((Below.refl _ _).drew)) ?_
      repeat (first
        | (refine ChainL.skip (o := ?_) ?_ ?_ ?_; rotate_left; (focus (first | (simp only [List.getElem?_toArray, List.getElem?_cons_succ, List.getElem?_cons_zero]; with_reducible rfl) | (simp only [List.getElem?_toArray, List.getElem?_cons_zero]; with_reducible rfl))); (focus rfl); simp only [Act.put, List.setIfInBounds_toArray, List.set_cons_zero, List.set_cons_succ])
        | (refine ChainL.val (o := ?_) (v := ?_) ?_ ?_ ?_ ?_ ?_; rotate_left 2; (focus (first | (simp only [List.getElem?_toArray, List.getElem?_cons_succ, List.getElem?_cons_zero]; with_reducible rfl) | (simp only [List.getElem?_toArray, List.getElem?_cons_zero]; with_reducible rfl))); (focus (intro _ _ h; cases h)); (focus rfl); (focus (intro w' hI; have hL := run_loadAt_mid (P := Try.prog) w' kp 1 34 [.int .i64 a, .int .i64 0, .int .i64 0, .int .i64 d] _ (mid_part hI) Try.underlying34 rfl (by kernel_rfl); first | (have H := fun ρ o x => @exec_load _ ρ o _ _ x _ _ hL; refine H _ _ ?_ ?_ ?_; rotate_left; (focus rfl); (focus rfl)) | (go_simp <;> with_reducible rfl))); simp only [Act.put, List.setIfInBounds_toArray, List.set_cons_zero, List.set_cons_succ]))
      refine ChainL.call (o := ?_) (f := ?_) (args := ?_) ?_ ?_ ?_ ?_
      rotate_left 3
      (focus (simp only [List.getElem?_toArray, List.getElem?_cons_succ, List.getElem?_cons_zero]; with_reducible rfl))
      (focus rfl)
      (focus (go_simp; (constructor <;> with_reducible rfl)))
      refine (RO _).mono ?_
      rintro e w1 ⟨rfl, b1⟩
      have K := (K.below ((Below.refl _ _).drew)).below b1; have H := (H.below ((Below.refl _ _).drew)).below b1; refine ⟨_, rfl, K, ?_⟩
      simp only [Act.put, List.setIfInBounds_toArray, List.set_cons_zero, List.set_cons_succ]
      repeat (first
        | (refine ChainL.skip (o := ?_) ?_ ?_ ?_; rotate_left; (focus (first | (simp only [List.getElem?_toArray, List.getElem?_cons_succ, List.getElem?_cons_zero]; with_reducible rfl) | (simp only [List.getElem?_toArray, List.getElem?_cons_zero]; with_reducible rfl))); (focus rfl); simp only [Act.put, List.setIfInBounds_toArray, List.set_cons_zero, List.set_cons_succ])
        | (refine ChainL.val (o := ?_) (v := ?_) ?_ ?_ ?_ ?_ ?_; rotate_left 2; (focus (first | (simp only [List.getElem?_toArray, List.getElem?_cons_succ, List.getElem?_cons_zero]; with_reducible rfl) | (simp only [List.getElem?_toArray, List.getElem?_cons_zero]; with_reducible rfl))); (focus (intro _ _ h; cases h)); (focus rfl); (focus (intro w' hI; have hL := run_loadAt_mid (P := Try.prog) w' kp 1 34 [.int .i64 a, .int .i64 0, .int .i64 0, .int .i64 d] _ (mid_part hI) Try.underlying34 rfl (by kernel_rfl); first | (have H := fun ρ o x => @exec_load _ ρ o _ _ x _ _ hL; refine H _ _ ?_ ?_ ?_; rotate_left; (focus rfl); (focus rfl)) | (go_simp <;> with_reducible rfl))); simp only [Act.put, List.setIfInBounds_toArray, List.set_cons_zero, List.set_cons_succ]))
      refine ChainL.nil ?_
      clear c0 c1 c2 c3 c4 c5 c6 c7 c8 c9 c10
      have c0 := K.cell 0; have c1 := K.cell 1; have c2 := K.cell 2; have c3 := K.cell 3; have c4 := K.cell 4; have hkl := K.lt; simp only [List.getElem?_toArray, List.getElem?_cons_zero, List.getElem?_cons_succ] at c0 c1 c2 c3 c4
      go_wp2
      have H := (H.new 3 #[.int .i64 a, .int .i64 d] _ rfl).below ((Below.refl _ _).drew)
      refine wp_region_chain (fun W' => Blk W' kp 36 #[.int .i64 g, .int .i64 a, .int .i64 0, .int .i64 0, .int .i64 d, .bool mm, .int .i64 x, .int .i64 y, .bool t, .int .i64 p, .int .i64 qq]) [(0, false), (1, false), (2, false), (3, false), (4, false), (5, false), (6, false), (7, false), (9, false), (8, true), (10, false)] (by kernel_rfl) (by kernel_rfl) (K.below ((Below.refl _ _).drew)) ?_
      repeat (first
        | (refine ChainL.skip (o := ?_) ?_ ?_ ?_; rotate_left; (focus (first | (simp only [List.getElem?_toArray, List.getElem?_cons_succ, List.getElem?_cons_zero]; with_reducible rfl) | (simp only [List.getElem?_toArray, List.getElem?_cons_zero]; with_reducible rfl))); (focus rfl); simp only [Act.put, List.setIfInBounds_toArray, List.set_cons_zero, List.set_cons_succ])
        | (refine ChainL.val (o := ?_) (v := ?_) ?_ ?_ ?_ ?_ ?_; rotate_left 2; (focus (first | (simp only [List.getElem?_toArray, List.getElem?_cons_succ, List.getElem?_cons_zero]; with_reducible rfl) | (simp only [List.getElem?_toArray, List.getElem?_cons_zero]; with_reducible rfl))); (focus (intro _ _ h; cases h)); (focus rfl); (focus (intro w' hI; have c0 := hI.cell 0; have c1 := hI.cell 1; have c2 := hI.cell 2; have c3 := hI.cell 3; have c4 := hI.cell 4; have hkl := hI.lt; simp only [List.getElem?_toArray, List.getElem?_cons_zero, List.getElem?_cons_succ] at c0 c1 c2 c3 c4; go_simp <;> with_reducible rfl)); simp only [Act.put, List.setIfInBounds_toArray, List.set_cons_zero, List.set_cons_succ]))
      refine ChainL.does (o := ?_) (v := ?_) (w1 := ?_) ?_ ?_ ?_ ?_ ?_
      rotate_left 3
      (focus (simp only [List.getElem?_toArray, List.getElem?_cons_succ, List.getElem?_cons_zero]; with_reducible rfl))
      (focus rfl)
      (focus (go_simp; (constructor <;> with_reducible rfl)))
      (focus (exact H.blk (List.Mem.tail _ (List.Mem.head _))))
      simp only [Act.put, List.setIfInBounds_toArray, List.set_cons_zero, List.set_cons_succ]
      repeat (first
        | (refine ChainL.skip (o := ?_) ?_ ?_ ?_; rotate_left; (focus (first | (simp only [List.getElem?_toArray, List.getElem?_cons_succ, List.getElem?_cons_zero]; with_reducible rfl) | (simp only [List.getElem?_toArray, List.getElem?_cons_zero]; with_reducible rfl))); (focus rfl); simp only [Act.put, List.setIfInBounds_toArray, List.set_cons_zero, List.set_cons_succ])
        | (refine ChainL.val (o := ?_) (v := ?_) ?_ ?_ ?_ ?_ ?_; rotate_left 2; (focus (first | (simp only [List.getElem?_toArray, List.getElem?_cons_succ, List.getElem?_cons_zero]; with_reducible rfl) | (simp only [List.getElem?_toArray, List.getElem?_cons_zero]; with_reducible rfl))); (focus (intro _ _ h; cases h)); (focus rfl); (focus (intro w' hI; have c0 := hI.cell 0; have c1 := hI.cell 1; have c2 := hI.cell 2; have c3 := hI.cell 3; have c4 := hI.cell 4; have hkl := hI.lt; simp only [List.getElem?_toArray, List.getElem?_cons_zero, List.getElem?_cons_succ] at c0 c1 c2 c3 c4; go_simp <;> with_reducible rfl)); simp only [Act.put, List.setIfInBounds_toArray, List.set_cons_zero, List.set_cons_succ]))
      refine ChainL.nil ?_
      go_wp2
      go_meet
      case rel => exact ⟨rfl, some _, _, rfl, _, H, List.Mem.tail _ (List.Mem.head _), fun j z h => ⟨_, rfl, List.Mem.head _⟩⟩
    · rcases h1 with h1 | ⟨rfl, h1⟩
      · as_aux_lemma =>
        have hn : n = 4 := HN.out.symm
        subst hn
        have QM := fun W => eqM_run a b c d 16384 0 0 16384 W
        rw [show eq4 a b c d 16384 0 0 16384 = false from by unfold eq4; simp; omega] at QM
        have QG := eqM_guard a b c d 16384 0 0 16384
        go_wp2
        refine wp_region_chain (fun W' => Blk W' kp 36 #[.int .i64 g, .int .i64 a, .int .i64 b, .int .i64 c, .int .i64 d, .bool mm, .int .i64 x, .int .i64 y, .bool t, .int .i64 p, .int .i64 qq]) [(0, false), (1, false), (2, true), (3, false), (4, false)] (by kernel_rfl) (by kernel_rfl) (K.below ((Below.refl _ _).drew)) ?_
        repeat (first
          | (refine ChainL.skip (o := ?_) ?_ ?_ ?_; rotate_left; (focus (first | (simp only [List.getElem?_toArray, List.getElem?_cons_succ, List.getElem?_cons_zero]; with_reducible rfl) | (simp only [List.getElem?_toArray, List.getElem?_cons_zero]; with_reducible rfl))); (focus rfl); simp only [Act.put, List.setIfInBounds_toArray, List.set_cons_zero, List.set_cons_succ])
          | (refine ChainL.val (o := ?_) (v := ?_) ?_ ?_ ?_ ?_ ?_; rotate_left 2; (focus (first | (simp only [List.getElem?_toArray, List.getElem?_cons_succ, List.getElem?_cons_zero]; with_reducible rfl) | (simp only [List.getElem?_toArray, List.getElem?_cons_zero]; with_reducible rfl))); (focus (intro _ _ h; cases h)); (focus rfl); (focus (intro w' hI; have hL := run_loadAt_mid (P := Try.prog) w' kp 1 34 [.int .i64 a, .int .i64 b, .int .i64 c, .int .i64 d] _ (mid_part hI) Try.underlying34 rfl (by kernel_rfl); first | (have H := fun ρ o x => @exec_load _ ρ o _ _ x _ _ hL; refine H _ _ ?_ ?_ ?_; rotate_left; (focus rfl); (focus rfl)) | (go_simp <;> with_reducible rfl))); simp only [Act.put, List.setIfInBounds_toArray, List.set_cons_zero, List.set_cons_succ]))
        refine ChainL.call (o := ?_) (f := ?_) (args := ?_) ?_ ?_ ?_ ?_
        rotate_left 3
        (focus (simp only [List.getElem?_toArray, List.getElem?_cons_succ, List.getElem?_cons_zero]; with_reducible rfl))
        (focus rfl)
        (focus (go_simp; (constructor <;> with_reducible rfl)))
        refine (RO _).mono ?_
        rintro e w1 ⟨rfl, b1⟩
        have K := (K.below ((Below.refl _ _).drew)).below b1; have H := (H.below ((Below.refl _ _).drew)).below b1; refine ⟨_, rfl, K, ?_⟩
        simp only [Act.put, List.setIfInBounds_toArray, List.set_cons_zero, List.set_cons_succ]
        repeat (first
          | (refine ChainL.skip (o := ?_) ?_ ?_ ?_; rotate_left; (focus (first | (simp only [List.getElem?_toArray, List.getElem?_cons_succ, List.getElem?_cons_zero]; with_reducible rfl) | (simp only [List.getElem?_toArray, List.getElem?_cons_zero]; with_reducible rfl))); (focus rfl); simp only [Act.put, List.setIfInBounds_toArray, List.set_cons_zero, List.set_cons_succ])
          | (refine ChainL.val (o := ?_) (v := ?_) ?_ ?_ ?_ ?_ ?_; rotate_left 2; (focus (first | (simp only [List.getElem?_toArray, List.getElem?_cons_succ, List.getElem?_cons_zero]; with_reducible rfl) | (simp only [List.getElem?_toArray, List.getElem?_cons_zero]; with_reducible rfl))); (focus (intro _ _ h; cases h)); (focus rfl); (focus (intro w' hI; have hL := run_loadAt_mid (P := Try.prog) w' kp 1 34 [.int .i64 a, .int .i64 b, .int .i64 c, .int .i64 d] _ (mid_part hI) Try.underlying34 rfl (by kernel_rfl); first | (have H := fun ρ o x => @exec_load _ ρ o _ _ x _ _ hL; refine H _ _ ?_ ?_ ?_; rotate_left; (focus rfl); (focus rfl)) | (go_simp <;> with_reducible rfl))); simp only [Act.put, List.setIfInBounds_toArray, List.set_cons_zero, List.set_cons_succ]))
        refine ChainL.nil ?_
        clear c0 c1 c2 c3 c4 c5 c6 c7 c8 c9 c10
        have c0 := K.cell 0; have c1 := K.cell 1; have c2 := K.cell 2; have c3 := K.cell 3; have c4 := K.cell 4; have hkl := K.lt; simp only [List.getElem?_toArray, List.getElem?_cons_zero, List.getElem?_cons_succ] at c0 c1 c2 c3 c4
        go_wp2
        have H := (H.new 3 #[.int .i64 a, .int .i64 b, .int .i64 c, .int .i64 d] _ rfl).below ((Below.refl _ _).drew)
        refine wp_region_chain (fun W' => Blk W' kp 36 #[.int .i64 g, .int .i64 a, .int .i64 b, .int .i64 c, .int .i64 d, .bool mm, .int .i64 x, .int .i64 y, .bool t, .int .i64 p, .int .i64 qq]) [(0, false), (1, false), (2, false), (3, false), (4, false), (5, false), (6, false), (7, false), (8, false), (9, false), (10, false), (11, false), (12, false), (13, false), (15, false), (14, true), (16, false)] (by kernel_rfl) (by kernel_rfl) (K.below ((Below.refl _ _).drew)) ?_
        repeat (first
          | (refine ChainL.skip (o := ?_) ?_ ?_ ?_; rotate_left; (focus (first | (simp only [List.getElem?_toArray, List.getElem?_cons_succ, List.getElem?_cons_zero]; with_reducible rfl) | (simp only [List.getElem?_toArray, List.getElem?_cons_zero]; with_reducible rfl))); (focus rfl); simp only [Act.put, List.setIfInBounds_toArray, List.set_cons_zero, List.set_cons_succ])
          | (refine ChainL.val (o := ?_) (v := ?_) ?_ ?_ ?_ ?_ ?_; rotate_left 2; (focus (first | (simp only [List.getElem?_toArray, List.getElem?_cons_succ, List.getElem?_cons_zero]; with_reducible rfl) | (simp only [List.getElem?_toArray, List.getElem?_cons_zero]; with_reducible rfl))); (focus (intro _ _ h; cases h)); (focus rfl); (focus (intro w' hI; have c0 := hI.cell 0; have c1 := hI.cell 1; have c2 := hI.cell 2; have c3 := hI.cell 3; have c4 := hI.cell 4; have hkl := hI.lt; simp only [List.getElem?_toArray, List.getElem?_cons_zero, List.getElem?_cons_succ] at c0 c1 c2 c3 c4; go_simp <;> with_reducible rfl)); simp only [Act.put, List.setIfInBounds_toArray, List.set_cons_zero, List.set_cons_succ]))
        refine ChainL.does (o := ?_) (v := ?_) (w1 := ?_) ?_ ?_ ?_ ?_ ?_
        rotate_left 3
        (focus (simp only [List.getElem?_toArray, List.getElem?_cons_succ, List.getElem?_cons_zero]; with_reducible rfl))
        (focus rfl)
        (focus (go_simp; (constructor <;> with_reducible rfl)))
        (focus (exact H.blk (List.Mem.tail _ (List.Mem.head _))))
        simp only [Act.put, List.setIfInBounds_toArray, List.set_cons_zero, List.set_cons_succ]
        repeat (first
          | (refine ChainL.skip (o := ?_) ?_ ?_ ?_; rotate_left; (focus (first | (simp only [List.getElem?_toArray, List.getElem?_cons_succ, List.getElem?_cons_zero]; with_reducible rfl) | (simp only [List.getElem?_toArray, List.getElem?_cons_zero]; with_reducible rfl))); (focus rfl); simp only [Act.put, List.setIfInBounds_toArray, List.set_cons_zero, List.set_cons_succ])
          | (refine ChainL.val (o := ?_) (v := ?_) ?_ ?_ ?_ ?_ ?_; rotate_left 2; (focus (first | (simp only [List.getElem?_toArray, List.getElem?_cons_succ, List.getElem?_cons_zero]; with_reducible rfl) | (simp only [List.getElem?_toArray, List.getElem?_cons_zero]; with_reducible rfl))); (focus (intro _ _ h; cases h)); (focus rfl); (focus (intro w' hI; have c0 := hI.cell 0; have c1 := hI.cell 1; have c2 := hI.cell 2; have c3 := hI.cell 3; have c4 := hI.cell 4; have hkl := hI.lt; simp only [List.getElem?_toArray, List.getElem?_cons_zero, List.getElem?_cons_succ] at c0 c1 c2 c3 c4; go_simp <;> with_reducible rfl)); simp only [Act.put, List.setIfInBounds_toArray, List.set_cons_zero, List.set_cons_succ]))
        refine ChainL.nil ?_
        go_wp2
        go_meet
        case rel => exact ⟨rfl, some _, _, rfl, _, H, List.Mem.tail _ (List.Mem.head _), fun j z h => ⟨_, rfl, List.Mem.head _⟩⟩
      · as_aux_lemma =>
        have hn : n = 4 := HN.out.symm
        subst hn
        have QM := fun W => eqM_run a 0 c d 16384 0 0 16384 W
        rw [show eq4 a 0 c d 16384 0 0 16384 = false from by unfold eq4; simp; omega] at QM
        have QG := eqM_guard a 0 c d 16384 0 0 16384
        go_wp2
        refine wp_region_chain (fun W' => Blk W' kp 36 #[.int .i64 g, .int .i64 a, .int .i64 0, .int .i64 c, .int .i64 d, .bool mm, .int .i64 x, .int .i64 y, .bool t, .int .i64 p, .int .i64 qq]) [(0, false), (1, false), (2, true), (3, false), (4, false)] (by kernel_rfl) (by kernel_rfl) (K.below ((Below.refl _ _).drew)) ?_
        repeat (first
          | (refine ChainL.skip (o := ?_) ?_ ?_ ?_; rotate_left; (focus (first | (simp only [List.getElem?_toArray, List.getElem?_cons_succ, List.getElem?_cons_zero]; with_reducible rfl) | (simp only [List.getElem?_toArray, List.getElem?_cons_zero]; with_reducible rfl))); (focus rfl); simp only [Act.put, List.setIfInBounds_toArray, List.set_cons_zero, List.set_cons_succ])
          | (refine ChainL.val (o := ?_) (v := ?_) ?_ ?_ ?_ ?_ ?_; rotate_left 2; (focus (first | (simp only [List.getElem?_toArray, List.getElem?_cons_succ, List.getElem?_cons_zero]; with_reducible rfl) | (simp only [List.getElem?_toArray, List.getElem?_cons_zero]; with_reducible rfl))); (focus (intro _ _ h; cases h)); (focus rfl); (focus (intro w' hI; have hL := run_loadAt_mid (P := Try.prog) w' kp 1 34 [.int .i64 a, .int .i64 0, .int .i64 c, .int .i64 d] _ (mid_part hI) Try.underlying34 rfl (by kernel_rfl); first | (have H := fun ρ o x => @exec_load _ ρ o _ _ x _ _ hL; refine H _ _ ?_ ?_ ?_; rotate_left; (focus rfl); (focus rfl)) | (go_simp <;> with_reducible rfl))); simp only [Act.put, List.setIfInBounds_toArray, List.set_cons_zero, List.set_cons_succ]))
        refine ChainL.call (o := ?_) (f := ?_) (args := ?_) ?_ ?_ ?_ ?_
        rotate_left 3
        (focus (simp only [List.getElem?_toArray, List.getElem?_cons_succ, List.getElem?_cons_zero]; with_reducible rfl))
        (focus rfl)
        (focus (go_simp; (constructor <;> with_reducible rfl)))
        refine (RO _).mono ?_
        rintro e w1 ⟨rfl, b1⟩
        have K := (K.below ((Below.refl _ _).drew)).below b1; have H := (H.below ((Below.refl _ _).drew)).below b1; refine ⟨_, rfl, K, ?_⟩
        simp only [Act.put, List.setIfInBounds_toArray, List.set_cons_zero, List.set_cons_succ]
        repeat (first
          | (refine ChainL.skip (o := ?_) ?_ ?_ ?_; rotate_left; (focus (first | (simp only [List.getElem?_toArray, List.getElem?_cons_succ, List.getElem?_cons_zero]; with_reducible rfl) | (simp only [List.getElem?_toArray, List.getElem?_cons_zero]; with_reducible rfl))); (focus rfl); simp only [Act.put, List.setIfInBounds_toArray, List.set_cons_zero, List.set_cons_succ])
          | (refine ChainL.val (o := ?_) (v := ?_) ?_ ?_ ?_ ?_ ?_; rotate_left 2; (focus (first | (simp only [List.getElem?_toArray, List.getElem?_cons_succ, List.getElem?_cons_zero]; with_reducible rfl) | (simp only [List.getElem?_toArray, List.getElem?_cons_zero]; with_reducible rfl))); (focus (intro _ _ h; cases h)); (focus rfl); (focus (intro w' hI; have hL := run_loadAt_mid (P := Try.prog) w' kp 1 34 [.int .i64 a, .int .i64 0, .int .i64 c, .int .i64 d] _ (mid_part hI) Try.underlying34 rfl (by kernel_rfl); first | (have H := fun ρ o x => @exec_load _ ρ o _ _ x _ _ hL; refine H _ _ ?_ ?_ ?_; rotate_left; (focus rfl); (focus rfl)) | (go_simp <;> with_reducible rfl))); simp only [Act.put, List.setIfInBounds_toArray, List.set_cons_zero, List.set_cons_succ]))
        refine ChainL.nil ?_
        clear c0 c1 c2 c3 c4 c5 c6 c7 c8 c9 c10
        have c0 := K.cell 0; have c1 := K.cell 1; have c2 := K.cell 2; have c3 := K.cell 3; have c4 := K.cell 4; have hkl := K.lt; simp only [List.getElem?_toArray, List.getElem?_cons_zero, List.getElem?_cons_succ] at c0 c1 c2 c3 c4
        go_wp2
        have H := (H.new 3 #[.int .i64 a, .int .i64 0, .int .i64 c, .int .i64 d] _ rfl).below ((Below.refl _ _).drew)
        refine wp_region_chain (fun W' => Blk W' kp 36 #[.int .i64 g, .int .i64 a, .int .i64 0, .int .i64 c, .int .i64 d, .bool mm, .int .i64 x, .int .i64 y, .bool t, .int .i64 p, .int .i64 qq]) [(0, false), (1, false), (2, false), (3, false), (4, false), (5, false), (6, false), (7, false), (8, false), (9, false), (10, false), (11, false), (12, false), (13, false), (15, false), (14, true), (16, false)] (by kernel_rfl) (by kernel_rfl) (K.below ((Below.refl _ _).drew)) ?_
        repeat (first
          | (refine ChainL.skip (o := ?_) ?_ ?_ ?_; rotate_left; (focus (first | (simp only [List.getElem?_toArray, List.getElem?_cons_succ, List.getElem?_cons_zero]; with_reducible rfl) | (simp only [List.getElem?_toArray, List.getElem?_cons_zero]; with_reducible rfl))); (focus rfl); simp only [Act.put, List.setIfInBounds_toArray, List.set_cons_zero, List.set_cons_succ])
          | (refine ChainL.val (o := ?_) (v := ?_) ?_ ?_ ?_ ?_ ?_; rotate_left 2; (focus (first | (simp only [List.getElem?_toArray, List.getElem?_cons_succ, List.getElem?_cons_zero]; with_reducible rfl) | (simp only [List.getElem?_toArray, List.getElem?_cons_zero]; with_reducible rfl))); (focus (intro _ _ h; cases h)); (focus rfl); (focus (intro w' hI; have c0 := hI.cell 0; have c1 := hI.cell 1; have c2 := hI.cell 2; have c3 := hI.cell 3; have c4 := hI.cell 4; have hkl := hI.lt; simp only [List.getElem?_toArray, List.getElem?_cons_zero, List.getElem?_cons_succ] at c0 c1 c2 c3 c4; go_simp <;> with_reducible rfl)); simp only [Act.put, List.setIfInBounds_toArray, List.set_cons_zero, List.set_cons_succ]))
        refine ChainL.does (o := ?_) (v := ?_) (w1 := ?_) ?_ ?_ ?_ ?_ ?_
        rotate_left 3
        (focus (simp only [List.getElem?_toArray, List.getElem?_cons_succ, List.getElem?_cons_zero]; with_reducible rfl))
        (focus rfl)
        (focus (go_simp; (constructor <;> with_reducible rfl)))
        (focus (exact H.blk (List.Mem.tail _ (List.Mem.head _))))
        simp only [Act.put, List.setIfInBounds_toArray, List.set_cons_zero, List.set_cons_succ]
        repeat (first
          | (refine ChainL.skip (o := ?_) ?_ ?_ ?_; rotate_left; (focus (first | (simp only [List.getElem?_toArray, List.getElem?_cons_succ, List.getElem?_cons_zero]; with_reducible rfl) | (simp only [List.getElem?_toArray, List.getElem?_cons_zero]; with_reducible rfl))); (focus rfl); simp only [Act.put, List.setIfInBounds_toArray, List.set_cons_zero, List.set_cons_succ])
          | (refine ChainL.val (o := ?_) (v := ?_) ?_ ?_ ?_ ?_ ?_; rotate_left 2; (focus (first | (simp only [List.getElem?_toArray, List.getElem?_cons_succ, List.getElem?_cons_zero]; with_reducible rfl) | (simp only [List.getElem?_toArray, List.getElem?_cons_zero]; with_reducible rfl))); (focus (intro _ _ h; cases h)); (focus rfl); (focus (intro w' hI; have c0 := hI.cell 0; have c1 := hI.cell 1; have c2 := hI.cell 2; have c3 := hI.cell 3; have c4 := hI.cell 4; have hkl := hI.lt; simp only [List.getElem?_toArray, List.getElem?_cons_zero, List.getElem?_cons_succ] at c0 c1 c2 c3 c4; go_simp <;> with_reducible rfl)); simp only [Act.put, List.setIfInBounds_toArray, List.set_cons_zero, List.set_cons_succ]))
        refine ChainL.nil ?_
        go_wp2
        go_meet
        case rel => exact ⟨rfl, some _, _, rfl, _, H, List.Mem.tail _ (List.Mem.head _), fun j z h => ⟨_, rfl, List.Mem.head _⟩⟩
  case rest =>
  obtain ⟨rfl, A, cc, rfl, KS, H, hk, hm⟩ := hcut
  clear K c0 c1 c2 c3 c4 c5 c6 c7 c8 c9 c10 hkl HF
  have HM := Lib.hid hm
  clear hm
  generalize f3Of F2 fm = F3 at *
  go_upto_if 120 with (fail)
  go_cut [6] from 13 (fun f wx => f = .int .i64 (f4Of F3 more) ∧ wx = wc)
  case first =>
    cases more
    all_goals
      go_wp2
      go_meet
      case rel => exact ⟨rfl, rfl⟩
  case rest =>
  obtain ⟨rfl, rfl⟩ := hcut
  generalize f4Of F3 more = F at *
  cases s
  · as_aux_lemma =>
    go_wp2_with (first | (go_at_call 33; ((with_reducible refine (rwk_u2 w0 _ q R _ _ _ H (by first | omega | (simp [be1, be2]; omega)) hR).mono ?_); rintro e V1 ⟨rfl, H1⟩; have KK := H1.blk hk; have g0 := KK.cell 0; have gl := KK.lt; simp only [List.getElem?_toArray, List.getElem?_cons_zero] at g0)) | (go_at_call 33; ((with_reducible refine (rwk_u2 w0 _ q R _ _ _ H1 (by first | omega | (simp [be1, be2]; omega)) hR).mono ?_); rintro e V2 ⟨rfl, H2⟩)) | (go_at_call 33; ((with_reducible refine (rwk_u2 w0 _ q R _ _ _ H2 (by first | omega | (simp [be1, be2]; omega)) hR).mono ?_); rintro e V3 ⟨rfl, H3⟩)) | (go_at_call 33; ((with_reducible refine (rwk_u2 w0 _ q R _ _ _ H3 (by first | omega | (simp [be1, be2]; omega)) hR).mono ?_); rintro e V4 ⟨rfl, H4⟩)))
    have H4 : RWK w0 V4 q R (L ++ putX F g false u v (ns.take 0)) KS := by have := H4; simpa [putX] using this
    go_loopw [12] (fun i wr => ∃ j : Nat, j ≤ n ∧ i = .int .i64 j ∧ RWK w0 wr q R (L ++ putX F g false u v (ns.take j)) KS) (fun i _ => n - (intOf i).toNat)
    case atStart => exact ⟨0, by omega, rfl, H4⟩
    case round =>
      obtain ⟨j, hj, rfl, HJ⟩ := hrel
      clear H1 H2 H3 H4 H
      by_cases hlt : j < n
      · have d1 : decide ((j : Int) < (n : Int)) = true := by simp; omega
        obtain ⟨z, hz⟩ : ∃ z, ns[j]? = some z := ⟨_, List.getElem?_eq_getElem (by rw [HN.out]; exact hlt)⟩
        have HT := Lib.hid (show ns.take (j + 1) = ns.take j ++ [z] by rw [List.take_add_one, hz]; rfl)
        obtain ⟨mb, rfl, hm⟩ := HM.out j z hz
        have MB := (HJ.blk hm).cell j
        have ML := (HJ.blk hm).lt
        rw [nums_get hz] at MB
        have hl := putX_len F g false u v (ns.take j)
        rw [List.length_take] at hl
        have hl2 : (L ++ putX F g false u v (ns.take j)).length + 2 ≤ R := by
          have h3 := Nat.min_le_left j ns.length
          rw [List.length_append, hl]
          have h4 : (if false = true then 2 else 4) ≤ 4 := by decide
          omega
        clear hz hm hl
        go_wp2_with (go_at_call 33; ((with_reducible refine (rwk_u2 w0 _ q R _ _ _ HJ hl2 hR).mono ?_); rintro e V5 ⟨rfl, H5⟩))
        go_roundw
        case rel => exact ⟨j + 1, by omega, by go_num, by rw [HT.out]; have := H5; simpa [putX] using this⟩
        case measure => simp [intOf]; omega
      · obtain rfl : j = n := by omega
        have d1 : decide ((j : Int) < (j : Int)) = false := by simp
        go_wp2
        go_end0
        refine ⟨rfl, ?_⟩
        rw [List.take_of_length_le (by rw [HN.out]; exact Nat.le_refl _)] at HJ
        exact HJ.drop
  · as_aux_lemma =>
    go_wp2_with (first | (go_at_call 33; ((with_reducible refine (rwk_u2 w0 _ q R _ _ _ H (by first | omega | (simp [be1, be2]; omega)) hR).mono ?_); rintro e V1 ⟨rfl, H1⟩; have KK := H1.blk hk; have g0 := KK.cell 0; have gl := KK.lt; simp only [List.getElem?_toArray, List.getElem?_cons_zero] at g0)) | (go_at_call 33; ((with_reducible refine (rwk_u2 w0 _ q R _ _ _ H1 (by first | omega | (simp [be1, be2]; omega)) hR).mono ?_); rintro e V2 ⟨rfl, H2⟩)) | (go_at_call 33; ((with_reducible refine (rwk_u1 w0 _ q R _ _ _ H2 (by first | omega | (simp [be1, be2]; omega)) hR).mono ?_); rintro e V3 ⟨rfl, H3⟩)) | (go_at_call 33; ((with_reducible refine (rwk_u1 w0 _ q R _ _ _ H3 (by first | omega | (simp [be1, be2]; omega)) hR).mono ?_); rintro e V4 ⟨rfl, H4⟩)))
    have H4 : RWK w0 V4 q R (L ++ putX F g true u v (ns.take 0)) KS := by have := H4; simpa [putX] using this
    go_loopw [12] (fun i wr => ∃ j : Nat, j ≤ n ∧ i = .int .i64 j ∧ RWK w0 wr q R (L ++ putX F g true u v (ns.take j)) KS) (fun i _ => n - (intOf i).toNat)
    case atStart => exact ⟨0, by omega, rfl, H4⟩
    case round =>
      obtain ⟨j, hj, rfl, HJ⟩ := hrel
      clear H1 H2 H3 H4 H
      by_cases hlt : j < n
      · have d1 : decide ((j : Int) < (n : Int)) = true := by simp; omega
        obtain ⟨z, hz⟩ : ∃ z, ns[j]? = some z := ⟨_, List.getElem?_eq_getElem (by rw [HN.out]; exact hlt)⟩
        have HT := Lib.hid (show ns.take (j + 1) = ns.take j ++ [z] by rw [List.take_add_one, hz]; rfl)
        obtain ⟨mb, rfl, hm⟩ := HM.out j z hz
        have MB := (HJ.blk hm).cell j
        have ML := (HJ.blk hm).lt
        rw [nums_get hz] at MB
        have hl := putX_len F g true u v (ns.take j)
        rw [List.length_take] at hl
        have hl2 : (L ++ putX F g true u v (ns.take j)).length + 2 ≤ R := by
          have h3 := Nat.min_le_left j ns.length
          rw [List.length_append, hl]
          have h4 : (if true = true then 2 else 4) ≤ 4 := by decide
          omega
        clear hz hm hl
        go_wp2_with (go_at_call 33; ((with_reducible refine (rwk_u2 w0 _ q R _ _ _ HJ hl2 hR).mono ?_); rintro e V5 ⟨rfl, H5⟩))
        go_roundw
        case rel => exact ⟨j + 1, by omega, by go_num, by rw [HT.out]; have := H5; simpa [putX] using this⟩
        case measure => simp [intOf]; omega
      · obtain rfl : j = n := by omega
        have d1 : decide ((j : Int) < (j : Int)) = false := by simp
        go_wp2
        go_end0
        refine ⟨rfl, ?_⟩
        rw [List.take_of_length_le (by rw [HN.out]; exact Nat.le_refl _)] at HJ
        exact HJ.drop
end Go.Proofs.Ytekailhghjideaa
