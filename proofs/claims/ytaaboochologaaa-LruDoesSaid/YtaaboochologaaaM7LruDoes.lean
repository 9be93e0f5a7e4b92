/- Part 8 of the proof: LrN, LrO, LrP, LrQ. -/
import Derived.Test.YtaaboochologaaaM6LruDoes

namespace Go.Proofs.Ytaaboochologaaa
open Go Go.RowKit
set_option linter.unusedVariables false
set_option linter.unusedSimpArgs false
set_option linter.unusedSectionVars false
variable [Inhabited BanT]

theorem shrE_sub : ∀ (l : List En) (most : Int) (e : En), e ∈ shrE most l → e ∈ l
  | [], most, e, h => by simp [shrE] at h
  | x :: l, most, e, h => by
    unfold shrE at h
    split at h
    · rcases List.mem_cons.1 h with rfl | h
      · simp
      · exact List.mem_cons.2 (.inr (shrE_sub l _ e h))
    · simp at h
theorem dropE_mem {k : Ky} {L : List En} {e : En} (h : e ∈ dropE k L) : e.1 ≠ k := by
  have := (List.mem_filter.1 h).2
  simpa using this
theorem ent_hold2 {PL : List Pl} {i : Nat} {x : Pl} (h : hold (atP PL i) = hold x) : ent PL i = (x.k, x.bx, x.bs) := by
  simp only [hold, Prod.mk.injEq] at h
  unfold ent
  rw [h.1, h.2.1, h.2.2.2]
set_option maxRecDepth 100000 in
set_option maxHeartbeats 2000000 in
theorem lrput_full (B p : Nat) (bud : Int) (L : List En) (C : Cs) (k : Ky) (hk : kyW k) (A : Q) (Am : Option Addr) (n c : Nat) (M : List Value) (w : World) (h : LrS w B p bud L C) (hck : chkB A n = true) (hn : n ≤ 16777216) (hg0 : 64 + (n : Int) ≤ bud) (hl : M.length = n) (hls : Lists w w.heap.size Am M) (h8 : Bytes8 M) (hsep : ∀ a, Am = some a → M ≠ [] → a.block ∉ fpC p C) (hBw : B ≤ w.heap.size) (hban : ∀ b, w.heap.size ≤ b → ¬ banP b) : Calls Try.prog 16 #[.pointer (some ⟨p, 0, none⟩), .agg #[.int .i64 k.1, .int .i64 k.2.1, .int .i64 k.2.2.1, .int .i64 k.2.2.2], .agg #[.int .i64 A.x0, .int .i64 A.y0, .int .i64 A.x1, .int .i64 A.y1, .slice Am n c]] w fun e w' => ∃ C', e = .returned (.tuple #[.bool true, .int .i64 0]) ∧ LrS w' B p bud ((k, A, M) :: shrE (bud - (64 + (n : Int))) (dropE k L)) C' ∧ ModC w w' p C C' := by
  have HN := Lib.hid (show n ≤ 16777216 from hn)
  have HL := Lib.hid (And.intro hl (And.intro hls (And.intro h8 hsep)))
  have HBD := Lib.hid (And.intro hg0 h.sum)
  have HBQ := Lib.hid hBw
  have HBN := Lib.hid hban
  clear hl hls h8 hsep hBw hban
  have B1 : Below w.heap.size w ((w.alloc (.cells #[.int .i64 k.1, .int .i64 k.2.1, .int .i64 k.2.2.1, .int .i64 k.2.2.2] 39)).alloc (.cells #[.int .i64 A.x0, .int .i64 A.y0, .int .i64 A.x1, .int .i64 A.y1, .slice Am n c] 37)) := below_a2 _ _ _
  have HK := Lib.hid (KM.made w k A Am n c)
  have CC := fun W => ckmask_any A Am n c W
  rw [show chkC A n = 0 by unfold chkC; rw [hck]; rfl] at CC
  obtain ⟨wa, hwa⟩ : ∃ wa, wa = (w.alloc (.cells #[.int .i64 k.1, .int .i64 k.2.1, .int .i64 k.2.2.1, .int .i64 k.2.2.2] 39)).alloc (.cells #[.int .i64 A.x0, .int .i64 A.y0, .int .i64 A.x1, .int .i64 A.y1, .slice Am n c] 37) := ⟨_, rfl⟩
  rw [← hwa] at HK B1
  obtain ⟨k0, k1, k2, k3, m0, m1, m2, m3, m4, l1, l2⟩ := HK.out.cells wa (Below.refl _ _)
  have HWA := Lib.hid hwa
  have H := Lib.hid h
  have HD0 := Lib.hid (fun W (hW : Below w.heap.size w W) => lrdrop_any B p bud L C k hk W (h.below hW))
  have HCK := Lib.hid hck
  clear hwa h hck
  go_enter Try.func16, Try.ntmps16
  go_upto_region 3 with fail
  rw [← HWA.out]
  go_upto_region 7 with (first
    | (go_at_call 35; refine (CC _).mono ?_; rintro e w1 ⟨rfl, b1⟩; have HB1 := Lib.hid (B1.trans (b1.mono B1.size)); have HK1 := Lib.hid (HK.out.below b1); obtain ⟨k0, k1, k2, k3, m0, m1, m2, m3, m4, l1, l2⟩ := HK1.out.cells w1 (Below.refl _ _))
    | (go_at_call 20; refine (HD0.out _ HB1.out).mono ?_; rintro e w2 ⟨C1, rfl, s1, md⟩))
  have hv1 := H.out.v.below HB1.out
  have HK2 := Lib.hid (HK1.out.mod hv1 md)
  have HM2 := Lib.hid ((ModC.below (C := C) HB1.out).trans md)
  have HS1 := Lib.hid s1
  have hpl := s1.v.lt
  have c0 := s1.bud0
  clear s1 md k0 k1 k2 k3 m0 m1 m2 m3 m4 l1 l2 hv1 b1
  have hI : Below w2.heap.size w2 w2.drew := (Below.refl _ _).drew
  have HD2 := Lib.hid (fun (V : World) (hV : Below w2.heap.size w2 V) => And.intro ((hV.cell (p := ⟨p, 0, none⟩) hpl).trans c0) (And.intro (Nat.lt_of_lt_of_le hpl hV.size) (HK2.out.cells V hV)))
  have COs := fun W => lrcost_any A Am n c (by have := HN.out; omega) W
  clear hpl c0
  refine wp_region_chain (fun V => Below w2.heap.size w2 V) [(0, false), (2, false), (3, false), (4, false), (5, false), (1, true), (6, false)] (by kernel_rfl) (by kernel_rfl) hI ?_
  repeat (first
    | (refine ChainL.skip (o := ?_) ?_ ?_ ?_; rotate_left; (focus (first | (simp only [List.getElem?_toArray, List.getElem?_cons_succ, List.getElem?_cons_zero]; with_reducible rfl) | (simp only [List.getElem?_toArray, List.getElem?_cons_zero]; with_reducible rfl))); (focus rfl); simp only [Act.put, List.setIfInBounds_toArray, List.set_cons_zero, List.set_cons_succ])
    | (refine ChainL.val (o := ?_) (v := ?_) ?_ ?_ ?_ ?_ ?_; rotate_left 2; (focus (first | (simp only [List.getElem?_toArray, List.getElem?_cons_succ, List.getElem?_cons_zero]; with_reducible rfl) | (simp only [List.getElem?_toArray, List.getElem?_cons_zero]; with_reducible rfl))); (focus (intro _ _ h; cases h)); (focus rfl); (focus (intro w' hI; obtain ⟨c0, lp, k0, k1, k2, k3, m0, m1, m2, m3, m4, l1, l2⟩ := HD2.out _ hI; go_simp <;> with_reducible rfl)); simp only [Act.put, List.setIfInBounds_toArray, List.set_cons_zero, List.set_cons_succ]))
  refine ChainL.call (o := ?_) (f := ?_) (args := ?_) ?_ ?_ ?_ ?_
  rotate_left 3
  (focus (first | (simp only [List.getElem?_toArray, List.getElem?_cons_succ, List.getElem?_cons_zero]; with_reducible rfl) | (simp only [List.getElem?_toArray, List.getElem?_cons_zero]; with_reducible rfl)))
  (focus rfl)
  (focus (go_simp; (constructor <;> with_reducible rfl)))
  with_reducible refine (COs _).mono ?_
  rintro e w3 ⟨rfl, b3⟩
  have bb : Below w2.heap.size w2 w3 := hI.trans (b3.mono hI.size)
  refine ⟨_, rfl, bb, ?_⟩
  simp only [Act.put, List.setIfInBounds_toArray, List.set_cons_zero, List.set_cons_succ]
  repeat (first
    | (refine ChainL.skip (o := ?_) ?_ ?_ ?_; rotate_left; (focus (first | (simp only [List.getElem?_toArray, List.getElem?_cons_succ, List.getElem?_cons_zero]; with_reducible rfl) | (simp only [List.getElem?_toArray, List.getElem?_cons_zero]; with_reducible rfl))); (focus rfl); simp only [Act.put, List.setIfInBounds_toArray, List.set_cons_zero, List.set_cons_succ])
    | (refine ChainL.val (o := ?_) (v := ?_) ?_ ?_ ?_ ?_ ?_; rotate_left 2; (focus (first | (simp only [List.getElem?_toArray, List.getElem?_cons_succ, List.getElem?_cons_zero]; with_reducible rfl) | (simp only [List.getElem?_toArray, List.getElem?_cons_zero]; with_reducible rfl))); (focus (intro _ _ h; cases h)); (focus rfl); (focus (intro w' hI; obtain ⟨c0, lp, k0, k1, k2, k3, m0, m1, m2, m3, m4, l1, l2⟩ := HD2.out _ hI; go_simp <;> with_reducible rfl)); simp only [Act.put, List.setIfInBounds_toArray, List.set_cons_zero, List.set_cons_succ]))
  refine ChainL.nil ?_
  have HB3 := Lib.hid bb
  clear hI b3 bb
  have CS : ∀ W, Below w2.heap.size w2 W → Calls Try.prog 37 #[.pointer (some ⟨p, 0, none⟩), .int .i64 (wrap64 (bud - (64 + (n : Int))))] W fun e w' => ∃ C', e = .returned (.tuple #[]) ∧ LrS w' B p bud (shrE (bud - (64 + (n : Int))) (dropE k L)) C' ∧ sumE (shrE (bud - (64 + (n : Int))) (dropE k L)) ≤ bud - (64 + (n : Int)) ∧ ModC W w' p C1 C' := fun W hW => by
    rw [show wrap64 (bud - (64 + (n : Int))) = bud - (64 + (n : Int)) by have := HBD.out; have := HN.out; unfold wrap64; omega]
    exact shrink_any B p bud (bud - (64 + (n : Int))) (dropE k L) C1 W (HS1.out.below hW) (by omega)
  have HCS := Lib.hid CS
  clear CS
  go_upto_region 9 with fail
  have hI : Below w2.heap.size w2 w3.drew := HB3.out.drew
  refine wp_region_chain_last (fun V => Below w2.heap.size w2 V) [(0, false), (1, false), (2, false), (3, false), (4, false), (5, false), (6, true), (7, false)] _ _ (by rfl) (by rfl) (by kernel_rfl) (by kernel_rfl) hI ?_
  repeat (first
    | (refine ChainL.skip (o := ?_) ?_ ?_ ?_; rotate_left; (focus (first | (simp only [List.getElem?_toArray, List.getElem?_cons_succ, List.getElem?_cons_zero]; with_reducible rfl) | (simp only [List.getElem?_toArray, List.getElem?_cons_zero]; with_reducible rfl))); (focus rfl); simp only [Act.put, List.setIfInBounds_toArray, List.set_cons_zero, List.set_cons_succ])
    | (refine ChainL.val (o := ?_) (v := ?_) ?_ ?_ ?_ ?_ ?_; rotate_left 2; (focus (first | (simp only [List.getElem?_toArray, List.getElem?_cons_succ, List.getElem?_cons_zero]; with_reducible rfl) | (simp only [List.getElem?_toArray, List.getElem?_cons_zero]; with_reducible rfl))); (focus (intro _ _ h; cases h)); (focus rfl); (focus (intro w' hI; obtain ⟨c0, lp, k0, k1, k2, k3, m0, m1, m2, m3, m4, l1, l2⟩ := HD2.out _ hI; go_simp <;> with_reducible rfl)); simp only [Act.put, List.setIfInBounds_toArray, List.set_cons_zero, List.set_cons_succ]))
  refine ChainL.call (o := ?_) (f := ?_) (args := ?_) ?_ ?_ ?_ ?_
  rotate_left 3
  (focus (first | (simp only [List.getElem?_toArray, List.getElem?_cons_succ, List.getElem?_cons_zero]; with_reducible rfl) | (simp only [List.getElem?_toArray, List.getElem?_cons_zero]; with_reducible rfl)))
  (focus rfl)
  (focus (go_simp; (constructor <;> with_reducible rfl)))
  with_reducible refine (COs _).mono ?_
  rintro e w4 ⟨rfl, b4⟩
  have bb : Below w2.heap.size w2 w4 := hI.trans (b4.mono hI.size)
  refine ⟨_, rfl, bb, ?_⟩
  simp only [Act.put, List.setIfInBounds_toArray, List.set_cons_zero, List.set_cons_succ]
  repeat (first
    | (refine ChainL.skip (o := ?_) ?_ ?_ ?_; rotate_left; (focus (first | (simp only [List.getElem?_toArray, List.getElem?_cons_succ, List.getElem?_cons_zero]; with_reducible rfl) | (simp only [List.getElem?_toArray, List.getElem?_cons_zero]; with_reducible rfl))); (focus rfl); simp only [Act.put, List.setIfInBounds_toArray, List.set_cons_zero, List.set_cons_succ])
    | (refine ChainL.val (o := ?_) (v := ?_) ?_ ?_ ?_ ?_ ?_; rotate_left 2; (focus (first | (simp only [List.getElem?_toArray, List.getElem?_cons_succ, List.getElem?_cons_zero]; with_reducible rfl) | (simp only [List.getElem?_toArray, List.getElem?_cons_zero]; with_reducible rfl))); (focus (intro _ _ h; cases h)); (focus rfl); (focus (intro w' hI; obtain ⟨c0, lp, k0, k1, k2, k3, m0, m1, m2, m3, m4, l1, l2⟩ := HD2.out _ hI; go_simp <;> with_reducible rfl)); simp only [Act.put, List.setIfInBounds_toArray, List.set_cons_zero, List.set_cons_succ]))
  refine ChainL.nil ?_
  have HB4 := Lib.hid bb
  clear hI b4 bb
  go_upto_region 10 with (go_at_call 37; refine (HCS.out _ HB4.out).mono ?_; rintro e w5 ⟨C2, rfl, s2, hfit, md5⟩)
  have HK5 := Lib.hid ((HK2.out.below HB4.out).mod (HS1.out.below HB4.out).v md5)
  have HM5 := Lib.hid ((HM2.out.trans (ModC.below HB4.out)).trans md5)
  obtain ⟨ord, ca2, hent, hbud⟩ := s2
  have hfr := ca2.i.fr
  have CV := vacant_any B p C2 w5 ca2.v hfr.2.2 (by have := ca2.i.small; omega) (by omega)
  have HC2 := Lib.hid (And.intro ca2 (And.intro hent (And.intro hbud hfit)))
  have HCV := Lib.hid CV
  clear ca2 hent hbud md5 hfr CV hfit
  go_upto_region 11 with (go_at_call 38; refine (HCV.out).mono ?_; rintro e w6 ⟨i, pv, fv, PL, FR, rfl, v6, m6, hvac⟩)
  have hsum2 := (show LrS w5 B p bud _ C2 from ⟨ord, HC2.out.1, HC2.out.2.1, HC2.out.2.2.1⟩).sum
  have hx := fun (rv : Value) => HC2.out.1.i.put hvac ⟨k, A, rv, M, 0, 0⟩ hk (by
    have h1 := HC2.out.1.i
    cases hf : C2.f k with
    | none => rfl
    | some j =>
      obtain ⟨hj, hkj⟩ := (h1.f k j).1 hf
      have hm : ent C2.PL j ∈ shrE (bud - (64 + (n : Int))) (dropE k L) := by rw [← HC2.out.2.1]; exact List.mem_map.2 ⟨j, hj, rfl⟩
      exact absurd hkj (dropE_mem (shrE_sub _ _ _ hm))) (by
    dsimp only
    rw [HC2.out.2.2.1, hsum2.1, HL.out.1]
    have := HC2.out.2.2.2
    omega)
  have hil := (hx (.slice none 0 0)).2.2.2
  have v6l := (CaV.cells v6) (by dsimp only; omega)
  obtain ⟨g, cc, hpv, hc, hg, pg, c3, hcell, hfr⟩ := v6l
  dsimp only at hpv hc c3 hcell
  have hpl := v6.lt
  have HK6 := Lib.hid (HK5.out.mod HC2.out.1.v m6)
  have HM6 := Lib.hid (HM5.out.trans m6)
  have hls : ∀ V, Only w6 V [] → Lists V w.heap.size Am M := fun V hV => by
    have o : Only w V (fpC p C) := HM6.out.1.trans hV (fun b hb => (nomatch hb))
    exact lists_only HL.out.2.1 (Nat.le_refl _) o HL.out.2.2.2
  obtain ⟨z, hz⟩ : ∃ z, z = PL.length := ⟨_, rfl⟩
  have hiz : i < z := by rw [hz]; exact hil.1
  have hth : ∀ V, Below w6.heap.size w6 V → V.there g (i * 11) 11 := fun V hV j hj => ⟨by
    rw [hV.cell (p := ⟨g, i * 11 + j, none⟩) hg, hcell i j ((plL (atP PL i))[j]'(by rw [plL_len]; exact hj)) hil.1 hj (List.getElem?_eq_getElem _)]
    rfl, by rw [← hfr (i * 11 + j)]; exact World.frozen?_of_block (hV.block g hg)⟩
  rw [← hz] at c3 hc
  have HD6 := Lib.hid (fun (V : World) (hV : Below w6.heap.size w6 V) => And.intro ((hV.cell (p := ⟨p, 3, none⟩) hpl).trans c3) (And.intro (Nat.lt_of_lt_of_le hpl hV.size) (And.intro (Nat.lt_of_lt_of_le hg hV.size) (HK6.out.cells V hV))))
  have HV6 := Lib.hid (And.intro v6 (And.intro m6 (And.intro hvac hpv)))
  have HX := Lib.hid hx
  have HTH := Lib.hid hth
  have HZ := Lib.hid hz
  have CPY := Lib.hid (fun V (hV : Below w6.heap.size w6 V) => lrcopy_any A Am n c M V ⟨(hls V (Only.of_below hV _)).nil, (hls V (Only.of_below hV _)).cell, fun a ha hx => Nat.lt_of_lt_of_le ((hls V (Only.of_below hV _)).lt a ha hx) (Nat.le_trans HM6.out.1.size hV.size)⟩ HL.out.2.2.1 HL.out.1 (by have := HN.out; omega))
  have hI : Below w6.heap.size w6 w6.drew := (Below.refl _ _).drew
  have HB6d := Lib.hid hI.size
  clear v6 m6 hvac hpv hx hth hz hls hcell hfr c3 hpl hsum2 hil pg
  refine wp_region_chain_last (fun V => Below w6.heap.size w6 V) [(0, false), (1, false), (2, false), (3, false), (4, false), (5, false), (6, false), (7, true), (8, false), (9, false)] _ _ (by rfl) (by rfl) (by kernel_rfl) (by kernel_rfl) hI ?_
  repeat (first
    | (refine ChainL.skip (o := ?_) ?_ ?_ ?_; rotate_left; (focus (first | (simp only [List.getElem?_toArray, List.getElem?_cons_succ, List.getElem?_cons_zero]; with_reducible rfl) | (simp only [List.getElem?_toArray, List.getElem?_cons_zero]; with_reducible rfl))); (focus rfl); simp only [Act.put, List.setIfInBounds_toArray, List.set_cons_zero, List.set_cons_succ])
    | (refine ChainL.val (o := ?_) (v := ?_) ?_ ?_ ?_ ?_ ?_; rotate_left 2; (focus (first | (simp only [List.getElem?_toArray, List.getElem?_cons_succ, List.getElem?_cons_zero]; with_reducible rfl) | (simp only [List.getElem?_toArray, List.getElem?_cons_zero]; with_reducible rfl))); (focus (intro _ _ h; cases h)); (focus rfl); (focus (intro w' hI; obtain ⟨c3, lp, lg, k0, k1, k2, k3, m0, m1, m2, m3, m4, l1, l2⟩ := HD6.out _ hI; go_simp <;> with_reducible rfl)); simp only [Act.put, List.setIfInBounds_toArray, List.set_cons_zero, List.set_cons_succ]))
  refine ChainL.call (o := ?_) (f := ?_) (args := ?_) ?_ ?_ ?_ ?_
  rotate_left 3
  (focus (first | (simp only [List.getElem?_toArray, List.getElem?_cons_succ, List.getElem?_cons_zero]; with_reducible rfl) | (simp only [List.getElem?_toArray, List.getElem?_cons_zero]; with_reducible rfl)))
  (focus rfl)
  (focus (go_simp; (constructor <;> with_reducible rfl)))
  with_reducible refine (CPY.out _ hI).mono ?_
  rintro e w7 ⟨gr, rfl, gb, gs, b7⟩
  have bb : Below w6.heap.size w6 w7 := hI.trans (b7.mono hI.size)
  refine ⟨_, rfl, bb, ?_⟩
  simp only [Act.put, List.setIfInBounds_toArray, List.set_cons_zero, List.set_cons_succ]
  repeat (first
    | (refine ChainL.skip (o := ?_) ?_ ?_ ?_; rotate_left; (focus (first | (simp only [List.getElem?_toArray, List.getElem?_cons_succ, List.getElem?_cons_zero]; with_reducible rfl) | (simp only [List.getElem?_toArray, List.getElem?_cons_zero]; with_reducible rfl))); (focus rfl); simp only [Act.put, List.setIfInBounds_toArray, List.set_cons_zero, List.set_cons_succ])
    | (refine ChainL.val (o := ?_) (v := ?_) ?_ ?_ ?_ ?_ ?_; rotate_left 2; (focus (first | (simp only [List.getElem?_toArray, List.getElem?_cons_succ, List.getElem?_cons_zero]; with_reducible rfl) | (simp only [List.getElem?_toArray, List.getElem?_cons_zero]; with_reducible rfl))); (focus (intro _ _ h; cases h)); (focus rfl); (focus (intro w' hI; obtain ⟨c3, lp, lg, k0, k1, k2, k3, m0, m1, m2, m3, m4, l1, l2⟩ := HD6.out _ hI; go_simp <;> with_reducible rfl)); simp only [Act.put, List.setIfInBounds_toArray, List.set_cons_zero, List.set_cons_succ]))
  refine ChainL.nil ?_
  have HB7 := Lib.hid bb
  have HGB := Lib.hid (And.intro gb gs)
  clear gb gs b7 hI bb
  refine wp_store_mid 74 (.tmp 47) (.tmp 46) (by with_reducible rfl) g (i * 11) #[.int .i64 k.1, .int .i64 k.2.1, .int .i64 k.2.2.1, .int .i64 k.2.2.2, .int .i64 A.x0, .int .i64 A.y0, .int .i64 A.x1, .int .i64 A.y1, .slice (some ⟨gr, 0, none⟩) n n, .int .i64 0, .int .i64 0] (by rfl) (by rfl) (by exact HTH.out _ HB7.out) plInfo (by simp [Value.oneCell']) ?_
  go_upto_region 12 with fail
  obtain ⟨x, hx⟩ : ∃ x : Pl, x = ⟨k, A, .slice (some ⟨gr, 0, none⟩) n n, M, 0, 0⟩ := ⟨_, rfl⟩
  have hxl : plL x = #[.int .i64 k.1, .int .i64 k.2.1, .int .i64 k.2.2.1, .int .i64 k.2.2.2, .int .i64 A.x0, .int .i64 A.y0, .int .i64 A.x1, .int .i64 A.y1, .slice (some ⟨gr, 0, none⟩) n n, .int .i64 0, .int .i64 0].toList := by rw [hx]; rfl
  obtain ⟨ig, hho, hhi, hil, hb0, hsm⟩ := HX.out (.slice (some ⟨gr, 0, none⟩) n n)
  rw [← hx] at ig hho hhi hb0
  obtain ⟨v8, m8⟩ := (HV6.out.1.below HB7.out).place HV6.out.2.2.2 (i := i) hil x
  rw [hxl] at v8 m8
  dsimp only at v8 m8
  obtain ⟨w8, hw8⟩ : ∃ w8, w8 = w7.setCells g (i * 11) #[.int .i64 k.1, .int .i64 k.2.1, .int .i64 k.2.2.1, .int .i64 k.2.2.2, .int .i64 A.x0, .int .i64 A.y0, .int .i64 A.x1, .int .i64 A.y1, .slice (some ⟨gr, 0, none⟩) n n, .int .i64 0, .int .i64 0].toList := ⟨_, rfl⟩
  rw [← hw8]
  rw [← hw8] at v8 m8
  have HK8 := Lib.hid ((HK6.out.below HB7.out).mod (HV6.out.1.below HB7.out) m8)
  have HM8 := Lib.hid ((HM6.out.trans (ModC.below HB7.out)).trans m8)
  have HGB8 := Lib.hid (HGB.out.1.only m8.1 ((HV6.out.1.below HB7.out).u8 HGB.out.1))
  have HM25 := Lib.hid ((HV6.out.2.1.trans (ModC.below HB7.out)).trans m8)
  have c2 := v8.blk.cell 2
  simp only [List.getElem?_toArray, List.getElem?_cons_succ, List.getElem?_cons_zero] at c2
  have hpl := v8.lt
  have HD8 := Lib.hid (fun (V : World) (hV : Below w8.heap.size w8 V) => And.intro ((hV.cell (p := ⟨p, 2, none⟩) hpl).trans c2) (And.intro (Nat.lt_of_lt_of_le hpl hV.size) (HK8.out.cells V hV)))
  have B8 : Below w8.heap.size w8 w8.drew := (Below.refl _ _).drew
  have v8d := v8.below B8
  have hfn : C2.f k = none := by
    have h1 := HC2.out.1.i
    cases hf : C2.f k with
    | none => rfl
    | some j =>
      obtain ⟨hj, hkj⟩ := (h1.f k j).1 hf
      have hm : ent C2.PL j ∈ shrE (bud - (64 + (n : Int))) (dropE k L) := by rw [← HC2.out.2.1]; exact List.mem_map.2 ⟨j, hj, rfl⟩
      exact absurd hkj (dropE_mem (shrE_sub _ _ _ hm))
  obtain ⟨w9, hup, hm9, o9⟩ := v8d.map.put hk hfn (by have h1 := HC2.out.1.i.n; have h2 := HC2.out.1.i.fr; show C2.n < maxLen; simp only [maxLen]; omega) i (by unfold in64; omega)
  have hup2 : (Instr.mapUpdate 63 (.map (some C2.mb)) (.agg #[.int .i64 k.1, .int .i64 k.2.1, .int .i64 k.2.2.1, .int .i64 k.2.2.2]) (.int .i64 (i : Nat))).run Try.prog w8.drew = .ok () w9 := hup
  obtain ⟨v9, m9⟩ := v8d.maps o9 hm9
  dsimp only at v9 m9
  have HV9 := Lib.hid (And.intro v9 m9)
  have HB8 := Lib.hid B8
  have HV8d := Lib.hid v8d
  have HV8 := Lib.hid v8
  have HX2 := Lib.hid (And.intro hx (And.intro ig (And.intro hho (And.intro hhi (And.intro hil (And.intro hb0 hsm))))))
  have HW8 := Lib.hid hw8
  clear hx hxl ig hho hhi hil hb0 hsm v8 m8 hw8 c2 hpl v8d hfn hup hm9 o9 v9 m9
  refine wp_region_chain_last (fun V => Below w8.heap.size w8 V) [(0, false), (1, false), (2, false), (3, false), (4, false), (5, false)] _ _ (by rfl) (by rfl) (by kernel_rfl) (by kernel_rfl) B8 ?_
  repeat (first
    | (refine ChainL.skip (o := ?_) ?_ ?_ ?_; rotate_left; (focus (first | (simp only [List.getElem?_toArray, List.getElem?_cons_succ, List.getElem?_cons_zero]; with_reducible rfl) | (simp only [List.getElem?_toArray, List.getElem?_cons_zero]; with_reducible rfl))); (focus rfl); simp only [Act.put, List.setIfInBounds_toArray, List.set_cons_zero, List.set_cons_succ])
    | (refine ChainL.val (o := ?_) (v := ?_) ?_ ?_ ?_ ?_ ?_; rotate_left 2; (focus (first | (simp only [List.getElem?_toArray, List.getElem?_cons_succ, List.getElem?_cons_zero]; with_reducible rfl) | (simp only [List.getElem?_toArray, List.getElem?_cons_zero]; with_reducible rfl))); (focus (intro _ _ h; cases h)); (focus rfl); (focus (intro w' hI; obtain ⟨c2, lp, k0, k1, k2, k3, m0, m1, m2, m3, m4, l1, l2⟩ := HD8.out _ hI; go_simp <;> with_reducible rfl)); simp only [Act.put, List.setIfInBounds_toArray, List.set_cons_zero, List.set_cons_succ]))
  refine ChainL.nil ?_
  go_upto_region 13 with fail
  clear hup2 B8
  have HK9 := Lib.hid ((HK8.out.below HB8.out).mod HV8d.out HV9.out.2)
  have v9 := HV9.out.1
  have c1 := v9.blk.cell 1
  simp only [List.getElem?_toArray, List.getElem?_cons_succ, List.getElem?_cons_zero] at c1
  have hpl := v9.lt
  have HD9 := Lib.hid (fun (V : World) (hV : Below w9.heap.size w9 V) => And.intro ((hV.cell (p := ⟨p, 1, none⟩) hpl).trans c1) (And.intro (Nat.lt_of_lt_of_le hpl hV.size) (HK9.out.cells V hV)))
  have hI : Below w9.heap.size w9 w9.drew := (Below.refl _ _).drew
  clear v9 c1 hpl
  refine wp_region_chain_last (fun V => Below w9.heap.size w9 V) [(0, false), (1, false), (2, false), (3, false), (4, false), (5, true), (6, false), (7, false), (8, false)] _ _ (by rfl) (by rfl) (by kernel_rfl) (by kernel_rfl) hI ?_
  repeat (first
    | (refine ChainL.skip (o := ?_) ?_ ?_ ?_; rotate_left; (focus (first | (simp only [List.getElem?_toArray, List.getElem?_cons_succ, List.getElem?_cons_zero]; with_reducible rfl) | (simp only [List.getElem?_toArray, List.getElem?_cons_zero]; with_reducible rfl))); (focus rfl); simp only [Act.put, List.setIfInBounds_toArray, List.set_cons_zero, List.set_cons_succ])
    | (refine ChainL.val (o := ?_) (v := ?_) ?_ ?_ ?_ ?_ ?_; rotate_left 2; (focus (first | (simp only [List.getElem?_toArray, List.getElem?_cons_succ, List.getElem?_cons_zero]; with_reducible rfl) | (simp only [List.getElem?_toArray, List.getElem?_cons_zero]; with_reducible rfl))); (focus (intro _ _ h; cases h)); (focus rfl); (focus (intro w' hI; obtain ⟨c1, lp, k0, k1, k2, k3, m0, m1, m2, m3, m4, l1, l2⟩ := HD9.out _ hI; go_simp <;> with_reducible rfl)); simp only [Act.put, List.setIfInBounds_toArray, List.set_cons_zero, List.set_cons_succ]))
  refine ChainL.call (o := ?_) (f := ?_) (args := ?_) ?_ ?_ ?_ ?_
  rotate_left 3
  (focus (first | (simp only [List.getElem?_toArray, List.getElem?_cons_succ, List.getElem?_cons_zero]; with_reducible rfl) | (simp only [List.getElem?_toArray, List.getElem?_cons_zero]; with_reducible rfl)))
  (focus rfl)
  (focus (go_simp; (constructor <;> with_reducible rfl)))
  with_reducible refine (COs _).mono ?_
  rintro e wx ⟨rfl, bx⟩
  have bb : Below w9.heap.size w9 wx := hI.trans (bx.mono hI.size)
  refine ⟨_, rfl, bb, ?_⟩
  simp only [Act.put, List.setIfInBounds_toArray, List.set_cons_zero, List.set_cons_succ]
  repeat (first
    | (refine ChainL.skip (o := ?_) ?_ ?_ ?_; rotate_left; (focus (first | (simp only [List.getElem?_toArray, List.getElem?_cons_succ, List.getElem?_cons_zero]; with_reducible rfl) | (simp only [List.getElem?_toArray, List.getElem?_cons_zero]; with_reducible rfl))); (focus rfl); simp only [Act.put, List.setIfInBounds_toArray, List.set_cons_zero, List.set_cons_succ])
    | (refine ChainL.val (o := ?_) (v := ?_) ?_ ?_ ?_ ?_ ?_; rotate_left 2; (focus (first | (simp only [List.getElem?_toArray, List.getElem?_cons_succ, List.getElem?_cons_zero]; with_reducible rfl) | (simp only [List.getElem?_toArray, List.getElem?_cons_zero]; with_reducible rfl))); (focus (intro _ _ h; cases h)); (focus rfl); (focus (intro w' hI; obtain ⟨c1, lp, k0, k1, k2, k3, m0, m1, m2, m3, m4, l1, l2⟩ := HD9.out _ hI; go_simp <;> with_reducible rfl)); simp only [Act.put, List.setIfInBounds_toArray, List.set_cons_zero, List.set_cons_succ]))
  refine ChainL.nil ?_
  have vx := HV9.out.1.below bb
  have d1 := vx.blk.cell 1
  simp only [List.getElem?_toArray, List.getElem?_cons_succ, List.getElem?_cons_zero] at d1
  have f1 := vx.blk.frozen 1
  have hpx := vx.lt
  have HVX := Lib.hid vx
  have HBX := Lib.hid bb
  clear vx bx bb hI
  go_upto_region 14 with fail
  have hsum2 := (show LrS w5 B p bud _ C2 from ⟨ord, HC2.out.1, HC2.out.2.1, HC2.out.2.2.1⟩).sum
  rw [show wrap64 (C2.held + (64 + (n : Int))) = C2.held + (64 + (n : Int)) by have h1 := sumE_nn (shrE (bud - (64 + (n : Int))) (dropE k L)); have := HN.out; unfold wrap64; omega]
  obtain ⟨vy, my⟩ := HVX.out.held (C2.held + (64 + (n : Int)))
  dsimp only at vy my
  obtain ⟨wy, hwy⟩ : ∃ wy, wy = wx.setCell ⟨p, 1, none⟩ (.int .i64 (C2.held + (64 + (n : Int)))) := ⟨_, rfl⟩
  rw [← hwy]
  rw [← hwy] at vy my
  have LDy := lead_any B p _ i wy vy (by dsimp only; rw [List.length_set]; exact HX2.out.2.2.2.2.1) (by dsimp only; rw [List.length_set]; exact HX2.out.2.2.2.2.2.1) (by dsimp only; rw [List.length_set]; have := HX2.out.2.2.2.2.2.2; omega)
  dsimp only at LDy
  have HLD := Lib.hid LDy
  have HMY := Lib.hid (And.intro vy my)
  clear LDy vy my hwy d1 f1 hpx hsum2
  go_wp2_with (go_at_call 32; refine (HLD.out).mono ?_; rintro e wz ⟨rfl, vz, mz⟩)
  have e1 : M.length = n := HL.out.1
  have ez : putC C2 i pv fv PL FR x = { bud := C2.bud, held := C2.held + (64 + (n : Int)), mb := C2.mb, pv := pv, fv := fv, PL := lnk (lnk (PL.set i x) 0 i) i (bOf (PL.set i x) 0), FR := FR, n := C2.n + 1, f := fun k' => if k' = k then some i else C2.f k' } := by
    unfold putC leadP
    rw [HX2.out.1, ← e1]
  have m9z : ModC w9 wz p _ _ := ((ModC.below HBX.out).trans HMY.out.2).trans mz
  have m8z : ModC w8 wz p _ _ := ((ModC.below HB8.out).trans HV9.out.2).trans m9z
  have m5z : ModC w5 wz p C2 _ := HM25.out.trans m8z
  have mwz : ModC w wz p C _ := HM5.out.trans m5z
  rw [← ez] at vz mwz m5z
  have G8 : Blk w8 gr 5 M.toArray := HGB8.out
  have Gz := G8.only m8z.1 (HV8.out.u8 G8)
  refine bodyPost_ret (results_tmp2 rfl _ _ _) rfl ⟨putC C2 i pv fv PL FR x, rfl, ⟨i :: ord, ⟨vz, HX2.out.2.1, fun j hj => ?_⟩, ?_, HC2.out.2.2.1⟩, mwz⟩
  · rcases List.mem_cons.1 hj with rfl | hj
    · refine RowP.hold (x := x) ?_ HX2.out.2.2.2.1
      refine ⟨gr, ?_, ?_, ?_, ?_, ?_⟩
      · rw [HX2.out.1, e1]
      · rw [HX2.out.1]; exact Gz
      · have h1 := HGB.out.2; have h2 := HV6.out.1.lt; have h3 := HV6.out.1.lo; have h4 := HBQ.out; exact ⟨Nat.le_trans h4 (Nat.le_trans HM6.out.1.size (Nat.le_trans HB6d.out h1)), HBN.out _ (Nat.le_trans HM6.out.1.size (Nat.le_trans HB6d.out h1))⟩
      · rw [HX2.out.1]; exact HL.out.2.2.1
      · rw [HX2.out.1]; show M.length ≤ _; have := HN.out; omega
    · exact ((HC2.out.1.rows j hj).mod HC2.out.1.v m5z).hold (HX2.out.2.2.1 j hj)
  · rw [List.map_cons, map_hold HX2.out.2.2.1, HC2.out.2.1]
    have := ent_hold2 HX2.out.2.2.2.1
    rw [this, HX2.out.1]
end Go.Proofs.Ytaaboochologaaa

namespace Go.Proofs.Ytaaboochologaaa
open Go Go.RowKit
set_option linter.unusedVariables false
set_option linter.unusedSimpArgs false
set_option linter.unusedSectionVars false
variable [Inhabited BanT]

theorem lrnew_bad (x : Int) (hx : inZ 0 16777216 x = false) (w : World) : Calls Try.prog 8 #[.int .i64 x] w fun e w' => e = .returned (.tuple #[.pointer none, .int .i64 1]) ∧ w = w' := by
  have CM := lrbudget_any x w
  rw [hx] at CM
  go_enter Try.func8, Try.ntmps8
  go_wp2_with (go_at_call 24; refine (CM).mono ?_; rintro e w1 ⟨rfl, rfl⟩)
  exact bodyPost_ret (results_tmp2 rfl _ _ _) rfl ⟨rfl, rfl⟩
theorem make_pl (w : World) : (Instr.makeSlice 64 (.int .i64 1) (.int .i64 1)).run Try.prog w = .ok (.slice (some ⟨w.heap.size, 0, none⟩) 1 1) (w.alloc (.cells #[.int .i64 0, .int .i64 0, .int .i64 0, .int .i64 0, .int .i64 0, .int .i64 0, .int .i64 0, .int .i64 0, .slice none 0 0, .int .i64 0, .int .i64 0] 74)) := by
  obtain ⟨i0, hi, hz0, hz1, hz2⟩ := info_parts plInfo3
  have h := run_makeSlice (P := Try.prog) (w := w) 64 74 i0 (.agg #[.int .i64 0, .int .i64 0, .int .i64 0, .int .i64 0, .int .i64 0, .int .i64 0, .int .i64 0, .int .i64 0, .slice none 0 0, .int .i64 0, .int .i64 0]) Try.underlying64 hi hz0 .i64 .i64 1 1 (by omega) (Int.le_refl _) (by rw [hz1]; decide) (by rw [hz2]; decide) (by omega)
  rw [hz1] at h
  have e : madeCells (Value.agg #[.int .i64 0, .int .i64 0, .int .i64 0, .int .i64 0, .int .i64 0, .int .i64 0, .int .i64 0, .int .i64 0, .slice none 0 0, .int .i64 0, .int .i64 0]).cells (Int.toNat 1 * 11) = #[.int .i64 0, .int .i64 0, .int .i64 0, .int .i64 0, .int .i64 0, .int .i64 0, .int .i64 0, .int .i64 0, .slice none 0 0, .int .i64 0, .int .i64 0] := by kernel_rfl
  rw [e] at h
  exact h
theorem lrnew_map (w : World) : (Instr.makeMap 63 none).run Try.prog w = .ok (.map (some w.heap.size)) (w.alloc (.map #[] 0)) := by
  simp [run_makeMap]
/-- A new cache. -/
def newC (x : Int) (m : Nat) : Cs := { bud := x, held := 0, mb := m, pv := .slice (some ⟨m + 1, 0, none⟩) 1 1, fv := .slice none 0 0, PL := [pl0], FR := [], n := 0, f := fun _ => none }
set_option maxRecDepth 100000 in
theorem lrnew_ok (x : Int) (hx : inZ 0 16777216 x = true) (B : Nat) (w : World) (hB : B ≤ w.heap.size) : Calls Try.prog 8 #[.int .i64 x] w fun e w' => ∃ p C, e = .returned (.tuple #[.pointer (some ⟨p, 0, none⟩), .int .i64 0]) ∧ LrS w' B p x [] C ∧ Below w.heap.size w w' ∧ ∀ b ∈ fpC p C, w.heap.size ≤ b := by
  have CM := lrbudget_any x w
  rw [hx] at CM
  have MK := fun W => make_pl W
  have MM := fun W => lrnew_map W
  have hxx := inB_in hx
  clear hx
  go_enter Try.func8, Try.ntmps8
  go_wp2_with (go_at_call 24; refine (CM).mono ?_; rintro e w1 ⟨rfl, rfl⟩)
  have h1 := MapV.made w
  have h2 : Blk ((w.alloc (.map #[] 0)).alloc (.cells #[.int .i64 0, .int .i64 0, .int .i64 0, .int .i64 0, .int .i64 0, .int .i64 0, .int .i64 0, .int .i64 0, .slice none 0 0, .int .i64 0, .int .i64 0] 74)) (w.heap.size + 1) 74 #[.int .i64 0, .int .i64 0, .int .i64 0, .int .i64 0, .int .i64 0, .int .i64 0, .int .i64 0, .int .i64 0, .slice none 0 0, .int .i64 0, .int .i64 0] := by
    have := Blk.new (w.alloc (.map #[] 0)) 74 #[.int .i64 0, .int .i64 0, .int .i64 0, .int .i64 0, .int .i64 0, .int .i64 0, .int .i64 0, .int .i64 0, .slice none 0 0, .int .i64 0, .int .i64 0]
    rw [World.size_alloc] at this
    exact this
  have b3 := fun o => below_a1 ((w.alloc (.map #[] 0)).alloc (.cells #[.int .i64 0, .int .i64 0, .int .i64 0, .int .i64 0, .int .i64 0, .int .i64 0, .int .i64 0, .int .i64 0, .slice none 0 0, .int .i64 0, .int .i64 0] 74)) o
  refine bodyPost_ret (results_tmp2 rfl _ _ _) rfl ⟨w.heap.size + 1 + 1, newC x w.heap.size, rfl, ⟨[], ⟨⟨?_, ?_, ?_, ?_, ?_⟩, ⟨?_, ?_, ?_, ?_, ?_, ?_, ?_, ?_, ?_, ?_⟩, ?_⟩, rfl, rfl⟩, ?_, ?_⟩
  · have := Blk.new ((w.alloc (.map #[] 0)).alloc (.cells #[.int .i64 0, .int .i64 0, .int .i64 0, .int .i64 0, .int .i64 0, .int .i64 0, .int .i64 0, .int .i64 0, .slice none 0 0, .int .i64 0, .int .i64 0] 74)) 67 #[.int .i64 x, .int .i64 0, .map (some w.heap.size), .slice (some ⟨w.heap.size + 1, 0, none⟩) 1 1, .slice none 0 0]
    rw [World.size_alloc, World.size_alloc] at this
    exact this
  · exact ⟨rfl, .inr ⟨w.heap.size + 1, 1, #[.int .i64 0, .int .i64 0, .int .i64 0, .int .i64 0, .int .i64 0, .int .i64 0, .int .i64 0, .int .i64 0, .slice none 0 0, .int .i64 0, .int .i64 0], rfl, by omega, h2.below (b3 _), Nat.le_refl _, by decide, rfl, rfl⟩⟩
  · exact World.ownsRow_nil _ _ _ _
  · exact (h1.only (Only.of_below (below_a1 _ _) []) (by simp)).only (Only.of_below (b3 _) []) (by simp)
  · exact ⟨by omega, hB⟩
  · simp [newC]
  · simp [newC]
  · simp [newC]
  · simp [newC]
  · exact ⟨rfl, rfl⟩
  · rfl
  · simp only [newC]; omega
  · rfl
  · intro k i; simp [newC]
  · intro i hi; simp at hi
  · intro i hi; simp at hi
  · exact (below_a2 _ _ _).alloc (by simp; omega) _
  · intro b hb
    simp [fpC, newC, blk, Value.ownBlock] at hb
    omega
theorem lrresize_nil (x : Int) (w : World) : Calls Try.prog 23 #[.pointer none, .int .i64 x] w fun e w' => e = .returned (.int .i64 6) ∧ w = w' := by
  go_enter Try.func23, Try.ntmps23
  go_wp2
  go_ret
  exact ⟨rfl, rfl⟩
theorem lrresize_bad (x : Int) (hx : inZ 0 16777216 x = false) (p : Nat) (w : World) : Calls Try.prog 23 #[.pointer (some ⟨p, 0, none⟩), .int .i64 x] w fun e w' => e = .returned (.int .i64 1) ∧ w = w' := by
  have CM := lrbudget_any x w
  rw [hx] at CM
  go_enter Try.func23, Try.ntmps23
  go_wp2_with (go_at_call 24; refine (CM).mono ?_; rintro e w1 ⟨rfl, rfl⟩)
  go_ret
  exact ⟨rfl, rfl⟩
theorem LrS.bud {W : World} {B p : Nat} {bud : Int} {L : List En} {C : Cs} (h : LrS W B p bud L C) (x : Int) (hx : 0 ≤ x ∧ x ≤ 16777216) : LrS (W.setCell ⟨p, 0, none⟩ (.int .i64 x)) B p x L { C with bud := x } ∧ ModC W (W.setCell ⟨p, 0, none⟩ (.int .i64 x)) p C { C with bud := x } := by
  obtain ⟨ord, h1, h2, h3⟩ := h
  obtain ⟨v, m⟩ := h1.v.bud x
  have i := h1.i
  exact ⟨⟨ord, ⟨v, ⟨i.nd, i.lt, i.len, i.small, i.path, i.held, ⟨i.bud.1, hx⟩, i.n, i.f, i.ky⟩, fun j hj => (h1.rows j hj).mod h1.v m⟩, h2, rfl⟩, m⟩
set_option maxRecDepth 100000 in
theorem lrresize_ok (B p : Nat) (bud x : Int) (L : List En) (C : Cs) (hx : inZ 0 16777216 x = true) (w : World) (h : LrS w B p bud L C) : Calls Try.prog 23 #[.pointer (some ⟨p, 0, none⟩), .int .i64 x] w fun e w' => ∃ C', e = .returned (.int .i64 0) ∧ LrS w' B p x (shrE x L) C' ∧ sumE (shrE x L) ≤ x ∧ ModC w w' p C C' := by
  have CM := lrbudget_any x w
  rw [hx] at CM
  have hxx := inB_in hx
  obtain ⟨s1, m1⟩ := h.bud x hxx
  have CS := shrink_any B p x x L _ _ s1 hxx.1
  have c0 := h.bud0
  have hpl := h.v.lt
  have f0 := h.v.blk.frozen 0
  have HM := Lib.hid m1
  clear hx h s1 m1
  go_enter Try.func23, Try.ntmps23
  go_wp2_with (first
    | (go_at_call 24; refine (CM).mono ?_; rintro e w1 ⟨rfl, rfl⟩)
    | (go_at_call 37; refine (CS).mono ?_; rintro e w2 ⟨C2, rfl, s2, hf, m2⟩))
  exact bodyPost_ret (results_tmp rfl _ _ _) rfl ⟨C2, rfl, s2, hf, HM.out.trans m2⟩
/-- What is answered where a mask is put, and what is left. -/
def lputB (bud : Int) (A : Q) (n : Nat) : Bool := chkB A n && decide (64 + (n : Int) ≤ bud)
def lputL (bud : Int) (L : List En) (k : Ky) (A : Q) (n : Nat) (M : List Value) : List En := if chkB A n then (if 64 + (n : Int) ≤ bud then (k, A, M) :: shrE (bud - (64 + (n : Int))) (dropE k L) else dropE k L) else L
theorem chkB_n {A : Q} {n : Nat} (h : chkB A n = true) : n ≤ 4194304 := by
  unfold chkB msB at h
  simp only [Bool.and_eq_true, decide_eq_true_eq] at h
  omega
theorem lrput_any (B p : Nat) (bud : Int) (L : List En) (C : Cs) (k : Ky) (hk : kyW k) (A : Q) (Am : Option Addr) (n c : Nat) (M : List Value) (w : World) (h : LrS w B p bud L C) (hl : M.length = n) (hls : Lists w w.heap.size Am M) (h8 : Bytes8 M) (hsep : ∀ a, Am = some a → M ≠ [] → a.block ∉ fpC p C) (hBw : B ≤ w.heap.size) (hban : ∀ b, w.heap.size ≤ b → ¬ banP b := by exact fun _ _ h => h) :
    Calls Try.prog 16 #[.pointer (some ⟨p, 0, none⟩), .agg #[.int .i64 k.1, .int .i64 k.2.1, .int .i64 k.2.2.1, .int .i64 k.2.2.2], .agg #[.int .i64 A.x0, .int .i64 A.y0, .int .i64 A.x1, .int .i64 A.y1, .slice Am n c]] w fun e w' => ∃ C', e = .returned (.tuple #[.bool (lputB bud A n), .int .i64 (chkC A n)]) ∧ LrS w' B p bud (lputL bud L k A n M) C' ∧ ModC w w' p C C' := by
  unfold lputB lputL chkC
  cases hc : chkB A n with
  | false =>
    refine (lrput_bad k p A Am n c hc w).mono ?_
    rintro e w' ⟨rfl, b⟩
    exact ⟨C, rfl, h.below b, ModC.below b⟩
  | true =>
    have hn := chkB_n hc
    by_cases hg : 64 + (n : Int) ≤ bud
    · refine (lrput_full B p bud L C k hk A Am n c M w h hc (by omega) hg hl hls h8 hsep hBw hban).mono ?_
      rintro e w' ⟨C', rfl, s, m⟩
      exact ⟨C', by simp [hg], by rw [if_pos rfl, if_pos hg]; exact s, m⟩
    · refine (lrput_large B p bud L C k hk A Am n c M w h hc (by omega) (by omega)).mono ?_
      rintro e w' ⟨C', rfl, s, m⟩
      exact ⟨C', by simp [hg], by rw [if_pos rfl, if_neg hg]; exact s, m⟩
end Go.Proofs.Ytaaboochologaaa

namespace Go.Proofs.Ytaaboochologaaa
open Go Go.RowKit
set_option linter.unusedVariables false
set_option linter.unusedSimpArgs false
set_option linter.unusedSectionVars false
variable [Inhabited BanT]

theorem lrkeys_nil (w : World) : Calls Try.prog 19 #[.pointer none] w fun e w' => e = .returned (.slice none 0 0) ∧ w = w' := by
  go_enter Try.func19, Try.ntmps19
  go_wp2
  go_ret
  exact ⟨rfl, rfl⟩
theorem PathL.next {B A : Nat → Nat} : ∀ {x : Nat} {l : List Nat} {z : Nat}, PathL B A x l z → ∀ k, k ≤ l.length → B ((x :: l).getD k 0) = (l ++ [z]).getD k 0
  | x, [], z, h, k, hk => by
    obtain rfl : k = 0 := by simpa using hk
    exact h.1
  | x, y :: l, z, h, 0, hk => h.1
  | x, y :: l, z, h, k + 1, hk => h.2.2.next k (by simpa using hk)
def lenV : Value → Nat
  | .slice _ n _ => n
  | _ => 0
theorem own_lowL {w : World} {base : Nat} {e : TypeId} {size n : Nat} {v : Value} {xs : List Value} (h : w.ownsRow base e size v n xs) : ∀ b ∈ blk v, base ≤ b := by
  intro b hm
  rcases h.2 with ⟨rfl, _⟩ | ⟨g, cap, cur, rfl, h2, _⟩
  · simp [blk, Value.ownBlock] at hm
  · have : b = g := by simpa [blk, Value.ownBlock] using hm
    omega
def kysL (L : List En) : List Value := L.flatMap fun e => kyL e.1
theorem kysL_step {L : List En} {k : Nat} {e : En} (he : e = L.getD k ((0,0,0,0), ⟨0,0,0,0⟩, [])) (hk : k < L.length) : kysL (L.take (k + 1)) = kysL (L.take k) ++ kyL e.1 := by
  have h : L.take (k + 1) = L.take k ++ [e] := by
    rw [List.take_add_one, List.getElem?_eq_getElem hk, he, List.getD_eq_getElem?_getD, List.getElem?_eq_getElem hk]
    rfl
  unfold kysL
  rw [h, List.flatMap_append]
  simp
theorem kyInfo3 : (Try.prog.info? 39).map (fun i => (i.zero, i.size, i.bytes)) = some (some (.agg #[.int .i64 0, .int .i64 0, .int .i64 0, .int .i64 0]), 4, 32) := by kernel_rfl
set_option maxRecDepth 100000 in
set_option maxHeartbeats 1000000 in
theorem lrkeys_any (B p : Nat) (bud : Int) (L : List En) (C : Cs) (w : World) (h : LrS w B p bud L C) : Calls Try.prog 19 #[.pointer (some ⟨p, 0, none⟩)] w fun e w' => ∃ A c, e = .returned (.slice A L.length c) ∧ Lists w' w'.heap.size A (kysL L) ∧ Below w.heap.size w w' := by
  obtain ⟨ord, hca, hL, hbud⟩ := h
  have hfr := hca.i.fr
  obtain ⟨g, c, hpv, hc, hg, pg, c3, hcell, hfz⟩ := hca.v.cells hfr.2.2
  have hpl := hca.v.lt
  have hlt : ∀ j ∈ ord, j < C.PL.length := fun j hj => hca.i.lt j (by simp [hj])
  have hz : 0 ∉ ord := fun e => (List.nodup_cons.1 hca.i.nd).1 (by simp [e])
  have hnx : ∀ k, k ≤ ord.length → bOf C.PL ((0 :: ord).getD k 0) = (ord ++ [0]).getD k 0 := fun k hk => hca.i.path.next k hk
  have b0 := hcell 0 10 _ (by omega) (by omega) rfl
  have hB0 : (atP C.PL 0).b = (ord ++ [0]).getD 0 0 := hnx 0 (Nat.zero_le _)
  rw [hB0, Nat.zero_mul, Nat.zero_add] at b0
  obtain ⟨nx, hnxd⟩ : ∃ nx : Nat → Nat, ∀ k, nx k = (ord ++ [0]).getD k 0 := ⟨_, fun _ => rfl⟩
  rw [← hnxd] at b0
  have hlen : ord.length = L.length := by rw [← hL, List.length_map]
  obtain ⟨n, hn⟩ : ∃ n, n = L.length := ⟨_, rfl⟩
  obtain ⟨z, hzz⟩ : ∃ z, z = C.PL.length := ⟨_, rfl⟩
  have hz0 : 0 < z := by omega
  rw [← hzz] at c3 hc
  have hn5 : n ≤ 524288 := by omega
  have hr : ∀ k, k < n → w.rangeAt g ((ord.getD k 0) * 11) (kyL (L.getD k ((0,0,0,0), ⟨0,0,0,0⟩, [])).1) := fun k hk j v hv => by
    have hk' : k < ord.length := by omega
    have hj : j < 4 := by have := (List.getElem?_eq_some_iff.1 hv).1; simpa [kyL] using this
    have ho : ord.getD k 0 = ord[k] := by rw [List.getD_eq_getElem?_getD, List.getElem?_eq_getElem hk', Option.getD_some]
    have hle : L.getD k ((0,0,0,0), ⟨0,0,0,0⟩, []) = ent C.PL ord[k] := by
      rw [List.getD_eq_getElem?_getD, ← hL, List.getElem?_map, List.getElem?_eq_getElem hk']; rfl
    rw [hle] at hv
    rw [ho]
    refine hcell ord[k] j v (hlt _ (List.getElem_mem hk')) (by omega) ?_
    rw [← hv]
    match j, hj with
    | 0, _ => rfl
    | 1, _ => rfl
    | 2, _ => rfl
    | 3, _ => rfl
  have hbk : ∀ k, k < n → w.cell? ⟨g, (ord.getD k 0) * 11 + 10, none⟩ = some (.int .i64 (nx (k + 1) : Nat)) ∧ ord.getD k 0 < z ∧ nx k = ord.getD k 0 ∧ ord.getD k 0 ≠ 0 := fun k hk => by
    have hk' : k < ord.length := by omega
    have ho : ord.getD k 0 = ord[k] := by rw [List.getD_eq_getElem?_getD, List.getElem?_eq_getElem hk', Option.getD_some]
    have hm := List.getElem_mem hk'
    have h1 := hcell ord[k] 10 _ (hlt _ hm) (by omega) rfl
    have h2 : (atP C.PL ord[k]).b = nx (k + 1) := by rw [hnxd, ← hnx (k + 1) (by omega)]; show _ = bOf C.PL (ord.getD k 0); rw [ho]; rfl
    rw [h2] at h1
    rw [ho]
    refine ⟨h1, by rw [hzz]; exact hlt _ hm, ?_, fun e => hz (by rw [← e]; exact hm)⟩
    rw [hnxd, List.getD_eq_getElem?_getD, List.getElem?_append_left hk', List.getElem?_eq_getElem hk', Option.getD_some]
  have hend : nx n = 0 := by rw [hnxd, List.getD_eq_getElem?_getD, show n = ord.length by omega]; simp
  have HR := Lib.hid (And.intro hr (And.intro hbk hend))
  have HN := Lib.hid hn
  clear hca hL hbud hfr hpv hcell hfz hlt hz hnx hnxd hB0 hlen hr hbk hend hn hzz
  obtain ⟨i0, hi, hz0', hz1, hz2⟩ := info_parts kyInfo3
  go_enter Try.func19, Try.ntmps19
  go_wp2
  go_loopw [3, 4] (fun s i wr => ∃ (k : Nat) (A : Option Addr) (cc : Nat), k ≤ n ∧ s = .slice A k cc ∧ i = .int .i64 (nx k : Nat) ∧ wr.ownsRow w.heap.size 39 4 (.slice A k cc) k (kysL (L.take k)) ∧ Below w.heap.size w wr) (fun s i _ => n - lenV s)
  case atStart => exact ⟨0, none, 0, Nat.zero_le _, rfl, rfl, World.ownsRow_nil _ _ _ _, Below.refl _ _⟩
  case round =>
    obtain ⟨k, A, cc, hk, rfl, rfl, hown, hbe⟩ := hrel
    have HO := Lib.hid hown
    have HBE := Lib.hid hbe
    have e3 : wr.cell? ⟨p, 3, none⟩ = _ := (hbe.cell (p := ⟨p, 3, none⟩) hpl).trans c3
    have hpl2 : p < wr.heap.size := Nat.lt_of_lt_of_le hpl hbe.size
    have hgl2 : g < wr.heap.size := Nat.lt_of_lt_of_le hg hbe.size
    by_cases hlt : k < n
    · obtain ⟨n1, n2, n3, n4⟩ := HR.out.2.1 k hlt
      have rr := HR.out.1 k hlt
      obtain ⟨e, he⟩ : ∃ e, e = L.getD k ((0,0,0,0), ⟨0,0,0,0⟩, []) := ⟨_, rfl⟩
      rw [← he] at rr
      obtain ⟨x, hx⟩ : ∃ x, x = ord.getD k 0 := ⟨_, rfl⟩
      rw [← hx] at n1 n2 n3 n4 rr
      rw [n3]
      obtain ⟨y, hy⟩ : ∃ y, y = nx (k + 1) := ⟨_, rfl⟩
      rw [← hy] at n1
      have rr2 : wr.rangeAt g (x * 11) #[.int .i64 e.1.1, .int .i64 e.1.2.1, .int .i64 e.1.2.2.1, .int .i64 e.1.2.2.2].toList := fun j v hv => (hbe.cell (p := ⟨g, x * 11 + j, none⟩) hg).trans (rr j v hv)
      have d0 : decide ((x : Int) = 0) = false := by simpa using n4
      have d1 : ((x : Int) != 0) = true := by simp; exact n4
      have own1 := own_only hown ((Only.refl wr []).alloc (.cells #[.int .i64 e.1.1, .int .i64 e.1.2.1, .int .i64 e.1.2.2.1, .int .i64 e.1.2.2.2] 39)) (fun _ _ h => (nomatch h))
      have hwl : w.heap.size ≤ wr.heap.size := hbe.size
      have HE := Lib.hid (And.intro he hy)
      have n1' : wr.cell? ⟨g, x * 11 + 10, none⟩ = _ := (hbe.cell (p := ⟨g, x * 11 + 10, none⟩) hg).trans n1
      have HN1 := Lib.hid n1
      clear he hy hx n3 n4 rr n1 hown hbe
      go_wp2_with (first
        | (refine wpList_load_mid rfl 39 (.tmp 31) (by with_reducible rfl) g (x * 11) (by rfl) #[.int .i64 e.1.1, .int .i64 e.1.2.1, .int .i64 e.1.2.2.1, .int .i64 e.1.2.2.2].toList _ rr2 Try.underlying39 rfl kyInfoL ?_)
        | (at_builtin; refine wpList_append_src _ rfl (.tmp 24) (.tmp 33) 56 rfl w.heap.size 39 i0 (.agg #[.int .i64 0, .int .i64 0, .int .i64 0, .int .i64 0]) 4 32 Try.underlying56 hi hz0' hz1 hz2 rfl (by decide) (.slice A k cc) k (kysL (L.take k)) rfl own1 (wr.heap.size + 1) (some ⟨wr.heap.size, 0, none⟩) 1 1 #[.int .i64 e.1.1, .int .i64 e.1.2.1, .int .i64 e.1.2.2.1, .int .i64 e.1.2.2.2].toList (by rfl) (lists_row wr #[.int .i64 e.1.1, .int .i64 e.1.2.1, .int .i64 e.1.2.2.1, .int .i64 e.1.2.2.2].toList 39) rfl (by simp [Value.oneCell']) (by simp only [maxLen]; omega) (by omega) (by simp; omega) ?_; intro v2 w2 own2 hg2 hat2; obtain ⟨A2, cc2, rfl, _⟩ := own_lists own2; have b2 : Below w.heap.size w w2 := ((HBE.out.alloc (by omega) (.cells #[.int .i64 e.1.1, .int .i64 e.1.2.1, .int .i64 e.1.2.2.1, .int .i64 e.1.2.2.2] 39)).trans (((Only.refl _ (blk (.slice A k cc))).grown hg2 (fun b hb => .inl (by simp [blk, hb]))).to_below (by simp; omega) (fun b hb => own_lowL HO.out b hb))); have p3 := (b2.cell (p := ⟨p, 3, none⟩) hpl).trans c3; have p10 := (b2.cell (p := ⟨g, x * 11 + 10, none⟩) hg).trans HN1.out; have pl2 := Nat.lt_of_lt_of_le hpl b2.size; have gl2 := Nat.lt_of_lt_of_le hg b2.size))
      go_roundw
      case rel =>
        refine ⟨k + 1, A2, cc2, by omega, rfl, by rw [HE.out.2], ?_, b2⟩
        rw [kysL_step HE.out.1 (by rw [← HN.out]; exact hlt)]
        exact own2
      case measure => simp [lenV]; omega
    · obtain rfl : k = n := by omega
      rw [HR.out.2.2]
      go_wp2
      obtain ⟨A2, c2, e2, hls, _⟩ := own_lists HO.out
      cases e2
      go_ret
      refine ⟨A, cc, by rw [← HN.out]; rfl, ?_, HBE.out⟩
      rw [HN.out, List.take_of_length_le (Nat.le_refl _)] at hls
      exact hls
end Go.Proofs.Ytaaboochologaaa

namespace Go.Proofs.Ytaaboochologaaa
open Go Go.RowKit
set_option linter.unusedVariables false
set_option linter.unusedSimpArgs false

def repL (n : Nat) (b : Int) : List Value := List.replicate n (.int .u8 b)
def mixL2 (n k : Nat) (b : Int) : List Value := repL k b ++ zrsL (n - k)
theorem mixL2_step {n k : Nat} (b : Int) (h : k < n) : (mixL2 n k b).set k (.int .u8 b) = mixL2 n (k + 1) b := by
  unfold mixL2
  rw [List.set_append_right _ _ (by simp [repL])]
  have e : n - k = (n - (k + 1)) + 1 := by omega
  rw [show (repL k b).length = k by simp [repL], Nat.sub_self, e, show zrsL (n - (k + 1) + 1) = .int .u8 0 :: zrsL (n - (k + 1)) from rfl, List.set_cons_zero]
  have : repL (k + 1) b = repL k b ++ [.int .u8 b] := by unfold repL; rw [List.replicate_succ']
  rw [this, List.append_assoc]
  rfl
theorem blk_set_listL {w : World} {g : Nat} {T : TypeId} {E : List Value} (h : Blk w g T E.toArray) (j : Nat) (v : Value) : Blk (w.setCell ⟨g, j, none⟩ v) g T (E.set j v).toArray := by
  have := h.set j v
  rwa [List.setIfInBounds_toArray] at this
set_option maxRecDepth 100000 in
theorem lmask_any (n : Nat) (b : Int) (hn : 1 ≤ n ∧ n ≤ 16777216) (w : World) : Calls Try.prog 18 #[.int .i64 (n : Nat), .int .u8 b] w fun e w' => ∃ g, e = .returned (.agg #[.int .i64 0, .int .i64 0, .int .i64 (n : Nat), .int .i64 1, .slice (some ⟨g, 0, none⟩) n n]) ∧ Blk w' g 5 (repL n b).toArray ∧ w.heap.size ≤ g ∧ Below w.heap.size w w' := by
  have MK := fun W => make_lr n hn.2 W
  obtain ⟨w0, hw0⟩ : ∃ w0, w0 = w.alloc (.cells #[.int .i64 0, .int .i64 0, .int .i64 0, .int .i64 0, .slice none 0 0] 37) := ⟨_, rfl⟩
  have B0 : Below w.heap.size w w0 := hw0 ▸ below_a1 _ _
  have s0 : w0.heap.size = w.heap.size + 1 := by rw [hw0]; simp
  have R0 : Blk w0 w.heap.size 37 #[.int .i64 0, .int .i64 0, .int .i64 0, .int .i64 0, .slice none 0 0] := hw0 ▸ Blk.new _ _ _
  obtain ⟨w2, hw2⟩ : ∃ w2, w2 = (w0.alloc (.cells (zrsL n).toArray 5)).alloc (.cells #[.int .i64 0, .int .i64 0, .int .i64 0, .int .i64 0, .slice none 0 0] 37) := ⟨_, rfl⟩
  have B2 : Below w0.heap.size w0 w2 := hw2 ▸ below_a2 _ _ _
  have R2 : Blk w2 (w0.heap.size + 1) 37 #[.int .i64 0, .int .i64 0, .int .i64 0, .int .i64 0, .slice none 0 0] := by
    have := Blk.new (w0.alloc (.cells (zrsL n).toArray 5)) 37 #[.int .i64 0, .int .i64 0, .int .i64 0, .int .i64 0, .slice none 0 0]
    rw [World.size_alloc] at this
    exact hw2 ▸ this
  have G2 : Blk w2 w0.heap.size 5 (zrsL n).toArray := hw2 ▸ (Blk.new w0 5 (zrsL n).toArray).below (below_a1 _ (.cells #[.int .i64 0, .int .i64 0, .int .i64 0, .int .i64 0, .slice none 0 0] 37))
  obtain ⟨w3, hw3⟩ : ∃ w3, w3 = w2.setRow (w0.heap.size + 1) #[.int .i64 0, .int .i64 0, .int .i64 (n : Nat), .int .i64 1, .slice (some ⟨w0.heap.size, 0, none⟩) n n] := ⟨_, rfl⟩
  have o3 : Only w2 w3 [w0.heap.size + 1] := hw3 ▸ only_row (Only.refl _ _) (.inl (by simp)) _
  have R3 : Blk w3 (w0.heap.size + 1) 37 #[.int .i64 0, .int .i64 0, .int .i64 (n : Nat), .int .i64 1, .slice (some ⟨w0.heap.size, 0, none⟩) n n] := hw3 ▸ blk_row R2 _
  have G3 := G2.only o3 (by simp)
  have R0' := (R0.below B2).only o3 (by simp; omega)
  have HR2 := Lib.hid R2
  have OW := Lib.hid (((Only.of_below B0 []).trans (Only.of_below B2 []) (fun b hb => (nomatch hb))).trans o3 (fun b hb => .inr (by simp at hb; omega)))
  have H0 := Lib.hid hw0
  have H2 := Lib.hid hw2
  have H3 := Lib.hid hw3
  have HS := Lib.hid s0
  have HR := Lib.hid (And.intro R3 (And.intro G3 R0'))
  have d0 : decide ((n : Int) = 0) = false := by simp; omega
  have d1 : ((n : Int) == 0) = false := by simp; omega
  clear R0 R2 G2 o3 R3 G3 R0' B2 B0 hw0 hw2 hw3 s0
  go_enter Try.func18, Try.ntmps18
  go_upto_region 1 with fail
  rw [← H0.out]
  go_upto_region 2 with (refine wpList_store_row rfl 37 (.tmp 5) (.tmp 11) (by with_reducible rfl) (w0.heap.size + 1) #[.int .i64 0, .int .i64 0, .int .i64 (n : Nat), .int .i64 1, .slice (some ⟨w0.heap.size, 0, none⟩) n n] (by rfl) (by rfl) 37 #[.int .i64 0, .int .i64 0, .int .i64 0, .int .i64 0, .slice none 0 0] (by rw [← H2.out]; exact HR2.out) mkInfoL rfl (by simp [Value.oneCell']) ?_)
  rw [← H2.out, ← H3.out]
  go_wp2
  have kk := HR.out.1
  have HW := HR.out.2.1.lt
  have m0 := kk.cell 0; have m1 := kk.cell 1; have m2 := kk.cell 2; have m3 := kk.cell 3; have m4 := kk.cell 4; have ml := kk.lt; simp only [List.getElem?_toArray, List.getElem?_cons_succ, List.getElem?_cons_zero] at m0 m1 m2 m3 m4
  clear kk
  obtain ⟨g, hg⟩ : ∃ g, g = w0.heap.size := ⟨_, rfl⟩
  rw [← hg] at HR HW m4 ml ⊢
  have HG := Lib.hid hg
  clear hg
  go_loopw [6] (fun i wr => ∃ k : Nat, k ≤ n ∧ i = .int .i64 (k : Nat) ∧ Blk wr g 5 (mixL2 n k b).toArray ∧ Only w3 wr [g]) (fun i _ => n - (intOf i).toNat)
  case atStart => exact ⟨0, Nat.zero_le _, rfl, HR.out.2.1, Only.refl _ _⟩
  case round =>
    obtain ⟨k, hk, rfl, hb, ho⟩ := hrel
    have HB := Lib.hid hb
    have HO := Lib.hid ho
    have e4 : wr.cell? ⟨g + 1, 4, none⟩ = _ := (only_cellL ho (p := ⟨g + 1, 4, none⟩) ml (by simp)).trans m4
    have hgl := hb.lt
    have hgm : g + 1 < wr.heap.size := Nat.lt_of_lt_of_le ml ho.size
    by_cases hlt : k < n
    · obtain ⟨d, hd⟩ : ∃ d, (mixL2 n k b)[k]? = some d := ⟨_, List.getElem?_eq_getElem (by simp [mixL2, repL, zrsL]; omega)⟩
      have hcell : wr.cell? ⟨g, k, none⟩ = some d := by rw [hb.cell, List.getElem?_toArray]; exact hd
      have hfr := hb.frozen k
      clear hb ho hd
      go_wp2
      go_roundw
      case rel =>
        refine ⟨k + 1, by omega, by go_num, ?_, HO.out.set (.inl (by simp)) _⟩
        rw [← mixL2_step b hlt]
        exact blk_set_listL HB.out _ _
      case measure => simp [intOf]; omega
    · obtain rfl : n = k := by omega
      have M4 := HR.out.1.only HO.out (by simp)
      have n0 := M4.cell 0; have n1 := M4.cell 1; have n2 := M4.cell 2; have n3 := M4.cell 3; have n4 := M4.cell 4; have nl := M4.lt; simp only [List.getElem?_toArray, List.getElem?_cons_succ, List.getElem?_cons_zero] at n0 n1 n2 n3 n4
      have R4 := HR.out.2.2.only HO.out (by simp; have := HS.out; have := HG.out; omega)
      have HR4 := Lib.hid R4
      clear M4 R4 hb ho
      go_wp2_with (refine wpList_store_row rfl 37 (.tmp 4) (.tmp 26) (by with_reducible rfl) w.heap.size #[.int .i64 0, .int .i64 0, .int .i64 (n : Nat), .int .i64 1, .slice (some ⟨g, 0, none⟩) n n] (by rfl) (by rfl) 37 #[.int .i64 0, .int .i64 0, .int .i64 0, .int .i64 0, .slice none 0 0] (by exact HR4.out) mkInfoL rfl (by simp [Value.oneCell']) ?_)
      have o9 : Only wr (wr.setRow w.heap.size #[.int .i64 0, .int .i64 0, .int .i64 (n : Nat), .int .i64 1, .slice (some ⟨g, 0, none⟩) n n]) [w.heap.size] := only_row (Only.refl _ _) (.inl (by simp)) _
      have hgs : g = w.heap.size + 1 := by rw [HG.out, HS.out]
      refine bodyPost_ret (results_cell_row Try.results18 _ _ w.heap.size 37 #[.int .i64 0, .int .i64 0, .int .i64 (n : Nat), .int .i64 1, .slice (some ⟨g, 0, none⟩) n n] (0, 0) _ (by rfl) (show Blk _ _ _ _ from blk_row HR4.out _) Try.underlying37 rfl mkInfoL) rfl ⟨g, rfl, ?_, by omega, ?_⟩
      · have e : mixL2 n n b = repL n b := by simp [mixL2, zrsL]
        have h1 := HB.out
        rw [e] at h1
        exact h1.only o9 (by simp; omega)
      · exact ((OW.out.trans HO.out (fun b hb => .inr (by simp at hb; omega))).trans o9 (fun b hb => .inr (by simp at hb; omega))).nil_below
end Go.Proofs.Ytaaboochologaaa
