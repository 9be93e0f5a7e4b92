/- StackDoes: numbers that are pushed and popped, and operators, in any order; no condition but what the row prints. -/
import Derived.Test.YtkhafhdmcalhbaaM17StackDoes

namespace Go.Proofs.Ytkhafhdmcalhbaa.stackDoes
open Go Go.ChangeShapes Go.WideShapes Go.ChangeAt Go.RowKit
set_option linter.unusedVariables false
set_option linter.unusedSimpArgs false

theorem open_intsz {H : Type} {enc : TypeId × Value → H} {P : Program} {w : World} {t e : TypeId} {base : Nat} {spare : Nat → Bool} {held : Bool} {r : Reach} {b0 : Nat} {v : Value} {d : DataW H} {p : List MemPlace}
    (hs : P.underlying t = some (.slice e)) (he : P.underlying e = some (.int .i64)) (hC : P.cellsOf e = 1) (hb : P.bytesOf e = 8)
    (hv : Value.okWide P w r b0 t v) (h : DataW.Trod enc P w base spare held t v d p) (hz : ∀ m ∈ d.weights P t, m ≤ reachBytes) :
    ∃ (A : Option Addr) (c : Nat) (L : List Int), v = .slice A L.length c ∧ Lists w w.heap.size A (intCells L) ∧ L.length ≤ 17592186044416 := by
  obtain ⟨a0, len, cap, rfl⟩ := okWide_slice hs hv
  obtain ⟨fuel, hf⟩ := h
  rw [show (Value.slice a0 len cap).cells = #[.slice a0 len cap] from rfl] at hf
  obtain ⟨A, n, c, zs, hv1, hlen, hnc, hcm, hL, hwf, hw⟩ := open_nums hs he hC hf
  have h1 := hw reachBytes hz
  rw [hb] at h1
  have hr := reachBytes_lt
  exact ⟨A, c, zs, by rw [hlen]; exact hv1, hL, by omega⟩
variable {W : World}
set_option maxRecDepth 100000 in
set_option maxHeartbeats 8000000 in
theorem walk1 (A0 : Option Addr) (c0 : Nat) (D : List Int) (hD : D.length ≤ 17592186044416) (hd : Lists W W.heap.size A0 (intCells D)) (A : Option Addr) (n c : Nat) (L0 : List (Int × Int)) (hn : L0.length = n) (hm : n ≤ 9223372036854775807) (hl : Lists W W.heap.size A (callCells L0)) : Calls Try.prog 3 #[.slice A0 D.length c0, .slice A n c] W fun e w' => e = .returned (.bool true) ∧ Below W.heap.size W w' := by
  obtain ⟨i1, hi1, hz1, hs1, hy1⟩ := info_partsS infoS
  have HDL := Lib.hid hd
  have HL := Lib.hid hl
  have HN := Lib.hid hn
  have HDD := Lib.hid hD
  have hA0 : ∀ a, A0 = some a → intCells D ≠ [] → a.block < W.heap.size := fun a ha hne => hd.lt a ha hne
  have BRF := bRef A0 D.length c0
  have Bx1 : D.length + 0 ≤ maxLen := by simp only [maxLen]; omega
  clear hd hl hn
  go_enter Try.func3, Try.ntmps3
  go_wp2_with (first
    | (at_builtin; refine wpList_append_src _ rfl (.tmp 14) (.tmp 15) 22 rfl W.heap.size 3 i1 (.int .i64 0) 1 8 Try.underlying22 hi1 hz1 hs1 hy1 rfl (by decide) (.slice (some ⟨W.heap.size, 0, none⟩) 0 0) 0 [] rfl (own_newS W) W.heap.size A0 D.length c0 (intCells D) rfl (HDL.out.below ((Below.refl _ _).alloc (Nat.le_refl _) _)) (by rw [intCells_len, Nat.mul_one]) (intCells_oneS D) (by simp only [maxLen]; omega) (by omega) (by simp) ?_; intro v1 w1 own1 hg1 hat1; rw [Nat.zero_add, List.nil_append] at own1; have b1 : Below W.heap.size W w1 := ((Below.refl _ _).alloc (Nat.le_refl _) _).grown hg1 (by simp) (fun j hj => by cases hj; exact Nat.le_refl _); obtain ⟨A1, c1, rfl, hl1, hc1⟩ := own_lists own1; have CN := new_any w1.heap.size A1 c1 D w1 (Nat.le_refl _) hl1 HDD.out)
    | (go_at_call 8; ((with_reducible refine (CN).mono ?_); rintro e w2 ⟨q, rfl, hs, b2, hq⟩))
    | (go_at_call 9; ((with_reducible refine (lives17 _).mono ?_); rintro e w3 ⟨rfl, b3⟩); have hs := hs.below b3; have b13 := b1.trans ((b2.trans (b3.mono b2.size)).mono b1.size))
    | (refine wpList_build_toS rfl 30 #[(2, .tmp 24)] (by with_reducible rfl) [(2, .slice A0 D.length c0)] (by rfl) (rkCells (.slice none 0 0) (List.replicate 32 0) (.slice A0 D.length c0) 0) BRF ?_))
  have hq1 := hs.lt
  have hq2 : W.heap.size ≤ q := Nat.le_trans b1.size hq
  have KR := Blk.new w3 30 (rkCells (.slice none 0 0) (List.replicate 32 0) (.slice A0 D.length c0) 0)
  have bA := (Below.refl w3.heap.size w3).alloc (Nat.le_refl _) (.cells (rkCells (.slice none 0 0) (List.replicate 32 0) (.slice A0 D.length c0) 0) 30)
  obtain ⟨p, hp⟩ : ∃ p, p = w3.heap.size := ⟨_, rfl⟩
  rw [← hp] at KR hq1 ⊢
  have HF := Lib.hid (show PS W q p A0 c0 (.slice none 0 0) (.slice none 0 0) [] (List.replicate 32 0) D 0 (w3.alloc (.cells (rkCells (.slice none 0 0) (List.replicate 32 0) (.slice A0 D.length c0) 0) 30)) from
    ⟨by rw [List.drop_zero]; exact hs.below bA, ⟨⟨A0, c0, KR, ((HDL.out.below b13).more (by have := b13.size; omega)).below (bA.mono (by omega))⟩, World.ownsRow_nil _ _ _ _, by simp, by simp, fun y hy => (nomatch hy), HDD.out, by omega⟩, hq1, fun b hb => by simp [blk, Value.ownBlock] at hb, fun b hb => by simp [blk, Value.ownBlock] at hb, (KR.cell 33).trans (rk_c33 _ _ _ _ (by simp)), b13.trans (bA.mono b13.size), hq2⟩)
  clear hs b1 b2 b3 b13 KR bA hp hq hq1 hq2
  go_loopw [7] (fun iv wr => ∃ (k : Nat) (nv lv : Value) (L St : List Int) (u : Nat), k ≤ n ∧ k ≤ 300 ∧ iv = .int .i64 (k : Nat) ∧ u ≤ k ∧ Hid (PS W q p A0 c0 nv lv L St D u wr)) (fun iv _ => 300 - (intOf iv).toNat)
  case atStart => exact ⟨0, _, _, _, _, 0, Nat.zero_le _, by omega, rfl, Nat.le_refl _, HF⟩
  case round =>
    obtain ⟨k, nv, lv, L, St, u, hk, hk300, rfl, hu, HK⟩ := hrel
    by_cases hlt : k < n ∧ k < 300
    · obtain ⟨hlt1, hlt2⟩ := hlt
      have y1 : decide ((k : Int) < (n : Int)) = true := by simp; omega
      have y2 : decide ((k : Int) < 300) = true := by simp; omega
      obtain ⟨x, hx⟩ : ∃ x, L0[k]? = some x := ⟨L0[k]'(by rw [HN.out]; exact hlt1), List.getElem?_eq_getElem _⟩
      obtain ⟨kd, xx⟩ := x
      obtain ⟨m1, m2⟩ := callCells_at L0 k kd xx hx
      have hne : callCells L0 ≠ [] := by intro e; rw [e] at m1; simp at m1
      obtain ⟨b5, o5, hA, hb5, hc5⟩ := HL.out.plain hne
      subst hA
      have G0 := Lib.hid (show wr.rangeAt b5 (o5 + k * 2) [.int .i64 kd, .int .i64 xx] from range_below (B := W.heap.size) (fun j v hv => by
        match j, hv with
        | 0, hv => cases hv; exact hc5 (k * 2) _ m1
        | 1, hv => cases hv; exact hc5 (k * 2 + 1) _ m2) hb5 HK.out.bw)
      have hbA := below_a1 wr (.cells #[.int .i64 kd, .int .i64 xx] 32)
      have KC := Blk.new wr 32 #[.int .i64 kd, .int .i64 xx]
      obtain ⟨tb, htb⟩ : ∃ tb, tb = wr.heap.size := ⟨_, rfl⟩
      rw [← htb] at KC
      obtain ⟨wA, hwA⟩ : ∃ wA, wA = wr.alloc (.cells #[.int .i64 kd, .int .i64 xx] 32) := ⟨_, rfl⟩
      rw [← hwA] at KC hbA
      have PA := Lib.hid (HK.out.below hbA)
      have HTC := Lib.hid (show wA.cell? ⟨tb, 1, none⟩ = some (.int .i64 xx) ∧ tb < wA.heap.size from ⟨KC.cell 1, KC.lt⟩)
      have HTP := Lib.hid (show p < tb by rw [htb]; exact HK.out.r.lt)
      have HTQ := Lib.hid (show q < tb by rw [htb]; exact HK.out.s.lt)
      have HTB := Lib.hid (show tb ∉ blk nv from fun hm => by have := blk_lt HK.out.s.own tb hm; omega)
      have HWA := Lib.hid hwA
      have HTW := Lib.hid htb
      clear hx m1 m2 hne hc5 hb5 hbA KC hwA htb HK HF
      have CUT : ∀ (KD : Int), KD = kd → True := fun _ _ => trivial
      clear CUT
      by_cases hk1 : kd = 1
      · subst hk1
        skip
        go_wp2_with (first | (refine wpList_load_mid rfl 32 _ (by with_reducible rfl) b5 (o5 + k * 2) (by rfl) [.int .i64 1, .int .i64 xx] _ G0.out Try.underlying32 rfl (by kernel_rfl) ?_))
        rw [← HWA.out]
        rw [← HTW.out]
        have hI : wA.drew.cell? ⟨tb, 1, none⟩ = some (.int .i64 xx) ∧ tb < wA.drew.heap.size := HTC.out
        have PD := Lib.hid (PA.out.below (Below.refl _ _).drew)
        refine wp_region_chain (fun V => V.cell? ⟨tb, 1, none⟩ = some (.int .i64 xx) ∧ tb < V.heap.size) [(0, false), (1, false), (2, false), (4, false), (5, false), (6, false), (3, true), (7, true), (8, false), (9, false)] (by kernel_rfl) (by kernel_rfl) hI ?_
        repeat (first
          | (refine ChainL.skip (o := ?_) ?_ ?_ ?_; rotate_left; (focus (first | (simp only [List.getElem?_toArray, List.getElem?_cons_succ, List.getElem?_cons_zero]; with_reducible rfl) | (simp only [List.getElem?_toArray, List.getElem?_cons_zero]; with_reducible rfl))); (focus rfl); simp only [Act.put, List.setIfInBounds_toArray, List.set_cons_zero, List.set_cons_succ])
          | (refine ChainL.val (o := ?_) (v := ?_) ?_ ?_ ?_ ?_ ?_; rotate_left 2; (focus (first | (simp only [List.getElem?_toArray, List.getElem?_cons_succ, List.getElem?_cons_zero]; with_reducible rfl) | (simp only [List.getElem?_toArray, List.getElem?_cons_zero]; with_reducible rfl))); (focus (intro _ _ h; cases h)); (focus rfl); (focus (intro w' hJ; obtain ⟨y0, yl⟩ := hJ; go_simp <;> with_reducible rfl)); simp only [Act.put, List.setIfInBounds_toArray, List.set_cons_zero, List.set_cons_succ]))
        refine ChainL.call (o := ?_) (f := ?_) (args := ?_) ?_ ?_ ?_ ?_
        rotate_left 3
        (focus (first | (simp only [List.getElem?_toArray, List.getElem?_cons_succ, List.getElem?_cons_zero]; with_reducible rfl) | (simp only [List.getElem?_toArray, List.getElem?_cons_zero]; with_reducible rfl)))
        (focus rfl)
        (focus (go_simp; (constructor <;> with_reducible rfl)))
        with_reducible refine (push_any q nv L St (D.drop u) xx _ PD.out.s).mono ?_
        rintro e w1 ⟨rfl, nv2, hs2, hm2⟩
        have hI1 : w1.cell? ⟨tb, 1, none⟩ = some (.int .i64 xx) ∧ tb < w1.heap.size := ⟨(World.cell?_of_block (w' := w1) (w := wA.drew) (a := ⟨tb, 1, none⟩) (hm2.1.block tb hI.2 (by intro hmem; rcases List.mem_cons.1 hmem with e | e; (have := PA.out.s.lt; have := PA.out.qp; have := PA.out.r.lt; have := HTQ.out; omega); exact HTB.out e))).trans hI.1, Nat.lt_of_lt_of_le hI.2 hm2.1.size⟩
        have M1 := Lib.hid (PD.out.code hA0 hs2 hm2)
        refine ⟨_, rfl, hI1, ?_⟩
        simp only [Act.put, List.setIfInBounds_toArray, List.set_cons_zero, List.set_cons_succ]
        refine ChainL.call (o := ?_) (f := ?_) (args := ?_) ?_ ?_ ?_ ?_
        rotate_left 3
        (focus (first | (simp only [List.getElem?_toArray, List.getElem?_cons_succ, List.getElem?_cons_zero]; with_reducible rfl) | (simp only [List.getElem?_toArray, List.getElem?_cons_zero]; with_reducible rfl)))
        (focus rfl)
        (focus (go_simp; (constructor <;> with_reducible rfl)))
        with_reducible refine (rpush_any p lv L St D u xx _ M1.out.r).mono ?_
        rintro e w2 ⟨rfl, lv2, hr2, hm3⟩
        have hI2 : w2.cell? ⟨tb, 1, none⟩ = some (.int .i64 xx) ∧ tb < w2.heap.size := ⟨(World.cell?_of_block (w' := w2) (w := w1) (a := ⟨tb, 1, none⟩) (hm3.1.block tb hI1.2 (by intro hmem; simp at hmem; have := HTP.out; omega))).trans hI1.1, Nat.lt_of_lt_of_le hI1.2 hm3.1.size⟩
        have P2 := M1.out.ref hr2 hm3
        refine ⟨_, rfl, hI2, ?_⟩
        simp only [Act.put, List.setIfInBounds_toArray, List.set_cons_zero, List.set_cons_succ]
        repeat (first
          | (refine ChainL.skip (o := ?_) ?_ ?_ ?_; rotate_left; (focus (first | (simp only [List.getElem?_toArray, List.getElem?_cons_succ, List.getElem?_cons_zero]; with_reducible rfl) | (simp only [List.getElem?_toArray, List.getElem?_cons_zero]; with_reducible rfl))); (focus rfl); simp only [Act.put, List.setIfInBounds_toArray, List.set_cons_zero, List.set_cons_succ])
          | (refine ChainL.val (o := ?_) (v := ?_) ?_ ?_ ?_ ?_ ?_; rotate_left 2; (focus (first | (simp only [List.getElem?_toArray, List.getElem?_cons_succ, List.getElem?_cons_zero]; with_reducible rfl) | (simp only [List.getElem?_toArray, List.getElem?_cons_zero]; with_reducible rfl))); (focus (intro _ _ h; cases h)); (focus rfl); (focus (intro w' hJ; skip; go_simp <;> with_reducible rfl)); simp only [Act.put, List.setIfInBounds_toArray, List.set_cons_zero, List.set_cons_succ]))
        refine ChainL.nil ?_
        obtain ⟨wT, hwT⟩ : ∃ wT, wT = w2 := ⟨_, rfl⟩
        rw [← hwT] at P2 ⊢
        clear hwT
        obtain ⟨nv5, lv5, L5, St5, u5, hu5, HP⟩ : ∃ nv5 lv5 L5 St5 u5, u5 ≤ k + 1 ∧ Hid (PS W q p A0 c0 nv5 lv5 L5 St5 D u5 wT) := ⟨_, _, _, _, _, by omega, Lib.hid P2⟩
        clear P2 M1 PD hI hI1 hI2 hr2 hm3 hs2 hm2
        go_wp2
        have P5 := HP.out
        obtain ⟨A7, c7, hlv, hl7, hc7⟩ := own_lists P5.r.own
        subst hlv
        obtain ⟨Ar, cr, hbr, _⟩ := P5.r.blk
        have HX := Lib.hid (show ∀ V, Below wT.heap.size wT V → V.cell? ⟨p, 0, none⟩ = some (.slice A7 L5.length c7) ∧ p < V.heap.size from fun V hV => ⟨((hbr.below hV).cell 0).trans (rk_c0 _ _ _ _), (hbr.below hV).lt⟩)
        have CALL := fun V (hV : Below wT.heap.size wT V) => all_any q nv5 L5 St5 (D.drop u5) V (P5.s.below hV)
        have CLEN := fun V (hV : Below wT.heap.size wT V) => len_any q nv5 L5 St5 (D.drop u5) V (P5.s.below hV)
        have h48 := P5.s.len
        have HL7 := Lib.hid hl7
        have HCA := Lib.hid CALL
        have HCL := Lib.hid CLEN
        clear P5 hbr hl7 CALL CLEN
        have hG : Below wT.heap.size wT wT.drew := (Below.refl _ _).drew
        refine wp_region_chain (fun V => Below wT.heap.size wT V) [(0, false), (1, false), (2, false), (3, false), (5, false), (6, false), (7, false), (8, false), (4, true), (9, true), (10, false), (11, false), (12, false), (13, false), (15, false), (16, false), (17, false), (18, false), (19, false), (14, true), (20, false), (21, false)] (by kernel_rfl) (by kernel_rfl) hG ?_
        repeat (first
          | (refine ChainL.skip (o := ?_) ?_ ?_ ?_; rotate_left; (focus (first | (simp only [List.getElem?_toArray, List.getElem?_cons_succ, List.getElem?_cons_zero]; with_reducible rfl) | (simp only [List.getElem?_toArray, List.getElem?_cons_zero]; with_reducible rfl))); (focus rfl); simp only [Act.put, List.setIfInBounds_toArray, List.set_cons_zero, List.set_cons_succ])
          | (refine ChainL.val (o := ?_) (v := ?_) ?_ ?_ ?_ ?_ ?_; rotate_left 2; (focus (first | (simp only [List.getElem?_toArray, List.getElem?_cons_succ, List.getElem?_cons_zero]; with_reducible rfl) | (simp only [List.getElem?_toArray, List.getElem?_cons_zero]; with_reducible rfl))); (focus (intro _ _ h; cases h)); (focus rfl); (focus (intro w' hJ; obtain ⟨y0, yl⟩ := HX.out _ hJ; go_simp <;> with_reducible rfl)); simp only [Act.put, List.setIfInBounds_toArray, List.set_cons_zero, List.set_cons_succ]))
        refine ChainL.call (o := ?_) (f := ?_) (args := ?_) ?_ ?_ ?_ ?_
        rotate_left 3
        (focus (first | (simp only [List.getElem?_toArray, List.getElem?_cons_succ, List.getElem?_cons_zero]; with_reducible rfl) | (simp only [List.getElem?_toArray, List.getElem?_cons_zero]; with_reducible rfl)))
        (focus rfl)
        (focus (go_simp; (constructor <;> with_reducible rfl)))
        with_reducible refine (HCA.out _ hG).mono ?_
        rintro e w6 ⟨v, rfl, own6, b6⟩
        obtain ⟨A6, c6, rfl, hl6, hc6⟩ := own_lists own6
        have hG6 := hG.trans (b6.mono hG.size)
        have HL6 := Lib.hid hl6
        clear own6 hl6
        refine ⟨_, rfl, hG6, ?_⟩
        simp only [Act.put, List.setIfInBounds_toArray, List.set_cons_zero, List.set_cons_succ]
        refine ChainL.call (o := ?_) (f := ?_) (args := ?_) ?_ ?_ ?_ ?_
        rotate_left 3
        (focus (first | (simp only [List.getElem?_toArray, List.getElem?_cons_succ, List.getElem?_cons_zero]; with_reducible rfl) | (simp only [List.getElem?_toArray, List.getElem?_cons_zero]; with_reducible rfl)))
        (focus rfl)
        (focus (go_simp; (constructor <;> with_reducible rfl)))
        with_reducible refine (sameInts_eq L5.length w6.heap.size A6 A7 c6 c7 L5 w6 (Nat.le_refl _) HL6.out ((HL7.out.below hG6).more hG6.size) rfl (by omega)).mono ?_
        rintro e w7 ⟨rfl, b7⟩
        have hG7 := hG6.trans (b7.mono hG6.size)
        refine ⟨_, rfl, hG7, ?_⟩
        simp only [Act.put, List.setIfInBounds_toArray, List.set_cons_zero, List.set_cons_succ]
        repeat (first
          | (refine ChainL.skip (o := ?_) ?_ ?_ ?_; rotate_left; (focus (first | (simp only [List.getElem?_toArray, List.getElem?_cons_succ, List.getElem?_cons_zero]; with_reducible rfl) | (simp only [List.getElem?_toArray, List.getElem?_cons_zero]; with_reducible rfl))); (focus rfl); simp only [Act.put, List.setIfInBounds_toArray, List.set_cons_zero, List.set_cons_succ])
          | (refine ChainL.val (o := ?_) (v := ?_) ?_ ?_ ?_ ?_ ?_; rotate_left 2; (focus (first | (simp only [List.getElem?_toArray, List.getElem?_cons_succ, List.getElem?_cons_zero]; with_reducible rfl) | (simp only [List.getElem?_toArray, List.getElem?_cons_zero]; with_reducible rfl))); (focus (intro _ _ h; cases h)); (focus rfl); (focus (intro w' hJ; obtain ⟨y0, yl⟩ := HX.out _ hJ; go_simp <;> with_reducible rfl)); simp only [Act.put, List.setIfInBounds_toArray, List.set_cons_zero, List.set_cons_succ]))
        refine ChainL.call (o := ?_) (f := ?_) (args := ?_) ?_ ?_ ?_ ?_
        rotate_left 3
        (focus (first | (simp only [List.getElem?_toArray, List.getElem?_cons_succ, List.getElem?_cons_zero]; with_reducible rfl) | (simp only [List.getElem?_toArray, List.getElem?_cons_zero]; with_reducible rfl)))
        (focus rfl)
        (focus (go_simp; (constructor <;> with_reducible rfl)))
        with_reducible refine (HCL.out _ hG7).mono ?_
        rintro e w8 ⟨rfl, rfl⟩
        skip
        refine ⟨_, rfl, hG7, ?_⟩
        simp only [Act.put, List.setIfInBounds_toArray, List.set_cons_zero, List.set_cons_succ]
        repeat (first
          | (refine ChainL.skip (o := ?_) ?_ ?_ ?_; rotate_left; (focus (first | (simp only [List.getElem?_toArray, List.getElem?_cons_succ, List.getElem?_cons_zero]; with_reducible rfl) | (simp only [List.getElem?_toArray, List.getElem?_cons_zero]; with_reducible rfl))); (focus rfl); simp only [Act.put, List.setIfInBounds_toArray, List.set_cons_zero, List.set_cons_succ])
          | (refine ChainL.val (o := ?_) (v := ?_) ?_ ?_ ?_ ?_ ?_; rotate_left 2; (focus (first | (simp only [List.getElem?_toArray, List.getElem?_cons_succ, List.getElem?_cons_zero]; with_reducible rfl) | (simp only [List.getElem?_toArray, List.getElem?_cons_zero]; with_reducible rfl))); (focus (intro _ _ h; cases h)); (focus rfl); (focus (intro w' hJ; skip; go_simp <;> with_reducible rfl)); simp only [Act.put, List.setIfInBounds_toArray, List.set_cons_zero, List.set_cons_succ]))
        refine ChainL.nil ?_
        have HP8 := Lib.hid (HP.out.below hG7)
        clear HCA HCL HX HL7 HL6 HP b6 b7 hG hG6 hG7
        go_wp2
        go_roundw
        case rel => exact ⟨k + 1, nv5, _, L5, St5, u5, by omega, by omega, by go_num, hu5, HP8⟩
        case measure => simp [intOf]; omega
      · by_cases hk2 : kd = 2
        · subst hk2
          skip
          rcases List.eq_nil_or_concat L with hL0 | ⟨L1, xl, hL0⟩
          · subst hL0
            clear hk1
            have PE := PA.out
            rw [HWA.out] at PE
            go_wp2_with (first | (refine wpList_load_mid rfl 32 _ (by with_reducible rfl) b5 (o5 + k * 2) (by rfl) [.int .i64 2, .int .i64 xx] _ G0.out Try.underlying32 rfl (by kernel_rfl) ?_) | (go_at_call 12; ((with_reducible refine (pop_nil q nv St (D.drop u) _ PE.s).mono ?_); rintro e w1 ⟨rfl, rfl⟩)) | (go_at_call 13; ((with_reducible refine (rpop_nil p lv St D u _ PE.r).mono ?_); rintro e w2 ⟨rfl, rfl⟩)))
            rw [← HWA.out] at PE ⊢
            obtain ⟨wT, hwT⟩ : ∃ wT, wT = wA := ⟨_, rfl⟩
            rw [← hwT] at PE ⊢
            clear hwT
            obtain ⟨nv5, lv5, L5, St5, u5, hu5, HP⟩ : ∃ nv5 lv5 L5 St5 u5, u5 ≤ k + 1 ∧ Hid (PS W q p A0 c0 nv5 lv5 L5 St5 D u5 wT) := ⟨_, _, _, _, _, by omega, Lib.hid PE⟩
            clear PE
            have P5 := HP.out
            obtain ⟨A7, c7, hlv, hl7, hc7⟩ := own_lists P5.r.own
            subst hlv
            obtain ⟨Ar, cr, hbr, _⟩ := P5.r.blk
            have HX := Lib.hid (show ∀ V, Below wT.heap.size wT V → V.cell? ⟨p, 0, none⟩ = some (.slice A7 L5.length c7) ∧ p < V.heap.size from fun V hV => ⟨((hbr.below hV).cell 0).trans (rk_c0 _ _ _ _), (hbr.below hV).lt⟩)
            have CALL := fun V (hV : Below wT.heap.size wT V) => all_any q nv5 L5 St5 (D.drop u5) V (P5.s.below hV)
            have CLEN := fun V (hV : Below wT.heap.size wT V) => len_any q nv5 L5 St5 (D.drop u5) V (P5.s.below hV)
            have h48 := P5.s.len
            have HL7 := Lib.hid hl7
            have HCA := Lib.hid CALL
            have HCL := Lib.hid CLEN
            clear P5 hbr hl7 CALL CLEN
            have hG : Below wT.heap.size wT wT.drew := (Below.refl _ _).drew
            refine wp_region_chain (fun V => Below wT.heap.size wT V) [(0, false), (1, false), (2, false), (3, false), (5, false), (6, false), (7, false), (8, false), (4, true), (9, true), (10, false), (11, false), (12, false), (13, false), (15, false), (16, false), (17, false), (18, false), (19, false), (14, true), (20, false), (21, false)] (by kernel_rfl) (by kernel_rfl) hG ?_
            repeat (first
              | (refine ChainL.skip (o := ?_) ?_ ?_ ?_; rotate_left; (focus (first | (simp only [List.getElem?_toArray, List.getElem?_cons_succ, List.getElem?_cons_zero]; with_reducible rfl) | (simp only [List.getElem?_toArray, List.getElem?_cons_zero]; with_reducible rfl))); (focus rfl); simp only [Act.put, List.setIfInBounds_toArray, List.set_cons_zero, List.set_cons_succ])
              | (refine ChainL.val (o := ?_) (v := ?_) ?_ ?_ ?_ ?_ ?_; rotate_left 2; (focus (first | (simp only [List.getElem?_toArray, List.getElem?_cons_succ, List.getElem?_cons_zero]; with_reducible rfl) | (simp only [List.getElem?_toArray, List.getElem?_cons_zero]; with_reducible rfl))); (focus (intro _ _ h; cases h)); (focus rfl); (focus (intro w' hJ; obtain ⟨y0, yl⟩ := HX.out _ hJ; go_simp <;> with_reducible rfl)); simp only [Act.put, List.setIfInBounds_toArray, List.set_cons_zero, List.set_cons_succ]))
            refine ChainL.call (o := ?_) (f := ?_) (args := ?_) ?_ ?_ ?_ ?_
            rotate_left 3
            (focus (first | (simp only [List.getElem?_toArray, List.getElem?_cons_succ, List.getElem?_cons_zero]; with_reducible rfl) | (simp only [List.getElem?_toArray, List.getElem?_cons_zero]; with_reducible rfl)))
            (focus rfl)
            (focus (go_simp; (constructor <;> with_reducible rfl)))
            with_reducible refine (HCA.out _ hG).mono ?_
            rintro e w6 ⟨v, rfl, own6, b6⟩
            obtain ⟨A6, c6, rfl, hl6, hc6⟩ := own_lists own6
            have hG6 := hG.trans (b6.mono hG.size)
            have HL6 := Lib.hid hl6
            clear own6 hl6
            refine ⟨_, rfl, hG6, ?_⟩
            simp only [Act.put, List.setIfInBounds_toArray, List.set_cons_zero, List.set_cons_succ]
            refine ChainL.call (o := ?_) (f := ?_) (args := ?_) ?_ ?_ ?_ ?_
            rotate_left 3
            (focus (first | (simp only [List.getElem?_toArray, List.getElem?_cons_succ, List.getElem?_cons_zero]; with_reducible rfl) | (simp only [List.getElem?_toArray, List.getElem?_cons_zero]; with_reducible rfl)))
            (focus rfl)
            (focus (go_simp; (constructor <;> with_reducible rfl)))
            with_reducible refine (sameInts_eq L5.length w6.heap.size A6 A7 c6 c7 L5 w6 (Nat.le_refl _) HL6.out ((HL7.out.below hG6).more hG6.size) rfl (by omega)).mono ?_
            rintro e w7 ⟨rfl, b7⟩
            have hG7 := hG6.trans (b7.mono hG6.size)
            refine ⟨_, rfl, hG7, ?_⟩
            simp only [Act.put, List.setIfInBounds_toArray, List.set_cons_zero, List.set_cons_succ]
            repeat (first
              | (refine ChainL.skip (o := ?_) ?_ ?_ ?_; rotate_left; (focus (first | (simp only [List.getElem?_toArray, List.getElem?_cons_succ, List.getElem?_cons_zero]; with_reducible rfl) | (simp only [List.getElem?_toArray, List.getElem?_cons_zero]; with_reducible rfl))); (focus rfl); simp only [Act.put, List.setIfInBounds_toArray, List.set_cons_zero, List.set_cons_succ])
              | (refine ChainL.val (o := ?_) (v := ?_) ?_ ?_ ?_ ?_ ?_; rotate_left 2; (focus (first | (simp only [List.getElem?_toArray, List.getElem?_cons_succ, List.getElem?_cons_zero]; with_reducible rfl) | (simp only [List.getElem?_toArray, List.getElem?_cons_zero]; with_reducible rfl))); (focus (intro _ _ h; cases h)); (focus rfl); (focus (intro w' hJ; obtain ⟨y0, yl⟩ := HX.out _ hJ; go_simp <;> with_reducible rfl)); simp only [Act.put, List.setIfInBounds_toArray, List.set_cons_zero, List.set_cons_succ]))
            refine ChainL.call (o := ?_) (f := ?_) (args := ?_) ?_ ?_ ?_ ?_
            rotate_left 3
            (focus (first | (simp only [List.getElem?_toArray, List.getElem?_cons_succ, List.getElem?_cons_zero]; with_reducible rfl) | (simp only [List.getElem?_toArray, List.getElem?_cons_zero]; with_reducible rfl)))
            (focus rfl)
            (focus (go_simp; (constructor <;> with_reducible rfl)))
            with_reducible refine (HCL.out _ hG7).mono ?_
            rintro e w8 ⟨rfl, rfl⟩
            skip
            refine ⟨_, rfl, hG7, ?_⟩
            simp only [Act.put, List.setIfInBounds_toArray, List.set_cons_zero, List.set_cons_succ]
            repeat (first
              | (refine ChainL.skip (o := ?_) ?_ ?_ ?_; rotate_left; (focus (first | (simp only [List.getElem?_toArray, List.getElem?_cons_succ, List.getElem?_cons_zero]; with_reducible rfl) | (simp only [List.getElem?_toArray, List.getElem?_cons_zero]; with_reducible rfl))); (focus rfl); simp only [Act.put, List.setIfInBounds_toArray, List.set_cons_zero, List.set_cons_succ])
              | (refine ChainL.val (o := ?_) (v := ?_) ?_ ?_ ?_ ?_ ?_; rotate_left 2; (focus (first | (simp only [List.getElem?_toArray, List.getElem?_cons_succ, List.getElem?_cons_zero]; with_reducible rfl) | (simp only [List.getElem?_toArray, List.getElem?_cons_zero]; with_reducible rfl))); (focus (intro _ _ h; cases h)); (focus rfl); (focus (intro w' hJ; skip; go_simp <;> with_reducible rfl)); simp only [Act.put, List.setIfInBounds_toArray, List.set_cons_zero, List.set_cons_succ]))
            refine ChainL.nil ?_
            have HP8 := Lib.hid (HP.out.below hG7)
            clear HCA HCL HX HL7 HL6 HP b6 b7 hG hG6 hG7
            go_wp2
            go_roundw
            case rel => exact ⟨k + 1, nv5, _, L5, St5, u5, by omega, by omega, by go_num, hu5, HP8⟩
            case measure => simp [intOf]; omega
          · rw [List.concat_eq_append] at hL0
            subst hL0
            clear hk1
            have PE := PA.out
            rw [HWA.out] at PE
            go_wp2_with (first | (refine wpList_load_mid rfl 32 _ (by with_reducible rfl) b5 (o5 + k * 2) (by rfl) [.int .i64 2, .int .i64 xx] _ G0.out Try.underlying32 rfl (by kernel_rfl) ?_) | (go_at_call 12; ((with_reducible refine (pop_any q nv L1 St (D.drop u) xl _ PE.s).mono ?_); rintro e w1 ⟨rfl, nv2, hs2, hm2⟩); have M1 := PE.code hA0 hs2 hm2) | (go_at_call 13; ((with_reducible refine (rpop_any p lv L1 St D u xl _ M1.r).mono ?_); rintro e w2 ⟨rfl, lv2, hr2, hm3⟩); have P2 := M1.ref hr2 hm3))
            obtain ⟨wT, hwT⟩ : ∃ wT, wT = w2 := ⟨_, rfl⟩
            rw [← hwT] at P2 ⊢
            clear hwT
            obtain ⟨nv5, lv5, L5, St5, u5, hu5, HP⟩ : ∃ nv5 lv5 L5 St5 u5, u5 ≤ k + 1 ∧ Hid (PS W q p A0 c0 nv5 lv5 L5 St5 D u5 wT) := ⟨_, _, _, _, _, by omega, Lib.hid P2⟩
            clear P2 M1 hr2 hm3 hs2 hm2
            clear PE
            have P5 := HP.out
            obtain ⟨A7, c7, hlv, hl7, hc7⟩ := own_lists P5.r.own
            subst hlv
            obtain ⟨Ar, cr, hbr, _⟩ := P5.r.blk
            have HX := Lib.hid (show ∀ V, Below wT.heap.size wT V → V.cell? ⟨p, 0, none⟩ = some (.slice A7 L5.length c7) ∧ p < V.heap.size from fun V hV => ⟨((hbr.below hV).cell 0).trans (rk_c0 _ _ _ _), (hbr.below hV).lt⟩)
            have CALL := fun V (hV : Below wT.heap.size wT V) => all_any q nv5 L5 St5 (D.drop u5) V (P5.s.below hV)
            have CLEN := fun V (hV : Below wT.heap.size wT V) => len_any q nv5 L5 St5 (D.drop u5) V (P5.s.below hV)
            have h48 := P5.s.len
            have HL7 := Lib.hid hl7
            have HCA := Lib.hid CALL
            have HCL := Lib.hid CLEN
            clear P5 hbr hl7 CALL CLEN
            have hG : Below wT.heap.size wT wT.drew := (Below.refl _ _).drew
            refine wp_region_chain (fun V => Below wT.heap.size wT V) [(0, false), (1, false), (2, false), (3, false), (5, false), (6, false), (7, false), (8, false), (4, true), (9, true), (10, false), (11, false), (12, false), (13, false), (15, false), (16, false), (17, false), (18, false), (19, false), (14, true), (20, false), (21, false)] (by kernel_rfl) (by kernel_rfl) hG ?_
            repeat (first
              | (refine ChainL.skip (o := ?_) ?_ ?_ ?_; rotate_left; (focus (first | (simp only [List.getElem?_toArray, List.getElem?_cons_succ, List.getElem?_cons_zero]; with_reducible rfl) | (simp only [List.getElem?_toArray, List.getElem?_cons_zero]; with_reducible rfl))); (focus rfl); simp only [Act.put, List.setIfInBounds_toArray, List.set_cons_zero, List.set_cons_succ])
              | (refine ChainL.val (o := ?_) (v := ?_) ?_ ?_ ?_ ?_ ?_; rotate_left 2; (focus (first | (simp only [List.getElem?_toArray, List.getElem?_cons_succ, List.getElem?_cons_zero]; with_reducible rfl) | (simp only [List.getElem?_toArray, List.getElem?_cons_zero]; with_reducible rfl))); (focus (intro _ _ h; cases h)); (focus rfl); (focus (intro w' hJ; obtain ⟨y0, yl⟩ := HX.out _ hJ; go_simp <;> with_reducible rfl)); simp only [Act.put, List.setIfInBounds_toArray, List.set_cons_zero, List.set_cons_succ]))
            refine ChainL.call (o := ?_) (f := ?_) (args := ?_) ?_ ?_ ?_ ?_
            rotate_left 3
            (focus (first | (simp only [List.getElem?_toArray, List.getElem?_cons_succ, List.getElem?_cons_zero]; with_reducible rfl) | (simp only [List.getElem?_toArray, List.getElem?_cons_zero]; with_reducible rfl)))
            (focus rfl)
            (focus (go_simp; (constructor <;> with_reducible rfl)))
            with_reducible refine (HCA.out _ hG).mono ?_
            rintro e w6 ⟨v, rfl, own6, b6⟩
            obtain ⟨A6, c6, rfl, hl6, hc6⟩ := own_lists own6
            have hG6 := hG.trans (b6.mono hG.size)
            have HL6 := Lib.hid hl6
            clear own6 hl6
            refine ⟨_, rfl, hG6, ?_⟩
            simp only [Act.put, List.setIfInBounds_toArray, List.set_cons_zero, List.set_cons_succ]
            refine ChainL.call (o := ?_) (f := ?_) (args := ?_) ?_ ?_ ?_ ?_
            rotate_left 3
            (focus (first | (simp only [List.getElem?_toArray, List.getElem?_cons_succ, List.getElem?_cons_zero]; with_reducible rfl) | (simp only [List.getElem?_toArray, List.getElem?_cons_zero]; with_reducible rfl)))
            (focus rfl)
            (focus (go_simp; (constructor <;> with_reducible rfl)))
            with_reducible refine (sameInts_eq L5.length w6.heap.size A6 A7 c6 c7 L5 w6 (Nat.le_refl _) HL6.out ((HL7.out.below hG6).more hG6.size) rfl (by omega)).mono ?_
            rintro e w7 ⟨rfl, b7⟩
            have hG7 := hG6.trans (b7.mono hG6.size)
            refine ⟨_, rfl, hG7, ?_⟩
            simp only [Act.put, List.setIfInBounds_toArray, List.set_cons_zero, List.set_cons_succ]
            repeat (first
              | (refine ChainL.skip (o := ?_) ?_ ?_ ?_; rotate_left; (focus (first | (simp only [List.getElem?_toArray, List.getElem?_cons_succ, List.getElem?_cons_zero]; with_reducible rfl) | (simp only [List.getElem?_toArray, List.getElem?_cons_zero]; with_reducible rfl))); (focus rfl); simp only [Act.put, List.setIfInBounds_toArray, List.set_cons_zero, List.set_cons_succ])
              | (refine ChainL.val (o := ?_) (v := ?_) ?_ ?_ ?_ ?_ ?_; rotate_left 2; (focus (first | (simp only [List.getElem?_toArray, List.getElem?_cons_succ, List.getElem?_cons_zero]; with_reducible rfl) | (simp only [List.getElem?_toArray, List.getElem?_cons_zero]; with_reducible rfl))); (focus (intro _ _ h; cases h)); (focus rfl); (focus (intro w' hJ; obtain ⟨y0, yl⟩ := HX.out _ hJ; go_simp <;> with_reducible rfl)); simp only [Act.put, List.setIfInBounds_toArray, List.set_cons_zero, List.set_cons_succ]))
            refine ChainL.call (o := ?_) (f := ?_) (args := ?_) ?_ ?_ ?_ ?_
            rotate_left 3
            (focus (first | (simp only [List.getElem?_toArray, List.getElem?_cons_succ, List.getElem?_cons_zero]; with_reducible rfl) | (simp only [List.getElem?_toArray, List.getElem?_cons_zero]; with_reducible rfl)))
            (focus rfl)
            (focus (go_simp; (constructor <;> with_reducible rfl)))
            with_reducible refine (HCL.out _ hG7).mono ?_
            rintro e w8 ⟨rfl, rfl⟩
            skip
            refine ⟨_, rfl, hG7, ?_⟩
            simp only [Act.put, List.setIfInBounds_toArray, List.set_cons_zero, List.set_cons_succ]
            repeat (first
              | (refine ChainL.skip (o := ?_) ?_ ?_ ?_; rotate_left; (focus (first | (simp only [List.getElem?_toArray, List.getElem?_cons_succ, List.getElem?_cons_zero]; with_reducible rfl) | (simp only [List.getElem?_toArray, List.getElem?_cons_zero]; with_reducible rfl))); (focus rfl); simp only [Act.put, List.setIfInBounds_toArray, List.set_cons_zero, List.set_cons_succ])
              | (refine ChainL.val (o := ?_) (v := ?_) ?_ ?_ ?_ ?_ ?_; rotate_left 2; (focus (first | (simp only [List.getElem?_toArray, List.getElem?_cons_succ, List.getElem?_cons_zero]; with_reducible rfl) | (simp only [List.getElem?_toArray, List.getElem?_cons_zero]; with_reducible rfl))); (focus (intro _ _ h; cases h)); (focus rfl); (focus (intro w' hJ; skip; go_simp <;> with_reducible rfl)); simp only [Act.put, List.setIfInBounds_toArray, List.set_cons_zero, List.set_cons_succ]))
            refine ChainL.nil ?_
            have HP8 := Lib.hid (HP.out.below hG7)
            clear HCA HCL HX HL7 HL6 HP b6 b7 hG hG6 hG7
            go_wp2
            go_roundw
            case rel => exact ⟨k + 1, nv5, _, L5, St5, u5, by omega, by omega, by go_num, hu5, HP8⟩
            case measure => simp [intOf]; omega
        · by_cases hk3 : kd = 3
          · subst hk3
            skip
            clear hk1 hk2
            obtain ⟨code, L2, St2, u2, hu2, CC, CR⟩ := bothop_any xx L St D u PA.out.ok (by omega)
            go_wp2_with (first | (refine wpList_load_mid rfl 32 _ (by with_reducible rfl) b5 (o5 + k * 2) (by rfl) [.int .i64 3, .int .i64 xx] _ G0.out Try.underlying32 rfl (by kernel_rfl) ?_))
            rw [← HWA.out]
            rw [← HTW.out]
            have hI : wA.drew.cell? ⟨tb, 1, none⟩ = some (.int .i64 xx) ∧ tb < wA.drew.heap.size := HTC.out
            have PD := Lib.hid (PA.out.below (Below.refl _ _).drew)
            refine wp_region_chain (fun V => V.cell? ⟨tb, 1, none⟩ = some (.int .i64 xx) ∧ tb < V.heap.size) [(0, false), (1, false), (2, false), (4, false), (5, false), (6, false), (3, true), (7, true), (8, false), (9, false), (10, false), (11, false), (13, false), (14, false), (12, true), (15, true), (16, false), (17, false), (18, false)] (by kernel_rfl) (by kernel_rfl) hI ?_
            repeat (first
              | (refine ChainL.skip (o := ?_) ?_ ?_ ?_; rotate_left; (focus (first | (simp only [List.getElem?_toArray, List.getElem?_cons_succ, List.getElem?_cons_zero]; with_reducible rfl) | (simp only [List.getElem?_toArray, List.getElem?_cons_zero]; with_reducible rfl))); (focus rfl); simp only [Act.put, List.setIfInBounds_toArray, List.set_cons_zero, List.set_cons_succ])
              | (refine ChainL.val (o := ?_) (v := ?_) ?_ ?_ ?_ ?_ ?_; rotate_left 2; (focus (first | (simp only [List.getElem?_toArray, List.getElem?_cons_succ, List.getElem?_cons_zero]; with_reducible rfl) | (simp only [List.getElem?_toArray, List.getElem?_cons_zero]; with_reducible rfl))); (focus (intro _ _ h; cases h)); (focus rfl); (focus (intro w' hJ; obtain ⟨y0, yl⟩ := hJ; go_simp <;> with_reducible rfl)); simp only [Act.put, List.setIfInBounds_toArray, List.set_cons_zero, List.set_cons_succ]))
            refine ChainL.call (o := ?_) (f := ?_) (args := ?_) ?_ ?_ ?_ ?_
            rotate_left 3
            (focus (first | (simp only [List.getElem?_toArray, List.getElem?_cons_succ, List.getElem?_cons_zero]; with_reducible rfl) | (simp only [List.getElem?_toArray, List.getElem?_cons_zero]; with_reducible rfl)))
            (focus rfl)
            (focus (go_simp; (constructor <;> with_reducible rfl)))
            with_reducible refine (CC q nv _ PD.out.s).mono ?_
            rintro e w1 ⟨rfl, nv2, hs2, hm2⟩
            have hI1 : w1.cell? ⟨tb, 1, none⟩ = some (.int .i64 xx) ∧ tb < w1.heap.size := ⟨(World.cell?_of_block (w' := w1) (w := wA.drew) (a := ⟨tb, 1, none⟩) (hm2.1.block tb hI.2 (by intro hmem; rcases List.mem_cons.1 hmem with e | e; (have := PA.out.s.lt; have := PA.out.qp; have := PA.out.r.lt; have := HTQ.out; omega); exact HTB.out e))).trans hI.1, Nat.lt_of_lt_of_le hI.2 hm2.1.size⟩
            have M1 := Lib.hid (PD.out.code hA0 hs2 hm2)
            refine ⟨_, rfl, hI1, ?_⟩
            simp only [Act.put, List.setIfInBounds_toArray, List.set_cons_zero, List.set_cons_succ]
            refine ChainL.call (o := ?_) (f := ?_) (args := ?_) ?_ ?_ ?_ ?_
            rotate_left 3
            (focus (first | (simp only [List.getElem?_toArray, List.getElem?_cons_succ, List.getElem?_cons_zero]; with_reducible rfl) | (simp only [List.getElem?_toArray, List.getElem?_cons_zero]; with_reducible rfl)))
            (focus rfl)
            (focus (go_simp; (constructor <;> with_reducible rfl)))
            with_reducible refine (CR p lv _ M1.out.r).mono ?_
            rintro e w2 ⟨rfl, lv2, hr2, hm3⟩
            have hI2 : w2.cell? ⟨tb, 1, none⟩ = some (.int .i64 xx) ∧ tb < w2.heap.size := ⟨(World.cell?_of_block (w' := w2) (w := w1) (a := ⟨tb, 1, none⟩) (hm3.1.block tb hI1.2 (by intro hmem; simp at hmem; have := HTP.out; omega))).trans hI1.1, Nat.lt_of_lt_of_le hI1.2 hm3.1.size⟩
            have P2 := Lib.hid (M1.out.ref hr2 hm3)
            refine ⟨_, rfl, hI2, ?_⟩
            simp only [Act.put, List.setIfInBounds_toArray, List.set_cons_zero, List.set_cons_succ]
            repeat (first
              | (refine ChainL.skip (o := ?_) ?_ ?_ ?_; rotate_left; (focus (first | (simp only [List.getElem?_toArray, List.getElem?_cons_succ, List.getElem?_cons_zero]; with_reducible rfl) | (simp only [List.getElem?_toArray, List.getElem?_cons_zero]; with_reducible rfl))); (focus rfl); simp only [Act.put, List.setIfInBounds_toArray, List.set_cons_zero, List.set_cons_succ])
              | (refine ChainL.val (o := ?_) (v := ?_) ?_ ?_ ?_ ?_ ?_; rotate_left 2; (focus (first | (simp only [List.getElem?_toArray, List.getElem?_cons_succ, List.getElem?_cons_zero]; with_reducible rfl) | (simp only [List.getElem?_toArray, List.getElem?_cons_zero]; with_reducible rfl))); (focus (intro _ _ h; cases h)); (focus rfl); (focus (intro w' hJ; obtain ⟨y0, yl⟩ := hJ; go_simp <;> with_reducible rfl)); simp only [Act.put, List.setIfInBounds_toArray, List.set_cons_zero, List.set_cons_succ]))
            refine ChainL.call (o := ?_) (f := ?_) (args := ?_) ?_ ?_ ?_ ?_
            rotate_left 3
            (focus (first | (simp only [List.getElem?_toArray, List.getElem?_cons_succ, List.getElem?_cons_zero]; with_reducible rfl) | (simp only [List.getElem?_toArray, List.getElem?_cons_zero]; with_reducible rfl)))
            (focus rfl)
            (focus (go_simp; (constructor <;> with_reducible rfl)))
            with_reducible refine (isop_any xx _).mono ?_
            rintro e w3 ⟨rfl, b3⟩
            have hI3 : w3.cell? ⟨tb, 1, none⟩ = some (.int .i64 xx) ∧ tb < w3.heap.size := ⟨(b3.cell (p := ⟨tb, 1, none⟩) hI2.2).trans hI2.1, Nat.lt_of_lt_of_le hI2.2 b3.size⟩
            refine ⟨_, rfl, hI3, ?_⟩
            simp only [Act.put, List.setIfInBounds_toArray, List.set_cons_zero, List.set_cons_succ]
            refine ChainL.call (o := ?_) (f := ?_) (args := ?_) ?_ ?_ ?_ ?_
            rotate_left 3
            (focus (first | (simp only [List.getElem?_toArray, List.getElem?_cons_succ, List.getElem?_cons_zero]; with_reducible rfl) | (simp only [List.getElem?_toArray, List.getElem?_cons_zero]; with_reducible rfl)))
            (focus rfl)
            (focus (go_simp; (constructor <;> with_reducible rfl)))
            with_reducible refine (risop_any xx _).mono ?_
            rintro e w4 ⟨rfl, rfl⟩
            skip
            refine ⟨_, rfl, hI3, ?_⟩
            simp only [Act.put, List.setIfInBounds_toArray, List.set_cons_zero, List.set_cons_succ]
            repeat (first
              | (refine ChainL.skip (o := ?_) ?_ ?_ ?_; rotate_left; (focus (first | (simp only [List.getElem?_toArray, List.getElem?_cons_succ, List.getElem?_cons_zero]; with_reducible rfl) | (simp only [List.getElem?_toArray, List.getElem?_cons_zero]; with_reducible rfl))); (focus rfl); simp only [Act.put, List.setIfInBounds_toArray, List.set_cons_zero, List.set_cons_succ])
              | (refine ChainL.val (o := ?_) (v := ?_) ?_ ?_ ?_ ?_ ?_; rotate_left 2; (focus (first | (simp only [List.getElem?_toArray, List.getElem?_cons_succ, List.getElem?_cons_zero]; with_reducible rfl) | (simp only [List.getElem?_toArray, List.getElem?_cons_zero]; with_reducible rfl))); (focus (intro _ _ h; cases h)); (focus rfl); (focus (intro w' hJ; skip; go_simp <;> with_reducible rfl)); simp only [Act.put, List.setIfInBounds_toArray, List.set_cons_zero, List.set_cons_succ]))
            refine ChainL.nil ?_
            have P3 := P2.out.below b3
            obtain ⟨wT, hwT⟩ : ∃ wT, wT = w3 := ⟨_, rfl⟩
            rw [← hwT] at P3 ⊢
            clear hwT
            obtain ⟨nv5, lv5, L5, St5, u5, hu5, HP⟩ : ∃ nv5 lv5 L5 St5 u5, u5 ≤ k + 1 ∧ Hid (PS W q p A0 c0 nv5 lv5 L5 St5 D u5 wT) := ⟨_, _, _, _, _, by omega, Lib.hid P3⟩
            clear P2 P3 M1 PD hI hI1 hI2 hI3 hr2 hm3 hs2 hm2 CC CR b3
            go_wp2
            have P5 := HP.out
            obtain ⟨A7, c7, hlv, hl7, hc7⟩ := own_lists P5.r.own
            subst hlv
            obtain ⟨Ar, cr, hbr, _⟩ := P5.r.blk
            have HX := Lib.hid (show ∀ V, Below wT.heap.size wT V → V.cell? ⟨p, 0, none⟩ = some (.slice A7 L5.length c7) ∧ p < V.heap.size from fun V hV => ⟨((hbr.below hV).cell 0).trans (rk_c0 _ _ _ _), (hbr.below hV).lt⟩)
            have CALL := fun V (hV : Below wT.heap.size wT V) => all_any q nv5 L5 St5 (D.drop u5) V (P5.s.below hV)
            have CLEN := fun V (hV : Below wT.heap.size wT V) => len_any q nv5 L5 St5 (D.drop u5) V (P5.s.below hV)
            have h48 := P5.s.len
            have HL7 := Lib.hid hl7
            have HCA := Lib.hid CALL
            have HCL := Lib.hid CLEN
            clear P5 hbr hl7 CALL CLEN
            have hG : Below wT.heap.size wT wT.drew := (Below.refl _ _).drew
            refine wp_region_chain (fun V => Below wT.heap.size wT V) [(0, false), (1, false), (2, false), (3, false), (5, false), (6, false), (7, false), (8, false), (4, true), (9, true), (10, false), (11, false), (12, false), (13, false), (15, false), (16, false), (17, false), (18, false), (19, false), (14, true), (20, false), (21, false)] (by kernel_rfl) (by kernel_rfl) hG ?_
            repeat (first
              | (refine ChainL.skip (o := ?_) ?_ ?_ ?_; rotate_left; (focus (first | (simp only [List.getElem?_toArray, List.getElem?_cons_succ, List.getElem?_cons_zero]; with_reducible rfl) | (simp only [List.getElem?_toArray, List.getElem?_cons_zero]; with_reducible rfl))); (focus rfl); simp only [Act.put, List.setIfInBounds_toArray, List.set_cons_zero, List.set_cons_succ])
              | (refine ChainL.val (o := ?_) (v := ?_) ?_ ?_ ?_ ?_ ?_; rotate_left 2; (focus (first | (simp only [List.getElem?_toArray, List.getElem?_cons_succ, List.getElem?_cons_zero]; with_reducible rfl) | (simp only [List.getElem?_toArray, List.getElem?_cons_zero]; with_reducible rfl))); (focus (intro _ _ h; cases h)); (focus rfl); (focus (intro w' hJ; obtain ⟨y0, yl⟩ := HX.out _ hJ; go_simp <;> with_reducible rfl)); simp only [Act.put, List.setIfInBounds_toArray, List.set_cons_zero, List.set_cons_succ]))
            refine ChainL.call (o := ?_) (f := ?_) (args := ?_) ?_ ?_ ?_ ?_
            rotate_left 3
            (focus (first | (simp only [List.getElem?_toArray, List.getElem?_cons_succ, List.getElem?_cons_zero]; with_reducible rfl) | (simp only [List.getElem?_toArray, List.getElem?_cons_zero]; with_reducible rfl)))
            (focus rfl)
            (focus (go_simp; (constructor <;> with_reducible rfl)))
            with_reducible refine (HCA.out _ hG).mono ?_
            rintro e w6 ⟨v, rfl, own6, b6⟩
            obtain ⟨A6, c6, rfl, hl6, hc6⟩ := own_lists own6
            have hG6 := hG.trans (b6.mono hG.size)
            have HL6 := Lib.hid hl6
            clear own6 hl6
            refine ⟨_, rfl, hG6, ?_⟩
            simp only [Act.put, List.setIfInBounds_toArray, List.set_cons_zero, List.set_cons_succ]
            refine ChainL.call (o := ?_) (f := ?_) (args := ?_) ?_ ?_ ?_ ?_
            rotate_left 3
            (focus (first | (simp only [List.getElem?_toArray, List.getElem?_cons_succ, List.getElem?_cons_zero]; with_reducible rfl) | (simp only [List.getElem?_toArray, List.getElem?_cons_zero]; with_reducible rfl)))
            (focus rfl)
            (focus (go_simp; (constructor <;> with_reducible rfl)))
            with_reducible refine (sameInts_eq L5.length w6.heap.size A6 A7 c6 c7 L5 w6 (Nat.le_refl _) HL6.out ((HL7.out.below hG6).more hG6.size) rfl (by omega)).mono ?_
            rintro e w7 ⟨rfl, b7⟩
            have hG7 := hG6.trans (b7.mono hG6.size)
            refine ⟨_, rfl, hG7, ?_⟩
            simp only [Act.put, List.setIfInBounds_toArray, List.set_cons_zero, List.set_cons_succ]
            repeat (first
              | (refine ChainL.skip (o := ?_) ?_ ?_ ?_; rotate_left; (focus (first | (simp only [List.getElem?_toArray, List.getElem?_cons_succ, List.getElem?_cons_zero]; with_reducible rfl) | (simp only [List.getElem?_toArray, List.getElem?_cons_zero]; with_reducible rfl))); (focus rfl); simp only [Act.put, List.setIfInBounds_toArray, List.set_cons_zero, List.set_cons_succ])
              | (refine ChainL.val (o := ?_) (v := ?_) ?_ ?_ ?_ ?_ ?_; rotate_left 2; (focus (first | (simp only [List.getElem?_toArray, List.getElem?_cons_succ, List.getElem?_cons_zero]; with_reducible rfl) | (simp only [List.getElem?_toArray, List.getElem?_cons_zero]; with_reducible rfl))); (focus (intro _ _ h; cases h)); (focus rfl); (focus (intro w' hJ; obtain ⟨y0, yl⟩ := HX.out _ hJ; go_simp <;> with_reducible rfl)); simp only [Act.put, List.setIfInBounds_toArray, List.set_cons_zero, List.set_cons_succ]))
            refine ChainL.call (o := ?_) (f := ?_) (args := ?_) ?_ ?_ ?_ ?_
            rotate_left 3
            (focus (first | (simp only [List.getElem?_toArray, List.getElem?_cons_succ, List.getElem?_cons_zero]; with_reducible rfl) | (simp only [List.getElem?_toArray, List.getElem?_cons_zero]; with_reducible rfl)))
            (focus rfl)
            (focus (go_simp; (constructor <;> with_reducible rfl)))
            with_reducible refine (HCL.out _ hG7).mono ?_
            rintro e w8 ⟨rfl, rfl⟩
            skip
            refine ⟨_, rfl, hG7, ?_⟩
            simp only [Act.put, List.setIfInBounds_toArray, List.set_cons_zero, List.set_cons_succ]
            repeat (first
              | (refine ChainL.skip (o := ?_) ?_ ?_ ?_; rotate_left; (focus (first | (simp only [List.getElem?_toArray, List.getElem?_cons_succ, List.getElem?_cons_zero]; with_reducible rfl) | (simp only [List.getElem?_toArray, List.getElem?_cons_zero]; with_reducible rfl))); (focus rfl); simp only [Act.put, List.setIfInBounds_toArray, List.set_cons_zero, List.set_cons_succ])
              | (refine ChainL.val (o := ?_) (v := ?_) ?_ ?_ ?_ ?_ ?_; rotate_left 2; (focus (first | (simp only [List.getElem?_toArray, List.getElem?_cons_succ, List.getElem?_cons_zero]; with_reducible rfl) | (simp only [List.getElem?_toArray, List.getElem?_cons_zero]; with_reducible rfl))); (focus (intro _ _ h; cases h)); (focus rfl); (focus (intro w' hJ; skip; go_simp <;> with_reducible rfl)); simp only [Act.put, List.setIfInBounds_toArray, List.set_cons_zero, List.set_cons_succ]))
            refine ChainL.nil ?_
            have HP8 := Lib.hid (HP.out.below hG7)
            clear HCA HCL HX HL7 HL6 HP b6 b7 hG hG6 hG7
            go_wp2
            go_roundw
            case rel => exact ⟨k + 1, nv5, _, L5, St5, u5, by omega, by omega, by go_num, hu5, HP8⟩
            case measure => simp [intOf]; omega
          · by_cases hk4 : kd = 4
            · subst hk4
              skip
              clear hk1 hk2 hk3
              go_wp2_with (first | (refine wpList_load_mid rfl 32 _ (by with_reducible rfl) b5 (o5 + k * 2) (by rfl) [.int .i64 4, .int .i64 xx] _ G0.out Try.underlying32 rfl (by kernel_rfl) ?_))
              rw [← HWA.out]
              have PD := Lib.hid (PA.out.below (Below.refl _ _).drew)
              obtain ⟨Ar, cr, hbr, hlr⟩ := PD.out.r.blk
              have hI : wA.drew.cell? ⟨p, 0, none⟩ = some lv ∧ p < wA.drew.heap.size := ⟨(hbr.cell 0).trans (rk_c0 _ _ _ _), hbr.lt⟩
              obtain ⟨A7, c7, rfl, hl7, hc7⟩ := own_lists PD.out.r.own
              obtain ⟨A8, c8, rfl, hl8, hc8⟩ := own_lists PD.out.s.own
              have h48 := PD.out.s.len
              clear hbr hlr hl7 hl8
              refine wp_region_chain (fun V => V.cell? ⟨p, 0, none⟩ = some (.slice A7 L.length c7) ∧ p < V.heap.size) [(0, false), (2, false), (3, false), (4, false), (5, false), (1, true), (6, true), (7, false)] (by kernel_rfl) (by kernel_rfl) hI ?_
              repeat (first
                | (refine ChainL.skip (o := ?_) ?_ ?_ ?_; rotate_left; (focus (first | (simp only [List.getElem?_toArray, List.getElem?_cons_succ, List.getElem?_cons_zero]; with_reducible rfl) | (simp only [List.getElem?_toArray, List.getElem?_cons_zero]; with_reducible rfl))); (focus rfl); simp only [Act.put, List.setIfInBounds_toArray, List.set_cons_zero, List.set_cons_succ])
                | (refine ChainL.val (o := ?_) (v := ?_) ?_ ?_ ?_ ?_ ?_; rotate_left 2; (focus (first | (simp only [List.getElem?_toArray, List.getElem?_cons_succ, List.getElem?_cons_zero]; with_reducible rfl) | (simp only [List.getElem?_toArray, List.getElem?_cons_zero]; with_reducible rfl))); (focus (intro _ _ h; cases h)); (focus rfl); (focus (intro w' hJ; obtain ⟨y0, yl⟩ := hJ; go_simp <;> with_reducible rfl)); simp only [Act.put, List.setIfInBounds_toArray, List.set_cons_zero, List.set_cons_succ]))
              refine ChainL.call (o := ?_) (f := ?_) (args := ?_) ?_ ?_ ?_ ?_
              rotate_left 3
              (focus (first | (simp only [List.getElem?_toArray, List.getElem?_cons_succ, List.getElem?_cons_zero]; with_reducible rfl) | (simp only [List.getElem?_toArray, List.getElem?_cons_zero]; with_reducible rfl)))
              (focus rfl)
              (focus (go_simp; (constructor <;> with_reducible rfl)))
              with_reducible refine (take_any q _ L St (D.drop u) _ PD.out.s).mono ?_
              rintro e w1 ⟨rfl, hs2, hm2, ho2⟩
              have M1 := Lib.hid (PD.out.code hA0 hs2 hm2)
              obtain ⟨Ar, cr, hbr, hlr⟩ := M1.out.r.blk
              have hI1 : w1.cell? ⟨p, 0, none⟩ = some (.slice A7 L.length c7) ∧ p < w1.heap.size := ⟨(hbr.cell 0).trans (rk_c0 _ _ _ _), hbr.lt⟩
              obtain ⟨A8b, c8b, hx8, hl8, _⟩ := own_lists ho2
              injection hx8 with hx1 hx2 hx3
              subst hx1
              obtain ⟨A7b, c7b, hx9, hl7, _⟩ := own_lists M1.out.r.own
              injection hx9 with hx4 hx5 hx6
              subst hx4
              clear hx2 hx3 hx5 hx6
              refine ⟨_, rfl, hI1, ?_⟩
              simp only [Act.put, List.setIfInBounds_toArray, List.set_cons_zero, List.set_cons_succ]
              refine ChainL.call (o := ?_) (f := ?_) (args := ?_) ?_ ?_ ?_ ?_
              rotate_left 3
              (focus (first | (simp only [List.getElem?_toArray, List.getElem?_cons_succ, List.getElem?_cons_zero]; with_reducible rfl) | (simp only [List.getElem?_toArray, List.getElem?_cons_zero]; with_reducible rfl)))
              (focus rfl)
              (focus (go_simp; (constructor <;> with_reducible rfl)))
              with_reducible refine (sameInts_eq L.length w1.heap.size A8 A7 c8 c7 L w1 (Nat.le_refl _) hl8 hl7 rfl (by omega)).mono ?_
              rintro e w2 ⟨rfl, b2⟩
              have hI2 : w2.cell? ⟨p, 0, none⟩ = some (.slice A7 L.length c7) ∧ p < w2.heap.size := ⟨(b2.cell (p := ⟨p, 0, none⟩) hI1.2).trans hI1.1, Nat.lt_of_lt_of_le hI1.2 b2.size⟩
              refine ⟨_, rfl, hI2, ?_⟩
              simp only [Act.put, List.setIfInBounds_toArray, List.set_cons_zero, List.set_cons_succ]
              repeat (first
                | (refine ChainL.skip (o := ?_) ?_ ?_ ?_; rotate_left; (focus (first | (simp only [List.getElem?_toArray, List.getElem?_cons_succ, List.getElem?_cons_zero]; with_reducible rfl) | (simp only [List.getElem?_toArray, List.getElem?_cons_zero]; with_reducible rfl))); (focus rfl); simp only [Act.put, List.setIfInBounds_toArray, List.set_cons_zero, List.set_cons_succ])
                | (refine ChainL.val (o := ?_) (v := ?_) ?_ ?_ ?_ ?_ ?_; rotate_left 2; (focus (first | (simp only [List.getElem?_toArray, List.getElem?_cons_succ, List.getElem?_cons_zero]; with_reducible rfl) | (simp only [List.getElem?_toArray, List.getElem?_cons_zero]; with_reducible rfl))); (focus (intro _ _ h; cases h)); (focus rfl); (focus (intro w' hJ; skip; go_simp <;> with_reducible rfl)); simp only [Act.put, List.setIfInBounds_toArray, List.set_cons_zero, List.set_cons_succ]))
              refine ChainL.nil ?_
              have M2 := M1.out.below b2
              have R2 := M2.r.put (L2 := []) (Below.refl _ _) (World.ownsRow_nil _ _ _ _) (fun b hb => by simp [blk, Value.ownBlock] at hb) (by simp) (fun y hy => (nomatch hy))
              have P3 := M2.ref R2.1 R2.2
              obtain ⟨Ar2, cr2, hbr2, _⟩ := M2.r.blk
              have g0 := hbr2.cell 0
              rw [rk_c0] at g0
              have gf := hbr2.frozen 0
              have gl := hbr2.lt
              obtain ⟨wT, hwT⟩ : ∃ wT, wT = w2.setCell ⟨p, 0, none⟩ (.slice none 0 0) := ⟨_, rfl⟩
              rw [← hwT] at P3
              have HWT := Lib.hid hwT
              clear hwT
              obtain ⟨nv5, lv5, L5, St5, u5, hu5, HP⟩ : ∃ nv5 lv5 L5 St5 u5, u5 ≤ k + 1 ∧ Hid (PS W q p A0 c0 nv5 lv5 L5 St5 D u5 wT) := ⟨_, _, _, _, _, by omega, Lib.hid P3⟩
              clear P3 R2 M2 M1 PD hI hI1 hI2 hs2 hm2 ho2 hbr hlr hl7 hl8 b2 hbr2
              go_wp2
              rw [← HWT.out]
              clear HWT g0 gf gl
              have P5 := HP.out
              obtain ⟨A7, c7, hlv, hl7, hc7⟩ := own_lists P5.r.own
              subst hlv
              obtain ⟨Ar, cr, hbr, _⟩ := P5.r.blk
              have HX := Lib.hid (show ∀ V, Below wT.heap.size wT V → V.cell? ⟨p, 0, none⟩ = some (.slice A7 L5.length c7) ∧ p < V.heap.size from fun V hV => ⟨((hbr.below hV).cell 0).trans (rk_c0 _ _ _ _), (hbr.below hV).lt⟩)
              have CALL := fun V (hV : Below wT.heap.size wT V) => all_any q nv5 L5 St5 (D.drop u5) V (P5.s.below hV)
              have CLEN := fun V (hV : Below wT.heap.size wT V) => len_any q nv5 L5 St5 (D.drop u5) V (P5.s.below hV)
              have h48 := P5.s.len
              have HL7 := Lib.hid hl7
              have HCA := Lib.hid CALL
              have HCL := Lib.hid CLEN
              clear P5 hbr hl7 CALL CLEN
              have hG : Below wT.heap.size wT wT.drew := (Below.refl _ _).drew
              refine wp_region_chain (fun V => Below wT.heap.size wT V) [(0, false), (1, false), (2, false), (3, false), (5, false), (6, false), (7, false), (8, false), (4, true), (9, true), (10, false), (11, false), (12, false), (13, false), (15, false), (16, false), (17, false), (18, false), (19, false), (14, true), (20, false), (21, false)] (by kernel_rfl) (by kernel_rfl) hG ?_
              repeat (first
                | (refine ChainL.skip (o := ?_) ?_ ?_ ?_; rotate_left; (focus (first | (simp only [List.getElem?_toArray, List.getElem?_cons_succ, List.getElem?_cons_zero]; with_reducible rfl) | (simp only [List.getElem?_toArray, List.getElem?_cons_zero]; with_reducible rfl))); (focus rfl); simp only [Act.put, List.setIfInBounds_toArray, List.set_cons_zero, List.set_cons_succ])
                | (refine ChainL.val (o := ?_) (v := ?_) ?_ ?_ ?_ ?_ ?_; rotate_left 2; (focus (first | (simp only [List.getElem?_toArray, List.getElem?_cons_succ, List.getElem?_cons_zero]; with_reducible rfl) | (simp only [List.getElem?_toArray, List.getElem?_cons_zero]; with_reducible rfl))); (focus (intro _ _ h; cases h)); (focus rfl); (focus (intro w' hJ; obtain ⟨y0, yl⟩ := HX.out _ hJ; go_simp <;> with_reducible rfl)); simp only [Act.put, List.setIfInBounds_toArray, List.set_cons_zero, List.set_cons_succ]))
              refine ChainL.call (o := ?_) (f := ?_) (args := ?_) ?_ ?_ ?_ ?_
              rotate_left 3
              (focus (first | (simp only [List.getElem?_toArray, List.getElem?_cons_succ, List.getElem?_cons_zero]; with_reducible rfl) | (simp only [List.getElem?_toArray, List.getElem?_cons_zero]; with_reducible rfl)))
              (focus rfl)
              (focus (go_simp; (constructor <;> with_reducible rfl)))
              with_reducible refine (HCA.out _ hG).mono ?_
              rintro e w6 ⟨v, rfl, own6, b6⟩
              obtain ⟨A6, c6, rfl, hl6, hc6⟩ := own_lists own6
              have hG6 := hG.trans (b6.mono hG.size)
              have HL6 := Lib.hid hl6
              clear own6 hl6
              refine ⟨_, rfl, hG6, ?_⟩
              simp only [Act.put, List.setIfInBounds_toArray, List.set_cons_zero, List.set_cons_succ]
              refine ChainL.call (o := ?_) (f := ?_) (args := ?_) ?_ ?_ ?_ ?_
              rotate_left 3
              (focus (first | (simp only [List.getElem?_toArray, List.getElem?_cons_succ, List.getElem?_cons_zero]; with_reducible rfl) | (simp only [List.getElem?_toArray, List.getElem?_cons_zero]; with_reducible rfl)))
              (focus rfl)
              (focus (go_simp; (constructor <;> with_reducible rfl)))
              with_reducible refine (sameInts_eq L5.length w6.heap.size A6 A7 c6 c7 L5 w6 (Nat.le_refl _) HL6.out ((HL7.out.below hG6).more hG6.size) rfl (by omega)).mono ?_
              rintro e w7 ⟨rfl, b7⟩
              have hG7 := hG6.trans (b7.mono hG6.size)
              refine ⟨_, rfl, hG7, ?_⟩
              simp only [Act.put, List.setIfInBounds_toArray, List.set_cons_zero, List.set_cons_succ]
              repeat (first
                | (refine ChainL.skip (o := ?_) ?_ ?_ ?_; rotate_left; (focus (first | (simp only [List.getElem?_toArray, List.getElem?_cons_succ, List.getElem?_cons_zero]; with_reducible rfl) | (simp only [List.getElem?_toArray, List.getElem?_cons_zero]; with_reducible rfl))); (focus rfl); simp only [Act.put, List.setIfInBounds_toArray, List.set_cons_zero, List.set_cons_succ])
                | (refine ChainL.val (o := ?_) (v := ?_) ?_ ?_ ?_ ?_ ?_; rotate_left 2; (focus (first | (simp only [List.getElem?_toArray, List.getElem?_cons_succ, List.getElem?_cons_zero]; with_reducible rfl) | (simp only [List.getElem?_toArray, List.getElem?_cons_zero]; with_reducible rfl))); (focus (intro _ _ h; cases h)); (focus rfl); (focus (intro w' hJ; obtain ⟨y0, yl⟩ := HX.out _ hJ; go_simp <;> with_reducible rfl)); simp only [Act.put, List.setIfInBounds_toArray, List.set_cons_zero, List.set_cons_succ]))
              refine ChainL.call (o := ?_) (f := ?_) (args := ?_) ?_ ?_ ?_ ?_
              rotate_left 3
              (focus (first | (simp only [List.getElem?_toArray, List.getElem?_cons_succ, List.getElem?_cons_zero]; with_reducible rfl) | (simp only [List.getElem?_toArray, List.getElem?_cons_zero]; with_reducible rfl)))
              (focus rfl)
              (focus (go_simp; (constructor <;> with_reducible rfl)))
              with_reducible refine (HCL.out _ hG7).mono ?_
              rintro e w8 ⟨rfl, rfl⟩
              skip
              refine ⟨_, rfl, hG7, ?_⟩
              simp only [Act.put, List.setIfInBounds_toArray, List.set_cons_zero, List.set_cons_succ]
              repeat (first
                | (refine ChainL.skip (o := ?_) ?_ ?_ ?_; rotate_left; (focus (first | (simp only [List.getElem?_toArray, List.getElem?_cons_succ, List.getElem?_cons_zero]; with_reducible rfl) | (simp only [List.getElem?_toArray, List.getElem?_cons_zero]; with_reducible rfl))); (focus rfl); simp only [Act.put, List.setIfInBounds_toArray, List.set_cons_zero, List.set_cons_succ])
                | (refine ChainL.val (o := ?_) (v := ?_) ?_ ?_ ?_ ?_ ?_; rotate_left 2; (focus (first | (simp only [List.getElem?_toArray, List.getElem?_cons_succ, List.getElem?_cons_zero]; with_reducible rfl) | (simp only [List.getElem?_toArray, List.getElem?_cons_zero]; with_reducible rfl))); (focus (intro _ _ h; cases h)); (focus rfl); (focus (intro w' hJ; skip; go_simp <;> with_reducible rfl)); simp only [Act.put, List.setIfInBounds_toArray, List.set_cons_zero, List.set_cons_succ]))
              refine ChainL.nil ?_
              have HP8 := Lib.hid (HP.out.below hG7)
              clear HCA HCL HX HL7 HL6 HP b6 b7 hG hG6 hG7
              go_wp2
              go_roundw
              case rel => exact ⟨k + 1, nv5, _, L5, St5, u5, by omega, by omega, by go_num, hu5, HP8⟩
              case measure => simp [intOf]; omega
            · have q1 : (kd == 1) = false := by simpa using hk1
              have q2 : (kd == 2) = false := by simpa using hk2
              have q3 : (kd == 3) = false := by simpa using hk3
              have q4 : (kd == 4) = false := by simpa using hk4
              skip
              clear hk1 hk2 hk3 hk4
              go_wp2_with (first | (refine wpList_load_mid rfl 32 _ (by with_reducible rfl) b5 (o5 + k * 2) (by rfl) [.int .i64 kd, .int .i64 xx] _ G0.out Try.underlying32 rfl (by kernel_rfl) ?_))
              rw [← HWA.out]
              obtain ⟨wT, hwT⟩ : ∃ wT, wT = wA := ⟨_, rfl⟩
              rw [← hwT] at PA ⊢
              clear hwT
              obtain ⟨nv5, lv5, L5, St5, u5, hu5, HP⟩ : ∃ nv5 lv5 L5 St5 u5, u5 ≤ k + 1 ∧ Hid (PS W q p A0 c0 nv5 lv5 L5 St5 D u5 wT) := ⟨_, _, _, _, _, by omega, Lib.hid PA.out⟩
              have P5 := HP.out
              obtain ⟨A7, c7, hlv, hl7, hc7⟩ := own_lists P5.r.own
              subst hlv
              obtain ⟨Ar, cr, hbr, _⟩ := P5.r.blk
              have HX := Lib.hid (show ∀ V, Below wT.heap.size wT V → V.cell? ⟨p, 0, none⟩ = some (.slice A7 L5.length c7) ∧ p < V.heap.size from fun V hV => ⟨((hbr.below hV).cell 0).trans (rk_c0 _ _ _ _), (hbr.below hV).lt⟩)
              have CALL := fun V (hV : Below wT.heap.size wT V) => all_any q nv5 L5 St5 (D.drop u5) V (P5.s.below hV)
              have CLEN := fun V (hV : Below wT.heap.size wT V) => len_any q nv5 L5 St5 (D.drop u5) V (P5.s.below hV)
              have h48 := P5.s.len
              have HL7 := Lib.hid hl7
              have HCA := Lib.hid CALL
              have HCL := Lib.hid CLEN
              clear P5 hbr hl7 CALL CLEN
              have hG : Below wT.heap.size wT wT.drew := (Below.refl _ _).drew
              refine wp_region_chain (fun V => Below wT.heap.size wT V) [(0, false), (1, false), (2, false), (3, false), (5, false), (6, false), (7, false), (8, false), (4, true), (9, true), (10, false), (11, false), (12, false), (13, false), (15, false), (16, false), (17, false), (18, false), (19, false), (14, true), (20, false), (21, false)] (by kernel_rfl) (by kernel_rfl) hG ?_
              repeat (first
                | (refine ChainL.skip (o := ?_) ?_ ?_ ?_; rotate_left; (focus (first | (simp only [List.getElem?_toArray, List.getElem?_cons_succ, List.getElem?_cons_zero]; with_reducible rfl) | (simp only [List.getElem?_toArray, List.getElem?_cons_zero]; with_reducible rfl))); (focus rfl); simp only [Act.put, List.setIfInBounds_toArray, List.set_cons_zero, List.set_cons_succ])
                | (refine ChainL.val (o := ?_) (v := ?_) ?_ ?_ ?_ ?_ ?_; rotate_left 2; (focus (first | (simp only [List.getElem?_toArray, List.getElem?_cons_succ, List.getElem?_cons_zero]; with_reducible rfl) | (simp only [List.getElem?_toArray, List.getElem?_cons_zero]; with_reducible rfl))); (focus (intro _ _ h; cases h)); (focus rfl); (focus (intro w' hJ; obtain ⟨y0, yl⟩ := HX.out _ hJ; go_simp <;> with_reducible rfl)); simp only [Act.put, List.setIfInBounds_toArray, List.set_cons_zero, List.set_cons_succ]))
              refine ChainL.call (o := ?_) (f := ?_) (args := ?_) ?_ ?_ ?_ ?_
              rotate_left 3
              (focus (first | (simp only [List.getElem?_toArray, List.getElem?_cons_succ, List.getElem?_cons_zero]; with_reducible rfl) | (simp only [List.getElem?_toArray, List.getElem?_cons_zero]; with_reducible rfl)))
              (focus rfl)
              (focus (go_simp; (constructor <;> with_reducible rfl)))
              with_reducible refine (HCA.out _ hG).mono ?_
              rintro e w6 ⟨v, rfl, own6, b6⟩
              obtain ⟨A6, c6, rfl, hl6, hc6⟩ := own_lists own6
              have hG6 := hG.trans (b6.mono hG.size)
              have HL6 := Lib.hid hl6
              clear own6 hl6
              refine ⟨_, rfl, hG6, ?_⟩
              simp only [Act.put, List.setIfInBounds_toArray, List.set_cons_zero, List.set_cons_succ]
              refine ChainL.call (o := ?_) (f := ?_) (args := ?_) ?_ ?_ ?_ ?_
              rotate_left 3
              (focus (first | (simp only [List.getElem?_toArray, List.getElem?_cons_succ, List.getElem?_cons_zero]; with_reducible rfl) | (simp only [List.getElem?_toArray, List.getElem?_cons_zero]; with_reducible rfl)))
              (focus rfl)
              (focus (go_simp; (constructor <;> with_reducible rfl)))
              with_reducible refine (sameInts_eq L5.length w6.heap.size A6 A7 c6 c7 L5 w6 (Nat.le_refl _) HL6.out ((HL7.out.below hG6).more hG6.size) rfl (by omega)).mono ?_
              rintro e w7 ⟨rfl, b7⟩
              have hG7 := hG6.trans (b7.mono hG6.size)
              refine ⟨_, rfl, hG7, ?_⟩
              simp only [Act.put, List.setIfInBounds_toArray, List.set_cons_zero, List.set_cons_succ]
              repeat (first
                | (refine ChainL.skip (o := ?_) ?_ ?_ ?_; rotate_left; (focus (first | (simp only [List.getElem?_toArray, List.getElem?_cons_succ, List.getElem?_cons_zero]; with_reducible rfl) | (simp only [List.getElem?_toArray, List.getElem?_cons_zero]; with_reducible rfl))); (focus rfl); simp only [Act.put, List.setIfInBounds_toArray, List.set_cons_zero, List.set_cons_succ])
                | (refine ChainL.val (o := ?_) (v := ?_) ?_ ?_ ?_ ?_ ?_; rotate_left 2; (focus (first | (simp only [List.getElem?_toArray, List.getElem?_cons_succ, List.getElem?_cons_zero]; with_reducible rfl) | (simp only [List.getElem?_toArray, List.getElem?_cons_zero]; with_reducible rfl))); (focus (intro _ _ h; cases h)); (focus rfl); (focus (intro w' hJ; obtain ⟨y0, yl⟩ := HX.out _ hJ; go_simp <;> with_reducible rfl)); simp only [Act.put, List.setIfInBounds_toArray, List.set_cons_zero, List.set_cons_succ]))
              refine ChainL.call (o := ?_) (f := ?_) (args := ?_) ?_ ?_ ?_ ?_
              rotate_left 3
              (focus (first | (simp only [List.getElem?_toArray, List.getElem?_cons_succ, List.getElem?_cons_zero]; with_reducible rfl) | (simp only [List.getElem?_toArray, List.getElem?_cons_zero]; with_reducible rfl)))
              (focus rfl)
              (focus (go_simp; (constructor <;> with_reducible rfl)))
              with_reducible refine (HCL.out _ hG7).mono ?_
              rintro e w8 ⟨rfl, rfl⟩
              skip
              refine ⟨_, rfl, hG7, ?_⟩
              simp only [Act.put, List.setIfInBounds_toArray, List.set_cons_zero, List.set_cons_succ]
              repeat (first
                | (refine ChainL.skip (o := ?_) ?_ ?_ ?_; rotate_left; (focus (first | (simp only [List.getElem?_toArray, List.getElem?_cons_succ, List.getElem?_cons_zero]; with_reducible rfl) | (simp only [List.getElem?_toArray, List.getElem?_cons_zero]; with_reducible rfl))); (focus rfl); simp only [Act.put, List.setIfInBounds_toArray, List.set_cons_zero, List.set_cons_succ])
                | (refine ChainL.val (o := ?_) (v := ?_) ?_ ?_ ?_ ?_ ?_; rotate_left 2; (focus (first | (simp only [List.getElem?_toArray, List.getElem?_cons_succ, List.getElem?_cons_zero]; with_reducible rfl) | (simp only [List.getElem?_toArray, List.getElem?_cons_zero]; with_reducible rfl))); (focus (intro _ _ h; cases h)); (focus rfl); (focus (intro w' hJ; skip; go_simp <;> with_reducible rfl)); simp only [Act.put, List.setIfInBounds_toArray, List.set_cons_zero, List.set_cons_succ]))
              refine ChainL.nil ?_
              have HP8 := Lib.hid (HP.out.below hG7)
              clear HCA HCL HX HL7 HL6 HP b6 b7 hG hG6 hG7
              go_wp2
              go_roundw
              case rel => exact ⟨k + 1, nv5, _, L5, St5, u5, by omega, by omega, by go_num, hu5, HP8⟩
              case measure => simp [intOf]; omega
    · have GD : (decide ((k : Int) < (n : Int)) = false ∧ decide (k < n) = false) ∨ (decide ((k : Int) < (n : Int)) = true ∧ decide ((k : Int) < 300) = false ∧ decide (k < n) = true ∧ decide (k < 300) = false) := by
        by_cases h1 : k < n
        · exact .inr ⟨by simp; omega, by simp; omega, by simp; omega, by simp; omega⟩
        · exact .inl ⟨by simp; omega, by simp; omega⟩
      have HBW := Lib.hid HK.out.bw
      clear HK HF hlt
      rcases GD with ⟨g1, g1b⟩ | ⟨g1, g2, g3, g4⟩
      all_goals
        go_wp2
        go_ret
        exact ⟨rfl, HBW.out⟩
theorem walk (A0 : Option Addr) (c0 : Nat) (D : List Int) (hd : Lists W W.heap.size A0 (intCells D)) (hD : D.length ≤ 17592186044416) (A : Option Addr) (c : Nat) (L : List (Int × Int)) (hm : c ≤ 9223372036854775807) (hl : Lists W W.heap.size A (callCells L)) (hx : L.length ≤ c) : Calls Try.prog 3 #[.slice A0 D.length c0, .slice A L.length c] W fun e w' => e = .returned (.bool true) ∧ Below W.heap.size W w' := walk1 A0 c0 D hD hd A L.length c L rfl (by omega) hl

set_option linter.unusedVariables false in
set_option maxRecDepth 100000 in
theorem lifted (os : Os) (started : os.Started) (H : Type) (enc : TypeId × Value → H) :
    ReturnsInHanded {} Try.checked os 3 .any (Rows.stackDoesSpec.pre6 enc Try.prog Try.f3 Rows.stackDoesRow.domain false) (Rows.stackDoesSpec.post enc Try.prog Try.f3 false true false false) := by
  refine returnsInHanded_of_change_sized (C := Try.checked) Try.own started (by kernel_rfl) Try.func3
    (ChangeSpec.witness6 (enc := enc) (C := Try.checked) false ⟨#[], #[.slice none 0 0, .slice none 0 0], []⟩ 8 (by kernel_rfl) (by kernel_rfl) (by kernel_rfl) (by kernel_rfl)) ?_
  intro W base args ds gs before hval0 hW hcnd hsz0 _
  have hsz : (DataW.weightsEach Try.prog (Try.f3.params.toList ++ Rows.stackDoesSpec.plain.varTypes Try.prog) (ds ++ gs)).all (· ≤ reachBytes) = true := hsz0
  have hval : ∀ (j : Nat) t v, Try.f3.params[j]? = some t → args[j]? = some v → Value.okWide Try.prog W .any base t v := hval0
  have hW' := hW
  obtain ⟨p, q, hA0, hV, rfl, hfz, hnd⟩ := hW
  have hA : DataW.TrodAll enc Try.prog W 0 (fun _ => true) true Try.f3.params.toList args.toList ds p := hA0
  rw [Try.params3] at hA hval hsz
  obtain ⟨v0, vs0, d0, ds0, p0, q0, hargs, rfl, rfl, h0, r0⟩ := trodAll_cons hA
  obtain ⟨v1, vs1, d1, ds1, p1, q1, rfl, rfl, rfl, h1, r1⟩ := trodAll_cons r0
  obtain ⟨rfl, rfl, rfl⟩ := trodAll_nil r1
  obtain rfl : args = #[v0, v1] := by cases args; simp_all
  obtain ⟨rfl, rfl⟩ := trodVars_none hV
  have hz0 : ∀ m ∈ d0.weights Try.prog 22, m ≤ reachBytes := fun m hm => of_decide_eq_true (List.all_eq_true.1 hsz m (DataW.weights_mem_each (j := 0) rfl rfl m hm))
  obtain ⟨A0, c0, L0, rfl, l0, s0⟩ := open_intsz Try.underlying22 Try.underlying3 (by kernel_rfl) (by kernel_rfl) (hval 0 22 v0 rfl rfl) h0 hz0
  obtain ⟨A1, c1, L1, rfl, k1, m1, l1⟩ := open_callsS Try.underlying23 Try.underlying32 (by kernel_rfl) (by kernel_rfl) Try.underlying3 Try.underlying3 (hval 1 23 v1 rfl rfl) h1
  clear hA0 hval0
  simp only [List.append_nil] at hW'
  refine (walk (W := W) A0 c0 L0 l0 s0 A1 c1 L1 m1 l1 k1).mono fun e W' ⟨he, hg⟩ => ?_
  subst he
  exact ⟨_, rfl, law_post Try.laidOut rfl Try.underlying4 (by kernel_rfl) rfl rfl rfl rfl hW' hg⟩

theorem over : Rows.stackDoesRow.holds Try.pinned (OpenSpec.ofChange Rows.stackDoesSpec) :=
  OpenClaim.holds_of_wide 3 Try.f3 rfl rfl rfl rfl rfl rfl rfl ⟨rfl, rfl, rfl, rfl, rfl⟩ rfl rfl rfl rfl rfl (by kernel_rfl) Try.func3 (by kernel_rfl)
    (of_decide_eq_true (by kernel_rfl)) (by unfold Func.isWrapper; first | (rw [if_pos (by decide +kernel)]; kernel_rfl) | (rw [if_neg (by decide +kernel)]; exact ⟨rfl, rfl⟩))
    (fun os started H enc _ => lifted os started H enc)

theorem proved : Rows.StackDoesSaid :=
  over

end Go.Proofs.Ytkhafhdmcalhbaa.stackDoes
