/- FlattenPhases: at another phase each dot of a line is as much further on; for every scale and every outline. -/
import Derived.Test.YtlacjifnniahhaaM3FlattenPhases

namespace Go.Proofs.Ytlacjifnniahhaa.flattenPhases
open Go Go.ChangeShapes Go.WideShapes Go.ChangeAt Go.RowKit Go.Shelf
set_option linter.unusedVariables false
set_option linter.unusedSimpArgs false

set_option maxRecDepth 100000 in
set_option maxHeartbeats 4000000 in
theorem walk_big {W : World} (s : Sc) (A : Option Addr) (c : Nat) (Ls : List (List Pt)) (h : OutAt W W.heap.size A Ls) (hm : ∀ L ∈ Ls, L.length ≤ 17592186044416) (hn : Ls.length ≤ 9223372036854775807) (hb : bigB Ls = true) : Calls Try.prog 7 #[.agg #[.int .i64 s.u, .int .i64 s.p, .int .i64 s.fx, .int .i64 s.fy], .slice A Ls.length c] W fun e w' => e = .returned (.bool true) ∧ Below W.heap.size W w' := by
  have B0 := below_a1 W (.cells #[.int .i64 s.u, .int .i64 s.p, .int .i64 s.fx, .int .i64 s.fy] 23)
  have K0 := Blk.new W 23 #[.int .i64 s.u, .int .i64 s.p, .int .i64 s.fx, .int .i64 s.fy]
  obtain ⟨wA, hwA⟩ : ∃ wA, wA = W.alloc (.cells #[.int .i64 s.u, .int .i64 s.p, .int .i64 s.fx, .int .i64 s.fy] 23) := ⟨_, rfl⟩
  rw [← hwA] at B0 K0
  have HA := Lib.hid hwA
  have HB0 := Lib.hid B0
  have HK0 := Lib.hid K0
  have CG := large21 W.heap.size A c Ls wA B0.size (h.below B0) hm hn _ rfl
  rw [hb] at CG
  clear hwA h hm B0 K0 hb
  generalize Ls.length = n at *
  go_enter Try.func7, Try.ntmps7
  go_upto_region 1 with fail
  rw [← HA.out]
  go_wp2_with (first
    | (go_at_call 14; (with_reducible refine (CG).mono ?_); rintro e w1 ⟨rfl, b1⟩)
    | (go_at_call 10; ((with_reducible refine (lives21 _).mono ?_); rintro e w9 ⟨rfl, b9⟩)))
  go_ret
  exact ⟨rfl, HB0.out.trans ((b1.trans (b9.mono b1.size)).mono HB0.out.size)⟩
set_option maxRecDepth 100000 in
set_option maxHeartbeats 4000000 in
theorem walk_none {W : World} (s : Sc) (A : Option Addr) (c : Nat) (Ls : List (List Pt)) (h : OutAt W W.heap.size A Ls) (hm : ∀ L ∈ Ls, L.length ≤ 17592186044416) (hn : Ls.length ≤ 9223372036854775807) (hb : bigB Ls = false) (hms : mscB s = false) : Calls Try.prog 7 #[.agg #[.int .i64 s.u, .int .i64 s.p, .int .i64 s.fx, .int .i64 s.fy], .slice A Ls.length c] W fun e w' => e = .returned (.bool true) ∧ Below W.heap.size W w' := by
  have B0 := below_a1 W (.cells #[.int .i64 s.u, .int .i64 s.p, .int .i64 s.fx, .int .i64 s.fy] 23)
  have K0 := Blk.new W 23 #[.int .i64 s.u, .int .i64 s.p, .int .i64 s.fx, .int .i64 s.fy]
  obtain ⟨wA, hwA⟩ : ∃ wA, wA = W.alloc (.cells #[.int .i64 s.u, .int .i64 s.p, .int .i64 s.fx, .int .i64 s.fy] 23) := ⟨_, rfl⟩
  rw [← hwA] at B0 K0
  have HA := Lib.hid hwA
  have HB0 := Lib.hid B0
  have HK0 := Lib.hid K0
  have CG := large21 W.heap.size A c Ls wA B0.size (h.below B0) hm hn _ rfl
  rw [hb] at CG
  have CM := fun V => rmsc_any s V
  rw [hms] at CM
  clear hwA h hm B0 K0 hb hms
  generalize Ls.length = n at *
  go_enter Try.func7, Try.ntmps7
  go_upto_region 1 with fail
  rw [← HA.out]
  go_wp2_with (first
    | (go_at_call 14; (with_reducible refine (CG).mono ?_); rintro e w1 ⟨rfl, b1⟩; have K1 := HK0.out.below b1; have s0 := K1.cell 0; have s1 := K1.cell 1; have s2 := K1.cell 2; have s3 := K1.cell 3; have sl := K1.lt; simp only [List.getElem?_toArray, List.getElem?_cons_succ, List.getElem?_cons_zero] at s0 s1 s2 s3)
    | (go_at_call 11; (with_reducible refine (CM _).mono ?_); rintro e w2 ⟨rfl, b2⟩)
    | (go_at_call 10; ((with_reducible refine (lives21 _).mono ?_); rintro e w9 ⟨rfl, b9⟩)))
  go_ret
  have b3 := b1.trans ((b2.trans (b9.mono b2.size)).mono b1.size)
  exact ⟨rfl, HB0.out.trans (b3.mono HB0.out.size)⟩
set_option maxRecDepth 100000 in
set_option maxHeartbeats 4000000 in
theorem walk_ok {W : World} (s : Sc) (A : Option Addr) (c : Nat) (Ls : List (List Pt)) (h : OutAt W W.heap.size A Ls) (hm : ∀ L ∈ Ls, L.length ≤ 17592186044416) (hn : Ls.length ≤ 9223372036854775807) (hc : Ls.length ≤ c) (hb : bigB Ls = false) (hms : mscB s = true) : Calls Try.prog 7 #[.agg #[.int .i64 s.u, .int .i64 s.p, .int .i64 s.fx, .int .i64 s.fy], .slice A Ls.length c] W fun e w' => e = .returned (.bool true) ∧ Below W.heap.size W w' := by
  have B0 := below_a1 W (.cells #[.int .i64 s.u, .int .i64 s.p, .int .i64 s.fx, .int .i64 s.fy] 23)
  have K0 := Blk.new W 23 #[.int .i64 s.u, .int .i64 s.p, .int .i64 s.fx, .int .i64 s.fy]
  obtain ⟨wA, hwA⟩ : ∃ wA, wA = W.alloc (.cells #[.int .i64 s.u, .int .i64 s.p, .int .i64 s.fx, .int .i64 s.fy] 23) := ⟨_, rfl⟩
  rw [← hwA] at B0 K0
  have HA := Lib.hid hwA
  have HB0 := Lib.hid B0
  have HK0 := Lib.hid K0
  have CG := large21 W.heap.size A c Ls wA B0.size (h.below B0) hm hn _ rfl
  have hbn := big_no hb
  have hsm : Sm Ls := ⟨by omega, fun L hL => by have := len_cnt hL; omega⟩
  rw [hb] at CG
  have CM := fun V => rmsc_any s V
  rw [hms] at CM
  have CF1 := fun V (b : Below W.heap.size W V) => flatten_any s W.heap.size A c Ls V b.size (h.below b) hsm hc
  have CF2 := fun V (b : Below W.heap.size W V) => show Calls Try.prog 15 #[.agg #[.int .i64 s.u, .int .i64 s.p, .int .i64 0, .int .i64 0], .slice A Ls.length c] V (FlatPost (zSc s) Ls V) from flatten_any (zSc s) W.heap.size A c Ls V b.size (h.below b) hsm hc
  have HPH := Lib.hid (phase_mv hms Ls)
  have HL := Lib.hid (And.intro h hsm)
  have hn3 := hbn.1
  have HMS := Lib.hid hms
  obtain ⟨n, hnn⟩ : ∃ n, n = Ls.length := ⟨_, rfl⟩
  rw [← hnn] at CG CF1 CF2 hn3 ⊢
  have HN := Lib.hid hnn
  have HCF := Lib.hid (And.intro CF1 CF2)
  clear hwA h hm hn B0 K0 hb hms hbn hsm hnn hc CF1 CF2
  go_enter Try.func7, Try.ntmps7
  go_upto_region 1 with fail
  rw [← HA.out]
  go_upto_region 3 with (first
    | (go_at_call 14; (with_reducible refine (CG).mono ?_); rintro e w1 ⟨rfl, b1⟩; have K1 := HK0.out.below b1; have s0 := K1.cell 0; have s1 := K1.cell 1; have s2 := K1.cell 2; have s3 := K1.cell 3; have sl := K1.lt; simp only [List.getElem?_toArray, List.getElem?_cons_succ, List.getElem?_cons_zero] at s0 s1 s2 s3)
    | (go_at_call 11; (with_reducible refine (CM _).mono ?_); rintro e w2 ⟨rfl, b2⟩))
  have b3 := b1.trans (b2.mono b1.size)
  have HB3 := Lib.hid (And.intro (HB0.out.trans (b3.mono HB0.out.size)) (HK0.out.below b3))
  clear b1 b2 b3 K1 s0 s1 s2 s3 sl CG CM
  go_wp2
  go_loopw [5] (fun i wr => ∃ k : Nat, k ≤ n ∧ i = .int .i64 k ∧ (∀ L ∈ Ls.take k, ∀ p ∈ L, p.2.2 = 1) ∧ wr = w2) (fun i _ => n - (intOf i).toNat)
  case atStart => exact ⟨0, Nat.zero_le _, rfl, by simp, rfl⟩
  case round =>
    obtain ⟨k, hk, rfl, hks, rfl⟩ := hrel
    by_cases hlt : k < n
    · have d1 : decide ((k : Int) < (n : Int)) = true := by simp; omega
      obtain ⟨L, hL⟩ := at_some (L := Ls) (k := k) (by rw [← HN.out]; exact hlt)
      obtain ⟨b, o, Ai, ci, rfl, hbl, c0, hE⟩ := HL.out.1.at' k L hL
      have g0 := (HB3.out.1.cell (p := ⟨b, o + k, none⟩) hbl).trans c0
      have hbs := HB3.out.1.size
      have g3 : b < wr.heap.size := by omega
      have hl : L.length ≤ 100000 := HL.out.2.2 L (List.mem_of_getElem? hL)
      have HT := Lib.hid (take_snoc1 hL)
      have HE := Lib.hid hE
      have HKS := Lib.hid hks
      obtain ⟨m, hm⟩ : ∃ m, m = L.length := ⟨_, rfl⟩
      rw [← hm] at g0 hl
      have HMm := Lib.hid hm
      clear c0 hE hL hks hm
      go_wp2
      go_loopw [6] (fun i wq => ∃ j : Nat, j ≤ m ∧ i = .int .i64 j ∧ (∀ p ∈ L.take j, p.2.2 = 1) ∧ wq = wr) (fun i _ => m - (intOf i).toNat)
      case atStart => exact ⟨0, Nat.zero_le _, rfl, by simp, rfl⟩
      case round =>
        obtain ⟨j, hj, rfl, hjs, rfl⟩ := hrel
        by_cases hjm : j < m
        · have d2 : decide ((j : Int) < (m : Int)) = true := by simp; omega
          obtain ⟨p, hp⟩ := at_some (L := L) (k := j) (by rw [← HMm.out]; exact hjm)
          obtain ⟨fb, fo, hA, hfb, f1, f2, f3⟩ := lists_pt HE.out hp
          subst hA
          have q2 := (HB3.out.1.cell (p := ⟨fb, fo + j * 3 + 2, none⟩) hfb).trans f3
          have fl : fb < wr.heap.size := by omega
          have HTJ := Lib.hid (take_snoc1 hp)
          have HJS := Lib.hid hjs
          clear f1 f2 f3 hp hjs
          by_cases h1 : p.2.2 = 1
          · have d3 : (p.2.2 != 1) = false := by simpa using h1
            have H1 := Lib.hid h1
            clear h1
            go_wp2
            go_roundw
            case rel => exact ⟨j + 1, by omega, by go_num, by
              rw [HTJ.out]
              intro q hq
              rw [List.mem_append] at hq
              rcases hq with hq | hq
              · exact HJS.out q hq
              · simp at hq; subst hq; exact H1.out, by first | rfl | trivial⟩
            case measure => simp [intOf]; omega
          · have d3 : (p.2.2 != 1) = true := by simpa using h1
            clear h1
            go_wp2_with (go_at_call 10; ((with_reducible refine (lives21 _).mono ?_); rintro e w9 ⟨rfl, b9⟩))
            go_ret
            exact ⟨rfl, HB3.out.1.trans (b9.mono HB3.out.1.size)⟩
        · obtain rfl : j = m := by omega
          have d2 : decide ((j : Int) < (j : Int)) = false := by simp
          have hTL : L.take j = L := List.take_of_length_le (by rw [← HMm.out]; exact Nat.le_refl _)
          rw [hTL] at hjs
          have HJS := Lib.hid hjs
          clear hjs hTL
          go_wp2
          go_roundw
          case rel => exact ⟨k + 1, by omega, by go_num, by
            rw [HT.out]
            intro M hM
            rw [List.mem_append] at hM
            rcases hM with hM | hM
            · exact HKS.out M hM
            · simp at hM; subst hM; exact HJS.out, by first | rfl | trivial⟩
          case measure => simp [intOf]; omega
    · obtain rfl : k = n := by omega
      have d1 : decide ((k : Int) < (k : Int)) = false := by simp
      have hTK : Ls.take k = Ls := List.take_of_length_le (by rw [← HN.out]; exact Nat.le_refl _)
      rw [hTK] at hks
      have HKS := Lib.hid hks
      clear hks hTK
      have hKS := HB3.out.2
      have s0 := hKS.cell 0; have s1 := hKS.cell 1; have s2 := hKS.cell 2; have s3 := hKS.cell 3; have sl := hKS.lt; simp only [List.getElem?_toArray, List.getElem?_cons_succ, List.getElem?_cons_zero] at s0 s1 s2 s3
      clear hKS
      go_upto_region 12 with (refine wpList_store_row rfl 23 (.tmp 7) (.tmp 47) (by with_reducible rfl) wr.heap.size #[.int .i64 s.u, .int .i64 s.p, .int .i64 s.fx, .int .i64 s.fy] (by rfl) (by rfl) 23 #[.int .i64 0, .int .i64 0, .int .i64 0, .int .i64 0] (by exact Blk.new _ _ _) scSize4 rfl (by simp [Value.oneCell']) ?_)
      obtain ⟨V1, hV1⟩ : ∃ V1, V1 = (wr.alloc (.cells #[.int .i64 0, .int .i64 0, .int .i64 0, .int .i64 0] 23)).setRow wr.heap.size #[.int .i64 s.u, .int .i64 s.p, .int .i64 s.fx, .int .i64 s.fy] := ⟨_, rfl⟩
      rw [← hV1]
      have KZ : Blk V1 wr.heap.size 23 #[.int .i64 s.u, .int .i64 s.p, .int .i64 s.fx, .int .i64 s.fy] := by rw [hV1]; exact blk_row (Blk.new _ _ _) _
      have BV : Below wr.heap.size wr V1 := hV1 ▸ below_setRow (g := wr.heap.size) (below_a1 _ _) (Nat.le_refl _) _
      obtain ⟨zb, hzb⟩ : ∃ zb, zb = wr.heap.size := ⟨_, rfl⟩
      rw [← hzb] at KZ ⊢
      have hzl : wr.heap.size ≤ zb := by omega
      clear hV1 hzb s0 s1 s2 s3 sl
      have z0 := KZ.cell 0; have z1 := KZ.cell 1; have z2 := KZ.cell 2; have z3 := KZ.cell 3; have zl := KZ.lt; simp only [List.getElem?_toArray, List.getElem?_cons_succ, List.getElem?_cons_zero] at z0 z1 z2 z3
      have y2 := KZ.frozen 2
      have y3 := KZ.frozen 3
      go_upto_region 13 with fail
      obtain ⟨V2, hV2⟩ : ∃ V2, V2 = (V1.setCell ⟨zb, 2, none⟩ (.int .i64 0)).setCell ⟨zb, 3, none⟩ (.int .i64 0) := ⟨_, rfl⟩
      rw [← hV2]
      have KZ2 : Blk V2 zb 23 #[.int .i64 s.u, .int .i64 s.p, .int .i64 0, .int .i64 0] := hV2 ▸ ((KZ.set 2 (.int .i64 0)).set 3 (.int .i64 0))
      have BV2 : Below wr.heap.size wr V2 := hV2 ▸ (BV.setCell (p := ⟨zb, 2, none⟩) (by simp; omega) (.int .i64 0)).setCell (p := ⟨zb, 3, none⟩) (by simp; omega) (.int .i64 0)
      have K2 := HB3.out.2.below BV2
      have BW2 := HB3.out.1.trans (BV2.mono HB3.out.1.size)
      clear hV2 KZ BV z0 z1 z2 z3 zl y2 y3
      have CF1 := HCF.out.1 V2 BW2
      have s0 := K2.cell 0; have s1 := K2.cell 1; have s2 := K2.cell 2; have s3 := K2.cell 3; have sl := K2.lt; simp only [List.getElem?_toArray, List.getElem?_cons_succ, List.getElem?_cons_zero] at s0 s1 s2 s3
      by_cases h1 : flatE s Ls = 0
      · by_cases h2 : flatE (zSc s) Ls = 0
        · have hp := HPH.out HKS.out h1 h2
          have CF1' := CF1.mono fun e w' hq => show ∃ A5 c5, e = .returned (.tuple #[.slice A5 (flatL s Ls).length c5, .int .i64 0]) ∧ OutF dtL w' w'.heap.size A5 (flatL s Ls) ∧ Below V2.heap.size V2 w' by
            obtain ⟨v, e1, e2, e3⟩ := hq.2 h1
            obtain ⟨A5, c5, rfl, _, o5⟩ := e2.out
            exact ⟨A5, c5, e1, o5, e3⟩
          have CF2' := Lib.hid (fun V b => (HCF.out.2 V b).mono fun e w' hq => show ∃ A5 c5, e = .returned (.tuple #[.slice A5 (flatL (zSc s) Ls).length c5, .int .i64 0]) ∧ OutF dtL w' w'.heap.size A5 (flatL (zSc s) Ls) ∧ Below V.heap.size V w' by
            obtain ⟨v, e1, e2, e3⟩ := hq.2 h2
            obtain ⟨A5, c5, rfl, _, o5⟩ := e2.out
            exact ⟨A5, c5, e1, o5, e3⟩)
          have hlen : (flatL (zSc s) Ls).length = k := by simp [flatL, HN.out]
          have hlen2 : (flatL s Ls).length = k := by simp [flatL, HN.out]
          have hsm1 : SmF (flatL (zSc s) Ls) := ⟨by omega, by have := (flat_zero (zSc_may HMS.out) h2).2.2; omega⟩
          have hsm2 : SmF (flatL s Ls) := ⟨by omega, by have := (flat_zero HMS.out h1).2.2; omega⟩
          have hsi := mscB_in HMS.out
          have CV := Lib.hid (fun V A1 c1 o1 => (rmove21 A1 c1 (flatL (zSc s) Ls) s.fx s.fy V o1 hsm1 hp.1 (by omega) (by omega)).mono fun e w' hq => show ∃ A5 c5, e = .returned (.tuple #[.slice A5 k c5, .int .i64 0]) ∧ OutF dtL w' w'.heap.size A5 (flatL s Ls) ∧ Below V.heap.size V w' by
            obtain ⟨v, e1, e2, e3, e4⟩ := hq
            rw [hp.2.2] at e1
            have e2 := e2 hp.2.2
            rw [hp.2.1] at e2
            obtain ⟨A5, c5, rfl, _, o5⟩ := e2.out
            rw [hlen2] at e1
            exact ⟨A5, c5, e1, o5, e4⟩)
          have CS := Lib.hid (fun V A1 A2 c1 c2 o1 o2 => rsame21 A1 A2 c1 c2 (flatL s Ls) V o1 o2 hsm2)
          rw [hlen] at CF2' CV
          rw [hlen2] at CF1' CS
          clear CF1 h1 h2 hlen hlen2 hsm1 hsm2 hsi hp HPH
          go_upto_region 14 with (go_at_call 15; (with_reducible refine (CF1').mono ?_); rintro e w4 ⟨A4, c4, rfl, o4, b4⟩)
          have B4 := BW2.trans (b4.mono BW2.size)
          have K4 := K2.below b4
          have KZ4 := KZ2.below b4
          clear s0 s1 s2 s3 sl CF1'
          have z0 := KZ4.cell 0; have z1 := KZ4.cell 1; have z2 := KZ4.cell 2; have z3 := KZ4.cell 3; have zl := KZ4.lt; simp only [List.getElem?_toArray, List.getElem?_cons_succ, List.getElem?_cons_zero] at z0 z1 z2 z3
          have CF24 := CF2'.out w4 B4
          go_upto_region 15 with (go_at_call 15; (with_reducible refine (CF24).mono ?_); rintro e w5 ⟨A5, c5, rfl, o5, b5⟩)
          clear z0 z1 z2 z3 zl CF24
          go_upto_region 17 with (go_at_call 10; ((with_reducible refine (lives21 _).mono ?_); rintro e w6 ⟨rfl, b6⟩))
          have b56 := b5.trans (b6.mono b5.size)
          have B6 := B4.trans (b56.mono B4.size)
          have K6 := K4.below b56
          have o46 := (o4.below b56).more b56.size
          have o56 := (o5.below b6).more b6.size
          have s0 := K6.cell 0; have s1 := K6.cell 1; have s2 := K6.cell 2; have s3 := K6.cell 3; have sl := K6.lt; simp only [List.getElem?_toArray, List.getElem?_cons_succ, List.getElem?_cons_zero] at s0 s1 s2 s3
          have CV6 := CV.out w6 A5 c5 o56
          go_upto_region 18 with (go_at_call 27; (with_reducible refine (CV6).mono ?_); rintro e w7 ⟨A7, c7, rfl, o7, b7⟩)
          have o47 := (o46.below b7).more b7.size
          have CS7 := CS.out w7 A4 A7 c4 c7 o47 o7
          clear s0 s1 s2 s3 sl CV6
          go_wp2_with (go_at_call 18; (with_reducible refine (CS7).mono ?_); rintro e w8 ⟨rfl, b8⟩)
          go_ret
          have b78 := b7.trans (b8.mono b7.size)
          exact ⟨rfl, B6.trans (b78.mono B6.size)⟩
        · have g2 : (flatE (zSc s) Ls != 0) = true := by simpa using h2
          have CF1' := CF1.mono fun e w' hq => show ∃ v, e = .returned (.tuple #[v, .int .i64 0]) ∧ Below V2.heap.size V2 w' by
            obtain ⟨v, e1, e2, e3⟩ := hq.2 h1
            exact ⟨v, e1, e3⟩
          have CF2' := Lib.hid (fun V b => (HCF.out.2 V b).mono fun e w' hq => hq.1 h2)
          clear CF1 h1 h2 HPH
          generalize flatE (zSc s) Ls = fz at *
          go_upto_region 14 with (go_at_call 15; (with_reducible refine (CF1').mono ?_); rintro e w4 ⟨v4, rfl, b4⟩)
          have B4 := BW2.trans (b4.mono BW2.size)
          have KZ4 := KZ2.below b4
          clear s0 s1 s2 s3 sl CF1'
          have z0 := KZ4.cell 0; have z1 := KZ4.cell 1; have z2 := KZ4.cell 2; have z3 := KZ4.cell 3; have zl := KZ4.lt; simp only [List.getElem?_toArray, List.getElem?_cons_succ, List.getElem?_cons_zero] at z0 z1 z2 z3
          have CF24 := CF2'.out w4 B4
          go_upto_region 15 with (go_at_call 15; (with_reducible refine (CF24).mono ?_); rintro e w5 ⟨rfl, b5⟩)
          have B5 := B4.trans (b5.mono B4.size)
          clear z0 z1 z2 z3 zl CF24
          go_upto_region 16 with (go_at_call 10; ((with_reducible refine (lives21 _).mono ?_); rintro e w6 ⟨rfl, b6⟩))
          go_wp2_with (go_at_call 10; ((with_reducible refine (lives21 _).mono ?_); rintro e w7 ⟨rfl, b7⟩))
          go_ret
          exact ⟨rfl, B5.trans ((b6.trans (b7.mono b6.size)).mono B5.size)⟩
      · have g1 : (flatE s Ls != 0) = true := by simpa using h1
        have CF1' := CF1.mono fun e w' hq => hq.1 h1
        have CF2' := Lib.hid (fun V b => (HCF.out.2 V b).mono fun e w' hq => show ∃ v, e = .returned (.tuple #[v, .int .i64 (flatE (zSc s) Ls)]) ∧ Below V.heap.size V w' by
          by_cases h2 : flatE (zSc s) Ls = 0
          · obtain ⟨v, e1, e2, e3⟩ := hq.2 h2
            exact ⟨v, by rw [h2]; exact e1, e3⟩
          · exact ⟨_, hq.1 h2⟩)
        clear CF1 h1 HPH
        generalize flatE (zSc s) Ls = fz at *
        generalize flatE s Ls = fs at *
        go_upto_region 14 with (go_at_call 15; (with_reducible refine (CF1').mono ?_); rintro e w4 ⟨rfl, b4⟩)
        have B4 := BW2.trans (b4.mono BW2.size)
        have KZ4 := KZ2.below b4
        clear s0 s1 s2 s3 sl CF1'
        have z0 := KZ4.cell 0; have z1 := KZ4.cell 1; have z2 := KZ4.cell 2; have z3 := KZ4.cell 3; have zl := KZ4.lt; simp only [List.getElem?_toArray, List.getElem?_cons_succ, List.getElem?_cons_zero] at z0 z1 z2 z3
        have CF24 := CF2'.out w4 B4
        go_upto_region 15 with (go_at_call 15; (with_reducible refine (CF24).mono ?_); rintro e w5 ⟨v5, rfl, b5⟩)
        have B5 := B4.trans (b5.mono B4.size)
        clear z0 z1 z2 z3 zl CF24
        go_upto_region 16 with (go_at_call 10; ((with_reducible refine (lives21 _).mono ?_); rintro e w6 ⟨rfl, b6⟩))
        go_wp2_with (go_at_call 10; ((with_reducible refine (lives21 _).mono ?_); rintro e w7 ⟨rfl, b7⟩))
        go_ret
        exact ⟨rfl, B5.trans ((b6.trans (b7.mono b6.size)).mono B5.size)⟩
theorem walk {W : World} (s : Sc) (A : Option Addr) (c : Nat) (Ls : List (List Pt)) (h : OutAt W W.heap.size A Ls) (hm : ∀ L ∈ Ls, L.length ≤ 17592186044416) (hn : Ls.length ≤ 9223372036854775807) (hc : Ls.length ≤ c) : Calls Try.prog 7 #[.agg #[.int .i64 s.u, .int .i64 s.p, .int .i64 s.fx, .int .i64 s.fy], .slice A Ls.length c] W fun e w' => e = .returned (.bool true) ∧ Below W.heap.size W w' := by
  cases hb : bigB Ls with
  | true => exact walk_big s A c Ls h hm hn hb
  | false =>
    cases hms : mscB s with
    | true => exact walk_ok s A c Ls h hm hn hc hb hms
    | false => exact walk_none s A c Ls h hm hn hb hms

set_option linter.unusedVariables false in
set_option maxRecDepth 100000 in
theorem lifted (os : Os) (started : os.Started) (H : Type) (enc : TypeId × Value → H) :
    ReturnsInHanded {} Try.checked os 7 .any (Rows.flattenPhasesSpec.pre6 enc Try.prog Try.f7 Rows.flattenPhasesRow.domain false) (Rows.flattenPhasesSpec.post enc Try.prog Try.f7 false true false false) := by
  refine returnsInHanded_of_change_sized (C := Try.checked) Try.own started (by kernel_rfl) Try.func7
    (ChangeSpec.witness6 (enc := enc) (C := Try.checked) false ⟨#[], #[.agg #[.int .i64 0, .int .i64 0, .int .i64 0, .int .i64 0], .slice none 0 0], []⟩ 8 (by kernel_rfl) (by kernel_rfl) (by kernel_rfl) (by kernel_rfl)) ?_
  intro W base args ds gs before hval0 hW hcnd hsz0 _
  have hsz : (DataW.weightsEach Try.prog (Try.f7.params.toList ++ Rows.flattenPhasesSpec.plain.varTypes Try.prog) (ds ++ gs)).all (· ≤ reachBytes) = true := hsz0
  have hval : ∀ (j : Nat) t v, Try.f7.params[j]? = some t → args[j]? = some v → Value.okWide Try.prog W .any base t v := hval0
  have hW' := hW
  obtain ⟨p, q, hA0, hV, rfl, hfz, hnd⟩ := hW
  have hA : DataW.TrodAll enc Try.prog W 0 (fun _ => true) true Try.f7.params.toList args.toList ds p := hA0
  rw [Try.params7] at hA hval hsz
  obtain ⟨v0, vs0, d0, ds0, p0, q0, hargs, rfl, rfl, h0, r0⟩ := trodAll_cons hA
  obtain ⟨v1, vs1, d1, ds1, p1, q1, rfl, rfl, rfl, h1, r1⟩ := trodAll_cons r0
  obtain ⟨rfl, rfl, rfl⟩ := trodAll_nil r1
  obtain rfl : args = #[v0, v1] := by cases args; simp_all
  obtain ⟨rfl, rfl⟩ := trodVars_none hV
  obtain ⟨s0, rfl⟩ := open_scale (hval 0 23 v0 rfl rfl) h0
  have hz1 : ∀ m ∈ d1.weights Try.prog 37, m ≤ reachBytes := fun m hm => of_decide_eq_true (List.all_eq_true.1 hsz m (DataW.weights_mem_each (j := 1) rfl rfl m hm))
  obtain ⟨A1, c1, L1, rfl, k1, m1, n1, p19, q19⟩ := open_outF (f := ptL3) (sz := 3) (by_ := 24) Try.underlying37 Try.underlying56 (by kernel_rfl) (by kernel_rfl) (fun _ => rfl) (by decide) open_ptF (by kernel_rfl) (by decide) (hval 1 37 v1 rfl rfl) h1 hz1
  clear hA0 hval0
  simp only [List.append_nil] at hW'
  refine (walk (W := W) s0 A1 c1 L1 (outF_at k1) m1 n1 p19).mono fun e W' ⟨he, hg⟩ => ?_
  subst he
  exact ⟨_, rfl, law_post Try.laidOut rfl Try.underlying4 (by kernel_rfl) rfl rfl rfl rfl hW' hg⟩

theorem over : Rows.flattenPhasesRow.holds Try.pinned (OpenSpec.ofChange Rows.flattenPhasesSpec) :=
  OpenClaim.holds_of_wide 7 Try.f7 rfl rfl rfl rfl rfl rfl rfl ⟨rfl, rfl, rfl, rfl, rfl⟩ rfl rfl rfl rfl rfl (by kernel_rfl) Try.func7 (by kernel_rfl)
    (of_decide_eq_true (by kernel_rfl)) (by unfold Func.isWrapper; first | (rw [if_pos (by decide +kernel)]; kernel_rfl) | (rw [if_neg (by decide +kernel)]; exact ⟨rfl, rfl⟩))
    (fun os started H enc _ => lifted os started H enc)

theorem proved : Rows.FlattenPhasesSaid :=
  over

end Go.Proofs.Ytlacjifnniahhaa.flattenPhases
