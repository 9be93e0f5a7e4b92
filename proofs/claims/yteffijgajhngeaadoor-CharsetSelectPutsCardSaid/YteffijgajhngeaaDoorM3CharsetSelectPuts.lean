/- Part 14 of the proof: ChX1, ChX2, ChY, ChSf. -/
import Derived.Test.YteffijgajhngeaaDoorM2CharsetSelectPuts

namespace Go.Proofs.YteffijgajhngeaaDoor
open Go Go.RowKit
set_option linter.unusedVariables false
set_option linter.unusedSimpArgs false
set_option maxRecDepth 100000 in
set_option maxHeartbeats 4000000 in
theorem rput_1 (A : Option Addr) (c n : Nat) (L : List Int) (w : World) (hE : Lists w w.heap.size A (intCells L)) (hnn : L.length = n) (hn1 : 1 ≤ n) (hn2 : n ≤ 3000) (hall : allB 0 65535 L = true) :
    Calls Tryd.prog 15 #[.slice A n c, .int .i64 1] w (RPutC w 1 L) := by
  obtain ⟨b, o, rfl, hbl, hcl⟩ := hE.plain (by intro e; have h2 := congrArg List.length e; rw [intCells_len, hnn] at h2; simp at h2; omega)
  have HN := Lib.hid hnn
  have HALL := Lib.hid hall
  have HC := Lib.hid hcl
  have HG0 := Lib.hid (show be1 1 ++ rgE 1 (cntsF nextP 256 (n - 1) (L.drop 1)) (L.drop 1) = putC 1 L by
    unfold putC cnts
    rw [List.drop_one, List.length_tail, hnn]
    rfl)
  clear hE hnn hall hcl
  obtain ⟨i0, hi, hz0, hz1, hz2⟩ := info_parts u8Info
  go_enter Tryd.func15, Tryd.ntmps15
  go_wp2
  go_loopw [5, 7] (fun ov iv wr => ∃ (i m pn : Nat) (pre : List Value), iv = .int .i64 (i : Nat) ∧ 1 ≤ i ∧ i ≤ n ∧ Hid (pre ++ rgE 1 (cntsF nextP 256 m (L.drop i)) (L.drop i) = putC 1 L) ∧ n ≤ i + m ∧ Hid (pre.length = pn) ∧ pn ≤ 4 * i ∧ wr.ownsRow w.heap.size 5 1 ov pn pre ∧ Below w.heap.size w wr) (fun _ iv _ => n - (intOf iv).toNat)
  case atStart => exact ⟨1, n - 1, 1, be1 1, rfl, Nat.le_refl _, hn1, HG0, by omega, Lib.hid rfl, by omega, own_oneB w 1, (Below.refl _ _).alloc (Nat.le_refl _) _⟩
  case round =>
    obtain ⟨i, m, pn, pre, rfl, hi1, hin, HG, hm, HPN, hpn, hown, hb⟩ := hrel
    obtain ⟨wq, rfl⟩ : ∃ wq, wq = wr := ⟨_, rfl⟩
    have hbs := hb.size
    by_cases hlt : i < n
    · have d1 : (i : Int) < (n : Int) := by omega
      obtain ⟨m1, rfl⟩ : ∃ y, m = y + 1 := ⟨m - 1, by omega⟩
      obtain ⟨T, hT⟩ : ∃ T, L.drop i = T := ⟨_, rfl⟩
      rw [hT] at HG
      have hTL : T.length = n - i := by rw [← hT, List.length_drop, HN.out]
      obtain ⟨a, ha⟩ : ∃ a, L.getD i 0 = a := ⟨_, rfl⟩
      have hab := allB_at HALL.out (j := i) (by rw [HN.out]; exact hlt)
      rw [ha] at hab
      obtain ⟨rn, hrn⟩ : ∃ rn, runN nextP 256 T = rn := ⟨_, rfl⟩
      have HRN := Lib.hid (show runF nextP 256 T (n - i) 1 = rn by rw [← hrn, ← hTL]; rfl)
      have HCO := Lib.hid (cntsF_more (P := nextP) (most := 256) (m := m1) (L := T) (by rw [hTL]; omega))
      rw [hrn] at HCO
      have HT := Lib.hid hT
      have HTL := Lib.hid hTL
      have HTA := Lib.hid (show T.getD 0 0 = a by rw [← hT, getD_dropC]; exact ha)
      have hbq : b < wq.heap.size := Nat.lt_of_lt_of_le hbl hbs
      have HCA := Lib.hid (show ∀ j, j < n → ∀ V, Below wq.heap.size wq V → V.cell? ⟨b, o + j, none⟩ = some (.int .i64 (L.getD j 0)) from fun j hj V hV => (hV.cell (p := ⟨b, o + j, none⟩) hbq).trans ((hb.cell (p := ⟨b, o + j, none⟩) hbl).trans (HC.out j _ (intCells_atD (by rw [HN.out]; exact hj)))))
      have HCI := Lib.hid (show ∀ V, Below wq.heap.size wq V → V.cell? ⟨b, o + i, none⟩ = some (.int .i64 a) from fun V hV => by rw [← ha]; exact HCA.out i hlt V hV)
      have HA0 := Lib.hid (show L.getD (i + 0) 0 = a + ((0 : Nat) : Int) by rw [Nat.add_zero, ha]; simp)
      clear hT hTL ha hrn
      obtain ⟨ha0, ha1⟩ := hab
      go_wp2
      go_loopw [8] (fun kv wi => ∃ k g : Nat, kv = .int .i64 (k : Nat) ∧ i + k + 1 ≤ n ∧ n ≤ i + k + 1 + g ∧ Hid (runF nextP 256 T g (k + 1) = rn) ∧ Hid (L.getD (i + k) 0 = a + (k : Nat)) ∧ Below wq.heap.size wq wi) (fun kv _ => n - (intOf kv).toNat)
      case atStart => exact ⟨0, n - i, rfl, by omega, by omega, HRN, HA0, Below.refl _ _⟩
      case round =>
        obtain ⟨k, g, rfl, hkn, hkg, hrun, hat, hbi⟩ := hrel
        have hI : Below wq.heap.size wq wr.drew := hbi.drew
        have hiw := hbi.size
        by_cases hc1 : k < 255
        · have n3 : (k : Int) < 255 := by omega
          have e1 : IntKind.i64.wrap ((i : Int) + (k : Int)) = (i : Int) + (k : Int) := IntWalk.i64_in _ (by omega)
          have e2 : IntKind.i64.wrap ((i : Int) + (k : Int) + 1) = (i : Int) + (k : Int) + 1 := IntWalk.i64_in _ (by omega)
          by_cases hc2 : i + k + 1 < n
          · have n4 : (i : Int) + (k : Int) + 1 < (n : Int) := by omega
            have n7 : (0 : Int) ≤ (i : Int) + (k : Int) + 1 := by omega
            have n8 : ((i : Int) + (k : Int) + 1).toNat = i + k + 1 := by omega
            have n9 : (i : Int) < (n : Int) := by omega
            have n9b : i < n := by omega
            have e3 : IntKind.i64.wrap (a + (k : Int)) = a + (k : Int) := IntWalk.i64_in _ (by omega)
            have e4 : IntKind.i64.wrap (a + (k : Int) + 1) = a + (k : Int) + 1 := IntWalk.i64_in _ (by omega)
            obtain ⟨g1, rfl⟩ : ∃ y, g = y + 1 := ⟨g - 1, by omega⟩
            obtain ⟨y, hy⟩ : ∃ y, L.getD (i + k + 1) 0 = y := ⟨_, rfl⟩
            have HCL := Lib.hid (show ∀ V, Below wq.heap.size wq V → V.cell? ⟨b, o + (i + k + 1), none⟩ = some (.int .i64 y) ∧ V.cell? ⟨b, o + i, none⟩ = some (.int .i64 a) from fun V hV => ⟨by rw [← hy]; exact HCA.out _ hc2 V hV, HCI.out V hV⟩)
            have hTk : T.getD k 0 = a + (k : Int) := by rw [← HT.out, getD_dropC]; exact hat.out
            have hTk1 : T.getD (k + 1) 0 = y := by rw [← HT.out, getD_dropC]; exact hy
            have hmin : k + 1 < min T.length 256 := by rw [HTL.out]; omega
            by_cases hc3 : y = a + (k : Int) + 1
            · have hpp : nextP (T.getD k 0) (T.getD (k + 1) 0) = true := by rw [hTk, hTk1, nextP_in (by omega), hc3]; simp
              have HRK := Lib.hid (show runF nextP 256 T g1 (k + 1 + 1) = rn by rw [← hrun.out]; exact (runF_yes hmin hpp).symm)
              have HAT := Lib.hid (show L.getD (i + (k + 1)) 0 = a + ((k + 1 : Nat) : Int) by rw [← Nat.add_assoc, hy, hc3]; omega)
              have t1 : (y == a + (k : Int) + 1) = true := by simpa using hc3
              clear hpp hTk hTk1 hmin hc3 hy hrun
              go_wp2
              refine wp_region_chain (fun V => Below wq.heap.size wq V) [(0, false), (1, false), (2, false), (3, false), (4, false), (5, false), (6, false), (7, false), (8, false), (9, false), (10, false), (11, false), (12, false), (13, false), (14, false), (15, false), (16, false), (17, false), (18, false), (19, false), (20, false), (21, false), (22, false), (23, false), (24, false), (25, false), (26, false), (27, false), (28, false)] (by kernel_rfl) (by kernel_rfl) (hI) ?_
              repeat (first
                | (refine ChainL.skip (o := ?_) ?_ ?_ ?_; rotate_left; (focus (first | (simp only [List.getElem?_toArray, List.getElem?_cons_succ, List.getElem?_cons_zero]; with_reducible rfl) | (simp only [List.getElem?_toArray, List.getElem?_cons_zero]; with_reducible rfl))); (focus rfl); simp only [Act.put, List.setIfInBounds_toArray, List.set_cons_zero, List.set_cons_succ])
                | (refine ChainL.val (o := ?_) (v := ?_) ?_ ?_ ?_ ?_ ?_; rotate_left 2; (focus (first | (simp only [List.getElem?_toArray, List.getElem?_cons_succ, List.getElem?_cons_zero]; with_reducible rfl) | (simp only [List.getElem?_toArray, List.getElem?_cons_zero]; with_reducible rfl))); (focus (intro _ _ h; cases h)); (focus rfl); (focus (intro w' hI; obtain ⟨y1, y2⟩ := HCL.out _ hI; go_simp <;> with_reducible rfl)); simp only [Act.put, List.setIfInBounds_toArray, List.set_cons_zero, List.set_cons_succ]))
              refine ChainL.nil ?_
              go_wp2
              go_roundw
              case rel => exact ⟨k + 1, g1, by go_num, by omega, by omega, HRK, HAT, hI⟩
              case measure => simp [intOf]; omega
            · have hpp : nextP (T.getD k 0) (T.getD (k + 1) 0) = false := by rw [hTk, hTk1, nextP_in (by omega)]; simpa using hc3
              have HRK := Lib.hid (show rn = k + 1 by rw [← hrun.out]; exact runF_no (fun h => by rw [hpp] at h; cases h.2))
              have t1 : (y == a + (k : Int) + 1) = false := by simpa using hc3
              clear hpp hTk hTk1 hmin hc3 hy
              have HNX := Lib.hid (show (pre ++ be2 a ++ be1 ((k : Nat) : Int)) ++ rgE 1 (cntsF nextP 256 m1 (L.drop (i + k + 1))) (L.drop (i + k + 1)) = putC 1 L by
                have h := HG.out
                rw [HCO.out] at h
                have e : T.drop rn = L.drop (i + k + 1) := by rw [HRK.out, ← HT.out, List.drop_drop, Nat.add_assoc]
                rw [e] at h
                rw [← h]
                show _ = pre ++ (be2 (T.getD 0 0) ++ moreE 1 ((rn - 1 : Nat) : Int) ++ rgE 1 _ (T.drop rn))
                rw [e, HTA.out, HRK.out, Nat.add_sub_cancel]
                simp [moreE, List.append_assoc])
              have HLN := Lib.hid (show (pre ++ be2 a ++ be1 ((k : Nat) : Int)).length = pn + 2 + 1 by simp [be1, be2, HPN.out])
              have hrk := HRK.out
              clear hrun hrk
              go_wp2
              refine wp_region_chain (fun V => Below wq.heap.size wq V) [(0, false), (1, false), (2, false), (3, false), (4, false), (5, false), (6, false), (7, false), (8, false), (9, false), (10, false), (11, false), (12, false), (13, false), (14, false), (15, false), (16, false), (17, false), (18, false), (19, false), (20, false), (21, false), (22, false), (23, false), (24, false), (25, false), (26, false), (27, false), (28, false)] (by kernel_rfl) (by kernel_rfl) (hI) ?_
              repeat (first
                | (refine ChainL.skip (o := ?_) ?_ ?_ ?_; rotate_left; (focus (first | (simp only [List.getElem?_toArray, List.getElem?_cons_succ, List.getElem?_cons_zero]; with_reducible rfl) | (simp only [List.getElem?_toArray, List.getElem?_cons_zero]; with_reducible rfl))); (focus rfl); simp only [Act.put, List.setIfInBounds_toArray, List.set_cons_zero, List.set_cons_succ])
                | (refine ChainL.val (o := ?_) (v := ?_) ?_ ?_ ?_ ?_ ?_; rotate_left 2; (focus (first | (simp only [List.getElem?_toArray, List.getElem?_cons_succ, List.getElem?_cons_zero]; with_reducible rfl) | (simp only [List.getElem?_toArray, List.getElem?_cons_zero]; with_reducible rfl))); (focus (intro _ _ h; cases h)); (focus rfl); (focus (intro w' hI; obtain ⟨y1, y2⟩ := HCL.out _ hI; go_simp <;> with_reducible rfl)); simp only [Act.put, List.setIfInBounds_toArray, List.set_cons_zero, List.set_cons_succ]))
              refine ChainL.nil ?_
              have g0 := (HCI.out _ hI)
              have hl1 : b < wr.drew.heap.size := Nat.lt_of_lt_of_le hbq hI.size
              go_wp2_with (first | (go_at_call 39; ((with_reducible refine (rbC2 a _).mono ?_); rintro e w3 ⟨b3, rfl, l3, B3⟩; have own2 := own_only (own_only hown (Only.of_below hI []) (fun _ _ h => (nomatch h))) (Only.of_below B3 []) (fun _ _ h => (nomatch h)); have B23 := (hb.trans (hI.mono hb.size)).trans (B3.mono (Nat.le_trans hb.size hI.size)))) | (at_builtin; refine wpList_append_src_wide _ rfl (.tmp 51) (.tmp 56) 22 rfl w.heap.size 5 i0 (.int .u8 0) 1 1 Tryd.underlying22 hi hz0 hz1 hz2 rfl (by decide) u5 (pn) (pre) rfl own2 w3.heap.size (some ⟨b3, 0, none⟩) 2 2 (be2 a) rfl l3 rfl (by simp [be1, be2, Value.oneCell']) (by simp only [maxLen]; omega) (by omega) B23.size ?_; intro v4 w4 own4 hg4; have B4 := B23.grown hg4 B23.size (fun b hb => ownC_low own2 b (by simp [blk, hb]))) | (go_at_call 39; ((with_reducible refine (rbC1 ((k : Nat) : Int) _).mono ?_); rintro e w5 ⟨b5, rfl, l5, B5⟩; have own5 := own_only own4 (Only.of_below B5 []) (fun _ _ h => (nomatch h)); have B25 := B4.trans (B5.mono B4.size))) | (at_builtin; refine wpList_append_src_wide _ rfl (.tmp 60) (.tmp 63) 22 rfl w.heap.size 5 i0 (.int .u8 0) 1 1 Tryd.underlying22 hi hz0 hz1 hz2 rfl (by decide) v4 (pn + 2) (pre ++ be2 a) rfl own5 w5.heap.size (some ⟨b5, 0, none⟩) 1 1 (be1 ((k : Nat) : Int)) rfl l5 rfl (by simp [be1, be2, Value.oneCell']) (by simp only [maxLen]; omega) (by omega) B25.size ?_; intro v6 w6 own6 hg6; have B6 := B25.grown hg6 B25.size (fun b hb => ownC_low own5 b (by simp [blk, hb]))))
              go_roundw
              case rel => exact ⟨i + k + 1, m1, pn + 2 + 1, pre ++ be2 a ++ be1 ((k : Nat) : Int), by go_num, by omega, by omega, HNX, by omega, HLN, by omega, own6, B6⟩
              case measure => simp [intOf]; omega
          · have n4 : decide ((i : Int) + (k : Int) + 1 < (n : Int)) = false := by simp; omega
            have HRK := Lib.hid (show rn = k + 1 by rw [← hrun.out]; exact runF_no (fun h => by have := h.1; rw [HTL.out] at this; omega))
            have HNX := Lib.hid (show (pre ++ be2 a ++ be1 ((k : Nat) : Int)) ++ rgE 1 (cntsF nextP 256 m1 (L.drop (i + k + 1))) (L.drop (i + k + 1)) = putC 1 L by
              have h := HG.out
              rw [HCO.out] at h
              have e : T.drop rn = L.drop (i + k + 1) := by rw [HRK.out, ← HT.out, List.drop_drop, Nat.add_assoc]
              rw [e] at h
              rw [← h]
              show _ = pre ++ (be2 (T.getD 0 0) ++ moreE 1 ((rn - 1 : Nat) : Int) ++ rgE 1 _ (T.drop rn))
              rw [e, HTA.out, HRK.out, Nat.add_sub_cancel]
              simp [moreE, List.append_assoc])
            have HLN := Lib.hid (show (pre ++ be2 a ++ be1 ((k : Nat) : Int)).length = pn + 2 + 1 by simp [be1, be2, HPN.out])
            have hrk := HRK.out
            clear hrun hrk
            go_wp2
            refine wp_region_chain (fun V => Below wq.heap.size wq V) [(0, false), (1, false), (2, false), (3, false), (4, false), (5, false), (6, false), (7, false), (8, false), (9, false), (10, false), (11, false), (12, false), (13, false), (14, false), (15, false), (16, false), (17, false), (18, false), (19, false), (20, false), (21, false), (22, false), (23, false), (24, false), (25, false), (26, false), (27, false), (28, false)] (by kernel_rfl) (by kernel_rfl) (hI) ?_
            repeat (first
              | (refine ChainL.skip (o := ?_) ?_ ?_ ?_; rotate_left; (focus (first | (simp only [List.getElem?_toArray, List.getElem?_cons_succ, List.getElem?_cons_zero]; with_reducible rfl) | (simp only [List.getElem?_toArray, List.getElem?_cons_zero]; with_reducible rfl))); (focus rfl); simp only [Act.put, List.setIfInBounds_toArray, List.set_cons_zero, List.set_cons_succ])
              | (refine ChainL.val (o := ?_) (v := ?_) ?_ ?_ ?_ ?_ ?_; rotate_left 2; (focus (first | (simp only [List.getElem?_toArray, List.getElem?_cons_succ, List.getElem?_cons_zero]; with_reducible rfl) | (simp only [List.getElem?_toArray, List.getElem?_cons_zero]; with_reducible rfl))); (focus (intro _ _ h; cases h)); (focus rfl); (focus (intro w' hI; skip; go_simp <;> with_reducible rfl)); simp only [Act.put, List.setIfInBounds_toArray, List.set_cons_zero, List.set_cons_succ]))
            refine ChainL.nil ?_
            have g0 := (HCI.out _ hI)
            have hl1 : b < wr.drew.heap.size := Nat.lt_of_lt_of_le hbq hI.size
            go_wp2_with (first | (go_at_call 39; ((with_reducible refine (rbC2 a _).mono ?_); rintro e w3 ⟨b3, rfl, l3, B3⟩; have own2 := own_only (own_only hown (Only.of_below hI []) (fun _ _ h => (nomatch h))) (Only.of_below B3 []) (fun _ _ h => (nomatch h)); have B23 := (hb.trans (hI.mono hb.size)).trans (B3.mono (Nat.le_trans hb.size hI.size)))) | (at_builtin; refine wpList_append_src_wide _ rfl (.tmp 51) (.tmp 56) 22 rfl w.heap.size 5 i0 (.int .u8 0) 1 1 Tryd.underlying22 hi hz0 hz1 hz2 rfl (by decide) u5 (pn) (pre) rfl own2 w3.heap.size (some ⟨b3, 0, none⟩) 2 2 (be2 a) rfl l3 rfl (by simp [be1, be2, Value.oneCell']) (by simp only [maxLen]; omega) (by omega) B23.size ?_; intro v4 w4 own4 hg4; have B4 := B23.grown hg4 B23.size (fun b hb => ownC_low own2 b (by simp [blk, hb]))) | (go_at_call 39; ((with_reducible refine (rbC1 ((k : Nat) : Int) _).mono ?_); rintro e w5 ⟨b5, rfl, l5, B5⟩; have own5 := own_only own4 (Only.of_below B5 []) (fun _ _ h => (nomatch h)); have B25 := B4.trans (B5.mono B4.size))) | (at_builtin; refine wpList_append_src_wide _ rfl (.tmp 60) (.tmp 63) 22 rfl w.heap.size 5 i0 (.int .u8 0) 1 1 Tryd.underlying22 hi hz0 hz1 hz2 rfl (by decide) v4 (pn + 2) (pre ++ be2 a) rfl own5 w5.heap.size (some ⟨b5, 0, none⟩) 1 1 (be1 ((k : Nat) : Int)) rfl l5 rfl (by simp [be1, be2, Value.oneCell']) (by simp only [maxLen]; omega) (by omega) B25.size ?_; intro v6 w6 own6 hg6; have B6 := B25.grown hg6 B25.size (fun b hb => ownC_low own5 b (by simp [blk, hb]))))
            go_roundw
            case rel => exact ⟨i + k + 1, m1, pn + 2 + 1, pre ++ be2 a ++ be1 ((k : Nat) : Int), by go_num, by omega, by omega, HNX, by omega, HLN, by omega, own6, B6⟩
            case measure => simp [intOf]; omega
        · have n3 : decide ((k : Int) < 255) = false := decide_eq_false (by omega)
          have e1 : IntKind.i64.wrap ((i : Int) + (k : Int)) = (i : Int) + (k : Int) := IntWalk.i64_in _ (by omega)
          have e2 : IntKind.i64.wrap ((i : Int) + (k : Int) + 1) = (i : Int) + (k : Int) + 1 := IntWalk.i64_in _ (by omega)
          have HRK := Lib.hid (show rn = k + 1 by rw [← hrun.out]; exact runF_no (fun h => by have := h.1; omega))
          have HNX := Lib.hid (show (pre ++ be2 a ++ be1 ((k : Nat) : Int)) ++ rgE 1 (cntsF nextP 256 m1 (L.drop (i + k + 1))) (L.drop (i + k + 1)) = putC 1 L by
            have h := HG.out
            rw [HCO.out] at h
            have e : T.drop rn = L.drop (i + k + 1) := by rw [HRK.out, ← HT.out, List.drop_drop, Nat.add_assoc]
            rw [e] at h
            rw [← h]
            show _ = pre ++ (be2 (T.getD 0 0) ++ moreE 1 ((rn - 1 : Nat) : Int) ++ rgE 1 _ (T.drop rn))
            rw [e, HTA.out, HRK.out, Nat.add_sub_cancel]
            simp [moreE, List.append_assoc])
          have HLN := Lib.hid (show (pre ++ be2 a ++ be1 ((k : Nat) : Int)).length = pn + 2 + 1 by simp [be1, be2, HPN.out])
          have hrk := HRK.out
          clear hrun hrk
          go_wp2
          refine wp_region_chain (fun V => Below wq.heap.size wq V) [(0, false), (1, false), (2, false), (3, false), (4, false), (5, false), (6, false), (7, false), (8, false), (9, false), (10, false), (11, false), (12, false), (13, false), (14, false), (15, false), (16, false), (17, false), (18, false), (19, false), (20, false), (21, false), (22, false), (23, false), (24, false), (25, false), (26, false), (27, false), (28, false)] (by kernel_rfl) (by kernel_rfl) (hI) ?_
          repeat (first
            | (refine ChainL.skip (o := ?_) ?_ ?_ ?_; rotate_left; (focus (first | (simp only [List.getElem?_toArray, List.getElem?_cons_succ, List.getElem?_cons_zero]; with_reducible rfl) | (simp only [List.getElem?_toArray, List.getElem?_cons_zero]; with_reducible rfl))); (focus rfl); simp only [Act.put, List.setIfInBounds_toArray, List.set_cons_zero, List.set_cons_succ])
            | (refine ChainL.val (o := ?_) (v := ?_) ?_ ?_ ?_ ?_ ?_; rotate_left 2; (focus (first | (simp only [List.getElem?_toArray, List.getElem?_cons_succ, List.getElem?_cons_zero]; with_reducible rfl) | (simp only [List.getElem?_toArray, List.getElem?_cons_zero]; with_reducible rfl))); (focus (intro _ _ h; cases h)); (focus rfl); (focus (intro w' hI; skip; go_simp <;> with_reducible rfl)); simp only [Act.put, List.setIfInBounds_toArray, List.set_cons_zero, List.set_cons_succ]))
          refine ChainL.nil ?_
          have g0 := (HCI.out _ hI)
          have hl1 : b < wr.drew.heap.size := Nat.lt_of_lt_of_le hbq hI.size
          go_wp2_with (first | (go_at_call 39; ((with_reducible refine (rbC2 a _).mono ?_); rintro e w3 ⟨b3, rfl, l3, B3⟩; have own2 := own_only (own_only hown (Only.of_below hI []) (fun _ _ h => (nomatch h))) (Only.of_below B3 []) (fun _ _ h => (nomatch h)); have B23 := (hb.trans (hI.mono hb.size)).trans (B3.mono (Nat.le_trans hb.size hI.size)))) | (at_builtin; refine wpList_append_src_wide _ rfl (.tmp 51) (.tmp 56) 22 rfl w.heap.size 5 i0 (.int .u8 0) 1 1 Tryd.underlying22 hi hz0 hz1 hz2 rfl (by decide) u5 (pn) (pre) rfl own2 w3.heap.size (some ⟨b3, 0, none⟩) 2 2 (be2 a) rfl l3 rfl (by simp [be1, be2, Value.oneCell']) (by simp only [maxLen]; omega) (by omega) B23.size ?_; intro v4 w4 own4 hg4; have B4 := B23.grown hg4 B23.size (fun b hb => ownC_low own2 b (by simp [blk, hb]))) | (go_at_call 39; ((with_reducible refine (rbC1 ((k : Nat) : Int) _).mono ?_); rintro e w5 ⟨b5, rfl, l5, B5⟩; have own5 := own_only own4 (Only.of_below B5 []) (fun _ _ h => (nomatch h)); have B25 := B4.trans (B5.mono B4.size))) | (at_builtin; refine wpList_append_src_wide _ rfl (.tmp 60) (.tmp 63) 22 rfl w.heap.size 5 i0 (.int .u8 0) 1 1 Tryd.underlying22 hi hz0 hz1 hz2 rfl (by decide) v4 (pn + 2) (pre ++ be2 a) rfl own5 w5.heap.size (some ⟨b5, 0, none⟩) 1 1 (be1 ((k : Nat) : Int)) rfl l5 rfl (by simp [be1, be2, Value.oneCell']) (by simp only [maxLen]; omega) (by omega) B25.size ?_; intro v6 w6 own6 hg6; have B6 := B25.grown hg6 B25.size (fun b hb => ownC_low own5 b (by simp [blk, hb]))))
          go_roundw
          case rel => exact ⟨i + k + 1, m1, pn + 2 + 1, pre ++ be2 a ++ be1 ((k : Nat) : Int), by go_num, by omega, by omega, HNX, by omega, HLN, by omega, own6, B6⟩
          case measure => simp [intOf]; omega
    · have d1 : ¬ (i : Int) < (n : Int) := by omega
      have HEQ := Lib.hid (show pre = putC 1 L by
        have h := HG.out
        rw [List.drop_eq_nil_of_le (by rw [HN.out]; omega), cntsF_nil rfl] at h
        simpa [rgE] using h)
      obtain ⟨A9, c9, rfl, hl9, hc9⟩ := own_lists hown
      have HF := Lib.hid (show RPutC w 1 L (.returned (.slice A9 pn c9)) wq from ⟨A9, c9, by rw [← HEQ.out, HPN.out], by rw [← HEQ.out]; exact Lib.hid hl9, hb⟩)
      clear hl9
      go_wp2
      go_ret
      exact HF.out

end Go.Proofs.YteffijgajhngeaaDoor

namespace Go.Proofs.YteffijgajhngeaaDoor
open Go Go.RowKit
set_option linter.unusedVariables false
set_option linter.unusedSimpArgs false
set_option maxRecDepth 100000 in
set_option maxHeartbeats 4000000 in
theorem rput_2 (A : Option Addr) (c n : Nat) (L : List Int) (w : World) (hE : Lists w w.heap.size A (intCells L)) (hnn : L.length = n) (hn1 : 1 ≤ n) (hn2 : n ≤ 3000) (hall : allB 0 65535 L = true) :
    Calls Tryd.prog 15 #[.slice A n c, .int .i64 2] w (RPutC w 2 L) := by
  obtain ⟨b, o, rfl, hbl, hcl⟩ := hE.plain (by intro e; have h2 := congrArg List.length e; rw [intCells_len, hnn] at h2; simp at h2; omega)
  have HN := Lib.hid hnn
  have HALL := Lib.hid hall
  have HC := Lib.hid hcl
  have HG0 := Lib.hid (show be1 2 ++ rgE 2 (cntsF nextP 65536 (n - 1) (L.drop 1)) (L.drop 1) = putC 2 L by
    unfold putC cnts
    rw [List.drop_one, List.length_tail, hnn]
    rfl)
  clear hE hnn hall hcl
  obtain ⟨i0, hi, hz0, hz1, hz2⟩ := info_parts u8Info
  go_enter Tryd.func15, Tryd.ntmps15
  go_wp2
  go_loopw [5, 7] (fun ov iv wr => ∃ (i m pn : Nat) (pre : List Value), iv = .int .i64 (i : Nat) ∧ 1 ≤ i ∧ i ≤ n ∧ Hid (pre ++ rgE 2 (cntsF nextP 65536 m (L.drop i)) (L.drop i) = putC 2 L) ∧ n ≤ i + m ∧ Hid (pre.length = pn) ∧ pn ≤ 4 * i ∧ wr.ownsRow w.heap.size 5 1 ov pn pre ∧ Below w.heap.size w wr) (fun _ iv _ => n - (intOf iv).toNat)
  case atStart => exact ⟨1, n - 1, 1, be1 2, rfl, Nat.le_refl _, hn1, HG0, by omega, Lib.hid rfl, by omega, own_oneB w 2, (Below.refl _ _).alloc (Nat.le_refl _) _⟩
  case round =>
    obtain ⟨i, m, pn, pre, rfl, hi1, hin, HG, hm, HPN, hpn, hown, hb⟩ := hrel
    obtain ⟨wq, rfl⟩ : ∃ wq, wq = wr := ⟨_, rfl⟩
    have hbs := hb.size
    by_cases hlt : i < n
    · have d1 : (i : Int) < (n : Int) := by omega
      obtain ⟨m1, rfl⟩ : ∃ y, m = y + 1 := ⟨m - 1, by omega⟩
      obtain ⟨T, hT⟩ : ∃ T, L.drop i = T := ⟨_, rfl⟩
      rw [hT] at HG
      have hTL : T.length = n - i := by rw [← hT, List.length_drop, HN.out]
      obtain ⟨a, ha⟩ : ∃ a, L.getD i 0 = a := ⟨_, rfl⟩
      have hab := allB_at HALL.out (j := i) (by rw [HN.out]; exact hlt)
      rw [ha] at hab
      obtain ⟨rn, hrn⟩ : ∃ rn, runN nextP 65536 T = rn := ⟨_, rfl⟩
      have HRN := Lib.hid (show runF nextP 65536 T (n - i) 1 = rn by rw [← hrn, ← hTL]; rfl)
      have HCO := Lib.hid (cntsF_more (P := nextP) (most := 65536) (m := m1) (L := T) (by rw [hTL]; omega))
      rw [hrn] at HCO
      have HT := Lib.hid hT
      have HTL := Lib.hid hTL
      have HTA := Lib.hid (show T.getD 0 0 = a by rw [← hT, getD_dropC]; exact ha)
      have hbq : b < wq.heap.size := Nat.lt_of_lt_of_le hbl hbs
      have HCA := Lib.hid (show ∀ j, j < n → ∀ V, Below wq.heap.size wq V → V.cell? ⟨b, o + j, none⟩ = some (.int .i64 (L.getD j 0)) from fun j hj V hV => (hV.cell (p := ⟨b, o + j, none⟩) hbq).trans ((hb.cell (p := ⟨b, o + j, none⟩) hbl).trans (HC.out j _ (intCells_atD (by rw [HN.out]; exact hj)))))
      have HCI := Lib.hid (show ∀ V, Below wq.heap.size wq V → V.cell? ⟨b, o + i, none⟩ = some (.int .i64 a) from fun V hV => by rw [← ha]; exact HCA.out i hlt V hV)
      have HA0 := Lib.hid (show L.getD (i + 0) 0 = a + ((0 : Nat) : Int) by rw [Nat.add_zero, ha]; simp)
      clear hT hTL ha hrn
      obtain ⟨ha0, ha1⟩ := hab
      go_wp2
      go_loopw [8] (fun kv wi => ∃ k g : Nat, kv = .int .i64 (k : Nat) ∧ i + k + 1 ≤ n ∧ n ≤ i + k + 1 + g ∧ Hid (runF nextP 65536 T g (k + 1) = rn) ∧ Hid (L.getD (i + k) 0 = a + (k : Nat)) ∧ Below wq.heap.size wq wi) (fun kv _ => n - (intOf kv).toNat)
      case atStart => exact ⟨0, n - i, rfl, by omega, by omega, HRN, HA0, Below.refl _ _⟩
      case round =>
        obtain ⟨k, g, rfl, hkn, hkg, hrun, hat, hbi⟩ := hrel
        have hI : Below wq.heap.size wq wr.drew := hbi.drew
        have hiw := hbi.size
        by_cases hc1 : k < 65535
        · have n3 : (k : Int) < 65535 := by omega
          have e1 : IntKind.i64.wrap ((i : Int) + (k : Int)) = (i : Int) + (k : Int) := IntWalk.i64_in _ (by omega)
          have e2 : IntKind.i64.wrap ((i : Int) + (k : Int) + 1) = (i : Int) + (k : Int) + 1 := IntWalk.i64_in _ (by omega)
          by_cases hc2 : i + k + 1 < n
          · have n4 : (i : Int) + (k : Int) + 1 < (n : Int) := by omega
            have n7 : (0 : Int) ≤ (i : Int) + (k : Int) + 1 := by omega
            have n8 : ((i : Int) + (k : Int) + 1).toNat = i + k + 1 := by omega
            have n9 : (i : Int) < (n : Int) := by omega
            have n9b : i < n := by omega
            have e3 : IntKind.i64.wrap (a + (k : Int)) = a + (k : Int) := IntWalk.i64_in _ (by omega)
            have e4 : IntKind.i64.wrap (a + (k : Int) + 1) = a + (k : Int) + 1 := IntWalk.i64_in _ (by omega)
            obtain ⟨g1, rfl⟩ : ∃ y, g = y + 1 := ⟨g - 1, by omega⟩
            obtain ⟨y, hy⟩ : ∃ y, L.getD (i + k + 1) 0 = y := ⟨_, rfl⟩
            have HCL := Lib.hid (show ∀ V, Below wq.heap.size wq V → V.cell? ⟨b, o + (i + k + 1), none⟩ = some (.int .i64 y) ∧ V.cell? ⟨b, o + i, none⟩ = some (.int .i64 a) from fun V hV => ⟨by rw [← hy]; exact HCA.out _ hc2 V hV, HCI.out V hV⟩)
            have hTk : T.getD k 0 = a + (k : Int) := by rw [← HT.out, getD_dropC]; exact hat.out
            have hTk1 : T.getD (k + 1) 0 = y := by rw [← HT.out, getD_dropC]; exact hy
            have hmin : k + 1 < min T.length 65536 := by rw [HTL.out]; omega
            by_cases hc3 : y = a + (k : Int) + 1
            · have hpp : nextP (T.getD k 0) (T.getD (k + 1) 0) = true := by rw [hTk, hTk1, nextP_in (by omega), hc3]; simp
              have HRK := Lib.hid (show runF nextP 65536 T g1 (k + 1 + 1) = rn by rw [← hrun.out]; exact (runF_yes hmin hpp).symm)
              have HAT := Lib.hid (show L.getD (i + (k + 1)) 0 = a + ((k + 1 : Nat) : Int) by rw [← Nat.add_assoc, hy, hc3]; omega)
              have t1 : (y == a + (k : Int) + 1) = true := by simpa using hc3
              clear hpp hTk hTk1 hmin hc3 hy hrun
              go_wp2
              refine wp_region_chain (fun V => Below wq.heap.size wq V) [(0, false), (1, false), (2, false), (3, false), (4, false), (5, false), (6, false), (7, false), (8, false), (9, false), (10, false), (11, false), (12, false), (13, false), (14, false), (15, false), (16, false), (17, false), (18, false), (19, false), (20, false), (21, false), (22, false), (23, false), (24, false), (25, false), (26, false), (27, false), (28, false)] (by kernel_rfl) (by kernel_rfl) (hI) ?_
              repeat (first
                | (refine ChainL.skip (o := ?_) ?_ ?_ ?_; rotate_left; (focus (first | (simp only [List.getElem?_toArray, List.getElem?_cons_succ, List.getElem?_cons_zero]; with_reducible rfl) | (simp only [List.getElem?_toArray, List.getElem?_cons_zero]; with_reducible rfl))); (focus rfl); simp only [Act.put, List.setIfInBounds_toArray, List.set_cons_zero, List.set_cons_succ])
                | (refine ChainL.val (o := ?_) (v := ?_) ?_ ?_ ?_ ?_ ?_; rotate_left 2; (focus (first | (simp only [List.getElem?_toArray, List.getElem?_cons_succ, List.getElem?_cons_zero]; with_reducible rfl) | (simp only [List.getElem?_toArray, List.getElem?_cons_zero]; with_reducible rfl))); (focus (intro _ _ h; cases h)); (focus rfl); (focus (intro w' hI; obtain ⟨y1, y2⟩ := HCL.out _ hI; go_simp <;> with_reducible rfl)); simp only [Act.put, List.setIfInBounds_toArray, List.set_cons_zero, List.set_cons_succ]))
              refine ChainL.nil ?_
              go_wp2
              go_roundw
              case rel => exact ⟨k + 1, g1, by go_num, by omega, by omega, HRK, HAT, hI⟩
              case measure => simp [intOf]; omega
            · have hpp : nextP (T.getD k 0) (T.getD (k + 1) 0) = false := by rw [hTk, hTk1, nextP_in (by omega)]; simpa using hc3
              have HRK := Lib.hid (show rn = k + 1 by rw [← hrun.out]; exact runF_no (fun h => by rw [hpp] at h; cases h.2))
              have t1 : (y == a + (k : Int) + 1) = false := by simpa using hc3
              clear hpp hTk hTk1 hmin hc3 hy
              have HNX := Lib.hid (show (pre ++ be2 a ++ be2 ((k : Nat) : Int)) ++ rgE 2 (cntsF nextP 65536 m1 (L.drop (i + k + 1))) (L.drop (i + k + 1)) = putC 2 L by
                have h := HG.out
                rw [HCO.out] at h
                have e : T.drop rn = L.drop (i + k + 1) := by rw [HRK.out, ← HT.out, List.drop_drop, Nat.add_assoc]
                rw [e] at h
                rw [← h]
                show _ = pre ++ (be2 (T.getD 0 0) ++ moreE 2 ((rn - 1 : Nat) : Int) ++ rgE 2 _ (T.drop rn))
                rw [e, HTA.out, HRK.out, Nat.add_sub_cancel]
                simp [moreE, List.append_assoc])
              have HLN := Lib.hid (show (pre ++ be2 a ++ be2 ((k : Nat) : Int)).length = pn + 2 + 2 by simp [be1, be2, HPN.out])
              have hrk := HRK.out
              clear hrun hrk
              go_wp2
              refine wp_region_chain (fun V => Below wq.heap.size wq V) [(0, false), (1, false), (2, false), (3, false), (4, false), (5, false), (6, false), (7, false), (8, false), (9, false), (10, false), (11, false), (12, false), (13, false), (14, false), (15, false), (16, false), (17, false), (18, false), (19, false), (20, false), (21, false), (22, false), (23, false), (24, false), (25, false), (26, false), (27, false), (28, false)] (by kernel_rfl) (by kernel_rfl) (hI) ?_
              repeat (first
                | (refine ChainL.skip (o := ?_) ?_ ?_ ?_; rotate_left; (focus (first | (simp only [List.getElem?_toArray, List.getElem?_cons_succ, List.getElem?_cons_zero]; with_reducible rfl) | (simp only [List.getElem?_toArray, List.getElem?_cons_zero]; with_reducible rfl))); (focus rfl); simp only [Act.put, List.setIfInBounds_toArray, List.set_cons_zero, List.set_cons_succ])
                | (refine ChainL.val (o := ?_) (v := ?_) ?_ ?_ ?_ ?_ ?_; rotate_left 2; (focus (first | (simp only [List.getElem?_toArray, List.getElem?_cons_succ, List.getElem?_cons_zero]; with_reducible rfl) | (simp only [List.getElem?_toArray, List.getElem?_cons_zero]; with_reducible rfl))); (focus (intro _ _ h; cases h)); (focus rfl); (focus (intro w' hI; obtain ⟨y1, y2⟩ := HCL.out _ hI; go_simp <;> with_reducible rfl)); simp only [Act.put, List.setIfInBounds_toArray, List.set_cons_zero, List.set_cons_succ]))
              refine ChainL.nil ?_
              have g0 := (HCI.out _ hI)
              have hl1 : b < wr.drew.heap.size := Nat.lt_of_lt_of_le hbq hI.size
              go_wp2_with (first | (go_at_call 39; ((with_reducible refine (rbC2 a _).mono ?_); rintro e w3 ⟨b3, rfl, l3, B3⟩; have own2 := own_only (own_only hown (Only.of_below hI []) (fun _ _ h => (nomatch h))) (Only.of_below B3 []) (fun _ _ h => (nomatch h)); have B23 := (hb.trans (hI.mono hb.size)).trans (B3.mono (Nat.le_trans hb.size hI.size)))) | (at_builtin; refine wpList_append_src_wide _ rfl (.tmp 51) (.tmp 56) 22 rfl w.heap.size 5 i0 (.int .u8 0) 1 1 Tryd.underlying22 hi hz0 hz1 hz2 rfl (by decide) u5 (pn) (pre) rfl own2 w3.heap.size (some ⟨b3, 0, none⟩) 2 2 (be2 a) rfl l3 rfl (by simp [be1, be2, Value.oneCell']) (by simp only [maxLen]; omega) (by omega) B23.size ?_; intro v4 w4 own4 hg4; have B4 := B23.grown hg4 B23.size (fun b hb => ownC_low own2 b (by simp [blk, hb]))) | (go_at_call 39; ((with_reducible refine (rbC2 ((k : Nat) : Int) _).mono ?_); rintro e w5 ⟨b5, rfl, l5, B5⟩; have own5 := own_only own4 (Only.of_below B5 []) (fun _ _ h => (nomatch h)); have B25 := B4.trans (B5.mono B4.size))) | (at_builtin; refine wpList_append_src_wide _ rfl (.tmp 60) (.tmp 63) 22 rfl w.heap.size 5 i0 (.int .u8 0) 1 1 Tryd.underlying22 hi hz0 hz1 hz2 rfl (by decide) v4 (pn + 2) (pre ++ be2 a) rfl own5 w5.heap.size (some ⟨b5, 0, none⟩) 2 2 (be2 ((k : Nat) : Int)) rfl l5 rfl (by simp [be1, be2, Value.oneCell']) (by simp only [maxLen]; omega) (by omega) B25.size ?_; intro v6 w6 own6 hg6; have B6 := B25.grown hg6 B25.size (fun b hb => ownC_low own5 b (by simp [blk, hb]))))
              go_roundw
              case rel => exact ⟨i + k + 1, m1, pn + 2 + 2, pre ++ be2 a ++ be2 ((k : Nat) : Int), by go_num, by omega, by omega, HNX, by omega, HLN, by omega, own6, B6⟩
              case measure => simp [intOf]; omega
          · have n4 : decide ((i : Int) + (k : Int) + 1 < (n : Int)) = false := by simp; omega
            have HRK := Lib.hid (show rn = k + 1 by rw [← hrun.out]; exact runF_no (fun h => by have := h.1; rw [HTL.out] at this; omega))
            have HNX := Lib.hid (show (pre ++ be2 a ++ be2 ((k : Nat) : Int)) ++ rgE 2 (cntsF nextP 65536 m1 (L.drop (i + k + 1))) (L.drop (i + k + 1)) = putC 2 L by
              have h := HG.out
              rw [HCO.out] at h
              have e : T.drop rn = L.drop (i + k + 1) := by rw [HRK.out, ← HT.out, List.drop_drop, Nat.add_assoc]
              rw [e] at h
              rw [← h]
              show _ = pre ++ (be2 (T.getD 0 0) ++ moreE 2 ((rn - 1 : Nat) : Int) ++ rgE 2 _ (T.drop rn))
              rw [e, HTA.out, HRK.out, Nat.add_sub_cancel]
              simp [moreE, List.append_assoc])
            have HLN := Lib.hid (show (pre ++ be2 a ++ be2 ((k : Nat) : Int)).length = pn + 2 + 2 by simp [be1, be2, HPN.out])
            have hrk := HRK.out
            clear hrun hrk
            go_wp2
            refine wp_region_chain (fun V => Below wq.heap.size wq V) [(0, false), (1, false), (2, false), (3, false), (4, false), (5, false), (6, false), (7, false), (8, false), (9, false), (10, false), (11, false), (12, false), (13, false), (14, false), (15, false), (16, false), (17, false), (18, false), (19, false), (20, false), (21, false), (22, false), (23, false), (24, false), (25, false), (26, false), (27, false), (28, false)] (by kernel_rfl) (by kernel_rfl) (hI) ?_
            repeat (first
              | (refine ChainL.skip (o := ?_) ?_ ?_ ?_; rotate_left; (focus (first | (simp only [List.getElem?_toArray, List.getElem?_cons_succ, List.getElem?_cons_zero]; with_reducible rfl) | (simp only [List.getElem?_toArray, List.getElem?_cons_zero]; with_reducible rfl))); (focus rfl); simp only [Act.put, List.setIfInBounds_toArray, List.set_cons_zero, List.set_cons_succ])
              | (refine ChainL.val (o := ?_) (v := ?_) ?_ ?_ ?_ ?_ ?_; rotate_left 2; (focus (first | (simp only [List.getElem?_toArray, List.getElem?_cons_succ, List.getElem?_cons_zero]; with_reducible rfl) | (simp only [List.getElem?_toArray, List.getElem?_cons_zero]; with_reducible rfl))); (focus (intro _ _ h; cases h)); (focus rfl); (focus (intro w' hI; skip; go_simp <;> with_reducible rfl)); simp only [Act.put, List.setIfInBounds_toArray, List.set_cons_zero, List.set_cons_succ]))
            refine ChainL.nil ?_
            have g0 := (HCI.out _ hI)
            have hl1 : b < wr.drew.heap.size := Nat.lt_of_lt_of_le hbq hI.size
            go_wp2_with (first | (go_at_call 39; ((with_reducible refine (rbC2 a _).mono ?_); rintro e w3 ⟨b3, rfl, l3, B3⟩; have own2 := own_only (own_only hown (Only.of_below hI []) (fun _ _ h => (nomatch h))) (Only.of_below B3 []) (fun _ _ h => (nomatch h)); have B23 := (hb.trans (hI.mono hb.size)).trans (B3.mono (Nat.le_trans hb.size hI.size)))) | (at_builtin; refine wpList_append_src_wide _ rfl (.tmp 51) (.tmp 56) 22 rfl w.heap.size 5 i0 (.int .u8 0) 1 1 Tryd.underlying22 hi hz0 hz1 hz2 rfl (by decide) u5 (pn) (pre) rfl own2 w3.heap.size (some ⟨b3, 0, none⟩) 2 2 (be2 a) rfl l3 rfl (by simp [be1, be2, Value.oneCell']) (by simp only [maxLen]; omega) (by omega) B23.size ?_; intro v4 w4 own4 hg4; have B4 := B23.grown hg4 B23.size (fun b hb => ownC_low own2 b (by simp [blk, hb]))) | (go_at_call 39; ((with_reducible refine (rbC2 ((k : Nat) : Int) _).mono ?_); rintro e w5 ⟨b5, rfl, l5, B5⟩; have own5 := own_only own4 (Only.of_below B5 []) (fun _ _ h => (nomatch h)); have B25 := B4.trans (B5.mono B4.size))) | (at_builtin; refine wpList_append_src_wide _ rfl (.tmp 60) (.tmp 63) 22 rfl w.heap.size 5 i0 (.int .u8 0) 1 1 Tryd.underlying22 hi hz0 hz1 hz2 rfl (by decide) v4 (pn + 2) (pre ++ be2 a) rfl own5 w5.heap.size (some ⟨b5, 0, none⟩) 2 2 (be2 ((k : Nat) : Int)) rfl l5 rfl (by simp [be1, be2, Value.oneCell']) (by simp only [maxLen]; omega) (by omega) B25.size ?_; intro v6 w6 own6 hg6; have B6 := B25.grown hg6 B25.size (fun b hb => ownC_low own5 b (by simp [blk, hb]))))
            go_roundw
            case rel => exact ⟨i + k + 1, m1, pn + 2 + 2, pre ++ be2 a ++ be2 ((k : Nat) : Int), by go_num, by omega, by omega, HNX, by omega, HLN, by omega, own6, B6⟩
            case measure => simp [intOf]; omega
        · have n3 : decide ((k : Int) < 65535) = false := decide_eq_false (by omega)
          have e1 : IntKind.i64.wrap ((i : Int) + (k : Int)) = (i : Int) + (k : Int) := IntWalk.i64_in _ (by omega)
          have e2 : IntKind.i64.wrap ((i : Int) + (k : Int) + 1) = (i : Int) + (k : Int) + 1 := IntWalk.i64_in _ (by omega)
          have HRK := Lib.hid (show rn = k + 1 by rw [← hrun.out]; exact runF_no (fun h => by have := h.1; omega))
          have HNX := Lib.hid (show (pre ++ be2 a ++ be2 ((k : Nat) : Int)) ++ rgE 2 (cntsF nextP 65536 m1 (L.drop (i + k + 1))) (L.drop (i + k + 1)) = putC 2 L by
            have h := HG.out
            rw [HCO.out] at h
            have e : T.drop rn = L.drop (i + k + 1) := by rw [HRK.out, ← HT.out, List.drop_drop, Nat.add_assoc]
            rw [e] at h
            rw [← h]
            show _ = pre ++ (be2 (T.getD 0 0) ++ moreE 2 ((rn - 1 : Nat) : Int) ++ rgE 2 _ (T.drop rn))
            rw [e, HTA.out, HRK.out, Nat.add_sub_cancel]
            simp [moreE, List.append_assoc])
          have HLN := Lib.hid (show (pre ++ be2 a ++ be2 ((k : Nat) : Int)).length = pn + 2 + 2 by simp [be1, be2, HPN.out])
          have hrk := HRK.out
          clear hrun hrk
          go_wp2
          refine wp_region_chain (fun V => Below wq.heap.size wq V) [(0, false), (1, false), (2, false), (3, false), (4, false), (5, false), (6, false), (7, false), (8, false), (9, false), (10, false), (11, false), (12, false), (13, false), (14, false), (15, false), (16, false), (17, false), (18, false), (19, false), (20, false), (21, false), (22, false), (23, false), (24, false), (25, false), (26, false), (27, false), (28, false)] (by kernel_rfl) (by kernel_rfl) (hI) ?_
          repeat (first
            | (refine ChainL.skip (o := ?_) ?_ ?_ ?_; rotate_left; (focus (first | (simp only [List.getElem?_toArray, List.getElem?_cons_succ, List.getElem?_cons_zero]; with_reducible rfl) | (simp only [List.getElem?_toArray, List.getElem?_cons_zero]; with_reducible rfl))); (focus rfl); simp only [Act.put, List.setIfInBounds_toArray, List.set_cons_zero, List.set_cons_succ])
            | (refine ChainL.val (o := ?_) (v := ?_) ?_ ?_ ?_ ?_ ?_; rotate_left 2; (focus (first | (simp only [List.getElem?_toArray, List.getElem?_cons_succ, List.getElem?_cons_zero]; with_reducible rfl) | (simp only [List.getElem?_toArray, List.getElem?_cons_zero]; with_reducible rfl))); (focus (intro _ _ h; cases h)); (focus rfl); (focus (intro w' hI; skip; go_simp <;> with_reducible rfl)); simp only [Act.put, List.setIfInBounds_toArray, List.set_cons_zero, List.set_cons_succ]))
          refine ChainL.nil ?_
          have g0 := (HCI.out _ hI)
          have hl1 : b < wr.drew.heap.size := Nat.lt_of_lt_of_le hbq hI.size
          go_wp2_with (first | (go_at_call 39; ((with_reducible refine (rbC2 a _).mono ?_); rintro e w3 ⟨b3, rfl, l3, B3⟩; have own2 := own_only (own_only hown (Only.of_below hI []) (fun _ _ h => (nomatch h))) (Only.of_below B3 []) (fun _ _ h => (nomatch h)); have B23 := (hb.trans (hI.mono hb.size)).trans (B3.mono (Nat.le_trans hb.size hI.size)))) | (at_builtin; refine wpList_append_src_wide _ rfl (.tmp 51) (.tmp 56) 22 rfl w.heap.size 5 i0 (.int .u8 0) 1 1 Tryd.underlying22 hi hz0 hz1 hz2 rfl (by decide) u5 (pn) (pre) rfl own2 w3.heap.size (some ⟨b3, 0, none⟩) 2 2 (be2 a) rfl l3 rfl (by simp [be1, be2, Value.oneCell']) (by simp only [maxLen]; omega) (by omega) B23.size ?_; intro v4 w4 own4 hg4; have B4 := B23.grown hg4 B23.size (fun b hb => ownC_low own2 b (by simp [blk, hb]))) | (go_at_call 39; ((with_reducible refine (rbC2 ((k : Nat) : Int) _).mono ?_); rintro e w5 ⟨b5, rfl, l5, B5⟩; have own5 := own_only own4 (Only.of_below B5 []) (fun _ _ h => (nomatch h)); have B25 := B4.trans (B5.mono B4.size))) | (at_builtin; refine wpList_append_src_wide _ rfl (.tmp 60) (.tmp 63) 22 rfl w.heap.size 5 i0 (.int .u8 0) 1 1 Tryd.underlying22 hi hz0 hz1 hz2 rfl (by decide) v4 (pn + 2) (pre ++ be2 a) rfl own5 w5.heap.size (some ⟨b5, 0, none⟩) 2 2 (be2 ((k : Nat) : Int)) rfl l5 rfl (by simp [be1, be2, Value.oneCell']) (by simp only [maxLen]; omega) (by omega) B25.size ?_; intro v6 w6 own6 hg6; have B6 := B25.grown hg6 B25.size (fun b hb => ownC_low own5 b (by simp [blk, hb]))))
          go_roundw
          case rel => exact ⟨i + k + 1, m1, pn + 2 + 2, pre ++ be2 a ++ be2 ((k : Nat) : Int), by go_num, by omega, by omega, HNX, by omega, HLN, by omega, own6, B6⟩
          case measure => simp [intOf]; omega
    · have d1 : ¬ (i : Int) < (n : Int) := by omega
      have HEQ := Lib.hid (show pre = putC 2 L by
        have h := HG.out
        rw [List.drop_eq_nil_of_le (by rw [HN.out]; omega), cntsF_nil rfl] at h
        simpa [rgE] using h)
      obtain ⟨A9, c9, rfl, hl9, hc9⟩ := own_lists hown
      have HF := Lib.hid (show RPutC w 2 L (.returned (.slice A9 pn c9)) wq from ⟨A9, c9, by rw [← HEQ.out, HPN.out], by rw [← HEQ.out]; exact Lib.hid hl9, hb⟩)
      clear hl9
      go_wp2
      go_ret
      exact HF.out

end Go.Proofs.YteffijgajhngeaaDoor

namespace Go.Proofs.YteffijgajhngeaaDoor
open Go Go.RowKit
set_option linter.unusedVariables false
set_option linter.unusedSimpArgs false

theorem rputC_any (A : Option Addr) (c f : Nat) (L : List Int) (w : World) (hE : Lists w w.heap.size A (intCells L)) (hn2 : L.length ≤ 3000) (hmay : mayC L (f : Nat) = true) :
    Calls Tryd.prog 15 #[.slice A L.length c, .int .i64 (f : Nat)] w (RPutC w f L) := by
  unfold mayC at hmay
  simp only [Bool.and_eq_true] at hmay
  obtain ⟨⟨⟨h1, _⟩, hall⟩, hf⟩ := hmay
  have h1 := inB_true h1
  have hf := inB_true hf
  match f, (show f ≤ 2 by omega) with
  | 0, _ => exact rput_0 A c L.length L w hE rfl (by omega) hn2 hall
  | 1, _ => exact rput_1 A c L.length L w hE rfl (by omega) hn2 hall
  | 2, _ => exact rput_2 A c L.length L w hE rfl (by omega) hn2 hall
theorem rgE_bytes (f : Nat) : ∀ (cs : List Nat) (L : List Int), Bytes8 (rgE f cs L)
  | [], _ => fun _ h => (nomatch h)
  | n :: cs, L => by
    refine ((be2_bytes _).append ?_).append (rgE_bytes f cs _)
    unfold moreE
    split
    · exact be1_bytes _
    · exact be2_bytes _
    · exact fun _ h => (nomatch h)
theorem putC_bytes (f : Nat) (L : List Int) : Bytes8 (putC f L) := (be1_bytes _).append (rgE_bytes f _ _)
theorem putC_le (f : Nat) (hf : f ≤ 2) (L : List Int) : (putC f L).length ≤ 1 + 4 * L.length := by
  have h1 := cntsF_len (P := nextP) (most := mostC f) (mostC_pos f) L.tail.length L.tail
  have h2 := rgE_len f hf (cnts nextP (mostC f) L.tail) L.tail
  have h3 : (2 + f) * (cnts nextP (mostC f) L.tail).length ≤ 4 * L.length := Nat.mul_le_mul (by omega) (Nat.le_trans h1 (by simp))
  unfold putC
  rw [List.length_append, h2]
  simp only [be1, List.length_cons, List.length_nil]
  omega
theorem own_newI (w : World) : (w.alloc (.cells #[] 3)).ownsRow w.heap.size 3 1 (.slice (some ⟨w.heap.size, 0, none⟩) 0 0) 0 [] := ⟨rfl, .inr ⟨w.heap.size, 0, #[], rfl, Nat.le_refl _, heap_alloc_new w _, Nat.le_refl _, Nat.zero_le _, rfl, rfl⟩⟩
theorem intCells_oneC (L : List Int) : ∀ u ∈ intCells L, u.oneCell' = true := fun u hu => by
  unfold intCells at hu
  obtain ⟨x, _, rfl⟩ := List.mem_map.1 hu
  rfl
end Go.Proofs.YteffijgajhngeaaDoor

namespace Go.Proofs.YteffijgajhngeaaDoor
open Go Go.RowKit
set_option linter.unusedVariables false
set_option linter.unusedSimpArgs false

theorem rpselC_any (A : Option Addr) (c f : Nat) (L : List Int) (kf : Int) (w : World) (hE : Lists w w.heap.size A (intCells L)) (hn2 : L.length ≤ 3000) (hmay : mayS L kf (f : Nat) = true) :
    Calls Tryd.prog 20 #[.slice A L.length c, .int .i64 (f : Nat)] w (RPutS w f L) := by
  unfold mayS at hmay
  simp only [Bool.and_eq_true, Bool.or_eq_true, beq_iff_eq] at hmay
  obtain ⟨⟨⟨h1, _⟩, _⟩, hf⟩ := hmay
  have h1 := inB_true h1
  rcases (show f = 0 ∨ f = 3 by omega) with rfl | rfl
  · exact rpsel_0 A c L.length L w hE rfl (by omega) hn2
  · exact rpsel_3 A c L.length L w hE rfl (by omega) hn2
theorem flat1_bytes (L : List Int) : Bytes8 (L.flatMap be1) := fun u hu => by
  obtain ⟨x, _, h⟩ := List.mem_flatMap.1 hu
  exact be1_bytes x u h
theorem rsE_bytes : ∀ (cs : List Nat) (f : Nat) (L : List Int), Bytes8 (rsE cs f L)
  | [], _, _ => fun _ h => (nomatch h)
  | _ :: cs, _, L => ((be2_bytes _).append (be1_bytes _)).append (rsE_bytes cs _ L)
theorem putS_bytes (L : List Int) (f : Nat) : Bytes8 (putS L f) := by
  unfold putS
  split
  · exact (be1_bytes _).append (flat1_bytes L)
  · exact (be1_bytes _).append ((be2_bytes _).append ((rsE_bytes _ _ L).append (be2_bytes _)))
theorem putS_le (L : List Int) (f : Nat) (h1 : 1 ≤ L.length) : (putS L f).length ≤ 5 + 3 * L.length := by
  have h := cntsF_len (P := sameP) (most := L.length) h1 L.length L
  unfold putS
  split
  · rw [List.length_append, flat1_len]; simp only [be1, List.length_cons, List.length_nil]; omega
  · unfold rgsE cnts
    simp only [List.length_append, rsE_lenC, be1, be2, List.length_cons, List.length_nil]
    omega
end Go.Proofs.YteffijgajhngeaaDoor
