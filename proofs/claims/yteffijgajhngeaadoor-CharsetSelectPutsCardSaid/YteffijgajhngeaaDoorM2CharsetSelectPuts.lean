/- Part 13 of the proof: ChSe, ChX0. -/
import Derived.Test.YteffijgajhngeaaDoorM1CharsetSelectPuts

namespace Go.Proofs.YteffijgajhngeaaDoor
open Go Go.RowKit
set_option linter.unusedVariables false
set_option linter.unusedSimpArgs false
set_option maxRecDepth 100000 in
set_option maxHeartbeats 4000000 in
theorem rpsel_3 (A : Option Addr) (c n : Nat) (L : List Int) (w : World) (hE : Lists w w.heap.size A (intCells L)) (hnn : L.length = n) (hn1 : 1 ≤ n) (hn2 : n ≤ 3000) :
    Calls Tryd.prog 20 #[.slice A n c, .int .i64 3] w (RPutS w 3 L) := by
  obtain ⟨b, o, rfl, hbl, hcl⟩ := hE.plain (by intro e; have h2 := congrArg List.length e; rw [intCells_len, hnn] at h2; simp at h2; omega)
  have HN := Lib.hid hnn
  have HC := Lib.hid (show ∀ j, j < n → ∀ V, Below w.heap.size w V → V.cell? ⟨b, o + j, none⟩ = some (.int .i64 (L.getD j 0)) from fun j hj V hV => (hV.cell (p := ⟨b, o + j, none⟩) hbl).trans (hcl j _ (intCells_atD (by rw [hnn]; exact hj))))
  clear hE hnn hcl
  obtain ⟨i0, hi, hz0, hz1, hz2⟩ := info_parts u8Info
  have HR0 := Lib.hid (show [] ++ rsE (cntsF sameP n n (L.drop 0)) 0 L = rsE (cnts sameP n L) 0 L by rw [List.nil_append, List.drop_zero]; unfold cnts; rw [HN.out])
  have HQ0 := Lib.hid (show 0 + (cntsF sameP n n (L.drop 0)).length = (cnts sameP n L).length by rw [List.drop_zero, Nat.zero_add]; unfold cnts; rw [HN.out])
  have HPS := Lib.hid (show putS L 3 = be1 3 ++ (be2 (((cnts sameP n L).length : Nat) : Int) ++ (rsE (cnts sameP n L) 0 L ++ be2 (n : Nat))) by unfold putS rgsE; rw [if_neg (by decide), HN.out])
  generalize rsE (cnts sameP n L) 0 L = RS at *
  generalize (cnts sameP n L).length = CT at *
  go_enter Tryd.func20, Tryd.ntmps20
  go_wp2
  have own0 := own_oneB w 3
  have BW0 : Below w.heap.size w (w.alloc (.cells #[.int .u8 3] 5)) := (Below.refl _ _).alloc (Nat.le_refl _) _
  have hw0 : w.heap.size < (w.alloc (.cells #[.int .u8 3] 5)).heap.size := by simp
  generalize w.alloc (.cells #[.int .u8 3] 5) = w0 at *
  go_loopw [7, 8, 9] (fun rv nv iv wr => ∃ (i s m q pn : Nat) (pre : List Value), iv = .int .i64 (i : Nat) ∧ nv = .int .i64 (q : Nat) ∧ i ≤ s ∧ s ≤ n ∧ n ≤ s + m ∧ Hid (pre ++ rsE (cntsF sameP n m (L.drop s)) s L = RS) ∧ Hid (q + (cntsF sameP n m (L.drop s)).length = CT) ∧ Hid (∀ j, i ≤ j → j < s → 0 < j ∧ L.getD j 0 = L.getD (j - 1) 0) ∧ Hid (s < n → s = 0 ∨ L.getD s 0 ≠ L.getD (s - 1) 0) ∧ Hid (pre.length = pn ∧ Bytes8 pre ∧ q ≤ i) ∧ pn ≤ 3 * i ∧ wr.ownsRow w0.heap.size 5 1 rv pn pre ∧ Below w0.heap.size w0 wr) (fun _ _ iv _ => n - (intOf iv).toNat)
  case atStart => exact ⟨0, 0, n, 0, 0, [], rfl, rfl, Nat.le_refl _, Nat.zero_le _, by omega, HR0, HQ0, Lib.hid (fun j _ h => by omega), Lib.hid (fun _ => .inl rfl), Lib.hid ⟨rfl, (fun _ h => nomatch h), Nat.le_refl _⟩, by omega, World.ownsRow_nil _ _ _ _, Below.refl _ _⟩
  case round =>
    obtain ⟨i, s, m, q, pn, pre, rfl, rfl, his, hsn, hsm, HG, HQ, HF, HX, HP, hpn, hown, hb⟩ := hrel
    have hq := HP.out.2.2
    have HPN := Lib.hid HP.out.1
    have H8P := Lib.hid HP.out.2.1
    by_cases hlt : i < n
    · have d1 : (i : Int) < (n : Int) := by omega
      obtain ⟨a, ha⟩ : ∃ a, L.getD i 0 = a := ⟨_, rfl⟩
      have HCI := Lib.hid (show ∀ V, Below w0.heap.size w0 V → V.cell? ⟨b, o + i, none⟩ = some (.int .i64 a) from fun V hV => by rw [← ha]; exact HC.out i hlt V (BW0.trans (hV.mono BW0.size)))
      have n3 : i < n := hlt
      by_cases hs : i < s
      · obtain ⟨h0, he⟩ := HF.out i (Nat.le_refl _) hs
        obtain ⟨p, hp⟩ : ∃ p, p = i - 1 := ⟨_, rfl⟩
        have HCL := Lib.hid (show ∀ V, Below w0.heap.size w0 V → V.cell? ⟨b, o + i, none⟩ = some (.int .i64 a) ∧ V.cell? ⟨b, o + p, none⟩ = some (.int .i64 a) from fun V hV => ⟨HCI.out V hV, by rw [← ha, he, ← hp]; exact HC.out p (by omega) V (BW0.trans (hV.mono BW0.size))⟩)
        have e0 : ((i : Int) == 0) = false := by simp; omega
        have e1 : IntKind.i64.wrap ((i : Int) - 1) = (p : Int) := (IntWalk.i64_in _ (by omega)).trans (by omega)
        have n9 : (p : Int) < (n : Int) := by omega
        have n10 : p < n := by omega
        clear ha he h0 hp
        skip
        have hI : Below w0.heap.size w0 wr.drew := hb.drew
        go_wp2
        refine wp_region_chain (fun V => Below w0.heap.size w0 V) [(0, false), (1, false), (2, false), (3, false), (4, false), (5, false), (6, false), (7, false), (8, false), (9, false), (10, false), (11, false), (12, false), (13, false)] (by kernel_rfl) (by kernel_rfl) (hI) ?_
        repeat (first
          | (refine ChainL.skip (o := ?_) ?_ ?_ ?_; rotate_left; (focus (first | (simp only [List.getElem?_toArray, List.getElem?_cons_succ, List.getElem?_cons_zero]; with_reducible rfl) | (simp only [List.getElem?_toArray, List.getElem?_cons_zero]; with_reducible rfl))); (focus rfl); simp only [Act.put, List.setIfInBounds_toArray, List.set_cons_zero, List.set_cons_succ])
          | (refine ChainL.val (o := ?_) (v := ?_) ?_ ?_ ?_ ?_ ?_; rotate_left 2; (focus (first | (simp only [List.getElem?_toArray, List.getElem?_cons_succ, List.getElem?_cons_zero]; with_reducible rfl) | (simp only [List.getElem?_toArray, List.getElem?_cons_zero]; with_reducible rfl))); (focus (intro _ _ h; cases h)); (focus rfl); (focus (intro w' hI; obtain ⟨y1, y2⟩ := HCL.out _ hI; go_simp <;> with_reducible rfl)); simp only [Act.put, List.setIfInBounds_toArray, List.set_cons_zero, List.set_cons_succ]))
        refine ChainL.nil ?_
        go_wp2
        go_roundw
        case rel => exact ⟨i + 1, s, m, q, pn, pre, by first | rfl | go_num, rfl, by omega, hsn, hsm, HG, HQ, Lib.hid (fun j h1 h2 => HF.out j (by omega) h2), HX, Lib.hid ⟨HPN.out, H8P.out, by omega⟩, by omega, own_only hown (Only.of_below (Below.refl _ _).drew []) (fun _ _ h => (nomatch h)), hI⟩
        case measure => simp [intOf]; omega
      · obtain rfl : i = s := by omega
        obtain ⟨m1, rfl⟩ : ∃ y, m = y + 1 := ⟨m - 1, by omega⟩
        obtain ⟨r, hr⟩ : ∃ r, runN sameP n (L.drop i) = r := ⟨_, rfl⟩
        obtain ⟨hf1, hf2⟩ := run_next L i r n HN.out hlt hr
        obtain ⟨_, hr1, hr2⟩ := take_run L i r n (by rw [HN.out]; exact hlt) (by omega) hr
        rw [HN.out] at hr2
        have hco := cntsF_more (P := sameP) (most := n) (m := m1) (L := L.drop i) (by rw [List.length_drop, HN.out]; omega)
        rw [hr, List.drop_drop] at hco
        have HF1 := Lib.hid hf1
        have HF2 := Lib.hid hf2
        have HNX := Lib.hid (show pre ++ be2 (i : Nat) ++ [Value.int .u8 (a % 256)] ++ rsE (cntsF sameP n m1 (L.drop (i + r))) (i + r) L = RS by
          have h := HG.out
          rw [hco] at h
          rw [← h, ← ha]
          simp [rsE, be1, List.append_assoc])
        have HQ2 := Lib.hid (show q + 1 + (cntsF sameP n m1 (L.drop (i + r))).length = CT by have h := HQ.out; rw [hco, List.length_cons] at h; omega)
        have HPN2 := Lib.hid (show (pre ++ be2 (i : Nat) ++ [Value.int .u8 (a % 256)]).length = pn + 3 ∧ Bytes8 (pre ++ be2 (i : Nat) ++ [Value.int .u8 (a % 256)]) ∧ q + 1 ≤ i + 1 from ⟨by simp [be2, HPN.out], (H8P.out.append (be2_bytes _)).append (be1_bytes a), by omega⟩)
        clear hr hf1 hf2 hco
        by_cases h0 : i < 1
        · have HCL := Lib.hid (show ∀ V, Below w0.heap.size w0 V → V.cell? ⟨b, o + i, none⟩ = some (.int .i64 a) ∧ True from fun V hV => ⟨HCI.out V hV, trivial⟩)
          have e0 : ((i : Int) == 0) = true := by simp; omega
          clear ha
          skip
          have hI : Below w0.heap.size w0 wr.drew := hb.drew
          go_wp2
          refine wp_region_chain (fun V => Below w0.heap.size w0 V) [(0, false), (1, false), (2, false), (3, false), (4, false), (5, false), (6, false), (7, false), (8, false), (9, false), (10, false), (11, false), (12, false), (13, false)] (by kernel_rfl) (by kernel_rfl) (hI) ?_
          repeat (first
            | (refine ChainL.skip (o := ?_) ?_ ?_ ?_; rotate_left; (focus (first | (simp only [List.getElem?_toArray, List.getElem?_cons_succ, List.getElem?_cons_zero]; with_reducible rfl) | (simp only [List.getElem?_toArray, List.getElem?_cons_zero]; with_reducible rfl))); (focus rfl); simp only [Act.put, List.setIfInBounds_toArray, List.set_cons_zero, List.set_cons_succ])
            | (refine ChainL.val (o := ?_) (v := ?_) ?_ ?_ ?_ ?_ ?_; rotate_left 2; (focus (first | (simp only [List.getElem?_toArray, List.getElem?_cons_succ, List.getElem?_cons_zero]; with_reducible rfl) | (simp only [List.getElem?_toArray, List.getElem?_cons_zero]; with_reducible rfl))); (focus (intro _ _ h; cases h)); (focus rfl); (focus (intro w' hI; obtain ⟨y1, y2⟩ := HCL.out _ hI; go_simp <;> with_reducible rfl)); simp only [Act.put, List.setIfInBounds_toArray, List.set_cons_zero, List.set_cons_succ]))
          refine ChainL.nil ?_
          go_wp2
          have hI2 : Below w0.heap.size w0 wr.drew.drew := hI.drew
          have hww : wr.heap.size ≤ wr.drew.drew.heap.size := by simp
          have ow7 := own_only hown (Only.of_below (Below.refl _ _).drew.drew []) (fun _ _ h => (nomatch h))
          have hlt7 := own_ltC hown
          refine wp_region_tree (fun V => Below w0.heap.size w0 V) [0, 1, 4, 5, 6, 7, 8] (.two 2 9 (.two 3 9 (.one 9 (.one 10 .leaf)) (.one 3 (.one 10 .leaf))) (.one 2 (.one 3 (.one 10 .leaf)))) [11] (by kernel_rfl) (by kernel_rfl) hI2 ?_
          repeat (first
            | (refine ChainL.skip (o := ?_) ?_ ?_ ?_; rotate_left; (focus (first | (simp only [List.getElem?_toArray, List.getElem?_cons_succ, List.getElem?_cons_zero]; with_reducible rfl) | (simp only [List.getElem?_toArray, List.getElem?_cons_zero]; with_reducible rfl))); (focus rfl); simp only [Act.put, List.setIfInBounds_toArray, List.set_cons_zero, List.set_cons_succ])
            | (refine ChainL.val (o := ?_) (v := ?_) ?_ ?_ ?_ ?_ ?_; rotate_left 2; (focus (first | (simp only [List.getElem?_toArray, List.getElem?_cons_succ, List.getElem?_cons_zero]; with_reducible rfl) | (simp only [List.getElem?_toArray, List.getElem?_cons_zero]; with_reducible rfl))); (focus (intro _ _ h; cases h)); (focus rfl); (focus (intro w' hJ; have y1 := HCI.out _ hJ; go_simp <;> with_reducible rfl)); simp only [Act.put, List.setIfInBounds_toArray, List.set_cons_zero, List.set_cons_succ]))
          refine ChainL.nil ?_
          refine And.intro ?_ ?_
          · refine ChainL.call (o := ?_) (f := ?_) (args := ?_) ?_ ?_ ?_ ?_
            rotate_left 3
            (focus (simp only [List.getElem?_toArray, List.getElem?_cons_succ, List.getElem?_cons_zero]; with_reducible rfl))
            (focus rfl)
            (focus (go_simp; (constructor <;> with_reducible rfl)))
            refine (rbC2 (i : Nat) _).mono ?_
            rintro e w3 ⟨b3, rfl, l3, B3⟩
            have owC := own_only ow7 (Only.of_below B3 []) (fun _ _ h => (nomatch h))
            have BC := hI2.trans (B3.mono hI2.size)
            have hwC := Nat.le_trans hww B3.size
            skip
            refine ⟨_, rfl, BC, ?_⟩
            simp only [Act.put, List.setIfInBounds_toArray, List.set_cons_zero, List.set_cons_succ]
            refine ChainL.nil ?_
            refine And.intro ?_ ?_
            · refine ChainL.appendW (o := ?_) ?_ ?_ (.tmp 50) (.tmp 52) 22 ?_ w0.heap.size 5 i0 (.int .u8 0) 1 1 Tryd.underlying22 hi hz0 hz1 hz2 rfl (by decide) u7 (pn) (pre) ?_ owC _ (some ⟨b3, 0, none⟩) 2 2 (be2 (i : Nat)) ?_ l3 (by simp [be1, be2]) (by simp [be1, be2, Value.oneCell']) (by simp only [maxLen]; omega) (by omega) BC.size ?_
              rotate_left
              (focus (simp only [List.getElem?_toArray, List.getElem?_cons_succ, List.getElem?_cons_zero]; with_reducible rfl))
              (focus rfl)
              (focus rfl)
              (focus rfl)
              (focus rfl)
              intro v4 w4 owP hg4
              have BP := BC.grown hg4 BC.size (fun b hb => ownC_low owC b (by simp [blk, hb]))
              have hwP : wr.heap.size ≤ w4.heap.size := Nat.le_trans hwC ((Only.refl w3 (blk u7)).grown hg4 (fun b hb => .inl (by have hb' : u7.ownBlock = some b := hb; simp [blk, hb']))).size
              skip
              refine ⟨BP, ?_⟩
              simp only [Act.put, List.setIfInBounds_toArray, List.set_cons_zero, List.set_cons_succ]
              refine ChainL.nil ?_
              refine ChainL.does (o := ?_) (v := ?_) (w1 := ?_) ?_ ?_ ?_ ?_ ?_
              rotate_left 3
              (focus (simp only [List.getElem?_toArray, List.getElem?_cons_succ, List.getElem?_cons_zero]; with_reducible rfl))
              (focus rfl)
              (focus (go_simp; (constructor <;> with_reducible rfl)))
              exact BP.alloc BP.size _
              simp only [Act.put, List.setIfInBounds_toArray, List.set_cons_zero, List.set_cons_succ]
              refine ChainL.nil ?_
              have oS := own_oneB w4 (a % 256)
              have hqS : ∀ b ∈ blk (Value.slice (some ⟨w4.heap.size, 0, none⟩) 1 1), b ∉ blk u7 := fun b hb hm => by
                have h1 := hlt7 b hm
                have h2 := hwP
                simp [blk, Value.ownBlock] at hb
                omega
              have owS := own_only owP ((Only.refl w4 []).alloc (.cells #[Value.int .u8 (a % 256)] 5)) (fun _ _ h => (nomatch h))
              have BS := BP.alloc BP.size (.cells #[Value.int .u8 (a % 256)] 5)
              have hwS : wr.heap.size ≤ (w4.alloc (.cells #[Value.int .u8 (a % 256)] 5)).heap.size := Nat.le_trans hwP (by simp)
              obtain ⟨AS, cS, eS, lS, _⟩ := own_lists oS
              have eA : AS = some ⟨w4.heap.size, 0, none⟩ := by injection eS with e1 _ _; exact e1.symm
              clear eS
              subst eA
              refine ChainL.appendW (o := ?_) ?_ ?_ (.tmp 53) (.tmp 59) 22 ?_ w0.heap.size 5 i0 (.int .u8 0) 1 1 Tryd.underlying22 hi hz0 hz1 hz2 rfl (by decide) v4 (pn + 2) (pre ++ be2 (i : Nat)) ?_ owS _ (some ⟨w4.heap.size, 0, none⟩) 1 1 ([Value.int .u8 (a % 256)]) ?_ lS (by simp [be1, be2]) (by simp [be1, be2, Value.oneCell']) (by simp only [maxLen]; omega) (by omega) BS.size ?_
              rotate_left
              (focus (simp only [List.getElem?_toArray, List.getElem?_cons_succ, List.getElem?_cons_zero]; with_reducible rfl))
              (focus rfl)
              (focus rfl)
              (focus rfl)
              (focus rfl)
              intro v6 w6 own6 hg6
              have B6 := BS.grown hg6 BS.size (fun b hb => ownC_low owS b (by simp [blk, hb]))
              refine ⟨B6, ?_⟩
              simp only [Act.put, List.setIfInBounds_toArray, List.set_cons_zero, List.set_cons_succ]
              refine ChainL.nil ?_
              repeat (first
                | (refine ChainL.skip (o := ?_) ?_ ?_ ?_; rotate_left; (focus (first | (simp only [List.getElem?_toArray, List.getElem?_cons_succ, List.getElem?_cons_zero]; with_reducible rfl) | (simp only [List.getElem?_toArray, List.getElem?_cons_zero]; with_reducible rfl))); (focus rfl); simp only [Act.put, List.setIfInBounds_toArray, List.set_cons_zero, List.set_cons_succ])
                | (refine ChainL.val (o := ?_) (v := ?_) ?_ ?_ ?_ ?_ ?_; rotate_left 2; (focus (first | (simp only [List.getElem?_toArray, List.getElem?_cons_succ, List.getElem?_cons_zero]; with_reducible rfl) | (simp only [List.getElem?_toArray, List.getElem?_cons_zero]; with_reducible rfl))); (focus (intro _ _ h; cases h)); (focus rfl); (focus (intro w' hJ; skip; go_simp <;> with_reducible rfl)); simp only [Act.put, List.setIfInBounds_toArray, List.set_cons_zero, List.set_cons_succ]))
              refine ChainL.nil ?_
              go_wp2
              go_roundw
              case rel => exact ⟨i + 1, i + r, m1, q + 1, pn + 3, pre ++ be2 (i : Nat) ++ [Value.int .u8 (a % 256)], by first | rfl | go_num, by first | rfl | go_num, by omega, by omega, by omega, HNX, HQ2, HF1, HF2, HPN2, by omega, own6, B6⟩
              case measure => simp [intOf]; omega
            · refine ChainL.does (o := ?_) (v := ?_) (w1 := ?_) ?_ ?_ ?_ ?_ ?_
              rotate_left 3
              (focus (simp only [List.getElem?_toArray, List.getElem?_cons_succ, List.getElem?_cons_zero]; with_reducible rfl))
              (focus rfl)
              (focus (go_simp; (constructor <;> with_reducible rfl)))
              exact BC.alloc BC.size _
              simp only [Act.put, List.setIfInBounds_toArray, List.set_cons_zero, List.set_cons_succ]
              refine ChainL.nil ?_
              have oS := own_oneB w3 (a % 256)
              have hqS : ∀ b ∈ blk (Value.slice (some ⟨w3.heap.size, 0, none⟩) 1 1), b ∉ blk u7 := fun b hb hm => by
                have h1 := hlt7 b hm
                have h2 := hwC
                simp [blk, Value.ownBlock] at hb
                omega
              have owS := own_only owC ((Only.refl w3 []).alloc (.cells #[Value.int .u8 (a % 256)] 5)) (fun _ _ h => (nomatch h))
              have BS := BC.alloc BC.size (.cells #[Value.int .u8 (a % 256)] 5)
              have hwS : wr.heap.size ≤ (w3.alloc (.cells #[Value.int .u8 (a % 256)] 5)).heap.size := Nat.le_trans hwC (by simp)
              refine ChainL.appendW (o := ?_) ?_ ?_ (.tmp 50) (.tmp 52) 22 ?_ w0.heap.size 5 i0 (.int .u8 0) 1 1 Tryd.underlying22 hi hz0 hz1 hz2 rfl (by decide) u7 (pn) (pre) ?_ owS _ (some ⟨b3, 0, none⟩) 2 2 (be2 (i : Nat)) ?_ (l3.alloc (Nat.le_refl _) _) (by simp [be1, be2]) (by simp [be1, be2, Value.oneCell']) (by simp only [maxLen]; omega) (by omega) BS.size ?_
              rotate_left
              (focus (simp only [List.getElem?_toArray, List.getElem?_cons_succ, List.getElem?_cons_zero]; with_reducible rfl))
              (focus rfl)
              (focus rfl)
              (focus rfl)
              (focus rfl)
              intro v4 w4 owP hg4
              have BP := BS.grown hg4 BS.size (fun b hb => ownC_low owS b (by simp [blk, hb]))
              have hwP : wr.heap.size ≤ w4.heap.size := Nat.le_trans hwS ((Only.refl (w3.alloc (.cells #[Value.int .u8 (a % 256)] 5)) (blk u7)).grown hg4 (fun b hb => .inl (by have hb' : u7.ownBlock = some b := hb; simp [blk, hb']))).size
              have oSP := own_only oS ((Only.refl (w3.alloc (.cells #[Value.int .u8 (a % 256)] 5)) (blk u7)).grown hg4 (fun b hb => .inl (by have hb' : u7.ownBlock = some b := hb; simp [blk, hb']))) hqS
              refine ⟨BP, ?_⟩
              simp only [Act.put, List.setIfInBounds_toArray, List.set_cons_zero, List.set_cons_succ]
              refine ChainL.nil ?_
              obtain ⟨AS, cS, eS, lS, _⟩ := own_lists oSP
              have eA : AS = some ⟨w3.heap.size, 0, none⟩ := by injection eS with e1 _ _; exact e1.symm
              clear eS
              subst eA
              refine ChainL.appendW (o := ?_) ?_ ?_ (.tmp 53) (.tmp 59) 22 ?_ w0.heap.size 5 i0 (.int .u8 0) 1 1 Tryd.underlying22 hi hz0 hz1 hz2 rfl (by decide) v4 (pn + 2) (pre ++ be2 (i : Nat)) ?_ owP _ (some ⟨w3.heap.size, 0, none⟩) 1 1 ([Value.int .u8 (a % 256)]) ?_ lS (by simp [be1, be2]) (by simp [be1, be2, Value.oneCell']) (by simp only [maxLen]; omega) (by omega) BP.size ?_
              rotate_left
              (focus (simp only [List.getElem?_toArray, List.getElem?_cons_succ, List.getElem?_cons_zero]; with_reducible rfl))
              (focus rfl)
              (focus rfl)
              (focus rfl)
              (focus rfl)
              intro v6 w6 own6 hg6
              have B6 := BP.grown hg6 BP.size (fun b hb => ownC_low owP b (by simp [blk, hb]))
              refine ⟨B6, ?_⟩
              simp only [Act.put, List.setIfInBounds_toArray, List.set_cons_zero, List.set_cons_succ]
              refine ChainL.nil ?_
              repeat (first
                | (refine ChainL.skip (o := ?_) ?_ ?_ ?_; rotate_left; (focus (first | (simp only [List.getElem?_toArray, List.getElem?_cons_succ, List.getElem?_cons_zero]; with_reducible rfl) | (simp only [List.getElem?_toArray, List.getElem?_cons_zero]; with_reducible rfl))); (focus rfl); simp only [Act.put, List.setIfInBounds_toArray, List.set_cons_zero, List.set_cons_succ])
                | (refine ChainL.val (o := ?_) (v := ?_) ?_ ?_ ?_ ?_ ?_; rotate_left 2; (focus (first | (simp only [List.getElem?_toArray, List.getElem?_cons_succ, List.getElem?_cons_zero]; with_reducible rfl) | (simp only [List.getElem?_toArray, List.getElem?_cons_zero]; with_reducible rfl))); (focus (intro _ _ h; cases h)); (focus rfl); (focus (intro w' hJ; skip; go_simp <;> with_reducible rfl)); simp only [Act.put, List.setIfInBounds_toArray, List.set_cons_zero, List.set_cons_succ]))
              refine ChainL.nil ?_
              go_wp2
              go_roundw
              case rel => exact ⟨i + 1, i + r, m1, q + 1, pn + 3, pre ++ be2 (i : Nat) ++ [Value.int .u8 (a % 256)], by first | rfl | go_num, by first | rfl | go_num, by omega, by omega, by omega, HNX, HQ2, HF1, HF2, HPN2, by omega, own6, B6⟩
              case measure => simp [intOf]; omega
          · refine ChainL.does (o := ?_) (v := ?_) (w1 := ?_) ?_ ?_ ?_ ?_ ?_
            rotate_left 3
            (focus (simp only [List.getElem?_toArray, List.getElem?_cons_succ, List.getElem?_cons_zero]; with_reducible rfl))
            (focus rfl)
            (focus (go_simp; (constructor <;> with_reducible rfl)))
            exact hI2.alloc hI2.size _
            simp only [Act.put, List.setIfInBounds_toArray, List.set_cons_zero, List.set_cons_succ]
            refine ChainL.nil ?_
            have oS := own_oneB wr.drew.drew (a % 256)
            have hqS : ∀ b ∈ blk (Value.slice (some ⟨wr.drew.drew.heap.size, 0, none⟩) 1 1), b ∉ blk u7 := fun b hb hm => by
              have h1 := hlt7 b hm
              have h2 := hww
              simp [blk, Value.ownBlock] at hb
              omega
            have owS := own_only ow7 ((Only.refl wr.drew.drew []).alloc (.cells #[Value.int .u8 (a % 256)] 5)) (fun _ _ h => (nomatch h))
            have BS := hI2.alloc hI2.size (.cells #[Value.int .u8 (a % 256)] 5)
            have hwS : wr.heap.size ≤ (wr.drew.drew.alloc (.cells #[Value.int .u8 (a % 256)] 5)).heap.size := Nat.le_trans hww (by simp)
            refine ChainL.call (o := ?_) (f := ?_) (args := ?_) ?_ ?_ ?_ ?_
            rotate_left 3
            (focus (simp only [List.getElem?_toArray, List.getElem?_cons_succ, List.getElem?_cons_zero]; with_reducible rfl))
            (focus rfl)
            (focus (go_simp; (constructor <;> with_reducible rfl)))
            refine (rbC2 (i : Nat) _).mono ?_
            rintro e w3 ⟨b3, rfl, l3, B3⟩
            have owC := own_only owS (Only.of_below B3 []) (fun _ _ h => (nomatch h))
            have BC := BS.trans (B3.mono BS.size)
            have hwC := Nat.le_trans hwS B3.size
            have oSC := own_only oS (Only.of_below B3 []) (fun _ _ h => (nomatch h))
            refine ⟨_, rfl, BC, ?_⟩
            simp only [Act.put, List.setIfInBounds_toArray, List.set_cons_zero, List.set_cons_succ]
            refine ChainL.nil ?_
            refine ChainL.appendW (o := ?_) ?_ ?_ (.tmp 50) (.tmp 52) 22 ?_ w0.heap.size 5 i0 (.int .u8 0) 1 1 Tryd.underlying22 hi hz0 hz1 hz2 rfl (by decide) u7 (pn) (pre) ?_ owC _ (some ⟨b3, 0, none⟩) 2 2 (be2 (i : Nat)) ?_ l3 (by simp [be1, be2]) (by simp [be1, be2, Value.oneCell']) (by simp only [maxLen]; omega) (by omega) BC.size ?_
            rotate_left
            (focus (simp only [List.getElem?_toArray, List.getElem?_cons_succ, List.getElem?_cons_zero]; with_reducible rfl))
            (focus rfl)
            (focus rfl)
            (focus rfl)
            (focus rfl)
            intro v4 w4 owP hg4
            have BP := BC.grown hg4 BC.size (fun b hb => ownC_low owC b (by simp [blk, hb]))
            have hwP : wr.heap.size ≤ w4.heap.size := Nat.le_trans hwC ((Only.refl w3 (blk u7)).grown hg4 (fun b hb => .inl (by have hb' : u7.ownBlock = some b := hb; simp [blk, hb']))).size
            have oSP := own_only oSC ((Only.refl w3 (blk u7)).grown hg4 (fun b hb => .inl (by have hb' : u7.ownBlock = some b := hb; simp [blk, hb']))) hqS
            refine ⟨BP, ?_⟩
            simp only [Act.put, List.setIfInBounds_toArray, List.set_cons_zero, List.set_cons_succ]
            refine ChainL.nil ?_
            obtain ⟨AS, cS, eS, lS, _⟩ := own_lists oSP
            have eA : AS = some ⟨wr.drew.drew.heap.size, 0, none⟩ := by injection eS with e1 _ _; exact e1.symm
            clear eS
            subst eA
            refine ChainL.appendW (o := ?_) ?_ ?_ (.tmp 53) (.tmp 59) 22 ?_ w0.heap.size 5 i0 (.int .u8 0) 1 1 Tryd.underlying22 hi hz0 hz1 hz2 rfl (by decide) v4 (pn + 2) (pre ++ be2 (i : Nat)) ?_ owP _ (some ⟨wr.drew.drew.heap.size, 0, none⟩) 1 1 ([Value.int .u8 (a % 256)]) ?_ lS (by simp [be1, be2]) (by simp [be1, be2, Value.oneCell']) (by simp only [maxLen]; omega) (by omega) BP.size ?_
            rotate_left
            (focus (simp only [List.getElem?_toArray, List.getElem?_cons_succ, List.getElem?_cons_zero]; with_reducible rfl))
            (focus rfl)
            (focus rfl)
            (focus rfl)
            (focus rfl)
            intro v6 w6 own6 hg6
            have B6 := BP.grown hg6 BP.size (fun b hb => ownC_low owP b (by simp [blk, hb]))
            refine ⟨B6, ?_⟩
            simp only [Act.put, List.setIfInBounds_toArray, List.set_cons_zero, List.set_cons_succ]
            refine ChainL.nil ?_
            repeat (first
              | (refine ChainL.skip (o := ?_) ?_ ?_ ?_; rotate_left; (focus (first | (simp only [List.getElem?_toArray, List.getElem?_cons_succ, List.getElem?_cons_zero]; with_reducible rfl) | (simp only [List.getElem?_toArray, List.getElem?_cons_zero]; with_reducible rfl))); (focus rfl); simp only [Act.put, List.setIfInBounds_toArray, List.set_cons_zero, List.set_cons_succ])
              | (refine ChainL.val (o := ?_) (v := ?_) ?_ ?_ ?_ ?_ ?_; rotate_left 2; (focus (first | (simp only [List.getElem?_toArray, List.getElem?_cons_succ, List.getElem?_cons_zero]; with_reducible rfl) | (simp only [List.getElem?_toArray, List.getElem?_cons_zero]; with_reducible rfl))); (focus (intro _ _ h; cases h)); (focus rfl); (focus (intro w' hJ; skip; go_simp <;> with_reducible rfl)); simp only [Act.put, List.setIfInBounds_toArray, List.set_cons_zero, List.set_cons_succ]))
            refine ChainL.nil ?_
            go_wp2
            go_roundw
            case rel => exact ⟨i + 1, i + r, m1, q + 1, pn + 3, pre ++ be2 (i : Nat) ++ [Value.int .u8 (a % 256)], by first | rfl | go_num, by first | rfl | go_num, by omega, by omega, by omega, HNX, HQ2, HF1, HF2, HPN2, by omega, own6, B6⟩
            case measure => simp [intOf]; omega
        · obtain ⟨p, hp⟩ : ∃ p, p = i - 1 := ⟨_, rfl⟩
          obtain ⟨a1, ha1⟩ : ∃ a1, L.getD p 0 = a1 := ⟨_, rfl⟩
          have hne : a ≠ a1 := by
            rcases HX.out hlt with h | h
            · omega
            · rw [← ha, ← ha1, hp]; exact h
          have HCL := Lib.hid (show ∀ V, Below w0.heap.size w0 V → V.cell? ⟨b, o + i, none⟩ = some (.int .i64 a) ∧ V.cell? ⟨b, o + p, none⟩ = some (.int .i64 a1) from fun V hV => ⟨HCI.out V hV, by rw [← ha1]; exact HC.out p (by omega) V (BW0.trans (hV.mono BW0.size))⟩)
          have e0 : ((i : Int) == 0) = false := by simp; omega
          have e1 : IntKind.i64.wrap ((i : Int) - 1) = (p : Int) := (IntWalk.i64_in _ (by omega)).trans (by omega)
          have n9 : (p : Int) < (n : Int) := by omega
          have n10 : p < n := by omega
          have e2 : (a != a1) = true := by simpa using hne
          clear ha ha1 hne hp
          skip
          have hI : Below w0.heap.size w0 wr.drew := hb.drew
          go_wp2
          refine wp_region_chain (fun V => Below w0.heap.size w0 V) [(0, false), (1, false), (2, false), (3, false), (4, false), (5, false), (6, false), (7, false), (8, false), (9, false), (10, false), (11, false), (12, false), (13, false)] (by kernel_rfl) (by kernel_rfl) (hI) ?_
          repeat (first
            | (refine ChainL.skip (o := ?_) ?_ ?_ ?_; rotate_left; (focus (first | (simp only [List.getElem?_toArray, List.getElem?_cons_succ, List.getElem?_cons_zero]; with_reducible rfl) | (simp only [List.getElem?_toArray, List.getElem?_cons_zero]; with_reducible rfl))); (focus rfl); simp only [Act.put, List.setIfInBounds_toArray, List.set_cons_zero, List.set_cons_succ])
            | (refine ChainL.val (o := ?_) (v := ?_) ?_ ?_ ?_ ?_ ?_; rotate_left 2; (focus (first | (simp only [List.getElem?_toArray, List.getElem?_cons_succ, List.getElem?_cons_zero]; with_reducible rfl) | (simp only [List.getElem?_toArray, List.getElem?_cons_zero]; with_reducible rfl))); (focus (intro _ _ h; cases h)); (focus rfl); (focus (intro w' hI; obtain ⟨y1, y2⟩ := HCL.out _ hI; go_simp <;> with_reducible rfl)); simp only [Act.put, List.setIfInBounds_toArray, List.set_cons_zero, List.set_cons_succ]))
          refine ChainL.nil ?_
          go_wp2
          have hI2 : Below w0.heap.size w0 wr.drew.drew := hI.drew
          have hww : wr.heap.size ≤ wr.drew.drew.heap.size := by simp
          have ow7 := own_only hown (Only.of_below (Below.refl _ _).drew.drew []) (fun _ _ h => (nomatch h))
          have hlt7 := own_ltC hown
          refine wp_region_tree (fun V => Below w0.heap.size w0 V) [0, 1, 4, 5, 6, 7, 8] (.two 2 9 (.two 3 9 (.one 9 (.one 10 .leaf)) (.one 3 (.one 10 .leaf))) (.one 2 (.one 3 (.one 10 .leaf)))) [11] (by kernel_rfl) (by kernel_rfl) hI2 ?_
          repeat (first
            | (refine ChainL.skip (o := ?_) ?_ ?_ ?_; rotate_left; (focus (first | (simp only [List.getElem?_toArray, List.getElem?_cons_succ, List.getElem?_cons_zero]; with_reducible rfl) | (simp only [List.getElem?_toArray, List.getElem?_cons_zero]; with_reducible rfl))); (focus rfl); simp only [Act.put, List.setIfInBounds_toArray, List.set_cons_zero, List.set_cons_succ])
            | (refine ChainL.val (o := ?_) (v := ?_) ?_ ?_ ?_ ?_ ?_; rotate_left 2; (focus (first | (simp only [List.getElem?_toArray, List.getElem?_cons_succ, List.getElem?_cons_zero]; with_reducible rfl) | (simp only [List.getElem?_toArray, List.getElem?_cons_zero]; with_reducible rfl))); (focus (intro _ _ h; cases h)); (focus rfl); (focus (intro w' hJ; have y1 := HCI.out _ hJ; go_simp <;> with_reducible rfl)); simp only [Act.put, List.setIfInBounds_toArray, List.set_cons_zero, List.set_cons_succ]))
          refine ChainL.nil ?_
          refine And.intro ?_ ?_
          · refine ChainL.call (o := ?_) (f := ?_) (args := ?_) ?_ ?_ ?_ ?_
            rotate_left 3
            (focus (simp only [List.getElem?_toArray, List.getElem?_cons_succ, List.getElem?_cons_zero]; with_reducible rfl))
            (focus rfl)
            (focus (go_simp; (constructor <;> with_reducible rfl)))
            refine (rbC2 (i : Nat) _).mono ?_
            rintro e w3 ⟨b3, rfl, l3, B3⟩
            have owC := own_only ow7 (Only.of_below B3 []) (fun _ _ h => (nomatch h))
            have BC := hI2.trans (B3.mono hI2.size)
            have hwC := Nat.le_trans hww B3.size
            skip
            refine ⟨_, rfl, BC, ?_⟩
            simp only [Act.put, List.setIfInBounds_toArray, List.set_cons_zero, List.set_cons_succ]
            refine ChainL.nil ?_
            refine And.intro ?_ ?_
            · refine ChainL.appendW (o := ?_) ?_ ?_ (.tmp 50) (.tmp 52) 22 ?_ w0.heap.size 5 i0 (.int .u8 0) 1 1 Tryd.underlying22 hi hz0 hz1 hz2 rfl (by decide) u7 (pn) (pre) ?_ owC _ (some ⟨b3, 0, none⟩) 2 2 (be2 (i : Nat)) ?_ l3 (by simp [be1, be2]) (by simp [be1, be2, Value.oneCell']) (by simp only [maxLen]; omega) (by omega) BC.size ?_
              rotate_left
              (focus (simp only [List.getElem?_toArray, List.getElem?_cons_succ, List.getElem?_cons_zero]; with_reducible rfl))
              (focus rfl)
              (focus rfl)
              (focus rfl)
              (focus rfl)
              intro v4 w4 owP hg4
              have BP := BC.grown hg4 BC.size (fun b hb => ownC_low owC b (by simp [blk, hb]))
              have hwP : wr.heap.size ≤ w4.heap.size := Nat.le_trans hwC ((Only.refl w3 (blk u7)).grown hg4 (fun b hb => .inl (by have hb' : u7.ownBlock = some b := hb; simp [blk, hb']))).size
              skip
              refine ⟨BP, ?_⟩
              simp only [Act.put, List.setIfInBounds_toArray, List.set_cons_zero, List.set_cons_succ]
              refine ChainL.nil ?_
              refine ChainL.does (o := ?_) (v := ?_) (w1 := ?_) ?_ ?_ ?_ ?_ ?_
              rotate_left 3
              (focus (simp only [List.getElem?_toArray, List.getElem?_cons_succ, List.getElem?_cons_zero]; with_reducible rfl))
              (focus rfl)
              (focus (go_simp; (constructor <;> with_reducible rfl)))
              exact BP.alloc BP.size _
              simp only [Act.put, List.setIfInBounds_toArray, List.set_cons_zero, List.set_cons_succ]
              refine ChainL.nil ?_
              have oS := own_oneB w4 (a % 256)
              have hqS : ∀ b ∈ blk (Value.slice (some ⟨w4.heap.size, 0, none⟩) 1 1), b ∉ blk u7 := fun b hb hm => by
                have h1 := hlt7 b hm
                have h2 := hwP
                simp [blk, Value.ownBlock] at hb
                omega
              have owS := own_only owP ((Only.refl w4 []).alloc (.cells #[Value.int .u8 (a % 256)] 5)) (fun _ _ h => (nomatch h))
              have BS := BP.alloc BP.size (.cells #[Value.int .u8 (a % 256)] 5)
              have hwS : wr.heap.size ≤ (w4.alloc (.cells #[Value.int .u8 (a % 256)] 5)).heap.size := Nat.le_trans hwP (by simp)
              obtain ⟨AS, cS, eS, lS, _⟩ := own_lists oS
              have eA : AS = some ⟨w4.heap.size, 0, none⟩ := by injection eS with e1 _ _; exact e1.symm
              clear eS
              subst eA
              refine ChainL.appendW (o := ?_) ?_ ?_ (.tmp 53) (.tmp 59) 22 ?_ w0.heap.size 5 i0 (.int .u8 0) 1 1 Tryd.underlying22 hi hz0 hz1 hz2 rfl (by decide) v4 (pn + 2) (pre ++ be2 (i : Nat)) ?_ owS _ (some ⟨w4.heap.size, 0, none⟩) 1 1 ([Value.int .u8 (a % 256)]) ?_ lS (by simp [be1, be2]) (by simp [be1, be2, Value.oneCell']) (by simp only [maxLen]; omega) (by omega) BS.size ?_
              rotate_left
              (focus (simp only [List.getElem?_toArray, List.getElem?_cons_succ, List.getElem?_cons_zero]; with_reducible rfl))
              (focus rfl)
              (focus rfl)
              (focus rfl)
              (focus rfl)
              intro v6 w6 own6 hg6
              have B6 := BS.grown hg6 BS.size (fun b hb => ownC_low owS b (by simp [blk, hb]))
              refine ⟨B6, ?_⟩
              simp only [Act.put, List.setIfInBounds_toArray, List.set_cons_zero, List.set_cons_succ]
              refine ChainL.nil ?_
              repeat (first
                | (refine ChainL.skip (o := ?_) ?_ ?_ ?_; rotate_left; (focus (first | (simp only [List.getElem?_toArray, List.getElem?_cons_succ, List.getElem?_cons_zero]; with_reducible rfl) | (simp only [List.getElem?_toArray, List.getElem?_cons_zero]; with_reducible rfl))); (focus rfl); simp only [Act.put, List.setIfInBounds_toArray, List.set_cons_zero, List.set_cons_succ])
                | (refine ChainL.val (o := ?_) (v := ?_) ?_ ?_ ?_ ?_ ?_; rotate_left 2; (focus (first | (simp only [List.getElem?_toArray, List.getElem?_cons_succ, List.getElem?_cons_zero]; with_reducible rfl) | (simp only [List.getElem?_toArray, List.getElem?_cons_zero]; with_reducible rfl))); (focus (intro _ _ h; cases h)); (focus rfl); (focus (intro w' hJ; skip; go_simp <;> with_reducible rfl)); simp only [Act.put, List.setIfInBounds_toArray, List.set_cons_zero, List.set_cons_succ]))
              refine ChainL.nil ?_
              go_wp2
              go_roundw
              case rel => exact ⟨i + 1, i + r, m1, q + 1, pn + 3, pre ++ be2 (i : Nat) ++ [Value.int .u8 (a % 256)], by first | rfl | go_num, by first | rfl | go_num, by omega, by omega, by omega, HNX, HQ2, HF1, HF2, HPN2, by omega, own6, B6⟩
              case measure => simp [intOf]; omega
            · refine ChainL.does (o := ?_) (v := ?_) (w1 := ?_) ?_ ?_ ?_ ?_ ?_
              rotate_left 3
              (focus (simp only [List.getElem?_toArray, List.getElem?_cons_succ, List.getElem?_cons_zero]; with_reducible rfl))
              (focus rfl)
              (focus (go_simp; (constructor <;> with_reducible rfl)))
              exact BC.alloc BC.size _
              simp only [Act.put, List.setIfInBounds_toArray, List.set_cons_zero, List.set_cons_succ]
              refine ChainL.nil ?_
              have oS := own_oneB w3 (a % 256)
              have hqS : ∀ b ∈ blk (Value.slice (some ⟨w3.heap.size, 0, none⟩) 1 1), b ∉ blk u7 := fun b hb hm => by
                have h1 := hlt7 b hm
                have h2 := hwC
                simp [blk, Value.ownBlock] at hb
                omega
              have owS := own_only owC ((Only.refl w3 []).alloc (.cells #[Value.int .u8 (a % 256)] 5)) (fun _ _ h => (nomatch h))
              have BS := BC.alloc BC.size (.cells #[Value.int .u8 (a % 256)] 5)
              have hwS : wr.heap.size ≤ (w3.alloc (.cells #[Value.int .u8 (a % 256)] 5)).heap.size := Nat.le_trans hwC (by simp)
              refine ChainL.appendW (o := ?_) ?_ ?_ (.tmp 50) (.tmp 52) 22 ?_ w0.heap.size 5 i0 (.int .u8 0) 1 1 Tryd.underlying22 hi hz0 hz1 hz2 rfl (by decide) u7 (pn) (pre) ?_ owS _ (some ⟨b3, 0, none⟩) 2 2 (be2 (i : Nat)) ?_ (l3.alloc (Nat.le_refl _) _) (by simp [be1, be2]) (by simp [be1, be2, Value.oneCell']) (by simp only [maxLen]; omega) (by omega) BS.size ?_
              rotate_left
              (focus (simp only [List.getElem?_toArray, List.getElem?_cons_succ, List.getElem?_cons_zero]; with_reducible rfl))
              (focus rfl)
              (focus rfl)
              (focus rfl)
              (focus rfl)
              intro v4 w4 owP hg4
              have BP := BS.grown hg4 BS.size (fun b hb => ownC_low owS b (by simp [blk, hb]))
              have hwP : wr.heap.size ≤ w4.heap.size := Nat.le_trans hwS ((Only.refl (w3.alloc (.cells #[Value.int .u8 (a % 256)] 5)) (blk u7)).grown hg4 (fun b hb => .inl (by have hb' : u7.ownBlock = some b := hb; simp [blk, hb']))).size
              have oSP := own_only oS ((Only.refl (w3.alloc (.cells #[Value.int .u8 (a % 256)] 5)) (blk u7)).grown hg4 (fun b hb => .inl (by have hb' : u7.ownBlock = some b := hb; simp [blk, hb']))) hqS
              refine ⟨BP, ?_⟩
              simp only [Act.put, List.setIfInBounds_toArray, List.set_cons_zero, List.set_cons_succ]
              refine ChainL.nil ?_
              obtain ⟨AS, cS, eS, lS, _⟩ := own_lists oSP
              have eA : AS = some ⟨w3.heap.size, 0, none⟩ := by injection eS with e1 _ _; exact e1.symm
              clear eS
              subst eA
              refine ChainL.appendW (o := ?_) ?_ ?_ (.tmp 53) (.tmp 59) 22 ?_ w0.heap.size 5 i0 (.int .u8 0) 1 1 Tryd.underlying22 hi hz0 hz1 hz2 rfl (by decide) v4 (pn + 2) (pre ++ be2 (i : Nat)) ?_ owP _ (some ⟨w3.heap.size, 0, none⟩) 1 1 ([Value.int .u8 (a % 256)]) ?_ lS (by simp [be1, be2]) (by simp [be1, be2, Value.oneCell']) (by simp only [maxLen]; omega) (by omega) BP.size ?_
              rotate_left
              (focus (simp only [List.getElem?_toArray, List.getElem?_cons_succ, List.getElem?_cons_zero]; with_reducible rfl))
              (focus rfl)
              (focus rfl)
              (focus rfl)
              (focus rfl)
              intro v6 w6 own6 hg6
              have B6 := BP.grown hg6 BP.size (fun b hb => ownC_low owP b (by simp [blk, hb]))
              refine ⟨B6, ?_⟩
              simp only [Act.put, List.setIfInBounds_toArray, List.set_cons_zero, List.set_cons_succ]
              refine ChainL.nil ?_
              repeat (first
                | (refine ChainL.skip (o := ?_) ?_ ?_ ?_; rotate_left; (focus (first | (simp only [List.getElem?_toArray, List.getElem?_cons_succ, List.getElem?_cons_zero]; with_reducible rfl) | (simp only [List.getElem?_toArray, List.getElem?_cons_zero]; with_reducible rfl))); (focus rfl); simp only [Act.put, List.setIfInBounds_toArray, List.set_cons_zero, List.set_cons_succ])
                | (refine ChainL.val (o := ?_) (v := ?_) ?_ ?_ ?_ ?_ ?_; rotate_left 2; (focus (first | (simp only [List.getElem?_toArray, List.getElem?_cons_succ, List.getElem?_cons_zero]; with_reducible rfl) | (simp only [List.getElem?_toArray, List.getElem?_cons_zero]; with_reducible rfl))); (focus (intro _ _ h; cases h)); (focus rfl); (focus (intro w' hJ; skip; go_simp <;> with_reducible rfl)); simp only [Act.put, List.setIfInBounds_toArray, List.set_cons_zero, List.set_cons_succ]))
              refine ChainL.nil ?_
              go_wp2
              go_roundw
              case rel => exact ⟨i + 1, i + r, m1, q + 1, pn + 3, pre ++ be2 (i : Nat) ++ [Value.int .u8 (a % 256)], by first | rfl | go_num, by first | rfl | go_num, by omega, by omega, by omega, HNX, HQ2, HF1, HF2, HPN2, by omega, own6, B6⟩
              case measure => simp [intOf]; omega
          · refine ChainL.does (o := ?_) (v := ?_) (w1 := ?_) ?_ ?_ ?_ ?_ ?_
            rotate_left 3
            (focus (simp only [List.getElem?_toArray, List.getElem?_cons_succ, List.getElem?_cons_zero]; with_reducible rfl))
            (focus rfl)
            (focus (go_simp; (constructor <;> with_reducible rfl)))
            exact hI2.alloc hI2.size _
            simp only [Act.put, List.setIfInBounds_toArray, List.set_cons_zero, List.set_cons_succ]
            refine ChainL.nil ?_
            have oS := own_oneB wr.drew.drew (a % 256)
            have hqS : ∀ b ∈ blk (Value.slice (some ⟨wr.drew.drew.heap.size, 0, none⟩) 1 1), b ∉ blk u7 := fun b hb hm => by
              have h1 := hlt7 b hm
              have h2 := hww
              simp [blk, Value.ownBlock] at hb
              omega
            have owS := own_only ow7 ((Only.refl wr.drew.drew []).alloc (.cells #[Value.int .u8 (a % 256)] 5)) (fun _ _ h => (nomatch h))
            have BS := hI2.alloc hI2.size (.cells #[Value.int .u8 (a % 256)] 5)
            have hwS : wr.heap.size ≤ (wr.drew.drew.alloc (.cells #[Value.int .u8 (a % 256)] 5)).heap.size := Nat.le_trans hww (by simp)
            refine ChainL.call (o := ?_) (f := ?_) (args := ?_) ?_ ?_ ?_ ?_
            rotate_left 3
            (focus (simp only [List.getElem?_toArray, List.getElem?_cons_succ, List.getElem?_cons_zero]; with_reducible rfl))
            (focus rfl)
            (focus (go_simp; (constructor <;> with_reducible rfl)))
            refine (rbC2 (i : Nat) _).mono ?_
            rintro e w3 ⟨b3, rfl, l3, B3⟩
            have owC := own_only owS (Only.of_below B3 []) (fun _ _ h => (nomatch h))
            have BC := BS.trans (B3.mono BS.size)
            have hwC := Nat.le_trans hwS B3.size
            have oSC := own_only oS (Only.of_below B3 []) (fun _ _ h => (nomatch h))
            refine ⟨_, rfl, BC, ?_⟩
            simp only [Act.put, List.setIfInBounds_toArray, List.set_cons_zero, List.set_cons_succ]
            refine ChainL.nil ?_
            refine ChainL.appendW (o := ?_) ?_ ?_ (.tmp 50) (.tmp 52) 22 ?_ w0.heap.size 5 i0 (.int .u8 0) 1 1 Tryd.underlying22 hi hz0 hz1 hz2 rfl (by decide) u7 (pn) (pre) ?_ owC _ (some ⟨b3, 0, none⟩) 2 2 (be2 (i : Nat)) ?_ l3 (by simp [be1, be2]) (by simp [be1, be2, Value.oneCell']) (by simp only [maxLen]; omega) (by omega) BC.size ?_
            rotate_left
            (focus (simp only [List.getElem?_toArray, List.getElem?_cons_succ, List.getElem?_cons_zero]; with_reducible rfl))
            (focus rfl)
            (focus rfl)
            (focus rfl)
            (focus rfl)
            intro v4 w4 owP hg4
            have BP := BC.grown hg4 BC.size (fun b hb => ownC_low owC b (by simp [blk, hb]))
            have hwP : wr.heap.size ≤ w4.heap.size := Nat.le_trans hwC ((Only.refl w3 (blk u7)).grown hg4 (fun b hb => .inl (by have hb' : u7.ownBlock = some b := hb; simp [blk, hb']))).size
            have oSP := own_only oSC ((Only.refl w3 (blk u7)).grown hg4 (fun b hb => .inl (by have hb' : u7.ownBlock = some b := hb; simp [blk, hb']))) hqS
            refine ⟨BP, ?_⟩
            simp only [Act.put, List.setIfInBounds_toArray, List.set_cons_zero, List.set_cons_succ]
            refine ChainL.nil ?_
            obtain ⟨AS, cS, eS, lS, _⟩ := own_lists oSP
            have eA : AS = some ⟨wr.drew.drew.heap.size, 0, none⟩ := by injection eS with e1 _ _; exact e1.symm
            clear eS
            subst eA
            refine ChainL.appendW (o := ?_) ?_ ?_ (.tmp 53) (.tmp 59) 22 ?_ w0.heap.size 5 i0 (.int .u8 0) 1 1 Tryd.underlying22 hi hz0 hz1 hz2 rfl (by decide) v4 (pn + 2) (pre ++ be2 (i : Nat)) ?_ owP _ (some ⟨wr.drew.drew.heap.size, 0, none⟩) 1 1 ([Value.int .u8 (a % 256)]) ?_ lS (by simp [be1, be2]) (by simp [be1, be2, Value.oneCell']) (by simp only [maxLen]; omega) (by omega) BP.size ?_
            rotate_left
            (focus (simp only [List.getElem?_toArray, List.getElem?_cons_succ, List.getElem?_cons_zero]; with_reducible rfl))
            (focus rfl)
            (focus rfl)
            (focus rfl)
            (focus rfl)
            intro v6 w6 own6 hg6
            have B6 := BP.grown hg6 BP.size (fun b hb => ownC_low owP b (by simp [blk, hb]))
            refine ⟨B6, ?_⟩
            simp only [Act.put, List.setIfInBounds_toArray, List.set_cons_zero, List.set_cons_succ]
            refine ChainL.nil ?_
            repeat (first
              | (refine ChainL.skip (o := ?_) ?_ ?_ ?_; rotate_left; (focus (first | (simp only [List.getElem?_toArray, List.getElem?_cons_succ, List.getElem?_cons_zero]; with_reducible rfl) | (simp only [List.getElem?_toArray, List.getElem?_cons_zero]; with_reducible rfl))); (focus rfl); simp only [Act.put, List.setIfInBounds_toArray, List.set_cons_zero, List.set_cons_succ])
              | (refine ChainL.val (o := ?_) (v := ?_) ?_ ?_ ?_ ?_ ?_; rotate_left 2; (focus (first | (simp only [List.getElem?_toArray, List.getElem?_cons_succ, List.getElem?_cons_zero]; with_reducible rfl) | (simp only [List.getElem?_toArray, List.getElem?_cons_zero]; with_reducible rfl))); (focus (intro _ _ h; cases h)); (focus rfl); (focus (intro w' hJ; skip; go_simp <;> with_reducible rfl)); simp only [Act.put, List.setIfInBounds_toArray, List.set_cons_zero, List.set_cons_succ]))
            refine ChainL.nil ?_
            go_wp2
            go_roundw
            case rel => exact ⟨i + 1, i + r, m1, q + 1, pn + 3, pre ++ be2 (i : Nat) ++ [Value.int .u8 (a % 256)], by first | rfl | go_num, by first | rfl | go_num, by omega, by omega, by omega, HNX, HQ2, HF1, HF2, HPN2, by omega, own6, B6⟩
            case measure => simp [intOf]; omega
    · have d1 : ¬ (i : Int) < (n : Int) := by omega
      have hz : cntsF sameP n m (L.drop s) = [] := cntsF_nil (by rw [List.length_drop, HN.out]; omega)
      have HRS := Lib.hid (show pre = RS by have h := HG.out; rw [hz] at h; simpa [rsE] using h)
      have HCT := Lib.hid (show q = CT by have h := HQ.out; rw [hz] at h; simpa using h)
      obtain ⟨A8, c8, rfl, l8, hc8⟩ := own_lists hown
      have HF0 := Lib.hid (show ∀ v W, W.ownsRow w.heap.size 5 1 v (1 + 2 + pn + 2) (be1 3 ++ be2 (q : Nat) ++ pre ++ be2 (n : Nat)) → Below w.heap.size w W → RPutS w 3 L (.returned v) W from fun v W h1 h2 => by
        obtain ⟨A, c, rfl, h3, _⟩ := own_lists h1
        have e : be1 3 ++ be2 (q : Nat) ++ pre ++ be2 (n : Nat) = putS L 3 := by rw [HPS.out, HCT.out, HRS.out]; simp only [List.append_assoc]
        have e2 : (putS L 3).length = 1 + 2 + pn + 2 := by rw [← e]; simp [be1, be2, HPN.out]; omega
        exact ⟨A, c, by rw [e2], Lib.hid (by rw [← e]; exact h3), h2⟩)
      clear hz l8
      go_wp2_with (first | (go_at_call 39; ((with_reducible refine (rbC2 (q : Nat) _).mono ?_); rintro e w3 ⟨b3, rfl, l3, B3⟩; have ownr := own_only hown (Only.of_below B3 []) (fun _ _ h => (nomatch h)); have B03 := hb.trans (B3.mono hb.size); have own2 := own_only own0 (Only.of_below B03 []) (fun _ _ h => (nomatch h)); have BW3 := BW0.trans (B03.mono BW0.size))) | (at_builtin; refine wpList_append_src_wide _ rfl (.tmp 63) (.tmp 65) 22 rfl w.heap.size 5 i0 (.int .u8 0) 1 1 Tryd.underlying22 hi hz0 hz1 hz2 rfl (by decide) (Value.slice (some ⟨w.heap.size, 0, none⟩) 1 1) (1) (be1 3) rfl own2 w3.heap.size (some ⟨b3, 0, none⟩) 2 2 (be2 (q : Nat)) rfl l3 (by simp [be1, be2]) (by simp [be1, be2, Value.oneCell']) (by simp only [maxLen]; omega) (by omega) BW3.size ?_; intro v4 w4 own4 hg4; have o34 : Only w3 w4 [w.heap.size] := (Only.refl w3 [w.heap.size]).grown hg4 (fun b hb => .inl (by simp [Value.ownBlock] at hb; simp [hb])); have ownr4 := own_only ownr o34 (fun b hb hm => by have := ownC_low ownr b hb; simp at hm; omega); have BW4 := BW3.grown hg4 BW3.size (fun b hb => ownC_low own2 b (by simp [blk, hb])); obtain ⟨A7, c7, e7, l7, hc7⟩ := own_lists ownr4; injection e7 with e7 _ e8; subst e7; subst e8) | (at_builtin; refine wpList_append_src_wide _ rfl (.tmp 66) (.tmp 67) 22 rfl w.heap.size 5 i0 (.int .u8 0) 1 1 Tryd.underlying22 hi hz0 hz1 hz2 rfl (by decide) v4 (1 + 2) (be1 3 ++ be2 (q : Nat)) rfl own4 w4.heap.size A8 pn c8 (pre) rfl l7 (by rw [HPN.out, Nat.mul_one]) (one8 H8P.out) (by simp only [maxLen]; omega) (by omega) BW4.size ?_; intro v5 w5 own5 hg5; have BW5 := BW4.grown hg5 BW4.size (fun b hb => ownC_low own4 b (by simp [blk, hb]))) | (go_at_call 39; ((with_reducible refine (rbC2 (n : Nat) _).mono ?_); rintro e w6 ⟨b6, rfl, l6, B6⟩; have own6 := own_only own5 (Only.of_below B6 []) (fun _ _ h => (nomatch h)); have BW6 := BW5.trans (B6.mono BW5.size))) | (at_builtin; refine wpList_append_src_wide _ rfl (.tmp 69) (.tmp 72) 22 rfl w.heap.size 5 i0 (.int .u8 0) 1 1 Tryd.underlying22 hi hz0 hz1 hz2 rfl (by decide) v5 (1 + 2 + pn) (be1 3 ++ be2 (q : Nat) ++ pre) rfl own6 w6.heap.size (some ⟨b6, 0, none⟩) 2 2 (be2 (n : Nat)) rfl l6 (by simp [be1, be2]) (by simp [be1, be2, Value.oneCell']) (by simp only [maxLen]; omega) (by omega) BW6.size ?_; intro v7 w7 own7 hg7; have BW7 := BW6.grown hg7 BW6.size (fun b hb => ownC_low own6 b (by simp [blk, hb]))))
      go_ret
      exact HF0.out _ _ own7 BW7

end Go.Proofs.YteffijgajhngeaaDoor

namespace Go.Proofs.YteffijgajhngeaaDoor
open Go Go.RowKit
set_option linter.unusedVariables false
set_option linter.unusedSimpArgs false
set_option maxRecDepth 100000 in
set_option maxHeartbeats 4000000 in
theorem rput_0 (A : Option Addr) (c n : Nat) (L : List Int) (w : World) (hE : Lists w w.heap.size A (intCells L)) (hnn : L.length = n) (hn1 : 1 ≤ n) (hn2 : n ≤ 3000) (hall : allB 0 65535 L = true) :
    Calls Tryd.prog 15 #[.slice A n c, .int .i64 0] w (RPutC w 0 L) := by
  obtain ⟨b, o, rfl, hbl, hcl⟩ := hE.plain (by intro e; have h2 := congrArg List.length e; rw [intCells_len, hnn] at h2; simp at h2; omega)
  have HN := Lib.hid hnn
  have HALL := Lib.hid hall
  have HC := Lib.hid hcl
  have HG0 := Lib.hid (show be1 0 ++ rgE 0 (cntsF nextP 1 (n - 1) (L.drop 1)) (L.drop 1) = putC 0 L by
    unfold putC cnts
    rw [List.drop_one, List.length_tail, hnn]
    rfl)
  clear hE hnn hall hcl
  obtain ⟨i0, hi, hz0, hz1, hz2⟩ := info_parts u8Info
  go_enter Tryd.func15, Tryd.ntmps15
  go_wp2
  go_loopw [5, 7] (fun ov iv wr => ∃ (i m pn : Nat) (pre : List Value), iv = .int .i64 (i : Nat) ∧ 1 ≤ i ∧ i ≤ n ∧ Hid (pre ++ rgE 0 (cntsF nextP 1 m (L.drop i)) (L.drop i) = putC 0 L) ∧ n ≤ i + m ∧ Hid (pre.length = pn) ∧ pn ≤ 4 * i ∧ wr.ownsRow w.heap.size 5 1 ov pn pre ∧ Below w.heap.size w wr) (fun _ iv _ => n - (intOf iv).toNat)
  case atStart => exact ⟨1, n - 1, 1, be1 0, rfl, Nat.le_refl _, hn1, HG0, by omega, Lib.hid rfl, by omega, own_oneB w 0, (Below.refl _ _).alloc (Nat.le_refl _) _⟩
  case round =>
    obtain ⟨i, m, pn, pre, rfl, hi1, hin, HG, hm, HPN, hpn, hown, hb⟩ := hrel
    obtain ⟨wq, rfl⟩ : ∃ wq, wq = wr := ⟨_, rfl⟩
    have hbs := hb.size
    by_cases hlt : i < n
    · have d1 : (i : Int) < (n : Int) := by omega
      obtain ⟨m1, rfl⟩ : ∃ y, m = y + 1 := ⟨m - 1, by omega⟩
      obtain ⟨T, hT⟩ : ∃ T, L.drop i = T := ⟨_, rfl⟩
      rw [hT] at HG
      have hTL : T.length = n - i := by rw [← hT, List.length_drop, HN.out]
      obtain ⟨a, ha⟩ : ∃ a, L.getD i 0 = a := ⟨_, rfl⟩
      have hab := allB_at HALL.out (j := i) (by rw [HN.out]; exact hlt)
      rw [ha] at hab
      obtain ⟨rn, hrn⟩ : ∃ rn, runN nextP 1 T = rn := ⟨_, rfl⟩
      have HRN := Lib.hid (show runF nextP 1 T (n - i) 1 = rn by rw [← hrn, ← hTL]; rfl)
      have HCO := Lib.hid (cntsF_more (P := nextP) (most := 1) (m := m1) (L := T) (by rw [hTL]; omega))
      rw [hrn] at HCO
      have HT := Lib.hid hT
      have HTL := Lib.hid hTL
      have HTA := Lib.hid (show T.getD 0 0 = a by rw [← hT, getD_dropC]; exact ha)
      have hbq : b < wq.heap.size := Nat.lt_of_lt_of_le hbl hbs
      have HCA := Lib.hid (show ∀ j, j < n → ∀ V, Below wq.heap.size wq V → V.cell? ⟨b, o + j, none⟩ = some (.int .i64 (L.getD j 0)) from fun j hj V hV => (hV.cell (p := ⟨b, o + j, none⟩) hbq).trans ((hb.cell (p := ⟨b, o + j, none⟩) hbl).trans (HC.out j _ (intCells_atD (by rw [HN.out]; exact hj)))))
      have HCI := Lib.hid (show ∀ V, Below wq.heap.size wq V → V.cell? ⟨b, o + i, none⟩ = some (.int .i64 a) from fun V hV => by rw [← ha]; exact HCA.out i hlt V hV)
      have HA0 := Lib.hid (show L.getD (i + 0) 0 = a + ((0 : Nat) : Int) by rw [Nat.add_zero, ha]; simp)
      clear hT hTL ha hrn
      obtain ⟨ha0, ha1⟩ := hab
      go_wp2
      go_loopw [8] (fun kv wi => ∃ k g : Nat, kv = .int .i64 (k : Nat) ∧ i + k + 1 ≤ n ∧ n ≤ i + k + 1 + g ∧ Hid (runF nextP 1 T g (k + 1) = rn) ∧ Hid (L.getD (i + k) 0 = a + (k : Nat)) ∧ Below wq.heap.size wq wi) (fun kv _ => n - (intOf kv).toNat)
      case atStart => exact ⟨0, n - i, rfl, by omega, by omega, HRN, HA0, Below.refl _ _⟩
      case round =>
        obtain ⟨k, g, rfl, hkn, hkg, hrun, hat, hbi⟩ := hrel
        have hI : Below wq.heap.size wq wr.drew := hbi.drew
        have hiw := hbi.size
        have n3 : decide ((k : Int) < 0) = false := decide_eq_false (by omega)
        have e1 : IntKind.i64.wrap ((i : Int) + (k : Int)) = (i : Int) + (k : Int) := IntWalk.i64_in _ (by omega)
        have e2 : IntKind.i64.wrap ((i : Int) + (k : Int) + 1) = (i : Int) + (k : Int) + 1 := IntWalk.i64_in _ (by omega)
        have HRK := Lib.hid (show rn = k + 1 by rw [← hrun.out]; exact runF_no (fun h => by have := h.1; omega))
        have HNX := Lib.hid (show (pre ++ be2 a) ++ rgE 0 (cntsF nextP 1 m1 (L.drop (i + k + 1))) (L.drop (i + k + 1)) = putC 0 L by
          have h := HG.out
          rw [HCO.out] at h
          have e : T.drop rn = L.drop (i + k + 1) := by rw [HRK.out, ← HT.out, List.drop_drop, Nat.add_assoc]
          rw [e] at h
          rw [← h]
          show _ = pre ++ (be2 (T.getD 0 0) ++ moreE 0 ((rn - 1 : Nat) : Int) ++ rgE 0 _ (T.drop rn))
          rw [e, HTA.out, HRK.out, Nat.add_sub_cancel]
          simp [moreE, List.append_assoc])
        have HLN := Lib.hid (show (pre ++ be2 a).length = pn + 2 by simp [be1, be2, HPN.out])
        have hrk := HRK.out
        clear hrun hrk
        go_wp2
        refine wp_region_chain (fun V => Below wq.heap.size wq V) [(0, false), (1, false), (2, false), (3, false), (4, false), (5, false), (6, false), (7, false), (8, false), (9, false), (10, false), (11, false), (12, false), (13, false), (14, false), (15, false), (16, false), (17, false), (18, false), (19, false), (20, false), (21, false), (22, false), (23, false), (24, false), (25, false), (26, false), (27, false), (28, false)] (by kernel_rfl) (by kernel_rfl) (hI) ?_
        repeat (first
          | (refine ChainL.skip (o := ?_) ?_ ?_ ?_; rotate_left; (focus (first | (simp only [List.getElem?_toArray, List.getElem?_cons_succ, List.getElem?_cons_zero]; with_reducible rfl) | (simp only [List.getElem?_toArray, List.getElem?_cons_zero]; with_reducible rfl))); (focus rfl); simp only [Act.put, List.setIfInBounds_toArray, List.set_cons_zero, List.set_cons_succ])
          | (refine ChainL.val (o := ?_) (v := ?_) ?_ ?_ ?_ ?_ ?_; rotate_left 2; (focus (first | (simp only [List.getElem?_toArray, List.getElem?_cons_succ, List.getElem?_cons_zero]; with_reducible rfl) | (simp only [List.getElem?_toArray, List.getElem?_cons_zero]; with_reducible rfl))); (focus (intro _ _ h; cases h)); (focus rfl); (focus (intro w' hI; skip; go_simp <;> with_reducible rfl)); simp only [Act.put, List.setIfInBounds_toArray, List.set_cons_zero, List.set_cons_succ]))
        refine ChainL.nil ?_
        have g0 := (HCI.out _ hI)
        have hl1 : b < wr.drew.heap.size := Nat.lt_of_lt_of_le hbq hI.size
        go_wp2_with (first | (go_at_call 39; ((with_reducible refine (rbC2 a _).mono ?_); rintro e w3 ⟨b3, rfl, l3, B3⟩; have own2 := own_only (own_only hown (Only.of_below hI []) (fun _ _ h => (nomatch h))) (Only.of_below B3 []) (fun _ _ h => (nomatch h)); have B23 := (hb.trans (hI.mono hb.size)).trans (B3.mono (Nat.le_trans hb.size hI.size)))) | (at_builtin; refine wpList_append_src_wide _ rfl (.tmp 51) (.tmp 56) 22 rfl w.heap.size 5 i0 (.int .u8 0) 1 1 Tryd.underlying22 hi hz0 hz1 hz2 rfl (by decide) u5 (pn) (pre) rfl own2 w3.heap.size (some ⟨b3, 0, none⟩) 2 2 (be2 a) rfl l3 rfl (by simp [be1, be2, Value.oneCell']) (by simp only [maxLen]; omega) (by omega) B23.size ?_; intro v4 w4 own4 hg4; have B4 := B23.grown hg4 B23.size (fun b hb => ownC_low own2 b (by simp [blk, hb]))))
        go_roundw
        case rel => exact ⟨i + k + 1, m1, pn + 2, pre ++ be2 a, by go_num, by omega, by omega, HNX, by omega, HLN, by omega, own4, B4⟩
        case measure => simp [intOf]; omega
    · have d1 : ¬ (i : Int) < (n : Int) := by omega
      have HEQ := Lib.hid (show pre = putC 0 L by
        have h := HG.out
        rw [List.drop_eq_nil_of_le (by rw [HN.out]; omega), cntsF_nil rfl] at h
        simpa [rgE] using h)
      obtain ⟨A9, c9, rfl, hl9, hc9⟩ := own_lists hown
      have HF := Lib.hid (show RPutC w 0 L (.returned (.slice A9 pn c9)) wq from ⟨A9, c9, by rw [← HEQ.out, HPN.out], by rw [← HEQ.out]; exact Lib.hid hl9, hb⟩)
      clear hl9
      go_wp2
      go_ret
      exact HF.out

end Go.Proofs.YteffijgajhngeaaDoor
