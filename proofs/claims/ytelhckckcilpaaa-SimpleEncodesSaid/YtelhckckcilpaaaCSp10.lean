/- Part 11 of the proof: OuH, SpK, SpL. -/
import Derived.Lib.AppendZerosOnto
import Derived.Test.YtelhckckcilpaaaCSp9

namespace Go.Proofs.Ytelhckckcilpaaa
open Go Go.RowKit

/-- The rows of all X, and of all Y, so far. -/
def HSt (w0 wr : World) (av bv : Value) (P : List Pt) : Prop :=
  wr.ownsRow w0.heap.size 3 1 av P.length (intCells (P.map (·.1))) ∧ wr.ownsRow w0.heap.size 3 1 bv P.length (intCells (P.map (·.2.1))) ∧ (∀ b ∈ blk av, b ∉ blk bv) ∧ Below w0.heap.size w0 wr
theorem HSt.step {w0 wr W0 W1 : World} {av bv v1 v2 : Value} {P P' : List Pt} {p : Pt} (h : HSt w0 wr av bv P) (hP : P' = P ++ [p]) (o1 : W1.ownsRow w0.heap.size 3 1 v1 (P.length + 1) (intCells (P.map (·.1)) ++ [.int .i64 p.1])) (o2 : W1.ownsRow w0.heap.size 3 1 v2 (P.length + 1) (intCells (P.map (·.2.1)) ++ [.int .i64 p.2.1]))
    (hsep : ∀ b ∈ blk v1, b ∉ blk v2) (hon : Only W0 W1 (blk av ++ blk bv)) (hb : Below wr.heap.size wr W0) : HSt w0 W1 v1 v2 P' := by
  subst hP
  refine ⟨?_, ?_, hsep, ?_⟩
  · rw [List.length_append, List.map_append]; unfold intCells at o1 ⊢; rw [List.map_append]; exact o1
  · rw [List.length_append, List.map_append]; unfold intCells at o2 ⊢; rw [List.map_append]; exact o2
  · have hs := h.2.2.2.size
    refine (h.2.2.2.trans (hb.mono hs)).trans (hon.to_below (Nat.le_trans hs hb.size) (fun b hm => ?_))
    rcases List.mem_append.1 hm with hm | hm
    · exact own_low2 h.1 b hm
    · exact own_low2 h.2.1 b hm
theorem cntO_flat (Ls : List (List Pt)) : Ls.flatten.length = cntO Ls := by simp [cntO, List.length_flatten]
theorem cntO_take (Ls : List (List Pt)) (k : Nat) : cntO (Ls.take k) ≤ cntO Ls := by
  have h : cntO Ls = cntO (Ls.take k) + cntO (Ls.drop k) := by
    unfold cntO
    rw [← List.sum_append, ← List.map_append, List.take_append_drop]
  omega
def boxO (Ls : List (List Pt)) : Q := accQ (Ls.flatten.map (·.1)) (Ls.flatten.map (·.2.1)) Ls.flatten.length
theorem fair_flat {Ls : List (List Pt)} (h : ∀ L ∈ Ls, mayC L = true) : Fair Ls.flatten := by
  intro p hp
  obtain ⟨L, hL, hp⟩ := List.mem_flatten.1 hp
  exact fair_of (h L hL) p hp
theorem hull_rows (w : World) (Ls : List (List Pt)) (wr : World) (av bv : Value) (hH : HSt (w.alloc (.cells #[.int .i64 0, .int .i64 0, .int .i64 0, .int .i64 0] 68)) wr av bv Ls.flatten) (hc : cntO Ls ≤ 4096) (hm : ∀ L ∈ Ls, mayC L = true) :
    Calls Try.prog 72 #[av, bv] wr fun e w' => e = .returned (.tuple #[.agg #[.int .i64 (boxO Ls).x0, .int .i64 (boxO Ls).y0, .int .i64 (boxO Ls).x1, .int .i64 (boxO Ls).y1], .int .i64 0]) ∧ Below wr.heap.size wr w' := by
  obtain ⟨A1, c1, rfl, l1, _⟩ := own_lists hH.1
  obtain ⟨A2, c2, rfl, l2, _⟩ := own_lists hH.2.1
  have hf := fair_flat hm
  have hlen := cntO_flat Ls
  rcases Nat.eq_zero_or_pos Ls.flatten.length with h0 | h0
  · have := hull_none A1 A2 c1 c2 wr
    unfold boxO accQ
    rw [if_pos h0, h0]
    exact this
  · have := hull_some A1 A2 Ls.flatten.length c1 c2 _ _ (Ls.flatten.map (·.1)) (Ls.flatten.map (·.2.1)) wr (List.length_map _) (List.length_map _) (by omega) h0 l1 l2 (Nat.le_refl _) (Nat.le_refl _)
      (by rw [List.all_map, List.all_eq_true]; exact fun p hp => (hf p hp).1) (by rw [List.all_map, List.all_eq_true]; exact fun p hp => (hf p hp).2)
    unfold boxO accQ
    rw [if_neg (by omega), List.take_of_length_le (Nat.le_of_eq (List.length_map _)), List.take_of_length_le (Nat.le_of_eq (List.length_map _))]
    exact this
theorem rhull_rows (w : World) (Ls : List (List Pt)) (wr : World) (av bv : Value) (hH : HSt (w.alloc (.cells #[.int .i64 0, .int .i64 0, .int .i64 0, .int .i64 0] 68)) wr av bv Ls.flatten) (hc : cntO Ls ≤ 4096) :
    Calls Try.prog 82 #[av, bv] wr fun e w' => e = .returned (.agg #[.int .i64 (boxO Ls).x0, .int .i64 (boxO Ls).y0, .int .i64 (boxO Ls).x1, .int .i64 (boxO Ls).y1]) ∧ Below wr.heap.size wr w' := by
  obtain ⟨A1, c1, rfl, l1, _⟩ := own_lists hH.1
  obtain ⟨A2, c2, rfl, l2, _⟩ := own_lists hH.2.1
  have hlen := cntO_flat Ls
  exact rhull_any A1 A2 Ls.flatten.length c1 c2 (Ls.flatten.map (·.1)) (Ls.flatten.map (·.2.1)) wr (List.length_map _) (List.length_map _) (by omega) l1 l2

set_option maxRecDepth 100000 in
set_option maxHeartbeats 4000000 in
theorem hull_any (B : Nat) (A : Option Addr) (c : Nat) (Ls : List (List Pt)) (w : World) (hB : B ≤ w.heap.size) (h : OutAt w B A Ls) (hs : Sm Ls) (hc : chkE Ls = 0) :
    Calls Try.prog 40 #[.slice A Ls.length c] w fun e w' => e = .returned (.tuple #[.agg #[.int .i64 (boxO Ls).x0, .int .i64 (boxO Ls).y0, .int .i64 (boxO Ls).x1, .int .i64 (boxO Ls).y1], .int .i64 0]) ∧ Below w.heap.size w w' := by
  have C1 := check_any B A c Ls (w.alloc (.cells #[.int .i64 0, .int .i64 0, .int .i64 0, .int .i64 0] 68)) (by simp; omega) (h.below ((Below.refl _ _).alloc hB _)) hs
  rw [hc] at C1
  obtain ⟨hc1, hc2, hc3⟩ := chk_zero hc
  have CH := fun (wr : World) (av bv : Value) (hH : HSt (w.alloc (.cells #[.int .i64 0, .int .i64 0, .int .i64 0, .int .i64 0] 68)) wr av bv Ls.flatten) => hull_rows w Ls wr av bv hH hc2 hc3
  have hn := hs.1
  have HM := Lib.hid hs.2
  have HL := Lib.hid h
  have HCN := Lib.hid hc2
  obtain ⟨n, hnn⟩ : ∃ n, n = Ls.length := ⟨_, rfl⟩
  rw [← hnn] at hn C1 ⊢
  have HN := Lib.hid hnn
  clear h hnn hs hc hc1 hc2 hc3
  generalize boxO Ls = Q0 at *
  go_enter Try.func40, Try.ntmps40
  go_wp2_with (first | (go_at_call 31; ((with_reducible refine (C1).mono ?_); rintro e w0 ⟨rfl, b0⟩)))
  go_loopw [5, 6, 19] (fun av bv i wr => ∃ k : Nat, k ≤ n ∧ i = .int .i64 k ∧ HSt (w.alloc (.cells #[.int .i64 0, .int .i64 0, .int .i64 0, .int .i64 0] 68)) wr av bv (Ls.take k).flatten) (fun _ _ i _ => n - (intOf i).toNat)
  case atStart => exact ⟨0, Nat.zero_le _, rfl, World.ownsRow_nil _ _ _ _, World.ownsRow_nil _ _ _ _, fun b hb => (nomatch hb), b0⟩
  case round =>
    obtain ⟨k, hk, rfl, hH⟩ := hrel
    clear b0 C1
    by_cases hlt : k < n
    · have d1 : decide ((k : Int) < (n : Int)) = true := by simp; omega
      obtain ⟨L, hL⟩ := at_some (L := Ls) (k := k) (by rw [← HN.out]; exact hlt)
      obtain ⟨b, o, Ai, ci, rfl, hbl, c0, hE⟩ := HL.out.at' k L hL
      have hbw : b < w.heap.size := by omega
      have HC : ∀ W, Below (w.alloc (.cells #[.int .i64 0, .int .i64 0, .int .i64 0, .int .i64 0] 68)).heap.size (w.alloc (.cells #[.int .i64 0, .int .i64 0, .int .i64 0, .int .i64 0] 68)) W → W.cell? ⟨b, o + k, none⟩ = some (.slice Ai L.length ci) ∧ b < W.heap.size := fun W hW => by
        have := hW.size
        refine ⟨((hW.cell (p := ⟨b, o + k, none⟩) (by simp; omega)).trans ?_).trans c0, by simp at this; omega⟩
        exact World.cell?_alloc_old _ _ _ (Nat.ne_of_lt hbw)
      obtain ⟨f0, f1⟩ := HC _ hH.2.2.2
      have hl : L.length ≤ 100000 := HM.out L (List.mem_of_getElem? hL)
      have HT := Lib.hid (show (Ls.take (k + 1)).flatten = (Ls.take k).flatten ++ L by rw [take_snoc1 hL]; simp)
      have HTL := Lib.hid (show (Ls.take k).flatten.length + L.length ≤ 4096 by
        have := HCN.out
        have e1 := cntO_flat (Ls.take (k + 1))
        have e2 := cntO_take Ls (k + 1)
        rw [HT.out, List.length_append] at e1
        omega)
      have HE := Lib.hid hE
      obtain ⟨m0, hm0⟩ : ∃ m0, m0 = L.length := ⟨_, rfl⟩
      rw [← hm0] at HC f0 hl
      have HM0 := Lib.hid hm0
      clear c0 hE hL hm0 HC
      generalize (Ls.take k).flatten = P at *
      go_wp2
      go_loopw [5, 6, 25] (fun av bv i wr => ∃ j : Nat, j ≤ m0 ∧ i = .int .i64 j ∧ HSt (w.alloc (.cells #[.int .i64 0, .int .i64 0, .int .i64 0, .int .i64 0] 68)) wr av bv (P ++ L.take j)) (fun _ _ i _ => m0 - (intOf i).toNat)
      case atStart => exact ⟨0, Nat.zero_le _, rfl, by simpa using hH⟩
      case round =>
        clear hH f0 f1
        obtain ⟨j, hj, rfl, hH⟩ := hrel
        by_cases hjm : j < m0
        · have d2 : decide ((j : Int) < (m0 : Int)) = true := by simp; omega
          obtain ⟨⟨px, py, pz⟩, hp⟩ := at_some (L := L) (k := j) (by rw [← HM0.out]; exact hjm)
          obtain ⟨s, u, rfl, hs, c0, c1, c2⟩ := lists_pt HE.out hp
          have hsw : s < w.heap.size := by omega
          have hw0 : ∀ i, wr.cell? ⟨s, i, none⟩ = w.cell? ⟨s, i, none⟩ := fun i => ((hH.2.2.2.cell (p := ⟨s, i, none⟩) (by simp; omega))).trans (World.cell?_alloc_old _ _ _ (Nat.ne_of_lt hsw))
          have g0 := (hw0 _).trans c0
          have g1 := (hw0 _).trans c1
          have g2 := (hw0 _).trans c2
          have g3 : s < wr.heap.size := by have := hH.2.2.2.size; simp at this; omega
          simp only at g0 g1 g2
          have HPJ := Lib.hid (show P ++ L.take (j + 1) = P ++ L.take j ++ [(px, py, pz)] by rw [take_snoc1 hp, List.append_assoc])
          have hm1 : (P ++ L.take j).length ≤ 1000000000 := by rw [List.length_append, List.length_take]; have := HTL.out; omega
          clear c0 c1 c2 hp hw0
          obtain ⟨av, hav⟩ : ∃ av, av = u5 := ⟨_, rfl⟩
          obtain ⟨bv, hbv⟩ : ∃ bv, bv = u6 := ⟨_, rfl⟩
          subst hav hbv
          go_wp2
          have HH := Lib.hid hH
          have hsep := hH.2.2.1
          have hwr := hH.2.2.2.size
          have hlt1 : ∀ b ∈ blk av, b < (wr.alloc (.cells #[.int .i64 px, .int .i64 py, .int .i64 pz] 57)).drew.heap.size := fun b hb => by have := blk_lt hH.1 b hb; show b < (wr.alloc _).heap.size; simp; omega
          have hlt2 : ∀ b ∈ blk bv, b < (wr.alloc (.cells #[.int .i64 px, .int .i64 py, .int .i64 pz] 57)).drew.heap.size := fun b hb => by have := blk_lt hH.2.1 b hb; show b < (wr.alloc _).heap.size; simp; omega
          have hlow1 : ∀ b ∈ blk av, (w.alloc (.cells #[.int .i64 0, .int .i64 0, .int .i64 0, .int .i64 0] 68)).heap.size ≤ b := own_low2 hH.1
          have hlow2 : ∀ b ∈ blk bv, (w.alloc (.cells #[.int .i64 0, .int .i64 0, .int .i64 0, .int .i64 0] 68)).heap.size ≤ b := own_low2 hH.2.1
          have hbase : (w.alloc (.cells #[.int .i64 0, .int .i64 0, .int .i64 0, .int .i64 0] 68)).heap.size ≤ (wr.alloc (.cells #[.int .i64 px, .int .i64 py, .int .i64 pz] 57)).drew.heap.size := by show _ ≤ (wr.alloc _).heap.size; simp at hwr ⊢; omega
          have KP : ∀ W, Only (wr.alloc (.cells #[.int .i64 px, .int .i64 py, .int .i64 pz] 57)).drew W (blk av ++ blk bv) → Blk W wr.heap.size 57 #[.int .i64 px, .int .i64 py, .int .i64 pz] := fun W hW =>
            ((Blk.new wr 57 #[.int .i64 px, .int .i64 py, .int .i64 pz]).below ((Below.refl _ _).drew)).only hW (fun hm => by
              rcases List.mem_append.1 hm with hm | hm
              · exact absurd (blk_lt hH.1 _ hm) (Nat.lt_irrefl _)
              · exact absurd (blk_lt hH.2.1 _ hm) (Nat.lt_irrefl _))
          have hown1 := own_stay HH.out.1 (Below.drew ((Below.refl _ _).alloc (Nat.le_refl _) (.cells #[.int .i64 px, .int .i64 py, .int .i64 pz] 57)))
          have hown2 := own_stay HH.out.2.1 (Below.drew ((Below.refl _ _).alloc (Nat.le_refl _) (.cells #[.int .i64 px, .int .i64 py, .int .i64 pz] 57)))
          obtain ⟨XS, hXS⟩ : ∃ XS, XS = intCells ((P ++ L.take j).map (·.1)) := ⟨_, rfl⟩
          obtain ⟨YS, hYS⟩ : ∃ YS, YS = intCells ((P ++ L.take j).map (·.2.1)) := ⟨_, rfl⟩
          obtain ⟨m, hm⟩ : ∃ m, m = (P ++ L.take j).length := ⟨_, rfl⟩
          rw [← hXS, ← hm] at hown1
          rw [← hYS, ← hm] at hown2
          rw [← hm] at hm1
          have HXS := Lib.hid hXS
          have HYS := Lib.hid hYS
          have HMM := Lib.hid hm
          clear hH hXS hYS hm
          refine wp_region_lanes (fun W => Only (wr.alloc (.cells #[.int .i64 px, .int .i64 py, .int .i64 pz] 57)).drew W (blk av ++ blk bv)) [0, 1, 2, 5, 6, 7] [3, 4] [8, 9] [10, 11] (by kernel_rfl) (by kernel_rfl) (Only.refl _ _) ?_
          repeat (first
            | (refine QuietL.val (o := ?_) (v := ?_) ?_ ?_ ?_ ?_ ?_; rotate_left 2; (focus (simp only [List.getElem?_toArray, List.getElem?_cons_succ, List.getElem?_cons_zero]; with_reducible rfl)); (focus (intro _ _ h; cases h)); (focus rfl); (focus (intro w' hJ; have y1 := (KP _ hJ).cell 0; have y2 := (KP _ hJ).cell 1; have y3 := (KP _ hJ).cell 2; have y4 := (KP _ hJ).lt; simp only [List.getElem?_toArray, List.getElem?_cons_zero, List.getElem?_cons_succ] at y1 y2 y3; go_simp <;> with_reducible rfl)); simp only [Act.put, List.setIfInBounds_toArray, List.set_cons_zero, List.set_cons_succ]))
          refine QuietL.nil ?_
          have HS2 : Apart ⟨29, 31, 32, 33, av, m, XS, px⟩ ⟨34, 36, 37, 38, bv, m, YS, py⟩ 46 := by
            exact ⟨(by show 32 < 46; decide), (by show 33 < 46; decide), (by show 37 < 46; decide), (by show 38 < 46; decide), (by show 32 ≠ 29 ∧ 32 ≠ 31 ∧ 32 ≠ 33 ∧ 33 ≠ 29 ∧ 33 ≠ 31; decide), (by show 37 ≠ 34 ∧ 37 ≠ 36 ∧ 37 ≠ 38 ∧ 38 ≠ 34 ∧ 38 ≠ 36; decide), (by show 32 ≠ 34 ∧ 32 ≠ 36 ∧ 32 ≠ 37 ∧ 32 ≠ 38 ∧ 33 ≠ 34 ∧ 33 ≠ 36 ∧ 33 ≠ 37 ∧ 33 ≠ 38; decide), (by show 37 ≠ 29 ∧ 37 ≠ 31 ∧ 37 ≠ 32 ∧ 37 ≠ 33 ∧ 38 ≠ 29 ∧ 38 ≠ 31 ∧ 38 ≠ 32 ∧ 38 ≠ 33; decide)⟩
          refine lanes_two (D1 := ⟨29, 31, 32, 33, av, m, XS, px⟩) (D2 := ⟨34, 36, 37, 38, bv, m, YS, py⟩) (base := (w.alloc (.cells #[.int .i64 0, .int .i64 0, .int .i64 0, .int .i64 0] 68)).heap.size) (w0 := (wr.alloc (.cells #[.int .i64 px, .int .i64 py, .int .i64 pz] 57)).drew) (G := blk av ++ blk bv) (F1 := blk av) (F2 := blk bv) ⟨⟨rfl, rfl, hown1, rfl⟩, ⟨rfl, rfl, hown2, rfl⟩, hsep, hlt1, hlt2, hlow1, hlow2, Only.refl _ _, fun b hb => List.mem_append_left _ hb, fun b hb => List.mem_append_right _ hb, hbase, rfl, rfl, fun _ _ _ _ _ => rfl⟩ HS2 hm1 hm1 rfl rfl rfl rfl rfl rfl rfl rfl rfl rfl rfl rfl rfl rfl rfl rfl (fun W h => h) ?_
          intro a' W' FF FF' T2
          obtain ⟨_, _, q1, v1, e1, e2, own1, hF1⟩ := T2.l1
          obtain ⟨_, _, q2, v2, e3, e4, own2, hF2⟩ := T2.l2
          have hact := act_is HS2 T2.size T2.defers T2.other e1 e2 e3 e4
          subst hact
          have hsep2 : ∀ b ∈ blk v1, b ∉ blk v2 := fun b h1 h2 => T2.sep b (by rw [hF1]; exact h1) (by rw [hF2]; exact h2)
          have hon := T2.only
          simp only at own1 own2
          clear T2 e1 e2 e3 e4 hF1 hF2 HS2
          simp only [Act.put, List.setIfInBounds_toArray, List.set_cons_zero, List.set_cons_succ]
          repeat (first
            | (refine QuietL.val (o := ?_) (v := ?_) ?_ ?_ ?_ ?_ ?_; rotate_left 2; (focus (simp only [List.getElem?_toArray, List.getElem?_cons_succ, List.getElem?_cons_zero]; with_reducible rfl)); (focus (intro _ _ h; cases h)); (focus rfl); (focus (intro w' hJ; skip; go_simp <;> with_reducible rfl)); simp only [Act.put, List.setIfInBounds_toArray, List.set_cons_zero, List.set_cons_succ]))
          refine QuietL.nil ?_
          go_wp2
          go_roundw
          case rel => exact ⟨j + 1, by omega, by go_num, HSt.step HH.out HPJ.out (by rw [← HMM.out, ← HXS.out]; exact own1) (by rw [← HMM.out, ← HYS.out]; exact own2) hsep2 hon (Below.drew ((Below.refl _ _).alloc (Nat.le_refl _) _))⟩
          case measure => simp [intOf]; omega
        · obtain rfl : j = m0 := by omega
          have d2 : decide ((j : Int) < (j : Int)) = false := by simp
          have HS := Lib.hid (show P ++ L.take j = P ++ L by rw [HM0.out, List.take_length])
          go_wp2
          go_roundw
          case rel => exact ⟨k + 1, by omega, by go_num, by rw [HT.out, ← HS.out]; exact hH⟩
          case measure => simp [intOf]; omega
    · obtain rfl : k = n := by omega
      have d1 : decide ((k : Int) < (k : Int)) = false := by simp
      have HS := Lib.hid (show (Ls.take k).flatten = Ls.flatten by rw [HN.out, List.take_length])
      rw [HS.out] at hH
      have CC := CH _ _ _ hH
      have zb := hH.2.2.2
      clear hH HS
      have z0 := (zb.cell (p := ⟨w.heap.size, 0, none⟩) (by simp))
      have z1 := (zb.cell (p := ⟨w.heap.size, 1, none⟩) (by simp))
      have z2 := (zb.cell (p := ⟨w.heap.size, 2, none⟩) (by simp))
      have z3 := (zb.cell (p := ⟨w.heap.size, 3, none⟩) (by simp))
      have zf := fun o => (zb.frozen (p := ⟨w.heap.size, o, none⟩) (by simp))
      have zs := zb.size
      simp only [World.cell?_alloc_new, World.frozen?_alloc_new] at z0 z1 z2 z3 zf
      simp only [World.size_alloc] at zs
      go_wp2_with (first | (go_at_call 72; ((with_reducible refine (CC).mono ?_); rintro e w9 ⟨rfl, b9⟩; have y0 := (b9.cell (p := ⟨w.heap.size, 0, none⟩) (by show w.heap.size < _; omega)).trans z0; have y1 := (b9.cell (p := ⟨w.heap.size, 1, none⟩) (by show w.heap.size < _; omega)).trans z1; have y2 := (b9.cell (p := ⟨w.heap.size, 2, none⟩) (by show w.heap.size < _; omega)).trans z2; have y3 := (b9.cell (p := ⟨w.heap.size, 3, none⟩) (by show w.heap.size < _; omega)).trans z3; have yf := fun o => (b9.frozen (p := ⟨w.heap.size, o, none⟩) (by show w.heap.size < _; omega)).trans (zf o))))
      refine bodyPost_ret (v := .tuple #[.agg #[.int .i64 Q0.x0, .int .i64 Q0.y0, .int .i64 Q0.x1, .int .i64 Q0.y1], .int .i64 0]) (by simp [results, Try.results40, go_sem, y0, y1, y2, y3]) rfl ⟨rfl, ?_⟩
      exact below_set4 (b := w.heap.size) (((below_a1 w _).trans (zb.mono (by simp))).trans (b9.mono (by omega))) (Nat.le_refl _) _ _ _ _
theorem hull_no (B : Nat) (A : Option Addr) (c : Nat) (Ls : List (List Pt)) (w : World) (hB : B ≤ w.heap.size) (h : OutAt w B A Ls) (hs : Sm Ls) (hc : chkE Ls ≠ 0) :
    Calls Try.prog 40 #[.slice A Ls.length c] w fun e w' => e = .returned (.tuple #[.agg #[.int .i64 0, .int .i64 0, .int .i64 0, .int .i64 0], .int .i64 (chkE Ls)]) ∧ Below w.heap.size w w' := by
  have C1 := check_any B A c Ls (w.alloc (.cells #[.int .i64 0, .int .i64 0, .int .i64 0, .int .i64 0] 68)) (by simp; omega) (h.below ((Below.refl _ _).alloc hB _)) hs
  clear h
  generalize chkE Ls = x at *
  have d1 : (x == 0) = false := by simpa using hc
  have d2 : (x != 0) = true := by simpa using hc
  go_enter Try.func40, Try.ntmps40
  go_wp2_with (first | (go_at_call 31; ((with_reducible refine (C1).mono ?_); rintro e w0 ⟨rfl, b0⟩; have z0 := (b0.cell (p := ⟨w.heap.size, 0, none⟩) (by simp)); have z1 := (b0.cell (p := ⟨w.heap.size, 1, none⟩) (by simp)); have z2 := (b0.cell (p := ⟨w.heap.size, 2, none⟩) (by simp)); have z3 := (b0.cell (p := ⟨w.heap.size, 3, none⟩) (by simp)); have zf := fun o => (b0.frozen (p := ⟨w.heap.size, o, none⟩) (by simp)); have zs := b0.size; simp only [World.cell?_alloc_new, World.frozen?_alloc_new] at z0 z1 z2 z3 zf; simp only [World.size_alloc] at zs)))
  refine bodyPost_ret (v := .tuple #[.agg #[.int .i64 0, .int .i64 0, .int .i64 0, .int .i64 0], .int .i64 x]) (by simp [results, Try.results40, go_sem, z0, z1, z2, z3]) rfl ⟨rfl, ?_⟩
  exact below_set4 (b := w.heap.size) ((below_a1 w _).trans (b0.mono (by simp))) (Nat.le_refl _) _ _ _ _

set_option maxRecDepth 100000 in
set_option maxHeartbeats 4000000 in
theorem rhullO_any (B : Nat) (A : Option Addr) (c : Nat) (Ls : List (List Pt)) (w : World) (hB : B ≤ w.heap.size) (h : OutAt w B A Ls) (hs : Sm Ls) (hc : chkE Ls = 0) :
    Calls Try.prog 53 #[.slice A Ls.length c] w fun e w' => e = .returned (.agg #[.int .i64 (boxO Ls).x0, .int .i64 (boxO Ls).y0, .int .i64 (boxO Ls).x1, .int .i64 (boxO Ls).y1]) ∧ Below w.heap.size w w' := by
  obtain ⟨hc1, hc2, hc3⟩ := chk_zero hc
  have CH := fun (wr : World) (av bv : Value) (hH : HSt (w.alloc (.cells #[.int .i64 0, .int .i64 0, .int .i64 0, .int .i64 0] 68)) wr av bv Ls.flatten) => rhull_rows w Ls wr av bv hH hc2
  have hn := hs.1
  have HM := Lib.hid hs.2
  have HL := Lib.hid h
  have HCN := Lib.hid hc2
  obtain ⟨n, hnn⟩ : ∃ n, n = Ls.length := ⟨_, rfl⟩
  rw [← hnn] at hn ⊢
  have HN := Lib.hid hnn
  clear h hnn hs hc hc1 hc2 hc3
  generalize boxO Ls = Q0 at *
  go_enter Try.func53, Try.ntmps53
  go_wp2
  go_loopw [3, 4, 5] (fun av bv i wr => ∃ k : Nat, k ≤ n ∧ i = .int .i64 k ∧ HSt (w.alloc (.cells #[.int .i64 0, .int .i64 0, .int .i64 0, .int .i64 0] 68)) wr av bv (Ls.take k).flatten) (fun _ _ i _ => n - (intOf i).toNat)
  case atStart => exact ⟨0, Nat.zero_le _, rfl, World.ownsRow_nil _ _ _ _, World.ownsRow_nil _ _ _ _, fun b hb => (nomatch hb), Below.refl _ _⟩
  case round =>
    obtain ⟨k, hk, rfl, hH⟩ := hrel
    by_cases hlt : k < n
    · have d1 : decide ((k : Int) < (n : Int)) = true := by simp; omega
      obtain ⟨L, hL⟩ := at_some (L := Ls) (k := k) (by rw [← HN.out]; exact hlt)
      obtain ⟨b, o, Ai, ci, rfl, hbl, c0, hE⟩ := HL.out.at' k L hL
      have hbw : b < w.heap.size := by omega
      have HC : ∀ W, Below (w.alloc (.cells #[.int .i64 0, .int .i64 0, .int .i64 0, .int .i64 0] 68)).heap.size (w.alloc (.cells #[.int .i64 0, .int .i64 0, .int .i64 0, .int .i64 0] 68)) W → W.cell? ⟨b, o + k, none⟩ = some (.slice Ai L.length ci) ∧ b < W.heap.size := fun W hW => by
        have := hW.size
        refine ⟨((hW.cell (p := ⟨b, o + k, none⟩) (by simp; omega)).trans ?_).trans c0, by simp at this; omega⟩
        exact World.cell?_alloc_old _ _ _ (Nat.ne_of_lt hbw)
      obtain ⟨f0, f1⟩ := HC _ hH.2.2.2
      have hl : L.length ≤ 100000 := HM.out L (List.mem_of_getElem? hL)
      have HT := Lib.hid (show (Ls.take (k + 1)).flatten = (Ls.take k).flatten ++ L by rw [take_snoc1 hL]; simp)
      have HTL := Lib.hid (show (Ls.take k).flatten.length + L.length ≤ 4096 by
        have := HCN.out
        have e1 := cntO_flat (Ls.take (k + 1))
        have e2 := cntO_take Ls (k + 1)
        rw [HT.out, List.length_append] at e1
        omega)
      have HE := Lib.hid hE
      obtain ⟨m0, hm0⟩ : ∃ m0, m0 = L.length := ⟨_, rfl⟩
      rw [← hm0] at HC f0 hl
      have HM0 := Lib.hid hm0
      clear c0 hE hL hm0
      generalize (Ls.take k).flatten = P at *
      go_wp2
      go_loopw [3, 4, 6] (fun av bv i wr => ∃ j : Nat, j ≤ m0 ∧ i = .int .i64 j ∧ HSt (w.alloc (.cells #[.int .i64 0, .int .i64 0, .int .i64 0, .int .i64 0] 68)) wr av bv (P ++ L.take j)) (fun _ _ i _ => m0 - (intOf i).toNat)
      case atStart => exact ⟨0, Nat.zero_le _, rfl, by simpa using hH⟩
      case round =>
        clear hH f0 f1
        obtain ⟨j, hj, rfl, hH⟩ := hrel
        obtain ⟨f0, f1⟩ := HC _ hH.2.2.2
        by_cases hjm : j < m0
        · have d2 : decide ((j : Int) < (m0 : Int)) = true := by simp; omega
          obtain ⟨⟨px, py, pz⟩, hp⟩ := at_some (L := L) (k := j) (by rw [← HM0.out]; exact hjm)
          obtain ⟨s, u, rfl, hs, c0, c1, c2⟩ := lists_pt HE.out hp
          have hsw : s < w.heap.size := by omega
          have hw0 : ∀ i, wr.cell? ⟨s, i, none⟩ = w.cell? ⟨s, i, none⟩ := fun i => ((hH.2.2.2.cell (p := ⟨s, i, none⟩) (by simp; omega))).trans (World.cell?_alloc_old _ _ _ (Nat.ne_of_lt hsw))
          have g0 := (hw0 _).trans c0
          have g1 := (hw0 _).trans c1
          have g2 := (hw0 _).trans c2
          have g3 : s < wr.heap.size := by have := hH.2.2.2.size; simp at this; omega
          simp only at g0 g1 g2
          have HPJ := Lib.hid (show P ++ L.take (j + 1) = P ++ L.take j ++ [(px, py, pz)] by rw [take_snoc1 hp, List.append_assoc])
          have hm1 : (P ++ L.take j).length ≤ 1000000000 := by rw [List.length_append, List.length_take]; have := HTL.out; omega
          clear c0 c1 c2 hp hw0
          obtain ⟨av, hav⟩ : ∃ av, av = u3 := ⟨_, rfl⟩
          obtain ⟨bv, hbv⟩ : ∃ bv, bv = u4 := ⟨_, rfl⟩
          subst hav hbv
          go_wp2
          have HH := Lib.hid hH
          have hsep := hH.2.2.1
          have hwr := hH.2.2.2.size
          have hlt1 : ∀ b ∈ blk av, b < wr.drew.heap.size := fun b hb => by have := blk_lt hH.1 b hb; exact this
          have hlt2 : ∀ b ∈ blk bv, b < wr.drew.heap.size := fun b hb => by have := blk_lt hH.2.1 b hb; exact this
          have hlow1 : ∀ b ∈ blk av, (w.alloc (.cells #[.int .i64 0, .int .i64 0, .int .i64 0, .int .i64 0] 68)).heap.size ≤ b := own_low2 hH.1
          have hlow2 : ∀ b ∈ blk bv, (w.alloc (.cells #[.int .i64 0, .int .i64 0, .int .i64 0, .int .i64 0] 68)).heap.size ≤ b := own_low2 hH.2.1
          have hbase : (w.alloc (.cells #[.int .i64 0, .int .i64 0, .int .i64 0, .int .i64 0] 68)).heap.size ≤ wr.drew.heap.size := by exact hwr
          have KI : ∀ W, Only wr.drew W (blk av ++ blk bv) → W.cell? ⟨b, o + k, none⟩ = some (.slice (some ⟨s, u, none⟩) m0 ci) ∧ b < W.heap.size ∧ W.cell? ⟨s, u + j * 3, none⟩ = some (.int .i64 px) ∧ W.cell? ⟨s, u + j * 3 + 1, none⟩ = some (.int .i64 py) ∧ W.cell? ⟨s, u + j * 3 + 2, none⟩ = some (.int .i64 pz) ∧ s < W.heap.size := fun W hW => by
            have hbl := hW.to_below (B := (w.alloc (.cells #[.int .i64 0, .int .i64 0, .int .i64 0, .int .i64 0] 68)).heap.size) hbase (fun x hx => by
              rcases List.mem_append.1 hx with hx | hx
              · exact hlow1 x hx
              · exact hlow2 x hx)
            have hz := hbl.size
            have e1 : wr.drew.heap.size = wr.heap.size := rfl
            have g4 := f1
            rw [World.size_alloc] at hwr
            exact ⟨(hbl.cell (p := ⟨b, o + k, none⟩) (by simp; omega)).trans f0, by omega, (hbl.cell (p := ⟨s, u + j * 3, none⟩) (by simp; omega)).trans g0, (hbl.cell (p := ⟨s, u + j * 3 + 1, none⟩) (by simp; omega)).trans g1, (hbl.cell (p := ⟨s, u + j * 3 + 2, none⟩) (by simp; omega)).trans g2, by omega⟩
          have hown1 := own_stay HH.out.1 (Below.drew (Below.refl _ _))
          have hown2 := own_stay HH.out.2.1 (Below.drew (Below.refl _ _))
          obtain ⟨XS, hXS⟩ : ∃ XS, XS = intCells ((P ++ L.take j).map (·.1)) := ⟨_, rfl⟩
          obtain ⟨YS, hYS⟩ : ∃ YS, YS = intCells ((P ++ L.take j).map (·.2.1)) := ⟨_, rfl⟩
          obtain ⟨m, hm⟩ : ∃ m, m = (P ++ L.take j).length := ⟨_, rfl⟩
          rw [← hXS, ← hm] at hown1
          rw [← hYS, ← hm] at hown2
          rw [← hm] at hm1
          have HXS := Lib.hid hXS
          have HYS := Lib.hid hYS
          have HMM := Lib.hid hm
          clear hH hXS hYS hm
          refine wp_region_lanes (fun W => Only wr.drew W (blk av ++ blk bv)) [0, 1, 2, 3, 4, 5, 6, 7, 8, 11, 12, 13, 14, 15, 16, 17, 18, 19] [9, 10] [20, 21] [22, 23] (by kernel_rfl) (by kernel_rfl) (Only.refl _ _) ?_
          repeat (first
            | (refine QuietL.val (o := ?_) (v := ?_) ?_ ?_ ?_ ?_ ?_; rotate_left 2; (focus (simp only [List.getElem?_toArray, List.getElem?_cons_succ, List.getElem?_cons_zero]; with_reducible rfl)); (focus (intro _ _ h; cases h)); (focus rfl); (focus (intro w' hJ; obtain ⟨y1, y2, y3, y4, y5, y6⟩ := KI _ hJ; go_simp <;> with_reducible rfl)); simp only [Act.put, List.setIfInBounds_toArray, List.set_cons_zero, List.set_cons_succ]))
          refine QuietL.nil ?_
          have HS2 : Apart ⟨22, 30, 31, 32, av, m, XS, px⟩ ⟨33, 41, 42, 43, bv, m, YS, py⟩ 47 := by
            exact ⟨(by show 31 < 47; decide), (by show 32 < 47; decide), (by show 42 < 47; decide), (by show 43 < 47; decide), (by show 31 ≠ 22 ∧ 31 ≠ 30 ∧ 31 ≠ 32 ∧ 32 ≠ 22 ∧ 32 ≠ 30; decide), (by show 42 ≠ 33 ∧ 42 ≠ 41 ∧ 42 ≠ 43 ∧ 43 ≠ 33 ∧ 43 ≠ 41; decide), (by show 31 ≠ 33 ∧ 31 ≠ 41 ∧ 31 ≠ 42 ∧ 31 ≠ 43 ∧ 32 ≠ 33 ∧ 32 ≠ 41 ∧ 32 ≠ 42 ∧ 32 ≠ 43; decide), (by show 42 ≠ 22 ∧ 42 ≠ 30 ∧ 42 ≠ 31 ∧ 42 ≠ 32 ∧ 43 ≠ 22 ∧ 43 ≠ 30 ∧ 43 ≠ 31 ∧ 43 ≠ 32; decide)⟩
          refine lanes_two (D1 := ⟨22, 30, 31, 32, av, m, XS, px⟩) (D2 := ⟨33, 41, 42, 43, bv, m, YS, py⟩) (base := (w.alloc (.cells #[.int .i64 0, .int .i64 0, .int .i64 0, .int .i64 0] 68)).heap.size) (w0 := wr.drew) (G := blk av ++ blk bv) (F1 := blk av) (F2 := blk bv) ⟨⟨rfl, rfl, hown1, rfl⟩, ⟨rfl, rfl, hown2, rfl⟩, hsep, hlt1, hlt2, hlow1, hlow2, Only.refl _ _, fun b hb => List.mem_append_left _ hb, fun b hb => List.mem_append_right _ hb, hbase, rfl, rfl, fun _ _ _ _ _ => rfl⟩ HS2 hm1 hm1 rfl rfl rfl rfl rfl rfl rfl rfl rfl rfl rfl rfl rfl rfl rfl rfl (fun W h => h) ?_
          intro a' W' FF FF' T2
          obtain ⟨_, _, q1, v1, e1, e2, own1, hF1⟩ := T2.l1
          obtain ⟨_, _, q2, v2, e3, e4, own2, hF2⟩ := T2.l2
          have hact := act_is HS2 T2.size T2.defers T2.other e1 e2 e3 e4
          subst hact
          have hsep2 : ∀ b ∈ blk v1, b ∉ blk v2 := fun b h1 h2 => T2.sep b (by rw [hF1]; exact h1) (by rw [hF2]; exact h2)
          have hon := T2.only
          simp only at own1 own2
          clear T2 e1 e2 e3 e4 hF1 hF2 HS2
          simp only [Act.put, List.setIfInBounds_toArray, List.set_cons_zero, List.set_cons_succ]
          repeat (first
            | (refine QuietL.val (o := ?_) (v := ?_) ?_ ?_ ?_ ?_ ?_; rotate_left 2; (focus (simp only [List.getElem?_toArray, List.getElem?_cons_succ, List.getElem?_cons_zero]; with_reducible rfl)); (focus (intro _ _ h; cases h)); (focus rfl); (focus (intro w' hJ; skip; go_simp <;> with_reducible rfl)); simp only [Act.put, List.setIfInBounds_toArray, List.set_cons_zero, List.set_cons_succ]))
          refine QuietL.nil ?_
          go_wp2
          go_roundw
          case rel => exact ⟨j + 1, by omega, by go_num, HSt.step HH.out HPJ.out (by rw [← HMM.out, ← HXS.out]; exact own1) (by rw [← HMM.out, ← HYS.out]; exact own2) hsep2 hon (Below.drew (Below.refl _ _))⟩
          case measure => simp [intOf]; omega
        · obtain rfl : j = m0 := by omega
          have d2 : decide ((j : Int) < (j : Int)) = false := by simp
          have HS := Lib.hid (show P ++ L.take j = P ++ L by rw [HM0.out, List.take_length])
          go_wp2
          go_roundw
          case rel => exact ⟨k + 1, by omega, by go_num, by rw [HT.out, ← HS.out]; exact hH⟩
          case measure => simp [intOf]; omega
    · obtain rfl : k = n := by omega
      have d1 : decide ((k : Int) < (k : Int)) = false := by simp
      have HS := Lib.hid (show (Ls.take k).flatten = Ls.flatten by rw [HN.out, List.take_length])
      rw [HS.out] at hH
      have CC := CH _ _ _ hH
      have zb := hH.2.2.2
      clear hH HS
      have z0 := (zb.cell (p := ⟨w.heap.size, 0, none⟩) (by simp))
      have z1 := (zb.cell (p := ⟨w.heap.size, 1, none⟩) (by simp))
      have z2 := (zb.cell (p := ⟨w.heap.size, 2, none⟩) (by simp))
      have z3 := (zb.cell (p := ⟨w.heap.size, 3, none⟩) (by simp))
      have zf := fun o => (zb.frozen (p := ⟨w.heap.size, o, none⟩) (by simp))
      have zs := zb.size
      simp only [World.cell?_alloc_new, World.frozen?_alloc_new] at z0 z1 z2 z3 zf
      simp only [World.size_alloc] at zs
      go_wp2_with (first | (go_at_call 82; ((with_reducible refine (CC).mono ?_); rintro e w9 ⟨rfl, b9⟩; have y0 := (b9.cell (p := ⟨w.heap.size, 0, none⟩) (by show w.heap.size < _; omega)).trans z0; have y1 := (b9.cell (p := ⟨w.heap.size, 1, none⟩) (by show w.heap.size < _; omega)).trans z1; have y2 := (b9.cell (p := ⟨w.heap.size, 2, none⟩) (by show w.heap.size < _; omega)).trans z2; have y3 := (b9.cell (p := ⟨w.heap.size, 3, none⟩) (by show w.heap.size < _; omega)).trans z3; have yf := fun o => (b9.frozen (p := ⟨w.heap.size, o, none⟩) (by show w.heap.size < _; omega)).trans (zf o))))
      refine bodyPost_ret (v := .agg #[.int .i64 Q0.x0, .int .i64 Q0.y0, .int .i64 Q0.x1, .int .i64 Q0.y1]) (by simp [results, Try.results53, go_sem, y0, y1, y2, y3]) rfl ⟨rfl, ?_⟩
      exact below_set4 (b := w.heap.size) (((below_a1 w _).trans (zb.mono (by simp))).trans (b9.mono (by omega))) (Nat.le_refl _) _ _ _ _

end Go.Proofs.Ytelhckckcilpaaa

namespace Go.Proofs.Ytelhckckcilpaaa
open Go Go.RowKit
set_option linter.unusedVariables false
set_option linter.unusedSimpArgs false

theorem zer_size (k : Nat) : (Builtin.zeroCells #[.int .i64 0, .int .i64 0, .int .i64 0] k).size = k * 3 := by simp [Builtin.zeroCells]
/-- A fresh row of zeros, none of them in use. -/
theorem grown_run (n : Nat) (h0 : 0 < n) (hn : n ≤ 100000) (w : World) : ∃ cap cs, (Builtin.append_ #[43, 3] 43 #[.slice none 0 0, .int .i64 (n : Nat)]).run Try.prog w = .ok (.slice (some ⟨w.heap.size, 0, none⟩) n cap) (w.drew.alloc (.cells cs 57)) ∧ n ≤ cap ∧ cap ≤ maxLen ∧ cs.size = cap * 3 := by
  obtain ⟨i, hi, hz, hs, hb⟩ := info_partsS ptInfoS
  have hf : (Builtin.firstCells i.size 0 (.slice none 0 0)).run Try.prog w.drew = .ok ([] : List Value).toArray w.drew := by simp [Builtin.firstCells, Sem.run_pure]
  have hncap : Builtin.nextslicecap (0 + n) 0 * 24 ≤ 281474976710656 := growslice_fits (by omega) (by omega)
  have hr := Lib.run_append_grow_zeros (P := Try.prog) w 43 3 43 57 i (.agg #[.int .i64 0, .int .i64 0, .int .i64 0]) .i64 .i64 Try.underlying43 Try.underlying3 hi hz none 0 0 [] hf n h0 (by omega) (by omega) (by omega) (by rw [hb]; omega) (by rw [hb]; exact hncap)
  have hge := grownCap_ge w (0 + n) 0 57
  have hcm2 := grownCap_le_maxLen w (0 + n) 0 57 (by unfold maxLen; omega)
  have hzc : (Value.agg #[.int .i64 0, .int .i64 0, .int .i64 0]).cells = #[.int .i64 0, .int .i64 0, .int .i64 0] := by simp [Value.cells]
  rw [hzc] at hr
  simp only [Nat.zero_add] at hr hge hcm2
  refine ⟨_, _, hr, hge, hcm2, ?_⟩
  simp only [Array.size_append, List.size_toArray, List.length_nil, zer_size]
  omega
theorem slice_zeroP (g n c : Nat) (w : World) : (Instr.sliceAt 43 (.slice (some ⟨g, 0, none⟩) n c) none (some (.int .i64 0)) none).run Try.prog w = .ok (.slice (some ⟨g, 0, none⟩) 0 c) w := by
  have hu := Try.underlying43
  have hz := Try.sizeOf57
  have i4 : (0 : Int) ≤ (c : Int) := by omega
  simp [Instr.sliceAt, Instr.slice, Instr.sliceBounds, Instr.sliceBound, run_underlying hu, Sem.run_bind, Sem.run_pure, Result.andThen, asIntOf, hz, i4, Addr.add]
theorem slice_nilP (w : World) : (Instr.sliceAt 43 (.slice none 0 0) none (some (.int .i64 0)) none).run Try.prog w = .ok (.slice none 0 0) w := by
  have hu := Try.underlying43
  have hz := Try.sizeOf57
  simp [Instr.sliceAt, Instr.slice, Instr.sliceBounds, Instr.sliceBound, run_underlying hu, Sem.run_bind, Sem.run_pure, Result.andThen, asIntOf, hz, Addr.add]
set_option maxRecDepth 100000 in
theorem grow_any (n : Nat) (hn : n ≤ 100000) (w : World) : Calls Try.prog 69 #[.slice none 0 0, .int .i64 (n : Nat)] w fun e w' => ∃ v, e = .returned v ∧ w'.ownsRow w.heap.size 57 3 v 0 [] ∧ Below w.heap.size w w' := by
  have d0 : decide ((n : Int) < 0) = false := decide_eq_false (by omega)
  rcases Nat.eq_zero_or_pos n with h0 | h0
  · subst h0
    go_enter Try.func69, Try.ntmps69
    go_wp2
    go_ret
    exact ⟨_, rfl, World.ownsRow_nil _ _ _ _, Below.refl _ _⟩
  · obtain ⟨cap, cs, hr, h1, h2, h3⟩ := grown_run n h0 hn w
    have hS := slice_zeroP w.heap.size n cap
    have hN := slice_nilP w
    have d1 : decide ((n : Int) > 0) = true := by simp; omega
    have HO : Hid ((w.drew.alloc (.cells cs 57)).ownsRow w.heap.size 57 3 (.slice (some ⟨w.heap.size, 0, none⟩) 0 cap) 0 [] ∧ Below w.heap.size w (w.drew.alloc (.cells cs 57))) := Lib.hid ⟨⟨rfl, .inr ⟨w.heap.size, cap, cs, rfl, Nat.le_refl _, heap_alloc_new w.drew _, Nat.zero_le _, h2, h3, by simp⟩⟩, ((Below.refl _ _).drew).alloc (Nat.le_refl _) _⟩
    clear h1 h2 h3
    go_enter Try.func69, Try.ntmps69
    go_wp2_with (at_builtin; refine Lib.wpList_append_run w rfl (.tmp 20) (.tmp 21) 43 3 (by rfl) (.slice none 0 0) (.int .i64 (n : Nat)) (by rfl) (by rfl) _ _ hr ?_)
    go_ret
    exact ⟨_, rfl, HO.out.1, HO.out.2⟩
set_option maxRecDepth 100000 in
set_option maxHeartbeats 1000000 in
theorem concat_any (A : Option Addr) (c : Nat) (Ls : List (List Pt)) (w : World) (h : OutAt w w.heap.size A Ls) (hn : Ls.length ≤ 100000) (hc : cntO Ls ≤ 100000) :
    Calls Try.prog 32 #[.slice A Ls.length c] w fun e w' => ∃ v, e = .returned v ∧ w'.ownsRow w.heap.size 57 3 v Ls.flatten.length (ptCells Ls.flatten) ∧ Below w.heap.size w w' := by
  have HL := Lib.hid h
  have HC := Lib.hid hc
  have HCC := Lib.hid hc
  obtain ⟨n, hnn⟩ : ∃ n, n = Ls.length := ⟨_, rfl⟩
  rw [← hnn] at hn ⊢
  have HN := Lib.hid hnn
  clear h hnn hc
  obtain ⟨fl, hfl⟩ : ∃ fl, fl = Ls.flatten.length := ⟨_, rfl⟩
  rw [← hfl]
  have HFLL := Lib.hid hfl
  clear hfl
  obtain ⟨i0, hi, hz0, hz1, hz2⟩ := info_partsS ptInfoS
  go_enter Try.func32, Try.ntmps32
  go_wp2
  go_loop [3, 11] (fun s i => ∃ k : Nat, k ≤ n ∧ i = .int .i64 (k : Nat) ∧ s = .int .i64 (cntO (Ls.take k) : Nat)) (fun _ i => n - (intOf i).toNat)
  case atStart => exact ⟨0, Nat.zero_le _, rfl, rfl⟩
  case round =>
    obtain ⟨k, hk, rfl, rfl⟩ := hrel
    by_cases hlt : k < n
    · have d1 : decide ((k : Int) < (n : Int)) = true := by simp; omega
      obtain ⟨L, hL⟩ := at_some (L := Ls) (k := k) (by rw [← HN.out]; exact hlt)
      obtain ⟨b, o, Ai, ci, rfl, hbl, c0, hE⟩ := HL.out.at' k L hL
      have hsn : cntO (Ls.take (k + 1)) = cntO (Ls.take k) + L.length := by rw [take_snoc1 hL, cntO_snoc]
      have hle := cntO_take Ls (k + 1)
      have hcc := HC.out
      have e1 : IntKind.i64.wrap (((cntO (Ls.take k) : Nat) : Int) + ((L.length : Nat) : Int)) = ((cntO (Ls.take (k + 1)) : Nat) : Int) := by rw [IntWalk.i64_in _ (by omega)]; omega
      have d2 : decide (((cntO (Ls.take (k + 1)) : Nat) : Int) < 0) = false := decide_eq_false (by omega)
      have E1 := Lib.hid hsn
      have HLE := Lib.hid (show cntO (Ls.take k) + L.length ≤ 100000 by omega)
      clear hL hE hsn hle hcc
      obtain ⟨s1, hs1⟩ : ∃ s1, s1 = cntO (Ls.take k) := ⟨_, rfl⟩
      obtain ⟨s2, hs2⟩ : ∃ s2, s2 = cntO (Ls.take (k + 1)) := ⟨_, rfl⟩
      obtain ⟨m, hm⟩ : ∃ m, m = L.length := ⟨_, rfl⟩
      have E2 := Lib.hid (show s2 = s1 + m by rw [hs1, hs2, hm]; exact E1.out)
      have HS2 := Lib.hid hs2
      rw [← hs1, ← hs2, ← hm] at e1
      rw [← hs2] at d2
      rw [← hs1, ← hm] at HLE
      rw [← hm] at c0
      rw [← hs1]
      clear hs1 hs2 hm E1
      go_wp2
      go_round
      case rel => exact ⟨k + 1, by omega, by first | rfl | (go_num), by first | (rw [← HS2.out]; done) | (rw [← HS2.out]; exact congrArg (Value.int .i64) (by have := E2.out; omega))⟩
      case measure => first | (simp [intOf]; done) | (simp [intOf]; omega)
    · obtain rfl : k = n := by omega
      have d1 : ¬ (k : Int) < (k : Int) := by omega
      have hk2 : Ls.take k = Ls := by rw [HN.out]; exact List.take_length
      rw [hk2]
      have CG := grow_any (cntO Ls) HC.out w
      obtain ⟨sz, hsz⟩ : ∃ sz, sz = cntO Ls := ⟨_, rfl⟩
      rw [← hsz] at CG ⊢
      clear hsz
      go_wp2_with (first | (go_at_call 69; ((with_reducible refine (CG).mono ?_); rintro e w1 ⟨v1, rfl, own1, b1⟩)))
      go_loopw [6, 27] (fun v i wr => ∃ j : Nat, j ≤ k ∧ i = .int .i64 (j : Nat) ∧ wr.ownsRow w.heap.size 57 3 v (Ls.take j).flatten.length (ptCells (Ls.take j).flatten) ∧ Below w.heap.size w wr) (fun _ i _ => k - (intOf i).toNat)
      case atStart => exact ⟨0, Nat.zero_le _, rfl, by simpa [ptCells] using own1, b1⟩
      case round =>
        clear own1 b1 CG
        obtain ⟨j, hj, rfl, hown, hb⟩ := hrel
        by_cases hlt : j < k
        · have d3 : decide ((j : Int) < (k : Int)) = true := by simp; omega
          obtain ⟨L, hL⟩ := at_some (L := Ls) (k := j) (by rw [← HN.out]; exact hlt)
          obtain ⟨b, o, Ai, ci, rfl, hbl, c0, hE⟩ := HL.out.at' j L hL
          have g0 := (hb.cell (p := ⟨b, o + j, none⟩) hbl).trans c0
          have g3 : b < wr.heap.size := Nat.lt_of_lt_of_le hbl hb.size
          have HFL := Lib.hid (show (Ls.take (j + 1)).flatten = (Ls.take j).flatten ++ L by rw [take_snoc1 hL]; simp)
          have hcnt : (Ls.take j).flatten.length + L.length ≤ 100000 := by
            have h1 := cntO_flat (Ls.take (j + 1))
            have h2 := cntO_take Ls (j + 1)
            have h3 := HCC.out
            rw [HFL.out, List.length_append] at h1
            omega
          have HE := Lib.hid (hE.below hb)
          have hone : ∀ u ∈ ptCells L, u.oneCell' = true := ptCells_one L
          have hplen := ptCells_len L
          clear c0 hE hL
          obtain ⟨nf, hnf⟩ : ∃ nf, nf = (Ls.take j).flatten.length := ⟨_, rfl⟩
          have HNF := Lib.hid hnf
          rw [← hnf] at hown hcnt
          clear hnf
          have hbs := hb.size
          obtain ⟨m, hm⟩ : ∃ m, m = L.length := ⟨_, rfl⟩
          have HM := Lib.hid hm
          rw [← hm] at hcnt hplen g0
          clear hm
          generalize hPC : ptCells L = PC at *
          have HPC := Lib.hid hPC
          clear hPC
          go_wp2_with (at_builtin; refine wpList_append_src _ rfl (.tmp 31) (.tmp 32) 43 rfl w.heap.size 57 i0 (.agg #[.int .i64 0, .int .i64 0, .int .i64 0]) 3 24 Try.underlying43 hi hz0 hz1 hz2 rfl (by decide) _ nf (ptCells (Ls.take j).flatten) rfl hown w.heap.size Ai m ci PC rfl HE.out hplen hone (by simp only [maxLen]; omega) (by omega) hbs ?_; intro v6 w6 own6 hg6 hat6)
          have hb6 : Below w.heap.size w w6 := hb.grown hg6 hbs (fun b hb' => ownS_low hown b (by have h9 : u6.ownBlock = some b := hb'; unfold blk; rw [h9]; simp))
          have own7 : w6.ownsRow w.heap.size 57 3 v6 (Ls.take (j + 1)).flatten.length (ptCells (Ls.take (j + 1)).flatten) := by
            rw [HFL.out, List.length_append, ptCells_append, ← HNF.out, ← HM.out, HPC.out]; exact own6
          go_roundw
          case rel => exact ⟨j + 1, by omega, by first | rfl | (go_num), own7, hb6⟩
          case measure => first | (simp [intOf]; done) | (simp [intOf]; omega)
        · obtain rfl : j = k := by omega
          have d3 : ¬ (j : Int) < (j : Int) := by omega
          rw [hk2, ← HFLL.out] at hown
          have HO := Lib.hid hown
          clear hown
          go_wp2
          exact bodyPost_ret (results_tmp rfl _ _ _) rfl ⟨u6, rfl, HO.out, hb⟩
end Go.Proofs.Ytelhckckcilpaaa

namespace Go.Proofs.Ytelhckckcilpaaa
open Go Go.RowKit
set_option linter.unusedVariables false
set_option linter.unusedSimpArgs false

def stpE (pl : Pt → Int) : List Pt → Int → Option (List Int)
  | [], _ => some []
  | p :: P, a => if ((pl p).tdiv 65536 * 65536 == pl p) && (inS ((pl p).tdiv 65536) && inS ((pl p).tdiv 65536 - a)) then (stpE pl P ((pl p).tdiv 65536)).map (((pl p).tdiv 65536 - a) :: ·) else none
theorem stp_next {pl : Pt → Int} {P : List Pt} {a : Int} {i : Nat} {p : Pt} (h : P[i]? = some p) : stpE pl (P.drop i) a = if ((pl p).tdiv 65536 * 65536 == pl p) && (inS ((pl p).tdiv 65536) && inS ((pl p).tdiv 65536 - a)) then (stpE pl (P.drop (i + 1)) ((pl p).tdiv 65536)).map (((pl p).tdiv 65536 - a) :: ·) else none := by
  obtain ⟨h1, h2⟩ := List.getElem?_eq_some_iff.1 h
  rw [List.drop_eq_getElem_cons h1, h2]; rfl
theorem fits_new (x y : Int) (W : World) : Calls Try.prog 61 #[.slice (some ⟨W.heap.size, 0, none⟩) 2 2] (W.alloc (.cells #[.int .i64 x, .int .i64 y] 3)) fun e w' => e = .returned (.bool (inS x && inS y)) ∧ Below W.heap.size W w' := by
  have L8 : Lists (W.alloc (.cells #[.int .i64 x, .int .i64 y] 3)) (W.alloc (.cells #[.int .i64 x, .int .i64 y] 3)).heap.size (some ⟨W.heap.size, 0, none⟩) (intCells [x, y]) := (lists_row W [.int .i64 x, .int .i64 y] 3).more (by simp)
  refine (spfits_any _ 2 x y _ L8).mono fun e w' h => ⟨h.1, ?_⟩
  have b := below_a1 W (.cells #[.int .i64 x, .int .i64 y] 3)
  exact b.trans (h.2.mono b.size)
set_option maxRecDepth 100000 in
theorem placeX_any (x y z : Int) (w : World) : Calls Try.prog 34 #[.agg #[.int .i64 x, .int .i64 y, .int .i64 z]] w fun e w' => e = .returned (.int .i64 x) ∧ Below w.heap.size w w' := by
  go_enter Try.func34, Try.ntmps34
  go_wp2
  go_ret
  exact ⟨rfl, below_a1 _ _⟩
set_option maxRecDepth 100000 in
theorem placeY_any (x y z : Int) (w : World) : Calls Try.prog 35 #[.agg #[.int .i64 x, .int .i64 y, .int .i64 z]] w fun e w' => e = .returned (.int .i64 y) ∧ Below w.heap.size w w' := by
  go_enter Try.func35, Try.ntmps35
  go_wp2
  go_ret
  exact ⟨rfl, below_a1 _ _⟩
def StpP (w : World) (n : Nat) (R : Option (List Int)) (e : Ending) (w' : World) : Prop :=
  (match R with
   | none => e = .returned (.tuple #[.slice none 0 0, .bool false])
   | some L => ∃ v, e = .returned (.tuple #[v, .bool true]) ∧ w'.ownsRow w.heap.size 3 1 v n (L.map (Value.int .i64)) ∧ L.length = n) ∧ Below w.heap.size w w'
theorem StpP.no {w w' : World} {n : Nat} {R : Option (List Int)} (h : R = none) (b : Below w.heap.size w w') : StpP w n R (.returned (.tuple #[.slice none 0 0, .bool false])) w' := by
  subst h; exact ⟨rfl, b⟩
theorem StpP.yes {w w' : World} {n : Nat} {R : Option (List Int)} {L : List Int} {v : Value} (h : R = some L) (hv : w'.ownsRow w.heap.size 3 1 v n (L.map (Value.int .i64))) (hl : L.length = n) (b : Below w.heap.size w w') : StpP w n R (.returned (.tuple #[v, .bool true])) w' := by
  subst h; exact ⟨⟨v, rfl, hv, hl⟩, b⟩
set_option maxRecDepth 100000 in
set_option maxHeartbeats 2000000 in
theorem steps_any (g : Nat) (pl : Pt → Int) (A : Option Addr) (c n : Nat) (P : List Pt) (w : World) (hP : Lists w w.heap.size A (ptCells P)) (hPn : P.length = n) (hn : n ≤ 100000) (hb : ∀ p ∈ P, -1125899906842624 ≤ pl p ∧ pl p ≤ 1125899906842624)
    (eg : ∀ args w, (callFunc g args).run Try.prog w = .ok (.enter g args) w) (hpl : ∀ (p : Pt) (W : World), Calls Try.prog g #[.agg #[.int .i64 p.1, .int .i64 p.2.1, .int .i64 p.2.2]] W fun e w' => e = .returned (.int .i64 (pl p)) ∧ Below W.heap.size W w') :
    Calls Try.prog 33 #[.slice A n c, .func (.func g) #[] #[]] w (StpP w n (stpE pl P 0)) := by
  obtain ⟨R, hR⟩ : ∃ R, R = stpE pl P 0 := ⟨_, rfl⟩
  rw [← hR]
  have HP := Lib.hid hP
  have HPN := Lib.hid hPn
  have HB := Lib.hid hb
  have Q0 : Hid (R = (stpE pl (P.drop 0) 0).map (([] : List Int) ++ ·)) := Lib.hid (by rw [hR]; simp)
  have HPL := Lib.hid hpl
  obtain ⟨i0, hi, hz0, hz1, hz2⟩ := info_partsS intInfoS
  clear hR hP hPn hb hpl
  go_enter Try.func33, Try.ntmps33
  go_wp2
  go_loopw [6, 7, 13] (fun v av i wr => ∃ (k : Nat) (acc : List Int) (a : Int), k ≤ n ∧ acc.length = k ∧ i = .int .i64 (k : Nat) ∧ av = .int .i64 a ∧ -32768 ≤ a ∧ a ≤ 32767 ∧ wr.ownsRow w.heap.size 3 1 v k (acc.map (Value.int .i64)) ∧ Below w.heap.size w wr ∧ Hid (R = (stpE pl (P.drop k) a).map (acc ++ ·))) (fun _ _ i _ => n - (intOf i).toNat)
  case atStart => exact ⟨0, [], 0, Nat.zero_le _, rfl, rfl, rfl, by omega, by omega, World.ownsRow_nil _ _ _ _, Below.refl _ _, Q0⟩
  case round =>
    clear Q0
    obtain ⟨i, acc, a, hk, hacc, rfl, rfl, ha0, ha1, hown, hbw, hQ⟩ := hrel
    by_cases hlt : i < n
    · have d1 : decide ((i : Int) < (n : Int)) = true := by simp; omega
      obtain ⟨⟨px, py, pz⟩, hp⟩ := at_some (L := P) (k := i) (by rw [HPN.out]; exact hlt)
      obtain ⟨v0, v1⟩ := HB.out _ (List.mem_of_getElem? hp)
      obtain ⟨s, u, rfl, hs, c0, c1, c2⟩ := lists_pt HP.out hp
      have hw0 : ∀ j, wr.cell? ⟨s, j, none⟩ = w.cell? ⟨s, j, none⟩ := fun j => hbw.cell (p := ⟨s, j, none⟩) hs
      have y0 := (hw0 _).trans c0
      have y1 := (hw0 _).trans c1
      have y2 := (hw0 _).trans c2
      simp only at y0 y1 y2
      have yl : s < wr.heap.size := Nat.lt_of_lt_of_le hs hbw.size
      have hrun := hQ.out
      rw [stp_next hp] at hrun
      have CP2 := fun W => HPL.out (px, py, pz) W
      dsimp only at CP2
      obtain ⟨v, hv⟩ : ∃ v, v = pl (px, py, pz) := ⟨_, rfl⟩
      rw [← hv] at hrun CP2 v0 v1
      have hrw : wrap64 (v.tdiv 65536 * 65536) = v.tdiv 65536 * 65536 ∧ wrap64 (v.tdiv 65536 - a) = v.tdiv 65536 - a := by
        have hxr : -17179869184 ≤ v.tdiv 65536 ∧ v.tdiv 65536 ≤ 17179869184 := by
          rcases Int.le_total 0 v with h | h
          · rw [Int.tdiv_eq_ediv_of_nonneg h]; omega
          · have : v.tdiv 65536 = -((-v).tdiv 65536) := by rw [Int.neg_tdiv]; omega
            rw [this, Int.tdiv_eq_ediv_of_nonneg (by omega)]; omega
        obtain ⟨x0, x1⟩ := hxr
        generalize v.tdiv 65536 = x at x0 x1
        constructor <;> (unfold wrap64; omega)
      rw [← hrw.1, ← hrw.2] at hrun
      have CP1 := CP2 (wr.alloc (.cells #[.int .i64 px, .int .i64 py, .int .i64 pz] 57))
      have K0 := Lib.hid (Blk.new wr 57 #[.int .i64 px, .int .i64 py, .int .i64 pz])
      have BA := below_a1 wr (.cells #[.int .i64 px, .int .i64 py, .int .i64 pz] 57)
      have CT := fun W => fits_new (v.tdiv 65536) (wrap64 (v.tdiv 65536 - a)) W
      have HO := Lib.hid hown
      have HRUN := Lib.hid hrun
      have hbs := hbw.size
      clear hrw hv hp c0 c1 c2 hw0 hQ hown hrun
      by_cases hm : wrap64 (v.tdiv 65536 * 65536) = v
      · cases hin : inS (v.tdiv 65536) && inS (wrap64 (v.tdiv 65536 - a))
        · have HN := Lib.hid (show R = none by rw [HRUN.out, hin, Bool.and_false]; rfl)
          rw [hin] at CT
          clear HRUN hin
          go_wp2_with (first | (go_at_fn g; ((with_reducible refine (CP1).mono ?_); rintro e w1 ⟨rfl, b1⟩; have K1 := Lib.hid (K0.out.below b1); have z0 := K1.out.cell 0; have z1 := K1.out.cell 1; have z2 := K1.out.cell 2; have zl := K1.out.lt; simp only [List.getElem?_toArray, List.getElem?_cons_succ, List.getElem?_cons_zero] at z0 z1 z2)) | (go_at_fn g; ((with_reducible refine (CP2 _).mono ?_); rintro e w2 ⟨rfl, b2⟩; have BR := BA.trans ((b1.trans (b2.mono b1.size)).mono BA.size); have BT := hbw.trans (BR.mono hbs); have ht := BT.size; have hr2 := BR.size)) | (go_at_call 61; ((with_reducible refine (CT _).mono ?_); rintro e w9 ⟨rfl, b9⟩; have hs9 := b9.size)))
          exact bodyPost_ret (results_tmp2 rfl _ _ _) rfl (by show StpP w n R (.returned (.tuple #[.slice none 0 0, .bool false])) _; exact StpP.no HN.out (BT.trans (b9.mono BT.size)))
        · have HN := Lib.hid (show R = ((stpE pl (P.drop (i + 1)) (v.tdiv 65536)).map (wrap64 (v.tdiv 65536 - a) :: ·)).map (acc ++ ·) by rw [HRUN.out, hin, show (wrap64 (v.tdiv 65536 * 65536) == v) = true by simp [hm]]; rfl)
          have hxs : -32768 ≤ v.tdiv 65536 ∧ v.tdiv 65536 ≤ 32767 := by
            unfold inS at hin
            simp at hin
            omega
          rw [hin] at CT
          clear HRUN hin
          have HXS := Lib.hid hxs
          clear hxs
          go_wp2_with (first | (go_at_fn g; ((with_reducible refine (CP1).mono ?_); rintro e w1 ⟨rfl, b1⟩; have K1 := Lib.hid (K0.out.below b1); have z0 := K1.out.cell 0; have z1 := K1.out.cell 1; have z2 := K1.out.cell 2; have zl := K1.out.lt; simp only [List.getElem?_toArray, List.getElem?_cons_succ, List.getElem?_cons_zero] at z0 z1 z2)) | (go_at_fn g; ((with_reducible refine (CP2 _).mono ?_); rintro e w2 ⟨rfl, b2⟩; have BR := BA.trans ((b1.trans (b2.mono b1.size)).mono BA.size); have BT := hbw.trans (BR.mono hbs); have ht := BT.size; have hr2 := BR.size)) | (go_at_call 61; ((with_reducible refine (CT _).mono ?_); rintro e w9 ⟨rfl, b9⟩; have hs9 := b9.size)) | (at_builtin; refine wpList_append_src _ rfl (.tmp 36) (.tmp 40) 38 rfl w.heap.size 3 i0 (.int .i64 0) 1 8 Try.underlying38 hi hz0 hz1 hz2 rfl (by decide) _ i (acc.map (Value.int .i64)) rfl (ownS_stay HO.out (BR.trans ((b9.trans ((below_a1 w9 (.cells #[.int .i64 (wrap64 (v.tdiv 65536 - a))] 3)).mono b9.size)).mono BR.size))) (w9.heap.size + 1) (some ⟨w9.heap.size, 0, none⟩) 1 1 [.int .i64 (wrap64 (v.tdiv 65536 - a))] (by rfl) (lists_row w9 [.int .i64 (wrap64 (v.tdiv 65536 - a))] 3) rfl (by simp [Value.oneCell']) (by simp only [maxLen]; omega) (by omega) (by simp; omega) ?_; intro v6 w6 own6 hg6 hat6))
          have BN : Below wr.heap.size wr (w9.alloc (.cells #[.int .i64 (wrap64 (v.tdiv 65536 - a))] 3)) := BR.trans ((b9.trans ((below_a1 w9 (.cells #[.int .i64 (wrap64 (v.tdiv 65536 - a))] 3)).mono b9.size)).mono BR.size)
          have hb6 : Below w.heap.size w w6 := (hbw.trans (BN.mono hbs)).grown hg6 ((hbw.trans (BN.mono hbs)).size) (fun b hb' => ownS_low HO.out b (by have h9 : u6.ownBlock = some b := hb'; unfold blk; rw [h9]; simp))
          have own7 : w6.ownsRow w.heap.size 3 1 v6 (i + 1) ((acc ++ [wrap64 (v.tdiv 65536 - a)]).map (Value.int .i64)) := by rw [List.map_append]; exact own6
          go_roundw
          case rel => exact ⟨i + 1, acc ++ [wrap64 (v.tdiv 65536 - a)], _, by omega, by rw [List.length_append, hacc]; rfl, by first | rfl | (go_num), rfl, HXS.out.1, HXS.out.2, own7, hb6, Lib.hid (by rw [HN.out]; cases stpE pl (P.drop (i + 1)) (v.tdiv 65536) <;> simp)⟩
          case measure => first | (simp [intOf]; done) | (simp [intOf]; omega)
      · have HN := Lib.hid (show R = none by rw [HRUN.out, show (wrap64 (v.tdiv 65536 * 65536) == v) = false by simp [hm]]; rfl)
        clear HRUN CT
        go_wp2_with (first | (go_at_fn g; ((with_reducible refine (CP1).mono ?_); rintro e w1 ⟨rfl, b1⟩; have K1 := Lib.hid (K0.out.below b1); have z0 := K1.out.cell 0; have z1 := K1.out.cell 1; have z2 := K1.out.cell 2; have zl := K1.out.lt; simp only [List.getElem?_toArray, List.getElem?_cons_succ, List.getElem?_cons_zero] at z0 z1 z2)) | (go_at_fn g; ((with_reducible refine (CP2 _).mono ?_); rintro e w2 ⟨rfl, b2⟩; have BR := BA.trans ((b1.trans (b2.mono b1.size)).mono BA.size); have BT := hbw.trans (BR.mono hbs); have ht := BT.size; have hr2 := BR.size)))
        exact bodyPost_ret (results_tmp2 rfl _ _ _) rfl (by show StpP w n R (.returned (.tuple #[.slice none 0 0, .bool false])) _; exact StpP.no HN.out BT)
    · obtain rfl : i = n := by omega
      have d1 : ¬ (i : Int) < (i : Int) := by omega
      have HR := Lib.hid (show R = some acc by
        rw [hQ.out, List.drop_eq_nil_of_le (by rw [HPN.out]; exact Nat.le_refl _)]
        simp [stpE])
      have HO := Lib.hid hown
      clear hQ hown
      go_wp2
      exact bodyPost_ret (results_tmp2 rfl _ _ _) rfl (by show StpP w i R (.returned (.tuple #[u6, .bool true])) wr; exact StpP.yes HR.out HO.out hacc hbw)
end Go.Proofs.Ytelhckckcilpaaa
