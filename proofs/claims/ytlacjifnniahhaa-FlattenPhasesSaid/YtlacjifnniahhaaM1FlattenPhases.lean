/- Part 21 of the proof: FlY. -/
import Derived.Deep.Cut
import Derived.Deep.CutBlock
import Derived.RangeFuncKeeps
import Derived.RangeFuncCalls
import Derived.RangeFuncLeaves
import Derived.RangeFuncFrom
import Derived.RangeFuncNested
import Derived.RangeFuncBound
import Derived.Shelf.Abstract
import Derived.Shelf.RegionOpen
import Derived.WalkKit
import Derived.OwnWalkIn
import Derived.TacticsInMore
import Derived.LoopNIn
import Derived.LoopIn
import Derived.Maps.OwnIn
import Derived.Deep.WholeRow
import Derived.Test.YtlacjifnniahhaaM0FlattenPhases

namespace Go.Proofs.Ytlacjifnniahhaa
open Go Go.RowKit Go.Shelf
attribute [local go_sem] Oper.semAt_some
set_option linter.unusedVariables false
set_option linter.unusedSimpArgs false

theorem fold_snoc (f : Int → Int → Int) (xs : List Int) (x : Int) (h : xs ≠ []) : (xs ++ [x]).foldl f ((xs ++ [x]).getD 0 0) = f (xs.foldl f (xs.getD 0 0)) x := by
  cases xs with
  | nil => exact absurd rfl h
  | cons a r => simp [List.foldl_append]
theorem hullD_one (d : Dt) : hullD [d] = ⟨d.1, d.2, d.1, d.2⟩ := by
  unfold hullD hullQ
  simp
theorem hullD_snoc (D : List Dt) (d : Dt) (h : D ≠ []) : hullD (D ++ [d]) = ⟨min (hullD D).x0 d.1, min (hullD D).y0 d.2, max (hullD D).x1 d.1, max (hullD D).y1 d.2⟩ := by
  unfold hullD
  rw [if_neg (by simp), if_neg h]
  unfold hullQ
  rw [List.map_append, List.map_append]
  simp only [List.map_cons, List.map_nil]
  rw [fold_snoc min _ _ (by simpa using h), fold_snoc min _ _ (by simpa using h), fold_snoc max _ _ (by simpa using h), fold_snoc max _ _ (by simpa using h)]
theorem bxF_one (d : Dt) : bxF [d] = ⟨d.1 / 64, d.2 / 64, (d.1 + 63) / 64, (d.2 + 63) / 64⟩ := by unfold bxF; rw [hullD_one]
theorem bxF_nil : bxF [] = ⟨0, 0, 0, 0⟩ := by kernel_rfl
theorem min_div (a x : Int) : (x / 64 < a / 64 → min a x / 64 = x / 64) ∧ (¬ x / 64 < a / 64 → min a x / 64 = a / 64) := by omega
theorem max_div (a x : Int) : ((a + 63) / 64 < (x + 63) / 64 → (max a x + 63) / 64 = (x + 63) / 64) ∧ (¬ (a + 63) / 64 < (x + 63) / 64 → (max a x + 63) / 64 = (a + 63) / 64) := by omega
/-- One dot more. -/
theorem bxF_step (D : List Dt) (d : Dt) (h : D ≠ []) :
    ((d.1 / 64 < (bxF D).x0 → d.1 / 64 = (bxF (D ++ [d])).x0) ∧ (¬ d.1 / 64 < (bxF D).x0 → (bxF D).x0 = (bxF (D ++ [d])).x0)) ∧
    ((d.2 / 64 < (bxF D).y0 → d.2 / 64 = (bxF (D ++ [d])).y0) ∧ (¬ d.2 / 64 < (bxF D).y0 → (bxF D).y0 = (bxF (D ++ [d])).y0)) ∧
    (((bxF D).x1 < (d.1 + 63) / 64 → (d.1 + 63) / 64 = (bxF (D ++ [d])).x1) ∧ (¬ (bxF D).x1 < (d.1 + 63) / 64 → (bxF D).x1 = (bxF (D ++ [d])).x1)) ∧
    (((bxF D).y1 < (d.2 + 63) / 64 → (d.2 + 63) / 64 = (bxF (D ++ [d])).y1) ∧ (¬ (bxF D).y1 < (d.2 + 63) / 64 → (bxF D).y1 = (bxF (D ++ [d])).y1)) := by
  unfold bxF
  rw [hullD_snoc D d h]
  have h1 := min_div (hullD D).x0 d.1
  have h2 := min_div (hullD D).y0 d.2
  have h3 := max_div (hullD D).x1 d.1
  have h4 := max_div (hullD D).y1 d.2
  exact ⟨⟨fun h => (h1.1 h).symm, fun h => (h1.2 h).symm⟩, ⟨fun h => (h2.1 h).symm, fun h => (h2.2 h).symm⟩, ⟨fun h => (h3.1 h).symm, fun h => (h3.2 h).symm⟩, fun h => (h4.1 h).symm, fun h => (h4.2 h).symm⟩
set_option maxRecDepth 100000 in
set_option maxHeartbeats 8000000 in
theorem rbox21 (A : Option Addr) (c : Nat) (Ls : List (List Dt)) (w : World) (h : OutF dtL w w.heap.size A Ls) (hs : SmF Ls) (hb : mayF Ls = 0) :
    Calls Try.prog 24 #[.slice A Ls.length c] w fun e w' => e = .returned (.agg #[.int .i64 (boxF Ls).x0, .int .i64 (boxF Ls).y0, .int .i64 (boxF Ls).x1, .int .i64 (boxF Ls).y1]) ∧ Below w.heap.size w w' := by
  have hok := mayF_ok hb
  have hn0 := hs.1
  have HALL := Lib.hid hok.2
  have HM := Lib.hid (fun (L : List Dt) (hL : L ∈ Ls) => hs.len hL)
  have HL := Lib.hid h
  obtain ⟨n, hnn⟩ : ∃ n, n = Ls.length := ⟨_, rfl⟩
  rw [← hnn] at hn0 ⊢
  have HN := Lib.hid hnn
  have B2 := below_a2 w (.cells #[.int .i64 0, .int .i64 0, .int .i64 0, .int .i64 0] 48) (.cells #[.int .i64 0, .int .i64 0, .int .i64 0, .int .i64 0] 48)
  have K2 := (Blk.new w 48 #[.int .i64 0, .int .i64 0, .int .i64 0, .int .i64 0]).below (below_a1 _ (.cells #[.int .i64 0, .int .i64 0, .int .i64 0, .int .i64 0] 48))
  have K3 := Blk.new (w.alloc (.cells #[.int .i64 0, .int .i64 0, .int .i64 0, .int .i64 0] 48)) 48 #[.int .i64 0, .int .i64 0, .int .i64 0, .int .i64 0]
  rw [World.size_alloc] at K3
  obtain ⟨wA, hwA⟩ : ∃ wA, wA = (w.alloc (.cells #[.int .i64 0, .int .i64 0, .int .i64 0, .int .i64 0] 48)).alloc (.cells #[.int .i64 0, .int .i64 0, .int .i64 0, .int .i64 0] 48) := ⟨_, rfl⟩
  rw [← hwA] at B2 K2 K3
  have HA := Lib.hid hwA
  obtain ⟨rb, hrb⟩ : ∃ rb, rb = w.heap.size := ⟨_, rfl⟩
  obtain ⟨bb, hbb⟩ : ∃ bb, bb = w.heap.size + 1 := ⟨_, rfl⟩
  rw [← hbb] at K3
  rw [← hrb] at K2
  have HK := Lib.hid (And.intro K2 (And.intro K3 B2))
  have HRB := Lib.hid hrb
  have HBB := Lib.hid hbb
  clear h hnn hs hb hok hwA B2 K2 K3
  go_enter Try.func24, Try.ntmps24
  go_upto_region 2 with fail
  rw [← HA.out, ← hbb, ← hrb]
  clear hrb hbb
  go_wp2
  go_loopw [4, 5] (fun f i wr => ∃ k : Nat, k ≤ n ∧ i = .int .i64 k ∧ f = .bool ((Ls.take k).flatten.isEmpty) ∧ Blk wr rb 48 #[.int .i64 0, .int .i64 0, .int .i64 0, .int .i64 0] ∧ Blk wr bb 48 #[.int .i64 (bxF (Ls.take k).flatten).x0, .int .i64 (bxF (Ls.take k).flatten).y0, .int .i64 (bxF (Ls.take k).flatten).x1, .int .i64 (bxF (Ls.take k).flatten).y1] ∧ Below w.heap.size w wr) (fun _ i _ => n - (intOf i).toNat)
  case atStart => exact ⟨0, Nat.zero_le _, rfl, rfl, HK.out.1, HK.out.2.1, HK.out.2.2⟩
  case round =>
    obtain ⟨k, hk, rfl, rfl, KR, KB, hb⟩ := hrel
    by_cases hlt : k < n
    · have d1 : decide ((k : Int) < (n : Int)) = true := by simp; omega
      obtain ⟨L, hL⟩ := at_someF (L := Ls) (k := k) (by rw [← HN.out]; exact hlt)
      obtain ⟨b, o, Ai, ci, rfl, hbl, c0, hE⟩ := HL.out.at' k L hL
      have hl : L.length ≤ 100000 := HM.out L (List.mem_of_getElem? hL)
      have HT := Lib.hid (show (Ls.take (k + 1)).flatten = (Ls.take k).flatten ++ L by rw [take_snocF hL]; simp)
      have HPF := Lib.hid (fun (j : Nat) (x : Dt) (hx : L[j]? = some x) => prefixF hL hx)
      have HE0 := Lib.hid (And.intro hE c0)
      have HB0 := Lib.hid (And.intro KR (And.intro KB hb))
      obtain ⟨m0, hm⟩ : ∃ m0, m0 = L.length := ⟨_, rfl⟩
      rw [← hm] at hl
      have HM0 := Lib.hid hm
      have g0 := (hb.cell (p := ⟨b, o + k, none⟩) hbl).trans c0
      rw [← hm] at g0
      have gl : b < wr.heap.size := by have := hb.size; omega
      obtain ⟨P, hP⟩ : ∃ P, P = (Ls.take k).flatten := ⟨_, rfl⟩
      rw [← hP] at HT HPF HB0 ⊢
      clear c0 hE hL hm hP KR KB
      go_wp2
      go_loopw [4, 6] (fun f i wq => ∃ j : Nat, j ≤ m0 ∧ i = .int .i64 j ∧ f = .bool ((P ++ L.take j).isEmpty) ∧ Blk wq rb 48 #[.int .i64 0, .int .i64 0, .int .i64 0, .int .i64 0] ∧ Blk wq bb 48 #[.int .i64 (bxF (P ++ L.take j)).x0, .int .i64 (bxF (P ++ L.take j)).y0, .int .i64 (bxF (P ++ L.take j)).x1, .int .i64 (bxF (P ++ L.take j)).y1] ∧ Below w.heap.size w wq) (fun _ i _ => m0 - (intOf i).toNat)
      case atStart => exact ⟨0, Nat.zero_le _, rfl, by simp, HB0.out.1, by simpa using HB0.out.2.1, HB0.out.2.2⟩
      case round =>
        clear g0 gl hb
        obtain ⟨j, hj, rfl, rfl, KR, KB, hb⟩ := hrel
        have hbs := hb.size
        have g0 := (hb.cell (p := ⟨b, o + k, none⟩) hbl).trans HE0.out.2
        rw [← HM0.out] at g0
        have gl : b < wr.heap.size := by omega
        by_cases hjm : j < m0
        · have d2 : decide ((j : Int) < (m0 : Int)) = true := by simp; omega
          obtain ⟨x, hx⟩ := at_someF (L := L) (k := j) (by rw [← HM0.out]; exact hjm)
          obtain ⟨fb, fo, hA, hfb, hfc⟩ := lists_flat dtLen (by omega) HE0.out.1 hx
          subst hA
          have q0 := (hb.cell (p := ⟨fb, fo + j * 2, none⟩) hfb).trans (hfc 0 _ rfl)
          have q1 := (hb.cell (p := ⟨fb, fo + j * 2 + 1, none⟩) hfb).trans (hfc 1 _ rfl)
          have fl : fb < wr.heap.size := by omega
          have hp := HPF.out j x hx
          have HTJ := Lib.hid (show P ++ L.take (j + 1) = P ++ L.take j ++ [x] by rw [take_snocF hx, List.append_assoc])
          obtain ⟨D, hD⟩ : ∃ D, D = P ++ L.take j := ⟨_, rfl⟩
          rw [← hD] at KB hp HTJ ⊢
          have hlx : ltF x = true := by
            have h1 := HALL.out
            obtain ⟨t, ht⟩ := hp
            rw [← ht] at h1
            simp only [List.all_append, List.all_cons, List.all_nil, Bool.and_true, Bool.and_eq_true] at h1
            exact h1.1.2
          have hxi := ltF_in hlx
          clear hD hp hlx hfc hx
          obtain ⟨fx, hfx⟩ : ∃ fx, fx = x.1 / 64 := ⟨_, rfl⟩
          obtain ⟨fy, hfy⟩ : ∃ fy, fy = x.2 / 64 := ⟨_, rfl⟩
          obtain ⟨mx, hmx⟩ : ∃ mx, mx = -x.1 := ⟨_, rfl⟩
          obtain ⟨my, hmy⟩ : ∃ my, my = -x.2 := ⟨_, rfl⟩
          obtain ⟨gx, hgx⟩ : ∃ gx, gx = mx / 64 := ⟨_, rfl⟩
          obtain ⟨gy, hgy⟩ : ∃ gy, gy = my / 64 := ⟨_, rfl⟩
          obtain ⟨ux, hux⟩ : ∃ ux, ux = (x.1 + 63) / 64 := ⟨_, rfl⟩
          obtain ⟨vy, hvy⟩ : ∃ vy, vy = (x.2 + 63) / 64 := ⟨_, rfl⟩
          have C1 := fun W => floor_ref x.1 64 W (by omega) (by omega) (by omega)
          have C2 := fun W => floor_ref x.2 64 W (by omega) (by omega) (by omega)
          have C3 := fun W => floor_ref mx 64 W (by omega) (by omega) (by omega)
          have C4 := fun W => floor_ref my 64 W (by omega) (by omega) (by omega)
          rw [← hfx] at C1
          rw [← hfy] at C2
          rw [← hgx] at C3
          rw [← hgy] at C4
          have e1 : IntKind.i64.wrap (-x.1) = mx := by rw [wrap_ini (by omega), hmx]
          have e2 : IntKind.i64.wrap (-x.2) = my := by rw [wrap_ini (by omega), hmy]
          have e3 : IntKind.i64.wrap (-gx) = ux := by rw [wrap_ini (by omega)]; omega
          have e4 : IntKind.i64.wrap (-gy) = vy := by rw [wrap_ini (by omega)]; omega
          have HST0 := Lib.hid (fun (hne : D ≠ []) => by
            have := bxF_step D x hne
            rw [← hfx, ← hfy, ← hux, ← hvy] at this
            exact this)
          have HONE := Lib.hid (show bxF [x] = ⟨fx, fy, ux, vy⟩ by rw [bxF_one, hfx, hfy, hux, hvy])
          have HBX := Lib.hid (And.intro KR (And.intro KB hb))
          have HWB := Lib.hid (show rb < bb ∧ bb < wr.heap.size ∧ w.heap.size ≤ rb from ⟨by rw [HRB.out, HBB.out]; omega, KB.lt, by rw [HRB.out]; exact Nat.le_refl _⟩)
          clear hfx hfy hmx hmy hgx hgy hux hvy KR KB hb hxi
          have HEE := Lib.hid (And.intro e1 (And.intro e2 (And.intro e3 e4)))
          clear e1 e2 e3 e4
          go_upto_region 10 with fail
          obtain ⟨w1, hw1⟩ : ∃ w1, w1 = wr.alloc (.cells #[.int .i64 x.1, .int .i64 x.2] 27) := ⟨_, rfl⟩
          rw [← hw1]
          have b1 : Below wr.heap.size wr w1 := hw1 ▸ below_a1 _ _
          have KD : Blk w1 wr.heap.size 27 #[.int .i64 x.1, .int .i64 x.2] := hw1 ▸ Blk.new _ _ _
          obtain ⟨xb, hxb⟩ : ∃ xb, xb = wr.heap.size := ⟨_, rfl⟩
          rw [← hxb] at KD ⊢
          have HD : Hid (∀ V : World, Below w1.heap.size w1 V → V.cell? ⟨xb, 0, none⟩ = some (.int .i64 x.1) ∧ V.cell? ⟨xb, 1, none⟩ = some (.int .i64 x.2) ∧ xb < V.heap.size) := Lib.hid fun V hV => ⟨(hV.cell (p := ⟨xb, 0, none⟩) KD.lt).trans (KD.cell 0), (hV.cell (p := ⟨xb, 1, none⟩) KD.lt).trans (KD.cell 1), Nat.lt_of_lt_of_le KD.lt hV.size⟩
          have HB1 := Lib.hid b1
          clear hw1 KD hxb b1 q0 q1 fl g0 gl
          have hI : Below w1.heap.size w1 w1.drew := (Below.refl _ _).drew
          refine wp_region_chain (fun V => Below w1.heap.size w1 V) [(0, false), (1, false), (3, false), (4, false), (2, true), (5, true), (6, false), (7, false)] (by kernel_rfl) (by kernel_rfl) hI ?_
          repeat (first
            | (refine ChainL.skip (o := ?_) ?_ ?_ ?_; rotate_left; (focus (first | (simp only [List.getElem?_toArray, List.getElem?_cons_succ, List.getElem?_cons_zero]; with_reducible rfl) | (simp only [List.getElem?_toArray, List.getElem?_cons_zero]; with_reducible rfl))); (focus rfl); simp only [Act.put, List.setIfInBounds_toArray, List.set_cons_zero, List.set_cons_succ])
            | (refine ChainL.val (o := ?_) (v := ?_) ?_ ?_ ?_ ?_ ?_; rotate_left 2; (focus (first | (simp only [List.getElem?_toArray, List.getElem?_cons_succ, List.getElem?_cons_zero]; with_reducible rfl) | (simp only [List.getElem?_toArray, List.getElem?_cons_zero]; with_reducible rfl))); (focus (intro _ _ h; cases h)); (focus rfl); (focus (intro w' hI; obtain ⟨q0, q1, ql⟩ := HD.out _ hI; go_simp <;> with_reducible rfl)); simp only [Act.put, List.setIfInBounds_toArray, List.set_cons_zero, List.set_cons_succ]))
          refine ChainL.call (o := ?_) (f := ?_) (args := ?_) ?_ ?_ ?_ ?_
          rotate_left 3
          (focus (first | (simp only [List.getElem?_toArray, List.getElem?_cons_succ, List.getElem?_cons_zero]; with_reducible rfl) | (simp only [List.getElem?_toArray, List.getElem?_cons_zero]; with_reducible rfl)))
          (focus rfl)
          (focus (go_simp; (constructor <;> with_reducible rfl)))
          with_reducible refine (C1 _).mono ?_
          rintro e w3 ⟨rfl, rfl⟩
          refine ⟨_, rfl, hI, ?_⟩
          simp only [Act.put, List.setIfInBounds_toArray, List.set_cons_zero, List.set_cons_succ]
          refine ChainL.call (o := ?_) (f := ?_) (args := ?_) ?_ ?_ ?_ ?_
          rotate_left 3
          (focus (first | (simp only [List.getElem?_toArray, List.getElem?_cons_succ, List.getElem?_cons_zero]; with_reducible rfl) | (simp only [List.getElem?_toArray, List.getElem?_cons_zero]; with_reducible rfl)))
          (focus rfl)
          (focus (go_simp; (constructor <;> with_reducible rfl)))
          with_reducible refine (C2 _).mono ?_
          rintro e w3 ⟨rfl, rfl⟩
          refine ⟨_, rfl, hI, ?_⟩
          simp only [Act.put, List.setIfInBounds_toArray, List.set_cons_zero, List.set_cons_succ]
          repeat (first
            | (refine ChainL.skip (o := ?_) ?_ ?_ ?_; rotate_left; (focus (first | (simp only [List.getElem?_toArray, List.getElem?_cons_succ, List.getElem?_cons_zero]; with_reducible rfl) | (simp only [List.getElem?_toArray, List.getElem?_cons_zero]; with_reducible rfl))); (focus rfl); simp only [Act.put, List.setIfInBounds_toArray, List.set_cons_zero, List.set_cons_succ])
            | (refine ChainL.val (o := ?_) (v := ?_) ?_ ?_ ?_ ?_ ?_; rotate_left 2; (focus (first | (simp only [List.getElem?_toArray, List.getElem?_cons_succ, List.getElem?_cons_zero]; with_reducible rfl) | (simp only [List.getElem?_toArray, List.getElem?_cons_zero]; with_reducible rfl))); (focus (intro _ _ h; cases h)); (focus rfl); (focus (intro w' hI; obtain ⟨q0, q1, ql⟩ := HD.out _ hI; go_simp <;> with_reducible rfl)); simp only [Act.put, List.setIfInBounds_toArray, List.set_cons_zero, List.set_cons_succ]))
          refine ChainL.nil ?_
          go_upto_region 11 with fail
          have hI2 : Below w1.heap.size w1 w1.drew.drew := hI.drew
          clear hI
          refine wp_region_chain (fun V => Below w1.heap.size w1 V) [(0, false), (1, false), (2, false), (5, false), (6, false), (7, false), (3, true), (4, false), (8, true), (9, false), (10, false), (11, false)] (by kernel_rfl) (by kernel_rfl) hI2 ?_
          repeat (first
            | (refine ChainL.skip (o := ?_) ?_ ?_ ?_; rotate_left; (focus (first | (simp only [List.getElem?_toArray, List.getElem?_cons_succ, List.getElem?_cons_zero]; with_reducible rfl) | (simp only [List.getElem?_toArray, List.getElem?_cons_zero]; with_reducible rfl))); (focus rfl); simp only [Act.put, List.setIfInBounds_toArray, List.set_cons_zero, List.set_cons_succ])
            | (refine ChainL.val (o := ?_) (v := ?_) ?_ ?_ ?_ ?_ ?_; rotate_left 2; (focus (first | (simp only [List.getElem?_toArray, List.getElem?_cons_succ, List.getElem?_cons_zero]; with_reducible rfl) | (simp only [List.getElem?_toArray, List.getElem?_cons_zero]; with_reducible rfl))); (focus (intro _ _ h; cases h)); (focus rfl); (focus (intro w' hI; obtain ⟨q0, q1, ql⟩ := HD.out _ hI; obtain ⟨e1, e2, e3, e4⟩ := HEE.out; go_simp <;> with_reducible rfl)); simp only [Act.put, List.setIfInBounds_toArray, List.set_cons_zero, List.set_cons_succ]))
          refine ChainL.call (o := ?_) (f := ?_) (args := ?_) ?_ ?_ ?_ ?_
          rotate_left 3
          (focus (first | (simp only [List.getElem?_toArray, List.getElem?_cons_succ, List.getElem?_cons_zero]; with_reducible rfl) | (simp only [List.getElem?_toArray, List.getElem?_cons_zero]; with_reducible rfl)))
          (focus rfl)
          (focus (go_simp; (constructor <;> with_reducible rfl)))
          with_reducible refine (C3 _).mono ?_
          rintro e w3 ⟨rfl, rfl⟩
          refine ⟨_, rfl, hI2, ?_⟩
          simp only [Act.put, List.setIfInBounds_toArray, List.set_cons_zero, List.set_cons_succ]
          repeat (first
            | (refine ChainL.skip (o := ?_) ?_ ?_ ?_; rotate_left; (focus (first | (simp only [List.getElem?_toArray, List.getElem?_cons_succ, List.getElem?_cons_zero]; with_reducible rfl) | (simp only [List.getElem?_toArray, List.getElem?_cons_zero]; with_reducible rfl))); (focus rfl); simp only [Act.put, List.setIfInBounds_toArray, List.set_cons_zero, List.set_cons_succ])
            | (refine ChainL.val (o := ?_) (v := ?_) ?_ ?_ ?_ ?_ ?_; rotate_left 2; (focus (first | (simp only [List.getElem?_toArray, List.getElem?_cons_succ, List.getElem?_cons_zero]; with_reducible rfl) | (simp only [List.getElem?_toArray, List.getElem?_cons_zero]; with_reducible rfl))); (focus (intro _ _ h; cases h)); (focus rfl); (focus (intro w' hI; obtain ⟨q0, q1, ql⟩ := HD.out _ hI; obtain ⟨e1, e2, e3, e4⟩ := HEE.out; go_simp <;> with_reducible rfl)); simp only [Act.put, List.setIfInBounds_toArray, List.set_cons_zero, List.set_cons_succ]))
          refine ChainL.call (o := ?_) (f := ?_) (args := ?_) ?_ ?_ ?_ ?_
          rotate_left 3
          (focus (first | (simp only [List.getElem?_toArray, List.getElem?_cons_succ, List.getElem?_cons_zero]; with_reducible rfl) | (simp only [List.getElem?_toArray, List.getElem?_cons_zero]; with_reducible rfl)))
          (focus rfl)
          (focus (go_simp; (constructor <;> with_reducible rfl)))
          with_reducible refine (C4 _).mono ?_
          rintro e w3 ⟨rfl, rfl⟩
          refine ⟨_, rfl, hI2, ?_⟩
          simp only [Act.put, List.setIfInBounds_toArray, List.set_cons_zero, List.set_cons_succ]
          repeat (first
            | (refine ChainL.skip (o := ?_) ?_ ?_ ?_; rotate_left; (focus (first | (simp only [List.getElem?_toArray, List.getElem?_cons_succ, List.getElem?_cons_zero]; with_reducible rfl) | (simp only [List.getElem?_toArray, List.getElem?_cons_zero]; with_reducible rfl))); (focus rfl); simp only [Act.put, List.setIfInBounds_toArray, List.set_cons_zero, List.set_cons_succ])
            | (refine ChainL.val (o := ?_) (v := ?_) ?_ ?_ ?_ ?_ ?_; rotate_left 2; (focus (first | (simp only [List.getElem?_toArray, List.getElem?_cons_succ, List.getElem?_cons_zero]; with_reducible rfl) | (simp only [List.getElem?_toArray, List.getElem?_cons_zero]; with_reducible rfl))); (focus (intro _ _ h; cases h)); (focus rfl); (focus (intro w' hI; obtain ⟨q0, q1, ql⟩ := HD.out _ hI; obtain ⟨e1, e2, e3, e4⟩ := HEE.out; go_simp <;> with_reducible rfl)); simp only [Act.put, List.setIfInBounds_toArray, List.set_cons_zero, List.set_cons_succ]))
          refine ChainL.nil ?_
          obtain ⟨wv, hwv⟩ : ∃ wv, wv = w1.drew.drew := ⟨_, rfl⟩
          rw [← hwv] at hI2 ⊢
          clear hwv C1 C2 C3 C4 HEE
          have bw := HB1.out.trans (hI2.mono HB1.out.size)
          have KR := HBX.out.1.below bw
          have KB := HBX.out.2.1.below bw
          have BV := HBX.out.2.2.trans (bw.mono hbs)
          have hrbb := HWB.out.1
          have hrbw := HWB.out.2.2
          clear bw hI2
          by_cases hne : D = []
          · subst hne
            rw [List.isEmpty_nil]
            have z0 := KB.cell 0; have z1 := KB.cell 1; have z2 := KB.cell 2; have z3 := KB.cell 3; have zl := KB.lt; simp only [List.getElem?_toArray, List.getElem?_cons_succ, List.getElem?_cons_zero] at z0 z1 z2 z3
            have y0 := KB.frozen 0
            have y1 := KB.frozen 1
            have y2 := KB.frozen 2
            have y3 := KB.frozen 3
            go_upto_region 15 with (refine wpList_store_row rfl 48 (.tmp 3) (.tmp 55) (by with_reducible rfl) bb #[.int .i64 fx, .int .i64 fy, .int .i64 ux, .int .i64 vy] (by rfl) (by rfl) 48 #[.int .i64 (bxF []).x0, .int .i64 (bxF []).y0, .int .i64 (bxF []).x1, .int .i64 (bxF []).y1] (by exact KB) flQInfo rfl (by simp [Value.oneCell']) ?_)
            have HL9 := Lib.hid (And.intro (blk_row KB #[.int .i64 fx, .int .i64 fy, .int .i64 ux, .int .i64 vy]) (And.intro (KR.only (show Only wv (wv.setRow bb #[.int .i64 fx, .int .i64 fy, .int .i64 ux, .int .i64 vy]) [bb] from only_row (Only.refl wv [bb]) (.inl (by simp)) #[.int .i64 fx, .int .i64 fy, .int .i64 ux, .int .i64 vy]) (show rb ∉ [bb] by simp; omega)) (below_setRow (g := bb) BV (by omega) #[.int .i64 fx, .int .i64 fy, .int .i64 ux, .int .i64 vy])))
            obtain ⟨wu, hwu⟩ : ∃ wu, wu = wv.setRow bb #[.int .i64 fx, .int .i64 fy, .int .i64 ux, .int .i64 vy] := ⟨_, rfl⟩
            rw [← hwu] at HL9 ⊢
            clear hwu KB KR BV z0 z1 z2 z3 zl y0 y1 y2 y3
            have KB := HL9.out.1
            have z0 := KB.cell 0; have z1 := KB.cell 1; have z2 := KB.cell 2; have z3 := KB.cell 3; have zl := KB.lt; simp only [List.getElem?_toArray, List.getElem?_cons_succ, List.getElem?_cons_zero] at z0 z1 z2 z3
            have y0 := KB.frozen 0
            have y1 := KB.frozen 1
            have y2 := KB.frozen 2
            have y3 := KB.frozen 3
            clear KB
            have c0 : decide (fx < fx) = false := by simp
            have c1 : decide (fy < fy) = false := by simp
            have c2 : decide (ux < ux) = false := by simp
            have c3 : decide (vy < vy) = false := by simp
            go_wp2
            go_roundw
            case rel => exact ⟨j + 1, by omega, by go_num, by rw [HTJ.out]; simp, HL9.out.2.1, by
              rw [HTJ.out, List.nil_append, HONE.out]
              exact HL9.out.1, HL9.out.2.2⟩
            case measure => simp [intOf]; omega
          · have hie : D.isEmpty = false := by simpa using hne
            rw [hie]
            have hst := HST0.out hne
            obtain ⟨X0, hX0⟩ : ∃ X0, X0 = (bxF D).x0 := ⟨_, rfl⟩
            obtain ⟨Y0, hY0⟩ : ∃ Y0, Y0 = (bxF D).y0 := ⟨_, rfl⟩
            obtain ⟨X1, hX1⟩ : ∃ X1, X1 = (bxF D).x1 := ⟨_, rfl⟩
            obtain ⟨Y1, hY1⟩ : ∃ Y1, Y1 = (bxF D).y1 := ⟨_, rfl⟩
            rw [← hX0, ← hY0, ← hX1, ← hY1] at hst KB
            have HST := Lib.hid hst
            clear hst hX0 hY0 hX1 hY1 hie hne
            have z0 := KB.cell 0; have z1 := KB.cell 1; have z2 := KB.cell 2; have z3 := KB.cell 3; have zl := KB.lt; simp only [List.getElem?_toArray, List.getElem?_cons_succ, List.getElem?_cons_zero] at z0 z1 z2 z3
            have y0 := KB.frozen 0
            have y1 := KB.frozen 1
            have y2 := KB.frozen 2
            have y3 := KB.frozen 3
            go_upto_region 15 with fail
            by_cases h0 : fx < X0
            · have c0 : decide (fx < X0) = true := by simpa using h0
              have f0 := Lib.hid (HST.out.1.1 h0)
              go_upto_region 17 with fail
              obtain ⟨V0, hV⟩ : ∃ V, V = wv.setCell ⟨bb, 0, none⟩ (.int .i64 fx) := ⟨_, rfl⟩
              rw [← hV]
              have KB := hV ▸ KB.set 0 (.int .i64 fx)
              have KB : Blk V0 bb 48 #[.int .i64 fx, .int .i64 Y0, .int .i64 X1, .int .i64 Y1] := KB
              have KR : Blk V0 rb 48 #[.int .i64 0, .int .i64 0, .int .i64 0, .int .i64 0] := hV ▸ KR.only ((Only.refl wv [bb]).set (p := ⟨bb, 0, none⟩) (.inl (by simp)) (.int .i64 fx)) (by simp; omega)
              have BV : Below w.heap.size w V0 := hV ▸ BV.setCell (p := ⟨bb, 0, none⟩) (by simp; omega) (.int .i64 fx)
              clear hV z0 z1 z2 z3 zl h0 c0
              obtain ⟨wv, hwv⟩ : ∃ wv, wv = V0 := ⟨_, rfl⟩
              rw [← hwv] at KB KR BV ⊢
              clear hwv
              have z0 := KB.cell 0; have z1 := KB.cell 1; have z2 := KB.cell 2; have z3 := KB.cell 3; have zl := KB.lt; simp only [List.getElem?_toArray, List.getElem?_cons_succ, List.getElem?_cons_zero] at z0 z1 z2 z3
              have y0 := KB.frozen 0
              have y1 := KB.frozen 1
              have y2 := KB.frozen 2
              have y3 := KB.frozen 3
              by_cases h1 : fy < Y0
              · have c1 : decide (fy < Y0) = true := by simpa using h1
                have f1 := Lib.hid (HST.out.2.1.1 h1)
                go_upto_region 19 with fail
                obtain ⟨V1, hV⟩ : ∃ V, V = wv.setCell ⟨bb, 1, none⟩ (.int .i64 fy) := ⟨_, rfl⟩
                rw [← hV]
                have KB := hV ▸ KB.set 1 (.int .i64 fy)
                have KB : Blk V1 bb 48 #[.int .i64 fx, .int .i64 fy, .int .i64 X1, .int .i64 Y1] := KB
                have KR : Blk V1 rb 48 #[.int .i64 0, .int .i64 0, .int .i64 0, .int .i64 0] := hV ▸ KR.only ((Only.refl wv [bb]).set (p := ⟨bb, 1, none⟩) (.inl (by simp)) (.int .i64 fy)) (by simp; omega)
                have BV : Below w.heap.size w V1 := hV ▸ BV.setCell (p := ⟨bb, 1, none⟩) (by simp; omega) (.int .i64 fy)
                clear hV z0 z1 z2 z3 zl h1 c1
                obtain ⟨wv, hwv⟩ : ∃ wv, wv = V1 := ⟨_, rfl⟩
                rw [← hwv] at KB KR BV ⊢
                clear hwv
                have z0 := KB.cell 0; have z1 := KB.cell 1; have z2 := KB.cell 2; have z3 := KB.cell 3; have zl := KB.lt; simp only [List.getElem?_toArray, List.getElem?_cons_succ, List.getElem?_cons_zero] at z0 z1 z2 z3
                have y0 := KB.frozen 0
                have y1 := KB.frozen 1
                have y2 := KB.frozen 2
                have y3 := KB.frozen 3
                by_cases h2 : X1 < ux
                · have c2 : decide (X1 < ux) = true := by simpa using h2
                  have f2 := Lib.hid (HST.out.2.2.1.1 h2)
                  go_upto_region 21 with fail
                  obtain ⟨V2, hV⟩ : ∃ V, V = wv.setCell ⟨bb, 2, none⟩ (.int .i64 ux) := ⟨_, rfl⟩
                  rw [← hV]
                  have KB := hV ▸ KB.set 2 (.int .i64 ux)
                  have KB : Blk V2 bb 48 #[.int .i64 fx, .int .i64 fy, .int .i64 ux, .int .i64 Y1] := KB
                  have KR : Blk V2 rb 48 #[.int .i64 0, .int .i64 0, .int .i64 0, .int .i64 0] := hV ▸ KR.only ((Only.refl wv [bb]).set (p := ⟨bb, 2, none⟩) (.inl (by simp)) (.int .i64 ux)) (by simp; omega)
                  have BV : Below w.heap.size w V2 := hV ▸ BV.setCell (p := ⟨bb, 2, none⟩) (by simp; omega) (.int .i64 ux)
                  clear hV z0 z1 z2 z3 zl h2 c2
                  obtain ⟨wv, hwv⟩ : ∃ wv, wv = V2 := ⟨_, rfl⟩
                  rw [← hwv] at KB KR BV ⊢
                  clear hwv
                  have z0 := KB.cell 0; have z1 := KB.cell 1; have z2 := KB.cell 2; have z3 := KB.cell 3; have zl := KB.lt; simp only [List.getElem?_toArray, List.getElem?_cons_succ, List.getElem?_cons_zero] at z0 z1 z2 z3
                  have y0 := KB.frozen 0
                  have y1 := KB.frozen 1
                  have y2 := KB.frozen 2
                  have y3 := KB.frozen 3
                  by_cases h3 : Y1 < vy
                  · have c3 : decide (Y1 < vy) = true := by simpa using h3
                    have f3 := Lib.hid (HST.out.2.2.2.1 h3)
                    go_upto_region 8 with fail
                    obtain ⟨V3, hV⟩ : ∃ V, V = wv.setCell ⟨bb, 3, none⟩ (.int .i64 vy) := ⟨_, rfl⟩
                    rw [← hV]
                    have KB := hV ▸ KB.set 3 (.int .i64 vy)
                    have KB : Blk V3 bb 48 #[.int .i64 fx, .int .i64 fy, .int .i64 ux, .int .i64 vy] := KB
                    have KR : Blk V3 rb 48 #[.int .i64 0, .int .i64 0, .int .i64 0, .int .i64 0] := hV ▸ KR.only ((Only.refl wv [bb]).set (p := ⟨bb, 3, none⟩) (.inl (by simp)) (.int .i64 vy)) (by simp; omega)
                    have BV : Below w.heap.size w V3 := hV ▸ BV.setCell (p := ⟨bb, 3, none⟩) (by simp; omega) (.int .i64 vy)
                    clear hV z0 z1 z2 z3 zl h3 c3
                    obtain ⟨wv, hwv⟩ : ∃ wv, wv = V3 := ⟨_, rfl⟩
                    rw [← hwv] at KB KR BV ⊢
                    clear hwv
                    have z0 := KB.cell 0; have z1 := KB.cell 1; have z2 := KB.cell 2; have z3 := KB.cell 3; have zl := KB.lt; simp only [List.getElem?_toArray, List.getElem?_cons_succ, List.getElem?_cons_zero] at z0 z1 z2 z3
                    have y0 := KB.frozen 0
                    have y1 := KB.frozen 1
                    have y2 := KB.frozen 2
                    have y3 := KB.frozen 3
                    have HL9 := Lib.hid (And.intro KB (And.intro KR BV))
                    have HF9 := Lib.hid (And.intro f0.out (And.intro f1.out (And.intro f2.out f3.out)))
                    clear KB KR BV f0 f1 f2 f3 z0 z1 z2 z3 zl
                    go_wp2
                    go_roundw
                    case rel => exact ⟨j + 1, by omega, by go_num, by rw [HTJ.out]; simp, HL9.out.2.1, by
                      rw [HTJ.out]
                      have h := HL9.out.1
                      rw [HF9.out.1, HF9.out.2.1, HF9.out.2.2.1, HF9.out.2.2.2] at h
                      exact h, HL9.out.2.2⟩
                    case measure => simp [intOf]; omega
                  · have c3 : decide (Y1 < vy) = false := by simpa using h3
                    have f3 := Lib.hid (HST.out.2.2.2.2 h3)
                    go_upto_region 8 with fail
                    clear h3 c3
                    have HL9 := Lib.hid (And.intro KB (And.intro KR BV))
                    have HF9 := Lib.hid (And.intro f0.out (And.intro f1.out (And.intro f2.out f3.out)))
                    clear KB KR BV f0 f1 f2 f3 z0 z1 z2 z3 zl
                    go_wp2
                    go_roundw
                    case rel => exact ⟨j + 1, by omega, by go_num, by rw [HTJ.out]; simp, HL9.out.2.1, by
                      rw [HTJ.out]
                      have h := HL9.out.1
                      rw [HF9.out.1, HF9.out.2.1, HF9.out.2.2.1, HF9.out.2.2.2] at h
                      exact h, HL9.out.2.2⟩
                    case measure => simp [intOf]; omega
                · have c2 : decide (X1 < ux) = false := by simpa using h2
                  have f2 := Lib.hid (HST.out.2.2.1.2 h2)
                  go_upto_region 21 with fail
                  clear h2 c2
                  by_cases h3 : Y1 < vy
                  · have c3 : decide (Y1 < vy) = true := by simpa using h3
                    have f3 := Lib.hid (HST.out.2.2.2.1 h3)
                    go_upto_region 8 with fail
                    obtain ⟨V3, hV⟩ : ∃ V, V = wv.setCell ⟨bb, 3, none⟩ (.int .i64 vy) := ⟨_, rfl⟩
                    rw [← hV]
                    have KB := hV ▸ KB.set 3 (.int .i64 vy)
                    have KB : Blk V3 bb 48 #[.int .i64 fx, .int .i64 fy, .int .i64 X1, .int .i64 vy] := KB
                    have KR : Blk V3 rb 48 #[.int .i64 0, .int .i64 0, .int .i64 0, .int .i64 0] := hV ▸ KR.only ((Only.refl wv [bb]).set (p := ⟨bb, 3, none⟩) (.inl (by simp)) (.int .i64 vy)) (by simp; omega)
                    have BV : Below w.heap.size w V3 := hV ▸ BV.setCell (p := ⟨bb, 3, none⟩) (by simp; omega) (.int .i64 vy)
                    clear hV z0 z1 z2 z3 zl h3 c3
                    obtain ⟨wv, hwv⟩ : ∃ wv, wv = V3 := ⟨_, rfl⟩
                    rw [← hwv] at KB KR BV ⊢
                    clear hwv
                    have z0 := KB.cell 0; have z1 := KB.cell 1; have z2 := KB.cell 2; have z3 := KB.cell 3; have zl := KB.lt; simp only [List.getElem?_toArray, List.getElem?_cons_succ, List.getElem?_cons_zero] at z0 z1 z2 z3
                    have y0 := KB.frozen 0
                    have y1 := KB.frozen 1
                    have y2 := KB.frozen 2
                    have y3 := KB.frozen 3
                    have HL9 := Lib.hid (And.intro KB (And.intro KR BV))
                    have HF9 := Lib.hid (And.intro f0.out (And.intro f1.out (And.intro f2.out f3.out)))
                    clear KB KR BV f0 f1 f2 f3 z0 z1 z2 z3 zl
                    go_wp2
                    go_roundw
                    case rel => exact ⟨j + 1, by omega, by go_num, by rw [HTJ.out]; simp, HL9.out.2.1, by
                      rw [HTJ.out]
                      have h := HL9.out.1
                      rw [HF9.out.1, HF9.out.2.1, HF9.out.2.2.1, HF9.out.2.2.2] at h
                      exact h, HL9.out.2.2⟩
                    case measure => simp [intOf]; omega
                  · have c3 : decide (Y1 < vy) = false := by simpa using h3
                    have f3 := Lib.hid (HST.out.2.2.2.2 h3)
                    go_upto_region 8 with fail
                    clear h3 c3
                    have HL9 := Lib.hid (And.intro KB (And.intro KR BV))
                    have HF9 := Lib.hid (And.intro f0.out (And.intro f1.out (And.intro f2.out f3.out)))
                    clear KB KR BV f0 f1 f2 f3 z0 z1 z2 z3 zl
                    go_wp2
                    go_roundw
                    case rel => exact ⟨j + 1, by omega, by go_num, by rw [HTJ.out]; simp, HL9.out.2.1, by
                      rw [HTJ.out]
                      have h := HL9.out.1
                      rw [HF9.out.1, HF9.out.2.1, HF9.out.2.2.1, HF9.out.2.2.2] at h
                      exact h, HL9.out.2.2⟩
                    case measure => simp [intOf]; omega
              · have c1 : decide (fy < Y0) = false := by simpa using h1
                have f1 := Lib.hid (HST.out.2.1.2 h1)
                go_upto_region 19 with fail
                clear h1 c1
                by_cases h2 : X1 < ux
                · have c2 : decide (X1 < ux) = true := by simpa using h2
                  have f2 := Lib.hid (HST.out.2.2.1.1 h2)
                  go_upto_region 21 with fail
                  obtain ⟨V2, hV⟩ : ∃ V, V = wv.setCell ⟨bb, 2, none⟩ (.int .i64 ux) := ⟨_, rfl⟩
                  rw [← hV]
                  have KB := hV ▸ KB.set 2 (.int .i64 ux)
                  have KB : Blk V2 bb 48 #[.int .i64 fx, .int .i64 Y0, .int .i64 ux, .int .i64 Y1] := KB
                  have KR : Blk V2 rb 48 #[.int .i64 0, .int .i64 0, .int .i64 0, .int .i64 0] := hV ▸ KR.only ((Only.refl wv [bb]).set (p := ⟨bb, 2, none⟩) (.inl (by simp)) (.int .i64 ux)) (by simp; omega)
                  have BV : Below w.heap.size w V2 := hV ▸ BV.setCell (p := ⟨bb, 2, none⟩) (by simp; omega) (.int .i64 ux)
                  clear hV z0 z1 z2 z3 zl h2 c2
                  obtain ⟨wv, hwv⟩ : ∃ wv, wv = V2 := ⟨_, rfl⟩
                  rw [← hwv] at KB KR BV ⊢
                  clear hwv
                  have z0 := KB.cell 0; have z1 := KB.cell 1; have z2 := KB.cell 2; have z3 := KB.cell 3; have zl := KB.lt; simp only [List.getElem?_toArray, List.getElem?_cons_succ, List.getElem?_cons_zero] at z0 z1 z2 z3
                  have y0 := KB.frozen 0
                  have y1 := KB.frozen 1
                  have y2 := KB.frozen 2
                  have y3 := KB.frozen 3
                  by_cases h3 : Y1 < vy
                  · have c3 : decide (Y1 < vy) = true := by simpa using h3
                    have f3 := Lib.hid (HST.out.2.2.2.1 h3)
                    go_upto_region 8 with fail
                    obtain ⟨V3, hV⟩ : ∃ V, V = wv.setCell ⟨bb, 3, none⟩ (.int .i64 vy) := ⟨_, rfl⟩
                    rw [← hV]
                    have KB := hV ▸ KB.set 3 (.int .i64 vy)
                    have KB : Blk V3 bb 48 #[.int .i64 fx, .int .i64 Y0, .int .i64 ux, .int .i64 vy] := KB
                    have KR : Blk V3 rb 48 #[.int .i64 0, .int .i64 0, .int .i64 0, .int .i64 0] := hV ▸ KR.only ((Only.refl wv [bb]).set (p := ⟨bb, 3, none⟩) (.inl (by simp)) (.int .i64 vy)) (by simp; omega)
                    have BV : Below w.heap.size w V3 := hV ▸ BV.setCell (p := ⟨bb, 3, none⟩) (by simp; omega) (.int .i64 vy)
                    clear hV z0 z1 z2 z3 zl h3 c3
                    obtain ⟨wv, hwv⟩ : ∃ wv, wv = V3 := ⟨_, rfl⟩
                    rw [← hwv] at KB KR BV ⊢
                    clear hwv
                    have z0 := KB.cell 0; have z1 := KB.cell 1; have z2 := KB.cell 2; have z3 := KB.cell 3; have zl := KB.lt; simp only [List.getElem?_toArray, List.getElem?_cons_succ, List.getElem?_cons_zero] at z0 z1 z2 z3
                    have y0 := KB.frozen 0
                    have y1 := KB.frozen 1
                    have y2 := KB.frozen 2
                    have y3 := KB.frozen 3
                    have HL9 := Lib.hid (And.intro KB (And.intro KR BV))
                    have HF9 := Lib.hid (And.intro f0.out (And.intro f1.out (And.intro f2.out f3.out)))
                    clear KB KR BV f0 f1 f2 f3 z0 z1 z2 z3 zl
                    go_wp2
                    go_roundw
                    case rel => exact ⟨j + 1, by omega, by go_num, by rw [HTJ.out]; simp, HL9.out.2.1, by
                      rw [HTJ.out]
                      have h := HL9.out.1
                      rw [HF9.out.1, HF9.out.2.1, HF9.out.2.2.1, HF9.out.2.2.2] at h
                      exact h, HL9.out.2.2⟩
                    case measure => simp [intOf]; omega
                  · have c3 : decide (Y1 < vy) = false := by simpa using h3
                    have f3 := Lib.hid (HST.out.2.2.2.2 h3)
                    go_upto_region 8 with fail
                    clear h3 c3
                    have HL9 := Lib.hid (And.intro KB (And.intro KR BV))
                    have HF9 := Lib.hid (And.intro f0.out (And.intro f1.out (And.intro f2.out f3.out)))
                    clear KB KR BV f0 f1 f2 f3 z0 z1 z2 z3 zl
                    go_wp2
                    go_roundw
                    case rel => exact ⟨j + 1, by omega, by go_num, by rw [HTJ.out]; simp, HL9.out.2.1, by
                      rw [HTJ.out]
                      have h := HL9.out.1
                      rw [HF9.out.1, HF9.out.2.1, HF9.out.2.2.1, HF9.out.2.2.2] at h
                      exact h, HL9.out.2.2⟩
                    case measure => simp [intOf]; omega
                · have c2 : decide (X1 < ux) = false := by simpa using h2
                  have f2 := Lib.hid (HST.out.2.2.1.2 h2)
                  go_upto_region 21 with fail
                  clear h2 c2
                  by_cases h3 : Y1 < vy
                  · have c3 : decide (Y1 < vy) = true := by simpa using h3
                    have f3 := Lib.hid (HST.out.2.2.2.1 h3)
                    go_upto_region 8 with fail
                    obtain ⟨V3, hV⟩ : ∃ V, V = wv.setCell ⟨bb, 3, none⟩ (.int .i64 vy) := ⟨_, rfl⟩
                    rw [← hV]
                    have KB := hV ▸ KB.set 3 (.int .i64 vy)
                    have KB : Blk V3 bb 48 #[.int .i64 fx, .int .i64 Y0, .int .i64 X1, .int .i64 vy] := KB
                    have KR : Blk V3 rb 48 #[.int .i64 0, .int .i64 0, .int .i64 0, .int .i64 0] := hV ▸ KR.only ((Only.refl wv [bb]).set (p := ⟨bb, 3, none⟩) (.inl (by simp)) (.int .i64 vy)) (by simp; omega)
                    have BV : Below w.heap.size w V3 := hV ▸ BV.setCell (p := ⟨bb, 3, none⟩) (by simp; omega) (.int .i64 vy)
                    clear hV z0 z1 z2 z3 zl h3 c3
                    obtain ⟨wv, hwv⟩ : ∃ wv, wv = V3 := ⟨_, rfl⟩
                    rw [← hwv] at KB KR BV ⊢
                    clear hwv
                    have z0 := KB.cell 0; have z1 := KB.cell 1; have z2 := KB.cell 2; have z3 := KB.cell 3; have zl := KB.lt; simp only [List.getElem?_toArray, List.getElem?_cons_succ, List.getElem?_cons_zero] at z0 z1 z2 z3
                    have y0 := KB.frozen 0
                    have y1 := KB.frozen 1
                    have y2 := KB.frozen 2
                    have y3 := KB.frozen 3
                    have HL9 := Lib.hid (And.intro KB (And.intro KR BV))
                    have HF9 := Lib.hid (And.intro f0.out (And.intro f1.out (And.intro f2.out f3.out)))
                    clear KB KR BV f0 f1 f2 f3 z0 z1 z2 z3 zl
                    go_wp2
                    go_roundw
                    case rel => exact ⟨j + 1, by omega, by go_num, by rw [HTJ.out]; simp, HL9.out.2.1, by
                      rw [HTJ.out]
                      have h := HL9.out.1
                      rw [HF9.out.1, HF9.out.2.1, HF9.out.2.2.1, HF9.out.2.2.2] at h
                      exact h, HL9.out.2.2⟩
                    case measure => simp [intOf]; omega
                  · have c3 : decide (Y1 < vy) = false := by simpa using h3
                    have f3 := Lib.hid (HST.out.2.2.2.2 h3)
                    go_upto_region 8 with fail
                    clear h3 c3
                    have HL9 := Lib.hid (And.intro KB (And.intro KR BV))
                    have HF9 := Lib.hid (And.intro f0.out (And.intro f1.out (And.intro f2.out f3.out)))
                    clear KB KR BV f0 f1 f2 f3 z0 z1 z2 z3 zl
                    go_wp2
                    go_roundw
                    case rel => exact ⟨j + 1, by omega, by go_num, by rw [HTJ.out]; simp, HL9.out.2.1, by
                      rw [HTJ.out]
                      have h := HL9.out.1
                      rw [HF9.out.1, HF9.out.2.1, HF9.out.2.2.1, HF9.out.2.2.2] at h
                      exact h, HL9.out.2.2⟩
                    case measure => simp [intOf]; omega
            · have c0 : decide (fx < X0) = false := by simpa using h0
              have f0 := Lib.hid (HST.out.1.2 h0)
              go_upto_region 17 with fail
              clear h0 c0
              by_cases h1 : fy < Y0
              · have c1 : decide (fy < Y0) = true := by simpa using h1
                have f1 := Lib.hid (HST.out.2.1.1 h1)
                go_upto_region 19 with fail
                obtain ⟨V1, hV⟩ : ∃ V, V = wv.setCell ⟨bb, 1, none⟩ (.int .i64 fy) := ⟨_, rfl⟩
                rw [← hV]
                have KB := hV ▸ KB.set 1 (.int .i64 fy)
                have KB : Blk V1 bb 48 #[.int .i64 X0, .int .i64 fy, .int .i64 X1, .int .i64 Y1] := KB
                have KR : Blk V1 rb 48 #[.int .i64 0, .int .i64 0, .int .i64 0, .int .i64 0] := hV ▸ KR.only ((Only.refl wv [bb]).set (p := ⟨bb, 1, none⟩) (.inl (by simp)) (.int .i64 fy)) (by simp; omega)
                have BV : Below w.heap.size w V1 := hV ▸ BV.setCell (p := ⟨bb, 1, none⟩) (by simp; omega) (.int .i64 fy)
                clear hV z0 z1 z2 z3 zl h1 c1
                obtain ⟨wv, hwv⟩ : ∃ wv, wv = V1 := ⟨_, rfl⟩
                rw [← hwv] at KB KR BV ⊢
                clear hwv
                have z0 := KB.cell 0; have z1 := KB.cell 1; have z2 := KB.cell 2; have z3 := KB.cell 3; have zl := KB.lt; simp only [List.getElem?_toArray, List.getElem?_cons_succ, List.getElem?_cons_zero] at z0 z1 z2 z3
                have y0 := KB.frozen 0
                have y1 := KB.frozen 1
                have y2 := KB.frozen 2
                have y3 := KB.frozen 3
                by_cases h2 : X1 < ux
                · have c2 : decide (X1 < ux) = true := by simpa using h2
                  have f2 := Lib.hid (HST.out.2.2.1.1 h2)
                  go_upto_region 21 with fail
                  obtain ⟨V2, hV⟩ : ∃ V, V = wv.setCell ⟨bb, 2, none⟩ (.int .i64 ux) := ⟨_, rfl⟩
                  rw [← hV]
                  have KB := hV ▸ KB.set 2 (.int .i64 ux)
                  have KB : Blk V2 bb 48 #[.int .i64 X0, .int .i64 fy, .int .i64 ux, .int .i64 Y1] := KB
                  have KR : Blk V2 rb 48 #[.int .i64 0, .int .i64 0, .int .i64 0, .int .i64 0] := hV ▸ KR.only ((Only.refl wv [bb]).set (p := ⟨bb, 2, none⟩) (.inl (by simp)) (.int .i64 ux)) (by simp; omega)
                  have BV : Below w.heap.size w V2 := hV ▸ BV.setCell (p := ⟨bb, 2, none⟩) (by simp; omega) (.int .i64 ux)
                  clear hV z0 z1 z2 z3 zl h2 c2
                  obtain ⟨wv, hwv⟩ : ∃ wv, wv = V2 := ⟨_, rfl⟩
                  rw [← hwv] at KB KR BV ⊢
                  clear hwv
                  have z0 := KB.cell 0; have z1 := KB.cell 1; have z2 := KB.cell 2; have z3 := KB.cell 3; have zl := KB.lt; simp only [List.getElem?_toArray, List.getElem?_cons_succ, List.getElem?_cons_zero] at z0 z1 z2 z3
                  have y0 := KB.frozen 0
                  have y1 := KB.frozen 1
                  have y2 := KB.frozen 2
                  have y3 := KB.frozen 3
                  by_cases h3 : Y1 < vy
                  · have c3 : decide (Y1 < vy) = true := by simpa using h3
                    have f3 := Lib.hid (HST.out.2.2.2.1 h3)
                    go_upto_region 8 with fail
                    obtain ⟨V3, hV⟩ : ∃ V, V = wv.setCell ⟨bb, 3, none⟩ (.int .i64 vy) := ⟨_, rfl⟩
                    rw [← hV]
                    have KB := hV ▸ KB.set 3 (.int .i64 vy)
                    have KB : Blk V3 bb 48 #[.int .i64 X0, .int .i64 fy, .int .i64 ux, .int .i64 vy] := KB
                    have KR : Blk V3 rb 48 #[.int .i64 0, .int .i64 0, .int .i64 0, .int .i64 0] := hV ▸ KR.only ((Only.refl wv [bb]).set (p := ⟨bb, 3, none⟩) (.inl (by simp)) (.int .i64 vy)) (by simp; omega)
                    have BV : Below w.heap.size w V3 := hV ▸ BV.setCell (p := ⟨bb, 3, none⟩) (by simp; omega) (.int .i64 vy)
                    clear hV z0 z1 z2 z3 zl h3 c3
                    obtain ⟨wv, hwv⟩ : ∃ wv, wv = V3 := ⟨_, rfl⟩
                    rw [← hwv] at KB KR BV ⊢
                    clear hwv
                    have z0 := KB.cell 0; have z1 := KB.cell 1; have z2 := KB.cell 2; have z3 := KB.cell 3; have zl := KB.lt; simp only [List.getElem?_toArray, List.getElem?_cons_succ, List.getElem?_cons_zero] at z0 z1 z2 z3
                    have y0 := KB.frozen 0
                    have y1 := KB.frozen 1
                    have y2 := KB.frozen 2
                    have y3 := KB.frozen 3
                    have HL9 := Lib.hid (And.intro KB (And.intro KR BV))
                    have HF9 := Lib.hid (And.intro f0.out (And.intro f1.out (And.intro f2.out f3.out)))
                    clear KB KR BV f0 f1 f2 f3 z0 z1 z2 z3 zl
                    go_wp2
                    go_roundw
                    case rel => exact ⟨j + 1, by omega, by go_num, by rw [HTJ.out]; simp, HL9.out.2.1, by
                      rw [HTJ.out]
                      have h := HL9.out.1
                      rw [HF9.out.1, HF9.out.2.1, HF9.out.2.2.1, HF9.out.2.2.2] at h
                      exact h, HL9.out.2.2⟩
                    case measure => simp [intOf]; omega
                  · have c3 : decide (Y1 < vy) = false := by simpa using h3
                    have f3 := Lib.hid (HST.out.2.2.2.2 h3)
                    go_upto_region 8 with fail
                    clear h3 c3
                    have HL9 := Lib.hid (And.intro KB (And.intro KR BV))
                    have HF9 := Lib.hid (And.intro f0.out (And.intro f1.out (And.intro f2.out f3.out)))
                    clear KB KR BV f0 f1 f2 f3 z0 z1 z2 z3 zl
                    go_wp2
                    go_roundw
                    case rel => exact ⟨j + 1, by omega, by go_num, by rw [HTJ.out]; simp, HL9.out.2.1, by
                      rw [HTJ.out]
                      have h := HL9.out.1
                      rw [HF9.out.1, HF9.out.2.1, HF9.out.2.2.1, HF9.out.2.2.2] at h
                      exact h, HL9.out.2.2⟩
                    case measure => simp [intOf]; omega
                · have c2 : decide (X1 < ux) = false := by simpa using h2
                  have f2 := Lib.hid (HST.out.2.2.1.2 h2)
                  go_upto_region 21 with fail
                  clear h2 c2
                  by_cases h3 : Y1 < vy
                  · have c3 : decide (Y1 < vy) = true := by simpa using h3
                    have f3 := Lib.hid (HST.out.2.2.2.1 h3)
                    go_upto_region 8 with fail
                    obtain ⟨V3, hV⟩ : ∃ V, V = wv.setCell ⟨bb, 3, none⟩ (.int .i64 vy) := ⟨_, rfl⟩
                    rw [← hV]
                    have KB := hV ▸ KB.set 3 (.int .i64 vy)
                    have KB : Blk V3 bb 48 #[.int .i64 X0, .int .i64 fy, .int .i64 X1, .int .i64 vy] := KB
                    have KR : Blk V3 rb 48 #[.int .i64 0, .int .i64 0, .int .i64 0, .int .i64 0] := hV ▸ KR.only ((Only.refl wv [bb]).set (p := ⟨bb, 3, none⟩) (.inl (by simp)) (.int .i64 vy)) (by simp; omega)
                    have BV : Below w.heap.size w V3 := hV ▸ BV.setCell (p := ⟨bb, 3, none⟩) (by simp; omega) (.int .i64 vy)
                    clear hV z0 z1 z2 z3 zl h3 c3
                    obtain ⟨wv, hwv⟩ : ∃ wv, wv = V3 := ⟨_, rfl⟩
                    rw [← hwv] at KB KR BV ⊢
                    clear hwv
                    have z0 := KB.cell 0; have z1 := KB.cell 1; have z2 := KB.cell 2; have z3 := KB.cell 3; have zl := KB.lt; simp only [List.getElem?_toArray, List.getElem?_cons_succ, List.getElem?_cons_zero] at z0 z1 z2 z3
                    have y0 := KB.frozen 0
                    have y1 := KB.frozen 1
                    have y2 := KB.frozen 2
                    have y3 := KB.frozen 3
                    have HL9 := Lib.hid (And.intro KB (And.intro KR BV))
                    have HF9 := Lib.hid (And.intro f0.out (And.intro f1.out (And.intro f2.out f3.out)))
                    clear KB KR BV f0 f1 f2 f3 z0 z1 z2 z3 zl
                    go_wp2
                    go_roundw
                    case rel => exact ⟨j + 1, by omega, by go_num, by rw [HTJ.out]; simp, HL9.out.2.1, by
                      rw [HTJ.out]
                      have h := HL9.out.1
                      rw [HF9.out.1, HF9.out.2.1, HF9.out.2.2.1, HF9.out.2.2.2] at h
                      exact h, HL9.out.2.2⟩
                    case measure => simp [intOf]; omega
                  · have c3 : decide (Y1 < vy) = false := by simpa using h3
                    have f3 := Lib.hid (HST.out.2.2.2.2 h3)
                    go_upto_region 8 with fail
                    clear h3 c3
                    have HL9 := Lib.hid (And.intro KB (And.intro KR BV))
                    have HF9 := Lib.hid (And.intro f0.out (And.intro f1.out (And.intro f2.out f3.out)))
                    clear KB KR BV f0 f1 f2 f3 z0 z1 z2 z3 zl
                    go_wp2
                    go_roundw
                    case rel => exact ⟨j + 1, by omega, by go_num, by rw [HTJ.out]; simp, HL9.out.2.1, by
                      rw [HTJ.out]
                      have h := HL9.out.1
                      rw [HF9.out.1, HF9.out.2.1, HF9.out.2.2.1, HF9.out.2.2.2] at h
                      exact h, HL9.out.2.2⟩
                    case measure => simp [intOf]; omega
              · have c1 : decide (fy < Y0) = false := by simpa using h1
                have f1 := Lib.hid (HST.out.2.1.2 h1)
                go_upto_region 19 with fail
                clear h1 c1
                by_cases h2 : X1 < ux
                · have c2 : decide (X1 < ux) = true := by simpa using h2
                  have f2 := Lib.hid (HST.out.2.2.1.1 h2)
                  go_upto_region 21 with fail
                  obtain ⟨V2, hV⟩ : ∃ V, V = wv.setCell ⟨bb, 2, none⟩ (.int .i64 ux) := ⟨_, rfl⟩
                  rw [← hV]
                  have KB := hV ▸ KB.set 2 (.int .i64 ux)
                  have KB : Blk V2 bb 48 #[.int .i64 X0, .int .i64 Y0, .int .i64 ux, .int .i64 Y1] := KB
                  have KR : Blk V2 rb 48 #[.int .i64 0, .int .i64 0, .int .i64 0, .int .i64 0] := hV ▸ KR.only ((Only.refl wv [bb]).set (p := ⟨bb, 2, none⟩) (.inl (by simp)) (.int .i64 ux)) (by simp; omega)
                  have BV : Below w.heap.size w V2 := hV ▸ BV.setCell (p := ⟨bb, 2, none⟩) (by simp; omega) (.int .i64 ux)
                  clear hV z0 z1 z2 z3 zl h2 c2
                  obtain ⟨wv, hwv⟩ : ∃ wv, wv = V2 := ⟨_, rfl⟩
                  rw [← hwv] at KB KR BV ⊢
                  clear hwv
                  have z0 := KB.cell 0; have z1 := KB.cell 1; have z2 := KB.cell 2; have z3 := KB.cell 3; have zl := KB.lt; simp only [List.getElem?_toArray, List.getElem?_cons_succ, List.getElem?_cons_zero] at z0 z1 z2 z3
                  have y0 := KB.frozen 0
                  have y1 := KB.frozen 1
                  have y2 := KB.frozen 2
                  have y3 := KB.frozen 3
                  by_cases h3 : Y1 < vy
                  · have c3 : decide (Y1 < vy) = true := by simpa using h3
                    have f3 := Lib.hid (HST.out.2.2.2.1 h3)
                    go_upto_region 8 with fail
                    obtain ⟨V3, hV⟩ : ∃ V, V = wv.setCell ⟨bb, 3, none⟩ (.int .i64 vy) := ⟨_, rfl⟩
                    rw [← hV]
                    have KB := hV ▸ KB.set 3 (.int .i64 vy)
                    have KB : Blk V3 bb 48 #[.int .i64 X0, .int .i64 Y0, .int .i64 ux, .int .i64 vy] := KB
                    have KR : Blk V3 rb 48 #[.int .i64 0, .int .i64 0, .int .i64 0, .int .i64 0] := hV ▸ KR.only ((Only.refl wv [bb]).set (p := ⟨bb, 3, none⟩) (.inl (by simp)) (.int .i64 vy)) (by simp; omega)
                    have BV : Below w.heap.size w V3 := hV ▸ BV.setCell (p := ⟨bb, 3, none⟩) (by simp; omega) (.int .i64 vy)
                    clear hV z0 z1 z2 z3 zl h3 c3
                    obtain ⟨wv, hwv⟩ : ∃ wv, wv = V3 := ⟨_, rfl⟩
                    rw [← hwv] at KB KR BV ⊢
                    clear hwv
                    have z0 := KB.cell 0; have z1 := KB.cell 1; have z2 := KB.cell 2; have z3 := KB.cell 3; have zl := KB.lt; simp only [List.getElem?_toArray, List.getElem?_cons_succ, List.getElem?_cons_zero] at z0 z1 z2 z3
                    have y0 := KB.frozen 0
                    have y1 := KB.frozen 1
                    have y2 := KB.frozen 2
                    have y3 := KB.frozen 3
                    have HL9 := Lib.hid (And.intro KB (And.intro KR BV))
                    have HF9 := Lib.hid (And.intro f0.out (And.intro f1.out (And.intro f2.out f3.out)))
                    clear KB KR BV f0 f1 f2 f3 z0 z1 z2 z3 zl
                    go_wp2
                    go_roundw
                    case rel => exact ⟨j + 1, by omega, by go_num, by rw [HTJ.out]; simp, HL9.out.2.1, by
                      rw [HTJ.out]
                      have h := HL9.out.1
                      rw [HF9.out.1, HF9.out.2.1, HF9.out.2.2.1, HF9.out.2.2.2] at h
                      exact h, HL9.out.2.2⟩
                    case measure => simp [intOf]; omega
                  · have c3 : decide (Y1 < vy) = false := by simpa using h3
                    have f3 := Lib.hid (HST.out.2.2.2.2 h3)
                    go_upto_region 8 with fail
                    clear h3 c3
                    have HL9 := Lib.hid (And.intro KB (And.intro KR BV))
                    have HF9 := Lib.hid (And.intro f0.out (And.intro f1.out (And.intro f2.out f3.out)))
                    clear KB KR BV f0 f1 f2 f3 z0 z1 z2 z3 zl
                    go_wp2
                    go_roundw
                    case rel => exact ⟨j + 1, by omega, by go_num, by rw [HTJ.out]; simp, HL9.out.2.1, by
                      rw [HTJ.out]
                      have h := HL9.out.1
                      rw [HF9.out.1, HF9.out.2.1, HF9.out.2.2.1, HF9.out.2.2.2] at h
                      exact h, HL9.out.2.2⟩
                    case measure => simp [intOf]; omega
                · have c2 : decide (X1 < ux) = false := by simpa using h2
                  have f2 := Lib.hid (HST.out.2.2.1.2 h2)
                  go_upto_region 21 with fail
                  clear h2 c2
                  by_cases h3 : Y1 < vy
                  · have c3 : decide (Y1 < vy) = true := by simpa using h3
                    have f3 := Lib.hid (HST.out.2.2.2.1 h3)
                    go_upto_region 8 with fail
                    obtain ⟨V3, hV⟩ : ∃ V, V = wv.setCell ⟨bb, 3, none⟩ (.int .i64 vy) := ⟨_, rfl⟩
                    rw [← hV]
                    have KB := hV ▸ KB.set 3 (.int .i64 vy)
                    have KB : Blk V3 bb 48 #[.int .i64 X0, .int .i64 Y0, .int .i64 X1, .int .i64 vy] := KB
                    have KR : Blk V3 rb 48 #[.int .i64 0, .int .i64 0, .int .i64 0, .int .i64 0] := hV ▸ KR.only ((Only.refl wv [bb]).set (p := ⟨bb, 3, none⟩) (.inl (by simp)) (.int .i64 vy)) (by simp; omega)
                    have BV : Below w.heap.size w V3 := hV ▸ BV.setCell (p := ⟨bb, 3, none⟩) (by simp; omega) (.int .i64 vy)
                    clear hV z0 z1 z2 z3 zl h3 c3
                    obtain ⟨wv, hwv⟩ : ∃ wv, wv = V3 := ⟨_, rfl⟩
                    rw [← hwv] at KB KR BV ⊢
                    clear hwv
                    have z0 := KB.cell 0; have z1 := KB.cell 1; have z2 := KB.cell 2; have z3 := KB.cell 3; have zl := KB.lt; simp only [List.getElem?_toArray, List.getElem?_cons_succ, List.getElem?_cons_zero] at z0 z1 z2 z3
                    have y0 := KB.frozen 0
                    have y1 := KB.frozen 1
                    have y2 := KB.frozen 2
                    have y3 := KB.frozen 3
                    have HL9 := Lib.hid (And.intro KB (And.intro KR BV))
                    have HF9 := Lib.hid (And.intro f0.out (And.intro f1.out (And.intro f2.out f3.out)))
                    clear KB KR BV f0 f1 f2 f3 z0 z1 z2 z3 zl
                    go_wp2
                    go_roundw
                    case rel => exact ⟨j + 1, by omega, by go_num, by rw [HTJ.out]; simp, HL9.out.2.1, by
                      rw [HTJ.out]
                      have h := HL9.out.1
                      rw [HF9.out.1, HF9.out.2.1, HF9.out.2.2.1, HF9.out.2.2.2] at h
                      exact h, HL9.out.2.2⟩
                    case measure => simp [intOf]; omega
                  · have c3 : decide (Y1 < vy) = false := by simpa using h3
                    have f3 := Lib.hid (HST.out.2.2.2.2 h3)
                    go_upto_region 8 with fail
                    clear h3 c3
                    have HL9 := Lib.hid (And.intro KB (And.intro KR BV))
                    have HF9 := Lib.hid (And.intro f0.out (And.intro f1.out (And.intro f2.out f3.out)))
                    clear KB KR BV f0 f1 f2 f3 z0 z1 z2 z3 zl
                    go_wp2
                    go_roundw
                    case rel => exact ⟨j + 1, by omega, by go_num, by rw [HTJ.out]; simp, HL9.out.2.1, by
                      rw [HTJ.out]
                      have h := HL9.out.1
                      rw [HF9.out.1, HF9.out.2.1, HF9.out.2.2.1, HF9.out.2.2.2] at h
                      exact h, HL9.out.2.2⟩
                    case measure => simp [intOf]; omega
        · obtain rfl : j = m0 := by omega
          have d2 : decide ((j : Int) < (j : Int)) = false := by simp
          have hTL : L.take j = L := List.take_of_length_le (by rw [← HM0.out]; exact Nat.le_refl _)
          rw [hTL, ← HT.out] at KB ⊢
          have HL9 := Lib.hid (And.intro KB (And.intro KR hb))
          clear KB KR hb hTL
          go_wp2
          go_roundw
          case rel => exact ⟨k + 1, by omega, by go_num, rfl, HL9.out.2.1, HL9.out.1, HL9.out.2.2⟩
          case measure => simp [intOf]; omega
    · obtain rfl : k = n := by omega
      have d1 : decide ((k : Int) < (k : Int)) = false := by simp
      have hTK : Ls.take k = Ls := List.take_of_length_le (by rw [← HN.out]; exact Nat.le_refl _)
      rw [hTK] at KB ⊢
      have HR := Lib.hid (show boxF Ls = if emptyQ (bxF Ls.flatten) then ⟨0, 0, 0, 0⟩ else bxF Ls.flatten from rfl)
      generalize bxF Ls.flatten = BQ at *
      obtain ⟨X0, Y0, X1, Y1⟩ := BQ
      have HL9 := Lib.hid (And.intro KB (And.intro KR hb))
      have HWB := Lib.hid (show rb < bb ∧ bb < wr.heap.size ∧ w.heap.size ≤ rb from ⟨by rw [HRB.out, HBB.out]; omega, KB.lt, by rw [HRB.out]; exact Nat.le_refl _⟩)
      have z0 := KB.cell 0; have z1 := KB.cell 1; have z2 := KB.cell 2; have z3 := KB.cell 3; have zl := KB.lt; simp only [List.getElem?_toArray, List.getElem?_cons_succ, List.getElem?_cons_zero] at z0 z1 z2 z3
      have y0 := KB.frozen 0
      have y1 := KB.frozen 1
      have y2 := KB.frozen 2
      have y3 := KB.frozen 3
      clear hTK KR hb
      have fin : ∀ (v : Array Value) (V : World), v = #[.int .i64 (boxF Ls).x0, .int .i64 (boxF Ls).y0, .int .i64 (boxF Ls).x1, .int .i64 (boxF Ls).y1] → V = wr.setRow rb v → Blk V rb 48 v ∧ Below w.heap.size w V := fun v V _ hV => ⟨hV ▸ blk_row HL9.out.2.1 v, hV ▸ below_setRow HL9.out.2.2 HWB.out.2.2 v⟩
      have HFIN := Lib.hid fin
      clear fin KB
      by_cases hx : X1 ≤ X0
      · have c1 : decide (X1 ≤ X0) = true := by simpa using hx
        have HR2 : Hid (boxF Ls = ⟨0, 0, 0, 0⟩) := Lib.hid (by rw [HR.out]; simp [emptyQ, hx])
        clear hx
        go_wp2_with (refine wpList_store_row rfl 48 (.tmp 2) (.tmp 92) (by with_reducible rfl) rb #[.int .i64 0, .int .i64 0, .int .i64 0, .int .i64 0] (by rfl) (by rfl) 48 #[.int .i64 0, .int .i64 0, .int .i64 0, .int .i64 0] (by exact HL9.out.2.1) flQInfo rfl (by simp [Value.oneCell']) ?_)
        have hf := HFIN.out #[.int .i64 0, .int .i64 0, .int .i64 0, .int .i64 0] _ (by rw [HR2.out]) rfl
        exact bodyPost_ret (results_cell_row Try.results24 _ _ rb 48 #[.int .i64 0, .int .i64 0, .int .i64 0, .int .i64 0] (0, 0) _ (by rfl) (show Blk _ _ _ _ from hf.1) Try.underlying48 rfl flQInfo) rfl ⟨by rw [HR2.out], hf.2⟩
      · by_cases hy : Y1 ≤ Y0
        · have c1 : decide (X1 ≤ X0) = false := by simpa using hx
          have c2 : decide (Y1 ≤ Y0) = true := by simpa using hy
          have HR2 : Hid (boxF Ls = ⟨0, 0, 0, 0⟩) := Lib.hid (by rw [HR.out]; simp [emptyQ, hy])
          clear hx hy
          go_wp2_with (refine wpList_store_row rfl 48 (.tmp 2) (.tmp 92) (by with_reducible rfl) rb #[.int .i64 0, .int .i64 0, .int .i64 0, .int .i64 0] (by rfl) (by rfl) 48 #[.int .i64 0, .int .i64 0, .int .i64 0, .int .i64 0] (by exact HL9.out.2.1) flQInfo rfl (by simp [Value.oneCell']) ?_)
          have hf := HFIN.out #[.int .i64 0, .int .i64 0, .int .i64 0, .int .i64 0] _ (by rw [HR2.out]) rfl
          exact bodyPost_ret (results_cell_row Try.results24 _ _ rb 48 #[.int .i64 0, .int .i64 0, .int .i64 0, .int .i64 0] (0, 0) _ (by rfl) (show Blk _ _ _ _ from hf.1) Try.underlying48 rfl flQInfo) rfl ⟨by rw [HR2.out], hf.2⟩
        · have c1 : decide (X1 ≤ X0) = false := by simpa using hx
          have c2 : decide (Y1 ≤ Y0) = false := by simpa using hy
          have HR2 : Hid (boxF Ls = ⟨X0, Y0, X1, Y1⟩) := Lib.hid (by rw [HR.out]; simp [emptyQ, hx, hy])
          clear hx hy
          go_wp2_with (refine wpList_store_row rfl 48 (.tmp 2) (.tmp 93) (by with_reducible rfl) rb #[.int .i64 X0, .int .i64 Y0, .int .i64 X1, .int .i64 Y1] (by rfl) (by rfl) 48 #[.int .i64 0, .int .i64 0, .int .i64 0, .int .i64 0] (by exact HL9.out.2.1) flQInfo rfl (by simp [Value.oneCell']) ?_)
          have hf := HFIN.out #[.int .i64 X0, .int .i64 Y0, .int .i64 X1, .int .i64 Y1] _ (by rw [HR2.out]) rfl
          exact bodyPost_ret (results_cell_row Try.results24 _ _ rb 48 #[.int .i64 X0, .int .i64 Y0, .int .i64 X1, .int .i64 Y1] (0, 0) _ (by rfl) (show Blk _ _ _ _ from hf.1) Try.underlying48 rfl flQInfo) rfl ⟨by rw [HR2.out], hf.2⟩
end Go.Proofs.Ytlacjifnniahhaa
