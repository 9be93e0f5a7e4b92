/- Which metrics and places may be put, by the reference. -/
import Derived.Test.YtdbhfigdojkceaaMet14
namespace Go.Proofs.Ytdbhfigdojkceaa
open Go Go.RowKit

theorem may_true {L : List (Int × Int)} {m : Nat} (h : ∀ k q, L[k]? = some q → okMet q = true ∧ (m ≤ k → q.1 = lastAdv L m)) : mayPut L m = true := by
  unfold mayPut
  rw [Bool.and_eq_true, List.all_eq_true, List.all_eq_true]
  refine ⟨fun q hq => ?_, fun q hq => ?_⟩
  · obtain ⟨k, hk⟩ := List.mem_iff_getElem?.1 hq
    exact (h k q hk).1
  · obtain ⟨k, hk⟩ := List.mem_iff_getElem?.1 hq
    rw [List.getElem?_drop] at hk
    simpa using (h (m + k) q hk).2 (by omega)
theorem may_false {L : List (Int × Int)} {m k : Nat} {q : Int × Int} (hk : L[k]? = some q) (h : okMet q = false ∨ (m ≤ k ∧ q.1 ≠ lastAdv L m)) : mayPut L m = false := by
  cases hm : mayPut L m
  · rfl
  · unfold mayPut at hm
    rw [Bool.and_eq_true, List.all_eq_true, List.all_eq_true] at hm
    rcases h with h | ⟨h1, h2⟩
    · have := hm.1 q (List.mem_of_getElem? hk)
      rw [h] at this; cases this
    · have := hm.2 q (List.mem_iff_getElem?.2 ⟨k - m, by rw [List.getElem?_drop, show m + (k - m) = k by omega]; exact hk⟩)
      exact absurd (by simpa using this) h2
theorem okMet_of {a b : Int} (h1 : 0 ≤ a) (h2 : a ≤ 65535) (h3 : -32768 ≤ b) (h4 : b ≤ 32767) : okMet (a, b) = true := by simp [okMet, h1, h2, h3, h4]
theorem okMet_no {a b : Int} (h : a < 0 ∨ 65535 < a ∨ b < -32768 ∨ 32767 < b) : okMet (a, b) = false := by
  cases hm : okMet (a, b)
  · rfl
  · simp only [okMet, Bool.and_eq_true, decide_eq_true_eq] at hm
    omega

/-- Metrics that may be, m being any number. -/
def mayI (L : List (Int × Int)) (m : Int) : Bool := cmB L.length m && mayPut L m.toNat

set_option maxRecDepth 100000 in
set_option maxHeartbeats 4000000 in
theorem rmay_loop (k0 : Nat) (B : Nat) (A : Option Addr) (c : Nat) (L : List (Int × Int)) (w : World) (hB : B ≤ w.heap.size) (hL : Lists w B A (metCells L)) (hc : cmB L.length ((k0 : Int) + 1) = true) :
    Calls Try.prog 10 #[.slice A L.length c, .int .i64 ((k0 : Int) + 1)] w fun e w' => e = .returned (.bool (mayPut L (k0 + 1))) ∧ Below w.heap.size w w' := by
  have hc' := cmB_true hc
  obtain ⟨⟨la, lb⟩, hla⟩ : ∃ x, L[k0]? = some x := ⟨L[k0]'(by omega), List.getElem?_eq_getElem _⟩
  have hlast : lastAdv L (k0 + 1) = la := by unfold lastAdv; rw [List.getD_eq_getElem?_getD, Nat.add_sub_cancel, hla]; rfl
  obtain ⟨b, o, rfl, hbl, hcl⟩ := hL.plain (by intro e; have := metCells_len L; rw [e] at this; simp at this; omega)
  have HF : ∀ W, Below w.heap.size w W → ∀ k x y, L[k]? = some (x, y) → W.cell? ⟨b, o + k * 2, none⟩ = some (.int .i64 x) ∧ W.cell? ⟨b, o + k * 2 + 1, none⟩ = some (.int .i64 y) := fun W hb k x y hk => by
    obtain ⟨h1, h2⟩ := metCells_at L k x y hk
    refine ⟨(hb.cell (p := ⟨b, o + k * 2, none⟩) (Nat.lt_of_lt_of_le hbl hB)).trans (hcl _ _ h1), ?_⟩
    have := (hb.cell (p := ⟨b, o + (k * 2 + 1), none⟩) (Nat.lt_of_lt_of_le hbl hB)).trans (hcl _ _ h2)
    rwa [← Nat.add_assoc] at this
  have HLA := Lib.hid hlast
  have HL0 := Lib.hid hla
  clear hc hL hcl hla hlast
  obtain ⟨n, hnn⟩ : ∃ n, n = L.length := ⟨_, rfl⟩
  rw [← hnn] at hc' ⊢
  have HN := Lib.hid hnn
  clear hnn
  have g1 : ¬ (n : Int) < 1 := by omega
  have g2 : ¬ 65535 < (n : Int) := by omega
  have g3 : ¬ (k0 : Int) + 1 < 1 := by omega
  have g4 : ¬ (n : Int) < (k0 : Int) + 1 := by omega
  have g5 : (0 : Int) ≤ (k0 : Int) := by omega
  have g6 : (k0 : Int) < (n : Int) := by omega
  have s1 : IntKind.i64.wrap (k0 : Int) = (k0 : Int) := IntWalk.i64_in _ (by omega)
  go_enter Try.func10, Try.ntmps10
  go_wp2
  go_loopw [5] (fun i wr => ∃ j : Nat, j ≤ n ∧ i = .int .i64 j ∧ Below w.heap.size w wr ∧ Hid (∀ k q, k < j → L[k]? = some q → okMet q = true ∧ (k0 + 1 ≤ k → q.1 = lastAdv L (k0 + 1)))) (fun i _ => n - (intOf i).toNat)
  case atStart => exact ⟨0, Nat.zero_le _, rfl, Below.refl _ _, Lib.hid (fun k q h => by omega)⟩
  case round =>
    obtain ⟨j, hj, rfl, hb, HK0⟩ := hrel
    by_cases hlt : j < n
    · have e1 : decide ((j : Int) < (n : Int)) = true := by simp; omega
      have e0 : (j : Int) < (n : Int) := by omega
      have e2 : (0 : Int) ≤ (j : Int) := by omega
      obtain ⟨⟨x, y⟩, hx1⟩ : ∃ x, L[j]? = some x := ⟨L[j]'(by rw [← HN.out]; exact hlt), List.getElem?_eq_getElem _⟩
      have HK : ∀ W, Below w.heap.size w W → W.cell? ⟨b, o + j * 2, none⟩ = some (.int .i64 x) ∧ W.cell? ⟨b, o + j * 2 + 1, none⟩ = some (.int .i64 y) ∧ W.cell? ⟨b, o + k0 * 2, none⟩ = some (.int .i64 la) := fun W h => ⟨(HF W h j x y hx1).1, (HF W h j x y hx1).2, (HF W h k0 la lb HL0.out).1⟩
      have HX := Lib.hid hx1
      clear hx1
      go_wp2
      by_cases a1 : x < 0
      · have HN2 := Lib.hid (may_false (m := k0 + 1) HX.out (.inl (okMet_no (.inl a1))))
        have hI : Below w.heap.size w wr.drew := hb.drew
        refine wp_region_chain (fun W => Below w.heap.size w W) [(0, false), (1, false), (2, false), (3, false), (4, false), (5, false), (6, false), (7, false), (8, false), (9, false), (10, false), (11, false), (12, false), (13, false), (14, false), (15, false), (16, false), (17, false), (18, false), (19, false), (20, false), (21, false), (22, false), (23, false), (24, false), (25, false), (26, false), (27, false), (28, false), (29, false), (30, false), (31, false), (32, false), (33, false), (34, false), (35, false), (36, false), (37, false), (38, false), (39, false), (40, false), (41, false), (42, false), (43, false), (44, false), (45, false), (46, false), (47, false), (48, false)] (by kernel_rfl) (by kernel_rfl) hI ?_
        repeat (first
          | (refine ChainL.skip (o := ?_) ?_ ?_ ?_; rotate_left; (focus (first | (simp only [List.getElem?_toArray, List.getElem?_cons_succ, List.getElem?_cons_zero]; with_reducible rfl) | (simp only [List.getElem?_toArray, List.getElem?_cons_zero]; with_reducible rfl))); (focus rfl); simp only [Act.put, List.setIfInBounds_toArray, List.set_cons_zero, List.set_cons_succ])
          | (refine ChainL.val (o := ?_) (v := ?_) ?_ ?_ ?_ ?_ ?_; rotate_left 2; (focus (first | (simp only [List.getElem?_toArray, List.getElem?_cons_succ, List.getElem?_cons_zero]; with_reducible rfl) | (simp only [List.getElem?_toArray, List.getElem?_cons_zero]; with_reducible rfl))); (focus (intro _ _ h; cases h)); (focus rfl); (focus (intro w' hJ; obtain ⟨y1, y2, y3⟩ := HK _ hJ; go_simp <;> with_reducible rfl)); simp only [Act.put, List.setIfInBounds_toArray, List.set_cons_zero, List.set_cons_succ]))
        refine ChainL.nil ?_
        go_wp2
        go_ret
        exact ⟨congrArg (fun r => Ending.returned (.bool r)) HN2.out.symm, hI⟩
      · have b1 : 0 ≤ x := by omega
        by_cases a2 : 65535 < x
        · have HN2 := Lib.hid (may_false (m := k0 + 1) HX.out (.inl (okMet_no (.inr (.inl a2)))))
          have hI : Below w.heap.size w wr.drew := hb.drew
          refine wp_region_chain (fun W => Below w.heap.size w W) [(0, false), (1, false), (2, false), (3, false), (4, false), (5, false), (6, false), (7, false), (8, false), (9, false), (10, false), (11, false), (12, false), (13, false), (14, false), (15, false), (16, false), (17, false), (18, false), (19, false), (20, false), (21, false), (22, false), (23, false), (24, false), (25, false), (26, false), (27, false), (28, false), (29, false), (30, false), (31, false), (32, false), (33, false), (34, false), (35, false), (36, false), (37, false), (38, false), (39, false), (40, false), (41, false), (42, false), (43, false), (44, false), (45, false), (46, false), (47, false), (48, false)] (by kernel_rfl) (by kernel_rfl) hI ?_
          repeat (first
            | (refine ChainL.skip (o := ?_) ?_ ?_ ?_; rotate_left; (focus (first | (simp only [List.getElem?_toArray, List.getElem?_cons_succ, List.getElem?_cons_zero]; with_reducible rfl) | (simp only [List.getElem?_toArray, List.getElem?_cons_zero]; with_reducible rfl))); (focus rfl); simp only [Act.put, List.setIfInBounds_toArray, List.set_cons_zero, List.set_cons_succ])
            | (refine ChainL.val (o := ?_) (v := ?_) ?_ ?_ ?_ ?_ ?_; rotate_left 2; (focus (first | (simp only [List.getElem?_toArray, List.getElem?_cons_succ, List.getElem?_cons_zero]; with_reducible rfl) | (simp only [List.getElem?_toArray, List.getElem?_cons_zero]; with_reducible rfl))); (focus (intro _ _ h; cases h)); (focus rfl); (focus (intro w' hJ; obtain ⟨y1, y2, y3⟩ := HK _ hJ; go_simp <;> with_reducible rfl)); simp only [Act.put, List.setIfInBounds_toArray, List.set_cons_zero, List.set_cons_succ]))
          refine ChainL.nil ?_
          go_wp2
          go_ret
          exact ⟨congrArg (fun r => Ending.returned (.bool r)) HN2.out.symm, hI⟩
        · have b2 : x ≤ 65535 := by omega
          by_cases a3 : y < -32768
          · have HN2 := Lib.hid (may_false (m := k0 + 1) HX.out (.inl (okMet_no (.inr (.inr (.inl a3))))))
            have hI : Below w.heap.size w wr.drew := hb.drew
            refine wp_region_chain (fun W => Below w.heap.size w W) [(0, false), (1, false), (2, false), (3, false), (4, false), (5, false), (6, false), (7, false), (8, false), (9, false), (10, false), (11, false), (12, false), (13, false), (14, false), (15, false), (16, false), (17, false), (18, false), (19, false), (20, false), (21, false), (22, false), (23, false), (24, false), (25, false), (26, false), (27, false), (28, false), (29, false), (30, false), (31, false), (32, false), (33, false), (34, false), (35, false), (36, false), (37, false), (38, false), (39, false), (40, false), (41, false), (42, false), (43, false), (44, false), (45, false), (46, false), (47, false), (48, false)] (by kernel_rfl) (by kernel_rfl) hI ?_
            repeat (first
              | (refine ChainL.skip (o := ?_) ?_ ?_ ?_; rotate_left; (focus (first | (simp only [List.getElem?_toArray, List.getElem?_cons_succ, List.getElem?_cons_zero]; with_reducible rfl) | (simp only [List.getElem?_toArray, List.getElem?_cons_zero]; with_reducible rfl))); (focus rfl); simp only [Act.put, List.setIfInBounds_toArray, List.set_cons_zero, List.set_cons_succ])
              | (refine ChainL.val (o := ?_) (v := ?_) ?_ ?_ ?_ ?_ ?_; rotate_left 2; (focus (first | (simp only [List.getElem?_toArray, List.getElem?_cons_succ, List.getElem?_cons_zero]; with_reducible rfl) | (simp only [List.getElem?_toArray, List.getElem?_cons_zero]; with_reducible rfl))); (focus (intro _ _ h; cases h)); (focus rfl); (focus (intro w' hJ; obtain ⟨y1, y2, y3⟩ := HK _ hJ; go_simp <;> with_reducible rfl)); simp only [Act.put, List.setIfInBounds_toArray, List.set_cons_zero, List.set_cons_succ]))
            refine ChainL.nil ?_
            go_wp2
            go_ret
            exact ⟨congrArg (fun r => Ending.returned (.bool r)) HN2.out.symm, hI⟩
          · have b3 : -32768 ≤ y := by omega
            by_cases a4 : 32768 ≤ y
            · have HN2 := Lib.hid (may_false (m := k0 + 1) HX.out (.inl (okMet_no (.inr (.inr (.inr (by omega)))))))
              have hI : Below w.heap.size w wr.drew := hb.drew
              refine wp_region_chain (fun W => Below w.heap.size w W) [(0, false), (1, false), (2, false), (3, false), (4, false), (5, false), (6, false), (7, false), (8, false), (9, false), (10, false), (11, false), (12, false), (13, false), (14, false), (15, false), (16, false), (17, false), (18, false), (19, false), (20, false), (21, false), (22, false), (23, false), (24, false), (25, false), (26, false), (27, false), (28, false), (29, false), (30, false), (31, false), (32, false), (33, false), (34, false), (35, false), (36, false), (37, false), (38, false), (39, false), (40, false), (41, false), (42, false), (43, false), (44, false), (45, false), (46, false), (47, false), (48, false)] (by kernel_rfl) (by kernel_rfl) hI ?_
              repeat (first
                | (refine ChainL.skip (o := ?_) ?_ ?_ ?_; rotate_left; (focus (first | (simp only [List.getElem?_toArray, List.getElem?_cons_succ, List.getElem?_cons_zero]; with_reducible rfl) | (simp only [List.getElem?_toArray, List.getElem?_cons_zero]; with_reducible rfl))); (focus rfl); simp only [Act.put, List.setIfInBounds_toArray, List.set_cons_zero, List.set_cons_succ])
                | (refine ChainL.val (o := ?_) (v := ?_) ?_ ?_ ?_ ?_ ?_; rotate_left 2; (focus (first | (simp only [List.getElem?_toArray, List.getElem?_cons_succ, List.getElem?_cons_zero]; with_reducible rfl) | (simp only [List.getElem?_toArray, List.getElem?_cons_zero]; with_reducible rfl))); (focus (intro _ _ h; cases h)); (focus rfl); (focus (intro w' hJ; obtain ⟨y1, y2, y3⟩ := HK _ hJ; go_simp <;> with_reducible rfl)); simp only [Act.put, List.setIfInBounds_toArray, List.set_cons_zero, List.set_cons_succ]))
              refine ChainL.nil ?_
              go_wp2
              go_ret
              exact ⟨congrArg (fun r => Ending.returned (.bool r)) HN2.out.symm, hI⟩
            · have b4 : y < 32768 := by omega
              by_cases a5 : (k0 : Int) + 1 ≤ (j : Int)
              · cases a6 : (x == la)
                · have a7 : (x != la) = true := by unfold bne; rw [a6]; rfl
                  have HN2 := Lib.hid (may_false (m := k0 + 1) HX.out (.inr ⟨by omega, by rw [HLA.out]; simpa using a6⟩))
                  have hI : Below w.heap.size w wr.drew := hb.drew
                  refine wp_region_chain (fun W => Below w.heap.size w W) [(0, false), (1, false), (2, false), (3, false), (4, false), (5, false), (6, false), (7, false), (8, false), (9, false), (10, false), (11, false), (12, false), (13, false), (14, false), (15, false), (16, false), (17, false), (18, false), (19, false), (20, false), (21, false), (22, false), (23, false), (24, false), (25, false), (26, false), (27, false), (28, false), (29, false), (30, false), (31, false), (32, false), (33, false), (34, false), (35, false), (36, false), (37, false), (38, false), (39, false), (40, false), (41, false), (42, false), (43, false), (44, false), (45, false), (46, false), (47, false), (48, false)] (by kernel_rfl) (by kernel_rfl) hI ?_
                  repeat (first
                    | (refine ChainL.skip (o := ?_) ?_ ?_ ?_; rotate_left; (focus (first | (simp only [List.getElem?_toArray, List.getElem?_cons_succ, List.getElem?_cons_zero]; with_reducible rfl) | (simp only [List.getElem?_toArray, List.getElem?_cons_zero]; with_reducible rfl))); (focus rfl); simp only [Act.put, List.setIfInBounds_toArray, List.set_cons_zero, List.set_cons_succ])
                    | (refine ChainL.val (o := ?_) (v := ?_) ?_ ?_ ?_ ?_ ?_; rotate_left 2; (focus (first | (simp only [List.getElem?_toArray, List.getElem?_cons_succ, List.getElem?_cons_zero]; with_reducible rfl) | (simp only [List.getElem?_toArray, List.getElem?_cons_zero]; with_reducible rfl))); (focus (intro _ _ h; cases h)); (focus rfl); (focus (intro w' hJ; obtain ⟨y1, y2, y3⟩ := HK _ hJ; go_simp <;> with_reducible rfl)); simp only [Act.put, List.setIfInBounds_toArray, List.set_cons_zero, List.set_cons_succ]))
                  refine ChainL.nil ?_
                  go_wp2
                  go_ret
                  exact ⟨congrArg (fun r => Ending.returned (.bool r)) HN2.out.symm, hI⟩
                · have a7 : (x != la) = false := by unfold bne; rw [a6]; rfl
                  have HJ := Lib.hid (show ∀ k q, k < j + 1 → L[k]? = some q → okMet q = true ∧ (k0 + 1 ≤ k → q.1 = lastAdv L (k0 + 1)) from fun k q hk hq => by
                    rcases Nat.lt_or_ge k j with h | h
                    · exact HK0.out k q h hq
                    · obtain rfl : k = j := by omega
                      rw [HX.out] at hq
                      cases hq
                      exact ⟨okMet_of b1 b2 b3 (by omega), fun _ => by rw [HLA.out]; simpa using a6⟩)
                  have hI : Below w.heap.size w wr.drew := hb.drew
                  refine wp_region_chain (fun W => Below w.heap.size w W) [(0, false), (1, false), (2, false), (3, false), (4, false), (5, false), (6, false), (7, false), (8, false), (9, false), (10, false), (11, false), (12, false), (13, false), (14, false), (15, false), (16, false), (17, false), (18, false), (19, false), (20, false), (21, false), (22, false), (23, false), (24, false), (25, false), (26, false), (27, false), (28, false), (29, false), (30, false), (31, false), (32, false), (33, false), (34, false), (35, false), (36, false), (37, false), (38, false), (39, false), (40, false), (41, false), (42, false), (43, false), (44, false), (45, false), (46, false), (47, false), (48, false)] (by kernel_rfl) (by kernel_rfl) hI ?_
                  repeat (first
                    | (refine ChainL.skip (o := ?_) ?_ ?_ ?_; rotate_left; (focus (first | (simp only [List.getElem?_toArray, List.getElem?_cons_succ, List.getElem?_cons_zero]; with_reducible rfl) | (simp only [List.getElem?_toArray, List.getElem?_cons_zero]; with_reducible rfl))); (focus rfl); simp only [Act.put, List.setIfInBounds_toArray, List.set_cons_zero, List.set_cons_succ])
                    | (refine ChainL.val (o := ?_) (v := ?_) ?_ ?_ ?_ ?_ ?_; rotate_left 2; (focus (first | (simp only [List.getElem?_toArray, List.getElem?_cons_succ, List.getElem?_cons_zero]; with_reducible rfl) | (simp only [List.getElem?_toArray, List.getElem?_cons_zero]; with_reducible rfl))); (focus (intro _ _ h; cases h)); (focus rfl); (focus (intro w' hJ; obtain ⟨y1, y2, y3⟩ := HK _ hJ; go_simp <;> with_reducible rfl)); simp only [Act.put, List.setIfInBounds_toArray, List.set_cons_zero, List.set_cons_succ]))
                  refine ChainL.nil ?_
                  go_wp2
                  go_roundw
                  case rel => exact ⟨j + 1, by omega, by go_num, hI, HJ⟩
                  case measure => simp [intOf]; omega
              · have a6 : (j : Int) < (k0 : Int) + 1 := by omega
                have HJ := Lib.hid (show ∀ k q, k < j + 1 → L[k]? = some q → okMet q = true ∧ (k0 + 1 ≤ k → q.1 = lastAdv L (k0 + 1)) from fun k q hk hq => by
                  rcases Nat.lt_or_ge k j with h | h
                  · exact HK0.out k q h hq
                  · obtain rfl : k = j := by omega
                    rw [HX.out] at hq
                    cases hq
                    exact ⟨okMet_of b1 b2 b3 (by omega), fun h => by omega⟩)
                have hI : Below w.heap.size w wr.drew := hb.drew
                refine wp_region_chain (fun W => Below w.heap.size w W) [(0, false), (1, false), (2, false), (3, false), (4, false), (5, false), (6, false), (7, false), (8, false), (9, false), (10, false), (11, false), (12, false), (13, false), (14, false), (15, false), (16, false), (17, false), (18, false), (19, false), (20, false), (21, false), (22, false), (23, false), (24, false), (25, false), (26, false), (27, false), (28, false), (29, false), (30, false), (31, false), (32, false), (33, false), (34, false), (35, false), (36, false), (37, false), (38, false), (39, false), (40, false), (41, false), (42, false), (43, false), (44, false), (45, false), (46, false), (47, false), (48, false)] (by kernel_rfl) (by kernel_rfl) hI ?_
                repeat (first
                  | (refine ChainL.skip (o := ?_) ?_ ?_ ?_; rotate_left; (focus (first | (simp only [List.getElem?_toArray, List.getElem?_cons_succ, List.getElem?_cons_zero]; with_reducible rfl) | (simp only [List.getElem?_toArray, List.getElem?_cons_zero]; with_reducible rfl))); (focus rfl); simp only [Act.put, List.setIfInBounds_toArray, List.set_cons_zero, List.set_cons_succ])
                  | (refine ChainL.val (o := ?_) (v := ?_) ?_ ?_ ?_ ?_ ?_; rotate_left 2; (focus (first | (simp only [List.getElem?_toArray, List.getElem?_cons_succ, List.getElem?_cons_zero]; with_reducible rfl) | (simp only [List.getElem?_toArray, List.getElem?_cons_zero]; with_reducible rfl))); (focus (intro _ _ h; cases h)); (focus rfl); (focus (intro w' hJ; obtain ⟨y1, y2, y3⟩ := HK _ hJ; go_simp <;> with_reducible rfl)); simp only [Act.put, List.setIfInBounds_toArray, List.set_cons_zero, List.set_cons_succ]))
                refine ChainL.nil ?_
                go_wp2
                go_roundw
                case rel => exact ⟨j + 1, by omega, by go_num, hI, HJ⟩
                case measure => simp [intOf]; omega
    · have e1 : decide ((j : Int) < (n : Int)) = false := by simp; omega
      have HT := Lib.hid (show mayPut L (k0 + 1) = true from may_true fun k q hq => HK0.out k q (by have := (List.getElem?_eq_some_iff.1 hq).1; have := HN.out; omega) hq)
      go_wp2
      go_ret
      exact ⟨congrArg (fun r => Ending.returned (.bool r)) HT.out.symm, hb⟩

theorem rmay_any (m : Int) (B : Nat) (A : Option Addr) (c : Nat) (L : List (Int × Int)) (w : World) (hB : B ≤ w.heap.size) (hL : Lists w B A (metCells L)) :
    Calls Try.prog 10 #[.slice A L.length c, .int .i64 m] w fun e w' => e = .returned (.bool (mayI L m)) ∧ Below w.heap.size w w' := by
  cases hc : cmB L.length m
  · have HE := Lib.hid (show mayI L m = false by unfold mayI; rw [hc]; rfl)
    clear hL
    have hcases : (L.length : Int) < 1 ∨ (1 ≤ (L.length : Int) ∧ 65535 < (L.length : Int)) ∨ (1 ≤ (L.length : Int) ∧ (L.length : Int) ≤ 65535 ∧ m < 1) ∨ (1 ≤ (L.length : Int) ∧ (L.length : Int) ≤ 65535 ∧ 1 ≤ m ∧ (L.length : Int) < m) := by
      rcases Int.lt_or_le (L.length : Int) 1 with h | h
      · exact .inl h
      · rcases Int.lt_or_le 65535 (L.length : Int) with h2 | h2
        · exact .inr (.inl ⟨h, h2⟩)
        · rcases Int.lt_or_le m 1 with h3 | h3
          · exact .inr (.inr (.inl ⟨h, h2, h3⟩))
          · rcases Int.lt_or_le (L.length : Int) m with h4 | h4
            · exact .inr (.inr (.inr ⟨h, h2, h3, h4⟩))
            · rw [cmB_yes h h2 h3 h4] at hc; cases hc
    clear hc
    have HE2 : ∀ (e : Ending) (w' : World), e = .returned (.bool false) → Below w.heap.size w w' → e = .returned (.bool (mayI L m)) ∧ Below w.heap.size w w' := fun e w' h1 h2 => ⟨by rw [HE.out]; exact h1, h2⟩
    have HH := Lib.hid HE2
    clear HE HE2
    generalize L.length = n at *
    generalize mayI L m = r at *
    rcases hcases with h1 | ⟨h1, h2⟩ | ⟨h1, h2, h3⟩ | ⟨h1, h2, h3, h4⟩
    all_goals
      go_enter Try.func10, Try.ntmps10
      go_wp2
      go_ret
      exact HH.out _ _ rfl (Below.refl _ _)
  · have h := cmB_true hc
    obtain ⟨k0, rfl⟩ : ∃ k0 : Nat, m = (k0 : Int) + 1 := ⟨(m - 1).toNat, by omega⟩
    have := rmay_loop k0 B A c L w hB hL hc
    unfold mayI
    rw [hc, Bool.true_and, show ((k0 : Int) + 1).toNat = k0 + 1 by omega]
    exact this

end Go.Proofs.Ytdbhfigdojkceaa
