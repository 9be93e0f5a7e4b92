/- Which places may be put, by the reference. -/
import Derived.Test.YtdbhfigdojkceaaMet14
namespace Go.Proofs.Ytdbhfigdojkceaa
open Go Go.RowKit

def mayP (long : Bool) (L : List Int) : Bool := decide (2 ≤ L.length) && decide (L.length ≤ 65536) && (rises 1048576 0 L && L.all (okOff long))
theorem rises_le (most : Int) : ∀ (L : List Int) (last : Int) (i : Nat) (a b : Int), rises most last L = true → L[i]? = some a → L[i + 1]? = some b → a ≤ b
  | [], _, _, _, _, _, h, _ => by simp at h
  | [x], _, i, _, _, _, _, h => by simp at h
  | x :: y :: r, last, 0, a, b, h, h1, h2 => by
    simp only [rises, Bool.and_eq_true, decide_eq_true_eq] at h
    simp at h1 h2
    omega
  | x :: y :: r, last, i + 1, a, b, h, h1, h2 => by
    rw [rises, Bool.and_eq_true] at h
    exact rises_le most (y :: r) x i a b h.2 (by simpa using h1) (by simpa using h2)
theorem rises_of (most : Int) : ∀ (L : List Int) (last : Int), (∀ (k : Nat) (y : Int), L[k]? = some y → y ≤ most) → (∀ y : Int, L[0]? = some y → last ≤ y) → (∀ (k : Nat) (a b : Int), L[k]? = some a → L[k + 1]? = some b → a ≤ b) → rises most last L = true
  | [], _, _, _, _ => rfl
  | x :: r, last, h1, h2, h3 => by
    rw [rises, Bool.and_eq_true, Bool.and_eq_true, decide_eq_true_eq, decide_eq_true_eq]
    refine ⟨⟨h2 x rfl, h1 0 x rfl⟩, rises_of most r x (fun k y hk => h1 (k + 1) y (by simpa using hk)) (fun y hy => h3 0 x y rfl (by simpa using hy)) (fun k a b ha hb => h3 (k + 1) a b (by simpa using ha) (by simpa using hb))⟩
theorem mayP_of_rises {long : Bool} {L : List Int} (h : mayP long L = true) : 2 ≤ L.length ∧ L.length ≤ 65536 ∧ rises 1048576 0 L = true ∧ ∀ y ∈ L, okOff long y = true := by
  unfold mayP at h
  simp only [Bool.and_eq_true, decide_eq_true_eq, List.all_eq_true] at h
  exact ⟨h.1.1, h.1.2, h.2.1, h.2.2⟩
theorem mayP_low {long : Bool} {L : List Int} {k : Nat} {x : Int} (hk : L[k]? = some x) (h : x < 0 ∨ 1048576 < x) : mayP long L = false := by
  cases hm : mayP long L
  · rfl
  · have := rises_ge 1048576 L 0 (mayP_of_rises hm).2.2.1 x (List.mem_of_getElem? hk)
    omega
theorem mayP_fall {long : Bool} {L : List Int} {k : Nat} {x y : Int} (hk : L[k]? = some y) (hk1 : L[k + 1]? = some x) (h : x < y) : mayP long L = false := by
  cases hm : mayP long L
  · rfl
  · have := rises_le 1048576 L 0 k y x (mayP_of_rises hm).2.2.1 hk hk1
    omega
theorem mayP_odd {long : Bool} {L : List Int} {k : Nat} {x : Int} (hk : L[k]? = some x) (h : okOff long x = false) : mayP long L = false := by
  cases hm : mayP long L
  · rfl
  · have := (mayP_of_rises hm).2.2.2 x (List.mem_of_getElem? hk)
    rw [h] at this; cases this
/-- The first j are as they should be. -/
def PlOk (long : Bool) (L : List Int) (j : Nat) : Prop := ∀ k y, k < j → L[k]? = some y → 0 ≤ y ∧ y ≤ 1048576 ∧ okOff long y = true ∧ ∀ i z, i + 1 = k → L[i]? = some z → z ≤ y
theorem PlOk.next {long : Bool} {L : List Int} {j : Nat} {x : Int} (h : PlOk long L j) (hx : L[j]? = some x) (h1 : 0 ≤ x) (h2 : x ≤ 1048576) (h3 : okOff long x = true) (h4 : ∀ i z, i + 1 = j → L[i]? = some z → z ≤ x) : PlOk long L (j + 1) := fun k y hk hy => by
  rcases Nat.lt_or_ge k j with h5 | h5
  · exact h k y h5 hy
  · obtain rfl : k = j := by omega
    rw [hx] at hy
    cases hy
    exact ⟨h1, h2, h3, h4⟩
theorem PlOk.may {long : Bool} {L : List Int} (h : PlOk long L L.length) (h1 : 2 ≤ L.length) (h2 : L.length ≤ 65536) : mayP long L = true := by
  have hlt : ∀ k (y : Int), L[k]? = some y → k < L.length := fun k y hk => (List.getElem?_eq_some_iff.1 hk).1
  unfold mayP
  rw [decide_eq_true h1, decide_eq_true h2, Bool.true_and, Bool.true_and, Bool.and_eq_true]
  refine ⟨rises_of _ L 0 (fun k y hk => (h k y (hlt k y hk) hk).2.1) (fun y hy => (h 0 y (hlt 0 y hy) hy).1) (fun k a b ha hb => (h (k + 1) b (hlt _ b hb) hb).2.2.2 k a rfl ha), List.all_eq_true.2 fun y hy => ?_⟩
  obtain ⟨k, hk⟩ := List.mem_iff_getElem?.1 hy
  exact (h k y (hlt k y hk) hk).2.2.1

set_option maxRecDepth 100000 in
set_option maxHeartbeats 4000000 in
theorem rmayp_any (long : Bool) (B : Nat) (A : Option Addr) (c : Nat) (L : List Int) (w : World) (hB : B ≤ w.heap.size) (hL : Lists w B A (intCells L)) :
    Calls Try.prog 16 #[.slice A L.length c, .bool long] w fun e w' => e = .returned (.bool (mayP long L)) ∧ Below w.heap.size w w' := by
  have hcases : (L.length < 2 ∧ mayP long L = false) ∨ (2 ≤ L.length ∧ 65536 < L.length ∧ mayP long L = false) ∨ (2 ≤ L.length ∧ L.length ≤ 65536) := by
    rcases Nat.lt_or_ge L.length 2 with h | h
    · exact .inl ⟨h, by unfold mayP; rw [decide_eq_false (by omega)]; rfl⟩
    · rcases Nat.lt_or_ge 65536 L.length with h2 | h2
      · exact .inr (.inl ⟨h, h2, by unfold mayP; rw [decide_eq_false (p := L.length ≤ 65536) (by omega), Bool.and_false]; rfl⟩)
      · exact .inr (.inr ⟨h, h2⟩)
  rcases hcases with ⟨h1, h2⟩ | ⟨h0, h1, h2⟩ | ⟨h1, h2⟩
  · rw [h2]
    clear hL h2
    generalize L.length = n at *
    have d1 : (n : Int) < 2 := by omega
    go_enter Try.func16, Try.ntmps16
    go_wp2
    go_ret
    exact ⟨rfl, Below.refl _ _⟩
  · rw [h2]
    clear hL h2
    generalize L.length = n at *
    have d1 : ¬ (n : Int) < 2 := by omega
    have d2 : 65536 < (n : Int) := by omega
    go_enter Try.func16, Try.ntmps16
    go_wp2
    go_ret
    exact ⟨rfl, Below.refl _ _⟩
  · obtain ⟨b, o, rfl, hbl, hcl⟩ := hL.plain (by intro e; have := intCells_len L; rw [e] at this; simp at this; omega)
    have HF : ∀ W, Below w.heap.size w W → ∀ k x, L[k]? = some x → W.cell? ⟨b, o + k, none⟩ = some (.int .i64 x) := fun W hb k x hk => by
      refine (hb.cell (p := ⟨b, o + k, none⟩) (Nat.lt_of_lt_of_le hbl hB)).trans (hcl _ _ ?_)
      unfold intCells; rw [List.getElem?_map, hk]; rfl
    clear hcl hL
    obtain ⟨n, hnn⟩ : ∃ n, n = L.length := ⟨_, rfl⟩
    rw [← hnn] at h1 h2 ⊢
    have HN := Lib.hid hnn
    clear hnn
    have g1 : ¬ (n : Int) < 2 := by omega
    have g2 : ¬ 65536 < (n : Int) := by omega
    go_enter Try.func16, Try.ntmps16
    go_wp2
    go_loopw [5] (fun i wr => ∃ j : Nat, j ≤ n ∧ i = .int .i64 j ∧ Below w.heap.size w wr ∧ Hid (PlOk long L j)) (fun i _ => n - (intOf i).toNat)
    case atStart => exact ⟨0, Nat.zero_le _, rfl, Below.refl _ _, Lib.hid (fun k q h => by omega)⟩
    case round =>
      obtain ⟨j, hj, rfl, hb, HK0⟩ := hrel
      by_cases hlt : j < n
      · have e0 : (j : Int) < (n : Int) := by omega
        obtain ⟨x, hx1⟩ : ∃ x, L[j]? = some x := ⟨L[j]'(by rw [← HN.out]; exact hlt), List.getElem?_eq_getElem _⟩
        cases j with
        | zero =>
          have HK : ∀ W, Below w.heap.size w W → W.cell? ⟨b, o, none⟩ = some (.int .i64 x) ∧ True := fun W h => ⟨HF W h 0 x hx1, trivial⟩
          have HX := Lib.hid hx1
          clear hx1
          have e1 : decide (((0 : Nat) : Int) < (n : Int)) = true := by simp; omega
          have e5 : (0 : Int) < (n : Int) := by omega
          go_wp2
          by_cases a1 : x < 0
          · have HN2 := Lib.hid (mayP_low (long := long) HX.out (.inl a1))
            have hI : Below w.heap.size w wr.drew := hb.drew
            refine wp_region_chain (fun W => Below w.heap.size w W) [(0, false), (1, false), (2, false), (3, false), (4, false), (5, false), (6, false), (7, false), (8, false), (9, false), (10, false), (11, false), (12, false), (13, false), (14, false), (15, false), (16, false), (17, false), (18, false), (19, false), (20, false), (21, false), (22, false), (23, false), (24, false), (25, false), (26, false), (27, false), (28, false), (29, false), (30, false), (31, false), (32, false), (33, false), (34, false), (35, false), (36, false), (37, false), (38, false), (39, false), (40, false), (41, false), (42, false), (43, false), (44, false), (45, false), (46, false)] (by kernel_rfl) (by kernel_rfl) hI ?_
            repeat (first
              | (refine ChainL.skip (o := ?_) ?_ ?_ ?_; rotate_left; (focus (first | (simp only [List.getElem?_toArray, List.getElem?_cons_succ, List.getElem?_cons_zero]; with_reducible rfl) | (simp only [List.getElem?_toArray, List.getElem?_cons_zero]; with_reducible rfl))); (focus rfl); simp only [Act.put, List.setIfInBounds_toArray, List.set_cons_zero, List.set_cons_succ])
              | (refine ChainL.val (o := ?_) (v := ?_) ?_ ?_ ?_ ?_ ?_; rotate_left 2; (focus (first | (simp only [List.getElem?_toArray, List.getElem?_cons_succ, List.getElem?_cons_zero]; with_reducible rfl) | (simp only [List.getElem?_toArray, List.getElem?_cons_zero]; with_reducible rfl))); (focus (intro _ _ h; cases h)); (focus rfl); (focus (intro w' hJ; obtain ⟨y1, y2⟩ := HK _ hJ; go_simp <;> with_reducible rfl)); simp only [Act.put, List.setIfInBounds_toArray, List.set_cons_zero, List.set_cons_succ]))
            refine ChainL.nil ?_
            go_wp2
            go_ret
            exact ⟨congrArg (fun r => Ending.returned (.bool r)) HN2.out.symm, hI⟩
          · have b1 : 0 ≤ x := by omega
            by_cases a2 : 1048576 < x
            · have HN2 := Lib.hid (mayP_low (long := long) HX.out (.inr a2))
              have hI : Below w.heap.size w wr.drew := hb.drew
              refine wp_region_chain (fun W => Below w.heap.size w W) [(0, false), (1, false), (2, false), (3, false), (4, false), (5, false), (6, false), (7, false), (8, false), (9, false), (10, false), (11, false), (12, false), (13, false), (14, false), (15, false), (16, false), (17, false), (18, false), (19, false), (20, false), (21, false), (22, false), (23, false), (24, false), (25, false), (26, false), (27, false), (28, false), (29, false), (30, false), (31, false), (32, false), (33, false), (34, false), (35, false), (36, false), (37, false), (38, false), (39, false), (40, false), (41, false), (42, false), (43, false), (44, false), (45, false), (46, false)] (by kernel_rfl) (by kernel_rfl) hI ?_
              repeat (first
                | (refine ChainL.skip (o := ?_) ?_ ?_ ?_; rotate_left; (focus (first | (simp only [List.getElem?_toArray, List.getElem?_cons_succ, List.getElem?_cons_zero]; with_reducible rfl) | (simp only [List.getElem?_toArray, List.getElem?_cons_zero]; with_reducible rfl))); (focus rfl); simp only [Act.put, List.setIfInBounds_toArray, List.set_cons_zero, List.set_cons_succ])
                | (refine ChainL.val (o := ?_) (v := ?_) ?_ ?_ ?_ ?_ ?_; rotate_left 2; (focus (first | (simp only [List.getElem?_toArray, List.getElem?_cons_succ, List.getElem?_cons_zero]; with_reducible rfl) | (simp only [List.getElem?_toArray, List.getElem?_cons_zero]; with_reducible rfl))); (focus (intro _ _ h; cases h)); (focus rfl); (focus (intro w' hJ; obtain ⟨y1, y2⟩ := HK _ hJ; go_simp <;> with_reducible rfl)); simp only [Act.put, List.setIfInBounds_toArray, List.set_cons_zero, List.set_cons_succ]))
              refine ChainL.nil ?_
              go_wp2
              go_ret
              exact ⟨congrArg (fun r => Ending.returned (.bool r)) HN2.out.symm, hI⟩
            · have b2 : x ≤ 1048576 := by omega
              have HJ0 := Lib.hid (show okOff long x = true → Hid (PlOk long L (0 + 1)) from fun ho => Lib.hid (HK0.out.next HX.out b1 b2 ho (fun i z h hy => by omega)))
              have t1 : x.tmod 2 = x % 2 := Int.tmod_eq_emod_of_nonneg b1
              have t2 : IntKind.i64.wrap (x % 2) = x % 2 := IntWalk.i64_in _ (by omega)
              cases long
              · cases a4 : (x % 2 == 0)
                · have a5 : (x % 2 != 0) = true := by unfold bne; rw [a4]; rfl
                  have HN2 := Lib.hid (mayP_odd (long := false) HX.out (by unfold okOff; rw [a4]; rfl))
                  have hI : Below w.heap.size w wr.drew := hb.drew
                  refine wp_region_chain (fun W => Below w.heap.size w W) [(0, false), (1, false), (2, false), (3, false), (4, false), (5, false), (6, false), (7, false), (8, false), (9, false), (10, false), (11, false), (12, false), (13, false), (14, false), (15, false), (16, false), (17, false), (18, false), (19, false), (20, false), (21, false), (22, false), (23, false), (24, false), (25, false), (26, false), (27, false), (28, false), (29, false), (30, false), (31, false), (32, false), (33, false), (34, false), (35, false), (36, false), (37, false), (38, false), (39, false), (40, false), (41, false), (42, false), (43, false), (44, false), (45, false), (46, false)] (by kernel_rfl) (by kernel_rfl) hI ?_
                  repeat (first
                    | (refine ChainL.skip (o := ?_) ?_ ?_ ?_; rotate_left; (focus (first | (simp only [List.getElem?_toArray, List.getElem?_cons_succ, List.getElem?_cons_zero]; with_reducible rfl) | (simp only [List.getElem?_toArray, List.getElem?_cons_zero]; with_reducible rfl))); (focus rfl); simp only [Act.put, List.setIfInBounds_toArray, List.set_cons_zero, List.set_cons_succ])
                    | (refine ChainL.val (o := ?_) (v := ?_) ?_ ?_ ?_ ?_ ?_; rotate_left 2; (focus (first | (simp only [List.getElem?_toArray, List.getElem?_cons_succ, List.getElem?_cons_zero]; with_reducible rfl) | (simp only [List.getElem?_toArray, List.getElem?_cons_zero]; with_reducible rfl))); (focus (intro _ _ h; cases h)); (focus rfl); (focus (intro w' hJ; obtain ⟨y1, y2⟩ := HK _ hJ; go_simp <;> with_reducible rfl)); simp only [Act.put, List.setIfInBounds_toArray, List.set_cons_zero, List.set_cons_succ]))
                  refine ChainL.nil ?_
                  go_wp2
                  go_ret
                  exact ⟨congrArg (fun r => Ending.returned (.bool r)) HN2.out.symm, hI⟩
                · have a5 : (x % 2 != 0) = false := by unfold bne; rw [a4]; rfl
                  by_cases a6 : 131070 < x
                  · have HN2 := Lib.hid (mayP_odd (long := false) HX.out (by unfold okOff; rw [a4]; simp; omega))
                    have hI : Below w.heap.size w wr.drew := hb.drew
                    refine wp_region_chain (fun W => Below w.heap.size w W) [(0, false), (1, false), (2, false), (3, false), (4, false), (5, false), (6, false), (7, false), (8, false), (9, false), (10, false), (11, false), (12, false), (13, false), (14, false), (15, false), (16, false), (17, false), (18, false), (19, false), (20, false), (21, false), (22, false), (23, false), (24, false), (25, false), (26, false), (27, false), (28, false), (29, false), (30, false), (31, false), (32, false), (33, false), (34, false), (35, false), (36, false), (37, false), (38, false), (39, false), (40, false), (41, false), (42, false), (43, false), (44, false), (45, false), (46, false)] (by kernel_rfl) (by kernel_rfl) hI ?_
                    repeat (first
                      | (refine ChainL.skip (o := ?_) ?_ ?_ ?_; rotate_left; (focus (first | (simp only [List.getElem?_toArray, List.getElem?_cons_succ, List.getElem?_cons_zero]; with_reducible rfl) | (simp only [List.getElem?_toArray, List.getElem?_cons_zero]; with_reducible rfl))); (focus rfl); simp only [Act.put, List.setIfInBounds_toArray, List.set_cons_zero, List.set_cons_succ])
                      | (refine ChainL.val (o := ?_) (v := ?_) ?_ ?_ ?_ ?_ ?_; rotate_left 2; (focus (first | (simp only [List.getElem?_toArray, List.getElem?_cons_succ, List.getElem?_cons_zero]; with_reducible rfl) | (simp only [List.getElem?_toArray, List.getElem?_cons_zero]; with_reducible rfl))); (focus (intro _ _ h; cases h)); (focus rfl); (focus (intro w' hJ; obtain ⟨y1, y2⟩ := HK _ hJ; go_simp <;> with_reducible rfl)); simp only [Act.put, List.setIfInBounds_toArray, List.set_cons_zero, List.set_cons_succ]))
                    refine ChainL.nil ?_
                    go_wp2
                    go_ret
                    exact ⟨congrArg (fun r => Ending.returned (.bool r)) HN2.out.symm, hI⟩
                  · have HJ := HJ0.out (by unfold okOff; rw [a4]; simp; omega)
                    have hI : Below w.heap.size w wr.drew := hb.drew
                    refine wp_region_chain (fun W => Below w.heap.size w W) [(0, false), (1, false), (2, false), (3, false), (4, false), (5, false), (6, false), (7, false), (8, false), (9, false), (10, false), (11, false), (12, false), (13, false), (14, false), (15, false), (16, false), (17, false), (18, false), (19, false), (20, false), (21, false), (22, false), (23, false), (24, false), (25, false), (26, false), (27, false), (28, false), (29, false), (30, false), (31, false), (32, false), (33, false), (34, false), (35, false), (36, false), (37, false), (38, false), (39, false), (40, false), (41, false), (42, false), (43, false), (44, false), (45, false), (46, false)] (by kernel_rfl) (by kernel_rfl) hI ?_
                    repeat (first
                      | (refine ChainL.skip (o := ?_) ?_ ?_ ?_; rotate_left; (focus (first | (simp only [List.getElem?_toArray, List.getElem?_cons_succ, List.getElem?_cons_zero]; with_reducible rfl) | (simp only [List.getElem?_toArray, List.getElem?_cons_zero]; with_reducible rfl))); (focus rfl); simp only [Act.put, List.setIfInBounds_toArray, List.set_cons_zero, List.set_cons_succ])
                      | (refine ChainL.val (o := ?_) (v := ?_) ?_ ?_ ?_ ?_ ?_; rotate_left 2; (focus (first | (simp only [List.getElem?_toArray, List.getElem?_cons_succ, List.getElem?_cons_zero]; with_reducible rfl) | (simp only [List.getElem?_toArray, List.getElem?_cons_zero]; with_reducible rfl))); (focus (intro _ _ h; cases h)); (focus rfl); (focus (intro w' hJ; obtain ⟨y1, y2⟩ := HK _ hJ; go_simp <;> with_reducible rfl)); simp only [Act.put, List.setIfInBounds_toArray, List.set_cons_zero, List.set_cons_succ]))
                    refine ChainL.nil ?_
                    go_wp2
                    go_roundw
                    case rel => exact ⟨0 + 1, by omega, by go_num, hI, HJ⟩
                    case measure => simp [intOf]; omega
              · have HJ := HJ0.out rfl
                have hI : Below w.heap.size w wr.drew := hb.drew
                refine wp_region_chain (fun W => Below w.heap.size w W) [(0, false), (1, false), (2, false), (3, false), (4, false), (5, false), (6, false), (7, false), (8, false), (9, false), (10, false), (11, false), (12, false), (13, false), (14, false), (15, false), (16, false), (17, false), (18, false), (19, false), (20, false), (21, false), (22, false), (23, false), (24, false), (25, false), (26, false), (27, false), (28, false), (29, false), (30, false), (31, false), (32, false), (33, false), (34, false), (35, false), (36, false), (37, false), (38, false), (39, false), (40, false), (41, false), (42, false), (43, false), (44, false), (45, false), (46, false)] (by kernel_rfl) (by kernel_rfl) hI ?_
                repeat (first
                  | (refine ChainL.skip (o := ?_) ?_ ?_ ?_; rotate_left; (focus (first | (simp only [List.getElem?_toArray, List.getElem?_cons_succ, List.getElem?_cons_zero]; with_reducible rfl) | (simp only [List.getElem?_toArray, List.getElem?_cons_zero]; with_reducible rfl))); (focus rfl); simp only [Act.put, List.setIfInBounds_toArray, List.set_cons_zero, List.set_cons_succ])
                  | (refine ChainL.val (o := ?_) (v := ?_) ?_ ?_ ?_ ?_ ?_; rotate_left 2; (focus (first | (simp only [List.getElem?_toArray, List.getElem?_cons_succ, List.getElem?_cons_zero]; with_reducible rfl) | (simp only [List.getElem?_toArray, List.getElem?_cons_zero]; with_reducible rfl))); (focus (intro _ _ h; cases h)); (focus rfl); (focus (intro w' hJ; obtain ⟨y1, y2⟩ := HK _ hJ; go_simp <;> with_reducible rfl)); simp only [Act.put, List.setIfInBounds_toArray, List.set_cons_zero, List.set_cons_succ]))
                refine ChainL.nil ?_
                go_wp2
                go_roundw
                case rel => exact ⟨0 + 1, by omega, by go_num, hI, HJ⟩
                case measure => simp [intOf]; omega
        | succ i0 =>
          obtain ⟨y, hy1⟩ : ∃ y, L[i0]? = some y := ⟨L[i0]'(by rw [← HN.out]; omega), List.getElem?_eq_getElem _⟩
          have HK : ∀ W, Below w.heap.size w W → W.cell? ⟨b, o + (i0 + 1), none⟩ = some (.int .i64 x) ∧ W.cell? ⟨b, o + i0, none⟩ = some (.int .i64 y) := fun W h => ⟨HF W h (i0 + 1) x hx1, HF W h i0 y hy1⟩
          have HX := Lib.hid hx1
          have HY := Lib.hid hy1
          clear hx1 hy1
          have e1 : decide ((i0 : Int) + 1 < (n : Int)) = true := by simp; omega
          have e2 : (0 : Int) ≤ (i0 : Int) + 1 := by omega
          have e3 : (0 : Int) ≤ (i0 : Int) := by omega
          have e4 : (0 : Int) < (i0 : Int) + 1 := by omega
          have e5 : (i0 : Int) + 1 < (n : Int) := by omega
          have e6 : (i0 : Int) < (n : Int) := by omega
          have s1 : IntKind.i64.wrap (i0 : Int) = (i0 : Int) := IntWalk.i64_in _ (by omega)
          have s2 : ((i0 : Int) + 1).toNat = i0 + 1 := by omega
          go_wp2
          by_cases a1 : x < 0
          · have HN2 := Lib.hid (mayP_low (long := long) HX.out (.inl a1))
            have hI : Below w.heap.size w wr.drew := hb.drew
            refine wp_region_chain (fun W => Below w.heap.size w W) [(0, false), (1, false), (2, false), (3, false), (4, false), (5, false), (6, false), (7, false), (8, false), (9, false), (10, false), (11, false), (12, false), (13, false), (14, false), (15, false), (16, false), (17, false), (18, false), (19, false), (20, false), (21, false), (22, false), (23, false), (24, false), (25, false), (26, false), (27, false), (28, false), (29, false), (30, false), (31, false), (32, false), (33, false), (34, false), (35, false), (36, false), (37, false), (38, false), (39, false), (40, false), (41, false), (42, false), (43, false), (44, false), (45, false), (46, false)] (by kernel_rfl) (by kernel_rfl) hI ?_
            repeat (first
              | (refine ChainL.skip (o := ?_) ?_ ?_ ?_; rotate_left; (focus (first | (simp only [List.getElem?_toArray, List.getElem?_cons_succ, List.getElem?_cons_zero]; with_reducible rfl) | (simp only [List.getElem?_toArray, List.getElem?_cons_zero]; with_reducible rfl))); (focus rfl); simp only [Act.put, List.setIfInBounds_toArray, List.set_cons_zero, List.set_cons_succ])
              | (refine ChainL.val (o := ?_) (v := ?_) ?_ ?_ ?_ ?_ ?_; rotate_left 2; (focus (first | (simp only [List.getElem?_toArray, List.getElem?_cons_succ, List.getElem?_cons_zero]; with_reducible rfl) | (simp only [List.getElem?_toArray, List.getElem?_cons_zero]; with_reducible rfl))); (focus (intro _ _ h; cases h)); (focus rfl); (focus (intro w' hJ; obtain ⟨y1, y2⟩ := HK _ hJ; go_simp <;> with_reducible rfl)); simp only [Act.put, List.setIfInBounds_toArray, List.set_cons_zero, List.set_cons_succ]))
            refine ChainL.nil ?_
            go_wp2
            go_ret
            exact ⟨congrArg (fun r => Ending.returned (.bool r)) HN2.out.symm, hI⟩
          · have b1 : 0 ≤ x := by omega
            by_cases a2 : 1048576 < x
            · have HN2 := Lib.hid (mayP_low (long := long) HX.out (.inr a2))
              have hI : Below w.heap.size w wr.drew := hb.drew
              refine wp_region_chain (fun W => Below w.heap.size w W) [(0, false), (1, false), (2, false), (3, false), (4, false), (5, false), (6, false), (7, false), (8, false), (9, false), (10, false), (11, false), (12, false), (13, false), (14, false), (15, false), (16, false), (17, false), (18, false), (19, false), (20, false), (21, false), (22, false), (23, false), (24, false), (25, false), (26, false), (27, false), (28, false), (29, false), (30, false), (31, false), (32, false), (33, false), (34, false), (35, false), (36, false), (37, false), (38, false), (39, false), (40, false), (41, false), (42, false), (43, false), (44, false), (45, false), (46, false)] (by kernel_rfl) (by kernel_rfl) hI ?_
              repeat (first
                | (refine ChainL.skip (o := ?_) ?_ ?_ ?_; rotate_left; (focus (first | (simp only [List.getElem?_toArray, List.getElem?_cons_succ, List.getElem?_cons_zero]; with_reducible rfl) | (simp only [List.getElem?_toArray, List.getElem?_cons_zero]; with_reducible rfl))); (focus rfl); simp only [Act.put, List.setIfInBounds_toArray, List.set_cons_zero, List.set_cons_succ])
                | (refine ChainL.val (o := ?_) (v := ?_) ?_ ?_ ?_ ?_ ?_; rotate_left 2; (focus (first | (simp only [List.getElem?_toArray, List.getElem?_cons_succ, List.getElem?_cons_zero]; with_reducible rfl) | (simp only [List.getElem?_toArray, List.getElem?_cons_zero]; with_reducible rfl))); (focus (intro _ _ h; cases h)); (focus rfl); (focus (intro w' hJ; obtain ⟨y1, y2⟩ := HK _ hJ; go_simp <;> with_reducible rfl)); simp only [Act.put, List.setIfInBounds_toArray, List.set_cons_zero, List.set_cons_succ]))
              refine ChainL.nil ?_
              go_wp2
              go_ret
              exact ⟨congrArg (fun r => Ending.returned (.bool r)) HN2.out.symm, hI⟩
            · have b2 : x ≤ 1048576 := by omega
              by_cases a3 : x < y
              · have HN2 := Lib.hid (mayP_fall (long := long) HY.out HX.out a3)
                have hI : Below w.heap.size w wr.drew := hb.drew
                refine wp_region_chain (fun W => Below w.heap.size w W) [(0, false), (1, false), (2, false), (3, false), (4, false), (5, false), (6, false), (7, false), (8, false), (9, false), (10, false), (11, false), (12, false), (13, false), (14, false), (15, false), (16, false), (17, false), (18, false), (19, false), (20, false), (21, false), (22, false), (23, false), (24, false), (25, false), (26, false), (27, false), (28, false), (29, false), (30, false), (31, false), (32, false), (33, false), (34, false), (35, false), (36, false), (37, false), (38, false), (39, false), (40, false), (41, false), (42, false), (43, false), (44, false), (45, false), (46, false)] (by kernel_rfl) (by kernel_rfl) hI ?_
                repeat (first
                  | (refine ChainL.skip (o := ?_) ?_ ?_ ?_; rotate_left; (focus (first | (simp only [List.getElem?_toArray, List.getElem?_cons_succ, List.getElem?_cons_zero]; with_reducible rfl) | (simp only [List.getElem?_toArray, List.getElem?_cons_zero]; with_reducible rfl))); (focus rfl); simp only [Act.put, List.setIfInBounds_toArray, List.set_cons_zero, List.set_cons_succ])
                  | (refine ChainL.val (o := ?_) (v := ?_) ?_ ?_ ?_ ?_ ?_; rotate_left 2; (focus (first | (simp only [List.getElem?_toArray, List.getElem?_cons_succ, List.getElem?_cons_zero]; with_reducible rfl) | (simp only [List.getElem?_toArray, List.getElem?_cons_zero]; with_reducible rfl))); (focus (intro _ _ h; cases h)); (focus rfl); (focus (intro w' hJ; obtain ⟨y1, y2⟩ := HK _ hJ; go_simp <;> with_reducible rfl)); simp only [Act.put, List.setIfInBounds_toArray, List.set_cons_zero, List.set_cons_succ]))
                refine ChainL.nil ?_
                go_wp2
                go_ret
                exact ⟨congrArg (fun r => Ending.returned (.bool r)) HN2.out.symm, hI⟩
              · have b3 : y ≤ x := by omega
                have hprev : ∀ i z, i + 1 = i0 + 1 → L[i]? = some z → z ≤ x := fun i z h hy => by
                  have hi : i = i0 := by omega
                  rw [hi, HY.out] at hy
                  cases hy
                  exact b3
                have HJ0 := Lib.hid (show okOff long x = true → Hid (PlOk long L (i0 + 1 + 1)) from fun ho => Lib.hid (HK0.out.next HX.out b1 b2 ho hprev))
                clear hprev
                have t1 : x.tmod 2 = x % 2 := Int.tmod_eq_emod_of_nonneg b1
                have t2 : IntKind.i64.wrap (x % 2) = x % 2 := IntWalk.i64_in _ (by omega)
                cases long
                · cases a4 : (x % 2 == 0)
                  · have a5 : (x % 2 != 0) = true := by unfold bne; rw [a4]; rfl
                    have HN2 := Lib.hid (mayP_odd (long := false) HX.out (by unfold okOff; rw [a4]; rfl))
                    have hI : Below w.heap.size w wr.drew := hb.drew
                    refine wp_region_chain (fun W => Below w.heap.size w W) [(0, false), (1, false), (2, false), (3, false), (4, false), (5, false), (6, false), (7, false), (8, false), (9, false), (10, false), (11, false), (12, false), (13, false), (14, false), (15, false), (16, false), (17, false), (18, false), (19, false), (20, false), (21, false), (22, false), (23, false), (24, false), (25, false), (26, false), (27, false), (28, false), (29, false), (30, false), (31, false), (32, false), (33, false), (34, false), (35, false), (36, false), (37, false), (38, false), (39, false), (40, false), (41, false), (42, false), (43, false), (44, false), (45, false), (46, false)] (by kernel_rfl) (by kernel_rfl) hI ?_
                    repeat (first
                      | (refine ChainL.skip (o := ?_) ?_ ?_ ?_; rotate_left; (focus (first | (simp only [List.getElem?_toArray, List.getElem?_cons_succ, List.getElem?_cons_zero]; with_reducible rfl) | (simp only [List.getElem?_toArray, List.getElem?_cons_zero]; with_reducible rfl))); (focus rfl); simp only [Act.put, List.setIfInBounds_toArray, List.set_cons_zero, List.set_cons_succ])
                      | (refine ChainL.val (o := ?_) (v := ?_) ?_ ?_ ?_ ?_ ?_; rotate_left 2; (focus (first | (simp only [List.getElem?_toArray, List.getElem?_cons_succ, List.getElem?_cons_zero]; with_reducible rfl) | (simp only [List.getElem?_toArray, List.getElem?_cons_zero]; with_reducible rfl))); (focus (intro _ _ h; cases h)); (focus rfl); (focus (intro w' hJ; obtain ⟨y1, y2⟩ := HK _ hJ; go_simp <;> with_reducible rfl)); simp only [Act.put, List.setIfInBounds_toArray, List.set_cons_zero, List.set_cons_succ]))
                    refine ChainL.nil ?_
                    go_wp2
                    go_ret
                    exact ⟨congrArg (fun r => Ending.returned (.bool r)) HN2.out.symm, hI⟩
                  · have a5 : (x % 2 != 0) = false := by unfold bne; rw [a4]; rfl
                    by_cases a6 : 131070 < x
                    · have HN2 := Lib.hid (mayP_odd (long := false) HX.out (by unfold okOff; rw [a4]; simp; omega))
                      have hI : Below w.heap.size w wr.drew := hb.drew
                      refine wp_region_chain (fun W => Below w.heap.size w W) [(0, false), (1, false), (2, false), (3, false), (4, false), (5, false), (6, false), (7, false), (8, false), (9, false), (10, false), (11, false), (12, false), (13, false), (14, false), (15, false), (16, false), (17, false), (18, false), (19, false), (20, false), (21, false), (22, false), (23, false), (24, false), (25, false), (26, false), (27, false), (28, false), (29, false), (30, false), (31, false), (32, false), (33, false), (34, false), (35, false), (36, false), (37, false), (38, false), (39, false), (40, false), (41, false), (42, false), (43, false), (44, false), (45, false), (46, false)] (by kernel_rfl) (by kernel_rfl) hI ?_
                      repeat (first
                        | (refine ChainL.skip (o := ?_) ?_ ?_ ?_; rotate_left; (focus (first | (simp only [List.getElem?_toArray, List.getElem?_cons_succ, List.getElem?_cons_zero]; with_reducible rfl) | (simp only [List.getElem?_toArray, List.getElem?_cons_zero]; with_reducible rfl))); (focus rfl); simp only [Act.put, List.setIfInBounds_toArray, List.set_cons_zero, List.set_cons_succ])
                        | (refine ChainL.val (o := ?_) (v := ?_) ?_ ?_ ?_ ?_ ?_; rotate_left 2; (focus (first | (simp only [List.getElem?_toArray, List.getElem?_cons_succ, List.getElem?_cons_zero]; with_reducible rfl) | (simp only [List.getElem?_toArray, List.getElem?_cons_zero]; with_reducible rfl))); (focus (intro _ _ h; cases h)); (focus rfl); (focus (intro w' hJ; obtain ⟨y1, y2⟩ := HK _ hJ; go_simp <;> with_reducible rfl)); simp only [Act.put, List.setIfInBounds_toArray, List.set_cons_zero, List.set_cons_succ]))
                      refine ChainL.nil ?_
                      go_wp2
                      go_ret
                      exact ⟨congrArg (fun r => Ending.returned (.bool r)) HN2.out.symm, hI⟩
                    · have HJ := HJ0.out (by unfold okOff; rw [a4]; simp; omega)
                      have hI : Below w.heap.size w wr.drew := hb.drew
                      refine wp_region_chain (fun W => Below w.heap.size w W) [(0, false), (1, false), (2, false), (3, false), (4, false), (5, false), (6, false), (7, false), (8, false), (9, false), (10, false), (11, false), (12, false), (13, false), (14, false), (15, false), (16, false), (17, false), (18, false), (19, false), (20, false), (21, false), (22, false), (23, false), (24, false), (25, false), (26, false), (27, false), (28, false), (29, false), (30, false), (31, false), (32, false), (33, false), (34, false), (35, false), (36, false), (37, false), (38, false), (39, false), (40, false), (41, false), (42, false), (43, false), (44, false), (45, false), (46, false)] (by kernel_rfl) (by kernel_rfl) hI ?_
                      repeat (first
                        | (refine ChainL.skip (o := ?_) ?_ ?_ ?_; rotate_left; (focus (first | (simp only [List.getElem?_toArray, List.getElem?_cons_succ, List.getElem?_cons_zero]; with_reducible rfl) | (simp only [List.getElem?_toArray, List.getElem?_cons_zero]; with_reducible rfl))); (focus rfl); simp only [Act.put, List.setIfInBounds_toArray, List.set_cons_zero, List.set_cons_succ])
                        | (refine ChainL.val (o := ?_) (v := ?_) ?_ ?_ ?_ ?_ ?_; rotate_left 2; (focus (first | (simp only [List.getElem?_toArray, List.getElem?_cons_succ, List.getElem?_cons_zero]; with_reducible rfl) | (simp only [List.getElem?_toArray, List.getElem?_cons_zero]; with_reducible rfl))); (focus (intro _ _ h; cases h)); (focus rfl); (focus (intro w' hJ; obtain ⟨y1, y2⟩ := HK _ hJ; go_simp <;> with_reducible rfl)); simp only [Act.put, List.setIfInBounds_toArray, List.set_cons_zero, List.set_cons_succ]))
                      refine ChainL.nil ?_
                      go_wp2
                      go_roundw
                      case rel => exact ⟨i0 + 1 + 1, by omega, by go_num, hI, HJ⟩
                      case measure => simp [intOf]; omega
                · have HJ := HJ0.out rfl
                  have hI : Below w.heap.size w wr.drew := hb.drew
                  refine wp_region_chain (fun W => Below w.heap.size w W) [(0, false), (1, false), (2, false), (3, false), (4, false), (5, false), (6, false), (7, false), (8, false), (9, false), (10, false), (11, false), (12, false), (13, false), (14, false), (15, false), (16, false), (17, false), (18, false), (19, false), (20, false), (21, false), (22, false), (23, false), (24, false), (25, false), (26, false), (27, false), (28, false), (29, false), (30, false), (31, false), (32, false), (33, false), (34, false), (35, false), (36, false), (37, false), (38, false), (39, false), (40, false), (41, false), (42, false), (43, false), (44, false), (45, false), (46, false)] (by kernel_rfl) (by kernel_rfl) hI ?_
                  repeat (first
                    | (refine ChainL.skip (o := ?_) ?_ ?_ ?_; rotate_left; (focus (first | (simp only [List.getElem?_toArray, List.getElem?_cons_succ, List.getElem?_cons_zero]; with_reducible rfl) | (simp only [List.getElem?_toArray, List.getElem?_cons_zero]; with_reducible rfl))); (focus rfl); simp only [Act.put, List.setIfInBounds_toArray, List.set_cons_zero, List.set_cons_succ])
                    | (refine ChainL.val (o := ?_) (v := ?_) ?_ ?_ ?_ ?_ ?_; rotate_left 2; (focus (first | (simp only [List.getElem?_toArray, List.getElem?_cons_succ, List.getElem?_cons_zero]; with_reducible rfl) | (simp only [List.getElem?_toArray, List.getElem?_cons_zero]; with_reducible rfl))); (focus (intro _ _ h; cases h)); (focus rfl); (focus (intro w' hJ; obtain ⟨y1, y2⟩ := HK _ hJ; go_simp <;> with_reducible rfl)); simp only [Act.put, List.setIfInBounds_toArray, List.set_cons_zero, List.set_cons_succ]))
                  refine ChainL.nil ?_
                  go_wp2
                  go_roundw
                  case rel => exact ⟨i0 + 1 + 1, by omega, by go_num, hI, HJ⟩
                  case measure => simp [intOf]; omega
      · have e1 : decide ((j : Int) < (n : Int)) = false := by simp; omega
        have HT := Lib.hid (show mayP long L = true from PlOk.may (by have := HK0.out; rwa [show j = L.length by have := HN.out; omega] at this) (by rw [← HN.out]; exact h1) (by rw [← HN.out]; exact h2))
        go_wp2
        go_ret
        exact ⟨congrArg (fun r => Ending.returned (.bool r)) HT.out.symm, hb⟩

end Go.Proofs.Ytdbhfigdojkceaa
