/- Part 11 of the proof: StRi, StRh, StRg. -/
import Derived.Test.YtkhafhdmcalhbaaM9StackDoes

namespace Go.Proofs.Ytkhafhdmcalhbaa
open Go Go.RowKit
set_option linter.unusedVariables false
set_option linter.unusedSimpArgs false
set_option maxRecDepth 100000 in
set_option maxHeartbeats 4000000 in
theorem rd_rollN_no (p : Nat) (lv : Value) (low St D : List Int) (u : Nat) (a b : Int) (w : World) (h : Rk w p lv (low ++ [a, b]) St D u) (hx : a / 65536 < 0) :
    Calls Try.prog 15 #[.pointer (some ⟨p, 0, none⟩), .int .i64 30] w (RDid p lv w (170) (low ++ [a, b]) St D u) := by
  obtain ⟨i0, hi, hz0, hz1, hz2⟩ := info_partsS infoS
  obtain ⟨A, c, hb, hls⟩ := h.blk
  have c0 := hb.cell 0
  rw [rk_c0] at c0
  have f0 := hb.frozen 0
  obtain ⟨A0, n0, rfl, hl0, hn0⟩ := own_lists h.own
  have HS := Lib.hid h
  obtain ⟨m, hm⟩ : ∃ m, m = (low).length := ⟨_, rfl⟩
  have hlen : (low ++ [a, b]).length = m + 2 := by rw [List.length_append, ← hm]; rfl
  rw [hlen] at c0 hn0
  have h48 : m + 2 ≤ 48 := by rw [← hlen]; exact h.len
  have hM1 := Lib.hid (show 0 + m ≤ maxLen by simp only [maxLen]; omega)
  have hM2 := Lib.hid (show (0 + m) * 8 ≤ 140737488355328 by omega)
  have hp := h.lt
  have hmaya := h.may
  obtain ⟨g, rfl⟩ : ∃ g, A0 = some ⟨g, 0, none⟩ := by
    rcases h.own.2 with ⟨_, h2⟩ | ⟨g, _, _, h1, _⟩
    · rw [hlen] at h2; omega
    · cases h1; exact ⟨g, rfl⟩
  have hgl : g < w.heap.size := blk_lt h.own g (by simp [blk, Value.ownBlock])
  have cx0 : w.cell? ⟨g, m, none⟩ = some (.int .i64 a) := by
    have h1 := hl0.cell _ rfl (m) (.int .i64 a) (by rw [intCells_app, List.getElem?_append_right (by rw [intCells_len]; omega), intCells_len, ← hm]; simp [intCells])
    rwa [addr_plain, Nat.zero_add] at h1
  have CX0 : ∀ V, Below w.heap.size w V → V.cell? ⟨g, m, none⟩ = some (.int .i64 a) := fun V hV => (hV.cell (p := ⟨g, m, none⟩) hgl).trans cx0
  have cx1 : w.cell? ⟨g, m + 1, none⟩ = some (.int .i64 b) := by
    have h1 := hl0.cell _ rfl (m + 1) (.int .i64 b) (by rw [intCells_app, List.getElem?_append_right (by rw [intCells_len]; omega), intCells_len, ← hm]; simp [intCells])
    rwa [addr_plain, Nat.zero_add] at h1
  have CX1 : ∀ V, Below w.heap.size w V → V.cell? ⟨g, m + 1, none⟩ = some (.int .i64 b) := fun V hV => (hV.cell (p := ⟨g, m + 1, none⟩) hgl).trans cx1
  have C0 : ∀ V, Below w.heap.size w V → V.cell? ⟨p, 0, none⟩ = some (.slice (some ⟨g, 0, none⟩) (m + 2) n0) := fun V hV => (hV.cell (p := ⟨p, 0, none⟩) hp).trans c0
  have SU := fun W => slice_up (some ⟨g, 0, none⟩) (m + 2) n0 m (by omega) W
  have SO : ∀ W, (Instr.sliceAt 22 (.slice (some ⟨g, 0, none⟩) (m + 2) n0) (some (.int .i64 (m : Nat))) none none).run Try.prog W = .ok (.slice (some ⟨g, m, none⟩) 2 (n0 - m)) W := fun W => by
    have h := slice_okI (some ⟨g, 0, none⟩) (m + 2) n0 m (by omega) (by omega) W
    rwa [if_neg (by omega), show (some (⟨g, 0, none⟩ : Addr)).map (·.add m) = some ⟨g, m, none⟩ by simp [addr_plain], Nat.add_sub_cancel_left] at h
  have HLOW := Lib.hid (show Lists w w.heap.size (some ⟨g, 0, none⟩) (intCells (low)) by
    rw [show intCells (low) = (intCells (low ++ [a, b])).take m by rw [intCells_app (low) [a, b], List.take_left' (by rw [intCells_len]; exact hm.symm)]]
    exact lists_takeF hl0 m)
  have d1 : decide ((m : Int) < 0) = false := by simp
  have HM := Lib.hid hm
  have hp0 : p ≤ w.heap.size := Nat.le_of_lt hp
  have hma := (hmaya a (by simp))
  have hmb := (hmaya b (by simp))
  have CWa := fun W => floor_ref a 65536 W (by decide) (by have := mayB_lo hma; omega) (by have := mayB_hi hma; omega)
  have CWb := fun W => floor_ref b 65536 W (by decide) (by have := mayB_lo hmb; omega) (by have := mayB_hi hmb; omega)
  generalize a / 65536 = x at *
  generalize b / 65536 = y at *
  have dx : decide (x < 0) = true := by simpa using hx
  have E0 := Lib.hid (show IntKind.i64.wrap ((m : Int) + 2 - 2) = (m : Int) from wIs _ _ (by omega) (by omega) (by omega))
  have E1 := Lib.hid (show wrap64 ((m : Int) + 2 - 2) = (m : Int) from w64s _ _ (by omega) (by omega) (by omega))
  have E2 := Lib.hid (show IntKind.i64.wrap (m : Int) = (m : Int) from wIs _ _ (by omega) (by omega) (by omega))
  have E3 := Lib.hid (show wrap64 (m : Int) = (m : Int) from w64s _ _ (by omega) (by omega) (by omega))
  clear hls hl0 h hlen hm
  have HMAY := Lib.hid hmaya
  clear hmaya
  have CPL := fun W => plain_roll a b W
  clear hma hmb hx
  have e0 := E0.out
  have e1 := E1.out
  have e2 := E2.out
  have e3 := E3.out
  clear E0 E1 E2 E3
  go_enter Try.func15, Try.ntmps15
  go_wp2_with (go_at_call 28; ((with_reducible refine (need_roll _).mono ?_); rintro e w9 ⟨rfl, rfl⟩))
  have hI : Below w.heap.size w w.drew := (Below.refl _ _).drew
  refine wp_region_chain (fun V => Below w.heap.size w V) [(0, false), (1, false), (2, false), (3, false), (4, false), (5, false), (6, false), (7, false), (8, false), (9, false), (10, false), (11, false), (12, false), (13, false)] (by kernel_rfl) (by kernel_rfl) hI ?_
  repeat (first
    | (refine ChainL.skip (o := ?_) ?_ ?_ ?_; rotate_left; (focus (first | (simp only [List.getElem?_toArray, List.getElem?_cons_succ, List.getElem?_cons_zero]; with_reducible rfl) | (simp only [List.getElem?_toArray, List.getElem?_cons_zero]; with_reducible rfl))); (focus rfl); simp only [Act.put, List.setIfInBounds_toArray, List.set_cons_zero, List.set_cons_succ])
    | (refine ChainL.val (o := ?_) (v := ?_) ?_ ?_ ?_ ?_ ?_; rotate_left 2; (focus (first | (simp only [List.getElem?_toArray, List.getElem?_cons_succ, List.getElem?_cons_zero]; with_reducible rfl) | (simp only [List.getElem?_toArray, List.getElem?_cons_zero]; with_reducible rfl))); (focus (intro _ _ h; cases h)); (focus rfl); (focus (intro w' hJ; have y0 := C0 _ hJ; go_simp <;> with_reducible rfl)); simp only [Act.put, List.setIfInBounds_toArray, List.set_cons_zero, List.set_cons_succ]))
  refine ChainL.nil ?_
  go_wp2
  have hI2 : Below w.heap.size w w.drew.drew := hI.drew
  have wk : IntKind.i64.wrap 1 = 1 := by kernel_rfl
  have wk2 : IntKind.i64.wrap (2 - 1) = 1 := by kernel_rfl
  refine wp_region_chain (fun V => Below w.heap.size w V) [(0, false), (1, false), (2, false), (3, false), (4, false), (5, false), (6, false), (7, false), (8, false), (9, true), (10, false), (11, false), (12, false), (13, false), (14, false), (15, false), (16, false)] (by kernel_rfl) (by kernel_rfl) hI2 ?_
  repeat (first
    | (refine ChainL.skip (o := ?_) ?_ ?_ ?_; rotate_left; (focus (first | (simp only [List.getElem?_toArray, List.getElem?_cons_succ, List.getElem?_cons_zero]; with_reducible rfl) | (simp only [List.getElem?_toArray, List.getElem?_cons_zero]; with_reducible rfl))); (focus rfl); simp only [Act.put, List.setIfInBounds_toArray, List.set_cons_zero, List.set_cons_succ])
    | (refine ChainL.val (o := ?_) (v := ?_) ?_ ?_ ?_ ?_ ?_; rotate_left 2; (focus (first | (simp only [List.getElem?_toArray, List.getElem?_cons_succ, List.getElem?_cons_zero]; with_reducible rfl) | (simp only [List.getElem?_toArray, List.getElem?_cons_zero]; with_reducible rfl))); (focus (intro _ _ h; cases h)); (focus rfl); (focus (intro w' hJ; have y0 := C0 _ hJ; have x0 := CX0 _ hJ; have x1 := CX1 _ hJ; go_simp <;> with_reducible rfl)); simp only [Act.put, List.setIfInBounds_toArray, List.set_cons_zero, List.set_cons_succ]))
  refine ChainL.call (o := ?_) (f := ?_) (args := ?_) ?_ ?_ ?_ ?_
  rotate_left 3
  (focus (first | (simp only [List.getElem?_toArray, List.getElem?_cons_succ, List.getElem?_cons_zero]; with_reducible rfl) | (simp only [List.getElem?_toArray, List.getElem?_cons_zero]; with_reducible rfl)))
  (focus rfl)
  (focus (go_simp; (constructor <;> with_reducible rfl)))
  refine (CPL _).mono ?_
  rintro e w8 ⟨rfl, rfl⟩
  refine ⟨_, rfl, hI2, ?_⟩
  simp only [Act.put, List.setIfInBounds_toArray, List.set_cons_zero, List.set_cons_succ]
  repeat (first
    | (refine ChainL.skip (o := ?_) ?_ ?_ ?_; rotate_left; (focus (first | (simp only [List.getElem?_toArray, List.getElem?_cons_succ, List.getElem?_cons_zero]; with_reducible rfl) | (simp only [List.getElem?_toArray, List.getElem?_cons_zero]; with_reducible rfl))); (focus rfl); simp only [Act.put, List.setIfInBounds_toArray, List.set_cons_zero, List.set_cons_succ])
    | (refine ChainL.val (o := ?_) (v := ?_) ?_ ?_ ?_ ?_ ?_; rotate_left 2; (focus (first | (simp only [List.getElem?_toArray, List.getElem?_cons_succ, List.getElem?_cons_zero]; with_reducible rfl) | (simp only [List.getElem?_toArray, List.getElem?_cons_zero]; with_reducible rfl))); (focus (intro _ _ h; cases h)); (focus rfl); (focus (intro w' hJ; skip; go_simp <;> with_reducible rfl)); simp only [Act.put, List.setIfInBounds_toArray, List.set_cons_zero, List.set_cons_succ]))
  refine ChainL.nil ?_
  obtain ⟨w3, hw3⟩ : ∃ w3, w3 = w.drew.drew := ⟨_, rfl⟩
  rw [← hw3] at hI2 ⊢
  clear hw3
  clear e0 e1 e2 e3 wk wk2
  go_wp2
  have hI3 : Below w.heap.size w w3.drew := hI2.drew
  refine wp_region_plan (fun V => Below w.heap.size w V) _ rfl (by kernel_rfl) (by kernel_rfl) (hI3) ?_
  repeat (first
    | (refine PlanL.skip (by rfl) ?_; simp only [Act.put, List.setIfInBounds_toArray, List.set_cons_zero, List.set_cons_succ])
    | (refine PlanL.val (v := ?_) (by rfl) ?_ ?_; rotate_left; (focus (intro w' hS; have x0 := CX0 _ hS; have x1 := CX1 _ hS; go_simp <;> with_reducible rfl)); try simp only [Act.put, List.setIfInBounds_toArray, List.set_cons_zero, List.set_cons_succ])
    | (refine PlanL.call (v := ?_) (f := ?_) (args := ?_) (by rfl) ?_ ?_ ?_; rotate_left 3; (focus (intro w' hS; have x0 := CX0 _ hS; have x1 := CX1 _ hS; go_simp; (constructor <;> with_reducible rfl))); (focus (intro w' hS; first | ((with_reducible refine (CWa _).mono ?_); rintro e w'' ⟨rfl, rfl⟩; refine ⟨?_, hS⟩; with_reducible rfl) | ((with_reducible refine (CWb _).mono ?_); rintro e w'' ⟨rfl, rfl⟩; refine ⟨?_, hS⟩; with_reducible rfl) | fail)); try simp only [Act.put, List.setIfInBounds_toArray, List.set_cons_zero, List.set_cons_succ]))
  refine PlanL.nil ?_
  intro w' hS
  have x0 := CX0 _ hS; have x1 := CX1 _ hS

  go_wp2
  go_ret
  exact ⟨rfl, _, HS.out.below hS, RMod.below hS⟩
set_option maxRecDepth 100000 in
set_option maxHeartbeats 4000000 in
theorem rd_rollP_no (p : Nat) (lv : Value) (low St D : List Int) (u : Nat) (a b : Int) (w : World) (h : Rk w p lv (low ++ [a, b]) St D u) (hx : 0 ≤ a / 65536) (hy : (low.length : Int) < a / 65536) :
    Calls Try.prog 15 #[.pointer (some ⟨p, 0, none⟩), .int .i64 30] w (RDid p lv w (170) (low ++ [a, b]) St D u) := by
  obtain ⟨i0, hi, hz0, hz1, hz2⟩ := info_partsS infoS
  obtain ⟨A, c, hb, hls⟩ := h.blk
  have c0 := hb.cell 0
  rw [rk_c0] at c0
  have f0 := hb.frozen 0
  obtain ⟨A0, n0, rfl, hl0, hn0⟩ := own_lists h.own
  have HS := Lib.hid h
  obtain ⟨m, hm⟩ : ∃ m, m = (low).length := ⟨_, rfl⟩
  have hlen : (low ++ [a, b]).length = m + 2 := by rw [List.length_append, ← hm]; rfl
  rw [hlen] at c0 hn0
  have h48 : m + 2 ≤ 48 := by rw [← hlen]; exact h.len
  have hM1 := Lib.hid (show 0 + m ≤ maxLen by simp only [maxLen]; omega)
  have hM2 := Lib.hid (show (0 + m) * 8 ≤ 140737488355328 by omega)
  have hp := h.lt
  have hmaya := h.may
  obtain ⟨g, rfl⟩ : ∃ g, A0 = some ⟨g, 0, none⟩ := by
    rcases h.own.2 with ⟨_, h2⟩ | ⟨g, _, _, h1, _⟩
    · rw [hlen] at h2; omega
    · cases h1; exact ⟨g, rfl⟩
  have hgl : g < w.heap.size := blk_lt h.own g (by simp [blk, Value.ownBlock])
  have cx0 : w.cell? ⟨g, m, none⟩ = some (.int .i64 a) := by
    have h1 := hl0.cell _ rfl (m) (.int .i64 a) (by rw [intCells_app, List.getElem?_append_right (by rw [intCells_len]; omega), intCells_len, ← hm]; simp [intCells])
    rwa [addr_plain, Nat.zero_add] at h1
  have CX0 : ∀ V, Below w.heap.size w V → V.cell? ⟨g, m, none⟩ = some (.int .i64 a) := fun V hV => (hV.cell (p := ⟨g, m, none⟩) hgl).trans cx0
  have cx1 : w.cell? ⟨g, m + 1, none⟩ = some (.int .i64 b) := by
    have h1 := hl0.cell _ rfl (m + 1) (.int .i64 b) (by rw [intCells_app, List.getElem?_append_right (by rw [intCells_len]; omega), intCells_len, ← hm]; simp [intCells])
    rwa [addr_plain, Nat.zero_add] at h1
  have CX1 : ∀ V, Below w.heap.size w V → V.cell? ⟨g, m + 1, none⟩ = some (.int .i64 b) := fun V hV => (hV.cell (p := ⟨g, m + 1, none⟩) hgl).trans cx1
  have C0 : ∀ V, Below w.heap.size w V → V.cell? ⟨p, 0, none⟩ = some (.slice (some ⟨g, 0, none⟩) (m + 2) n0) := fun V hV => (hV.cell (p := ⟨p, 0, none⟩) hp).trans c0
  have SU := fun W => slice_up (some ⟨g, 0, none⟩) (m + 2) n0 m (by omega) W
  have SO : ∀ W, (Instr.sliceAt 22 (.slice (some ⟨g, 0, none⟩) (m + 2) n0) (some (.int .i64 (m : Nat))) none none).run Try.prog W = .ok (.slice (some ⟨g, m, none⟩) 2 (n0 - m)) W := fun W => by
    have h := slice_okI (some ⟨g, 0, none⟩) (m + 2) n0 m (by omega) (by omega) W
    rwa [if_neg (by omega), show (some (⟨g, 0, none⟩ : Addr)).map (·.add m) = some ⟨g, m, none⟩ by simp [addr_plain], Nat.add_sub_cancel_left] at h
  have HLOW := Lib.hid (show Lists w w.heap.size (some ⟨g, 0, none⟩) (intCells (low)) by
    rw [show intCells (low) = (intCells (low ++ [a, b])).take m by rw [intCells_app (low) [a, b], List.take_left' (by rw [intCells_len]; exact hm.symm)]]
    exact lists_takeF hl0 m)
  have d1 : decide ((m : Int) < 0) = false := by simp
  have HM := Lib.hid hm
  have hp0 : p ≤ w.heap.size := Nat.le_of_lt hp
  have hma := (hmaya a (by simp))
  have hmb := (hmaya b (by simp))
  have CWa := fun W => floor_ref a 65536 W (by decide) (by have := mayB_lo hma; omega) (by have := mayB_hi hma; omega)
  have CWb := fun W => floor_ref b 65536 W (by decide) (by have := mayB_lo hmb; omega) (by have := mayB_hi hmb; omega)
  rw [← hm] at hy
  generalize a / 65536 = x at *
  generalize b / 65536 = y at *
  have dx : decide (x < 0) = false := by simpa using hx
  have dy : decide (x > (m : Int)) = true := by simpa using hy
  have dz : decide ((m : Int) < x) = true := by simpa using hy
  have E0 := Lib.hid (show IntKind.i64.wrap ((m : Int) + 2 - 2) = (m : Int) from wIs _ _ (by omega) (by omega) (by omega))
  have E1 := Lib.hid (show wrap64 ((m : Int) + 2 - 2) = (m : Int) from w64s _ _ (by omega) (by omega) (by omega))
  have E2 := Lib.hid (show IntKind.i64.wrap (m : Int) = (m : Int) from wIs _ _ (by omega) (by omega) (by omega))
  have E3 := Lib.hid (show wrap64 (m : Int) = (m : Int) from w64s _ _ (by omega) (by omega) (by omega))
  clear hls hl0 h hlen hm
  have HMAY := Lib.hid hmaya
  clear hmaya
  have CPL := fun W => plain_roll a b W
  clear hma hmb hx hy
  have e0 := E0.out
  have e1 := E1.out
  have e2 := E2.out
  have e3 := E3.out
  clear E0 E1 E2 E3
  go_enter Try.func15, Try.ntmps15
  go_wp2_with (go_at_call 28; ((with_reducible refine (need_roll _).mono ?_); rintro e w9 ⟨rfl, rfl⟩))
  have hI : Below w.heap.size w w.drew := (Below.refl _ _).drew
  refine wp_region_chain (fun V => Below w.heap.size w V) [(0, false), (1, false), (2, false), (3, false), (4, false), (5, false), (6, false), (7, false), (8, false), (9, false), (10, false), (11, false), (12, false), (13, false)] (by kernel_rfl) (by kernel_rfl) hI ?_
  repeat (first
    | (refine ChainL.skip (o := ?_) ?_ ?_ ?_; rotate_left; (focus (first | (simp only [List.getElem?_toArray, List.getElem?_cons_succ, List.getElem?_cons_zero]; with_reducible rfl) | (simp only [List.getElem?_toArray, List.getElem?_cons_zero]; with_reducible rfl))); (focus rfl); simp only [Act.put, List.setIfInBounds_toArray, List.set_cons_zero, List.set_cons_succ])
    | (refine ChainL.val (o := ?_) (v := ?_) ?_ ?_ ?_ ?_ ?_; rotate_left 2; (focus (first | (simp only [List.getElem?_toArray, List.getElem?_cons_succ, List.getElem?_cons_zero]; with_reducible rfl) | (simp only [List.getElem?_toArray, List.getElem?_cons_zero]; with_reducible rfl))); (focus (intro _ _ h; cases h)); (focus rfl); (focus (intro w' hJ; have y0 := C0 _ hJ; go_simp <;> with_reducible rfl)); simp only [Act.put, List.setIfInBounds_toArray, List.set_cons_zero, List.set_cons_succ]))
  refine ChainL.nil ?_
  go_wp2
  have hI2 : Below w.heap.size w w.drew.drew := hI.drew
  have wk : IntKind.i64.wrap 1 = 1 := by kernel_rfl
  have wk2 : IntKind.i64.wrap (2 - 1) = 1 := by kernel_rfl
  refine wp_region_chain (fun V => Below w.heap.size w V) [(0, false), (1, false), (2, false), (3, false), (4, false), (5, false), (6, false), (7, false), (8, false), (9, true), (10, false), (11, false), (12, false), (13, false), (14, false), (15, false), (16, false)] (by kernel_rfl) (by kernel_rfl) hI2 ?_
  repeat (first
    | (refine ChainL.skip (o := ?_) ?_ ?_ ?_; rotate_left; (focus (first | (simp only [List.getElem?_toArray, List.getElem?_cons_succ, List.getElem?_cons_zero]; with_reducible rfl) | (simp only [List.getElem?_toArray, List.getElem?_cons_zero]; with_reducible rfl))); (focus rfl); simp only [Act.put, List.setIfInBounds_toArray, List.set_cons_zero, List.set_cons_succ])
    | (refine ChainL.val (o := ?_) (v := ?_) ?_ ?_ ?_ ?_ ?_; rotate_left 2; (focus (first | (simp only [List.getElem?_toArray, List.getElem?_cons_succ, List.getElem?_cons_zero]; with_reducible rfl) | (simp only [List.getElem?_toArray, List.getElem?_cons_zero]; with_reducible rfl))); (focus (intro _ _ h; cases h)); (focus rfl); (focus (intro w' hJ; have y0 := C0 _ hJ; have x0 := CX0 _ hJ; have x1 := CX1 _ hJ; go_simp <;> with_reducible rfl)); simp only [Act.put, List.setIfInBounds_toArray, List.set_cons_zero, List.set_cons_succ]))
  refine ChainL.call (o := ?_) (f := ?_) (args := ?_) ?_ ?_ ?_ ?_
  rotate_left 3
  (focus (first | (simp only [List.getElem?_toArray, List.getElem?_cons_succ, List.getElem?_cons_zero]; with_reducible rfl) | (simp only [List.getElem?_toArray, List.getElem?_cons_zero]; with_reducible rfl)))
  (focus rfl)
  (focus (go_simp; (constructor <;> with_reducible rfl)))
  refine (CPL _).mono ?_
  rintro e w8 ⟨rfl, rfl⟩
  refine ⟨_, rfl, hI2, ?_⟩
  simp only [Act.put, List.setIfInBounds_toArray, List.set_cons_zero, List.set_cons_succ]
  repeat (first
    | (refine ChainL.skip (o := ?_) ?_ ?_ ?_; rotate_left; (focus (first | (simp only [List.getElem?_toArray, List.getElem?_cons_succ, List.getElem?_cons_zero]; with_reducible rfl) | (simp only [List.getElem?_toArray, List.getElem?_cons_zero]; with_reducible rfl))); (focus rfl); simp only [Act.put, List.setIfInBounds_toArray, List.set_cons_zero, List.set_cons_succ])
    | (refine ChainL.val (o := ?_) (v := ?_) ?_ ?_ ?_ ?_ ?_; rotate_left 2; (focus (first | (simp only [List.getElem?_toArray, List.getElem?_cons_succ, List.getElem?_cons_zero]; with_reducible rfl) | (simp only [List.getElem?_toArray, List.getElem?_cons_zero]; with_reducible rfl))); (focus (intro _ _ h; cases h)); (focus rfl); (focus (intro w' hJ; skip; go_simp <;> with_reducible rfl)); simp only [Act.put, List.setIfInBounds_toArray, List.set_cons_zero, List.set_cons_succ]))
  refine ChainL.nil ?_
  obtain ⟨w3, hw3⟩ : ∃ w3, w3 = w.drew.drew := ⟨_, rfl⟩
  rw [← hw3] at hI2 ⊢
  clear hw3
  clear e0 e1 e2 e3 wk wk2
  go_wp2
  have hI3 : Below w.heap.size w w3.drew := hI2.drew
  refine wp_region_plan (fun V => Below w.heap.size w V) _ rfl (by kernel_rfl) (by kernel_rfl) (hI3) ?_
  repeat (first
    | (refine PlanL.skip (by rfl) ?_; simp only [Act.put, List.setIfInBounds_toArray, List.set_cons_zero, List.set_cons_succ])
    | (refine PlanL.val (v := ?_) (by rfl) ?_ ?_; rotate_left; (focus (intro w' hS; have x0 := CX0 _ hS; have x1 := CX1 _ hS; go_simp <;> with_reducible rfl)); try simp only [Act.put, List.setIfInBounds_toArray, List.set_cons_zero, List.set_cons_succ])
    | (refine PlanL.call (v := ?_) (f := ?_) (args := ?_) (by rfl) ?_ ?_ ?_; rotate_left 3; (focus (intro w' hS; have x0 := CX0 _ hS; have x1 := CX1 _ hS; go_simp; (constructor <;> with_reducible rfl))); (focus (intro w' hS; first | ((with_reducible refine (CWa _).mono ?_); rintro e w'' ⟨rfl, rfl⟩; refine ⟨?_, hS⟩; with_reducible rfl) | ((with_reducible refine (CWb _).mono ?_); rintro e w'' ⟨rfl, rfl⟩; refine ⟨?_, hS⟩; with_reducible rfl) | fail)); try simp only [Act.put, List.setIfInBounds_toArray, List.set_cons_zero, List.set_cons_succ]))
  refine PlanL.nil ?_
  intro w' hS
  have x0 := CX0 _ hS; have x1 := CX1 _ hS

  go_wp2
  go_ret
  exact ⟨rfl, _, HS.out.below hS, RMod.below hS⟩
end Go.Proofs.Ytkhafhdmcalhbaa

namespace Go.Proofs.Ytkhafhdmcalhbaa
open Go Go.RowKit
set_option linter.unusedVariables false
set_option linter.unusedSimpArgs false
set_option maxRecDepth 100000 in
set_option maxHeartbeats 4000000 in
theorem rd_ifelse_yes (p : Nat) (lv : Value) (low St D : List Int) (u : Nat) (a b c2 d2 : Int) (w : World) (h : Rk w p lv (low ++ [a, b, c2, d2]) St D u) (hcd : c2 ≤ d2) :
    Calls Try.prog 15 #[.pointer (some ⟨p, 0, none⟩), .int .i64 22] w (RDid p lv w (0) (low ++ [a]) St D u) := by
  obtain ⟨i0, hi, hz0, hz1, hz2⟩ := info_partsS infoS
  obtain ⟨A, c, hb, hls⟩ := h.blk
  have c0 := hb.cell 0
  rw [rk_c0] at c0
  have f0 := hb.frozen 0
  obtain ⟨A0, n0, rfl, hl0, hn0⟩ := own_lists h.own
  have HS := Lib.hid h
  obtain ⟨m, hm⟩ : ∃ m, m = (low).length := ⟨_, rfl⟩
  have hlen : (low ++ [a, b, c2, d2]).length = m + 4 := by rw [List.length_append, ← hm]; rfl
  rw [hlen] at c0 hn0
  have h48 : m + 4 ≤ 48 := by rw [← hlen]; exact h.len
  have hM1 := Lib.hid (show 0 + m ≤ maxLen by simp only [maxLen]; omega)
  have hM2 := Lib.hid (show (0 + m) * 8 ≤ 140737488355328 by omega)
  have hp := h.lt
  have hmaya := h.may
  obtain ⟨g, rfl⟩ : ∃ g, A0 = some ⟨g, 0, none⟩ := by
    rcases h.own.2 with ⟨_, h2⟩ | ⟨g, _, _, h1, _⟩
    · rw [hlen] at h2; omega
    · cases h1; exact ⟨g, rfl⟩
  have hgl : g < w.heap.size := blk_lt h.own g (by simp [blk, Value.ownBlock])
  have cx0 : w.cell? ⟨g, m, none⟩ = some (.int .i64 a) := by
    have h1 := hl0.cell _ rfl (m) (.int .i64 a) (by rw [intCells_app, List.getElem?_append_right (by rw [intCells_len]; omega), intCells_len, ← hm]; simp [intCells])
    rwa [addr_plain, Nat.zero_add] at h1
  have CX0 : ∀ V, Below w.heap.size w V → V.cell? ⟨g, m, none⟩ = some (.int .i64 a) := fun V hV => (hV.cell (p := ⟨g, m, none⟩) hgl).trans cx0
  have cx1 : w.cell? ⟨g, m + 1, none⟩ = some (.int .i64 b) := by
    have h1 := hl0.cell _ rfl (m + 1) (.int .i64 b) (by rw [intCells_app, List.getElem?_append_right (by rw [intCells_len]; omega), intCells_len, ← hm]; simp [intCells])
    rwa [addr_plain, Nat.zero_add] at h1
  have CX1 : ∀ V, Below w.heap.size w V → V.cell? ⟨g, m + 1, none⟩ = some (.int .i64 b) := fun V hV => (hV.cell (p := ⟨g, m + 1, none⟩) hgl).trans cx1
  have cx2 : w.cell? ⟨g, m + 2, none⟩ = some (.int .i64 c2) := by
    have h1 := hl0.cell _ rfl (m + 2) (.int .i64 c2) (by rw [intCells_app, List.getElem?_append_right (by rw [intCells_len]; omega), intCells_len, ← hm]; simp [intCells])
    rwa [addr_plain, Nat.zero_add] at h1
  have CX2 : ∀ V, Below w.heap.size w V → V.cell? ⟨g, m + 2, none⟩ = some (.int .i64 c2) := fun V hV => (hV.cell (p := ⟨g, m + 2, none⟩) hgl).trans cx2
  have cx3 : w.cell? ⟨g, m + 3, none⟩ = some (.int .i64 d2) := by
    have h1 := hl0.cell _ rfl (m + 3) (.int .i64 d2) (by rw [intCells_app, List.getElem?_append_right (by rw [intCells_len]; omega), intCells_len, ← hm]; simp [intCells])
    rwa [addr_plain, Nat.zero_add] at h1
  have CX3 : ∀ V, Below w.heap.size w V → V.cell? ⟨g, m + 3, none⟩ = some (.int .i64 d2) := fun V hV => (hV.cell (p := ⟨g, m + 3, none⟩) hgl).trans cx3
  have C0 : ∀ V, Below w.heap.size w V → V.cell? ⟨p, 0, none⟩ = some (.slice (some ⟨g, 0, none⟩) (m + 4) n0) := fun V hV => (hV.cell (p := ⟨p, 0, none⟩) hp).trans c0
  have SU := fun W => slice_up (some ⟨g, 0, none⟩) (m + 4) n0 m (by omega) W
  have SO : ∀ W, (Instr.sliceAt 22 (.slice (some ⟨g, 0, none⟩) (m + 4) n0) (some (.int .i64 (m : Nat))) none none).run Try.prog W = .ok (.slice (some ⟨g, m, none⟩) 4 (n0 - m)) W := fun W => by
    have h := slice_okI (some ⟨g, 0, none⟩) (m + 4) n0 m (by omega) (by omega) W
    rwa [if_neg (by omega), show (some (⟨g, 0, none⟩ : Addr)).map (·.add m) = some ⟨g, m, none⟩ by simp [addr_plain], Nat.add_sub_cancel_left] at h
  have HLOW := Lib.hid (show Lists w w.heap.size (some ⟨g, 0, none⟩) (intCells (low)) by
    rw [show intCells (low) = (intCells (low ++ [a, b, c2, d2])).take m by rw [intCells_app (low) [a, b, c2, d2], List.take_left' (by rw [intCells_len]; exact hm.symm)]]
    exact lists_takeF hl0 m)
  have d1 : decide ((m : Int) < 0) = false := by simp
  have HM := Lib.hid hm
  have hp0 : p ≤ w.heap.size := Nat.le_of_lt hp
  have hM3 := Lib.hid (show m + 1 ≤ maxLen by simp only [maxLen]; omega)
  have hM4 := Lib.hid (show (m + 1) * 8 ≤ 140737488355328 by omega)
  have T1 := Lib.hid (show wrap64 ((m : Int) + 1) = (m : Int) + 1 from w64s _ _ (by omega) (by omega) (by omega))
  have t2 : decide ((m : Int) + 1 > 48) = false := by simp; omega
  have t3 : decide (48 < (m : Int) + 1) = false := by simp; omega
  have dcd : decide (c2 ≤ d2) = true := by simpa using hcd
  have E0 := Lib.hid (show IntKind.i64.wrap ((m : Int) + 4 - 4) = (m : Int) from wIs _ _ (by omega) (by omega) (by omega))
  have E1 := Lib.hid (show wrap64 ((m : Int) + 4 - 4) = (m : Int) from w64s _ _ (by omega) (by omega) (by omega))
  have E2 := Lib.hid (show IntKind.i64.wrap (m : Int) = (m : Int) from wIs _ _ (by omega) (by omega) (by omega))
  have E3 := Lib.hid (show wrap64 (m : Int) = (m : Int) from w64s _ _ (by omega) (by omega) (by omega))
  clear hls hl0 h hlen hm
  have HMAY := Lib.hid hmaya
  clear hmaya
  have HXM := Lib.hid (HMAY.out a (by simp))
  clear hcd
  have e0 := E0.out
  have e1 := E1.out
  have e2 := E2.out
  have e3 := E3.out
  clear E0 E1 E2 E3
  go_enter Try.func15, Try.ntmps15
  go_wp2_with (go_at_call 28; ((with_reducible refine (need_ifelse _).mono ?_); rintro e w9 ⟨rfl, rfl⟩))
  have hI : Below w.heap.size w w.drew := (Below.refl _ _).drew
  refine wp_region_chain (fun V => Below w.heap.size w V) [(0, false), (1, false), (2, false), (3, false), (4, false), (5, false), (6, false), (7, false), (8, false), (9, false), (10, false), (11, false), (12, false), (13, false)] (by kernel_rfl) (by kernel_rfl) hI ?_
  repeat (first
    | (refine ChainL.skip (o := ?_) ?_ ?_ ?_; rotate_left; (focus (first | (simp only [List.getElem?_toArray, List.getElem?_cons_succ, List.getElem?_cons_zero]; with_reducible rfl) | (simp only [List.getElem?_toArray, List.getElem?_cons_zero]; with_reducible rfl))); (focus rfl); simp only [Act.put, List.setIfInBounds_toArray, List.set_cons_zero, List.set_cons_succ])
    | (refine ChainL.val (o := ?_) (v := ?_) ?_ ?_ ?_ ?_ ?_; rotate_left 2; (focus (first | (simp only [List.getElem?_toArray, List.getElem?_cons_succ, List.getElem?_cons_zero]; with_reducible rfl) | (simp only [List.getElem?_toArray, List.getElem?_cons_zero]; with_reducible rfl))); (focus (intro _ _ h; cases h)); (focus rfl); (focus (intro w' hJ; have y0 := C0 _ hJ; go_simp <;> with_reducible rfl)); simp only [Act.put, List.setIfInBounds_toArray, List.set_cons_zero, List.set_cons_succ]))
  refine ChainL.nil ?_
  obtain ⟨w3, hw3⟩ : ∃ w3, w3 = w.drew := ⟨_, rfl⟩
  rw [← hw3] at hI ⊢
  clear hw3
  have x1 := CX1 _ hI
  go_wp2
  have hI3 : Below w.heap.size w (w3.alloc (.cells #[.int .i64 b] 3)).drew := (hI.alloc hI.size _).drew
  obtain ⟨w4, hw4⟩ : ∃ w4, w4 = (w3.alloc (.cells #[.int .i64 b] 3)).drew := ⟨_, rfl⟩
  have HO4 := Lib.hid (show Lists w4 (w3.heap.size + 1) (some ⟨w3.heap.size, 0, none⟩) (intCells [b]) by rw [hw4]; exact (lists_row w3 [.int .i64 b] 3).below (Below.refl _ _).drew)
  have sz4 := Lib.hid (show w4.heap.size = w3.heap.size + 1 by rw [hw4]; simp)
  refine wp_region_chain (fun V => Below w.heap.size w V) [(0, false), (1, false), (2, false), (3, false), (4, false), (5, false), (6, false)] (by kernel_rfl) (by kernel_rfl) hI3 ?_
  rw [← hw4]
  rw [← hw4] at hI3
  clear hw4
  repeat (first
    | (refine ChainL.skip (o := ?_) ?_ ?_ ?_; rotate_left; (focus (first | (simp only [List.getElem?_toArray, List.getElem?_cons_succ, List.getElem?_cons_zero]; with_reducible rfl) | (simp only [List.getElem?_toArray, List.getElem?_cons_zero]; with_reducible rfl))); (focus rfl); simp only [Act.put, List.setIfInBounds_toArray, List.set_cons_zero, List.set_cons_succ])
    | (refine ChainL.val (o := ?_) (v := ?_) ?_ ?_ ?_ ?_ ?_; rotate_left 2; (focus (first | (simp only [List.getElem?_toArray, List.getElem?_cons_succ, List.getElem?_cons_zero]; with_reducible rfl) | (simp only [List.getElem?_toArray, List.getElem?_cons_zero]; with_reducible rfl))); (focus (intro _ _ h; cases h)); (focus rfl); (focus (intro w' hJ; have x2 := CX2 _ hJ; have x3 := CX3 _ hJ; go_simp <;> with_reducible rfl)); simp only [Act.put, List.setIfInBounds_toArray, List.set_cons_zero, List.set_cons_succ]))
  refine ChainL.nil ?_
  have x0 := CX0 _ hI3
  clear e0 e1 e2 e3
  have t1 := T1.out
  have HOUT := Lib.hid ((lists_row w4 [.int .i64 a] 3).more (show w4.heap.size + 1 ≤ (w4.alloc (.cells #[.int .i64 a] 3)).heap.size by simp))
  have HBT := hb.below (hI3.alloc hI3.size (.cells #[.int .i64 a] 3))
  go_wp2_with (first
    | (at_builtin; refine wpList_append_src _ rfl (.tmp 229) (.tmp 230) 22 rfl p 3 i0 (.int .i64 0) 1 8 Try.underlying22 hi hz0 hz1 hz2 rfl (by decide) (.slice (some ⟨w4.heap.size + 1, 0, none⟩) 0 0) 0 [] rfl (own_made_at p (w4.alloc (.cells #[.int .i64 a] 3)) (w4.heap.size + 1) (by simp) (Nat.le_trans hp0 ((hI3.alloc hI3.size (.cells #[.int .i64 a] 3))).size)) (w4.alloc (.cells #[.int .i64 a] 3)).heap.size (some ⟨g, 0, none⟩) (m) n0 (intCells low) (by rfl) ((HLOW.out.below (((hI3.alloc hI3.size (.cells #[.int .i64 a] 3))).alloc ((hI3.alloc hI3.size (.cells #[.int .i64 a] 3))).size _)).more ((hI3.alloc hI3.size (.cells #[.int .i64 a] 3))).size) (by rw [intCells_len, Nat.mul_one]; exact HM.out.symm) (intCells_oneS _) hM1.out hM2.out (Nat.le_trans hp0 (((hI3.alloc hI3.size (.cells #[.int .i64 a] 3))).alloc ((hI3.alloc hI3.size (.cells #[.int .i64 a] 3))).size _).size) ?_; intro v1 w1 own1 hg1 hat1; rw [Nat.zero_add, List.nil_append] at own1; have b1 : Below (w4.alloc (.cells #[.int .i64 a] 3)).heap.size (w4.alloc (.cells #[.int .i64 a] 3)) w1 := ((Below.refl _ _).alloc (Nat.le_refl _) _).grown hg1 (by simp) (fun j hj => by cases hj; simp); have f1 : ∀ bb ∈ blk v1, (w4.alloc (.cells #[.int .i64 a] 3)).heap.size ≤ bb := f1_of hat1 (by simp) (by simp); obtain ⟨A1, c1, rfl, _⟩ := own_lists own1)
    | (at_builtin; refine wpList_append_src _ rfl (.tmp 231) (.tmp 232) 22 rfl p 3 i0 (.int .i64 0) 1 8 Try.underlying22 hi hz0 hz1 hz2 rfl (by decide) (.slice A1 (m) c1) (m) (intCells low) rfl (own1) w1.heap.size (some ⟨w4.heap.size, 0, none⟩) (1) 1 (intCells [a]) (by rfl) ((HOUT.out.below b1).more b1.size) (by rw [intCells_len, Nat.mul_one]; rfl) (intCells_oneS _) hM3.out hM4.out (Nat.le_trans hp0 (Nat.le_trans ((hI3.alloc hI3.size (.cells #[.int .i64 a] 3))).size b1.size)) ?_; intro v2 w2 own2 hg2 hat2; have o2 : Only w1 w2 (blk (.slice A1 (m) c1)) := (Only.refl _ _).grown hg2 (fun b hb => .inl (by simp [blk, hb])); obtain ⟨A2, c2, rfl, _⟩ := own_lists own2; have b12 := (b1).trans (o2.to_below (b1).size f1); have hb2 := ((HBT)).below b12; have z2 := hb2.cell 0; rw [rk_c0] at z2; have y2 := hb2.frozen 0))
  go_ret
  have P := (HS.out.below (hI3.alloc hI3.size (.cells #[.int .i64 a] 3))).put (L2 := low ++ [a]) b12 (by rw [List.length_append, intCells_app, ← HM.out]; exact own2) ?_ ?_ ?_
  · first | exact ⟨rfl, _, P.1, (RMod.below (hI3.alloc hI3.size (.cells #[.int .i64 a] 3))).trans P.2⟩ | (rw [List.append_nil] at P; exact ⟨rfl, _, P.1, (RMod.below (hI3.alloc hI3.size (.cells #[.int .i64 a] 3))).trans P.2⟩)
  · intro b hb
    right
    rcases hat2 with e | e
    · exact f1 b (by unfold blk at hb ⊢; rw [e] at hb; exact hb)
    · have := b1.size; unfold blk at hb; rw [e] at hb; simp at hb; rw [hb]; exact this
  · try clear u1 u2 u3
    clear t1
    try have h48 := H48.out
    rw [List.length_append, ← HM.out]; simp; omega
  · intro y hy
    rcases List.mem_append.1 hy with h1 | h1
    · exact HMAY.out y (by simp [h1])
    · simp at h1; rw [h1]; exact HXM.out
set_option maxRecDepth 100000 in
set_option maxHeartbeats 4000000 in
theorem rd_ifelse_no (p : Nat) (lv : Value) (low St D : List Int) (u : Nat) (a b c2 d2 : Int) (w : World) (h : Rk w p lv (low ++ [a, b, c2, d2]) St D u) (hcd : ¬ c2 ≤ d2) :
    Calls Try.prog 15 #[.pointer (some ⟨p, 0, none⟩), .int .i64 22] w (RDid p lv w (0) (low ++ [b]) St D u) := by
  obtain ⟨i0, hi, hz0, hz1, hz2⟩ := info_partsS infoS
  obtain ⟨A, c, hb, hls⟩ := h.blk
  have c0 := hb.cell 0
  rw [rk_c0] at c0
  have f0 := hb.frozen 0
  obtain ⟨A0, n0, rfl, hl0, hn0⟩ := own_lists h.own
  have HS := Lib.hid h
  obtain ⟨m, hm⟩ : ∃ m, m = (low).length := ⟨_, rfl⟩
  have hlen : (low ++ [a, b, c2, d2]).length = m + 4 := by rw [List.length_append, ← hm]; rfl
  rw [hlen] at c0 hn0
  have h48 : m + 4 ≤ 48 := by rw [← hlen]; exact h.len
  have hM1 := Lib.hid (show 0 + m ≤ maxLen by simp only [maxLen]; omega)
  have hM2 := Lib.hid (show (0 + m) * 8 ≤ 140737488355328 by omega)
  have hp := h.lt
  have hmaya := h.may
  obtain ⟨g, rfl⟩ : ∃ g, A0 = some ⟨g, 0, none⟩ := by
    rcases h.own.2 with ⟨_, h2⟩ | ⟨g, _, _, h1, _⟩
    · rw [hlen] at h2; omega
    · cases h1; exact ⟨g, rfl⟩
  have hgl : g < w.heap.size := blk_lt h.own g (by simp [blk, Value.ownBlock])
  have cx0 : w.cell? ⟨g, m, none⟩ = some (.int .i64 a) := by
    have h1 := hl0.cell _ rfl (m) (.int .i64 a) (by rw [intCells_app, List.getElem?_append_right (by rw [intCells_len]; omega), intCells_len, ← hm]; simp [intCells])
    rwa [addr_plain, Nat.zero_add] at h1
  have CX0 : ∀ V, Below w.heap.size w V → V.cell? ⟨g, m, none⟩ = some (.int .i64 a) := fun V hV => (hV.cell (p := ⟨g, m, none⟩) hgl).trans cx0
  have cx1 : w.cell? ⟨g, m + 1, none⟩ = some (.int .i64 b) := by
    have h1 := hl0.cell _ rfl (m + 1) (.int .i64 b) (by rw [intCells_app, List.getElem?_append_right (by rw [intCells_len]; omega), intCells_len, ← hm]; simp [intCells])
    rwa [addr_plain, Nat.zero_add] at h1
  have CX1 : ∀ V, Below w.heap.size w V → V.cell? ⟨g, m + 1, none⟩ = some (.int .i64 b) := fun V hV => (hV.cell (p := ⟨g, m + 1, none⟩) hgl).trans cx1
  have cx2 : w.cell? ⟨g, m + 2, none⟩ = some (.int .i64 c2) := by
    have h1 := hl0.cell _ rfl (m + 2) (.int .i64 c2) (by rw [intCells_app, List.getElem?_append_right (by rw [intCells_len]; omega), intCells_len, ← hm]; simp [intCells])
    rwa [addr_plain, Nat.zero_add] at h1
  have CX2 : ∀ V, Below w.heap.size w V → V.cell? ⟨g, m + 2, none⟩ = some (.int .i64 c2) := fun V hV => (hV.cell (p := ⟨g, m + 2, none⟩) hgl).trans cx2
  have cx3 : w.cell? ⟨g, m + 3, none⟩ = some (.int .i64 d2) := by
    have h1 := hl0.cell _ rfl (m + 3) (.int .i64 d2) (by rw [intCells_app, List.getElem?_append_right (by rw [intCells_len]; omega), intCells_len, ← hm]; simp [intCells])
    rwa [addr_plain, Nat.zero_add] at h1
  have CX3 : ∀ V, Below w.heap.size w V → V.cell? ⟨g, m + 3, none⟩ = some (.int .i64 d2) := fun V hV => (hV.cell (p := ⟨g, m + 3, none⟩) hgl).trans cx3
  have C0 : ∀ V, Below w.heap.size w V → V.cell? ⟨p, 0, none⟩ = some (.slice (some ⟨g, 0, none⟩) (m + 4) n0) := fun V hV => (hV.cell (p := ⟨p, 0, none⟩) hp).trans c0
  have SU := fun W => slice_up (some ⟨g, 0, none⟩) (m + 4) n0 m (by omega) W
  have SO : ∀ W, (Instr.sliceAt 22 (.slice (some ⟨g, 0, none⟩) (m + 4) n0) (some (.int .i64 (m : Nat))) none none).run Try.prog W = .ok (.slice (some ⟨g, m, none⟩) 4 (n0 - m)) W := fun W => by
    have h := slice_okI (some ⟨g, 0, none⟩) (m + 4) n0 m (by omega) (by omega) W
    rwa [if_neg (by omega), show (some (⟨g, 0, none⟩ : Addr)).map (·.add m) = some ⟨g, m, none⟩ by simp [addr_plain], Nat.add_sub_cancel_left] at h
  have HLOW := Lib.hid (show Lists w w.heap.size (some ⟨g, 0, none⟩) (intCells (low)) by
    rw [show intCells (low) = (intCells (low ++ [a, b, c2, d2])).take m by rw [intCells_app (low) [a, b, c2, d2], List.take_left' (by rw [intCells_len]; exact hm.symm)]]
    exact lists_takeF hl0 m)
  have d1 : decide ((m : Int) < 0) = false := by simp
  have HM := Lib.hid hm
  have hp0 : p ≤ w.heap.size := Nat.le_of_lt hp
  have hM3 := Lib.hid (show m + 1 ≤ maxLen by simp only [maxLen]; omega)
  have hM4 := Lib.hid (show (m + 1) * 8 ≤ 140737488355328 by omega)
  have T1 := Lib.hid (show wrap64 ((m : Int) + 1) = (m : Int) + 1 from w64s _ _ (by omega) (by omega) (by omega))
  have t2 : decide ((m : Int) + 1 > 48) = false := by simp; omega
  have t3 : decide (48 < (m : Int) + 1) = false := by simp; omega
  have dcd : decide (c2 ≤ d2) = false := by simpa using hcd
  have E0 := Lib.hid (show IntKind.i64.wrap ((m : Int) + 4 - 4) = (m : Int) from wIs _ _ (by omega) (by omega) (by omega))
  have E1 := Lib.hid (show wrap64 ((m : Int) + 4 - 4) = (m : Int) from w64s _ _ (by omega) (by omega) (by omega))
  have E2 := Lib.hid (show IntKind.i64.wrap (m : Int) = (m : Int) from wIs _ _ (by omega) (by omega) (by omega))
  have E3 := Lib.hid (show wrap64 (m : Int) = (m : Int) from w64s _ _ (by omega) (by omega) (by omega))
  clear hls hl0 h hlen hm
  have HMAY := Lib.hid hmaya
  clear hmaya
  have HXM := Lib.hid (HMAY.out b (by simp))
  clear hcd
  have e0 := E0.out
  have e1 := E1.out
  have e2 := E2.out
  have e3 := E3.out
  clear E0 E1 E2 E3
  go_enter Try.func15, Try.ntmps15
  go_wp2_with (go_at_call 28; ((with_reducible refine (need_ifelse _).mono ?_); rintro e w9 ⟨rfl, rfl⟩))
  have hI : Below w.heap.size w w.drew := (Below.refl _ _).drew
  refine wp_region_chain (fun V => Below w.heap.size w V) [(0, false), (1, false), (2, false), (3, false), (4, false), (5, false), (6, false), (7, false), (8, false), (9, false), (10, false), (11, false), (12, false), (13, false)] (by kernel_rfl) (by kernel_rfl) hI ?_
  repeat (first
    | (refine ChainL.skip (o := ?_) ?_ ?_ ?_; rotate_left; (focus (first | (simp only [List.getElem?_toArray, List.getElem?_cons_succ, List.getElem?_cons_zero]; with_reducible rfl) | (simp only [List.getElem?_toArray, List.getElem?_cons_zero]; with_reducible rfl))); (focus rfl); simp only [Act.put, List.setIfInBounds_toArray, List.set_cons_zero, List.set_cons_succ])
    | (refine ChainL.val (o := ?_) (v := ?_) ?_ ?_ ?_ ?_ ?_; rotate_left 2; (focus (first | (simp only [List.getElem?_toArray, List.getElem?_cons_succ, List.getElem?_cons_zero]; with_reducible rfl) | (simp only [List.getElem?_toArray, List.getElem?_cons_zero]; with_reducible rfl))); (focus (intro _ _ h; cases h)); (focus rfl); (focus (intro w' hJ; have y0 := C0 _ hJ; go_simp <;> with_reducible rfl)); simp only [Act.put, List.setIfInBounds_toArray, List.set_cons_zero, List.set_cons_succ]))
  refine ChainL.nil ?_
  obtain ⟨w3, hw3⟩ : ∃ w3, w3 = w.drew := ⟨_, rfl⟩
  rw [← hw3] at hI ⊢
  clear hw3
  have x1 := CX1 _ hI
  go_wp2
  have hI3 : Below w.heap.size w (w3.alloc (.cells #[.int .i64 b] 3)).drew := (hI.alloc hI.size _).drew
  obtain ⟨w4, hw4⟩ : ∃ w4, w4 = (w3.alloc (.cells #[.int .i64 b] 3)).drew := ⟨_, rfl⟩
  have HO4 := Lib.hid (show Lists w4 (w3.heap.size + 1) (some ⟨w3.heap.size, 0, none⟩) (intCells [b]) by rw [hw4]; exact (lists_row w3 [.int .i64 b] 3).below (Below.refl _ _).drew)
  have sz4 := Lib.hid (show w4.heap.size = w3.heap.size + 1 by rw [hw4]; simp)
  refine wp_region_chain (fun V => Below w.heap.size w V) [(0, false), (1, false), (2, false), (3, false), (4, false), (5, false), (6, false)] (by kernel_rfl) (by kernel_rfl) hI3 ?_
  rw [← hw4]
  rw [← hw4] at hI3
  clear hw4
  repeat (first
    | (refine ChainL.skip (o := ?_) ?_ ?_ ?_; rotate_left; (focus (first | (simp only [List.getElem?_toArray, List.getElem?_cons_succ, List.getElem?_cons_zero]; with_reducible rfl) | (simp only [List.getElem?_toArray, List.getElem?_cons_zero]; with_reducible rfl))); (focus rfl); simp only [Act.put, List.setIfInBounds_toArray, List.set_cons_zero, List.set_cons_succ])
    | (refine ChainL.val (o := ?_) (v := ?_) ?_ ?_ ?_ ?_ ?_; rotate_left 2; (focus (first | (simp only [List.getElem?_toArray, List.getElem?_cons_succ, List.getElem?_cons_zero]; with_reducible rfl) | (simp only [List.getElem?_toArray, List.getElem?_cons_zero]; with_reducible rfl))); (focus (intro _ _ h; cases h)); (focus rfl); (focus (intro w' hJ; have x2 := CX2 _ hJ; have x3 := CX3 _ hJ; go_simp <;> with_reducible rfl)); simp only [Act.put, List.setIfInBounds_toArray, List.set_cons_zero, List.set_cons_succ]))
  refine ChainL.nil ?_
  have x0 := CX0 _ hI3
  clear e0 e1 e2 e3
  have t1 := T1.out
  have HOUT := Lib.hid (HO4.out.more (show w3.heap.size + 1 ≤ w4.heap.size by rw [sz4.out]; exact Nat.le_refl _))
  have HBT := hb.below hI3
  go_wp2_with (first
    | (at_builtin; refine wpList_append_src _ rfl (.tmp 229) (.tmp 230) 22 rfl p 3 i0 (.int .i64 0) 1 8 Try.underlying22 hi hz0 hz1 hz2 rfl (by decide) (.slice (some ⟨w4.heap.size, 0, none⟩) 0 0) 0 [] rfl (own_made_at p w4 (w4.heap.size) (by simp) (Nat.le_trans hp0 (hI3).size)) w4.heap.size (some ⟨g, 0, none⟩) (m) n0 (intCells low) (by rfl) ((HLOW.out.below ((hI3).alloc (hI3).size _)).more (hI3).size) (by rw [intCells_len, Nat.mul_one]; exact HM.out.symm) (intCells_oneS _) hM1.out hM2.out (Nat.le_trans hp0 ((hI3).alloc (hI3).size _).size) ?_; intro v1 w1 own1 hg1 hat1; rw [Nat.zero_add, List.nil_append] at own1; have b1 : Below w4.heap.size w4 w1 := ((Below.refl _ _).alloc (Nat.le_refl _) _).grown hg1 (by simp) (fun j hj => by cases hj; simp); have f1 : ∀ bb ∈ blk v1, w4.heap.size ≤ bb := f1_of hat1 (by simp) (by simp); obtain ⟨A1, c1, rfl, _⟩ := own_lists own1)
    | (at_builtin; refine wpList_append_src _ rfl (.tmp 231) (.tmp 232) 22 rfl p 3 i0 (.int .i64 0) 1 8 Try.underlying22 hi hz0 hz1 hz2 rfl (by decide) (.slice A1 (m) c1) (m) (intCells low) rfl (own1) w1.heap.size (some ⟨w3.heap.size, 0, none⟩) (1) 1 (intCells [b]) (by rfl) ((HOUT.out.below b1).more b1.size) (by rw [intCells_len, Nat.mul_one]; rfl) (intCells_oneS _) hM3.out hM4.out (Nat.le_trans hp0 (Nat.le_trans (hI3).size b1.size)) ?_; intro v2 w2 own2 hg2 hat2; have o2 : Only w1 w2 (blk (.slice A1 (m) c1)) := (Only.refl _ _).grown hg2 (fun b hb => .inl (by simp [blk, hb])); obtain ⟨A2, c2, rfl, _⟩ := own_lists own2; have b12 := (b1).trans (o2.to_below (b1).size f1); have hb2 := ((HBT)).below b12; have z2 := hb2.cell 0; rw [rk_c0] at z2; have y2 := hb2.frozen 0))
  go_ret
  have P := (HS.out.below hI3).put (L2 := low ++ [b]) b12 (by rw [List.length_append, intCells_app, ← HM.out]; exact own2) ?_ ?_ ?_
  · first | exact ⟨rfl, _, P.1, (RMod.below hI3).trans P.2⟩ | (rw [List.append_nil] at P; exact ⟨rfl, _, P.1, (RMod.below hI3).trans P.2⟩)
  · intro b hb
    right
    rcases hat2 with e | e
    · exact f1 b (by unfold blk at hb ⊢; rw [e] at hb; exact hb)
    · have := b1.size; unfold blk at hb; rw [e] at hb; simp at hb; rw [hb]; exact this
  · try clear u1 u2 u3
    clear t1
    try have h48 := H48.out
    rw [List.length_append, ← HM.out]; simp; omega
  · intro y hy
    rcases List.mem_append.1 hy with h1 | h1
    · exact HMAY.out y (by simp [h1])
    · simp at h1; rw [h1]; exact HXM.out
end Go.Proofs.Ytkhafhdmcalhbaa

namespace Go.Proofs.Ytkhafhdmcalhbaa
open Go Go.RowKit
set_option linter.unusedVariables false
set_option linter.unusedSimpArgs false
set_option maxRecDepth 100000 in
set_option maxHeartbeats 4000000 in
theorem rd_put (p : Nat) (lv : Value) (low St D : List Int) (u : Nat) (a b : Int) (i : Nat) (w : World) (h : Rk w p lv (low ++ [a, b]) St D u) (hi0 : b / 65536 = (i : Int)) (h32 : i < 32) :
    Calls Try.prog 15 #[.pointer (some ⟨p, 0, none⟩), .int .i64 20] w (RDid p lv w (0) (low) (St.set i a) D u) := by
  obtain ⟨i0, hi, hz0, hz1, hz2⟩ := info_partsS infoS
  obtain ⟨A, c, hb, hls⟩ := h.blk
  have c0 := hb.cell 0
  rw [rk_c0] at c0
  have f0 := hb.frozen 0
  obtain ⟨A0, n0, rfl, hl0, hn0⟩ := own_lists h.own
  have HS := Lib.hid h
  obtain ⟨m, hm⟩ : ∃ m, m = (low).length := ⟨_, rfl⟩
  have hlen : (low ++ [a, b]).length = m + 2 := by rw [List.length_append, ← hm]; rfl
  rw [hlen] at c0 hn0
  have h48 : m + 2 ≤ 48 := by rw [← hlen]; exact h.len
  have hM1 := Lib.hid (show 0 + m ≤ maxLen by simp only [maxLen]; omega)
  have hM2 := Lib.hid (show (0 + m) * 8 ≤ 140737488355328 by omega)
  have hp := h.lt
  have hmaya := h.may
  obtain ⟨g, rfl⟩ : ∃ g, A0 = some ⟨g, 0, none⟩ := by
    rcases h.own.2 with ⟨_, h2⟩ | ⟨g, _, _, h1, _⟩
    · rw [hlen] at h2; omega
    · cases h1; exact ⟨g, rfl⟩
  have hgl : g < w.heap.size := blk_lt h.own g (by simp [blk, Value.ownBlock])
  have cx0 : w.cell? ⟨g, m, none⟩ = some (.int .i64 a) := by
    have h1 := hl0.cell _ rfl (m) (.int .i64 a) (by rw [intCells_app, List.getElem?_append_right (by rw [intCells_len]; omega), intCells_len, ← hm]; simp [intCells])
    rwa [addr_plain, Nat.zero_add] at h1
  have CX0 : ∀ V, Below w.heap.size w V → V.cell? ⟨g, m, none⟩ = some (.int .i64 a) := fun V hV => (hV.cell (p := ⟨g, m, none⟩) hgl).trans cx0
  have cx1 : w.cell? ⟨g, m + 1, none⟩ = some (.int .i64 b) := by
    have h1 := hl0.cell _ rfl (m + 1) (.int .i64 b) (by rw [intCells_app, List.getElem?_append_right (by rw [intCells_len]; omega), intCells_len, ← hm]; simp [intCells])
    rwa [addr_plain, Nat.zero_add] at h1
  have CX1 : ∀ V, Below w.heap.size w V → V.cell? ⟨g, m + 1, none⟩ = some (.int .i64 b) := fun V hV => (hV.cell (p := ⟨g, m + 1, none⟩) hgl).trans cx1
  have C0 : ∀ V, Below w.heap.size w V → V.cell? ⟨p, 0, none⟩ = some (.slice (some ⟨g, 0, none⟩) (m + 2) n0) := fun V hV => (hV.cell (p := ⟨p, 0, none⟩) hp).trans c0
  have SU := fun W => slice_up (some ⟨g, 0, none⟩) (m + 2) n0 m (by omega) W
  have SO : ∀ W, (Instr.sliceAt 22 (.slice (some ⟨g, 0, none⟩) (m + 2) n0) (some (.int .i64 (m : Nat))) none none).run Try.prog W = .ok (.slice (some ⟨g, m, none⟩) 2 (n0 - m)) W := fun W => by
    have h := slice_okI (some ⟨g, 0, none⟩) (m + 2) n0 m (by omega) (by omega) W
    rwa [if_neg (by omega), show (some (⟨g, 0, none⟩ : Addr)).map (·.add m) = some ⟨g, m, none⟩ by simp [addr_plain], Nat.add_sub_cancel_left] at h
  have HLOW := Lib.hid (show Lists w w.heap.size (some ⟨g, 0, none⟩) (intCells (low)) by
    rw [show intCells (low) = (intCells (low ++ [a, b])).take m by rw [intCells_app (low) [a, b], List.take_left' (by rw [intCells_len]; exact hm.symm)]]
    exact lists_takeF hl0 m)
  have d1 : decide ((m : Int) < 0) = false := by simp
  have HM := Lib.hid hm
  have hp0 : p ≤ w.heap.size := Nat.le_of_lt hp
  have hma : mayB b = true := hmaya b (by simp)
  have CF := fun W => floor_ref b 65536 W (by decide) (by have := mayB_lo hma; omega) (by have := mayB_hi hma; omega)
  have hM3 := Lib.hid (show m + 0 ≤ maxLen by simp only [maxLen]; omega)
  have hM4 := Lib.hid (show (m + 0) * 8 ≤ 140737488355328 by omega)
  have T1 := Lib.hid (show wrap64 ((m : Int)) = (m : Int) from w64s _ _ (by omega) (by omega) (by omega))
  have t2 : decide ((m : Int) > 48) = false := by simp; omega
  have t3 : decide (48 < (m : Int)) = false := by simp; omega
  rw [hi0] at CF
  have g1 : decide ((i : Int) < 0) = false := by simp
  have g2 : decide ((i : Int) > 31) = false := by simp; omega
  have g3 : decide ((31 : Int) < (i : Int)) = false := by simp; omega
  have g4 : decide (31 < i) = false := by simp; omega
  have hi2 : (i : Int) < 32 := by omega
  have ci := hb.cell (1 + i)
  rw [rk_ci _ _ _ _ _ (by rw [h.st]; exact h32)] at ci
  have CI : ∀ V, Below w.heap.size w V → V.cell? ⟨p, 1 + i, none⟩ = some (.int .i64 (St.getD i 0)) := fun V hV => (hV.cell (p := ⟨p, 1 + i, none⟩) hp).trans ci
  have FI : ∀ V, Below w.heap.size w V → V.frozen? ⟨p, 1 + i, none⟩ = false := fun V hV => (hb.below hV).frozen _
  have PS := fun V (hV : Below w.heap.size w V) => (h.below hV).setSt i h32 a
  have E0 := Lib.hid (show IntKind.i64.wrap ((m : Int) + 2 - 2) = (m : Int) from wIs _ _ (by omega) (by omega) (by omega))
  have E1 := Lib.hid (show wrap64 ((m : Int) + 2 - 2) = (m : Int) from w64s _ _ (by omega) (by omega) (by omega))
  have E2 := Lib.hid (show IntKind.i64.wrap (m : Int) = (m : Int) from wIs _ _ (by omega) (by omega) (by omega))
  have E3 := Lib.hid (show wrap64 (m : Int) = (m : Int) from w64s _ _ (by omega) (by omega) (by omega))
  clear hls hl0 h hlen hm
  have HMAY := Lib.hid hmaya
  clear hmaya
  have CPL := fun W => plain_put a b W
  clear hma hi0
  have e0 := E0.out
  have e1 := E1.out
  have e2 := E2.out
  have e3 := E3.out
  clear E0 E1 E2 E3
  go_enter Try.func15, Try.ntmps15
  go_wp2_with (go_at_call 28; ((with_reducible refine (need_put _).mono ?_); rintro e w9 ⟨rfl, rfl⟩))
  have hI : Below w.heap.size w w.drew := (Below.refl _ _).drew
  refine wp_region_chain (fun V => Below w.heap.size w V) [(0, false), (1, false), (2, false), (3, false), (4, false), (5, false), (6, false), (7, false), (8, false), (9, false), (10, false), (11, false), (12, false), (13, false)] (by kernel_rfl) (by kernel_rfl) hI ?_
  repeat (first
    | (refine ChainL.skip (o := ?_) ?_ ?_ ?_; rotate_left; (focus (first | (simp only [List.getElem?_toArray, List.getElem?_cons_succ, List.getElem?_cons_zero]; with_reducible rfl) | (simp only [List.getElem?_toArray, List.getElem?_cons_zero]; with_reducible rfl))); (focus rfl); simp only [Act.put, List.setIfInBounds_toArray, List.set_cons_zero, List.set_cons_succ])
    | (refine ChainL.val (o := ?_) (v := ?_) ?_ ?_ ?_ ?_ ?_; rotate_left 2; (focus (first | (simp only [List.getElem?_toArray, List.getElem?_cons_succ, List.getElem?_cons_zero]; with_reducible rfl) | (simp only [List.getElem?_toArray, List.getElem?_cons_zero]; with_reducible rfl))); (focus (intro _ _ h; cases h)); (focus rfl); (focus (intro w' hJ; have y0 := C0 _ hJ; go_simp <;> with_reducible rfl)); simp only [Act.put, List.setIfInBounds_toArray, List.set_cons_zero, List.set_cons_succ]))
  refine ChainL.nil ?_
  go_wp2
  have hI2 : Below w.heap.size w w.drew.drew := hI.drew
  have wk : IntKind.i64.wrap 1 = 1 := by kernel_rfl
  have wk2 : IntKind.i64.wrap (2 - 1) = 1 := by kernel_rfl
  refine wp_region_chain (fun V => Below w.heap.size w V) [(0, false), (1, false), (2, false), (3, false), (4, false), (5, false), (6, false), (7, false), (8, false), (9, true), (10, false), (11, false), (12, false), (13, false), (14, false), (15, false), (16, false)] (by kernel_rfl) (by kernel_rfl) hI2 ?_
  repeat (first
    | (refine ChainL.skip (o := ?_) ?_ ?_ ?_; rotate_left; (focus (first | (simp only [List.getElem?_toArray, List.getElem?_cons_succ, List.getElem?_cons_zero]; with_reducible rfl) | (simp only [List.getElem?_toArray, List.getElem?_cons_zero]; with_reducible rfl))); (focus rfl); simp only [Act.put, List.setIfInBounds_toArray, List.set_cons_zero, List.set_cons_succ])
    | (refine ChainL.val (o := ?_) (v := ?_) ?_ ?_ ?_ ?_ ?_; rotate_left 2; (focus (first | (simp only [List.getElem?_toArray, List.getElem?_cons_succ, List.getElem?_cons_zero]; with_reducible rfl) | (simp only [List.getElem?_toArray, List.getElem?_cons_zero]; with_reducible rfl))); (focus (intro _ _ h; cases h)); (focus rfl); (focus (intro w' hJ; have y0 := C0 _ hJ; have x0 := CX0 _ hJ; have x1 := CX1 _ hJ; go_simp <;> with_reducible rfl)); simp only [Act.put, List.setIfInBounds_toArray, List.set_cons_zero, List.set_cons_succ]))
  refine ChainL.call (o := ?_) (f := ?_) (args := ?_) ?_ ?_ ?_ ?_
  rotate_left 3
  (focus (first | (simp only [List.getElem?_toArray, List.getElem?_cons_succ, List.getElem?_cons_zero]; with_reducible rfl) | (simp only [List.getElem?_toArray, List.getElem?_cons_zero]; with_reducible rfl)))
  (focus rfl)
  (focus (go_simp; (constructor <;> with_reducible rfl)))
  refine (CPL _).mono ?_
  rintro e w8 ⟨rfl, rfl⟩
  refine ⟨_, rfl, hI2, ?_⟩
  simp only [Act.put, List.setIfInBounds_toArray, List.set_cons_zero, List.set_cons_succ]
  repeat (first
    | (refine ChainL.skip (o := ?_) ?_ ?_ ?_; rotate_left; (focus (first | (simp only [List.getElem?_toArray, List.getElem?_cons_succ, List.getElem?_cons_zero]; with_reducible rfl) | (simp only [List.getElem?_toArray, List.getElem?_cons_zero]; with_reducible rfl))); (focus rfl); simp only [Act.put, List.setIfInBounds_toArray, List.set_cons_zero, List.set_cons_succ])
    | (refine ChainL.val (o := ?_) (v := ?_) ?_ ?_ ?_ ?_ ?_; rotate_left 2; (focus (first | (simp only [List.getElem?_toArray, List.getElem?_cons_succ, List.getElem?_cons_zero]; with_reducible rfl) | (simp only [List.getElem?_toArray, List.getElem?_cons_zero]; with_reducible rfl))); (focus (intro _ _ h; cases h)); (focus rfl); (focus (intro w' hJ; skip; go_simp <;> with_reducible rfl)); simp only [Act.put, List.setIfInBounds_toArray, List.set_cons_zero, List.set_cons_succ]))
  refine ChainL.nil ?_
  obtain ⟨w3, hw3⟩ : ∃ w3, w3 = w.drew.drew := ⟨_, rfl⟩
  rw [← hw3] at hI2 ⊢
  clear hw3
  have ya := CX0 _ hI2
  have yb := CX1 _ hI2
  clear e0 e1 e2 e3
  go_wp2_with (go_at_call 30; ((with_reducible refine (CF _).mono ?_); rintro e w7 ⟨rfl, rfl⟩))
  have hI3 : Below w.heap.size w w3.drew := hI2.drew
  obtain ⟨w4, hw4⟩ : ∃ w4, w4 = w3.drew := ⟨_, rfl⟩
  refine wp_region_chain_last (fun V => Below w.heap.size w V) [(0, false), (1, false), (2, false), (3, false), (4, false), (5, false), (6, false), (7, false)] _ _ (by rfl) (by rfl) (by kernel_rfl) (by kernel_rfl) hI3 ?_
  rw [← hw4]
  rw [← hw4] at hI3
  clear hw4
  repeat (first
    | (refine ChainL.skip (o := ?_) ?_ ?_ ?_; rotate_left; (focus (first | (simp only [List.getElem?_toArray, List.getElem?_cons_succ, List.getElem?_cons_zero]; with_reducible rfl) | (simp only [List.getElem?_toArray, List.getElem?_cons_zero]; with_reducible rfl))); (focus rfl); simp only [Act.put, List.setIfInBounds_toArray, List.set_cons_zero, List.set_cons_succ])
    | (refine ChainL.val (o := ?_) (v := ?_) ?_ ?_ ?_ ?_ ?_; rotate_left 2; (focus (first | (simp only [List.getElem?_toArray, List.getElem?_cons_succ, List.getElem?_cons_zero]; with_reducible rfl) | (simp only [List.getElem?_toArray, List.getElem?_cons_zero]; with_reducible rfl))); (focus (intro _ _ h; cases h)); (focus rfl); (focus (intro w' hJ; have x0 := CX0 _ hJ; go_simp <;> with_reducible rfl)); simp only [Act.put, List.setIfInBounds_toArray, List.set_cons_zero, List.set_cons_succ]))
  refine ChainL.nil ?_
  have z1 := CI _ hI3
  have z2 := FI _ hI3
  have Q := PS _ hI3
  have HLW := HLOW.out.below hI3
  have sW : (w4.setCell ⟨p, 1 + i, none⟩ (.int .i64 a)).heap.size = w4.heap.size := by simp
  have o9 : Only w4 (w4.setCell ⟨p, 1 + i, none⟩ (.int .i64 a)) [p] := Q.2.1
  have hgp : g ≠ p := fun e => HS.out.ne (by rw [← e]; simp [blk, Value.ownBlock])
  have HLOW2 := Lib.hid (show Lists (w4.setCell ⟨p, 1 + i, none⟩ (.int .i64 a)) w.heap.size (some ⟨g, 0, none⟩) (intCells low) from lists_only HLW hI3.size o9 (fun a ha _ hm => by cases ha; simp at hm; exact hgp hm))
  have HQ := Lib.hid Q
  have hs5 : w.heap.size ≤ (w4.setCell ⟨p, 1 + i, none⟩ (.int .i64 a)).heap.size := by rw [sW]; exact hI3.size
  obtain ⟨Aq, cq, hbq, _⟩ := Q.1.blk
  have HBQ := Lib.hid hbq
  have HBT := hbq
  have HS5 := Lib.hid hs5
  clear Q hbq o9 hgp HLW sW hs5 CF CI FI PS HLOW g1 g2 g3 g4
  go_wp2_with (first
    | (at_builtin; refine wpList_append_src _ rfl (.tmp 229) (.tmp 230) 22 rfl p 3 i0 (.int .i64 0) 1 8 Try.underlying22 hi hz0 hz1 hz2 rfl (by decide) (.slice (some ⟨w4.heap.size, 0, none⟩) 0 0) 0 [] rfl (own_made_at p (w4.setCell ⟨p, 1 + i, none⟩ (.int .i64 a)) (w4.heap.size) (by simp) (Nat.le_trans hp0 HS5.out)) (w4.setCell ⟨p, 1 + i, none⟩ (.int .i64 a)).heap.size (some ⟨g, 0, none⟩) (m) n0 (intCells low) (by rfl) ((HLOW2.out.below ((Below.refl _ _).alloc HS5.out _)).more HS5.out) (by rw [intCells_len, Nat.mul_one]; exact HM.out.symm) (intCells_oneS _) hM1.out hM2.out (Nat.le_trans hp0 (Nat.le_trans HS5.out (by simp))) ?_; intro v1 w1 own1 hg1 hat1; rw [Nat.zero_add, List.nil_append] at own1; have b1 : Below (w4.setCell ⟨p, 1 + i, none⟩ (.int .i64 a)).heap.size (w4.setCell ⟨p, 1 + i, none⟩ (.int .i64 a)) w1 := ((Below.refl _ _).alloc (Nat.le_refl _) _).grown hg1 (by simp) (fun j hj => by cases hj; simp); have f1 : ∀ bb ∈ blk v1, (w4.setCell ⟨p, 1 + i, none⟩ (.int .i64 a)).heap.size ≤ bb := f1_of hat1 (by simp) (by simp); obtain ⟨A1, c1, rfl, _⟩ := own_lists own1)
    | (at_builtin; refine wpList_append_src _ rfl (.tmp 231) (.tmp 232) 22 rfl p 3 i0 (.int .i64 0) 1 8 Try.underlying22 hi hz0 hz1 hz2 rfl (by decide) (.slice A1 (m) c1) (m) (intCells low) rfl (own1) w1.heap.size none (0) 0 (intCells ([] : List Int)) (by rfl) (Lists.empty _ _ _) (by rw [intCells_len, Nat.mul_one]; rfl) (intCells_oneS _) hM3.out hM4.out (Nat.le_trans hp0 (Nat.le_trans HS5.out b1.size)) ?_; intro v2 w2 own2 hg2 hat2; have o2 : Only w1 w2 (blk (.slice A1 (m) c1)) := (Only.refl _ _).grown hg2 (fun b hb => .inl (by simp [blk, hb])); obtain ⟨A2, c2, rfl, _⟩ := own_lists own2; have b12 := (b1).trans (o2.to_below (b1).size f1); have hb2 := ((HBT)).below b12; have z2 := hb2.cell 0; rw [rk_c0] at z2; have y2 := hb2.frozen 0))
  go_ret
  have P := HQ.out.1.put (L2 := low ++ []) b12 (by rw [List.length_append, intCells_app, ← HM.out]; exact own2) ?_ ?_ ?_
  · rw [List.append_nil] at P; exact ⟨rfl, _, P.1, ((RMod.below hI3).trans HQ.out.2).trans P.2⟩
  · intro b hb
    right
    rcases hat2 with e | e
    · exact f1 b (by unfold blk at hb ⊢; rw [e] at hb; exact hb)
    · have := b1.size; unfold blk at hb; rw [e] at hb; simp at hb; rw [hb]; exact this
  · rw [List.length_append, ← HM.out]; simp; omega
  · intro y hy
    rw [List.append_nil] at hy
    exact HMAY.out y (by simp [hy])
end Go.Proofs.Ytkhafhdmcalhbaa
