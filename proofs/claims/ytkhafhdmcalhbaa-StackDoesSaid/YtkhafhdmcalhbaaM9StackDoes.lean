/- Part 10 of the proof: StRn, StRl, StRk, StRj. -/
import Derived.Test.YtkhafhdmcalhbaaM8StackDoes

namespace Go.Proofs.Ytkhafhdmcalhbaa
open Go Go.RowKit
set_option linter.unusedVariables false
set_option linter.unusedSimpArgs false
set_option maxRecDepth 100000 in
set_option maxHeartbeats 4000000 in
theorem rd_random_full_nil (p : Nat) (lv : Value) (low St D : List Int) (u : Nat) (w : World) (h : Rk w p lv (low ++ []) St D u) (hd : D.length ≤ u) (hf : low.length = 48) :
    Calls Try.prog 15 #[.pointer (some ⟨p, 0, none⟩), .int .i64 23] w (RDid p lv w (170) (low ++ []) St D u) := by
  obtain ⟨i0, hi, hz0, hz1, hz2⟩ := info_partsS infoS
  obtain ⟨A, c, hb, hls⟩ := h.blk
  have c0 := hb.cell 0
  rw [rk_c0] at c0
  have f0 := hb.frozen 0
  obtain ⟨A0, n0, rfl, hl0, hn0⟩ := own_lists h.own
  have HS := Lib.hid h
  obtain ⟨m, hm⟩ : ∃ m, m = (low).length := ⟨_, rfl⟩
  have hlen : (low ++ []).length = m := by rw [List.length_append, ← hm]; rfl
  rw [hlen] at c0 hn0
  have h48 : m ≤ 48 := by rw [← hlen]; exact h.len
  have hM1 := Lib.hid (show 0 + m ≤ maxLen by simp only [maxLen]; omega)
  have hM2 := Lib.hid (show (0 + m) * 8 ≤ 140737488355328 by omega)
  have hp := h.lt
  have hmaya := h.may
  have C0 : ∀ V, Below w.heap.size w V → V.cell? ⟨p, 0, none⟩ = some (.slice A0 (m) n0) := fun V hV => (hV.cell (p := ⟨p, 0, none⟩) hp).trans c0
  have SU := fun W => slice_up A0 (m) n0 m (by omega) W
  have SO : ∀ W, (Instr.sliceAt 22 (.slice A0 m n0) (some (.int .i64 (m : Nat))) none none).run Try.prog W = .ok (.slice (if n0 = m then A0 else A0.map (·.add m)) 0 (n0 - m)) W := fun W => by
    have h := slice_okI A0 m n0 m (by omega) (by omega) W
    rwa [Nat.sub_self] at h
  generalize hAt : (if n0 = m then A0 else A0.map (·.add m)) = At at SO
  clear hAt
  have HLOW := Lib.hid (show Lists w w.heap.size A0 (intCells (low)) by
    rw [show intCells (low) = (intCells (low ++ [])).take m by rw [intCells_app (low) [], List.take_left' (by rw [intCells_len]; exact hm.symm)]]
    exact lists_takeF hl0 m)
  have d1 : decide ((m : Int) < 0) = false := by simp
  have HM := Lib.hid hm
  have hp0 : p ≤ w.heap.size := Nat.le_of_lt hp
  rw [← hm] at hf
  have T1 := Lib.hid (show wrap64 ((m : Int) + 1) = (m : Int) + 1 from w64s _ _ (by omega) (by omega) (by omega))
  have t2 : decide ((m : Int) + 1 > 48) = true := by simp; omega
  have t3 : decide (48 < (m : Int) + 1) = true := by simp; omega
  have c33 := hb.cell 33
  rw [rk_c33 _ _ _ _ h.st] at c33
  have c34 := hb.cell 34
  rw [rk_c34 _ _ _ _ h.st] at c34
  obtain ⟨dn, hdn⟩ : ∃ dn, dn = D.length := ⟨_, rfl⟩
  rw [← hdn] at c33
  have C33 : ∀ V, Below w.heap.size w V → V.cell? ⟨p, 33, none⟩ = some (.slice A dn c) := fun V hV => (hV.cell (p := ⟨p, 33, none⟩) hp).trans c33
  have C34 : ∀ V, Below w.heap.size w V → V.cell? ⟨p, 34, none⟩ = some (.int .i64 (u : Int)) := fun V hV => (hV.cell (p := ⟨p, 34, none⟩) hp).trans c34
  rw [← hdn] at hd
  have dl : decide ((u : Int) < (dn : Int)) = false := by simp; omega
  have dl2 : decide (u < dn) = false := by simp; omega
  clear hf c33 c34 hdn hd
  have E0 := Lib.hid (show IntKind.i64.wrap ((m : Int) - 0) = (m : Int) from wIs _ _ (by omega) (by omega) (by omega))
  have E1 := Lib.hid (show wrap64 ((m : Int) - 0) = (m : Int) from w64s _ _ (by omega) (by omega) (by omega))
  have E2 := Lib.hid (show IntKind.i64.wrap (m : Int) = (m : Int) from wIs _ _ (by omega) (by omega) (by omega))
  have E3 := Lib.hid (show wrap64 (m : Int) = (m : Int) from w64s _ _ (by omega) (by omega) (by omega))
  clear hls hl0 h hlen hm
  have HMAY := Lib.hid hmaya
  clear hmaya
  have e0 := E0.out
  have e1 := E1.out
  have e2 := E2.out
  have e3 := E3.out
  clear E0 E1 E2 E3
  go_enter Try.func15, Try.ntmps15
  go_wp2_with (go_at_call 28; ((with_reducible refine (need_random _).mono ?_); rintro e w9 ⟨rfl, rfl⟩))
  have hI : Below w.heap.size w w.drew := (Below.refl _ _).drew
  refine wp_region_chain (fun V => Below w.heap.size w V) [(0, false), (1, false), (2, false), (3, false), (4, false), (5, false), (6, false), (7, false), (8, false), (9, false), (10, false), (11, false), (12, false), (13, false)] (by kernel_rfl) (by kernel_rfl) hI ?_
  repeat (first
    | (refine ChainL.skip (o := ?_) ?_ ?_ ?_; rotate_left; (focus (first | (simp only [List.getElem?_toArray, List.getElem?_cons_succ, List.getElem?_cons_zero]; with_reducible rfl) | (simp only [List.getElem?_toArray, List.getElem?_cons_zero]; with_reducible rfl))); (focus rfl); simp only [Act.put, List.setIfInBounds_toArray, List.set_cons_zero, List.set_cons_succ])
    | (refine ChainL.val (o := ?_) (v := ?_) ?_ ?_ ?_ ?_ ?_; rotate_left 2; (focus (first | (simp only [List.getElem?_toArray, List.getElem?_cons_succ, List.getElem?_cons_zero]; with_reducible rfl) | (simp only [List.getElem?_toArray, List.getElem?_cons_zero]; with_reducible rfl))); (focus (intro _ _ h; cases h)); (focus rfl); (focus (intro w' hJ; have y0 := C0 _ hJ; go_simp <;> with_reducible rfl)); simp only [Act.put, List.setIfInBounds_toArray, List.set_cons_zero, List.set_cons_succ]))
  refine ChainL.nil ?_
  go_wp2
  clear hI
  have hI : Below w.heap.size w w.drew.drew := (Below.refl _ _).drew.drew
  refine wp_region_chain (fun V => Below w.heap.size w V) [(0, false), (1, false), (2, false), (3, false), (4, false), (5, false), (6, false), (7, false), (8, false), (9, false)] (by kernel_rfl) (by kernel_rfl) hI ?_
  repeat (first
    | (refine ChainL.skip (o := ?_) ?_ ?_ ?_; rotate_left; (focus (first | (simp only [List.getElem?_toArray, List.getElem?_cons_succ, List.getElem?_cons_zero]; with_reducible rfl) | (simp only [List.getElem?_toArray, List.getElem?_cons_zero]; with_reducible rfl))); (focus rfl); simp only [Act.put, List.setIfInBounds_toArray, List.set_cons_zero, List.set_cons_succ])
    | (refine ChainL.val (o := ?_) (v := ?_) ?_ ?_ ?_ ?_ ?_; rotate_left 2; (focus (first | (simp only [List.getElem?_toArray, List.getElem?_cons_succ, List.getElem?_cons_zero]; with_reducible rfl) | (simp only [List.getElem?_toArray, List.getElem?_cons_zero]; with_reducible rfl))); (focus (intro _ _ h; cases h)); (focus rfl); (focus (intro w' hJ; have y1 := C33 _ hJ; have y2 := C34 _ hJ; go_simp <;> with_reducible rfl)); simp only [Act.put, List.setIfInBounds_toArray, List.set_cons_zero, List.set_cons_succ]))
  refine ChainL.nil ?_
  obtain ⟨w3, hw3⟩ : ∃ w3, w3 = w.drew.drew := ⟨_, rfl⟩
  rw [← hw3] at hI ⊢
  clear hw3
  have HI := Lib.hid hI
  clear hI C0 C33 C34 e0 e1 e2 e3
  have t1 := T1.out
  go_wp2
  go_ret
  have B := HI.out.alloc HI.out.size (.cells #[.int .i64 65536] 3)
  exact ⟨rfl, _, HS.out.below B, RMod.below B⟩
set_option maxRecDepth 100000 in
set_option maxHeartbeats 4000000 in
theorem rd_random_full_more (p : Nat) (lv : Value) (low St D : List Int) (u : Nat) (w : World) (h : Rk w p lv (low ++ []) St D u) (d : Int) (hd : D[u]? = some d) (hf : low.length = 48) :
    Calls Try.prog 15 #[.pointer (some ⟨p, 0, none⟩), .int .i64 23] w (RDid p lv w (170) (low ++ []) St D u) := by
  obtain ⟨i0, hi, hz0, hz1, hz2⟩ := info_partsS infoS
  obtain ⟨A, c, hb, hls⟩ := h.blk
  have c0 := hb.cell 0
  rw [rk_c0] at c0
  have f0 := hb.frozen 0
  obtain ⟨A0, n0, rfl, hl0, hn0⟩ := own_lists h.own
  have HS := Lib.hid h
  obtain ⟨m, hm⟩ : ∃ m, m = (low).length := ⟨_, rfl⟩
  have hlen : (low ++ []).length = m := by rw [List.length_append, ← hm]; rfl
  rw [hlen] at c0 hn0
  have h48 : m ≤ 48 := by rw [← hlen]; exact h.len
  have hM1 := Lib.hid (show 0 + m ≤ maxLen by simp only [maxLen]; omega)
  have hM2 := Lib.hid (show (0 + m) * 8 ≤ 140737488355328 by omega)
  have hp := h.lt
  have hmaya := h.may
  have C0 : ∀ V, Below w.heap.size w V → V.cell? ⟨p, 0, none⟩ = some (.slice A0 (m) n0) := fun V hV => (hV.cell (p := ⟨p, 0, none⟩) hp).trans c0
  have SU := fun W => slice_up A0 (m) n0 m (by omega) W
  have SO : ∀ W, (Instr.sliceAt 22 (.slice A0 m n0) (some (.int .i64 (m : Nat))) none none).run Try.prog W = .ok (.slice (if n0 = m then A0 else A0.map (·.add m)) 0 (n0 - m)) W := fun W => by
    have h := slice_okI A0 m n0 m (by omega) (by omega) W
    rwa [Nat.sub_self] at h
  generalize hAt : (if n0 = m then A0 else A0.map (·.add m)) = At at SO
  clear hAt
  have HLOW := Lib.hid (show Lists w w.heap.size A0 (intCells (low)) by
    rw [show intCells (low) = (intCells (low ++ [])).take m by rw [intCells_app (low) [], List.take_left' (by rw [intCells_len]; exact hm.symm)]]
    exact lists_takeF hl0 m)
  have d1 : decide ((m : Int) < 0) = false := by simp
  have HM := Lib.hid hm
  have hp0 : p ≤ w.heap.size := Nat.le_of_lt hp
  rw [← hm] at hf
  have T1 := Lib.hid (show wrap64 ((m : Int) + 1) = (m : Int) + 1 from w64s _ _ (by omega) (by omega) (by omega))
  have t2 : decide ((m : Int) + 1 > 48) = true := by simp; omega
  have t3 : decide (48 < (m : Int) + 1) = true := by simp; omega
  have c33 := hb.cell 33
  rw [rk_c33 _ _ _ _ h.st] at c33
  have c34 := hb.cell 34
  rw [rk_c34 _ _ _ _ h.st] at c34
  obtain ⟨dn, hdn⟩ : ∃ dn, dn = D.length := ⟨_, rfl⟩
  rw [← hdn] at c33
  have C33 : ∀ V, Below w.heap.size w V → V.cell? ⟨p, 33, none⟩ = some (.slice A dn c) := fun V hV => (hV.cell (p := ⟨p, 33, none⟩) hp).trans c33
  have C34 : ∀ V, Below w.heap.size w V → V.cell? ⟨p, 34, none⟩ = some (.int .i64 (u : Int)) := fun V hV => (hV.cell (p := ⟨p, 34, none⟩) hp).trans c34
  have hud : u < dn := by rw [hdn]; exact (List.getElem?_eq_some_iff.1 hd).1
  have dl : decide ((u : Int) < (dn : Int)) = true := by simp; omega
  have dl2 : decide (u < dn) = true := by simp; omega
  have hudI : (u : Int) < (dn : Int) := by omega
  obtain ⟨b3, o3, rfl, hb3, hc3⟩ := hls.plain (by intro e; have h1 := congrArg List.length e; rw [intCells_len, List.length_nil] at h1; omega)
  have cd := hc3 u (.int .i64 d) (by simp [intCells, hd])
  have CD : ∀ V, Below w.heap.size w V → V.cell? ⟨b3, o3 + u, none⟩ = some (.int .i64 d) := fun V hV => (hV.cell (p := ⟨b3, o3 + u, none⟩) (Nat.lt_trans hb3 hp)).trans cd
  have AN0 := Lib.hid (and65535 d)
  have m0 := Int.emod_nonneg d (show (65536 : Int) ≠ 0 by decide)
  have m1 := Int.emod_lt_of_pos d (show (0 : Int) < 65536 by decide)
  generalize d % 65536 = y at *
  obtain ⟨yy, hyy⟩ : ∃ yy : Int, yy = y + 1 := ⟨_, rfl⟩
  have AD0 := Lib.hid (show IntKind.i64.wrap (1 + y) = yy from wIs _ _ (by omega) (by omega) (by omega))
  clear hyy
  clear hud m0 m1 hd cd
  clear hf c33 c34 hdn hc3
  have E0 := Lib.hid (show IntKind.i64.wrap ((m : Int) - 0) = (m : Int) from wIs _ _ (by omega) (by omega) (by omega))
  have E1 := Lib.hid (show wrap64 ((m : Int) - 0) = (m : Int) from w64s _ _ (by omega) (by omega) (by omega))
  have E2 := Lib.hid (show IntKind.i64.wrap (m : Int) = (m : Int) from wIs _ _ (by omega) (by omega) (by omega))
  have E3 := Lib.hid (show wrap64 (m : Int) = (m : Int) from w64s _ _ (by omega) (by omega) (by omega))
  clear hls hl0 h hlen hm
  have HMAY := Lib.hid hmaya
  clear hmaya
  have e0 := E0.out
  have e1 := E1.out
  have e2 := E2.out
  have e3 := E3.out
  clear E0 E1 E2 E3
  go_enter Try.func15, Try.ntmps15
  go_wp2_with (go_at_call 28; ((with_reducible refine (need_random _).mono ?_); rintro e w9 ⟨rfl, rfl⟩))
  have hI : Below w.heap.size w w.drew := (Below.refl _ _).drew
  refine wp_region_chain (fun V => Below w.heap.size w V) [(0, false), (1, false), (2, false), (3, false), (4, false), (5, false), (6, false), (7, false), (8, false), (9, false), (10, false), (11, false), (12, false), (13, false)] (by kernel_rfl) (by kernel_rfl) hI ?_
  repeat (first
    | (refine ChainL.skip (o := ?_) ?_ ?_ ?_; rotate_left; (focus (first | (simp only [List.getElem?_toArray, List.getElem?_cons_succ, List.getElem?_cons_zero]; with_reducible rfl) | (simp only [List.getElem?_toArray, List.getElem?_cons_zero]; with_reducible rfl))); (focus rfl); simp only [Act.put, List.setIfInBounds_toArray, List.set_cons_zero, List.set_cons_succ])
    | (refine ChainL.val (o := ?_) (v := ?_) ?_ ?_ ?_ ?_ ?_; rotate_left 2; (focus (first | (simp only [List.getElem?_toArray, List.getElem?_cons_succ, List.getElem?_cons_zero]; with_reducible rfl) | (simp only [List.getElem?_toArray, List.getElem?_cons_zero]; with_reducible rfl))); (focus (intro _ _ h; cases h)); (focus rfl); (focus (intro w' hJ; have y0 := C0 _ hJ; go_simp <;> with_reducible rfl)); simp only [Act.put, List.setIfInBounds_toArray, List.set_cons_zero, List.set_cons_succ]))
  refine ChainL.nil ?_
  go_wp2
  clear hI
  have hI : Below w.heap.size w w.drew.drew := (Below.refl _ _).drew.drew
  refine wp_region_chain (fun V => Below w.heap.size w V) [(0, false), (1, false), (2, false), (3, false), (4, false), (5, false), (6, false), (7, false), (8, false), (9, false)] (by kernel_rfl) (by kernel_rfl) hI ?_
  repeat (first
    | (refine ChainL.skip (o := ?_) ?_ ?_ ?_; rotate_left; (focus (first | (simp only [List.getElem?_toArray, List.getElem?_cons_succ, List.getElem?_cons_zero]; with_reducible rfl) | (simp only [List.getElem?_toArray, List.getElem?_cons_zero]; with_reducible rfl))); (focus rfl); simp only [Act.put, List.setIfInBounds_toArray, List.set_cons_zero, List.set_cons_succ])
    | (refine ChainL.val (o := ?_) (v := ?_) ?_ ?_ ?_ ?_ ?_; rotate_left 2; (focus (first | (simp only [List.getElem?_toArray, List.getElem?_cons_succ, List.getElem?_cons_zero]; with_reducible rfl) | (simp only [List.getElem?_toArray, List.getElem?_cons_zero]; with_reducible rfl))); (focus (intro _ _ h; cases h)); (focus rfl); (focus (intro w' hJ; have y1 := C33 _ hJ; have y2 := C34 _ hJ; go_simp <;> with_reducible rfl)); simp only [Act.put, List.setIfInBounds_toArray, List.set_cons_zero, List.set_cons_succ]))
  refine ChainL.nil ?_
  go_wp2
  clear hI
  have AN := AN0.out
  have AD := AD0.out
  have hI : Below w.heap.size w w.drew.drew.drew := (Below.refl _ _).drew.drew.drew
  refine wp_region_chain (fun V => Below w.heap.size w V) [(0, false), (1, false), (2, false), (3, false), (4, false), (5, false), (6, false), (7, false), (8, false), (9, false), (10, false), (11, false), (12, false)] (by kernel_rfl) (by kernel_rfl) hI ?_
  repeat (first
    | (refine ChainL.skip (o := ?_) ?_ ?_ ?_; rotate_left; (focus (first | (simp only [List.getElem?_toArray, List.getElem?_cons_succ, List.getElem?_cons_zero]; with_reducible rfl) | (simp only [List.getElem?_toArray, List.getElem?_cons_zero]; with_reducible rfl))); (focus rfl); simp only [Act.put, List.setIfInBounds_toArray, List.set_cons_zero, List.set_cons_succ])
    | (refine ChainL.val (o := ?_) (v := ?_) ?_ ?_ ?_ ?_ ?_; rotate_left 2; (focus (first | (simp only [List.getElem?_toArray, List.getElem?_cons_succ, List.getElem?_cons_zero]; with_reducible rfl) | (simp only [List.getElem?_toArray, List.getElem?_cons_zero]; with_reducible rfl))); (focus (intro _ _ h; cases h)); (focus rfl); (focus (intro w' hJ; have y1 := C33 _ hJ; have y2 := C34 _ hJ; have y3 := CD _ hJ; go_simp <;> with_reducible rfl)); simp only [Act.put, List.setIfInBounds_toArray, List.set_cons_zero, List.set_cons_succ]))
  refine ChainL.nil ?_
  clear AN AD
  obtain ⟨w3, hw3⟩ : ∃ w3, w3 = w.drew.drew.drew := ⟨_, rfl⟩
  rw [← hw3] at hI ⊢
  clear hw3
  have HI := Lib.hid hI
  clear hI C0 C33 C34 e0 e1 e2 e3 CD hb3 hudI AN0 AD0
  have t1 := T1.out
  go_wp2
  go_ret
  have B := HI.out.alloc HI.out.size (.cells #[.int .i64 yy] 3)
  exact ⟨rfl, _, HS.out.below B, RMod.below B⟩
end Go.Proofs.Ytkhafhdmcalhbaa

namespace Go.Proofs.Ytkhafhdmcalhbaa
open Go Go.RowKit
set_option linter.unusedVariables false
set_option linter.unusedSimpArgs false
set_option maxRecDepth 100000 in
set_option maxHeartbeats 4000000 in
theorem rd_random_nil (p : Nat) (lv : Value) (low St D : List Int) (u : Nat) (w : World) (h : Rk w p lv (low ++ []) St D u) (hd : D.length ≤ u) (hu : u + 1 ≤ 1000000) (hf : low.length + 1 ≤ 48) :
    Calls Try.prog 15 #[.pointer (some ⟨p, 0, none⟩), .int .i64 23] w (RDid p lv w (0) (low ++ [65536]) St D (u + 1)) := by
  obtain ⟨i0, hi, hz0, hz1, hz2⟩ := info_partsS infoS
  obtain ⟨A, c, hb, hls⟩ := h.blk
  have c0 := hb.cell 0
  rw [rk_c0] at c0
  have f0 := hb.frozen 0
  obtain ⟨A0, n0, rfl, hl0, hn0⟩ := own_lists h.own
  have HS := Lib.hid h
  obtain ⟨m, hm⟩ : ∃ m, m = (low).length := ⟨_, rfl⟩
  have hlen : (low ++ []).length = m := by rw [List.length_append, ← hm]; rfl
  rw [hlen] at c0 hn0
  have h48 : m ≤ 48 := by rw [← hlen]; exact h.len
  have hM1 := Lib.hid (show 0 + m ≤ maxLen by simp only [maxLen]; omega)
  have hM2 := Lib.hid (show (0 + m) * 8 ≤ 140737488355328 by omega)
  have hp := h.lt
  have hmaya := h.may
  have C0 : ∀ V, Below w.heap.size w V → V.cell? ⟨p, 0, none⟩ = some (.slice A0 (m) n0) := fun V hV => (hV.cell (p := ⟨p, 0, none⟩) hp).trans c0
  have SU := fun W => slice_up A0 (m) n0 m (by omega) W
  have SO : ∀ W, (Instr.sliceAt 22 (.slice A0 m n0) (some (.int .i64 (m : Nat))) none none).run Try.prog W = .ok (.slice (if n0 = m then A0 else A0.map (·.add m)) 0 (n0 - m)) W := fun W => by
    have h := slice_okI A0 m n0 m (by omega) (by omega) W
    rwa [Nat.sub_self] at h
  generalize hAt : (if n0 = m then A0 else A0.map (·.add m)) = At at SO
  clear hAt
  have HLOW := Lib.hid (show Lists w w.heap.size A0 (intCells (low)) by
    rw [show intCells (low) = (intCells (low ++ [])).take m by rw [intCells_app (low) [], List.take_left' (by rw [intCells_len]; exact hm.symm)]]
    exact lists_takeF hl0 m)
  have d1 : decide ((m : Int) < 0) = false := by simp
  have HM := Lib.hid hm
  have hp0 : p ≤ w.heap.size := Nat.le_of_lt hp
  rw [← hm] at hf
  have hM3 := Lib.hid (show m + 1 ≤ maxLen by simp only [maxLen]; omega)
  have hM4 := Lib.hid (show (m + 1) * 8 ≤ 140737488355328 by omega)
  have T1 := Lib.hid (show wrap64 ((m : Int) + 1) = (m : Int) + 1 from w64s _ _ (by omega) (by omega) (by omega))
  have t2 : decide ((m : Int) + 1 > 48) = false := by simp; omega
  have t3 : decide (48 < (m : Int) + 1) = false := by simp; omega
  have c33 := hb.cell 33
  rw [rk_c33 _ _ _ _ h.st] at c33
  have c34 := hb.cell 34
  rw [rk_c34 _ _ _ _ h.st] at c34
  obtain ⟨dn, hdn⟩ : ∃ dn, dn = D.length := ⟨_, rfl⟩
  rw [← hdn] at c33
  have C33 : ∀ V, Below w.heap.size w V → V.cell? ⟨p, 33, none⟩ = some (.slice A dn c) := fun V hV => (hV.cell (p := ⟨p, 33, none⟩) hp).trans c33
  have C34 : ∀ V, Below w.heap.size w V → V.cell? ⟨p, 34, none⟩ = some (.int .i64 (u : Int)) := fun V hV => (hV.cell (p := ⟨p, 34, none⟩) hp).trans c34
  have F34 : ∀ V, Below w.heap.size w V → V.frozen? ⟨p, 34, none⟩ = false := fun V hV => (hb.below hV).frozen _
  have U1 := Lib.hid (show wrap64 ((u : Int) + 1) = (u : Int) + 1 from w64s _ _ rfl (by omega) (by omega))
  have HU := Lib.hid hu
  clear hu
  have hne0 := h.ne
  rw [← hdn] at hd
  have dl : decide ((u : Int) < (dn : Int)) = false := by simp; omega
  have dl2 : decide (u < dn) = false := by simp; omega
  have HXM := Lib.hid (show mayB 65536 = true from rfl)
  have HF := Lib.hid hf
  clear hf c33 c34 hdn hd
  have E0 := Lib.hid (show IntKind.i64.wrap ((m : Int) - 0) = (m : Int) from wIs _ _ (by omega) (by omega) (by omega))
  have E1 := Lib.hid (show wrap64 ((m : Int) - 0) = (m : Int) from w64s _ _ (by omega) (by omega) (by omega))
  have E2 := Lib.hid (show IntKind.i64.wrap (m : Int) = (m : Int) from wIs _ _ (by omega) (by omega) (by omega))
  have E3 := Lib.hid (show wrap64 (m : Int) = (m : Int) from w64s _ _ (by omega) (by omega) (by omega))
  clear hls hl0 h hlen hm
  have HMAY := Lib.hid hmaya
  clear hmaya
  have e0 := E0.out
  have e1 := E1.out
  have e2 := E2.out
  have e3 := E3.out
  clear E0 E1 E2 E3
  go_enter Try.func15, Try.ntmps15
  go_wp2_with (go_at_call 28; ((with_reducible refine (need_random _).mono ?_); rintro e w9 ⟨rfl, rfl⟩))
  have hI : Below w.heap.size w w.drew := (Below.refl _ _).drew
  refine wp_region_chain (fun V => Below w.heap.size w V) [(0, false), (1, false), (2, false), (3, false), (4, false), (5, false), (6, false), (7, false), (8, false), (9, false), (10, false), (11, false), (12, false), (13, false)] (by kernel_rfl) (by kernel_rfl) hI ?_
  repeat (first
    | (refine ChainL.skip (o := ?_) ?_ ?_ ?_; rotate_left; (focus (first | (simp only [List.getElem?_toArray, List.getElem?_cons_succ, List.getElem?_cons_zero]; with_reducible rfl) | (simp only [List.getElem?_toArray, List.getElem?_cons_zero]; with_reducible rfl))); (focus rfl); simp only [Act.put, List.setIfInBounds_toArray, List.set_cons_zero, List.set_cons_succ])
    | (refine ChainL.val (o := ?_) (v := ?_) ?_ ?_ ?_ ?_ ?_; rotate_left 2; (focus (first | (simp only [List.getElem?_toArray, List.getElem?_cons_succ, List.getElem?_cons_zero]; with_reducible rfl) | (simp only [List.getElem?_toArray, List.getElem?_cons_zero]; with_reducible rfl))); (focus (intro _ _ h; cases h)); (focus rfl); (focus (intro w' hJ; have y0 := C0 _ hJ; go_simp <;> with_reducible rfl)); simp only [Act.put, List.setIfInBounds_toArray, List.set_cons_zero, List.set_cons_succ]))
  refine ChainL.nil ?_
  go_wp2
  clear hI
  have hI : Below w.heap.size w w.drew.drew := (Below.refl _ _).drew.drew
  refine wp_region_chain (fun V => Below w.heap.size w V) [(0, false), (1, false), (2, false), (3, false), (4, false), (5, false), (6, false), (7, false), (8, false), (9, false)] (by kernel_rfl) (by kernel_rfl) hI ?_
  repeat (first
    | (refine ChainL.skip (o := ?_) ?_ ?_ ?_; rotate_left; (focus (first | (simp only [List.getElem?_toArray, List.getElem?_cons_succ, List.getElem?_cons_zero]; with_reducible rfl) | (simp only [List.getElem?_toArray, List.getElem?_cons_zero]; with_reducible rfl))); (focus rfl); simp only [Act.put, List.setIfInBounds_toArray, List.set_cons_zero, List.set_cons_succ])
    | (refine ChainL.val (o := ?_) (v := ?_) ?_ ?_ ?_ ?_ ?_; rotate_left 2; (focus (first | (simp only [List.getElem?_toArray, List.getElem?_cons_succ, List.getElem?_cons_zero]; with_reducible rfl) | (simp only [List.getElem?_toArray, List.getElem?_cons_zero]; with_reducible rfl))); (focus (intro _ _ h; cases h)); (focus rfl); (focus (intro w' hJ; have y1 := C33 _ hJ; have y2 := C34 _ hJ; go_simp <;> with_reducible rfl)); simp only [Act.put, List.setIfInBounds_toArray, List.set_cons_zero, List.set_cons_succ]))
  refine ChainL.nil ?_
  obtain ⟨w3, hw3⟩ : ∃ w3, w3 = w.drew.drew := ⟨_, rfl⟩
  rw [← hw3] at hI ⊢
  clear hw3
  have hI3 : Below w.heap.size w (w3.alloc (.cells #[.int .i64 65536] 3)) := hI.alloc hI.size _
  have z1 := C34 _ hI3
  have z2 := F34 _ hI3
  have hp3 : p < w3.heap.size := Nat.lt_of_lt_of_le hp hI.size
  have Q := (HS.out.below hI).setU HU.out
  have HLW := HLOW.out.below hI
  have sW : ((w3.setCell ⟨p, 34, none⟩ (.int .i64 ((u : Int) + 1))).alloc (.cells #[.int .i64 65536] 3)).heap.size = w3.heap.size + 1 := by simp
  have o9 : Only w3 (w3.setCell ⟨p, 34, none⟩ (.int .i64 ((u : Int) + 1))) [p] := Q.2.1
  have HLOW2 := Lib.hid (show Lists ((w3.setCell ⟨p, 34, none⟩ (.int .i64 ((u : Int) + 1))).alloc (.cells #[.int .i64 65536] 3)) w.heap.size A0 (intCells low) from (lists_only HLW hI.size o9 (fun a ha _ hm => by subst ha; simp at hm; exact hne0 (by simp [blk, Value.ownBlock, hm]))).below ((Below.refl _ _).alloc (Nat.le_trans hI.size o9.size) _))
  have HOUT := Lib.hid (show Lists ((w3.setCell ⟨p, 34, none⟩ (.int .i64 ((u : Int) + 1))).alloc (.cells #[.int .i64 65536] 3)) ((w3.setCell ⟨p, 34, none⟩ (.int .i64 ((u : Int) + 1))).alloc (.cells #[.int .i64 65536] 3)).heap.size (some ⟨w3.heap.size, 0, none⟩) (intCells [65536]) by
    rw [sW]
    exact lists_row_at (w3.setCell ⟨p, 34, none⟩ (.int .i64 ((u : Int) + 1))) [.int .i64 65536] 3 w3.heap.size (by simp))
  have hs5 : w.heap.size ≤ ((w3.setCell ⟨p, 34, none⟩ (.int .i64 ((u : Int) + 1))).alloc (.cells #[.int .i64 65536] 3)).heap.size := by rw [sW]; exact Nat.le_succ_of_le hI.size
  have Q2 := Q.1.below ((Below.refl _ _).alloc (Nat.le_refl _) (.cells #[.int .i64 65536] 3))
  have HQ := Lib.hid (And.intro Q2 (((RMod.below hI).trans Q.2).trans (RMod.below ((Below.refl _ _).alloc (Nat.le_refl _) (.cells #[.int .i64 65536] 3)))))
  obtain ⟨Aq, cq, hbq, _⟩ := Q2.blk
  have HBQ := Lib.hid hbq
  have HBT := hbq
  have HS5 := Lib.hid hs5
  clear Q Q2 hbq o9 HLW sW hs5 C33 C34 F34 HLOW e0 e1 e2 e3 hne0
  have t1 := T1.out
  have u1 := U1.out
  go_wp2_with (first
    | (at_builtin; refine wpList_append_src _ rfl (.tmp 229) (.tmp 230) 22 rfl p 3 i0 (.int .i64 0) 1 8 Try.underlying22 hi hz0 hz1 hz2 rfl (by decide) (.slice (some ⟨w3.heap.size + 1, 0, none⟩) 0 0) 0 [] rfl (own_made_at p ((w3.setCell ⟨p, 34, none⟩ (.int .i64 ((u : Int) + 1))).alloc (.cells #[.int .i64 65536] 3)) (w3.heap.size + 1) (by simp) (Nat.le_trans hp0 HS5.out)) ((w3.setCell ⟨p, 34, none⟩ (.int .i64 ((u : Int) + 1))).alloc (.cells #[.int .i64 65536] 3)).heap.size A0 (m) n0 (intCells low) (by rfl) ((HLOW2.out.below ((Below.refl _ _).alloc HS5.out _)).more HS5.out) (by rw [intCells_len, Nat.mul_one]; exact HM.out.symm) (intCells_oneS _) hM1.out hM2.out (Nat.le_trans hp0 (Nat.le_trans HS5.out (by simp))) ?_; intro v1 w1 own1 hg1 hat1; rw [Nat.zero_add, List.nil_append] at own1; have b1 : Below ((w3.setCell ⟨p, 34, none⟩ (.int .i64 ((u : Int) + 1))).alloc (.cells #[.int .i64 65536] 3)).heap.size ((w3.setCell ⟨p, 34, none⟩ (.int .i64 ((u : Int) + 1))).alloc (.cells #[.int .i64 65536] 3)) w1 := ((Below.refl _ _).alloc (Nat.le_refl _) _).grown hg1 (by simp) (fun j hj => by cases hj; simp); have f1 : ∀ bb ∈ blk v1, ((w3.setCell ⟨p, 34, none⟩ (.int .i64 ((u : Int) + 1))).alloc (.cells #[.int .i64 65536] 3)).heap.size ≤ bb := f1_of hat1 (by simp) (by simp); obtain ⟨A1, c1, rfl, _⟩ := own_lists own1)
    | (at_builtin; refine wpList_append_src _ rfl (.tmp 231) (.tmp 232) 22 rfl p 3 i0 (.int .i64 0) 1 8 Try.underlying22 hi hz0 hz1 hz2 rfl (by decide) (.slice A1 (m) c1) (m) (intCells low) rfl (own1) w1.heap.size (some ⟨w3.heap.size, 0, none⟩) (1) 1 (intCells [65536]) (by rfl) ((HOUT.out.below b1).more b1.size) (by rw [intCells_len, Nat.mul_one]; rfl) (intCells_oneS _) hM3.out hM4.out (Nat.le_trans hp0 (Nat.le_trans HS5.out b1.size)) ?_; intro v2 w2 own2 hg2 hat2; have o2 : Only w1 w2 (blk (.slice A1 (m) c1)) := (Only.refl _ _).grown hg2 (fun b hb => .inl (by simp [blk, hb])); obtain ⟨A2, c2, rfl, _⟩ := own_lists own2; have b12 := (b1).trans (o2.to_below (b1).size f1); have hb2 := HBQ.out.below b12; have z2 := hb2.cell 0; rw [rk_c0] at z2; have y2 := hb2.frozen 0))
  go_ret
  have P := HQ.out.1.put (L2 := low ++ [65536]) b12 (by rw [List.length_append, intCells_app, ← HM.out]; exact own2) ?_ ?_ ?_
  · refine ⟨rfl, _, P.1, ?_⟩
    have P2 := HQ.out.2.trans P.2
    simpa using P2
  · intro b hb
    right
    rcases hat2 with e | e
    · exact f1 b (by unfold blk at hb ⊢; rw [e] at hb; exact hb)
    · have := b1.size; unfold blk at hb; rw [e] at hb; simp at hb; rw [hb]; exact this
  · clear t1 u1
    have hf := HF.out
    rw [List.length_append, ← HM.out]; simp; omega
  · intro y hy
    rcases List.mem_append.1 hy with h1 | h1
    · exact HMAY.out y (by simp [h1])
    · simp at h1; rw [h1]; exact HXM.out
end Go.Proofs.Ytkhafhdmcalhbaa

namespace Go.Proofs.Ytkhafhdmcalhbaa
open Go Go.RowKit
set_option linter.unusedVariables false
set_option linter.unusedSimpArgs false
theorem rot_may {L : List Int} {j : Int} (h : ∀ x ∈ L, mayB x = true) : ∀ x ∈ rot L j, mayB x = true := fun x hx => by
  unfold rot at hx
  obtain ⟨k, hk, rfl⟩ := List.mem_map.1 hx
  have hk := List.mem_range.1 hk
  have h0 := Int.emod_nonneg ((k : Int) - j) (show (L.length : Int) ≠ 0 by omega)
  have h1 := Int.emod_lt_of_pos ((k : Int) - j) (show (0 : Int) < (L.length : Int) by omega)
  exact h _ (mem_getD (by omega))
set_option maxRecDepth 100000 in
set_option maxHeartbeats 4000000 in
theorem rd_roll (p : Nat) (lv : Value) (low St D : List Int) (u : Nat) (a b : Int) (l0 : List Int) (w : World) (h : Rk w p lv ((low ++ l0) ++ [a, b]) St D u) (hx : a / 65536 = (l0.length : Nat)) (hpos : 0 < l0.length) :
    Calls Try.prog 15 #[.pointer (some ⟨p, 0, none⟩), .int .i64 30] w (RDid p lv w (0) (low ++ rot l0 (b / 65536)) St D u) := by
  obtain ⟨i0, hi, hz0, hz1, hz2⟩ := info_partsS infoS
  obtain ⟨A, c, hb, hls⟩ := h.blk
  have c0 := hb.cell 0
  rw [rk_c0] at c0
  have f0 := hb.frozen 0
  obtain ⟨A0, n0, rfl, hl0, hn0⟩ := own_lists h.own
  have HS := Lib.hid h
  obtain ⟨m, hm⟩ : ∃ m, m = ((low ++ l0)).length := ⟨_, rfl⟩
  have hlen : ((low ++ l0) ++ [a, b]).length = m + 2 := by rw [List.length_append, ← hm]; rfl
  rw [hlen] at c0 hn0
  have h48 : m + 2 ≤ 48 := by rw [← hlen]; exact h.len
  have hM1 := Lib.hid (show 0 + m ≤ maxLen by simp only [maxLen]; omega)
  have hM2 := Lib.hid (show (0 + m) * 8 ≤ 140737488355328 by omega)
  have hp := h.lt
  have hmaya := h.may
  obtain ⟨g, rfl⟩ : ∃ g, A0 = some ⟨g, 0, none⟩ := by
    rcases h.own.2 with ⟨_, h2⟩ | ⟨g, _, _, h1, _⟩
    · rw [hlen] at h2; omega
    · cases h1; exact ⟨g, rfl⟩
  have hgl : g < w.heap.size := blk_lt h.own g (by simp [blk, Value.ownBlock])
  have cx0 : w.cell? ⟨g, m, none⟩ = some (.int .i64 a) := by
    have h1 := hl0.cell _ rfl (m) (.int .i64 a) (by rw [intCells_app, List.getElem?_append_right (by rw [intCells_len]; omega), intCells_len, ← hm]; simp [intCells])
    rwa [addr_plain, Nat.zero_add] at h1
  have CX0 : ∀ V, Below w.heap.size w V → V.cell? ⟨g, m, none⟩ = some (.int .i64 a) := fun V hV => (hV.cell (p := ⟨g, m, none⟩) hgl).trans cx0
  have cx1 : w.cell? ⟨g, m + 1, none⟩ = some (.int .i64 b) := by
    have h1 := hl0.cell _ rfl (m + 1) (.int .i64 b) (by rw [intCells_app, List.getElem?_append_right (by rw [intCells_len]; omega), intCells_len, ← hm]; simp [intCells])
    rwa [addr_plain, Nat.zero_add] at h1
  have CX1 : ∀ V, Below w.heap.size w V → V.cell? ⟨g, m + 1, none⟩ = some (.int .i64 b) := fun V hV => (hV.cell (p := ⟨g, m + 1, none⟩) hgl).trans cx1
  have C0 : ∀ V, Below w.heap.size w V → V.cell? ⟨p, 0, none⟩ = some (.slice (some ⟨g, 0, none⟩) (m + 2) n0) := fun V hV => (hV.cell (p := ⟨p, 0, none⟩) hp).trans c0
  have SU := fun W => slice_up (some ⟨g, 0, none⟩) (m + 2) n0 m (by omega) W
  have SO : ∀ W, (Instr.sliceAt 22 (.slice (some ⟨g, 0, none⟩) (m + 2) n0) (some (.int .i64 (m : Nat))) none none).run Try.prog W = .ok (.slice (some ⟨g, m, none⟩) 2 (n0 - m)) W := fun W => by
    have h := slice_okI (some ⟨g, 0, none⟩) (m + 2) n0 m (by omega) (by omega) W
    rwa [if_neg (by omega), show (some (⟨g, 0, none⟩ : Addr)).map (·.add m) = some ⟨g, m, none⟩ by simp [addr_plain], Nat.add_sub_cancel_left] at h
  have HLOW := Lib.hid (show Lists w w.heap.size (some ⟨g, 0, none⟩) (intCells ((low ++ l0))) by
    rw [show intCells ((low ++ l0)) = (intCells ((low ++ l0) ++ [a, b])).take m by rw [intCells_app ((low ++ l0)) [a, b], List.take_left' (by rw [intCells_len]; exact hm.symm)]]
    exact lists_takeF hl0 m)
  have d1 : decide ((m : Int) < 0) = false := by simp
  have HM := Lib.hid hm
  have hp0 : p ≤ w.heap.size := Nat.le_of_lt hp
  have hma := (hmaya a (by simp))
  have hmb := (hmaya b (by simp))
  have CWa := fun W => floor_ref a 65536 W (by decide) (by have := mayB_lo hma; omega) (by have := mayB_hi hma; omega)
  have CWb := fun W => floor_ref b 65536 W (by decide) (by have := mayB_lo hmb; omega) (by have := mayB_hi hmb; omega)
  obtain ⟨n, hn⟩ : ∃ n, n = l0.length := ⟨_, rfl⟩
  obtain ⟨r, hr⟩ : ∃ r, r = low.length := ⟨_, rfl⟩
  have hmr : m = r + n := by rw [hm, List.length_append, ← hn, ← hr]
  rw [← hn] at hpos
  rw [hx, ← hn] at CWa
  have hM1r := Lib.hid (show 0 + r ≤ maxLen by simp only [maxLen]; omega)
  have hM2r := Lib.hid (show (0 + r) * 8 ≤ 140737488355328 by omega)
  have hM3 := Lib.hid (show r + n ≤ maxLen by simp only [maxLen]; omega)
  have hM4 := Lib.hid (show (r + n) * 8 ≤ 140737488355328 by omega)
  have T1 := Lib.hid (show wrap64 ((r : Int) + (n : Int)) = (r : Int) + (n : Int) from w64s _ _ rfl (by omega) (by omega))
  have T2 := Lib.hid (show wrap64 ((m : Int) - (n : Int)) = (r : Int) from w64s _ _ (by omega) (by omega) (by omega))
  have t2 : decide ((r : Int) + (n : Int) > 48) = false := by simp; omega
  have t3 : decide (48 < (r : Int) + (n : Int)) = false := by simp; omega
  have dn : decide ((n : Int) < 0) = false := by simp
  have dg : decide ((n : Int) > (m : Int)) = false := by simp; omega
  have dg2 : decide ((m : Int) < (n : Int)) = false := by simp; omega
  have dg3 : decide (m < n) = false := by simp; omega
  have dp : decide ((n : Int) > 0) = true := by simp; omega
  have dp2 : decide ((0 : Int) < (n : Int)) = true := by simp; omega
  have dp3 : decide (0 < n) = true := by simp; omega
  have SL : ∀ W, (Instr.sliceAt 22 (.slice (some ⟨g, 0, none⟩) m n0) (some (.int .i64 (r : Nat))) none none).run Try.prog W = .ok (.slice (some ⟨g, r, none⟩) n (n0 - r)) W := fun W => by
    have h := slice_okI (some ⟨g, 0, none⟩) m n0 r (by omega) (by omega) W
    rwa [if_neg (by omega), show (some (⟨g, 0, none⟩ : Addr)).map (·.add r) = some ⟨g, r, none⟩ by simp [addr_plain], show m - r = n by omega] at h
  have SU2 := fun W => slice_up (some ⟨g, 0, none⟩) m n0 r (by omega) W
  have hbnd : -32768 ≤ b / 65536 ∧ b / 65536 ≤ 32768 := by have h1 := mayB_lo hmb; have h2 := mayB_hi hmb; omega
  generalize b / 65536 = j at *
  have HLX := Lib.hid (show Lists w w.heap.size (some ⟨g, 0, none⟩) (intCells (low ++ l0)) by
    have hq : (intCells (low ++ l0 ++ [a, b])).take m = intCells (low ++ l0) := by rw [intCells_app (low ++ l0) [a, b], List.take_left' (by rw [intCells_len]; exact hm.symm)]
    have hq2 := lists_takeF hl0 m
    rwa [hq] at hq2)
  have HLLOW := Lib.hid (show Lists w w.heap.size (some ⟨g, 0, none⟩) (intCells low) by
    rw [show intCells low = (intCells (low ++ l0)).take r by rw [intCells_app, List.take_left' (by rw [intCells_len]; exact hr.symm)]]
    exact lists_takeF HLX.out r)
  have HLL0 := Lib.hid (show Lists w w.heap.size (some ⟨g, r, none⟩) (intCells l0) by
    have h := lists_part HLX.out r n
    rwa [show (some (⟨g, 0, none⟩ : Addr)).map (·.add r) = some ⟨g, r, none⟩ by simp [addr_plain], show ((intCells (low ++ l0)).drop r).take n = intCells l0 by rw [intCells_app, List.drop_left' (by rw [intCells_len]; exact hr.symm), List.take_of_length_le (by rw [intCells_len]; omega)]] at h)
  have CRR := fun V (hV : Below w.heap.size w V) => rroll_any w.heap.size (some ⟨g, r, none⟩) (n0 - r) l0 j V hV.size (HLL0.out.below hV) (by omega) (by omega) hbnd.1 hbnd.2
  rw [← hn] at CRR
  have HNN := Lib.hid hn
  have HRR := Lib.hid hr
  have HMR := Lib.hid hmr
  have E0 := Lib.hid (show IntKind.i64.wrap ((m : Int) + 2 - 2) = (m : Int) from wIs _ _ (by omega) (by omega) (by omega))
  have E1 := Lib.hid (show wrap64 ((m : Int) + 2 - 2) = (m : Int) from w64s _ _ (by omega) (by omega) (by omega))
  have E2 := Lib.hid (show IntKind.i64.wrap (m : Int) = (m : Int) from wIs _ _ (by omega) (by omega) (by omega))
  have E3 := Lib.hid (show wrap64 (m : Int) = (m : Int) from w64s _ _ (by omega) (by omega) (by omega))
  clear hls hl0 h hlen hm
  have HMAY := Lib.hid hmaya
  clear hmaya
  have CPL := fun W => plain_roll a b W
  clear hma hmb hx hpos hn hr hmr hbnd
  have e0 := E0.out
  have e1 := E1.out
  have e2 := E2.out
  have e3 := E3.out
  clear E0 E1 E2 E3
  go_enter Try.func15, Try.ntmps15
  go_wp2_with (go_at_call 28; ((with_reducible refine (need_roll _).mono ?_); rintro e w9 ⟨rfl, rfl⟩))
  have hI : Below w.heap.size w w.drew := (Below.refl _ _).drew
  refine wp_region_chain (fun V => Below w.heap.size w V) [(0, false), (1, false), (2, false), (3, false), (4, false), (5, false), (6, false), (7, false), (8, false), (9, false), (10, false), (11, false), (12, false), (13, false)] (by kernel_rfl) (by kernel_rfl) hI ?_
  repeat (first
    | (refine ChainL.skip (o := ?_) ?_ ?_ ?_; rotate_left; (focus (first | (simp only [List.getElem?_toArray, List.getElem?_cons_succ, List.getElem?_cons_zero]; with_reducible rfl) | (simp only [List.getElem?_toArray, List.getElem?_cons_zero]; with_reducible rfl))); (focus rfl); simp only [Act.put, List.setIfInBounds_toArray, List.set_cons_zero, List.set_cons_succ])
    | (refine ChainL.val (o := ?_) (v := ?_) ?_ ?_ ?_ ?_ ?_; rotate_left 2; (focus (first | (simp only [List.getElem?_toArray, List.getElem?_cons_succ, List.getElem?_cons_zero]; with_reducible rfl) | (simp only [List.getElem?_toArray, List.getElem?_cons_zero]; with_reducible rfl))); (focus (intro _ _ h; cases h)); (focus rfl); (focus (intro w' hJ; have y0 := C0 _ hJ; go_simp <;> with_reducible rfl)); simp only [Act.put, List.setIfInBounds_toArray, List.set_cons_zero, List.set_cons_succ]))
  refine ChainL.nil ?_
  go_wp2
  have hI2 : Below w.heap.size w w.drew.drew := hI.drew
  have wk : IntKind.i64.wrap 1 = 1 := by kernel_rfl
  have wk2 : IntKind.i64.wrap (2 - 1) = 1 := by kernel_rfl
  refine wp_region_chain (fun V => Below w.heap.size w V) [(0, false), (1, false), (2, false), (3, false), (4, false), (5, false), (6, false), (7, false), (8, false), (9, true), (10, false), (11, false), (12, false), (13, false), (14, false), (15, false), (16, false)] (by kernel_rfl) (by kernel_rfl) hI2 ?_
  repeat (first
    | (refine ChainL.skip (o := ?_) ?_ ?_ ?_; rotate_left; (focus (first | (simp only [List.getElem?_toArray, List.getElem?_cons_succ, List.getElem?_cons_zero]; with_reducible rfl) | (simp only [List.getElem?_toArray, List.getElem?_cons_zero]; with_reducible rfl))); (focus rfl); simp only [Act.put, List.setIfInBounds_toArray, List.set_cons_zero, List.set_cons_succ])
    | (refine ChainL.val (o := ?_) (v := ?_) ?_ ?_ ?_ ?_ ?_; rotate_left 2; (focus (first | (simp only [List.getElem?_toArray, List.getElem?_cons_succ, List.getElem?_cons_zero]; with_reducible rfl) | (simp only [List.getElem?_toArray, List.getElem?_cons_zero]; with_reducible rfl))); (focus (intro _ _ h; cases h)); (focus rfl); (focus (intro w' hJ; have y0 := C0 _ hJ; have x0 := CX0 _ hJ; have x1 := CX1 _ hJ; go_simp <;> with_reducible rfl)); simp only [Act.put, List.setIfInBounds_toArray, List.set_cons_zero, List.set_cons_succ]))
  refine ChainL.call (o := ?_) (f := ?_) (args := ?_) ?_ ?_ ?_ ?_
  rotate_left 3
  (focus (first | (simp only [List.getElem?_toArray, List.getElem?_cons_succ, List.getElem?_cons_zero]; with_reducible rfl) | (simp only [List.getElem?_toArray, List.getElem?_cons_zero]; with_reducible rfl)))
  (focus rfl)
  (focus (go_simp; (constructor <;> with_reducible rfl)))
  refine (CPL _).mono ?_
  rintro e w8 ⟨rfl, rfl⟩
  refine ⟨_, rfl, hI2, ?_⟩
  simp only [Act.put, List.setIfInBounds_toArray, List.set_cons_zero, List.set_cons_succ]
  repeat (first
    | (refine ChainL.skip (o := ?_) ?_ ?_ ?_; rotate_left; (focus (first | (simp only [List.getElem?_toArray, List.getElem?_cons_succ, List.getElem?_cons_zero]; with_reducible rfl) | (simp only [List.getElem?_toArray, List.getElem?_cons_zero]; with_reducible rfl))); (focus rfl); simp only [Act.put, List.setIfInBounds_toArray, List.set_cons_zero, List.set_cons_succ])
    | (refine ChainL.val (o := ?_) (v := ?_) ?_ ?_ ?_ ?_ ?_; rotate_left 2; (focus (first | (simp only [List.getElem?_toArray, List.getElem?_cons_succ, List.getElem?_cons_zero]; with_reducible rfl) | (simp only [List.getElem?_toArray, List.getElem?_cons_zero]; with_reducible rfl))); (focus (intro _ _ h; cases h)); (focus rfl); (focus (intro w' hJ; skip; go_simp <;> with_reducible rfl)); simp only [Act.put, List.setIfInBounds_toArray, List.set_cons_zero, List.set_cons_succ]))
  refine ChainL.nil ?_
  obtain ⟨w3, hw3⟩ : ∃ w3, w3 = w.drew.drew := ⟨_, rfl⟩
  rw [← hw3] at hI2 ⊢
  clear hw3
  clear e0 e1 e2 e3 wk wk2
  go_wp2
  have hI3 : Below w.heap.size w w3.drew := hI2.drew
  refine wp_region_plan (fun V => Below w.heap.size w V) _ rfl (by kernel_rfl) (by kernel_rfl) (hI3) ?_
  repeat (first
    | (refine PlanL.skip (by rfl) ?_; simp only [Act.put, List.setIfInBounds_toArray, List.set_cons_zero, List.set_cons_succ])
    | (refine PlanL.val (v := ?_) (by rfl) ?_ ?_; rotate_left; (focus (intro w' hS; have x0 := CX0 _ hS; have x1 := CX1 _ hS; go_simp <;> with_reducible rfl)); try simp only [Act.put, List.setIfInBounds_toArray, List.set_cons_zero, List.set_cons_succ])
    | (refine PlanL.call (v := ?_) (f := ?_) (args := ?_) (by rfl) ?_ ?_ ?_; rotate_left 3; (focus (intro w' hS; have x0 := CX0 _ hS; have x1 := CX1 _ hS; go_simp; (constructor <;> with_reducible rfl))); (focus (intro w' hS; first | ((with_reducible refine (CWa _).mono ?_); rintro e w'' ⟨rfl, rfl⟩; refine ⟨?_, hS⟩; with_reducible rfl) | ((with_reducible refine (CWb _).mono ?_); rintro e w'' ⟨rfl, rfl⟩; refine ⟨?_, hS⟩; with_reducible rfl) | fail)); try simp only [Act.put, List.setIfInBounds_toArray, List.set_cons_zero, List.set_cons_succ]))
  refine PlanL.nil ?_
  intro w' hS
  have x0 := CX0 _ hS; have x1 := CX1 _ hS

  have t1 := T1.out
  have t5 := T2.out
  go_wp2_with (first
    | (go_at_call 31; ((with_reducible refine (CRR _ hS).mono ?_); rintro e w4 ⟨Ar, rfl, hlr, b4⟩); have hK4 := hS.trans (b4.mono hS.size); have HBT := hb.below hK4)
    | (at_builtin; refine wpList_append_src _ rfl (.tmp 229) (.tmp 230) 22 rfl p 3 i0 (.int .i64 0) 1 8 Try.underlying22 hi hz0 hz1 hz2 rfl (by decide) (.slice (some ⟨w4.heap.size, 0, none⟩) 0 0) 0 [] rfl (own_made_at p w4 (w4.heap.size) (by simp) (Nat.le_trans hp0 (hK4).size)) w4.heap.size (some ⟨g, 0, none⟩) (r) n0 (intCells low) (by rfl) ((HLLOW.out.below ((hK4).alloc (hK4).size _)).more (hK4).size) (by rw [intCells_len, Nat.mul_one]; exact HRR.out.symm) (intCells_oneS _) hM1r.out hM2r.out (Nat.le_trans hp0 ((hK4).alloc (hK4).size _).size) ?_; intro v1 w1 own1 hg1 hat1; rw [Nat.zero_add, List.nil_append] at own1; have b1 : Below w4.heap.size w4 w1 := ((Below.refl _ _).alloc (Nat.le_refl _) _).grown hg1 (by simp) (fun j hj => by cases hj; simp); have f1 : ∀ bb ∈ blk v1, w4.heap.size ≤ bb := f1_of hat1 (by simp) (by simp); obtain ⟨A1, c1, rfl, _⟩ := own_lists own1)
    | (at_builtin; refine wpList_append_src _ rfl (.tmp 231) (.tmp 232) 22 rfl p 3 i0 (.int .i64 0) 1 8 Try.underlying22 hi hz0 hz1 hz2 rfl (by decide) (.slice A1 (r) c1) (r) (intCells low) rfl (own1) w1.heap.size Ar (n) n (intCells (rot l0 j)) (by rfl) ((hlr.below b1).more b1.size) (by rw [intCells_len, rot_len, Nat.mul_one]; exact HNN.out.symm) (intCells_oneS _) hM3.out hM4.out (Nat.le_trans hp0 (Nat.le_trans (hK4).size b1.size)) ?_; intro v2 w2 own2 hg2 hat2; have o2 : Only w1 w2 (blk (.slice A1 (r) c1)) := (Only.refl _ _).grown hg2 (fun b hb => .inl (by simp [blk, hb])); obtain ⟨A2, c2, rfl, _⟩ := own_lists own2; have b12 := (b1).trans (o2.to_below (b1).size f1); have hb2 := ((HBT)).below b12; have z2 := hb2.cell 0; rw [rk_c0] at z2; have y2 := hb2.frozen 0))
  go_ret
  have P := (HS.out.below hK4).put (L2 := low ++ rot l0 j) b12 (by rw [List.length_append, rot_len, intCells_app, ← HRR.out, ← HNN.out]; exact own2) ?_ ?_ ?_
  · refine ⟨rfl, _, P.1, ?_⟩
    have P2 := (RMod.below hK4).trans P.2
    simpa using P2
  · intro b hb
    right
    rcases hat2 with e | e
    · exact f1 b (by unfold blk at hb ⊢; rw [e] at hb; exact hb)
    · have := b1.size; unfold blk at hb; rw [e] at hb; simp at hb; rw [hb]; exact this
  · clear t1 t5
    rw [List.length_append, rot_len, ← HRR.out, ← HNN.out, ← HMR.out]; omega
  · intro y hy
    rcases List.mem_append.1 hy with h1 | h1
    · exact HMAY.out y (by simp [h1])
    · exact rot_may (fun z hz => HMAY.out z (by simp [hz])) y h1
end Go.Proofs.Ytkhafhdmcalhbaa

namespace Go.Proofs.Ytkhafhdmcalhbaa
open Go Go.RowKit
set_option linter.unusedVariables false
set_option linter.unusedSimpArgs false
set_option maxRecDepth 100000 in
set_option maxHeartbeats 4000000 in
theorem rd_roll0 (p : Nat) (lv : Value) (low St D : List Int) (u : Nat) (a b : Int) (w : World) (h : Rk w p lv (low ++ [a, b]) St D u) (hx : a / 65536 = 0) :
    Calls Try.prog 15 #[.pointer (some ⟨p, 0, none⟩), .int .i64 30] w (RDid p lv w (0) (low) St D u) := by
  obtain ⟨i0, hi, hz0, hz1, hz2⟩ := info_partsS infoS
  obtain ⟨A, c, hb, hls⟩ := h.blk
  have c0 := hb.cell 0
  rw [rk_c0] at c0
  have f0 := hb.frozen 0
  obtain ⟨A0, n0, rfl, hl0, hn0⟩ := own_lists h.own
  have HS := Lib.hid h
  obtain ⟨m, hm⟩ : ∃ m, m = (low).length := ⟨_, rfl⟩
  have hlen : (low ++ [a, b]).length = m + 2 := by rw [List.length_append, ← hm]; rfl
  rw [hlen] at c0 hn0
  have h48 : m + 2 ≤ 48 := by rw [← hlen]; exact h.len
  have hM1 := Lib.hid (show 0 + m ≤ maxLen by simp only [maxLen]; omega)
  have hM2 := Lib.hid (show (0 + m) * 8 ≤ 140737488355328 by omega)
  have hp := h.lt
  have hmaya := h.may
  obtain ⟨g, rfl⟩ : ∃ g, A0 = some ⟨g, 0, none⟩ := by
    rcases h.own.2 with ⟨_, h2⟩ | ⟨g, _, _, h1, _⟩
    · rw [hlen] at h2; omega
    · cases h1; exact ⟨g, rfl⟩
  have hgl : g < w.heap.size := blk_lt h.own g (by simp [blk, Value.ownBlock])
  have cx0 : w.cell? ⟨g, m, none⟩ = some (.int .i64 a) := by
    have h1 := hl0.cell _ rfl (m) (.int .i64 a) (by rw [intCells_app, List.getElem?_append_right (by rw [intCells_len]; omega), intCells_len, ← hm]; simp [intCells])
    rwa [addr_plain, Nat.zero_add] at h1
  have CX0 : ∀ V, Below w.heap.size w V → V.cell? ⟨g, m, none⟩ = some (.int .i64 a) := fun V hV => (hV.cell (p := ⟨g, m, none⟩) hgl).trans cx0
  have cx1 : w.cell? ⟨g, m + 1, none⟩ = some (.int .i64 b) := by
    have h1 := hl0.cell _ rfl (m + 1) (.int .i64 b) (by rw [intCells_app, List.getElem?_append_right (by rw [intCells_len]; omega), intCells_len, ← hm]; simp [intCells])
    rwa [addr_plain, Nat.zero_add] at h1
  have CX1 : ∀ V, Below w.heap.size w V → V.cell? ⟨g, m + 1, none⟩ = some (.int .i64 b) := fun V hV => (hV.cell (p := ⟨g, m + 1, none⟩) hgl).trans cx1
  have C0 : ∀ V, Below w.heap.size w V → V.cell? ⟨p, 0, none⟩ = some (.slice (some ⟨g, 0, none⟩) (m + 2) n0) := fun V hV => (hV.cell (p := ⟨p, 0, none⟩) hp).trans c0
  have SU := fun W => slice_up (some ⟨g, 0, none⟩) (m + 2) n0 m (by omega) W
  have SO : ∀ W, (Instr.sliceAt 22 (.slice (some ⟨g, 0, none⟩) (m + 2) n0) (some (.int .i64 (m : Nat))) none none).run Try.prog W = .ok (.slice (some ⟨g, m, none⟩) 2 (n0 - m)) W := fun W => by
    have h := slice_okI (some ⟨g, 0, none⟩) (m + 2) n0 m (by omega) (by omega) W
    rwa [if_neg (by omega), show (some (⟨g, 0, none⟩ : Addr)).map (·.add m) = some ⟨g, m, none⟩ by simp [addr_plain], Nat.add_sub_cancel_left] at h
  have HLOW := Lib.hid (show Lists w w.heap.size (some ⟨g, 0, none⟩) (intCells (low)) by
    rw [show intCells (low) = (intCells (low ++ [a, b])).take m by rw [intCells_app (low) [a, b], List.take_left' (by rw [intCells_len]; exact hm.symm)]]
    exact lists_takeF hl0 m)
  have d1 : decide ((m : Int) < 0) = false := by simp
  have HM := Lib.hid hm
  have hp0 : p ≤ w.heap.size := Nat.le_of_lt hp
  have hma := (hmaya a (by simp))
  have hmb := (hmaya b (by simp))
  have CWa := fun W => floor_ref a 65536 W (by decide) (by have := mayB_lo hma; omega) (by have := mayB_hi hma; omega)
  have CWb := fun W => floor_ref b 65536 W (by decide) (by have := mayB_lo hmb; omega) (by have := mayB_hi hmb; omega)
  have hM3 := Lib.hid (show m + 0 ≤ maxLen by simp only [maxLen]; omega)
  have hM4 := Lib.hid (show (m + 0) * 8 ≤ 140737488355328 by omega)
  have T1 := Lib.hid (show wrap64 ((m : Int)) = (m : Int) from w64s _ _ (by omega) (by omega) (by omega))
  have t2 : decide ((m : Int) > 48) = false := by simp; omega
  have t3 : decide (48 < (m : Int)) = false := by simp; omega
  rw [hx] at CWa
  have dg : decide ((0 : Int) > (m : Int)) = false := by simp
  have dg2 : decide ((m : Int) < 0) = false := by simp
  have E0 := Lib.hid (show IntKind.i64.wrap ((m : Int) + 2 - 2) = (m : Int) from wIs _ _ (by omega) (by omega) (by omega))
  have E1 := Lib.hid (show wrap64 ((m : Int) + 2 - 2) = (m : Int) from w64s _ _ (by omega) (by omega) (by omega))
  have E2 := Lib.hid (show IntKind.i64.wrap (m : Int) = (m : Int) from wIs _ _ (by omega) (by omega) (by omega))
  have E3 := Lib.hid (show wrap64 (m : Int) = (m : Int) from w64s _ _ (by omega) (by omega) (by omega))
  clear hls hl0 h hlen hm
  have HMAY := Lib.hid hmaya
  clear hmaya
  have CPL := fun W => plain_roll a b W
  clear hma hmb hx
  have e0 := E0.out
  have e1 := E1.out
  have e2 := E2.out
  have e3 := E3.out
  clear E0 E1 E2 E3
  go_enter Try.func15, Try.ntmps15
  go_wp2_with (go_at_call 28; ((with_reducible refine (need_roll _).mono ?_); rintro e w9 ⟨rfl, rfl⟩))
  have hI : Below w.heap.size w w.drew := (Below.refl _ _).drew
  refine wp_region_chain (fun V => Below w.heap.size w V) [(0, false), (1, false), (2, false), (3, false), (4, false), (5, false), (6, false), (7, false), (8, false), (9, false), (10, false), (11, false), (12, false), (13, false)] (by kernel_rfl) (by kernel_rfl) hI ?_
  repeat (first
    | (refine ChainL.skip (o := ?_) ?_ ?_ ?_; rotate_left; (focus (first | (simp only [List.getElem?_toArray, List.getElem?_cons_succ, List.getElem?_cons_zero]; with_reducible rfl) | (simp only [List.getElem?_toArray, List.getElem?_cons_zero]; with_reducible rfl))); (focus rfl); simp only [Act.put, List.setIfInBounds_toArray, List.set_cons_zero, List.set_cons_succ])
    | (refine ChainL.val (o := ?_) (v := ?_) ?_ ?_ ?_ ?_ ?_; rotate_left 2; (focus (first | (simp only [List.getElem?_toArray, List.getElem?_cons_succ, List.getElem?_cons_zero]; with_reducible rfl) | (simp only [List.getElem?_toArray, List.getElem?_cons_zero]; with_reducible rfl))); (focus (intro _ _ h; cases h)); (focus rfl); (focus (intro w' hJ; have y0 := C0 _ hJ; go_simp <;> with_reducible rfl)); simp only [Act.put, List.setIfInBounds_toArray, List.set_cons_zero, List.set_cons_succ]))
  refine ChainL.nil ?_
  go_wp2
  have hI2 : Below w.heap.size w w.drew.drew := hI.drew
  have wk : IntKind.i64.wrap 1 = 1 := by kernel_rfl
  have wk2 : IntKind.i64.wrap (2 - 1) = 1 := by kernel_rfl
  refine wp_region_chain (fun V => Below w.heap.size w V) [(0, false), (1, false), (2, false), (3, false), (4, false), (5, false), (6, false), (7, false), (8, false), (9, true), (10, false), (11, false), (12, false), (13, false), (14, false), (15, false), (16, false)] (by kernel_rfl) (by kernel_rfl) hI2 ?_
  repeat (first
    | (refine ChainL.skip (o := ?_) ?_ ?_ ?_; rotate_left; (focus (first | (simp only [List.getElem?_toArray, List.getElem?_cons_succ, List.getElem?_cons_zero]; with_reducible rfl) | (simp only [List.getElem?_toArray, List.getElem?_cons_zero]; with_reducible rfl))); (focus rfl); simp only [Act.put, List.setIfInBounds_toArray, List.set_cons_zero, List.set_cons_succ])
    | (refine ChainL.val (o := ?_) (v := ?_) ?_ ?_ ?_ ?_ ?_; rotate_left 2; (focus (first | (simp only [List.getElem?_toArray, List.getElem?_cons_succ, List.getElem?_cons_zero]; with_reducible rfl) | (simp only [List.getElem?_toArray, List.getElem?_cons_zero]; with_reducible rfl))); (focus (intro _ _ h; cases h)); (focus rfl); (focus (intro w' hJ; have y0 := C0 _ hJ; have x0 := CX0 _ hJ; have x1 := CX1 _ hJ; go_simp <;> with_reducible rfl)); simp only [Act.put, List.setIfInBounds_toArray, List.set_cons_zero, List.set_cons_succ]))
  refine ChainL.call (o := ?_) (f := ?_) (args := ?_) ?_ ?_ ?_ ?_
  rotate_left 3
  (focus (first | (simp only [List.getElem?_toArray, List.getElem?_cons_succ, List.getElem?_cons_zero]; with_reducible rfl) | (simp only [List.getElem?_toArray, List.getElem?_cons_zero]; with_reducible rfl)))
  (focus rfl)
  (focus (go_simp; (constructor <;> with_reducible rfl)))
  refine (CPL _).mono ?_
  rintro e w8 ⟨rfl, rfl⟩
  refine ⟨_, rfl, hI2, ?_⟩
  simp only [Act.put, List.setIfInBounds_toArray, List.set_cons_zero, List.set_cons_succ]
  repeat (first
    | (refine ChainL.skip (o := ?_) ?_ ?_ ?_; rotate_left; (focus (first | (simp only [List.getElem?_toArray, List.getElem?_cons_succ, List.getElem?_cons_zero]; with_reducible rfl) | (simp only [List.getElem?_toArray, List.getElem?_cons_zero]; with_reducible rfl))); (focus rfl); simp only [Act.put, List.setIfInBounds_toArray, List.set_cons_zero, List.set_cons_succ])
    | (refine ChainL.val (o := ?_) (v := ?_) ?_ ?_ ?_ ?_ ?_; rotate_left 2; (focus (first | (simp only [List.getElem?_toArray, List.getElem?_cons_succ, List.getElem?_cons_zero]; with_reducible rfl) | (simp only [List.getElem?_toArray, List.getElem?_cons_zero]; with_reducible rfl))); (focus (intro _ _ h; cases h)); (focus rfl); (focus (intro w' hJ; skip; go_simp <;> with_reducible rfl)); simp only [Act.put, List.setIfInBounds_toArray, List.set_cons_zero, List.set_cons_succ]))
  refine ChainL.nil ?_
  obtain ⟨w3, hw3⟩ : ∃ w3, w3 = w.drew.drew := ⟨_, rfl⟩
  rw [← hw3] at hI2 ⊢
  clear hw3
  clear e0 e1 e2 e3 wk wk2
  go_wp2
  have hI3 : Below w.heap.size w w3.drew := hI2.drew
  refine wp_region_plan (fun V => Below w.heap.size w V) _ rfl (by kernel_rfl) (by kernel_rfl) (hI3) ?_
  repeat (first
    | (refine PlanL.skip (by rfl) ?_; simp only [Act.put, List.setIfInBounds_toArray, List.set_cons_zero, List.set_cons_succ])
    | (refine PlanL.val (v := ?_) (by rfl) ?_ ?_; rotate_left; (focus (intro w' hS; have x0 := CX0 _ hS; have x1 := CX1 _ hS; go_simp <;> with_reducible rfl)); try simp only [Act.put, List.setIfInBounds_toArray, List.set_cons_zero, List.set_cons_succ])
    | (refine PlanL.call (v := ?_) (f := ?_) (args := ?_) (by rfl) ?_ ?_ ?_; rotate_left 3; (focus (intro w' hS; have x0 := CX0 _ hS; have x1 := CX1 _ hS; go_simp; (constructor <;> with_reducible rfl))); (focus (intro w' hS; first | ((with_reducible refine (CWa _).mono ?_); rintro e w'' ⟨rfl, rfl⟩; refine ⟨?_, hS⟩; with_reducible rfl) | ((with_reducible refine (CWb _).mono ?_); rintro e w'' ⟨rfl, rfl⟩; refine ⟨?_, hS⟩; with_reducible rfl) | fail)); try simp only [Act.put, List.setIfInBounds_toArray, List.set_cons_zero, List.set_cons_succ]))
  refine PlanL.nil ?_
  intro w' hS
  have x0 := CX0 _ hS; have x1 := CX1 _ hS

  obtain ⟨w4, hw4⟩ : ∃ w4, w4 = w' := ⟨_, rfl⟩
  rw [← hw4] at hS ⊢
  clear hw4
  have t1 := T1.out
  have HBT := hb.below hS
  go_wp2_with (first
    | (at_builtin; refine wpList_append_src _ rfl (.tmp 229) (.tmp 230) 22 rfl p 3 i0 (.int .i64 0) 1 8 Try.underlying22 hi hz0 hz1 hz2 rfl (by decide) (.slice (some ⟨w4.heap.size, 0, none⟩) 0 0) 0 [] rfl (own_made_at p w4 (w4.heap.size) (by simp) (Nat.le_trans hp0 (hS).size)) w4.heap.size (some ⟨g, 0, none⟩) (m) n0 (intCells low) (by rfl) ((HLOW.out.below ((hS).alloc (hS).size _)).more (hS).size) (by rw [intCells_len, Nat.mul_one]; exact HM.out.symm) (intCells_oneS _) hM1.out hM2.out (Nat.le_trans hp0 ((hS).alloc (hS).size _).size) ?_; intro v1 w1 own1 hg1 hat1; rw [Nat.zero_add, List.nil_append] at own1; have b1 : Below w4.heap.size w4 w1 := ((Below.refl _ _).alloc (Nat.le_refl _) _).grown hg1 (by simp) (fun j hj => by cases hj; simp); have f1 : ∀ bb ∈ blk v1, w4.heap.size ≤ bb := f1_of hat1 (by simp) (by simp); obtain ⟨A1, c1, rfl, _⟩ := own_lists own1)
    | (at_builtin; refine wpList_append_src _ rfl (.tmp 231) (.tmp 232) 22 rfl p 3 i0 (.int .i64 0) 1 8 Try.underlying22 hi hz0 hz1 hz2 rfl (by decide) (.slice A1 (m) c1) (m) (intCells low) rfl (own1) w1.heap.size none (0) 0 (intCells ([] : List Int)) (by rfl) (Lists.empty _ _ _) (by rw [intCells_len, Nat.mul_one]; rfl) (intCells_oneS _) hM3.out hM4.out (Nat.le_trans hp0 (Nat.le_trans (hS).size b1.size)) ?_; intro v2 w2 own2 hg2 hat2; have o2 : Only w1 w2 (blk (.slice A1 (m) c1)) := (Only.refl _ _).grown hg2 (fun b hb => .inl (by simp [blk, hb])); obtain ⟨A2, c2, rfl, _⟩ := own_lists own2; have b12 := (b1).trans (o2.to_below (b1).size f1); have hb2 := ((HBT)).below b12; have z2 := hb2.cell 0; rw [rk_c0] at z2; have y2 := hb2.frozen 0))
  go_ret
  have P := (HS.out.below hS).put (L2 := low ++ []) b12 (by rw [List.length_append, intCells_app, ← HM.out]; exact own2) ?_ ?_ ?_
  · first | exact ⟨rfl, _, P.1, (RMod.below hS).trans P.2⟩ | (rw [List.append_nil] at P; exact ⟨rfl, _, P.1, (RMod.below hS).trans P.2⟩)
  · intro b hb
    right
    rcases hat2 with e | e
    · exact f1 b (by unfold blk at hb ⊢; rw [e] at hb; exact hb)
    · have := b1.size; unfold blk at hb; rw [e] at hb; simp at hb; rw [hb]; exact this
  · try clear u1 u2 u3
    clear t1
    try have h48 := H48.out
    rw [List.length_append, ← HM.out]; simp; omega
  · intro y hy
    rcases List.mem_append.1 hy with h1 | h1
    · exact HMAY.out y (by simp [h1])
    · simp at h1
end Go.Proofs.Ytkhafhdmcalhbaa
