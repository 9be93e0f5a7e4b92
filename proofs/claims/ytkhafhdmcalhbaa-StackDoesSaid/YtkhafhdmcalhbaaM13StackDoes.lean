/- Part 14 of the proof: StR9. -/
import Derived.Test.YtkhafhdmcalhbaaM12StackDoes

namespace Go.Proofs.Ytkhafhdmcalhbaa
open Go Go.RowKit
set_option linter.unusedVariables false
set_option linter.unusedSimpArgs false
set_option maxRecDepth 100000 in
set_option maxHeartbeats 4000000 in
theorem rd_drop (p : Nat) (lv : Value) (low St D : List Int) (u : Nat) (a : Int) (w : World) (h : Rk w p lv (low ++ [a]) St D u) :
    Calls Try.prog 15 #[.pointer (some ⟨p, 0, none⟩), .int .i64 18] w (RDid p lv w (0) (low) St D u) := by
  obtain ⟨i0, hi, hz0, hz1, hz2⟩ := info_partsS infoS
  obtain ⟨A, c, hb, hls⟩ := h.blk
  have c0 := hb.cell 0
  rw [rk_c0] at c0
  have f0 := hb.frozen 0
  obtain ⟨A0, n0, rfl, hl0, hn0⟩ := own_lists h.own
  have HS := Lib.hid h
  obtain ⟨m, hm⟩ : ∃ m, m = (low).length := ⟨_, rfl⟩
  have hlen : (low ++ [a]).length = m + 1 := by rw [List.length_append, ← hm]; rfl
  rw [hlen] at c0 hn0
  have h48 : m + 1 ≤ 48 := by rw [← hlen]; exact h.len
  have hM1 := Lib.hid (show 0 + m ≤ maxLen by simp only [maxLen]; omega)
  have hM2 := Lib.hid (show (0 + m) * 8 ≤ 140737488355328 by omega)
  have hp := h.lt
  have hmaya := h.may
  obtain ⟨g, rfl⟩ : ∃ g, A0 = some ⟨g, 0, none⟩ := by
    rcases h.own.2 with ⟨_, h2⟩ | ⟨g, _, _, h1, _⟩
    · rw [hlen] at h2; omega
    · cases h1; exact ⟨g, rfl⟩
  have hgl : g < w.heap.size := blk_lt h.own g (by simp [blk, Value.ownBlock])
  have cx0 : w.cell? ⟨g, m, none⟩ = some (.int .i64 a) := by
    have h1 := hl0.cell _ rfl (m) (.int .i64 a) (by rw [intCells_app, List.getElem?_append_right (by rw [intCells_len]; omega), intCells_len, ← hm]; simp [intCells])
    rwa [addr_plain, Nat.zero_add] at h1
  have CX0 : ∀ V, Below w.heap.size w V → V.cell? ⟨g, m, none⟩ = some (.int .i64 a) := fun V hV => (hV.cell (p := ⟨g, m, none⟩) hgl).trans cx0
  have C0 : ∀ V, Below w.heap.size w V → V.cell? ⟨p, 0, none⟩ = some (.slice (some ⟨g, 0, none⟩) (m + 1) n0) := fun V hV => (hV.cell (p := ⟨p, 0, none⟩) hp).trans c0
  have SU := fun W => slice_up (some ⟨g, 0, none⟩) (m + 1) n0 m (by omega) W
  have SO : ∀ W, (Instr.sliceAt 22 (.slice (some ⟨g, 0, none⟩) (m + 1) n0) (some (.int .i64 (m : Nat))) none none).run Try.prog W = .ok (.slice (some ⟨g, m, none⟩) 1 (n0 - m)) W := fun W => by
    have h := slice_okI (some ⟨g, 0, none⟩) (m + 1) n0 m (by omega) (by omega) W
    rwa [if_neg (by omega), show (some (⟨g, 0, none⟩ : Addr)).map (·.add m) = some ⟨g, m, none⟩ by simp [addr_plain], Nat.add_sub_cancel_left] at h
  have HLOW := Lib.hid (show Lists w w.heap.size (some ⟨g, 0, none⟩) (intCells (low)) by
    rw [show intCells (low) = (intCells (low ++ [a])).take m by rw [intCells_app (low) [a], List.take_left' (by rw [intCells_len]; exact hm.symm)]]
    exact lists_takeF hl0 m)
  have d1 : decide ((m : Int) < 0) = false := by simp
  have HM := Lib.hid hm
  have hp0 : p ≤ w.heap.size := Nat.le_of_lt hp
  have hM3 := Lib.hid (show m + 0 ≤ maxLen by simp only [maxLen]; omega)
  have hM4 := Lib.hid (show (m + 0) * 8 ≤ 140737488355328 by omega)
  have T1 := Lib.hid (show wrap64 ((m : Int)) = (m : Int) from w64s _ _ (by omega) (by omega) (by omega))
  have t2 : decide ((m : Int) > 48) = false := by simp; omega
  have t3 : decide (48 < (m : Int)) = false := by simp; omega
  have E0 := Lib.hid (show IntKind.i64.wrap ((m : Int) + 1 - 1) = (m : Int) from wIs _ _ (by omega) (by omega) (by omega))
  have E1 := Lib.hid (show wrap64 ((m : Int) + 1 - 1) = (m : Int) from w64s _ _ (by omega) (by omega) (by omega))
  have E2 := Lib.hid (show IntKind.i64.wrap (m : Int) = (m : Int) from wIs _ _ (by omega) (by omega) (by omega))
  have E3 := Lib.hid (show wrap64 (m : Int) = (m : Int) from w64s _ _ (by omega) (by omega) (by omega))
  clear hls hl0 h hlen hm
  have HMAY := Lib.hid hmaya
  clear hmaya
  have CPL := fun W => plain_drop a a W
  have e0 := E0.out
  have e1 := E1.out
  have e2 := E2.out
  have e3 := E3.out
  clear E0 E1 E2 E3
  go_enter Try.func15, Try.ntmps15
  go_wp2_with (go_at_call 28; ((with_reducible refine (need_drop _).mono ?_); rintro e w9 ⟨rfl, rfl⟩))
  have hI : Below w.heap.size w w.drew := (Below.refl _ _).drew
  refine wp_region_chain (fun V => Below w.heap.size w V) [(0, false), (1, false), (2, false), (3, false), (4, false), (5, false), (6, false), (7, false), (8, false), (9, false), (10, false), (11, false), (12, false), (13, false)] (by kernel_rfl) (by kernel_rfl) hI ?_
  repeat (first
    | (refine ChainL.skip (o := ?_) ?_ ?_ ?_; rotate_left; (focus (first | (simp only [List.getElem?_toArray, List.getElem?_cons_succ, List.getElem?_cons_zero]; with_reducible rfl) | (simp only [List.getElem?_toArray, List.getElem?_cons_zero]; with_reducible rfl))); (focus rfl); simp only [Act.put, List.setIfInBounds_toArray, List.set_cons_zero, List.set_cons_succ])
    | (refine ChainL.val (o := ?_) (v := ?_) ?_ ?_ ?_ ?_ ?_; rotate_left 2; (focus (first | (simp only [List.getElem?_toArray, List.getElem?_cons_succ, List.getElem?_cons_zero]; with_reducible rfl) | (simp only [List.getElem?_toArray, List.getElem?_cons_zero]; with_reducible rfl))); (focus (intro _ _ h; cases h)); (focus rfl); (focus (intro w' hJ; have y0 := C0 _ hJ; go_simp <;> with_reducible rfl)); simp only [Act.put, List.setIfInBounds_toArray, List.set_cons_zero, List.set_cons_succ]))
  refine ChainL.nil ?_
  go_wp2
  have hI2 : Below w.heap.size w w.drew.drew := hI.drew
  have wk : IntKind.i64.wrap 0 = 0 := by kernel_rfl
  have wk2 : IntKind.i64.wrap (1 - 1) = 0 := by kernel_rfl
  refine wp_region_chain (fun V => Below w.heap.size w V) [(0, false), (1, false), (2, false), (3, false), (4, false), (5, false), (6, false), (7, false), (8, false), (9, true), (10, false), (11, false), (12, false), (13, false), (14, false), (15, false), (16, false)] (by kernel_rfl) (by kernel_rfl) hI2 ?_
  repeat (first
    | (refine ChainL.skip (o := ?_) ?_ ?_ ?_; rotate_left; (focus (first | (simp only [List.getElem?_toArray, List.getElem?_cons_succ, List.getElem?_cons_zero]; with_reducible rfl) | (simp only [List.getElem?_toArray, List.getElem?_cons_zero]; with_reducible rfl))); (focus rfl); simp only [Act.put, List.setIfInBounds_toArray, List.set_cons_zero, List.set_cons_succ])
    | (refine ChainL.val (o := ?_) (v := ?_) ?_ ?_ ?_ ?_ ?_; rotate_left 2; (focus (first | (simp only [List.getElem?_toArray, List.getElem?_cons_succ, List.getElem?_cons_zero]; with_reducible rfl) | (simp only [List.getElem?_toArray, List.getElem?_cons_zero]; with_reducible rfl))); (focus (intro _ _ h; cases h)); (focus rfl); (focus (intro w' hJ; have y0 := C0 _ hJ; have x0 := CX0 _ hJ; go_simp <;> with_reducible rfl)); simp only [Act.put, List.setIfInBounds_toArray, List.set_cons_zero, List.set_cons_succ]))
  refine ChainL.call (o := ?_) (f := ?_) (args := ?_) ?_ ?_ ?_ ?_
  rotate_left 3
  (focus (first | (simp only [List.getElem?_toArray, List.getElem?_cons_succ, List.getElem?_cons_zero]; with_reducible rfl) | (simp only [List.getElem?_toArray, List.getElem?_cons_zero]; with_reducible rfl)))
  (focus rfl)
  (focus (go_simp; (constructor <;> with_reducible rfl)))
  refine (CPL _).mono ?_
  rintro e w8 ⟨rfl, rfl⟩
  refine ⟨_, rfl, hI2, ?_⟩
  simp only [Act.put, List.setIfInBounds_toArray, List.set_cons_zero, List.set_cons_succ]
  repeat (first
    | (refine ChainL.skip (o := ?_) ?_ ?_ ?_; rotate_left; (focus (first | (simp only [List.getElem?_toArray, List.getElem?_cons_succ, List.getElem?_cons_zero]; with_reducible rfl) | (simp only [List.getElem?_toArray, List.getElem?_cons_zero]; with_reducible rfl))); (focus rfl); simp only [Act.put, List.setIfInBounds_toArray, List.set_cons_zero, List.set_cons_succ])
    | (refine ChainL.val (o := ?_) (v := ?_) ?_ ?_ ?_ ?_ ?_; rotate_left 2; (focus (first | (simp only [List.getElem?_toArray, List.getElem?_cons_succ, List.getElem?_cons_zero]; with_reducible rfl) | (simp only [List.getElem?_toArray, List.getElem?_cons_zero]; with_reducible rfl))); (focus (intro _ _ h; cases h)); (focus rfl); (focus (intro w' hJ; skip; go_simp <;> with_reducible rfl)); simp only [Act.put, List.setIfInBounds_toArray, List.set_cons_zero, List.set_cons_succ]))
  refine ChainL.nil ?_
  obtain ⟨w3, hw3⟩ : ∃ w3, w3 = w.drew.drew := ⟨_, rfl⟩
  rw [← hw3] at hI2 ⊢
  clear hw3
  have HBT := hb.below hI2
  clear e0 e1 e2 e3 wk wk2
  have t1 := T1.out
  go_wp2_with (first
    | (at_builtin; refine wpList_append_src _ rfl (.tmp 229) (.tmp 230) 22 rfl p 3 i0 (.int .i64 0) 1 8 Try.underlying22 hi hz0 hz1 hz2 rfl (by decide) (.slice (some ⟨w3.heap.size, 0, none⟩) 0 0) 0 [] rfl (own_made_at p w3 (w3.heap.size) (by simp) (Nat.le_trans hp0 (hI2).size)) w3.heap.size (some ⟨g, 0, none⟩) (m) n0 (intCells low) (by rfl) ((HLOW.out.below ((hI2).alloc (hI2).size _)).more (hI2).size) (by rw [intCells_len, Nat.mul_one]; exact HM.out.symm) (intCells_oneS _) hM1.out hM2.out (Nat.le_trans hp0 ((hI2).alloc (hI2).size _).size) ?_; intro v1 w1 own1 hg1 hat1; rw [Nat.zero_add, List.nil_append] at own1; have b1 : Below w3.heap.size w3 w1 := ((Below.refl _ _).alloc (Nat.le_refl _) _).grown hg1 (by simp) (fun j hj => by cases hj; simp); have f1 : ∀ bb ∈ blk v1, w3.heap.size ≤ bb := f1_of hat1 (by simp) (by simp); obtain ⟨A1, c1, rfl, _⟩ := own_lists own1)
    | (at_builtin; refine wpList_append_src _ rfl (.tmp 231) (.tmp 232) 22 rfl p 3 i0 (.int .i64 0) 1 8 Try.underlying22 hi hz0 hz1 hz2 rfl (by decide) (.slice A1 (m) c1) (m) (intCells low) rfl (own1) w1.heap.size none (0) 0 (intCells ([] : List Int)) (by rfl) (Lists.empty _ _ _) (by rw [intCells_len, Nat.mul_one]; rfl) (intCells_oneS _) hM3.out hM4.out (Nat.le_trans hp0 (Nat.le_trans (hI2).size b1.size)) ?_; intro v2 w2 own2 hg2 hat2; have o2 : Only w1 w2 (blk (.slice A1 (m) c1)) := (Only.refl _ _).grown hg2 (fun b hb => .inl (by simp [blk, hb])); obtain ⟨A2, c2, rfl, _⟩ := own_lists own2; have b12 := (b1).trans (o2.to_below (b1).size f1); have hb2 := ((HBT)).below b12; have z2 := hb2.cell 0; rw [rk_c0] at z2; have y2 := hb2.frozen 0))
  go_ret
  have P := (HS.out.below hI2).put (L2 := low ++ []) b12 (by rw [List.length_append, intCells_app, ← HM.out]; exact own2) ?_ ?_ ?_
  · first | exact ⟨rfl, _, P.1, (RMod.below hI2).trans P.2⟩ | (rw [List.append_nil] at P; exact ⟨rfl, _, P.1, (RMod.below hI2).trans P.2⟩)
  · intro b hb
    right
    rcases hat2 with e | e
    · exact f1 b (by unfold blk at hb ⊢; rw [e] at hb; exact hb)
    · have := b1.size; unfold blk at hb; rw [e] at hb; simp at hb; rw [hb]; exact this
  · try clear u1 u2 u3
    clear t1
    try have h48 := H48.out
    rw [List.length_append, ← HM.out]; simp; omega
  · intro y hy
    rcases List.mem_append.1 hy with h1 | h1
    · exact HMAY.out y (by simp [h1])
    · simp at h1
set_option maxRecDepth 100000 in
set_option maxHeartbeats 4000000 in
theorem rd_dup (p : Nat) (lv : Value) (low St D : List Int) (u : Nat) (a : Int) (w : World) (h : Rk w p lv (low ++ [a]) St D u) (hf : low.length + 2 ≤ 48) :
    Calls Try.prog 15 #[.pointer (some ⟨p, 0, none⟩), .int .i64 27] w (RDid p lv w (0) (low ++ [a, a]) St D u) := by
  obtain ⟨i0, hi, hz0, hz1, hz2⟩ := info_partsS infoS
  obtain ⟨A, c, hb, hls⟩ := h.blk
  have c0 := hb.cell 0
  rw [rk_c0] at c0
  have f0 := hb.frozen 0
  obtain ⟨A0, n0, rfl, hl0, hn0⟩ := own_lists h.own
  have HS := Lib.hid h
  obtain ⟨m, hm⟩ : ∃ m, m = (low).length := ⟨_, rfl⟩
  have hlen : (low ++ [a]).length = m + 1 := by rw [List.length_append, ← hm]; rfl
  rw [hlen] at c0 hn0
  have h48 : m + 1 ≤ 48 := by rw [← hlen]; exact h.len
  have hM1 := Lib.hid (show 0 + m ≤ maxLen by simp only [maxLen]; omega)
  have hM2 := Lib.hid (show (0 + m) * 8 ≤ 140737488355328 by omega)
  have hp := h.lt
  have hmaya := h.may
  obtain ⟨g, rfl⟩ : ∃ g, A0 = some ⟨g, 0, none⟩ := by
    rcases h.own.2 with ⟨_, h2⟩ | ⟨g, _, _, h1, _⟩
    · rw [hlen] at h2; omega
    · cases h1; exact ⟨g, rfl⟩
  have hgl : g < w.heap.size := blk_lt h.own g (by simp [blk, Value.ownBlock])
  have cx0 : w.cell? ⟨g, m, none⟩ = some (.int .i64 a) := by
    have h1 := hl0.cell _ rfl (m) (.int .i64 a) (by rw [intCells_app, List.getElem?_append_right (by rw [intCells_len]; omega), intCells_len, ← hm]; simp [intCells])
    rwa [addr_plain, Nat.zero_add] at h1
  have CX0 : ∀ V, Below w.heap.size w V → V.cell? ⟨g, m, none⟩ = some (.int .i64 a) := fun V hV => (hV.cell (p := ⟨g, m, none⟩) hgl).trans cx0
  have C0 : ∀ V, Below w.heap.size w V → V.cell? ⟨p, 0, none⟩ = some (.slice (some ⟨g, 0, none⟩) (m + 1) n0) := fun V hV => (hV.cell (p := ⟨p, 0, none⟩) hp).trans c0
  have SU := fun W => slice_up (some ⟨g, 0, none⟩) (m + 1) n0 m (by omega) W
  have SO : ∀ W, (Instr.sliceAt 22 (.slice (some ⟨g, 0, none⟩) (m + 1) n0) (some (.int .i64 (m : Nat))) none none).run Try.prog W = .ok (.slice (some ⟨g, m, none⟩) 1 (n0 - m)) W := fun W => by
    have h := slice_okI (some ⟨g, 0, none⟩) (m + 1) n0 m (by omega) (by omega) W
    rwa [if_neg (by omega), show (some (⟨g, 0, none⟩ : Addr)).map (·.add m) = some ⟨g, m, none⟩ by simp [addr_plain], Nat.add_sub_cancel_left] at h
  have HLOW := Lib.hid (show Lists w w.heap.size (some ⟨g, 0, none⟩) (intCells (low)) by
    rw [show intCells (low) = (intCells (low ++ [a])).take m by rw [intCells_app (low) [a], List.take_left' (by rw [intCells_len]; exact hm.symm)]]
    exact lists_takeF hl0 m)
  have d1 : decide ((m : Int) < 0) = false := by simp
  have HM := Lib.hid hm
  have hp0 : p ≤ w.heap.size := Nat.le_of_lt hp
  rw [← hm] at hf
  have hM3 := Lib.hid (show m + 2 ≤ maxLen by simp only [maxLen]; omega)
  have hM4 := Lib.hid (show (m + 2) * 8 ≤ 140737488355328 by omega)
  have T1 := Lib.hid (show wrap64 ((m : Int) + 2) = (m : Int) + 2 from w64s _ _ (by omega) (by omega) (by omega))
  have t2 : decide ((m : Int) + 2 > 48) = false := by simp; omega
  have t3 : decide (48 < (m : Int) + 2) = false := by simp; omega
  have E0 := Lib.hid (show IntKind.i64.wrap ((m : Int) + 1 - 1) = (m : Int) from wIs _ _ (by omega) (by omega) (by omega))
  have E1 := Lib.hid (show wrap64 ((m : Int) + 1 - 1) = (m : Int) from w64s _ _ (by omega) (by omega) (by omega))
  have E2 := Lib.hid (show IntKind.i64.wrap (m : Int) = (m : Int) from wIs _ _ (by omega) (by omega) (by omega))
  have E3 := Lib.hid (show wrap64 (m : Int) = (m : Int) from w64s _ _ (by omega) (by omega) (by omega))
  clear hls hl0 h hlen hm
  have HMAY := Lib.hid hmaya
  clear hmaya
  have HXa := Lib.hid (HMAY.out a (by simp))
  have CPL := fun W => plain_dup a a W
  have e0 := E0.out
  have e1 := E1.out
  have e2 := E2.out
  have e3 := E3.out
  clear E0 E1 E2 E3
  go_enter Try.func15, Try.ntmps15
  go_wp2_with (go_at_call 28; ((with_reducible refine (need_dup _).mono ?_); rintro e w9 ⟨rfl, rfl⟩))
  have hI : Below w.heap.size w w.drew := (Below.refl _ _).drew
  refine wp_region_chain (fun V => Below w.heap.size w V) [(0, false), (1, false), (2, false), (3, false), (4, false), (5, false), (6, false), (7, false), (8, false), (9, false), (10, false), (11, false), (12, false), (13, false)] (by kernel_rfl) (by kernel_rfl) hI ?_
  repeat (first
    | (refine ChainL.skip (o := ?_) ?_ ?_ ?_; rotate_left; (focus (first | (simp only [List.getElem?_toArray, List.getElem?_cons_succ, List.getElem?_cons_zero]; with_reducible rfl) | (simp only [List.getElem?_toArray, List.getElem?_cons_zero]; with_reducible rfl))); (focus rfl); simp only [Act.put, List.setIfInBounds_toArray, List.set_cons_zero, List.set_cons_succ])
    | (refine ChainL.val (o := ?_) (v := ?_) ?_ ?_ ?_ ?_ ?_; rotate_left 2; (focus (first | (simp only [List.getElem?_toArray, List.getElem?_cons_succ, List.getElem?_cons_zero]; with_reducible rfl) | (simp only [List.getElem?_toArray, List.getElem?_cons_zero]; with_reducible rfl))); (focus (intro _ _ h; cases h)); (focus rfl); (focus (intro w' hJ; have y0 := C0 _ hJ; go_simp <;> with_reducible rfl)); simp only [Act.put, List.setIfInBounds_toArray, List.set_cons_zero, List.set_cons_succ]))
  refine ChainL.nil ?_
  go_wp2
  have hI2 : Below w.heap.size w w.drew.drew := hI.drew
  have wk : IntKind.i64.wrap 0 = 0 := by kernel_rfl
  have wk2 : IntKind.i64.wrap (1 - 1) = 0 := by kernel_rfl
  refine wp_region_chain (fun V => Below w.heap.size w V) [(0, false), (1, false), (2, false), (3, false), (4, false), (5, false), (6, false), (7, false), (8, false), (9, true), (10, false), (11, false), (12, false), (13, false), (14, false), (15, false), (16, false)] (by kernel_rfl) (by kernel_rfl) hI2 ?_
  repeat (first
    | (refine ChainL.skip (o := ?_) ?_ ?_ ?_; rotate_left; (focus (first | (simp only [List.getElem?_toArray, List.getElem?_cons_succ, List.getElem?_cons_zero]; with_reducible rfl) | (simp only [List.getElem?_toArray, List.getElem?_cons_zero]; with_reducible rfl))); (focus rfl); simp only [Act.put, List.setIfInBounds_toArray, List.set_cons_zero, List.set_cons_succ])
    | (refine ChainL.val (o := ?_) (v := ?_) ?_ ?_ ?_ ?_ ?_; rotate_left 2; (focus (first | (simp only [List.getElem?_toArray, List.getElem?_cons_succ, List.getElem?_cons_zero]; with_reducible rfl) | (simp only [List.getElem?_toArray, List.getElem?_cons_zero]; with_reducible rfl))); (focus (intro _ _ h; cases h)); (focus rfl); (focus (intro w' hJ; have y0 := C0 _ hJ; have x0 := CX0 _ hJ; go_simp <;> with_reducible rfl)); simp only [Act.put, List.setIfInBounds_toArray, List.set_cons_zero, List.set_cons_succ]))
  refine ChainL.call (o := ?_) (f := ?_) (args := ?_) ?_ ?_ ?_ ?_
  rotate_left 3
  (focus (first | (simp only [List.getElem?_toArray, List.getElem?_cons_succ, List.getElem?_cons_zero]; with_reducible rfl) | (simp only [List.getElem?_toArray, List.getElem?_cons_zero]; with_reducible rfl)))
  (focus rfl)
  (focus (go_simp; (constructor <;> with_reducible rfl)))
  refine (CPL _).mono ?_
  rintro e w8 ⟨rfl, rfl⟩
  refine ⟨_, rfl, hI2, ?_⟩
  simp only [Act.put, List.setIfInBounds_toArray, List.set_cons_zero, List.set_cons_succ]
  repeat (first
    | (refine ChainL.skip (o := ?_) ?_ ?_ ?_; rotate_left; (focus (first | (simp only [List.getElem?_toArray, List.getElem?_cons_succ, List.getElem?_cons_zero]; with_reducible rfl) | (simp only [List.getElem?_toArray, List.getElem?_cons_zero]; with_reducible rfl))); (focus rfl); simp only [Act.put, List.setIfInBounds_toArray, List.set_cons_zero, List.set_cons_succ])
    | (refine ChainL.val (o := ?_) (v := ?_) ?_ ?_ ?_ ?_ ?_; rotate_left 2; (focus (first | (simp only [List.getElem?_toArray, List.getElem?_cons_succ, List.getElem?_cons_zero]; with_reducible rfl) | (simp only [List.getElem?_toArray, List.getElem?_cons_zero]; with_reducible rfl))); (focus (intro _ _ h; cases h)); (focus rfl); (focus (intro w' hJ; skip; go_simp <;> with_reducible rfl)); simp only [Act.put, List.setIfInBounds_toArray, List.set_cons_zero, List.set_cons_succ]))
  refine ChainL.nil ?_
  go_wp2
  have hI3 : Below w.heap.size w w.drew.drew.drew := hI2.drew
  obtain ⟨w3, hw3⟩ : ∃ w3, w3 = w.drew.drew.drew := ⟨_, rfl⟩
  refine wp_region_chain (fun V => Below w.heap.size w V) [(0, false), (1, false), (2, false), (3, false), (4, false), (5, false), (6, true), (7, false)] (by kernel_rfl) (by kernel_rfl) hI3 ?_
  rw [← hw3]
  rw [← hw3] at hI3
  clear hw3
  repeat (first
    | (refine ChainL.skip (o := ?_) ?_ ?_ ?_; rotate_left; (focus (first | (simp only [List.getElem?_toArray, List.getElem?_cons_succ, List.getElem?_cons_zero]; with_reducible rfl) | (simp only [List.getElem?_toArray, List.getElem?_cons_zero]; with_reducible rfl))); (focus rfl); simp only [Act.put, List.setIfInBounds_toArray, List.set_cons_zero, List.set_cons_succ])
    | (refine ChainL.val (o := ?_) (v := ?_) ?_ ?_ ?_ ?_ ?_; rotate_left 2; (focus (first | (simp only [List.getElem?_toArray, List.getElem?_cons_succ, List.getElem?_cons_zero]; with_reducible rfl) | (simp only [List.getElem?_toArray, List.getElem?_cons_zero]; with_reducible rfl))); (focus (intro _ _ h; cases h)); (focus rfl); (focus (intro w' hJ; have y0 := C0 _ hJ; have x0 := CX0 _ hJ; go_simp <;> with_reducible rfl)); simp only [Act.put, List.setIfInBounds_toArray, List.set_cons_zero, List.set_cons_succ]))
  refine ChainL.does (o := ?_) (v := ?_) (w1 := ?_) ?_ ?_ ?_ ?_ ?_
  rotate_left 3
  (focus (first | (simp only [List.getElem?_toArray, List.getElem?_cons_succ, List.getElem?_cons_zero]; with_reducible rfl) | (simp only [List.getElem?_toArray, List.getElem?_cons_zero]; with_reducible rfl)))
  (focus rfl)
  (focus (go_simp; (constructor <;> with_reducible rfl)))
  (focus (exact hI3.alloc hI3.size _))
  simp only [Act.put, List.setIfInBounds_toArray, List.set_cons_zero, List.set_cons_succ]
  repeat (first
    | (refine ChainL.skip (o := ?_) ?_ ?_ ?_; rotate_left; (focus (first | (simp only [List.getElem?_toArray, List.getElem?_cons_succ, List.getElem?_cons_zero]; with_reducible rfl) | (simp only [List.getElem?_toArray, List.getElem?_cons_zero]; with_reducible rfl))); (focus rfl); simp only [Act.put, List.setIfInBounds_toArray, List.set_cons_zero, List.set_cons_succ])
    | (refine ChainL.val (o := ?_) (v := ?_) ?_ ?_ ?_ ?_ ?_; rotate_left 2; (focus (first | (simp only [List.getElem?_toArray, List.getElem?_cons_succ, List.getElem?_cons_zero]; with_reducible rfl) | (simp only [List.getElem?_toArray, List.getElem?_cons_zero]; with_reducible rfl))); (focus (intro _ _ h; cases h)); (focus rfl); (focus (intro w' hJ; skip; go_simp <;> with_reducible rfl)); simp only [Act.put, List.setIfInBounds_toArray, List.set_cons_zero, List.set_cons_succ]))
  refine ChainL.nil ?_
  have HOUT := Lib.hid ((lists_row w3 [.int .i64 a, .int .i64 a] 3).more (show w3.heap.size + 1 ≤ (w3.alloc (.cells #[.int .i64 a, .int .i64 a] 3)).heap.size by simp))
  have HBT := hb.below (hI3.alloc hI3.size (.cells #[.int .i64 a, .int .i64 a] 3))
  clear e0 e1 e2 e3 wk wk2
  have t1 := T1.out
  go_wp2_with (first
    | (at_builtin; refine wpList_append_src _ rfl (.tmp 229) (.tmp 230) 22 rfl p 3 i0 (.int .i64 0) 1 8 Try.underlying22 hi hz0 hz1 hz2 rfl (by decide) (.slice (some ⟨w3.heap.size + 1, 0, none⟩) 0 0) 0 [] rfl (own_made_at p (w3.alloc (.cells #[.int .i64 a, .int .i64 a] 3)) (w3.heap.size + 1) (by simp) (Nat.le_trans hp0 ((hI3.alloc hI3.size (.cells #[.int .i64 a, .int .i64 a] 3))).size)) (w3.alloc (.cells #[.int .i64 a, .int .i64 a] 3)).heap.size (some ⟨g, 0, none⟩) (m) n0 (intCells low) (by rfl) ((HLOW.out.below (((hI3.alloc hI3.size (.cells #[.int .i64 a, .int .i64 a] 3))).alloc ((hI3.alloc hI3.size (.cells #[.int .i64 a, .int .i64 a] 3))).size _)).more ((hI3.alloc hI3.size (.cells #[.int .i64 a, .int .i64 a] 3))).size) (by rw [intCells_len, Nat.mul_one]; exact HM.out.symm) (intCells_oneS _) hM1.out hM2.out (Nat.le_trans hp0 (((hI3.alloc hI3.size (.cells #[.int .i64 a, .int .i64 a] 3))).alloc ((hI3.alloc hI3.size (.cells #[.int .i64 a, .int .i64 a] 3))).size _).size) ?_; intro v1 w1 own1 hg1 hat1; rw [Nat.zero_add, List.nil_append] at own1; have b1 : Below (w3.alloc (.cells #[.int .i64 a, .int .i64 a] 3)).heap.size (w3.alloc (.cells #[.int .i64 a, .int .i64 a] 3)) w1 := ((Below.refl _ _).alloc (Nat.le_refl _) _).grown hg1 (by simp) (fun j hj => by cases hj; simp); have f1 : ∀ bb ∈ blk v1, (w3.alloc (.cells #[.int .i64 a, .int .i64 a] 3)).heap.size ≤ bb := f1_of hat1 (by simp) (by simp); obtain ⟨A1, c1, rfl, _⟩ := own_lists own1)
    | (at_builtin; refine wpList_append_src _ rfl (.tmp 231) (.tmp 232) 22 rfl p 3 i0 (.int .i64 0) 1 8 Try.underlying22 hi hz0 hz1 hz2 rfl (by decide) (.slice A1 (m) c1) (m) (intCells low) rfl (own1) w1.heap.size (some ⟨w3.heap.size, 0, none⟩) (2) 2 (intCells [a, a]) (by rfl) ((HOUT.out.below b1).more b1.size) (by rw [intCells_len, Nat.mul_one]; rfl) (intCells_oneS _) hM3.out hM4.out (Nat.le_trans hp0 (Nat.le_trans ((hI3.alloc hI3.size (.cells #[.int .i64 a, .int .i64 a] 3))).size b1.size)) ?_; intro v2 w2 own2 hg2 hat2; have o2 : Only w1 w2 (blk (.slice A1 (m) c1)) := (Only.refl _ _).grown hg2 (fun b hb => .inl (by simp [blk, hb])); obtain ⟨A2, c2, rfl, _⟩ := own_lists own2; have b12 := (b1).trans (o2.to_below (b1).size f1); have hb2 := ((HBT)).below b12; have z2 := hb2.cell 0; rw [rk_c0] at z2; have y2 := hb2.frozen 0))
  go_ret
  have P := (HS.out.below (hI3.alloc hI3.size (.cells #[.int .i64 a, .int .i64 a] 3))).put (L2 := low ++ [a, a]) b12 (by rw [List.length_append, intCells_app, ← HM.out]; exact own2) ?_ ?_ ?_
  · first | exact ⟨rfl, _, P.1, (RMod.below (hI3.alloc hI3.size (.cells #[.int .i64 a, .int .i64 a] 3))).trans P.2⟩ | (rw [List.append_nil] at P; exact ⟨rfl, _, P.1, (RMod.below (hI3.alloc hI3.size (.cells #[.int .i64 a, .int .i64 a] 3))).trans P.2⟩)
  · intro b hb
    right
    rcases hat2 with e | e
    · exact f1 b (by unfold blk at hb ⊢; rw [e] at hb; exact hb)
    · have := b1.size; unfold blk at hb; rw [e] at hb; simp at hb; rw [hb]; exact this
  · try clear u1 u2 u3
    clear t1
    try have h48 := H48.out
    rw [List.length_append, ← HM.out]; simp; omega
  · intro y hy
    rcases List.mem_append.1 hy with h1 | h1
    · exact HMAY.out y (by simp [h1])
    · simp at h1; rw [h1]; exact HXa.out
end Go.Proofs.Ytkhafhdmcalhbaa
