/- Part 17 of the proof: StR6, StS. -/
import Derived.Test.YtkhafhdmcalhbaaM15StackDoes

namespace Go.Proofs.Ytkhafhdmcalhbaa
open Go Go.RowKit
set_option linter.unusedVariables false
set_option linter.unusedSimpArgs false
set_option maxRecDepth 100000 in
set_option maxHeartbeats 4000000 in
theorem rd_and (p : Nat) (lv : Value) (low St D : List Int) (u : Nat) (a b : Int) (w : World) (h : Rk w p lv (low ++ [a, b]) St D u) :
    Calls Try.prog 15 #[.pointer (some ⟨p, 0, none⟩), .int .i64 3] w (RDid p lv w (0) (low ++ [flagV (a != 0 && b != 0)]) St D u) := by
  obtain ⟨i0, hi, hz0, hz1, hz2⟩ := info_partsS infoS
  obtain ⟨A, c, hb, hls⟩ := h.blk
  have c0 := hb.cell 0
  rw [rk_c0] at c0
  have f0 := hb.frozen 0
  obtain ⟨A0, n0, rfl, hl0, hn0⟩ := own_lists h.own
  have HS := Lib.hid h
  obtain ⟨m, hm⟩ : ∃ m, m = (low).length := ⟨_, rfl⟩
  have hlen : (low ++ [a, b]).length = m + 2 := by rw [List.length_append, ← hm]; rfl
  rw [hlen] at c0 hn0
  have h48 : m + 2 ≤ 48 := by rw [← hlen]; exact h.len
  have hM1 := Lib.hid (show 0 + m ≤ maxLen by simp only [maxLen]; omega)
  have hM2 := Lib.hid (show (0 + m) * 8 ≤ 140737488355328 by omega)
  have hp := h.lt
  have hmaya := h.may
  obtain ⟨g, rfl⟩ : ∃ g, A0 = some ⟨g, 0, none⟩ := by
    rcases h.own.2 with ⟨_, h2⟩ | ⟨g, _, _, h1, _⟩
    · rw [hlen] at h2; omega
    · cases h1; exact ⟨g, rfl⟩
  have hgl : g < w.heap.size := blk_lt h.own g (by simp [blk, Value.ownBlock])
  have cx0 : w.cell? ⟨g, m, none⟩ = some (.int .i64 a) := by
    have h1 := hl0.cell _ rfl (m) (.int .i64 a) (by rw [intCells_app, List.getElem?_append_right (by rw [intCells_len]; omega), intCells_len, ← hm]; simp [intCells])
    rwa [addr_plain, Nat.zero_add] at h1
  have CX0 : ∀ V, Below w.heap.size w V → V.cell? ⟨g, m, none⟩ = some (.int .i64 a) := fun V hV => (hV.cell (p := ⟨g, m, none⟩) hgl).trans cx0
  have cx1 : w.cell? ⟨g, m + 1, none⟩ = some (.int .i64 b) := by
    have h1 := hl0.cell _ rfl (m + 1) (.int .i64 b) (by rw [intCells_app, List.getElem?_append_right (by rw [intCells_len]; omega), intCells_len, ← hm]; simp [intCells])
    rwa [addr_plain, Nat.zero_add] at h1
  have CX1 : ∀ V, Below w.heap.size w V → V.cell? ⟨g, m + 1, none⟩ = some (.int .i64 b) := fun V hV => (hV.cell (p := ⟨g, m + 1, none⟩) hgl).trans cx1
  have C0 : ∀ V, Below w.heap.size w V → V.cell? ⟨p, 0, none⟩ = some (.slice (some ⟨g, 0, none⟩) (m + 2) n0) := fun V hV => (hV.cell (p := ⟨p, 0, none⟩) hp).trans c0
  have SU := fun W => slice_up (some ⟨g, 0, none⟩) (m + 2) n0 m (by omega) W
  have SO : ∀ W, (Instr.sliceAt 22 (.slice (some ⟨g, 0, none⟩) (m + 2) n0) (some (.int .i64 (m : Nat))) none none).run Try.prog W = .ok (.slice (some ⟨g, m, none⟩) 2 (n0 - m)) W := fun W => by
    have h := slice_okI (some ⟨g, 0, none⟩) (m + 2) n0 m (by omega) (by omega) W
    rwa [if_neg (by omega), show (some (⟨g, 0, none⟩ : Addr)).map (·.add m) = some ⟨g, m, none⟩ by simp [addr_plain], Nat.add_sub_cancel_left] at h
  have HLOW := Lib.hid (show Lists w w.heap.size (some ⟨g, 0, none⟩) (intCells (low)) by
    rw [show intCells (low) = (intCells (low ++ [a, b])).take m by rw [intCells_app (low) [a, b], List.take_left' (by rw [intCells_len]; exact hm.symm)]]
    exact lists_takeF hl0 m)
  have d1 : decide ((m : Int) < 0) = false := by simp
  have HM := Lib.hid hm
  have hp0 : p ≤ w.heap.size := Nat.le_of_lt hp
  have hxm : mayB (flagV (a != 0 && b != 0)) = true := may_flag _
  have hmo : m + 1 ≤ 48 := by omega
  have hM3 := Lib.hid (show m + 1 ≤ maxLen by simp only [maxLen]; omega)
  have hM4 := Lib.hid (show (m + 1) * 8 ≤ 140737488355328 by omega)
  have T1 := Lib.hid (show wrap64 ((m : Int) + 1) = (m : Int) + 1 from w64s _ _ (by omega) (by omega) (by omega))
  have t2 : decide ((m : Int) + 1 > 48) = false := by simp; omega
  have t3 : decide (48 < (m : Int) + 1) = false := by simp; omega
  have E0 := Lib.hid (show IntKind.i64.wrap ((m : Int) + 2 - 2) = (m : Int) from wIs _ _ (by omega) (by omega) (by omega))
  have E1 := Lib.hid (show wrap64 ((m : Int) + 2 - 2) = (m : Int) from w64s _ _ (by omega) (by omega) (by omega))
  have E2 := Lib.hid (show IntKind.i64.wrap (m : Int) = (m : Int) from wIs _ _ (by omega) (by omega) (by omega))
  have E3 := Lib.hid (show wrap64 (m : Int) = (m : Int) from w64s _ _ (by omega) (by omega) (by omega))
  clear hls hl0 h hlen hm
  have CPL := fun W => plain_and a b W
  have HXM := Lib.hid hxm
  have HMAY := Lib.hid hmaya
  clear hmaya
  generalize hgx : flagV (a != 0 && b != 0) = xx at *
  clear hgx hxm
  have e0 := E0.out
  have e1 := E1.out
  have e2 := E2.out
  have e3 := E3.out
  clear E0 E1 E2 E3
  go_enter Try.func15, Try.ntmps15
  go_wp2_with (go_at_call 28; ((with_reducible refine (need_and _).mono ?_); rintro e w9 ⟨rfl, rfl⟩))
  have hI : Below w.heap.size w w.drew := (Below.refl _ _).drew
  refine wp_region_chain (fun V => Below w.heap.size w V) [(0, false), (1, false), (2, false), (3, false), (4, false), (5, false), (6, false), (7, false), (8, false), (9, false), (10, false), (11, false), (12, false), (13, false)] (by kernel_rfl) (by kernel_rfl) hI ?_
  repeat (first
    | (refine ChainL.skip (o := ?_) ?_ ?_ ?_; rotate_left; (focus (first | (simp only [List.getElem?_toArray, List.getElem?_cons_succ, List.getElem?_cons_zero]; with_reducible rfl) | (simp only [List.getElem?_toArray, List.getElem?_cons_zero]; with_reducible rfl))); (focus rfl); simp only [Act.put, List.setIfInBounds_toArray, List.set_cons_zero, List.set_cons_succ])
    | (refine ChainL.val (o := ?_) (v := ?_) ?_ ?_ ?_ ?_ ?_; rotate_left 2; (focus (first | (simp only [List.getElem?_toArray, List.getElem?_cons_succ, List.getElem?_cons_zero]; with_reducible rfl) | (simp only [List.getElem?_toArray, List.getElem?_cons_zero]; with_reducible rfl))); (focus (intro _ _ h; cases h)); (focus rfl); (focus (intro w' hJ; have y0 := C0 _ hJ; go_simp <;> with_reducible rfl)); simp only [Act.put, List.setIfInBounds_toArray, List.set_cons_zero, List.set_cons_succ]))
  refine ChainL.nil ?_
  go_wp2
  have hI2 : Below w.heap.size w w.drew.drew := hI.drew
  have wk : IntKind.i64.wrap 1 = 1 := by kernel_rfl
  have wk2 : IntKind.i64.wrap (2 - 1) = 1 := by kernel_rfl
  refine wp_region_chain (fun V => Below w.heap.size w V) [(0, false), (1, false), (2, false), (3, false), (4, false), (5, false), (6, false), (7, false), (8, false), (9, true), (10, false), (11, false), (12, false), (13, false), (14, false), (15, false), (16, false)] (by kernel_rfl) (by kernel_rfl) hI2 ?_
  repeat (first
    | (refine ChainL.skip (o := ?_) ?_ ?_ ?_; rotate_left; (focus (first | (simp only [List.getElem?_toArray, List.getElem?_cons_succ, List.getElem?_cons_zero]; with_reducible rfl) | (simp only [List.getElem?_toArray, List.getElem?_cons_zero]; with_reducible rfl))); (focus rfl); simp only [Act.put, List.setIfInBounds_toArray, List.set_cons_zero, List.set_cons_succ])
    | (refine ChainL.val (o := ?_) (v := ?_) ?_ ?_ ?_ ?_ ?_; rotate_left 2; (focus (first | (simp only [List.getElem?_toArray, List.getElem?_cons_succ, List.getElem?_cons_zero]; with_reducible rfl) | (simp only [List.getElem?_toArray, List.getElem?_cons_zero]; with_reducible rfl))); (focus (intro _ _ h; cases h)); (focus rfl); (focus (intro w' hJ; have y0 := C0 _ hJ; have x0 := CX0 _ hJ; have x1 := CX1 _ hJ; go_simp <;> with_reducible rfl)); simp only [Act.put, List.setIfInBounds_toArray, List.set_cons_zero, List.set_cons_succ]))
  refine ChainL.call (o := ?_) (f := ?_) (args := ?_) ?_ ?_ ?_ ?_
  rotate_left 3
  (focus (first | (simp only [List.getElem?_toArray, List.getElem?_cons_succ, List.getElem?_cons_zero]; with_reducible rfl) | (simp only [List.getElem?_toArray, List.getElem?_cons_zero]; with_reducible rfl)))
  (focus rfl)
  (focus (go_simp; (constructor <;> with_reducible rfl)))
  refine (CPL _).mono ?_
  rintro e w8 ⟨rfl, rfl⟩
  refine ⟨_, rfl, hI2, ?_⟩
  simp only [Act.put, List.setIfInBounds_toArray, List.set_cons_zero, List.set_cons_succ]
  repeat (first
    | (refine ChainL.skip (o := ?_) ?_ ?_ ?_; rotate_left; (focus (first | (simp only [List.getElem?_toArray, List.getElem?_cons_succ, List.getElem?_cons_zero]; with_reducible rfl) | (simp only [List.getElem?_toArray, List.getElem?_cons_zero]; with_reducible rfl))); (focus rfl); simp only [Act.put, List.setIfInBounds_toArray, List.set_cons_zero, List.set_cons_succ])
    | (refine ChainL.val (o := ?_) (v := ?_) ?_ ?_ ?_ ?_ ?_; rotate_left 2; (focus (first | (simp only [List.getElem?_toArray, List.getElem?_cons_succ, List.getElem?_cons_zero]; with_reducible rfl) | (simp only [List.getElem?_toArray, List.getElem?_cons_zero]; with_reducible rfl))); (focus (intro _ _ h; cases h)); (focus rfl); (focus (intro w' hJ; skip; go_simp <;> with_reducible rfl)); simp only [Act.put, List.setIfInBounds_toArray, List.set_cons_zero, List.set_cons_succ]))
  refine ChainL.nil ?_
  obtain ⟨w3, hw3⟩ : ∃ w3, w3 = w.drew.drew := ⟨_, rfl⟩
  rw [← hw3] at hI2 ⊢
  clear hw3
  have HOUT := Lib.hid ((lists_row w3 [.int .i64 xx] 3).more (show w3.heap.size + 1 ≤ (w3.alloc (.cells #[.int .i64 xx] 3)).heap.size by simp))
  have HBT := hb.below (hI2.alloc hI2.size (.cells #[.int .i64 xx] 3))
  clear e0 e1 e2 e3 wk wk2
  have t1 := T1.out
  go_wp2_with (first
    | (at_builtin; refine wpList_append_src _ rfl (.tmp 229) (.tmp 230) 22 rfl p 3 i0 (.int .i64 0) 1 8 Try.underlying22 hi hz0 hz1 hz2 rfl (by decide) (.slice (some ⟨w3.heap.size + 1, 0, none⟩) 0 0) 0 [] rfl (own_made_at p (w3.alloc (.cells #[.int .i64 xx] 3)) (w3.heap.size + 1) (by simp) (Nat.le_trans hp0 ((hI2.alloc hI2.size (.cells #[.int .i64 xx] 3))).size)) (w3.alloc (.cells #[.int .i64 xx] 3)).heap.size (some ⟨g, 0, none⟩) (m) n0 (intCells low) (by rfl) ((HLOW.out.below (((hI2.alloc hI2.size (.cells #[.int .i64 xx] 3))).alloc ((hI2.alloc hI2.size (.cells #[.int .i64 xx] 3))).size _)).more ((hI2.alloc hI2.size (.cells #[.int .i64 xx] 3))).size) (by rw [intCells_len, Nat.mul_one]; exact HM.out.symm) (intCells_oneS _) hM1.out hM2.out (Nat.le_trans hp0 (((hI2.alloc hI2.size (.cells #[.int .i64 xx] 3))).alloc ((hI2.alloc hI2.size (.cells #[.int .i64 xx] 3))).size _).size) ?_; intro v1 w1 own1 hg1 hat1; rw [Nat.zero_add, List.nil_append] at own1; have b1 : Below (w3.alloc (.cells #[.int .i64 xx] 3)).heap.size (w3.alloc (.cells #[.int .i64 xx] 3)) w1 := ((Below.refl _ _).alloc (Nat.le_refl _) _).grown hg1 (by simp) (fun j hj => by cases hj; simp); have f1 : ∀ bb ∈ blk v1, (w3.alloc (.cells #[.int .i64 xx] 3)).heap.size ≤ bb := f1_of hat1 (by simp) (by simp); obtain ⟨A1, c1, rfl, _⟩ := own_lists own1)
    | (at_builtin; refine wpList_append_src _ rfl (.tmp 231) (.tmp 232) 22 rfl p 3 i0 (.int .i64 0) 1 8 Try.underlying22 hi hz0 hz1 hz2 rfl (by decide) (.slice A1 (m) c1) (m) (intCells low) rfl (own1) w1.heap.size (some ⟨w3.heap.size, 0, none⟩) (1) 1 (intCells [xx]) (by rfl) ((HOUT.out.below b1).more b1.size) (by rw [intCells_len, Nat.mul_one]; rfl) (intCells_oneS _) hM3.out hM4.out (Nat.le_trans hp0 (Nat.le_trans ((hI2.alloc hI2.size (.cells #[.int .i64 xx] 3))).size b1.size)) ?_; intro v2 w2 own2 hg2 hat2; have o2 : Only w1 w2 (blk (.slice A1 (m) c1)) := (Only.refl _ _).grown hg2 (fun b hb => .inl (by simp [blk, hb])); obtain ⟨A2, c2, rfl, _⟩ := own_lists own2; have b12 := (b1).trans (o2.to_below (b1).size f1); have hb2 := ((HBT)).below b12; have z2 := hb2.cell 0; rw [rk_c0] at z2; have y2 := hb2.frozen 0))
  go_ret
  have P := (HS.out.below (hI2.alloc hI2.size (.cells #[.int .i64 xx] 3))).put (L2 := low ++ [xx]) b12 (by rw [List.length_append, intCells_app, ← HM.out]; exact own2) ?_ ?_ ?_
  · exact ⟨rfl, _, P.1, (RMod.below (hI2.alloc hI2.size (.cells #[.int .i64 xx] 3))).trans P.2⟩
  · intro b hb
    right
    rcases hat2 with e | e
    · exact f1 b (by unfold blk at hb ⊢; rw [e] at hb; exact hb)
    · have := b1.size; unfold blk at hb; rw [e] at hb; simp at hb; rw [hb]; exact this
  · clear t1
    rw [List.length_append, ← HM.out]; simp; omega
  · intro y hy
    rcases List.mem_append.1 hy with h1 | h1
    · exact HMAY.out y (by simp [h1])
    · simp at h1; rw [h1]; exact HXM.out
set_option maxRecDepth 100000 in
set_option maxHeartbeats 4000000 in
theorem rd_or (p : Nat) (lv : Value) (low St D : List Int) (u : Nat) (a b : Int) (w : World) (h : Rk w p lv (low ++ [a, b]) St D u) :
    Calls Try.prog 15 #[.pointer (some ⟨p, 0, none⟩), .int .i64 4] w (RDid p lv w (0) (low ++ [flagV (a != 0 || b != 0)]) St D u) := by
  obtain ⟨i0, hi, hz0, hz1, hz2⟩ := info_partsS infoS
  obtain ⟨A, c, hb, hls⟩ := h.blk
  have c0 := hb.cell 0
  rw [rk_c0] at c0
  have f0 := hb.frozen 0
  obtain ⟨A0, n0, rfl, hl0, hn0⟩ := own_lists h.own
  have HS := Lib.hid h
  obtain ⟨m, hm⟩ : ∃ m, m = (low).length := ⟨_, rfl⟩
  have hlen : (low ++ [a, b]).length = m + 2 := by rw [List.length_append, ← hm]; rfl
  rw [hlen] at c0 hn0
  have h48 : m + 2 ≤ 48 := by rw [← hlen]; exact h.len
  have hM1 := Lib.hid (show 0 + m ≤ maxLen by simp only [maxLen]; omega)
  have hM2 := Lib.hid (show (0 + m) * 8 ≤ 140737488355328 by omega)
  have hp := h.lt
  have hmaya := h.may
  obtain ⟨g, rfl⟩ : ∃ g, A0 = some ⟨g, 0, none⟩ := by
    rcases h.own.2 with ⟨_, h2⟩ | ⟨g, _, _, h1, _⟩
    · rw [hlen] at h2; omega
    · cases h1; exact ⟨g, rfl⟩
  have hgl : g < w.heap.size := blk_lt h.own g (by simp [blk, Value.ownBlock])
  have cx0 : w.cell? ⟨g, m, none⟩ = some (.int .i64 a) := by
    have h1 := hl0.cell _ rfl (m) (.int .i64 a) (by rw [intCells_app, List.getElem?_append_right (by rw [intCells_len]; omega), intCells_len, ← hm]; simp [intCells])
    rwa [addr_plain, Nat.zero_add] at h1
  have CX0 : ∀ V, Below w.heap.size w V → V.cell? ⟨g, m, none⟩ = some (.int .i64 a) := fun V hV => (hV.cell (p := ⟨g, m, none⟩) hgl).trans cx0
  have cx1 : w.cell? ⟨g, m + 1, none⟩ = some (.int .i64 b) := by
    have h1 := hl0.cell _ rfl (m + 1) (.int .i64 b) (by rw [intCells_app, List.getElem?_append_right (by rw [intCells_len]; omega), intCells_len, ← hm]; simp [intCells])
    rwa [addr_plain, Nat.zero_add] at h1
  have CX1 : ∀ V, Below w.heap.size w V → V.cell? ⟨g, m + 1, none⟩ = some (.int .i64 b) := fun V hV => (hV.cell (p := ⟨g, m + 1, none⟩) hgl).trans cx1
  have C0 : ∀ V, Below w.heap.size w V → V.cell? ⟨p, 0, none⟩ = some (.slice (some ⟨g, 0, none⟩) (m + 2) n0) := fun V hV => (hV.cell (p := ⟨p, 0, none⟩) hp).trans c0
  have SU := fun W => slice_up (some ⟨g, 0, none⟩) (m + 2) n0 m (by omega) W
  have SO : ∀ W, (Instr.sliceAt 22 (.slice (some ⟨g, 0, none⟩) (m + 2) n0) (some (.int .i64 (m : Nat))) none none).run Try.prog W = .ok (.slice (some ⟨g, m, none⟩) 2 (n0 - m)) W := fun W => by
    have h := slice_okI (some ⟨g, 0, none⟩) (m + 2) n0 m (by omega) (by omega) W
    rwa [if_neg (by omega), show (some (⟨g, 0, none⟩ : Addr)).map (·.add m) = some ⟨g, m, none⟩ by simp [addr_plain], Nat.add_sub_cancel_left] at h
  have HLOW := Lib.hid (show Lists w w.heap.size (some ⟨g, 0, none⟩) (intCells (low)) by
    rw [show intCells (low) = (intCells (low ++ [a, b])).take m by rw [intCells_app (low) [a, b], List.take_left' (by rw [intCells_len]; exact hm.symm)]]
    exact lists_takeF hl0 m)
  have d1 : decide ((m : Int) < 0) = false := by simp
  have HM := Lib.hid hm
  have hp0 : p ≤ w.heap.size := Nat.le_of_lt hp
  have hxm : mayB (flagV (a != 0 || b != 0)) = true := may_flag _
  have hmo : m + 1 ≤ 48 := by omega
  have hM3 := Lib.hid (show m + 1 ≤ maxLen by simp only [maxLen]; omega)
  have hM4 := Lib.hid (show (m + 1) * 8 ≤ 140737488355328 by omega)
  have T1 := Lib.hid (show wrap64 ((m : Int) + 1) = (m : Int) + 1 from w64s _ _ (by omega) (by omega) (by omega))
  have t2 : decide ((m : Int) + 1 > 48) = false := by simp; omega
  have t3 : decide (48 < (m : Int) + 1) = false := by simp; omega
  have E0 := Lib.hid (show IntKind.i64.wrap ((m : Int) + 2 - 2) = (m : Int) from wIs _ _ (by omega) (by omega) (by omega))
  have E1 := Lib.hid (show wrap64 ((m : Int) + 2 - 2) = (m : Int) from w64s _ _ (by omega) (by omega) (by omega))
  have E2 := Lib.hid (show IntKind.i64.wrap (m : Int) = (m : Int) from wIs _ _ (by omega) (by omega) (by omega))
  have E3 := Lib.hid (show wrap64 (m : Int) = (m : Int) from w64s _ _ (by omega) (by omega) (by omega))
  clear hls hl0 h hlen hm
  have CPL := fun W => plain_or a b W
  have HXM := Lib.hid hxm
  have HMAY := Lib.hid hmaya
  clear hmaya
  generalize hgx : flagV (a != 0 || b != 0) = xx at *
  clear hgx hxm
  have e0 := E0.out
  have e1 := E1.out
  have e2 := E2.out
  have e3 := E3.out
  clear E0 E1 E2 E3
  go_enter Try.func15, Try.ntmps15
  go_wp2_with (go_at_call 28; ((with_reducible refine (need_or _).mono ?_); rintro e w9 ⟨rfl, rfl⟩))
  have hI : Below w.heap.size w w.drew := (Below.refl _ _).drew
  refine wp_region_chain (fun V => Below w.heap.size w V) [(0, false), (1, false), (2, false), (3, false), (4, false), (5, false), (6, false), (7, false), (8, false), (9, false), (10, false), (11, false), (12, false), (13, false)] (by kernel_rfl) (by kernel_rfl) hI ?_
  repeat (first
    | (refine ChainL.skip (o := ?_) ?_ ?_ ?_; rotate_left; (focus (first | (simp only [List.getElem?_toArray, List.getElem?_cons_succ, List.getElem?_cons_zero]; with_reducible rfl) | (simp only [List.getElem?_toArray, List.getElem?_cons_zero]; with_reducible rfl))); (focus rfl); simp only [Act.put, List.setIfInBounds_toArray, List.set_cons_zero, List.set_cons_succ])
    | (refine ChainL.val (o := ?_) (v := ?_) ?_ ?_ ?_ ?_ ?_; rotate_left 2; (focus (first | (simp only [List.getElem?_toArray, List.getElem?_cons_succ, List.getElem?_cons_zero]; with_reducible rfl) | (simp only [List.getElem?_toArray, List.getElem?_cons_zero]; with_reducible rfl))); (focus (intro _ _ h; cases h)); (focus rfl); (focus (intro w' hJ; have y0 := C0 _ hJ; go_simp <;> with_reducible rfl)); simp only [Act.put, List.setIfInBounds_toArray, List.set_cons_zero, List.set_cons_succ]))
  refine ChainL.nil ?_
  go_wp2
  have hI2 : Below w.heap.size w w.drew.drew := hI.drew
  have wk : IntKind.i64.wrap 1 = 1 := by kernel_rfl
  have wk2 : IntKind.i64.wrap (2 - 1) = 1 := by kernel_rfl
  refine wp_region_chain (fun V => Below w.heap.size w V) [(0, false), (1, false), (2, false), (3, false), (4, false), (5, false), (6, false), (7, false), (8, false), (9, true), (10, false), (11, false), (12, false), (13, false), (14, false), (15, false), (16, false)] (by kernel_rfl) (by kernel_rfl) hI2 ?_
  repeat (first
    | (refine ChainL.skip (o := ?_) ?_ ?_ ?_; rotate_left; (focus (first | (simp only [List.getElem?_toArray, List.getElem?_cons_succ, List.getElem?_cons_zero]; with_reducible rfl) | (simp only [List.getElem?_toArray, List.getElem?_cons_zero]; with_reducible rfl))); (focus rfl); simp only [Act.put, List.setIfInBounds_toArray, List.set_cons_zero, List.set_cons_succ])
    | (refine ChainL.val (o := ?_) (v := ?_) ?_ ?_ ?_ ?_ ?_; rotate_left 2; (focus (first | (simp only [List.getElem?_toArray, List.getElem?_cons_succ, List.getElem?_cons_zero]; with_reducible rfl) | (simp only [List.getElem?_toArray, List.getElem?_cons_zero]; with_reducible rfl))); (focus (intro _ _ h; cases h)); (focus rfl); (focus (intro w' hJ; have y0 := C0 _ hJ; have x0 := CX0 _ hJ; have x1 := CX1 _ hJ; go_simp <;> with_reducible rfl)); simp only [Act.put, List.setIfInBounds_toArray, List.set_cons_zero, List.set_cons_succ]))
  refine ChainL.call (o := ?_) (f := ?_) (args := ?_) ?_ ?_ ?_ ?_
  rotate_left 3
  (focus (first | (simp only [List.getElem?_toArray, List.getElem?_cons_succ, List.getElem?_cons_zero]; with_reducible rfl) | (simp only [List.getElem?_toArray, List.getElem?_cons_zero]; with_reducible rfl)))
  (focus rfl)
  (focus (go_simp; (constructor <;> with_reducible rfl)))
  refine (CPL _).mono ?_
  rintro e w8 ⟨rfl, rfl⟩
  refine ⟨_, rfl, hI2, ?_⟩
  simp only [Act.put, List.setIfInBounds_toArray, List.set_cons_zero, List.set_cons_succ]
  repeat (first
    | (refine ChainL.skip (o := ?_) ?_ ?_ ?_; rotate_left; (focus (first | (simp only [List.getElem?_toArray, List.getElem?_cons_succ, List.getElem?_cons_zero]; with_reducible rfl) | (simp only [List.getElem?_toArray, List.getElem?_cons_zero]; with_reducible rfl))); (focus rfl); simp only [Act.put, List.setIfInBounds_toArray, List.set_cons_zero, List.set_cons_succ])
    | (refine ChainL.val (o := ?_) (v := ?_) ?_ ?_ ?_ ?_ ?_; rotate_left 2; (focus (first | (simp only [List.getElem?_toArray, List.getElem?_cons_succ, List.getElem?_cons_zero]; with_reducible rfl) | (simp only [List.getElem?_toArray, List.getElem?_cons_zero]; with_reducible rfl))); (focus (intro _ _ h; cases h)); (focus rfl); (focus (intro w' hJ; skip; go_simp <;> with_reducible rfl)); simp only [Act.put, List.setIfInBounds_toArray, List.set_cons_zero, List.set_cons_succ]))
  refine ChainL.nil ?_
  obtain ⟨w3, hw3⟩ : ∃ w3, w3 = w.drew.drew := ⟨_, rfl⟩
  rw [← hw3] at hI2 ⊢
  clear hw3
  have HOUT := Lib.hid ((lists_row w3 [.int .i64 xx] 3).more (show w3.heap.size + 1 ≤ (w3.alloc (.cells #[.int .i64 xx] 3)).heap.size by simp))
  have HBT := hb.below (hI2.alloc hI2.size (.cells #[.int .i64 xx] 3))
  clear e0 e1 e2 e3 wk wk2
  have t1 := T1.out
  go_wp2_with (first
    | (at_builtin; refine wpList_append_src _ rfl (.tmp 229) (.tmp 230) 22 rfl p 3 i0 (.int .i64 0) 1 8 Try.underlying22 hi hz0 hz1 hz2 rfl (by decide) (.slice (some ⟨w3.heap.size + 1, 0, none⟩) 0 0) 0 [] rfl (own_made_at p (w3.alloc (.cells #[.int .i64 xx] 3)) (w3.heap.size + 1) (by simp) (Nat.le_trans hp0 ((hI2.alloc hI2.size (.cells #[.int .i64 xx] 3))).size)) (w3.alloc (.cells #[.int .i64 xx] 3)).heap.size (some ⟨g, 0, none⟩) (m) n0 (intCells low) (by rfl) ((HLOW.out.below (((hI2.alloc hI2.size (.cells #[.int .i64 xx] 3))).alloc ((hI2.alloc hI2.size (.cells #[.int .i64 xx] 3))).size _)).more ((hI2.alloc hI2.size (.cells #[.int .i64 xx] 3))).size) (by rw [intCells_len, Nat.mul_one]; exact HM.out.symm) (intCells_oneS _) hM1.out hM2.out (Nat.le_trans hp0 (((hI2.alloc hI2.size (.cells #[.int .i64 xx] 3))).alloc ((hI2.alloc hI2.size (.cells #[.int .i64 xx] 3))).size _).size) ?_; intro v1 w1 own1 hg1 hat1; rw [Nat.zero_add, List.nil_append] at own1; have b1 : Below (w3.alloc (.cells #[.int .i64 xx] 3)).heap.size (w3.alloc (.cells #[.int .i64 xx] 3)) w1 := ((Below.refl _ _).alloc (Nat.le_refl _) _).grown hg1 (by simp) (fun j hj => by cases hj; simp); have f1 : ∀ bb ∈ blk v1, (w3.alloc (.cells #[.int .i64 xx] 3)).heap.size ≤ bb := f1_of hat1 (by simp) (by simp); obtain ⟨A1, c1, rfl, _⟩ := own_lists own1)
    | (at_builtin; refine wpList_append_src _ rfl (.tmp 231) (.tmp 232) 22 rfl p 3 i0 (.int .i64 0) 1 8 Try.underlying22 hi hz0 hz1 hz2 rfl (by decide) (.slice A1 (m) c1) (m) (intCells low) rfl (own1) w1.heap.size (some ⟨w3.heap.size, 0, none⟩) (1) 1 (intCells [xx]) (by rfl) ((HOUT.out.below b1).more b1.size) (by rw [intCells_len, Nat.mul_one]; rfl) (intCells_oneS _) hM3.out hM4.out (Nat.le_trans hp0 (Nat.le_trans ((hI2.alloc hI2.size (.cells #[.int .i64 xx] 3))).size b1.size)) ?_; intro v2 w2 own2 hg2 hat2; have o2 : Only w1 w2 (blk (.slice A1 (m) c1)) := (Only.refl _ _).grown hg2 (fun b hb => .inl (by simp [blk, hb])); obtain ⟨A2, c2, rfl, _⟩ := own_lists own2; have b12 := (b1).trans (o2.to_below (b1).size f1); have hb2 := ((HBT)).below b12; have z2 := hb2.cell 0; rw [rk_c0] at z2; have y2 := hb2.frozen 0))
  go_ret
  have P := (HS.out.below (hI2.alloc hI2.size (.cells #[.int .i64 xx] 3))).put (L2 := low ++ [xx]) b12 (by rw [List.length_append, intCells_app, ← HM.out]; exact own2) ?_ ?_ ?_
  · exact ⟨rfl, _, P.1, (RMod.below (hI2.alloc hI2.size (.cells #[.int .i64 xx] 3))).trans P.2⟩
  · intro b hb
    right
    rcases hat2 with e | e
    · exact f1 b (by unfold blk at hb ⊢; rw [e] at hb; exact hb)
    · have := b1.size; unfold blk at hb; rw [e] at hb; simp at hb; rw [hb]; exact this
  · clear t1
    rw [List.length_append, ← HM.out]; simp; omega
  · intro y hy
    rcases List.mem_append.1 hy with h1 | h1
    · exact HMAY.out y (by simp [h1])
    · simp at h1; rw [h1]; exact HXM.out
set_option maxRecDepth 100000 in
set_option maxHeartbeats 4000000 in
theorem rd_eq (p : Nat) (lv : Value) (low St D : List Int) (u : Nat) (a b : Int) (w : World) (h : Rk w p lv (low ++ [a, b]) St D u) :
    Calls Try.prog 15 #[.pointer (some ⟨p, 0, none⟩), .int .i64 15] w (RDid p lv w (0) (low ++ [flagV (a == b)]) St D u) := by
  obtain ⟨i0, hi, hz0, hz1, hz2⟩ := info_partsS infoS
  obtain ⟨A, c, hb, hls⟩ := h.blk
  have c0 := hb.cell 0
  rw [rk_c0] at c0
  have f0 := hb.frozen 0
  obtain ⟨A0, n0, rfl, hl0, hn0⟩ := own_lists h.own
  have HS := Lib.hid h
  obtain ⟨m, hm⟩ : ∃ m, m = (low).length := ⟨_, rfl⟩
  have hlen : (low ++ [a, b]).length = m + 2 := by rw [List.length_append, ← hm]; rfl
  rw [hlen] at c0 hn0
  have h48 : m + 2 ≤ 48 := by rw [← hlen]; exact h.len
  have hM1 := Lib.hid (show 0 + m ≤ maxLen by simp only [maxLen]; omega)
  have hM2 := Lib.hid (show (0 + m) * 8 ≤ 140737488355328 by omega)
  have hp := h.lt
  have hmaya := h.may
  obtain ⟨g, rfl⟩ : ∃ g, A0 = some ⟨g, 0, none⟩ := by
    rcases h.own.2 with ⟨_, h2⟩ | ⟨g, _, _, h1, _⟩
    · rw [hlen] at h2; omega
    · cases h1; exact ⟨g, rfl⟩
  have hgl : g < w.heap.size := blk_lt h.own g (by simp [blk, Value.ownBlock])
  have cx0 : w.cell? ⟨g, m, none⟩ = some (.int .i64 a) := by
    have h1 := hl0.cell _ rfl (m) (.int .i64 a) (by rw [intCells_app, List.getElem?_append_right (by rw [intCells_len]; omega), intCells_len, ← hm]; simp [intCells])
    rwa [addr_plain, Nat.zero_add] at h1
  have CX0 : ∀ V, Below w.heap.size w V → V.cell? ⟨g, m, none⟩ = some (.int .i64 a) := fun V hV => (hV.cell (p := ⟨g, m, none⟩) hgl).trans cx0
  have cx1 : w.cell? ⟨g, m + 1, none⟩ = some (.int .i64 b) := by
    have h1 := hl0.cell _ rfl (m + 1) (.int .i64 b) (by rw [intCells_app, List.getElem?_append_right (by rw [intCells_len]; omega), intCells_len, ← hm]; simp [intCells])
    rwa [addr_plain, Nat.zero_add] at h1
  have CX1 : ∀ V, Below w.heap.size w V → V.cell? ⟨g, m + 1, none⟩ = some (.int .i64 b) := fun V hV => (hV.cell (p := ⟨g, m + 1, none⟩) hgl).trans cx1
  have C0 : ∀ V, Below w.heap.size w V → V.cell? ⟨p, 0, none⟩ = some (.slice (some ⟨g, 0, none⟩) (m + 2) n0) := fun V hV => (hV.cell (p := ⟨p, 0, none⟩) hp).trans c0
  have SU := fun W => slice_up (some ⟨g, 0, none⟩) (m + 2) n0 m (by omega) W
  have SO : ∀ W, (Instr.sliceAt 22 (.slice (some ⟨g, 0, none⟩) (m + 2) n0) (some (.int .i64 (m : Nat))) none none).run Try.prog W = .ok (.slice (some ⟨g, m, none⟩) 2 (n0 - m)) W := fun W => by
    have h := slice_okI (some ⟨g, 0, none⟩) (m + 2) n0 m (by omega) (by omega) W
    rwa [if_neg (by omega), show (some (⟨g, 0, none⟩ : Addr)).map (·.add m) = some ⟨g, m, none⟩ by simp [addr_plain], Nat.add_sub_cancel_left] at h
  have HLOW := Lib.hid (show Lists w w.heap.size (some ⟨g, 0, none⟩) (intCells (low)) by
    rw [show intCells (low) = (intCells (low ++ [a, b])).take m by rw [intCells_app (low) [a, b], List.take_left' (by rw [intCells_len]; exact hm.symm)]]
    exact lists_takeF hl0 m)
  have d1 : decide ((m : Int) < 0) = false := by simp
  have HM := Lib.hid hm
  have hp0 : p ≤ w.heap.size := Nat.le_of_lt hp
  have hxm : mayB (flagV (a == b)) = true := may_flag _
  have hmo : m + 1 ≤ 48 := by omega
  have hM3 := Lib.hid (show m + 1 ≤ maxLen by simp only [maxLen]; omega)
  have hM4 := Lib.hid (show (m + 1) * 8 ≤ 140737488355328 by omega)
  have T1 := Lib.hid (show wrap64 ((m : Int) + 1) = (m : Int) + 1 from w64s _ _ (by omega) (by omega) (by omega))
  have t2 : decide ((m : Int) + 1 > 48) = false := by simp; omega
  have t3 : decide (48 < (m : Int) + 1) = false := by simp; omega
  have E0 := Lib.hid (show IntKind.i64.wrap ((m : Int) + 2 - 2) = (m : Int) from wIs _ _ (by omega) (by omega) (by omega))
  have E1 := Lib.hid (show wrap64 ((m : Int) + 2 - 2) = (m : Int) from w64s _ _ (by omega) (by omega) (by omega))
  have E2 := Lib.hid (show IntKind.i64.wrap (m : Int) = (m : Int) from wIs _ _ (by omega) (by omega) (by omega))
  have E3 := Lib.hid (show wrap64 (m : Int) = (m : Int) from w64s _ _ (by omega) (by omega) (by omega))
  clear hls hl0 h hlen hm
  have CPL := fun W => plain_eq a b W
  have HXM := Lib.hid hxm
  have HMAY := Lib.hid hmaya
  clear hmaya
  generalize hgx : flagV (a == b) = xx at *
  clear hgx hxm
  have e0 := E0.out
  have e1 := E1.out
  have e2 := E2.out
  have e3 := E3.out
  clear E0 E1 E2 E3
  go_enter Try.func15, Try.ntmps15
  go_wp2_with (go_at_call 28; ((with_reducible refine (need_eq _).mono ?_); rintro e w9 ⟨rfl, rfl⟩))
  have hI : Below w.heap.size w w.drew := (Below.refl _ _).drew
  refine wp_region_chain (fun V => Below w.heap.size w V) [(0, false), (1, false), (2, false), (3, false), (4, false), (5, false), (6, false), (7, false), (8, false), (9, false), (10, false), (11, false), (12, false), (13, false)] (by kernel_rfl) (by kernel_rfl) hI ?_
  repeat (first
    | (refine ChainL.skip (o := ?_) ?_ ?_ ?_; rotate_left; (focus (first | (simp only [List.getElem?_toArray, List.getElem?_cons_succ, List.getElem?_cons_zero]; with_reducible rfl) | (simp only [List.getElem?_toArray, List.getElem?_cons_zero]; with_reducible rfl))); (focus rfl); simp only [Act.put, List.setIfInBounds_toArray, List.set_cons_zero, List.set_cons_succ])
    | (refine ChainL.val (o := ?_) (v := ?_) ?_ ?_ ?_ ?_ ?_; rotate_left 2; (focus (first | (simp only [List.getElem?_toArray, List.getElem?_cons_succ, List.getElem?_cons_zero]; with_reducible rfl) | (simp only [List.getElem?_toArray, List.getElem?_cons_zero]; with_reducible rfl))); (focus (intro _ _ h; cases h)); (focus rfl); (focus (intro w' hJ; have y0 := C0 _ hJ; go_simp <;> with_reducible rfl)); simp only [Act.put, List.setIfInBounds_toArray, List.set_cons_zero, List.set_cons_succ]))
  refine ChainL.nil ?_
  go_wp2
  have hI2 : Below w.heap.size w w.drew.drew := hI.drew
  have wk : IntKind.i64.wrap 1 = 1 := by kernel_rfl
  have wk2 : IntKind.i64.wrap (2 - 1) = 1 := by kernel_rfl
  refine wp_region_chain (fun V => Below w.heap.size w V) [(0, false), (1, false), (2, false), (3, false), (4, false), (5, false), (6, false), (7, false), (8, false), (9, true), (10, false), (11, false), (12, false), (13, false), (14, false), (15, false), (16, false)] (by kernel_rfl) (by kernel_rfl) hI2 ?_
  repeat (first
    | (refine ChainL.skip (o := ?_) ?_ ?_ ?_; rotate_left; (focus (first | (simp only [List.getElem?_toArray, List.getElem?_cons_succ, List.getElem?_cons_zero]; with_reducible rfl) | (simp only [List.getElem?_toArray, List.getElem?_cons_zero]; with_reducible rfl))); (focus rfl); simp only [Act.put, List.setIfInBounds_toArray, List.set_cons_zero, List.set_cons_succ])
    | (refine ChainL.val (o := ?_) (v := ?_) ?_ ?_ ?_ ?_ ?_; rotate_left 2; (focus (first | (simp only [List.getElem?_toArray, List.getElem?_cons_succ, List.getElem?_cons_zero]; with_reducible rfl) | (simp only [List.getElem?_toArray, List.getElem?_cons_zero]; with_reducible rfl))); (focus (intro _ _ h; cases h)); (focus rfl); (focus (intro w' hJ; have y0 := C0 _ hJ; have x0 := CX0 _ hJ; have x1 := CX1 _ hJ; go_simp <;> with_reducible rfl)); simp only [Act.put, List.setIfInBounds_toArray, List.set_cons_zero, List.set_cons_succ]))
  refine ChainL.call (o := ?_) (f := ?_) (args := ?_) ?_ ?_ ?_ ?_
  rotate_left 3
  (focus (first | (simp only [List.getElem?_toArray, List.getElem?_cons_succ, List.getElem?_cons_zero]; with_reducible rfl) | (simp only [List.getElem?_toArray, List.getElem?_cons_zero]; with_reducible rfl)))
  (focus rfl)
  (focus (go_simp; (constructor <;> with_reducible rfl)))
  refine (CPL _).mono ?_
  rintro e w8 ⟨rfl, rfl⟩
  refine ⟨_, rfl, hI2, ?_⟩
  simp only [Act.put, List.setIfInBounds_toArray, List.set_cons_zero, List.set_cons_succ]
  repeat (first
    | (refine ChainL.skip (o := ?_) ?_ ?_ ?_; rotate_left; (focus (first | (simp only [List.getElem?_toArray, List.getElem?_cons_succ, List.getElem?_cons_zero]; with_reducible rfl) | (simp only [List.getElem?_toArray, List.getElem?_cons_zero]; with_reducible rfl))); (focus rfl); simp only [Act.put, List.setIfInBounds_toArray, List.set_cons_zero, List.set_cons_succ])
    | (refine ChainL.val (o := ?_) (v := ?_) ?_ ?_ ?_ ?_ ?_; rotate_left 2; (focus (first | (simp only [List.getElem?_toArray, List.getElem?_cons_succ, List.getElem?_cons_zero]; with_reducible rfl) | (simp only [List.getElem?_toArray, List.getElem?_cons_zero]; with_reducible rfl))); (focus (intro _ _ h; cases h)); (focus rfl); (focus (intro w' hJ; skip; go_simp <;> with_reducible rfl)); simp only [Act.put, List.setIfInBounds_toArray, List.set_cons_zero, List.set_cons_succ]))
  refine ChainL.nil ?_
  obtain ⟨w3, hw3⟩ : ∃ w3, w3 = w.drew.drew := ⟨_, rfl⟩
  rw [← hw3] at hI2 ⊢
  clear hw3
  have HOUT := Lib.hid ((lists_row w3 [.int .i64 xx] 3).more (show w3.heap.size + 1 ≤ (w3.alloc (.cells #[.int .i64 xx] 3)).heap.size by simp))
  have HBT := hb.below (hI2.alloc hI2.size (.cells #[.int .i64 xx] 3))
  clear e0 e1 e2 e3 wk wk2
  have t1 := T1.out
  go_wp2_with (first
    | (at_builtin; refine wpList_append_src _ rfl (.tmp 229) (.tmp 230) 22 rfl p 3 i0 (.int .i64 0) 1 8 Try.underlying22 hi hz0 hz1 hz2 rfl (by decide) (.slice (some ⟨w3.heap.size + 1, 0, none⟩) 0 0) 0 [] rfl (own_made_at p (w3.alloc (.cells #[.int .i64 xx] 3)) (w3.heap.size + 1) (by simp) (Nat.le_trans hp0 ((hI2.alloc hI2.size (.cells #[.int .i64 xx] 3))).size)) (w3.alloc (.cells #[.int .i64 xx] 3)).heap.size (some ⟨g, 0, none⟩) (m) n0 (intCells low) (by rfl) ((HLOW.out.below (((hI2.alloc hI2.size (.cells #[.int .i64 xx] 3))).alloc ((hI2.alloc hI2.size (.cells #[.int .i64 xx] 3))).size _)).more ((hI2.alloc hI2.size (.cells #[.int .i64 xx] 3))).size) (by rw [intCells_len, Nat.mul_one]; exact HM.out.symm) (intCells_oneS _) hM1.out hM2.out (Nat.le_trans hp0 (((hI2.alloc hI2.size (.cells #[.int .i64 xx] 3))).alloc ((hI2.alloc hI2.size (.cells #[.int .i64 xx] 3))).size _).size) ?_; intro v1 w1 own1 hg1 hat1; rw [Nat.zero_add, List.nil_append] at own1; have b1 : Below (w3.alloc (.cells #[.int .i64 xx] 3)).heap.size (w3.alloc (.cells #[.int .i64 xx] 3)) w1 := ((Below.refl _ _).alloc (Nat.le_refl _) _).grown hg1 (by simp) (fun j hj => by cases hj; simp); have f1 : ∀ bb ∈ blk v1, (w3.alloc (.cells #[.int .i64 xx] 3)).heap.size ≤ bb := f1_of hat1 (by simp) (by simp); obtain ⟨A1, c1, rfl, _⟩ := own_lists own1)
    | (at_builtin; refine wpList_append_src _ rfl (.tmp 231) (.tmp 232) 22 rfl p 3 i0 (.int .i64 0) 1 8 Try.underlying22 hi hz0 hz1 hz2 rfl (by decide) (.slice A1 (m) c1) (m) (intCells low) rfl (own1) w1.heap.size (some ⟨w3.heap.size, 0, none⟩) (1) 1 (intCells [xx]) (by rfl) ((HOUT.out.below b1).more b1.size) (by rw [intCells_len, Nat.mul_one]; rfl) (intCells_oneS _) hM3.out hM4.out (Nat.le_trans hp0 (Nat.le_trans ((hI2.alloc hI2.size (.cells #[.int .i64 xx] 3))).size b1.size)) ?_; intro v2 w2 own2 hg2 hat2; have o2 : Only w1 w2 (blk (.slice A1 (m) c1)) := (Only.refl _ _).grown hg2 (fun b hb => .inl (by simp [blk, hb])); obtain ⟨A2, c2, rfl, _⟩ := own_lists own2; have b12 := (b1).trans (o2.to_below (b1).size f1); have hb2 := ((HBT)).below b12; have z2 := hb2.cell 0; rw [rk_c0] at z2; have y2 := hb2.frozen 0))
  go_ret
  have P := (HS.out.below (hI2.alloc hI2.size (.cells #[.int .i64 xx] 3))).put (L2 := low ++ [xx]) b12 (by rw [List.length_append, intCells_app, ← HM.out]; exact own2) ?_ ?_ ?_
  · exact ⟨rfl, _, P.1, (RMod.below (hI2.alloc hI2.size (.cells #[.int .i64 xx] 3))).trans P.2⟩
  · intro b hb
    right
    rcases hat2 with e | e
    · exact f1 b (by unfold blk at hb ⊢; rw [e] at hb; exact hb)
    · have := b1.size; unfold blk at hb; rw [e] at hb; simp at hb; rw [hb]; exact this
  · clear t1
    rw [List.length_append, ← HM.out]; simp; omega
  · intro y hy
    rcases List.mem_append.1 hy with h1 | h1
    · exact HMAY.out y (by simp [h1])
    · simp at h1; rw [h1]; exact HXM.out
end Go.Proofs.Ytkhafhdmcalhbaa

namespace Go.Proofs.Ytkhafhdmcalhbaa
open Go Go.RowKit
set_option linter.unusedVariables false
set_option linter.unusedSimpArgs false

/-- Both do the same at an operator. -/
def Both (op : Int) (L St D : List Int) (u : Nat) : Prop := ∃ (code : Int) (L2 St2 : List Int) (u2 : Nat), u2 ≤ u + 1 ∧ (∀ q nv w, Sk w q nv L St (D.drop u) → Calls Try.prog 14 #[.pointer (some ⟨q, 0, none⟩), .int .i64 op] w (Did q nv w code L2 St2 (D.drop u2))) ∧ (∀ p lv w, Rk w p lv L St D u → Calls Try.prog 15 #[.pointer (some ⟨p, 0, none⟩), .int .i64 op] w (RDid p lv w code L2 St2 D u2))
structure OkS (L St : List Int) : Prop where
  len : L.length ≤ 48
  may : ∀ x ∈ L, mayB x = true
  st : St.length = 32
  mst : ∀ x ∈ St, mayB x = true
theorem split1 {L : List Int} (h : ¬ L.length < 1) : ∃ low a, L = low ++ [a] := by
  rcases List.eq_nil_or_concat L with e | ⟨l, a, e⟩
  · subst e; simp at h
  · exact ⟨l, a, by rw [e, List.concat_eq_append]⟩
theorem split2 {L : List Int} (h : ¬ L.length < 2) : ∃ low a b, L = low ++ [a, b] := by
  obtain ⟨l1, b, rfl⟩ := split1 (L := L) (by omega)
  rw [List.length_append, List.length_singleton] at h
  obtain ⟨l2, a, rfl⟩ := split1 (L := l1) (by omega)
  exact ⟨l2, a, b, by simp⟩
theorem split4 {L : List Int} (h : ¬ L.length < 4) : ∃ low a b c d, L = low ++ [a, b, c, d] := by
  obtain ⟨l1, c, d, rfl⟩ := split2 (L := L) (by omega)
  rw [List.length_append, show [c, d].length = 2 from rfl] at h
  obtain ⟨l2, a, b, rfl⟩ := split2 (L := l1) (by omega)
  exact ⟨l2, a, b, c, d, by simp⟩
theorem b_abs (L St D : List Int) (u : Nat) (ho : OkS L St) (hu : u + 1 ≤ 1000000) : Both 9 L St D u := by
  by_cases hk : L.length < 1
  · exact ⟨170, L, St, u, by omega, fun q nv w h => cs_abs q nv L St _ w h hk, fun p lv w h => rs_short 9 1 (by decide) (fun W => need_abs W) p lv L St D u w h hk⟩
  · obtain ⟨low, a, rfl⟩ := split1 hk
    clear hk
    exact ⟨0, low ++ [max a (-a)], St, u, by omega, fun q nv w h => cd_abs q nv low St _ a w h, fun p lv w h => rd_abs p lv low St D u a w h⟩
theorem b_neg (L St D : List Int) (u : Nat) (ho : OkS L St) (hu : u + 1 ≤ 1000000) : Both 14 L St D u := by
  by_cases hk : L.length < 1
  · exact ⟨170, L, St, u, by omega, fun q nv w h => cs_neg q nv L St _ w h hk, fun p lv w h => rs_short 14 1 (by decide) (fun W => need_neg W) p lv L St D u w h hk⟩
  · obtain ⟨low, a, rfl⟩ := split1 hk
    clear hk
    exact ⟨0, low ++ [-a], St, u, by omega, fun q nv w h => cd_neg q nv low St _ a w h, fun p lv w h => rd_neg p lv low St D u a w h⟩
theorem b_not (L St D : List Int) (u : Nat) (ho : OkS L St) (hu : u + 1 ≤ 1000000) : Both 5 L St D u := by
  by_cases hk : L.length < 1
  · exact ⟨170, L, St, u, by omega, fun q nv w h => cs_not q nv L St _ w h hk, fun p lv w h => rs_short 5 1 (by decide) (fun W => need_not W) p lv L St D u w h hk⟩
  · obtain ⟨low, a, rfl⟩ := split1 hk
    clear hk
    exact ⟨0, low ++ [flagV (a == 0)], St, u, by omega, fun q nv w h => cd_not q nv low St _ a w h, fun p lv w h => rd_not p lv low St D u a w h⟩
theorem b_and (L St D : List Int) (u : Nat) (ho : OkS L St) (hu : u + 1 ≤ 1000000) : Both 3 L St D u := by
  by_cases hk : L.length < 2
  · exact ⟨170, L, St, u, by omega, fun q nv w h => cs_and q nv L St _ w h hk, fun p lv w h => rs_short 3 2 (by decide) (fun W => need_and W) p lv L St D u w h hk⟩
  · obtain ⟨low, a, b, rfl⟩ := split2 hk
    clear hk
    exact ⟨0, low ++ [flagV (a != 0 && b != 0)], St, u, by omega, fun q nv w h => cd_and q nv low St _ a b w h, fun p lv w h => rd_and p lv low St D u a b w h⟩
theorem b_or (L St D : List Int) (u : Nat) (ho : OkS L St) (hu : u + 1 ≤ 1000000) : Both 4 L St D u := by
  by_cases hk : L.length < 2
  · exact ⟨170, L, St, u, by omega, fun q nv w h => cs_or q nv L St _ w h hk, fun p lv w h => rs_short 4 2 (by decide) (fun W => need_or W) p lv L St D u w h hk⟩
  · obtain ⟨low, a, b, rfl⟩ := split2 hk
    clear hk
    exact ⟨0, low ++ [flagV (a != 0 || b != 0)], St, u, by omega, fun q nv w h => cd_or q nv low St _ a b w h, fun p lv w h => rd_or p lv low St D u a b w h⟩
theorem b_eq (L St D : List Int) (u : Nat) (ho : OkS L St) (hu : u + 1 ≤ 1000000) : Both 15 L St D u := by
  by_cases hk : L.length < 2
  · exact ⟨170, L, St, u, by omega, fun q nv w h => cs_eq q nv L St _ w h hk, fun p lv w h => rs_short 15 2 (by decide) (fun W => need_eq W) p lv L St D u w h hk⟩
  · obtain ⟨low, a, b, rfl⟩ := split2 hk
    clear hk
    exact ⟨0, low ++ [flagV (a == b)], St, u, by omega, fun q nv w h => cd_eq q nv low St _ a b w h, fun p lv w h => rd_eq p lv low St D u a b w h⟩
theorem b_add (L St D : List Int) (u : Nat) (ho : OkS L St) (hu : u + 1 ≤ 1000000) : Both 10 L St D u := by
  by_cases hk : L.length < 2
  · exact ⟨170, L, St, u, by omega, fun q nv w h => cs_add q nv L St _ w h hk, fun p lv w h => rs_short 10 2 (by decide) (fun W => need_add W) p lv L St D u w h hk⟩
  · obtain ⟨low, a, b, rfl⟩ := split2 hk
    clear hk
    by_cases hc : outE (a + b) = 0
    · exact ⟨0, low ++ [outR (a + b)], St, u, by omega, fun q nv w h => cd_add_ok q nv low St _ a b w h hc, fun p lv w h => rd_add p lv low St D u a b w h hc⟩
    · exact ⟨outE (a + b), low ++ [a, b], St, u, by omega, fun q nv w h => cd_add_no q nv low St _ a b w h hc, fun p lv w h => rd_add_no p lv low St D u a b w h hc⟩
theorem b_sub (L St D : List Int) (u : Nat) (ho : OkS L St) (hu : u + 1 ≤ 1000000) : Both 11 L St D u := by
  by_cases hk : L.length < 2
  · exact ⟨170, L, St, u, by omega, fun q nv w h => cs_sub q nv L St _ w h hk, fun p lv w h => rs_short 11 2 (by decide) (fun W => need_sub W) p lv L St D u w h hk⟩
  · obtain ⟨low, a, b, rfl⟩ := split2 hk
    clear hk
    by_cases hc : outE (a - b) = 0
    · exact ⟨0, low ++ [outR (a - b)], St, u, by omega, fun q nv w h => cd_sub_ok q nv low St _ a b w h hc, fun p lv w h => rd_sub p lv low St D u a b w h hc⟩
    · exact ⟨outE (a - b), low ++ [a, b], St, u, by omega, fun q nv w h => cd_sub_no q nv low St _ a b w h hc, fun p lv w h => rd_sub_no p lv low St D u a b w h hc⟩
theorem b_mul (L St D : List Int) (u : Nat) (ho : OkS L St) (hu : u + 1 ≤ 1000000) : Both 24 L St D u := by
  by_cases hk : L.length < 2
  · exact ⟨170, L, St, u, by omega, fun q nv w h => cs_mul q nv L St _ w h hk, fun p lv w h => rs_short 24 2 (by decide) (fun W => need_mul W) p lv L St D u w h hk⟩
  · obtain ⟨low, a, b, rfl⟩ := split2 hk
    clear hk
    by_cases hc : mdE a b 65536 = 0
    · exact ⟨0, low ++ [mdR a b 65536], St, u, by omega, fun q nv w h => cd_mul_ok q nv low St _ a b w h hc, fun p lv w h => rd_mul p lv low St D u a b w h hc⟩
    · exact ⟨mdE a b 65536, low ++ [a, b], St, u, by omega, fun q nv w h => cd_mul_no q nv low St _ a b w h hc, fun p lv w h => rd_mul_no p lv low St D u a b w h hc⟩
theorem b_div (L St D : List Int) (u : Nat) (ho : OkS L St) (hu : u + 1 ≤ 1000000) : Both 12 L St D u := by
  by_cases hk : L.length < 2
  · exact ⟨170, L, St, u, by omega, fun q nv w h => cs_div q nv L St _ w h hk, fun p lv w h => rs_short 12 2 (by decide) (fun W => need_div W) p lv L St D u w h hk⟩
  · obtain ⟨low, a, b, rfl⟩ := split2 hk
    clear hk
    by_cases hc : mdE 65536 a b = 0
    · exact ⟨0, low ++ [mdR 65536 a b], St, u, by omega, fun q nv w h => cd_div_ok q nv low St _ a b w h hc, fun p lv w h => rd_div p lv low St D u a b w h hc⟩
    · exact ⟨mdE 65536 a b, low ++ [a, b], St, u, by omega, fun q nv w h => cd_div_no q nv low St _ a b w h hc, fun p lv w h => rd_div_no p lv low St D u a b w h hc⟩
theorem b_sqrt (L St D : List Int) (u : Nat) (ho : OkS L St) (hu : u + 1 ≤ 1000000) : Both 26 L St D u := by
  by_cases hk : L.length < 1
  · exact ⟨170, L, St, u, by omega, fun q nv w h => cs_sqrt q nv L St _ w h hk, fun p lv w h => rs_short 26 1 (by decide) (fun W => need_sqrt W) p lv L St D u w h hk⟩
  · obtain ⟨low, a, rfl⟩ := split1 hk
    clear hk
    have hm := ho.may a (by simp)
    by_cases hc : a < 0
    · exact ⟨1, low ++ [a], St, u, by omega, fun q nv w h => cd_sqrt_no q nv low St _ a w h hc, fun p lv w h => rd_sqrt_no p lv low St D u a w h hc⟩
    · obtain ⟨n, hn⟩ : ∃ n : Nat, a = (n : Int) := ⟨a.toNat, by omega⟩
      have hn2 : n ≤ 2147483648 := by have := mayB_hi hm; omega
      subst hn
      exact ⟨0, low ++ [((rt (65536 * n) : Nat) : Int)], St, u, by omega, fun q nv w h => cd_sqrt_ok q nv low St _ n w h hn2, fun p lv w h => rd_sqrt p lv low St D u n w h n rfl hn2⟩
theorem b_drop (L St D : List Int) (u : Nat) (ho : OkS L St) (hu : u + 1 ≤ 1000000) : Both 18 L St D u := by
  by_cases hk : L.length < 1
  · exact ⟨170, L, St, u, by omega, fun q nv w h => cs_drop q nv L St _ w h hk, fun p lv w h => rs_short 18 1 (by decide) (fun W => need_drop W) p lv L St D u w h hk⟩
  · obtain ⟨low, a, rfl⟩ := split1 hk
    clear hk
    exact ⟨0, low, St, u, by omega, fun q nv w h => cd_drop q nv low St _ a w h, fun p lv w h => rd_drop p lv low St D u a w h⟩
theorem b_dup (L St D : List Int) (u : Nat) (ho : OkS L St) (hu : u + 1 ≤ 1000000) : Both 27 L St D u := by
  by_cases hk : L.length < 1
  · exact ⟨170, L, St, u, by omega, fun q nv w h => cs_dup q nv L St _ w h hk, fun p lv w h => rs_short 27 1 (by decide) (fun W => need_dup W) p lv L St D u w h hk⟩
  · obtain ⟨low, a, rfl⟩ := split1 hk
    clear hk
    have hl := ho.len
    by_cases h48 : (low ++ [a]).length = 48
    · exact ⟨170, low ++ [a], St, u, by omega, fun q nv w h => cf_dup q nv _ St _ w h h48, fun p lv w h => rd_dup_full p lv low St D u a w h (by simpa using h48)⟩
    · exact ⟨0, low ++ [a, a], St, u, by omega, fun q nv w h => cd_dup q nv low St _ a w h h48, fun p lv w h => rd_dup p lv low St D u a w h (by simp at h48 hl ⊢; omega)⟩
theorem b_exch (L St D : List Int) (u : Nat) (ho : OkS L St) (hu : u + 1 ≤ 1000000) : Both 28 L St D u := by
  by_cases hk : L.length < 2
  · exact ⟨170, L, St, u, by omega, fun q nv w h => cs_exch q nv L St _ w h hk, fun p lv w h => rs_short 28 2 (by decide) (fun W => need_exch W) p lv L St D u w h hk⟩
  · obtain ⟨low, a, b, rfl⟩ := split2 hk
    clear hk
    exact ⟨0, low ++ [b, a], St, u, by omega, fun q nv w h => cd_exch q nv low St _ a b w h, fun p lv w h => rd_exch p lv low St D u a b w h⟩
theorem b_ifelse (L St D : List Int) (u : Nat) (ho : OkS L St) (hu : u + 1 ≤ 1000000) : Both 22 L St D u := by
  by_cases hk : L.length < 4
  · exact ⟨170, L, St, u, by omega, fun q nv w h => cs_ifelse q nv L St _ w h hk, fun p lv w h => rs_short 22 4 (by decide) (fun W => need_ifelse W) p lv L St D u w h hk⟩
  · obtain ⟨low, a, b, c, d, rfl⟩ := split4 hk
    clear hk
    by_cases hc : c ≤ d
    · exact ⟨0, low ++ [a], St, u, by omega, fun q nv w h => by have k := cd_ifelse q nv low St _ a b c d w h; rwa [if_pos hc] at k, fun p lv w h => rd_ifelse_yes p lv low St D u a b c d w h hc⟩
    · exact ⟨0, low ++ [b], St, u, by omega, fun q nv w h => by have k := cd_ifelse q nv low St _ a b c d w h; rwa [if_neg hc] at k, fun p lv w h => rd_ifelse_no p lv low St D u a b c d w h hc⟩
theorem b_index (L St D : List Int) (u : Nat) (ho : OkS L St) (hu : u + 1 ≤ 1000000) : Both 29 L St D u := by
  by_cases hk : L.length < 1
  · exact ⟨170, L, St, u, by omega, fun q nv w h => cs_index q nv L St _ w h hk, fun p lv w h => rs_short 29 1 (by decide) (fun W => need_index W) p lv L St D u w h hk⟩
  · obtain ⟨low, a, rfl⟩ := split1 hk
    clear hk
    have hm := ho.may a (by simp)
    have h1 := mayB_hi hm
    by_cases hx : a / 65536 < 0
    · by_cases hp : low.length ≤ 0
      · exact ⟨170, low ++ [a], St, u, by omega, fun q nv w h => cd_indexN_no q nv low St _ a w h hx hp, fun p lv w h => rd_indexN_no p lv low St D u a 0 0 w h hx rfl hp⟩
      · obtain ⟨r, hr⟩ : ∃ r, r + 0 + 1 = low.length := ⟨low.length - 1, by omega⟩
        exact ⟨0, low ++ [low.getD r 0], St, u, by omega, fun q nv w h => cd_indexN q nv low St _ a 0 r w h hx rfl hr, fun p lv w h => rd_indexN p lv low St D u a 0 r w h hx rfl hr⟩
    · obtain ⟨m, hmm⟩ : ∃ m : Nat, a / 65536 = (m : Nat) := ⟨(a / 65536).toNat, by omega⟩
      have hm2 : m ≤ 32768 := by omega
      by_cases hp : low.length ≤ m
      · exact ⟨170, low ++ [a], St, u, by omega, fun q nv w h => cd_indexP_no q nv low St _ a m w h hmm hm2 hp, fun p lv w h => rd_indexP_no p lv low St D u a m 0 w h hmm hm2 hp⟩
      · obtain ⟨r, hr⟩ : ∃ r, r + m + 1 = low.length := ⟨low.length - m - 1, by omega⟩
        exact ⟨0, low ++ [low.getD r 0], St, u, by omega, fun q nv w h => cd_indexP q nv low St _ a m r w h hmm hm2 hr, fun p lv w h => rd_indexP p lv low St D u a m r w h hmm hm2 hr⟩
theorem b_roll (L St D : List Int) (u : Nat) (ho : OkS L St) (hu : u + 1 ≤ 1000000) : Both 30 L St D u := by
  by_cases hk : L.length < 2
  · exact ⟨170, L, St, u, by omega, fun q nv w h => cs_roll q nv L St _ w h hk, fun p lv w h => rs_short 30 2 (by decide) (fun W => need_roll W) p lv L St D u w h hk⟩
  · obtain ⟨low, a, b, rfl⟩ := split2 hk
    clear hk
    by_cases hx : a / 65536 < 0
    · exact ⟨170, low ++ [a, b], St, u, by omega, fun q nv w h => cd_rollN_no q nv low St _ a b w h hx, fun p lv w h => rd_rollN_no p lv low St D u a b w h hx⟩
    · by_cases hy : (low.length : Int) < a / 65536
      · exact ⟨170, low ++ [a, b], St, u, by omega, fun q nv w h => cd_rollP_no q nv low St _ a b w h (by omega) hy, fun p lv w h => rd_rollP_no p lv low St D u a b w h (by omega) hy⟩
      · obtain ⟨m, hm⟩ : ∃ m : Nat, a / 65536 = (m : Nat) := ⟨(a / 65536).toNat, by omega⟩
        obtain ⟨lo, l0, rfl, hl0⟩ : ∃ lo l0, low = lo ++ l0 ∧ l0.length = m := ⟨low.take (low.length - m), low.drop (low.length - m), (List.take_append_drop _ _).symm, by rw [List.length_drop]; omega⟩
        rw [← hl0] at hm
        by_cases h0 : l0.length = 0
        · have e0 : l0 = [] := List.eq_nil_of_length_eq_zero h0
          subst e0
          have er : rot [] (b / 65536) = [] := List.eq_nil_of_length_eq_zero (by rw [rot_len]; rfl)
          exact ⟨0, lo ++ [], St, u, by omega, fun q nv w h => by have k := cd_roll q nv lo St _ a b [] w h hm; rwa [er] at k, fun p lv w h => rd_roll0 p lv (lo ++ []) St D u a b w h (by simpa using hm)⟩
        · exact ⟨0, lo ++ rot l0 (b / 65536), St, u, by omega, fun q nv w h => cd_roll q nv lo St _ a b l0 w h hm, fun p lv w h => rd_roll p lv lo St D u a b l0 w h hm (by omega)⟩
theorem b_put (L St D : List Int) (u : Nat) (ho : OkS L St) (hu : u + 1 ≤ 1000000) : Both 20 L St D u := by
  by_cases hk : L.length < 2
  · exact ⟨170, L, St, u, by omega, fun q nv w h => cs_put q nv L St _ w h hk, fun p lv w h => rs_short 20 2 (by decide) (fun W => need_put W) p lv L St D u w h hk⟩
  · obtain ⟨low, a, b, rfl⟩ := split2 hk
    clear hk
    by_cases hi : 0 ≤ b / 65536 ∧ b / 65536 < 32
    · obtain ⟨i, hii⟩ : ∃ i : Nat, b / 65536 = (i : Int) := ⟨(b / 65536).toNat, by omega⟩
      exact ⟨0, low, St.set i a, u, by omega, fun q nv w h => cd_put q nv low St _ a b i w h hii (by omega), fun p lv w h => rd_put p lv low St D u a b i w h hii (by omega)⟩
    · exact ⟨170, low ++ [a, b], St, u, by omega, fun q nv w h => cd_put_no q nv low St _ a b w h hi, fun p lv w h => rd_put_no p lv low St D u a b w h hi⟩
theorem b_get (L St D : List Int) (u : Nat) (ho : OkS L St) (hu : u + 1 ≤ 1000000) : Both 21 L St D u := by
  by_cases hk : L.length < 1
  · exact ⟨170, L, St, u, by omega, fun q nv w h => cs_get q nv L St _ w h hk, fun p lv w h => rs_short 21 1 (by decide) (fun W => need_get W) p lv L St D u w h hk⟩
  · obtain ⟨low, a, rfl⟩ := split1 hk
    clear hk
    by_cases hi : 0 ≤ a / 65536 ∧ a / 65536 < 32
    · obtain ⟨i, hii⟩ : ∃ i : Nat, a / 65536 = (i : Int) := ⟨(a / 65536).toNat, by omega⟩
      have h32 : i < 32 := by omega
      exact ⟨0, low ++ [St.getD i 0], St, u, by omega, fun q nv w h => cd_get q nv low St _ a i w h hii h32, fun p lv w h => rd_get p lv low St D u a i w h (ho.mst _ (mem_getD (by rw [ho.st]; exact h32))) hii h32⟩
    · exact ⟨170, low ++ [a], St, u, by omega, fun q nv w h => cd_get_no q nv low St _ a w h hi, fun p lv w h => rd_get_no p lv low St D u a w h hi⟩
theorem app_nil {X : List Int → Prop} {L : List Int} (h : X L) : X (L ++ []) := by rwa [List.append_nil]
theorem b_random (L St D : List Int) (u : Nat) (ho : OkS L St) (hu : u + 1 ≤ 1000000) : Both 23 L St D u := by
  have hl := ho.len
  by_cases hd : D.length ≤ u
  · have e1 : D.drop u = [] := List.drop_eq_nil_of_le hd
    have e2 : D.drop (u + 1) = [] := List.drop_eq_nil_of_le (by omega)
    by_cases h48 : L.length = 48
    · exact ⟨170, L, St, u, by omega, fun q nv w h => cf_random q nv L St _ w h h48, fun p lv w h => by have k := rd_random_full_nil p lv L St D u w (by rwa [List.append_nil]) hd h48; rwa [List.append_nil] at k⟩
    · exact ⟨0, L ++ [65536], St, u + 1, by omega, fun q nv w h => by rw [e1] at h; rw [e2]; exact cd_random_nil q nv L St [] w h h48, fun p lv w h => rd_random_nil p lv L St D u w (by rwa [List.append_nil]) hd hu (by omega)⟩
  · obtain ⟨d, hdd⟩ : ∃ d, D[u]? = some d := ⟨D[u]'(by omega), List.getElem?_eq_getElem _⟩
    have e1 : D.drop u = d :: D.drop (u + 1) := by
      obtain ⟨hu2, he⟩ := List.getElem?_eq_some_iff.1 hdd
      rw [← he]; exact List.drop_eq_getElem_cons hu2
    by_cases h48 : L.length = 48
    · exact ⟨170, L, St, u, by omega, fun q nv w h => cf_random q nv L St _ w h h48, fun p lv w h => by have k := rd_random_full_more p lv L St D u w (by rwa [List.append_nil]) d hdd h48; rwa [List.append_nil] at k⟩
    · exact ⟨0, L ++ [d % 65536 + 1], St, u + 1, by omega, fun q nv w h => by rw [e1] at h; exact cd_random q nv L St [] d _ w h h48, fun p lv w h => rd_random_more p lv L St D u w (by rwa [List.append_nil]) d hdd hu (by omega)⟩
theorem op_some {op : Int} (h : isOpB op = true) : op = 9 ∨ op = 14 ∨ op = 26 ∨ op = 5 ∨ op = 10 ∨ op = 11 ∨ op = 24 ∨ op = 12 ∨ op = 3 ∨ op = 4 ∨ op = 15 ∨ op = 18 ∨ op = 27 ∨ op = 28 ∨ op = 22 ∨ op = 29 ∨ op = 30 ∨ op = 20 ∨ op = 21 ∨ op = 23 := by
  unfold isOpB at h
  simp [OPS] at h
  omega
theorem bothop_any (op : Int) (L St D : List Int) (u : Nat) (ho : OkS L St) (hu : u + 1 ≤ 1000000) : Both op L St D u := by
  cases h : isOpB op
  · exact ⟨1, L, St, u, by omega, fun q nv w hs => cn_none op q nv L St _ w hs h, fun p lv w hs => rn_none op p lv L St D u w hs h⟩
  · rcases op_some h with rfl | rfl | rfl | rfl | rfl | rfl | rfl | rfl | rfl | rfl | rfl | rfl | rfl | rfl | rfl | rfl | rfl | rfl | rfl | rfl
    · exact b_abs L St D u ho hu
    · exact b_neg L St D u ho hu
    · exact b_sqrt L St D u ho hu
    · exact b_not L St D u ho hu
    · exact b_add L St D u ho hu
    · exact b_sub L St D u ho hu
    · exact b_mul L St D u ho hu
    · exact b_div L St D u ho hu
    · exact b_and L St D u ho hu
    · exact b_or L St D u ho hu
    · exact b_eq L St D u ho hu
    · exact b_drop L St D u ho hu
    · exact b_dup L St D u ho hu
    · exact b_exch L St D u ho hu
    · exact b_ifelse L St D u ho hu
    · exact b_index L St D u ho hu
    · exact b_roll L St D u ho hu
    · exact b_put L St D u ho hu
    · exact b_get L St D u ho hu
    · exact b_random L St D u ho hu
end Go.Proofs.Ytkhafhdmcalhbaa
