/- Part 8 of the proof: CvR. -/
import Derived.Test.YtngfillgndhfbaaCCv6

namespace Go.Proofs.Ytngfillgndhfbaa
open Go Go.RowKit
set_option linter.unusedVariables false
set_option linter.unusedSimpArgs false


theorem bArr (a b c d : Int) : Try.prog.built 49 [(0, .int .i64 a), (1, .int .i64 b), (2, .int .i64 c), (3, .int .i64 d)] = some #[.int .i64 a, .int .i64 b, .int .i64 c, .int .i64 d] := by kernel_rfl
theorem wmul {v x : Int} (h : 0 ≤ v ∧ v ≤ 1073741824) (g : -1048576 ≤ x ∧ x ≤ 1048576) : -1125899906842624 ≤ v * x ∧ v * x ≤ 1125899906842624 := mul_sym h g
set_option maxRecDepth 100000 in
set_option maxHeartbeats 1000000 in
theorem rweigh_any (v0 v1 v2 v3 a b c d n : Int) (h : W4le (v0, v1, v2, v3) 1073741824) (ha : -1048576 ≤ a ∧ a ≤ 1048576) (hb : -1048576 ≤ b ∧ b ≤ 1048576) (hc : -1048576 ≤ c ∧ c ≤ 1048576) (hd : -1048576 ≤ d ∧ d ≤ 1048576) (n1 : 1 ≤ n) (n2 : n ≤ 1073741824) (w : World) :
    Calls Try.prog 32 #[.agg #[.int .i64 v0, .int .i64 v1, .int .i64 v2, .int .i64 v3], .int .i64 a, .int .i64 b, .int .i64 c, .int .i64 d, .int .i64 n] w fun e w' => e = .returned (.int .i64 (near (v0 * a + v1 * b + v2 * c + v3 * d) n)) ∧ Below w.heap.size w w' := by
  obtain ⟨h0, h1, h2, h3⟩ := h
  dsimp only at h0 h1 h2 h3
  obtain ⟨p1, q1⟩ := wmul h0 ha
  obtain ⟨p2, q2⟩ := wmul h1 hb
  obtain ⟨p3, q3⟩ := wmul h2 hc
  obtain ⟨p4, q4⟩ := wmul h3 hd
  have C := fun W => rnear_ok (v0 * a + v1 * b + v2 * c + v3 * d) n W n1 (by omega) (by omega) (by omega)
  have B0 := below_a1 w (.cells #[.int .i64 v0, .int .i64 v1, .int .i64 v2, .int .i64 v3] 49)
  clear h0 h1 h2 h3 ha hb hc hd
  go_enter Try.func32, Try.ntmps32
  go_wp2_with (first | (go_at_call 40; ((with_reducible refine (C _).mono ?_); rintro e w1 ⟨rfl, rfl⟩)))
  go_ret
  exact ⟨rfl, B0⟩
set_option maxRecDepth 100000 in
set_option maxHeartbeats 4000000 in
theorem rat_1 (xa ya xb yb xc yc xd yd : Int) (hxa : -1048576 ≤ xa ∧ xa ≤ 1048576) (hya : -1048576 ≤ ya ∧ ya ≤ 1048576) (hxd : -1048576 ≤ xd ∧ xd ≤ 1048576) (hyd : -1048576 ≤ yd ∧ yd ≤ 1048576) (i n k : Int) (ek : n - i = k) (i0 : 0 ≤ i) (k0 : 0 ≤ k) (n1 : 1 ≤ n) (n2 : n ≤ 512) (w : World) :
    Calls Try.prog 18 #[.agg #[.int .i64 1, .int .i64 xa, .int .i64 ya, .int .i64 xb, .int .i64 yb, .int .i64 xc, .int .i64 yc, .int .i64 xd, .int .i64 yd], .int .i64 i, .int .i64 n] w fun e w' => e = .returned (.agg #[.int .i64 (near (k * xa + 0 * 0 + 0 * 0 + i * xd) (n)), .int .i64 (near (k * ya + 0 * 0 + 0 * 0 + i * yd) (n))]) ∧ Below w.heap.size w w' := by
  have i1 : i ≤ 512 := by omega
  have k1 : k ≤ 512 := by omega
  have n0 : 0 ≤ n := by omega
  have z0 : (-1048576 : Int) ≤ 0 ∧ (0 : Int) ≤ 1048576 := by omega
  have hv : W4le (k, 0, 0, i) 1073741824 := by unfold W4le; dsimp only; omega
  have hby : 1 ≤ n := by skip; omega
  have CX := fun W => rweigh_any k 0 0 i xa 0 0 xd (n) hv hxa z0 z0 hxd hby (by omega) W
  have CY := fun W => rweigh_any k 0 0 i ya 0 0 yd (n) hv hya z0 z0 hyd hby (by omega) W
  obtain ⟨rx, hrx⟩ : ∃ r, r = near (k * xa + 0 * 0 + 0 * 0 + i * xd) (n) := ⟨_, rfl⟩
  obtain ⟨ry, hry⟩ : ∃ r, r = near (k * ya + 0 * 0 + 0 * 0 + i * yd) (n) := ⟨_, rfl⟩
  rw [← hrx] at CX ⊢
  rw [← hry] at CY ⊢
  clear hrx hry hby hv z0 hxa hya hxd hyd
  have BB1 := bArr k 0 0 i
  have BB2 := bArr k 0 0 i
  have KX0 := (Blk.new w 25 #[.int .i64 1, .int .i64 xa, .int .i64 ya, .int .i64 xb, .int .i64 yb, .int .i64 xc, .int .i64 yc, .int .i64 xd, .int .i64 yd]).below (below_a2 _ (.cells #[.int .i64 0, .int .i64 0] 23) (.cells #[.int .i64 0, .int .i64 0, .int .i64 0, .int .i64 0] 49))
  have KZ0 := Blk.new (w.alloc (.cells #[.int .i64 1, .int .i64 xa, .int .i64 ya, .int .i64 xb, .int .i64 yb, .int .i64 xc, .int .i64 yc, .int .i64 xd, .int .i64 yd] 25)) 23 #[.int .i64 0, .int .i64 0]
  have KA0 := Blk.new ((w.alloc (.cells #[.int .i64 1, .int .i64 xa, .int .i64 ya, .int .i64 xb, .int .i64 yb, .int .i64 xc, .int .i64 yc, .int .i64 xd, .int .i64 yd] 25)).alloc (.cells #[.int .i64 0, .int .i64 0] 23)) 49 #[.int .i64 0, .int .i64 0, .int .i64 0, .int .i64 0]
  have B0 := below_a3 w (.cells #[.int .i64 1, .int .i64 xa, .int .i64 ya, .int .i64 xb, .int .i64 yb, .int .i64 xc, .int .i64 yc, .int .i64 xd, .int .i64 yd] 25) (.cells #[.int .i64 0, .int .i64 0] 23) (.cells #[.int .i64 0, .int .i64 0, .int .i64 0, .int .i64 0] 49)
  simp only [World.size_alloc] at KZ0 KA0
  have KZ0 := KZ0.below (below_a1 _ (.cells #[.int .i64 0, .int .i64 0, .int .i64 0, .int .i64 0] 49))
  have HA0 := Lib.hid KA0
  have KX1 : Blk ((((w.alloc (.cells #[.int .i64 1, .int .i64 xa, .int .i64 ya, .int .i64 xb, .int .i64 yb, .int .i64 xc, .int .i64 yc, .int .i64 xd, .int .i64 yd] 25)).alloc (.cells #[.int .i64 0, .int .i64 0] 23)).alloc (.cells #[.int .i64 0, .int .i64 0, .int .i64 0, .int .i64 0] 49)).setRow (w.heap.size + 1 + 1) #[.int .i64 k, .int .i64 0, .int .i64 0, .int .i64 i]) w.heap.size 25 #[.int .i64 1, .int .i64 xa, .int .i64 ya, .int .i64 xb, .int .i64 yb, .int .i64 xc, .int .i64 yc, .int .i64 xd, .int .i64 yd] := Blk.rowO (cs1 := #[.int .i64 k, .int .i64 0, .int .i64 0, .int .i64 i]) KX0 (q := w.heap.size + 1 + 1) (by omega)
  have KZ1 : Blk ((((w.alloc (.cells #[.int .i64 1, .int .i64 xa, .int .i64 ya, .int .i64 xb, .int .i64 yb, .int .i64 xc, .int .i64 yc, .int .i64 xd, .int .i64 yd] 25)).alloc (.cells #[.int .i64 0, .int .i64 0] 23)).alloc (.cells #[.int .i64 0, .int .i64 0, .int .i64 0, .int .i64 0] 49)).setRow (w.heap.size + 1 + 1) #[.int .i64 k, .int .i64 0, .int .i64 0, .int .i64 i]) (w.heap.size + 1) 23 #[.int .i64 0, .int .i64 0] := Blk.rowO (cs1 := #[.int .i64 k, .int .i64 0, .int .i64 0, .int .i64 i]) KZ0 (q := w.heap.size + 1 + 1) (by omega)
  have KA1 : Blk ((((w.alloc (.cells #[.int .i64 1, .int .i64 xa, .int .i64 ya, .int .i64 xb, .int .i64 yb, .int .i64 xc, .int .i64 yc, .int .i64 xd, .int .i64 yd] 25)).alloc (.cells #[.int .i64 0, .int .i64 0] 23)).alloc (.cells #[.int .i64 0, .int .i64 0, .int .i64 0, .int .i64 0] 49)).setRow (w.heap.size + 1 + 1) #[.int .i64 k, .int .i64 0, .int .i64 0, .int .i64 i]) (w.heap.size + 1 + 1) 49 #[.int .i64 k, .int .i64 0, .int .i64 0, .int .i64 i] := blk_row KA0 #[.int .i64 k, .int .i64 0, .int .i64 0, .int .i64 i]
  have B1 : Below w.heap.size w ((((w.alloc (.cells #[.int .i64 1, .int .i64 xa, .int .i64 ya, .int .i64 xb, .int .i64 yb, .int .i64 xc, .int .i64 yc, .int .i64 xd, .int .i64 yd] 25)).alloc (.cells #[.int .i64 0, .int .i64 0] 23)).alloc (.cells #[.int .i64 0, .int .i64 0, .int .i64 0, .int .i64 0] 49)).setRow (w.heap.size + 1 + 1) #[.int .i64 k, .int .i64 0, .int .i64 0, .int .i64 i]) := below_setRow B0 (by omega) _
  have HA1 := Lib.hid KA1
  have KX2 := KX1
  have KZ2 := KZ1
  have KA2 := KA1
  have B2 := B1
  have b0 := KX1.cell 0
  have bz0 := KX1.frozen 0
  have b1 := KX1.cell 1
  have bz1 := KX1.frozen 1
  have b2 := KX1.cell 2
  have bz2 := KX1.frozen 2
  have b3 := KX1.cell 3
  have bz3 := KX1.frozen 3
  have b4 := KX1.cell 4
  have bz4 := KX1.frozen 4
  have b5 := KX1.cell 5
  have bz5 := KX1.frozen 5
  have b6 := KX1.cell 6
  have bz6 := KX1.frozen 6
  have b7 := KX1.cell 7
  have bz7 := KX1.frozen 7
  have b8 := KX1.cell 8
  have bz8 := KX1.frozen 8
  have bl := KX1.lt
  simp only [List.getElem?_toArray, List.getElem?_cons_succ, List.getElem?_cons_zero, List.setIfInBounds_toArray, List.set_cons_zero, List.set_cons_succ] at b0 b1 b2 b3 b4 b5 b6 b7 b8
  have KX3 := (KX2.set 5 (.int .i64 0)).set 6 (.int .i64 0)
  have d0 := KX3.cell 0
  have dz0 := KX3.frozen 0
  have d1 := KX3.cell 1
  have dz1 := KX3.frozen 1
  have d2 := KX3.cell 2
  have dz2 := KX3.frozen 2
  have d3 := KX3.cell 3
  have dz3 := KX3.frozen 3
  have d4 := KX3.cell 4
  have dz4 := KX3.frozen 4
  have d5 := KX3.cell 5
  have dz5 := KX3.frozen 5
  have d6 := KX3.cell 6
  have dz6 := KX3.frozen 6
  have d7 := KX3.cell 7
  have dz7 := KX3.frozen 7
  have d8 := KX3.cell 8
  have dz8 := KX3.frozen 8
  have dl := KX3.lt
  simp only [List.getElem?_toArray, List.getElem?_cons_succ, List.getElem?_cons_zero, List.setIfInBounds_toArray, List.set_cons_zero, List.set_cons_succ] at d0 d1 d2 d3 d4 d5 d6 d7 d8
  obtain ⟨W5, hW5⟩ : ∃ W5, W5 = ((((((((w.alloc (.cells #[.int .i64 1, .int .i64 xa, .int .i64 ya, .int .i64 xb, .int .i64 yb, .int .i64 xc, .int .i64 yc, .int .i64 xd, .int .i64 yd] 25)).alloc (.cells #[.int .i64 0, .int .i64 0] 23)).alloc (.cells #[.int .i64 0, .int .i64 0, .int .i64 0, .int .i64 0] 49)).setRow (w.heap.size + 1 + 1) #[.int .i64 k, .int .i64 0, .int .i64 0, .int .i64 i]).setCell ⟨w.heap.size, 5, none⟩ (.int .i64 0)).setCell ⟨w.heap.size, 6, none⟩ (.int .i64 0)).setCell ⟨w.heap.size, 3, none⟩ (.int .i64 0)).setCell ⟨w.heap.size, 4, none⟩ (.int .i64 0)) := ⟨_, rfl⟩
  have KX5 : Blk W5 w.heap.size 25 #[.int .i64 1, .int .i64 xa, .int .i64 ya, .int .i64 0, .int .i64 0, .int .i64 0, .int .i64 0, .int .i64 xd, .int .i64 yd] := by rw [hW5]; exact (show Blk _ _ _ _ from (((KX2.set 5 (.int .i64 0)).set 6 (.int .i64 0)).set 3 (.int .i64 0)).set 4 (.int .i64 0))
  have KZ5 : Blk W5 (w.heap.size + 1) 23 #[.int .i64 0, .int .i64 0] := by rw [hW5]; exact ((((KZ2.other (q := ⟨w.heap.size, 5, none⟩) (by first | (simp; done) | (simp; omega) | (show (w.heap.size + _ : Nat) ≠ w.heap.size; omega)) (.int .i64 0)).other (q := ⟨w.heap.size, 6, none⟩) (by first | (simp; done) | (simp; omega) | (show (w.heap.size + _ : Nat) ≠ w.heap.size; omega)) (.int .i64 0)).other (q := ⟨w.heap.size, 3, none⟩) (by first | (simp; done) | (simp; omega) | (show (w.heap.size + _ : Nat) ≠ w.heap.size; omega)) (.int .i64 0)).other (q := ⟨w.heap.size, 4, none⟩) (by first | (simp; done) | (simp; omega) | (show (w.heap.size + _ : Nat) ≠ w.heap.size; omega)) (.int .i64 0))
  have KA5 : Blk W5 (w.heap.size + 1 + 1) 49 #[.int .i64 k, .int .i64 0, .int .i64 0, .int .i64 i] := by rw [hW5]; exact ((((KA2.other (q := ⟨w.heap.size, 5, none⟩) (by first | (simp; done) | (simp; omega) | (show (w.heap.size + _ : Nat) ≠ w.heap.size; omega)) (.int .i64 0)).other (q := ⟨w.heap.size, 6, none⟩) (by first | (simp; done) | (simp; omega) | (show (w.heap.size + _ : Nat) ≠ w.heap.size; omega)) (.int .i64 0)).other (q := ⟨w.heap.size, 3, none⟩) (by first | (simp; done) | (simp; omega) | (show (w.heap.size + _ : Nat) ≠ w.heap.size; omega)) (.int .i64 0)).other (q := ⟨w.heap.size, 4, none⟩) (by first | (simp; done) | (simp; omega) | (show (w.heap.size + _ : Nat) ≠ w.heap.size; omega)) (.int .i64 0))
  have B5 : Below w.heap.size w W5 := by rw [hW5]; exact ((((B2.setCell (p := ⟨w.heap.size, 5, none⟩) (Nat.le_refl _) _).setCell (p := ⟨w.heap.size, 6, none⟩) (Nat.le_refl _) _).setCell (p := ⟨w.heap.size, 3, none⟩) (Nat.le_refl _) _).setCell (p := ⟨w.heap.size, 4, none⟩) (Nat.le_refl _) _)
  have HD : ∀ V, Below W5.heap.size W5 V → V.cell? ⟨w.heap.size, 0, none⟩ = some (.int .i64 1) ∧ V.cell? ⟨w.heap.size, 1, none⟩ = some (.int .i64 xa) ∧ V.cell? ⟨w.heap.size, 2, none⟩ = some (.int .i64 ya) ∧ V.cell? ⟨w.heap.size, 3, none⟩ = some (.int .i64 0) ∧ V.cell? ⟨w.heap.size, 4, none⟩ = some (.int .i64 0) ∧ V.cell? ⟨w.heap.size, 5, none⟩ = some (.int .i64 0) ∧ V.cell? ⟨w.heap.size, 6, none⟩ = some (.int .i64 0) ∧ V.cell? ⟨w.heap.size, 7, none⟩ = some (.int .i64 xd) ∧ V.cell? ⟨w.heap.size, 8, none⟩ = some (.int .i64 yd) ∧ w.heap.size < V.heap.size := fun V hV => ⟨(KX5.below hV).cell 0, (KX5.below hV).cell 1, (KX5.below hV).cell 2, (KX5.below hV).cell 3, (KX5.below hV).cell 4, (KX5.below hV).cell 5, (KX5.below hV).cell 6, (KX5.below hV).cell 7, (KX5.below hV).cell 8, (KX5.below hV).lt⟩
  have HLD := Lib.hid (fun (V : World) (hV : Below W5.heap.size W5 V) => load_blk (P := Try.prog) (ty := 49) (KA5.below hV) Try.underlying49 rfl wInfo)
  have HZ5 := Lib.hid KZ5
  have HB5 := Lib.hid B5
  have HW5 := Lib.hid hW5
  have ekk : IntKind.i64.wrap (n - i) = k := by rw [IntWalk.i64_in _ (by omega)]; exact ek
  clear KX0 KZ0 KA0 KX1 KZ1 KA1 KX2 KZ2 KA2 B0 B1 B2 KX5 KZ5 KA5 B5 hW5 KX3
  go_enter Try.func18, Try.ntmps18
  go_wp2_with (first | (refine wpList_build_toC rfl 49 #[(0, .tmp 13), (1, .const (.int .i64 0)), (2, .const (.int .i64 0)), (3, .tmp 14)] (by with_reducible rfl) [(0, .int .i64 k), (1, .int .i64 0), (2, .int .i64 0), (3, .int .i64 i)] (by rfl) #[.int .i64 k, .int .i64 0, .int .i64 0, .int .i64 i] BB1 ?_) | (refine wpList_store_row rfl 49 (.tmp 8) (.tmp 15) (by with_reducible rfl) (w.heap.size + 1 + 1) #[.int .i64 k, .int .i64 0, .int .i64 0, .int .i64 i] (by rfl) (by rfl) 49 #[.int .i64 0, .int .i64 0, .int .i64 0, .int .i64 0] (by exact HA0.out) wInfo rfl (by simp [Value.oneCell']) ?_))
  rw [← HW5.out]
  clear b0 bz0 b1 bz1 b2 bz2 b3 bz3 b4 bz4 b5 bz5 b6 bz6 b7 bz7 b8 bz8 d0 dz0 d1 dz1 d2 dz2 d3 dz3 d4 dz4 d5 dz5 d6 dz6 d7 dz7 d8 dz8 bl dl
  have hI : Below W5.heap.size W5 W5.drew := (Below.refl _ _).drew
  refine wp_region_chain_last (fun V => Below W5.heap.size W5 V) [(0, false), (1, false), (2, false), (3, false), (4, false), (5, false), (6, false), (7, false), (8, false), (9, false), (10, false), (11, false), (12, false), (13, false), (15, false), (16, false), (17, false), (18, false), (19, false), (20, false), (21, false), (22, false), (23, false), (24, false), (25, false), (26, false), (27, false), (28, false), (14, true), (29, true), (30, false)] _ _ (by rfl) (by rfl) (by kernel_rfl) (by kernel_rfl) hI ?_
  repeat (first
    | (refine ChainL.skip (o := ?_) ?_ ?_ ?_; rotate_left; (focus (first | (simp only [List.getElem?_toArray, List.getElem?_cons_succ, List.getElem?_cons_zero]; with_reducible rfl) | (simp only [List.getElem?_toArray, List.getElem?_cons_zero]; with_reducible rfl))); (focus rfl); simp only [Act.put, List.setIfInBounds_toArray, List.set_cons_zero, List.set_cons_succ])
    | (refine ChainL.val (o := ?_) (v := ?_) ?_ ?_ ?_ ?_ ?_; rotate_left 2; (focus (first | (simp only [List.getElem?_toArray, List.getElem?_cons_succ, List.getElem?_cons_zero]; with_reducible rfl) | (simp only [List.getElem?_toArray, List.getElem?_cons_zero]; with_reducible rfl))); (focus (intro _ _ h; cases h)); (focus rfl); (focus (intro w' hJ; have LD := HLD.out _ hJ; obtain ⟨y0, y1, y2, y3, y4, y5, y6, y7, y8, yl⟩ := HD _ hJ; first | (have H := fun ρ o x => @exec_load _ ρ o _ _ x _ _ LD; refine H _ _ ?_ ?_ ?_; rotate_left; (focus rfl); (focus rfl)) | (go_simp <;> with_reducible rfl))); simp only [Act.put, List.setIfInBounds_toArray, List.set_cons_zero, List.set_cons_succ]))
  refine ChainL.call (o := ?_) (f := ?_) (args := ?_) ?_ ?_ ?_ ?_
  rotate_left 3
  (focus (first | (simp only [List.getElem?_toArray, List.getElem?_cons_succ, List.getElem?_cons_zero]; with_reducible rfl) | (simp only [List.getElem?_toArray, List.getElem?_cons_zero]; with_reducible rfl)))
  (focus rfl)
  (focus (go_simp; (constructor <;> with_reducible rfl)))
  with_reducible refine (CX _).mono ?_
  rintro e w5 ⟨rfl, b5⟩
  have I5 := hI.trans (b5.mono hI.size)
  refine ⟨_, rfl, I5, ?_⟩
  simp only [Act.put, List.setIfInBounds_toArray, List.set_cons_zero, List.set_cons_succ]
  refine ChainL.call (o := ?_) (f := ?_) (args := ?_) ?_ ?_ ?_ ?_
  rotate_left 3
  (focus (first | (simp only [List.getElem?_toArray, List.getElem?_cons_succ, List.getElem?_cons_zero]; with_reducible rfl) | (simp only [List.getElem?_toArray, List.getElem?_cons_zero]; with_reducible rfl)))
  (focus rfl)
  (focus (go_simp; (constructor <;> with_reducible rfl)))
  with_reducible refine (CY _).mono ?_
  rintro e w6 ⟨rfl, b6⟩
  have I6 := I5.trans (b6.mono I5.size)
  refine ⟨_, rfl, I6, ?_⟩
  simp only [Act.put, List.setIfInBounds_toArray, List.set_cons_zero, List.set_cons_succ]
  repeat (first
    | (refine ChainL.skip (o := ?_) ?_ ?_ ?_; rotate_left; (focus (first | (simp only [List.getElem?_toArray, List.getElem?_cons_succ, List.getElem?_cons_zero]; with_reducible rfl) | (simp only [List.getElem?_toArray, List.getElem?_cons_zero]; with_reducible rfl))); (focus rfl); simp only [Act.put, List.setIfInBounds_toArray, List.set_cons_zero, List.set_cons_succ])
    | (refine ChainL.val (o := ?_) (v := ?_) ?_ ?_ ?_ ?_ ?_; rotate_left 2; (focus (first | (simp only [List.getElem?_toArray, List.getElem?_cons_succ, List.getElem?_cons_zero]; with_reducible rfl) | (simp only [List.getElem?_toArray, List.getElem?_cons_zero]; with_reducible rfl))); (focus (intro _ _ h; cases h)); (focus rfl); (focus (intro w' hJ; skip; go_simp <;> with_reducible rfl)); simp only [Act.put, List.setIfInBounds_toArray, List.set_cons_zero, List.set_cons_succ]))
  refine ChainL.nil ?_
  refine wp_store_row 23 _ _ rfl (w.heap.size + 1) #[.int .i64 rx, .int .i64 ry] rfl rfl 23 #[.int .i64 0, .int .i64 0] (HZ5.out.below I6) dtInfo rfl (by simp [Value.oneCell']) ?_
  simp only [Act.put]
  go_wp2
  exact bodyPost_ret (results_cell_row Try.results18 _ _ (w.heap.size + 1) 23 #[.int .i64 rx, .int .i64 ry] (0, 0) _ (by rfl) (show Blk _ _ _ _ from blk_row (HZ5.out.below I6) _) Try.underlying23 rfl dtInfo) rfl ⟨rfl, below_setRow (HB5.out.trans (I6.mono HB5.out.size)) (by omega) _⟩
set_option maxRecDepth 100000 in
set_option maxHeartbeats 4000000 in
theorem rat_2 (xa ya xb yb xc yc xd yd : Int) (hxa : -1048576 ≤ xa ∧ xa ≤ 1048576) (hya : -1048576 ≤ ya ∧ ya ≤ 1048576) (hxb : -1048576 ≤ xb ∧ xb ≤ 1048576) (hyb : -1048576 ≤ yb ∧ yb ≤ 1048576) (hxd : -1048576 ≤ xd ∧ xd ≤ 1048576) (hyd : -1048576 ≤ yd ∧ yd ≤ 1048576) (i n k : Int) (ek : n - i = k) (i0 : 0 ≤ i) (k0 : 0 ≤ k) (n1 : 1 ≤ n) (n2 : n ≤ 512) (w : World) :
    Calls Try.prog 18 #[.agg #[.int .i64 2, .int .i64 xa, .int .i64 ya, .int .i64 xb, .int .i64 yb, .int .i64 xc, .int .i64 yc, .int .i64 xd, .int .i64 yd], .int .i64 i, .int .i64 n] w fun e w' => e = .returned (.agg #[.int .i64 (near (k * k * xa + 2 * i * k * xb + 0 * 0 + i * i * xd) (n * n)), .int .i64 (near (k * k * ya + 2 * i * k * yb + 0 * 0 + i * i * yd) (n * n))]) ∧ Below w.heap.size w w' := by
  have i1 : i ≤ 512 := by omega
  have k1 : k ≤ 512 := by omega
  have n0 : 0 ≤ n := by omega
  have z0 : (-1048576 : Int) ≤ 0 ∧ (0 : Int) ≤ 1048576 := by omega
  have u0 : 0 ≤ k * k ∧ k * k ≤ 262144 := by have := mul_in (B := 512) ⟨k0, k1⟩ k0 k1; omega
  have u1 : 0 ≤ 2 * i ∧ 2 * i ≤ 1024 := by omega
  have u2 : 0 ≤ 2 * i * k ∧ 2 * i * k ≤ 524288 := by have := mul_in (B := 1024) u1 k0 k1; omega
  have u3 : 0 ≤ i * i ∧ i * i ≤ 262144 := by have := mul_in (B := 512) ⟨i0, i1⟩ i0 i1; omega
  have u4 : 0 ≤ n * n ∧ n * n ≤ 262144 := by have := mul_in (B := 512) ⟨n0, n2⟩ n0 n2; omega
  have hv : W4le (k * k, 2 * i * k, 0, i * i) 1073741824 := by unfold W4le; dsimp only; omega
  have hby : 1 ≤ n * n := by have := Int.mul_le_mul (a := 1) (b := 1) (c := n) (d := n) n1 n1 (by omega) (by omega); omega
  have CX := fun W => rweigh_any (k * k) (2 * i * k) 0 (i * i) xa xb 0 xd (n * n) hv hxa hxb z0 hxd hby (by omega) W
  have CY := fun W => rweigh_any (k * k) (2 * i * k) 0 (i * i) ya yb 0 yd (n * n) hv hya hyb z0 hyd hby (by omega) W
  obtain ⟨rx, hrx⟩ : ∃ r, r = near (k * k * xa + 2 * i * k * xb + 0 * 0 + i * i * xd) (n * n) := ⟨_, rfl⟩
  obtain ⟨ry, hry⟩ : ∃ r, r = near (k * k * ya + 2 * i * k * yb + 0 * 0 + i * i * yd) (n * n) := ⟨_, rfl⟩
  rw [← hrx] at CX ⊢
  rw [← hry] at CY ⊢
  clear hrx hry hby hv z0 hxa hya hxb hyb hxd hyd
  obtain ⟨l0, g0⟩ := u0
  obtain ⟨l1, g1⟩ := u1
  obtain ⟨l2, g2⟩ := u2
  obtain ⟨l3, g3⟩ := u3
  obtain ⟨l4, g4⟩ := u4
  have BB1 := bArr k 0 0 i
  have BB2 := bArr (k * k) (2 * i * k) 0 (i * i)
  have KX0 := (Blk.new w 25 #[.int .i64 2, .int .i64 xa, .int .i64 ya, .int .i64 xb, .int .i64 yb, .int .i64 xc, .int .i64 yc, .int .i64 xd, .int .i64 yd]).below (below_a2 _ (.cells #[.int .i64 0, .int .i64 0] 23) (.cells #[.int .i64 0, .int .i64 0, .int .i64 0, .int .i64 0] 49))
  have KZ0 := Blk.new (w.alloc (.cells #[.int .i64 2, .int .i64 xa, .int .i64 ya, .int .i64 xb, .int .i64 yb, .int .i64 xc, .int .i64 yc, .int .i64 xd, .int .i64 yd] 25)) 23 #[.int .i64 0, .int .i64 0]
  have KA0 := Blk.new ((w.alloc (.cells #[.int .i64 2, .int .i64 xa, .int .i64 ya, .int .i64 xb, .int .i64 yb, .int .i64 xc, .int .i64 yc, .int .i64 xd, .int .i64 yd] 25)).alloc (.cells #[.int .i64 0, .int .i64 0] 23)) 49 #[.int .i64 0, .int .i64 0, .int .i64 0, .int .i64 0]
  have B0 := below_a3 w (.cells #[.int .i64 2, .int .i64 xa, .int .i64 ya, .int .i64 xb, .int .i64 yb, .int .i64 xc, .int .i64 yc, .int .i64 xd, .int .i64 yd] 25) (.cells #[.int .i64 0, .int .i64 0] 23) (.cells #[.int .i64 0, .int .i64 0, .int .i64 0, .int .i64 0] 49)
  simp only [World.size_alloc] at KZ0 KA0
  have KZ0 := KZ0.below (below_a1 _ (.cells #[.int .i64 0, .int .i64 0, .int .i64 0, .int .i64 0] 49))
  have HA0 := Lib.hid KA0
  have KX1 : Blk ((((w.alloc (.cells #[.int .i64 2, .int .i64 xa, .int .i64 ya, .int .i64 xb, .int .i64 yb, .int .i64 xc, .int .i64 yc, .int .i64 xd, .int .i64 yd] 25)).alloc (.cells #[.int .i64 0, .int .i64 0] 23)).alloc (.cells #[.int .i64 0, .int .i64 0, .int .i64 0, .int .i64 0] 49)).setRow (w.heap.size + 1 + 1) #[.int .i64 k, .int .i64 0, .int .i64 0, .int .i64 i]) w.heap.size 25 #[.int .i64 2, .int .i64 xa, .int .i64 ya, .int .i64 xb, .int .i64 yb, .int .i64 xc, .int .i64 yc, .int .i64 xd, .int .i64 yd] := Blk.rowO (cs1 := #[.int .i64 k, .int .i64 0, .int .i64 0, .int .i64 i]) KX0 (q := w.heap.size + 1 + 1) (by omega)
  have KZ1 : Blk ((((w.alloc (.cells #[.int .i64 2, .int .i64 xa, .int .i64 ya, .int .i64 xb, .int .i64 yb, .int .i64 xc, .int .i64 yc, .int .i64 xd, .int .i64 yd] 25)).alloc (.cells #[.int .i64 0, .int .i64 0] 23)).alloc (.cells #[.int .i64 0, .int .i64 0, .int .i64 0, .int .i64 0] 49)).setRow (w.heap.size + 1 + 1) #[.int .i64 k, .int .i64 0, .int .i64 0, .int .i64 i]) (w.heap.size + 1) 23 #[.int .i64 0, .int .i64 0] := Blk.rowO (cs1 := #[.int .i64 k, .int .i64 0, .int .i64 0, .int .i64 i]) KZ0 (q := w.heap.size + 1 + 1) (by omega)
  have KA1 : Blk ((((w.alloc (.cells #[.int .i64 2, .int .i64 xa, .int .i64 ya, .int .i64 xb, .int .i64 yb, .int .i64 xc, .int .i64 yc, .int .i64 xd, .int .i64 yd] 25)).alloc (.cells #[.int .i64 0, .int .i64 0] 23)).alloc (.cells #[.int .i64 0, .int .i64 0, .int .i64 0, .int .i64 0] 49)).setRow (w.heap.size + 1 + 1) #[.int .i64 k, .int .i64 0, .int .i64 0, .int .i64 i]) (w.heap.size + 1 + 1) 49 #[.int .i64 k, .int .i64 0, .int .i64 0, .int .i64 i] := blk_row KA0 #[.int .i64 k, .int .i64 0, .int .i64 0, .int .i64 i]
  have B1 : Below w.heap.size w ((((w.alloc (.cells #[.int .i64 2, .int .i64 xa, .int .i64 ya, .int .i64 xb, .int .i64 yb, .int .i64 xc, .int .i64 yc, .int .i64 xd, .int .i64 yd] 25)).alloc (.cells #[.int .i64 0, .int .i64 0] 23)).alloc (.cells #[.int .i64 0, .int .i64 0, .int .i64 0, .int .i64 0] 49)).setRow (w.heap.size + 1 + 1) #[.int .i64 k, .int .i64 0, .int .i64 0, .int .i64 i]) := below_setRow B0 (by omega) _
  have HA1 := Lib.hid KA1
  have KX2 : Blk (((((w.alloc (.cells #[.int .i64 2, .int .i64 xa, .int .i64 ya, .int .i64 xb, .int .i64 yb, .int .i64 xc, .int .i64 yc, .int .i64 xd, .int .i64 yd] 25)).alloc (.cells #[.int .i64 0, .int .i64 0] 23)).alloc (.cells #[.int .i64 0, .int .i64 0, .int .i64 0, .int .i64 0] 49)).setRow (w.heap.size + 1 + 1) #[.int .i64 k, .int .i64 0, .int .i64 0, .int .i64 i]).setRow (w.heap.size + 1 + 1) #[.int .i64 (k * k), .int .i64 (2 * i * k), .int .i64 0, .int .i64 (i * i)]) w.heap.size 25 #[.int .i64 2, .int .i64 xa, .int .i64 ya, .int .i64 xb, .int .i64 yb, .int .i64 xc, .int .i64 yc, .int .i64 xd, .int .i64 yd] := Blk.rowO (cs1 := #[.int .i64 (k * k), .int .i64 (2 * i * k), .int .i64 0, .int .i64 (i * i)]) KX1 (q := w.heap.size + 1 + 1) (by omega)
  have KZ2 : Blk (((((w.alloc (.cells #[.int .i64 2, .int .i64 xa, .int .i64 ya, .int .i64 xb, .int .i64 yb, .int .i64 xc, .int .i64 yc, .int .i64 xd, .int .i64 yd] 25)).alloc (.cells #[.int .i64 0, .int .i64 0] 23)).alloc (.cells #[.int .i64 0, .int .i64 0, .int .i64 0, .int .i64 0] 49)).setRow (w.heap.size + 1 + 1) #[.int .i64 k, .int .i64 0, .int .i64 0, .int .i64 i]).setRow (w.heap.size + 1 + 1) #[.int .i64 (k * k), .int .i64 (2 * i * k), .int .i64 0, .int .i64 (i * i)]) (w.heap.size + 1) 23 #[.int .i64 0, .int .i64 0] := Blk.rowO (cs1 := #[.int .i64 (k * k), .int .i64 (2 * i * k), .int .i64 0, .int .i64 (i * i)]) KZ1 (q := w.heap.size + 1 + 1) (by omega)
  have KA2 : Blk (((((w.alloc (.cells #[.int .i64 2, .int .i64 xa, .int .i64 ya, .int .i64 xb, .int .i64 yb, .int .i64 xc, .int .i64 yc, .int .i64 xd, .int .i64 yd] 25)).alloc (.cells #[.int .i64 0, .int .i64 0] 23)).alloc (.cells #[.int .i64 0, .int .i64 0, .int .i64 0, .int .i64 0] 49)).setRow (w.heap.size + 1 + 1) #[.int .i64 k, .int .i64 0, .int .i64 0, .int .i64 i]).setRow (w.heap.size + 1 + 1) #[.int .i64 (k * k), .int .i64 (2 * i * k), .int .i64 0, .int .i64 (i * i)]) (w.heap.size + 1 + 1) 49 #[.int .i64 (k * k), .int .i64 (2 * i * k), .int .i64 0, .int .i64 (i * i)] := blk_row KA1 #[.int .i64 (k * k), .int .i64 (2 * i * k), .int .i64 0, .int .i64 (i * i)]
  have B2 : Below w.heap.size w (((((w.alloc (.cells #[.int .i64 2, .int .i64 xa, .int .i64 ya, .int .i64 xb, .int .i64 yb, .int .i64 xc, .int .i64 yc, .int .i64 xd, .int .i64 yd] 25)).alloc (.cells #[.int .i64 0, .int .i64 0] 23)).alloc (.cells #[.int .i64 0, .int .i64 0, .int .i64 0, .int .i64 0] 49)).setRow (w.heap.size + 1 + 1) #[.int .i64 k, .int .i64 0, .int .i64 0, .int .i64 i]).setRow (w.heap.size + 1 + 1) #[.int .i64 (k * k), .int .i64 (2 * i * k), .int .i64 0, .int .i64 (i * i)]) := below_setRow B1 (by omega) _
  have b0 := KX1.cell 0
  have bz0 := KX1.frozen 0
  have b1 := KX1.cell 1
  have bz1 := KX1.frozen 1
  have b2 := KX1.cell 2
  have bz2 := KX1.frozen 2
  have b3 := KX1.cell 3
  have bz3 := KX1.frozen 3
  have b4 := KX1.cell 4
  have bz4 := KX1.frozen 4
  have b5 := KX1.cell 5
  have bz5 := KX1.frozen 5
  have b6 := KX1.cell 6
  have bz6 := KX1.frozen 6
  have b7 := KX1.cell 7
  have bz7 := KX1.frozen 7
  have b8 := KX1.cell 8
  have bz8 := KX1.frozen 8
  have bl := KX1.lt
  simp only [List.getElem?_toArray, List.getElem?_cons_succ, List.getElem?_cons_zero, List.setIfInBounds_toArray, List.set_cons_zero, List.set_cons_succ] at b0 b1 b2 b3 b4 b5 b6 b7 b8
  have c0 := KX2.cell 0
  have cz0 := KX2.frozen 0
  have c1 := KX2.cell 1
  have cz1 := KX2.frozen 1
  have c2 := KX2.cell 2
  have cz2 := KX2.frozen 2
  have c3 := KX2.cell 3
  have cz3 := KX2.frozen 3
  have c4 := KX2.cell 4
  have cz4 := KX2.frozen 4
  have c5 := KX2.cell 5
  have cz5 := KX2.frozen 5
  have c6 := KX2.cell 6
  have cz6 := KX2.frozen 6
  have c7 := KX2.cell 7
  have cz7 := KX2.frozen 7
  have c8 := KX2.cell 8
  have cz8 := KX2.frozen 8
  have cl := KX2.lt
  simp only [List.getElem?_toArray, List.getElem?_cons_succ, List.getElem?_cons_zero, List.setIfInBounds_toArray, List.set_cons_zero, List.set_cons_succ] at c0 c1 c2 c3 c4 c5 c6 c7 c8
  have KX3 := (KX2.set 5 (.int .i64 0)).set 6 (.int .i64 0)
  have d0 := KX3.cell 0
  have dz0 := KX3.frozen 0
  have d1 := KX3.cell 1
  have dz1 := KX3.frozen 1
  have d2 := KX3.cell 2
  have dz2 := KX3.frozen 2
  have d3 := KX3.cell 3
  have dz3 := KX3.frozen 3
  have d4 := KX3.cell 4
  have dz4 := KX3.frozen 4
  have d5 := KX3.cell 5
  have dz5 := KX3.frozen 5
  have d6 := KX3.cell 6
  have dz6 := KX3.frozen 6
  have d7 := KX3.cell 7
  have dz7 := KX3.frozen 7
  have d8 := KX3.cell 8
  have dz8 := KX3.frozen 8
  have dl := KX3.lt
  simp only [List.getElem?_toArray, List.getElem?_cons_succ, List.getElem?_cons_zero, List.setIfInBounds_toArray, List.set_cons_zero, List.set_cons_succ] at d0 d1 d2 d3 d4 d5 d6 d7 d8
  obtain ⟨W5, hW5⟩ : ∃ W5, W5 = (((((((w.alloc (.cells #[.int .i64 2, .int .i64 xa, .int .i64 ya, .int .i64 xb, .int .i64 yb, .int .i64 xc, .int .i64 yc, .int .i64 xd, .int .i64 yd] 25)).alloc (.cells #[.int .i64 0, .int .i64 0] 23)).alloc (.cells #[.int .i64 0, .int .i64 0, .int .i64 0, .int .i64 0] 49)).setRow (w.heap.size + 1 + 1) #[.int .i64 k, .int .i64 0, .int .i64 0, .int .i64 i]).setRow (w.heap.size + 1 + 1) #[.int .i64 (k * k), .int .i64 (2 * i * k), .int .i64 0, .int .i64 (i * i)]).setCell ⟨w.heap.size, 5, none⟩ (.int .i64 0)).setCell ⟨w.heap.size, 6, none⟩ (.int .i64 0)) := ⟨_, rfl⟩
  have KX5 : Blk W5 w.heap.size 25 #[.int .i64 2, .int .i64 xa, .int .i64 ya, .int .i64 xb, .int .i64 yb, .int .i64 0, .int .i64 0, .int .i64 xd, .int .i64 yd] := by rw [hW5]; exact (show Blk _ _ _ _ from (KX2.set 5 (.int .i64 0)).set 6 (.int .i64 0))
  have KZ5 : Blk W5 (w.heap.size + 1) 23 #[.int .i64 0, .int .i64 0] := by rw [hW5]; exact ((KZ2.other (q := ⟨w.heap.size, 5, none⟩) (by first | (simp; done) | (simp; omega) | (show (w.heap.size + _ : Nat) ≠ w.heap.size; omega)) (.int .i64 0)).other (q := ⟨w.heap.size, 6, none⟩) (by first | (simp; done) | (simp; omega) | (show (w.heap.size + _ : Nat) ≠ w.heap.size; omega)) (.int .i64 0))
  have KA5 : Blk W5 (w.heap.size + 1 + 1) 49 #[.int .i64 (k * k), .int .i64 (2 * i * k), .int .i64 0, .int .i64 (i * i)] := by rw [hW5]; exact ((KA2.other (q := ⟨w.heap.size, 5, none⟩) (by first | (simp; done) | (simp; omega) | (show (w.heap.size + _ : Nat) ≠ w.heap.size; omega)) (.int .i64 0)).other (q := ⟨w.heap.size, 6, none⟩) (by first | (simp; done) | (simp; omega) | (show (w.heap.size + _ : Nat) ≠ w.heap.size; omega)) (.int .i64 0))
  have B5 : Below w.heap.size w W5 := by rw [hW5]; exact ((B2.setCell (p := ⟨w.heap.size, 5, none⟩) (Nat.le_refl _) _).setCell (p := ⟨w.heap.size, 6, none⟩) (Nat.le_refl _) _)
  have HD : ∀ V, Below W5.heap.size W5 V → V.cell? ⟨w.heap.size, 0, none⟩ = some (.int .i64 2) ∧ V.cell? ⟨w.heap.size, 1, none⟩ = some (.int .i64 xa) ∧ V.cell? ⟨w.heap.size, 2, none⟩ = some (.int .i64 ya) ∧ V.cell? ⟨w.heap.size, 3, none⟩ = some (.int .i64 xb) ∧ V.cell? ⟨w.heap.size, 4, none⟩ = some (.int .i64 yb) ∧ V.cell? ⟨w.heap.size, 5, none⟩ = some (.int .i64 0) ∧ V.cell? ⟨w.heap.size, 6, none⟩ = some (.int .i64 0) ∧ V.cell? ⟨w.heap.size, 7, none⟩ = some (.int .i64 xd) ∧ V.cell? ⟨w.heap.size, 8, none⟩ = some (.int .i64 yd) ∧ w.heap.size < V.heap.size := fun V hV => ⟨(KX5.below hV).cell 0, (KX5.below hV).cell 1, (KX5.below hV).cell 2, (KX5.below hV).cell 3, (KX5.below hV).cell 4, (KX5.below hV).cell 5, (KX5.below hV).cell 6, (KX5.below hV).cell 7, (KX5.below hV).cell 8, (KX5.below hV).lt⟩
  have HLD := Lib.hid (fun (V : World) (hV : Below W5.heap.size W5 V) => load_blk (P := Try.prog) (ty := 49) (KA5.below hV) Try.underlying49 rfl wInfo)
  have HZ5 := Lib.hid KZ5
  have HB5 := Lib.hid B5
  have HW5 := Lib.hid hW5
  have ekk : IntKind.i64.wrap (n - i) = k := by rw [IntWalk.i64_in _ (by omega)]; exact ek
  clear KX0 KZ0 KA0 KX1 KZ1 KA1 KX2 KZ2 KA2 B0 B1 B2 KX5 KZ5 KA5 B5 hW5 KX3
  go_enter Try.func18, Try.ntmps18
  go_wp2_with (first | (refine wpList_build_toC rfl 49 #[(0, .tmp 13), (1, .const (.int .i64 0)), (2, .const (.int .i64 0)), (3, .tmp 14)] (by with_reducible rfl) [(0, .int .i64 k), (1, .int .i64 0), (2, .int .i64 0), (3, .int .i64 i)] (by rfl) #[.int .i64 k, .int .i64 0, .int .i64 0, .int .i64 i] BB1 ?_) | (refine wpList_store_row rfl 49 (.tmp 8) (.tmp 15) (by with_reducible rfl) (w.heap.size + 1 + 1) #[.int .i64 k, .int .i64 0, .int .i64 0, .int .i64 i] (by rfl) (by rfl) 49 #[.int .i64 0, .int .i64 0, .int .i64 0, .int .i64 0] (by exact HA0.out) wInfo rfl (by simp [Value.oneCell']) ?_) | (refine wpList_build_toC rfl 49 #[(0, .tmp 23), (1, .tmp 27), (2, .const (.int .i64 0)), (3, .tmp 30)] (by with_reducible rfl) [(0, .int .i64 (k * k)), (1, .int .i64 (2 * i * k)), (2, .int .i64 0), (3, .int .i64 (i * i))] (by rfl) #[.int .i64 (k * k), .int .i64 (2 * i * k), .int .i64 0, .int .i64 (i * i)] BB2 ?_) | (refine wpList_store_row rfl 49 (.tmp 8) (.tmp 31) (by with_reducible rfl) (w.heap.size + 1 + 1) #[.int .i64 (k * k), .int .i64 (2 * i * k), .int .i64 0, .int .i64 (i * i)] (by rfl) (by rfl) 49 #[.int .i64 k, .int .i64 0, .int .i64 0, .int .i64 i] (by exact HA1.out) wInfo rfl (by simp [Value.oneCell']) ?_))
  rw [← HW5.out]
  clear b0 bz0 b1 bz1 b2 bz2 b3 bz3 b4 bz4 b5 bz5 b6 bz6 b7 bz7 b8 bz8 c0 cz0 c1 cz1 c2 cz2 c3 cz3 c4 cz4 c5 cz5 c6 cz6 c7 cz7 c8 cz8 d0 dz0 d1 dz1 d2 dz2 d3 dz3 d4 dz4 d5 dz5 d6 dz6 d7 dz7 d8 dz8 bl cl dl
  have hI : Below W5.heap.size W5 W5.drew := (Below.refl _ _).drew
  refine wp_region_chain_last (fun V => Below W5.heap.size W5 V) [(0, false), (1, false), (2, false), (3, false), (4, false), (5, false), (6, false), (7, false), (8, false), (9, false), (10, false), (11, false), (12, false), (13, false), (15, false), (16, false), (17, false), (18, false), (19, false), (20, false), (21, false), (22, false), (23, false), (24, false), (25, false), (26, false), (27, false), (28, false), (14, true), (29, true), (30, false)] _ _ (by rfl) (by rfl) (by kernel_rfl) (by kernel_rfl) hI ?_
  repeat (first
    | (refine ChainL.skip (o := ?_) ?_ ?_ ?_; rotate_left; (focus (first | (simp only [List.getElem?_toArray, List.getElem?_cons_succ, List.getElem?_cons_zero]; with_reducible rfl) | (simp only [List.getElem?_toArray, List.getElem?_cons_zero]; with_reducible rfl))); (focus rfl); simp only [Act.put, List.setIfInBounds_toArray, List.set_cons_zero, List.set_cons_succ])
    | (refine ChainL.val (o := ?_) (v := ?_) ?_ ?_ ?_ ?_ ?_; rotate_left 2; (focus (first | (simp only [List.getElem?_toArray, List.getElem?_cons_succ, List.getElem?_cons_zero]; with_reducible rfl) | (simp only [List.getElem?_toArray, List.getElem?_cons_zero]; with_reducible rfl))); (focus (intro _ _ h; cases h)); (focus rfl); (focus (intro w' hJ; have LD := HLD.out _ hJ; obtain ⟨y0, y1, y2, y3, y4, y5, y6, y7, y8, yl⟩ := HD _ hJ; first | (have H := fun ρ o x => @exec_load _ ρ o _ _ x _ _ LD; refine H _ _ ?_ ?_ ?_; rotate_left; (focus rfl); (focus rfl)) | (go_simp <;> with_reducible rfl))); simp only [Act.put, List.setIfInBounds_toArray, List.set_cons_zero, List.set_cons_succ]))
  refine ChainL.call (o := ?_) (f := ?_) (args := ?_) ?_ ?_ ?_ ?_
  rotate_left 3
  (focus (first | (simp only [List.getElem?_toArray, List.getElem?_cons_succ, List.getElem?_cons_zero]; with_reducible rfl) | (simp only [List.getElem?_toArray, List.getElem?_cons_zero]; with_reducible rfl)))
  (focus rfl)
  (focus (go_simp; (constructor <;> with_reducible rfl)))
  with_reducible refine (CX _).mono ?_
  rintro e w5 ⟨rfl, b5⟩
  have I5 := hI.trans (b5.mono hI.size)
  refine ⟨_, rfl, I5, ?_⟩
  simp only [Act.put, List.setIfInBounds_toArray, List.set_cons_zero, List.set_cons_succ]
  refine ChainL.call (o := ?_) (f := ?_) (args := ?_) ?_ ?_ ?_ ?_
  rotate_left 3
  (focus (first | (simp only [List.getElem?_toArray, List.getElem?_cons_succ, List.getElem?_cons_zero]; with_reducible rfl) | (simp only [List.getElem?_toArray, List.getElem?_cons_zero]; with_reducible rfl)))
  (focus rfl)
  (focus (go_simp; (constructor <;> with_reducible rfl)))
  with_reducible refine (CY _).mono ?_
  rintro e w6 ⟨rfl, b6⟩
  have I6 := I5.trans (b6.mono I5.size)
  refine ⟨_, rfl, I6, ?_⟩
  simp only [Act.put, List.setIfInBounds_toArray, List.set_cons_zero, List.set_cons_succ]
  repeat (first
    | (refine ChainL.skip (o := ?_) ?_ ?_ ?_; rotate_left; (focus (first | (simp only [List.getElem?_toArray, List.getElem?_cons_succ, List.getElem?_cons_zero]; with_reducible rfl) | (simp only [List.getElem?_toArray, List.getElem?_cons_zero]; with_reducible rfl))); (focus rfl); simp only [Act.put, List.setIfInBounds_toArray, List.set_cons_zero, List.set_cons_succ])
    | (refine ChainL.val (o := ?_) (v := ?_) ?_ ?_ ?_ ?_ ?_; rotate_left 2; (focus (first | (simp only [List.getElem?_toArray, List.getElem?_cons_succ, List.getElem?_cons_zero]; with_reducible rfl) | (simp only [List.getElem?_toArray, List.getElem?_cons_zero]; with_reducible rfl))); (focus (intro _ _ h; cases h)); (focus rfl); (focus (intro w' hJ; skip; go_simp <;> with_reducible rfl)); simp only [Act.put, List.setIfInBounds_toArray, List.set_cons_zero, List.set_cons_succ]))
  refine ChainL.nil ?_
  refine wp_store_row 23 _ _ rfl (w.heap.size + 1) #[.int .i64 rx, .int .i64 ry] rfl rfl 23 #[.int .i64 0, .int .i64 0] (HZ5.out.below I6) dtInfo rfl (by simp [Value.oneCell']) ?_
  simp only [Act.put]
  go_wp2
  exact bodyPost_ret (results_cell_row Try.results18 _ _ (w.heap.size + 1) 23 #[.int .i64 rx, .int .i64 ry] (0, 0) _ (by rfl) (show Blk _ _ _ _ from blk_row (HZ5.out.below I6) _) Try.underlying23 rfl dtInfo) rfl ⟨rfl, below_setRow (HB5.out.trans (I6.mono HB5.out.size)) (by omega) _⟩
set_option maxRecDepth 100000 in
set_option maxHeartbeats 4000000 in
theorem rat_3 (xa ya xb yb xc yc xd yd : Int) (hxa : -1048576 ≤ xa ∧ xa ≤ 1048576) (hya : -1048576 ≤ ya ∧ ya ≤ 1048576) (hxb : -1048576 ≤ xb ∧ xb ≤ 1048576) (hyb : -1048576 ≤ yb ∧ yb ≤ 1048576) (hxc : -1048576 ≤ xc ∧ xc ≤ 1048576) (hyc : -1048576 ≤ yc ∧ yc ≤ 1048576) (hxd : -1048576 ≤ xd ∧ xd ≤ 1048576) (hyd : -1048576 ≤ yd ∧ yd ≤ 1048576) (i n k : Int) (ek : n - i = k) (i0 : 0 ≤ i) (k0 : 0 ≤ k) (n1 : 1 ≤ n) (n2 : n ≤ 512) (w : World) :
    Calls Try.prog 18 #[.agg #[.int .i64 3, .int .i64 xa, .int .i64 ya, .int .i64 xb, .int .i64 yb, .int .i64 xc, .int .i64 yc, .int .i64 xd, .int .i64 yd], .int .i64 i, .int .i64 n] w fun e w' => e = .returned (.agg #[.int .i64 (near (k * k * k * xa + 3 * i * k * k * xb + 3 * i * i * k * xc + i * i * i * xd) (n * n * n)), .int .i64 (near (k * k * k * ya + 3 * i * k * k * yb + 3 * i * i * k * yc + i * i * i * yd) (n * n * n))]) ∧ Below w.heap.size w w' := by
  have i1 : i ≤ 512 := by omega
  have k1 : k ≤ 512 := by omega
  have n0 : 0 ≤ n := by omega
  have z0 : (-1048576 : Int) ≤ 0 ∧ (0 : Int) ≤ 1048576 := by omega
  have u0 : 0 ≤ k * k ∧ k * k ≤ 262144 := by have := mul_in (B := 512) ⟨k0, k1⟩ k0 k1; omega
  have u1 : 0 ≤ k * k * k ∧ k * k * k ≤ 134217728 := by have := mul_in (B := 262144) u0 k0 k1; omega
  have u2 : 0 ≤ 3 * i ∧ 3 * i ≤ 1536 := by omega
  have u3 : 0 ≤ 3 * i * k ∧ 3 * i * k ≤ 786432 := by have := mul_in (B := 1536) u2 k0 k1; omega
  have u4 : 0 ≤ 3 * i * k * k ∧ 3 * i * k * k ≤ 402653184 := by have := mul_in (B := 786432) u3 k0 k1; omega
  have u5 : 0 ≤ 3 * i * i ∧ 3 * i * i ≤ 786432 := by have := mul_in (B := 1536) u2 i0 i1; omega
  have u6 : 0 ≤ 3 * i * i * k ∧ 3 * i * i * k ≤ 402653184 := by have := mul_in (B := 786432) u5 k0 k1; omega
  have u7 : 0 ≤ i * i ∧ i * i ≤ 262144 := by have := mul_in (B := 512) ⟨i0, i1⟩ i0 i1; omega
  have u8 : 0 ≤ i * i * i ∧ i * i * i ≤ 134217728 := by have := mul_in (B := 262144) u7 i0 i1; omega
  have u9 : 0 ≤ n * n ∧ n * n ≤ 262144 := by have := mul_in (B := 512) ⟨n0, n2⟩ n0 n2; omega
  have u10 : 0 ≤ n * n * n ∧ n * n * n ≤ 134217728 := by have := mul_in (B := 262144) u9 n0 n2; omega
  have hv : W4le (k * k * k, 3 * i * k * k, 3 * i * i * k, i * i * i) 1073741824 := by unfold W4le; dsimp only; omega
  have hby : 1 ≤ n * n * n := by have := Int.mul_le_mul (a := 1) (b := 1) (c := n) (d := n) n1 n1 (by omega) (by omega); have := Int.mul_le_mul (a := 1) (b := 1) (c := n * n) (d := n) (by omega) n1 (by omega) (by omega); omega
  have CX := fun W => rweigh_any (k * k * k) (3 * i * k * k) (3 * i * i * k) (i * i * i) xa xb xc xd (n * n * n) hv hxa hxb hxc hxd hby (by omega) W
  have CY := fun W => rweigh_any (k * k * k) (3 * i * k * k) (3 * i * i * k) (i * i * i) ya yb yc yd (n * n * n) hv hya hyb hyc hyd hby (by omega) W
  obtain ⟨rx, hrx⟩ : ∃ r, r = near (k * k * k * xa + 3 * i * k * k * xb + 3 * i * i * k * xc + i * i * i * xd) (n * n * n) := ⟨_, rfl⟩
  obtain ⟨ry, hry⟩ : ∃ r, r = near (k * k * k * ya + 3 * i * k * k * yb + 3 * i * i * k * yc + i * i * i * yd) (n * n * n) := ⟨_, rfl⟩
  rw [← hrx] at CX ⊢
  rw [← hry] at CY ⊢
  clear hrx hry hby hv z0 hxa hya hxb hyb hxc hyc hxd hyd
  obtain ⟨l0, g0⟩ := u0
  obtain ⟨l1, g1⟩ := u1
  obtain ⟨l2, g2⟩ := u2
  obtain ⟨l3, g3⟩ := u3
  obtain ⟨l4, g4⟩ := u4
  obtain ⟨l5, g5⟩ := u5
  obtain ⟨l6, g6⟩ := u6
  obtain ⟨l7, g7⟩ := u7
  obtain ⟨l8, g8⟩ := u8
  obtain ⟨l9, g9⟩ := u9
  obtain ⟨l10, g10⟩ := u10
  have BB1 := bArr k 0 0 i
  have BB2 := bArr (k * k * k) (3 * i * k * k) (3 * i * i * k) (i * i * i)
  have KX0 := (Blk.new w 25 #[.int .i64 3, .int .i64 xa, .int .i64 ya, .int .i64 xb, .int .i64 yb, .int .i64 xc, .int .i64 yc, .int .i64 xd, .int .i64 yd]).below (below_a2 _ (.cells #[.int .i64 0, .int .i64 0] 23) (.cells #[.int .i64 0, .int .i64 0, .int .i64 0, .int .i64 0] 49))
  have KZ0 := Blk.new (w.alloc (.cells #[.int .i64 3, .int .i64 xa, .int .i64 ya, .int .i64 xb, .int .i64 yb, .int .i64 xc, .int .i64 yc, .int .i64 xd, .int .i64 yd] 25)) 23 #[.int .i64 0, .int .i64 0]
  have KA0 := Blk.new ((w.alloc (.cells #[.int .i64 3, .int .i64 xa, .int .i64 ya, .int .i64 xb, .int .i64 yb, .int .i64 xc, .int .i64 yc, .int .i64 xd, .int .i64 yd] 25)).alloc (.cells #[.int .i64 0, .int .i64 0] 23)) 49 #[.int .i64 0, .int .i64 0, .int .i64 0, .int .i64 0]
  have B0 := below_a3 w (.cells #[.int .i64 3, .int .i64 xa, .int .i64 ya, .int .i64 xb, .int .i64 yb, .int .i64 xc, .int .i64 yc, .int .i64 xd, .int .i64 yd] 25) (.cells #[.int .i64 0, .int .i64 0] 23) (.cells #[.int .i64 0, .int .i64 0, .int .i64 0, .int .i64 0] 49)
  simp only [World.size_alloc] at KZ0 KA0
  have KZ0 := KZ0.below (below_a1 _ (.cells #[.int .i64 0, .int .i64 0, .int .i64 0, .int .i64 0] 49))
  have HA0 := Lib.hid KA0
  have KX1 : Blk ((((w.alloc (.cells #[.int .i64 3, .int .i64 xa, .int .i64 ya, .int .i64 xb, .int .i64 yb, .int .i64 xc, .int .i64 yc, .int .i64 xd, .int .i64 yd] 25)).alloc (.cells #[.int .i64 0, .int .i64 0] 23)).alloc (.cells #[.int .i64 0, .int .i64 0, .int .i64 0, .int .i64 0] 49)).setRow (w.heap.size + 1 + 1) #[.int .i64 k, .int .i64 0, .int .i64 0, .int .i64 i]) w.heap.size 25 #[.int .i64 3, .int .i64 xa, .int .i64 ya, .int .i64 xb, .int .i64 yb, .int .i64 xc, .int .i64 yc, .int .i64 xd, .int .i64 yd] := Blk.rowO (cs1 := #[.int .i64 k, .int .i64 0, .int .i64 0, .int .i64 i]) KX0 (q := w.heap.size + 1 + 1) (by omega)
  have KZ1 : Blk ((((w.alloc (.cells #[.int .i64 3, .int .i64 xa, .int .i64 ya, .int .i64 xb, .int .i64 yb, .int .i64 xc, .int .i64 yc, .int .i64 xd, .int .i64 yd] 25)).alloc (.cells #[.int .i64 0, .int .i64 0] 23)).alloc (.cells #[.int .i64 0, .int .i64 0, .int .i64 0, .int .i64 0] 49)).setRow (w.heap.size + 1 + 1) #[.int .i64 k, .int .i64 0, .int .i64 0, .int .i64 i]) (w.heap.size + 1) 23 #[.int .i64 0, .int .i64 0] := Blk.rowO (cs1 := #[.int .i64 k, .int .i64 0, .int .i64 0, .int .i64 i]) KZ0 (q := w.heap.size + 1 + 1) (by omega)
  have KA1 : Blk ((((w.alloc (.cells #[.int .i64 3, .int .i64 xa, .int .i64 ya, .int .i64 xb, .int .i64 yb, .int .i64 xc, .int .i64 yc, .int .i64 xd, .int .i64 yd] 25)).alloc (.cells #[.int .i64 0, .int .i64 0] 23)).alloc (.cells #[.int .i64 0, .int .i64 0, .int .i64 0, .int .i64 0] 49)).setRow (w.heap.size + 1 + 1) #[.int .i64 k, .int .i64 0, .int .i64 0, .int .i64 i]) (w.heap.size + 1 + 1) 49 #[.int .i64 k, .int .i64 0, .int .i64 0, .int .i64 i] := blk_row KA0 #[.int .i64 k, .int .i64 0, .int .i64 0, .int .i64 i]
  have B1 : Below w.heap.size w ((((w.alloc (.cells #[.int .i64 3, .int .i64 xa, .int .i64 ya, .int .i64 xb, .int .i64 yb, .int .i64 xc, .int .i64 yc, .int .i64 xd, .int .i64 yd] 25)).alloc (.cells #[.int .i64 0, .int .i64 0] 23)).alloc (.cells #[.int .i64 0, .int .i64 0, .int .i64 0, .int .i64 0] 49)).setRow (w.heap.size + 1 + 1) #[.int .i64 k, .int .i64 0, .int .i64 0, .int .i64 i]) := below_setRow B0 (by omega) _
  have HA1 := Lib.hid KA1
  have KX2 : Blk (((((w.alloc (.cells #[.int .i64 3, .int .i64 xa, .int .i64 ya, .int .i64 xb, .int .i64 yb, .int .i64 xc, .int .i64 yc, .int .i64 xd, .int .i64 yd] 25)).alloc (.cells #[.int .i64 0, .int .i64 0] 23)).alloc (.cells #[.int .i64 0, .int .i64 0, .int .i64 0, .int .i64 0] 49)).setRow (w.heap.size + 1 + 1) #[.int .i64 k, .int .i64 0, .int .i64 0, .int .i64 i]).setRow (w.heap.size + 1 + 1) #[.int .i64 (k * k * k), .int .i64 (3 * i * k * k), .int .i64 (3 * i * i * k), .int .i64 (i * i * i)]) w.heap.size 25 #[.int .i64 3, .int .i64 xa, .int .i64 ya, .int .i64 xb, .int .i64 yb, .int .i64 xc, .int .i64 yc, .int .i64 xd, .int .i64 yd] := Blk.rowO (cs1 := #[.int .i64 (k * k * k), .int .i64 (3 * i * k * k), .int .i64 (3 * i * i * k), .int .i64 (i * i * i)]) KX1 (q := w.heap.size + 1 + 1) (by omega)
  have KZ2 : Blk (((((w.alloc (.cells #[.int .i64 3, .int .i64 xa, .int .i64 ya, .int .i64 xb, .int .i64 yb, .int .i64 xc, .int .i64 yc, .int .i64 xd, .int .i64 yd] 25)).alloc (.cells #[.int .i64 0, .int .i64 0] 23)).alloc (.cells #[.int .i64 0, .int .i64 0, .int .i64 0, .int .i64 0] 49)).setRow (w.heap.size + 1 + 1) #[.int .i64 k, .int .i64 0, .int .i64 0, .int .i64 i]).setRow (w.heap.size + 1 + 1) #[.int .i64 (k * k * k), .int .i64 (3 * i * k * k), .int .i64 (3 * i * i * k), .int .i64 (i * i * i)]) (w.heap.size + 1) 23 #[.int .i64 0, .int .i64 0] := Blk.rowO (cs1 := #[.int .i64 (k * k * k), .int .i64 (3 * i * k * k), .int .i64 (3 * i * i * k), .int .i64 (i * i * i)]) KZ1 (q := w.heap.size + 1 + 1) (by omega)
  have KA2 : Blk (((((w.alloc (.cells #[.int .i64 3, .int .i64 xa, .int .i64 ya, .int .i64 xb, .int .i64 yb, .int .i64 xc, .int .i64 yc, .int .i64 xd, .int .i64 yd] 25)).alloc (.cells #[.int .i64 0, .int .i64 0] 23)).alloc (.cells #[.int .i64 0, .int .i64 0, .int .i64 0, .int .i64 0] 49)).setRow (w.heap.size + 1 + 1) #[.int .i64 k, .int .i64 0, .int .i64 0, .int .i64 i]).setRow (w.heap.size + 1 + 1) #[.int .i64 (k * k * k), .int .i64 (3 * i * k * k), .int .i64 (3 * i * i * k), .int .i64 (i * i * i)]) (w.heap.size + 1 + 1) 49 #[.int .i64 (k * k * k), .int .i64 (3 * i * k * k), .int .i64 (3 * i * i * k), .int .i64 (i * i * i)] := blk_row KA1 #[.int .i64 (k * k * k), .int .i64 (3 * i * k * k), .int .i64 (3 * i * i * k), .int .i64 (i * i * i)]
  have B2 : Below w.heap.size w (((((w.alloc (.cells #[.int .i64 3, .int .i64 xa, .int .i64 ya, .int .i64 xb, .int .i64 yb, .int .i64 xc, .int .i64 yc, .int .i64 xd, .int .i64 yd] 25)).alloc (.cells #[.int .i64 0, .int .i64 0] 23)).alloc (.cells #[.int .i64 0, .int .i64 0, .int .i64 0, .int .i64 0] 49)).setRow (w.heap.size + 1 + 1) #[.int .i64 k, .int .i64 0, .int .i64 0, .int .i64 i]).setRow (w.heap.size + 1 + 1) #[.int .i64 (k * k * k), .int .i64 (3 * i * k * k), .int .i64 (3 * i * i * k), .int .i64 (i * i * i)]) := below_setRow B1 (by omega) _
  have b0 := KX1.cell 0
  have bz0 := KX1.frozen 0
  have b1 := KX1.cell 1
  have bz1 := KX1.frozen 1
  have b2 := KX1.cell 2
  have bz2 := KX1.frozen 2
  have b3 := KX1.cell 3
  have bz3 := KX1.frozen 3
  have b4 := KX1.cell 4
  have bz4 := KX1.frozen 4
  have b5 := KX1.cell 5
  have bz5 := KX1.frozen 5
  have b6 := KX1.cell 6
  have bz6 := KX1.frozen 6
  have b7 := KX1.cell 7
  have bz7 := KX1.frozen 7
  have b8 := KX1.cell 8
  have bz8 := KX1.frozen 8
  have bl := KX1.lt
  simp only [List.getElem?_toArray, List.getElem?_cons_succ, List.getElem?_cons_zero, List.setIfInBounds_toArray, List.set_cons_zero, List.set_cons_succ] at b0 b1 b2 b3 b4 b5 b6 b7 b8
  have c0 := KX2.cell 0
  have cz0 := KX2.frozen 0
  have c1 := KX2.cell 1
  have cz1 := KX2.frozen 1
  have c2 := KX2.cell 2
  have cz2 := KX2.frozen 2
  have c3 := KX2.cell 3
  have cz3 := KX2.frozen 3
  have c4 := KX2.cell 4
  have cz4 := KX2.frozen 4
  have c5 := KX2.cell 5
  have cz5 := KX2.frozen 5
  have c6 := KX2.cell 6
  have cz6 := KX2.frozen 6
  have c7 := KX2.cell 7
  have cz7 := KX2.frozen 7
  have c8 := KX2.cell 8
  have cz8 := KX2.frozen 8
  have cl := KX2.lt
  simp only [List.getElem?_toArray, List.getElem?_cons_succ, List.getElem?_cons_zero, List.setIfInBounds_toArray, List.set_cons_zero, List.set_cons_succ] at c0 c1 c2 c3 c4 c5 c6 c7 c8
  obtain ⟨W5, hW5⟩ : ∃ W5, W5 = (((((w.alloc (.cells #[.int .i64 3, .int .i64 xa, .int .i64 ya, .int .i64 xb, .int .i64 yb, .int .i64 xc, .int .i64 yc, .int .i64 xd, .int .i64 yd] 25)).alloc (.cells #[.int .i64 0, .int .i64 0] 23)).alloc (.cells #[.int .i64 0, .int .i64 0, .int .i64 0, .int .i64 0] 49)).setRow (w.heap.size + 1 + 1) #[.int .i64 k, .int .i64 0, .int .i64 0, .int .i64 i]).setRow (w.heap.size + 1 + 1) #[.int .i64 (k * k * k), .int .i64 (3 * i * k * k), .int .i64 (3 * i * i * k), .int .i64 (i * i * i)]) := ⟨_, rfl⟩
  have KX5 : Blk W5 w.heap.size 25 #[.int .i64 3, .int .i64 xa, .int .i64 ya, .int .i64 xb, .int .i64 yb, .int .i64 xc, .int .i64 yc, .int .i64 xd, .int .i64 yd] := by rw [hW5]; exact (show Blk _ _ _ _ from KX2)
  have KZ5 : Blk W5 (w.heap.size + 1) 23 #[.int .i64 0, .int .i64 0] := by rw [hW5]; exact KZ2
  have KA5 : Blk W5 (w.heap.size + 1 + 1) 49 #[.int .i64 (k * k * k), .int .i64 (3 * i * k * k), .int .i64 (3 * i * i * k), .int .i64 (i * i * i)] := by rw [hW5]; exact KA2
  have B5 : Below w.heap.size w W5 := by rw [hW5]; exact B2
  have HD : ∀ V, Below W5.heap.size W5 V → V.cell? ⟨w.heap.size, 0, none⟩ = some (.int .i64 3) ∧ V.cell? ⟨w.heap.size, 1, none⟩ = some (.int .i64 xa) ∧ V.cell? ⟨w.heap.size, 2, none⟩ = some (.int .i64 ya) ∧ V.cell? ⟨w.heap.size, 3, none⟩ = some (.int .i64 xb) ∧ V.cell? ⟨w.heap.size, 4, none⟩ = some (.int .i64 yb) ∧ V.cell? ⟨w.heap.size, 5, none⟩ = some (.int .i64 xc) ∧ V.cell? ⟨w.heap.size, 6, none⟩ = some (.int .i64 yc) ∧ V.cell? ⟨w.heap.size, 7, none⟩ = some (.int .i64 xd) ∧ V.cell? ⟨w.heap.size, 8, none⟩ = some (.int .i64 yd) ∧ w.heap.size < V.heap.size := fun V hV => ⟨(KX5.below hV).cell 0, (KX5.below hV).cell 1, (KX5.below hV).cell 2, (KX5.below hV).cell 3, (KX5.below hV).cell 4, (KX5.below hV).cell 5, (KX5.below hV).cell 6, (KX5.below hV).cell 7, (KX5.below hV).cell 8, (KX5.below hV).lt⟩
  have HLD := Lib.hid (fun (V : World) (hV : Below W5.heap.size W5 V) => load_blk (P := Try.prog) (ty := 49) (KA5.below hV) Try.underlying49 rfl wInfo)
  have HZ5 := Lib.hid KZ5
  have HB5 := Lib.hid B5
  have HW5 := Lib.hid hW5
  have ekk : IntKind.i64.wrap (n - i) = k := by rw [IntWalk.i64_in _ (by omega)]; exact ek
  clear KX0 KZ0 KA0 KX1 KZ1 KA1 KX2 KZ2 KA2 B0 B1 B2 KX5 KZ5 KA5 B5 hW5 
  go_enter Try.func18, Try.ntmps18
  go_wp2_with (first | (refine wpList_build_toC rfl 49 #[(0, .tmp 13), (1, .const (.int .i64 0)), (2, .const (.int .i64 0)), (3, .tmp 14)] (by with_reducible rfl) [(0, .int .i64 k), (1, .int .i64 0), (2, .int .i64 0), (3, .int .i64 i)] (by rfl) #[.int .i64 k, .int .i64 0, .int .i64 0, .int .i64 i] BB1 ?_) | (refine wpList_store_row rfl 49 (.tmp 8) (.tmp 15) (by with_reducible rfl) (w.heap.size + 1 + 1) #[.int .i64 k, .int .i64 0, .int .i64 0, .int .i64 i] (by rfl) (by rfl) 49 #[.int .i64 0, .int .i64 0, .int .i64 0, .int .i64 0] (by exact HA0.out) wInfo rfl (by simp [Value.oneCell']) ?_) | (refine wpList_build_toC rfl 49 #[(0, .tmp 41), (1, .tmp 47), (2, .tmp 53), (3, .tmp 58)] (by with_reducible rfl) [(0, .int .i64 (k * k * k)), (1, .int .i64 (3 * i * k * k)), (2, .int .i64 (3 * i * i * k)), (3, .int .i64 (i * i * i))] (by rfl) #[.int .i64 (k * k * k), .int .i64 (3 * i * k * k), .int .i64 (3 * i * i * k), .int .i64 (i * i * i)] BB2 ?_) | (refine wpList_store_row rfl 49 (.tmp 8) (.tmp 59) (by with_reducible rfl) (w.heap.size + 1 + 1) #[.int .i64 (k * k * k), .int .i64 (3 * i * k * k), .int .i64 (3 * i * i * k), .int .i64 (i * i * i)] (by rfl) (by rfl) 49 #[.int .i64 k, .int .i64 0, .int .i64 0, .int .i64 i] (by exact HA1.out) wInfo rfl (by simp [Value.oneCell']) ?_))
  rw [← HW5.out]
  clear b0 bz0 b1 bz1 b2 bz2 b3 bz3 b4 bz4 b5 bz5 b6 bz6 b7 bz7 b8 bz8 c0 cz0 c1 cz1 c2 cz2 c3 cz3 c4 cz4 c5 cz5 c6 cz6 c7 cz7 c8 cz8 bl cl
  have hI : Below W5.heap.size W5 W5.drew := (Below.refl _ _).drew
  refine wp_region_chain_last (fun V => Below W5.heap.size W5 V) [(0, false), (1, false), (2, false), (3, false), (4, false), (5, false), (6, false), (7, false), (8, false), (9, false), (10, false), (11, false), (12, false), (13, false), (15, false), (16, false), (17, false), (18, false), (19, false), (20, false), (21, false), (22, false), (23, false), (24, false), (25, false), (26, false), (27, false), (28, false), (14, true), (29, true), (30, false)] _ _ (by rfl) (by rfl) (by kernel_rfl) (by kernel_rfl) hI ?_
  repeat (first
    | (refine ChainL.skip (o := ?_) ?_ ?_ ?_; rotate_left; (focus (first | (simp only [List.getElem?_toArray, List.getElem?_cons_succ, List.getElem?_cons_zero]; with_reducible rfl) | (simp only [List.getElem?_toArray, List.getElem?_cons_zero]; with_reducible rfl))); (focus rfl); simp only [Act.put, List.setIfInBounds_toArray, List.set_cons_zero, List.set_cons_succ])
    | (refine ChainL.val (o := ?_) (v := ?_) ?_ ?_ ?_ ?_ ?_; rotate_left 2; (focus (first | (simp only [List.getElem?_toArray, List.getElem?_cons_succ, List.getElem?_cons_zero]; with_reducible rfl) | (simp only [List.getElem?_toArray, List.getElem?_cons_zero]; with_reducible rfl))); (focus (intro _ _ h; cases h)); (focus rfl); (focus (intro w' hJ; have LD := HLD.out _ hJ; obtain ⟨y0, y1, y2, y3, y4, y5, y6, y7, y8, yl⟩ := HD _ hJ; first | (have H := fun ρ o x => @exec_load _ ρ o _ _ x _ _ LD; refine H _ _ ?_ ?_ ?_; rotate_left; (focus rfl); (focus rfl)) | (go_simp <;> with_reducible rfl))); simp only [Act.put, List.setIfInBounds_toArray, List.set_cons_zero, List.set_cons_succ]))
  refine ChainL.call (o := ?_) (f := ?_) (args := ?_) ?_ ?_ ?_ ?_
  rotate_left 3
  (focus (first | (simp only [List.getElem?_toArray, List.getElem?_cons_succ, List.getElem?_cons_zero]; with_reducible rfl) | (simp only [List.getElem?_toArray, List.getElem?_cons_zero]; with_reducible rfl)))
  (focus rfl)
  (focus (go_simp; (constructor <;> with_reducible rfl)))
  with_reducible refine (CX _).mono ?_
  rintro e w5 ⟨rfl, b5⟩
  have I5 := hI.trans (b5.mono hI.size)
  refine ⟨_, rfl, I5, ?_⟩
  simp only [Act.put, List.setIfInBounds_toArray, List.set_cons_zero, List.set_cons_succ]
  refine ChainL.call (o := ?_) (f := ?_) (args := ?_) ?_ ?_ ?_ ?_
  rotate_left 3
  (focus (first | (simp only [List.getElem?_toArray, List.getElem?_cons_succ, List.getElem?_cons_zero]; with_reducible rfl) | (simp only [List.getElem?_toArray, List.getElem?_cons_zero]; with_reducible rfl)))
  (focus rfl)
  (focus (go_simp; (constructor <;> with_reducible rfl)))
  with_reducible refine (CY _).mono ?_
  rintro e w6 ⟨rfl, b6⟩
  have I6 := I5.trans (b6.mono I5.size)
  refine ⟨_, rfl, I6, ?_⟩
  simp only [Act.put, List.setIfInBounds_toArray, List.set_cons_zero, List.set_cons_succ]
  repeat (first
    | (refine ChainL.skip (o := ?_) ?_ ?_ ?_; rotate_left; (focus (first | (simp only [List.getElem?_toArray, List.getElem?_cons_succ, List.getElem?_cons_zero]; with_reducible rfl) | (simp only [List.getElem?_toArray, List.getElem?_cons_zero]; with_reducible rfl))); (focus rfl); simp only [Act.put, List.setIfInBounds_toArray, List.set_cons_zero, List.set_cons_succ])
    | (refine ChainL.val (o := ?_) (v := ?_) ?_ ?_ ?_ ?_ ?_; rotate_left 2; (focus (first | (simp only [List.getElem?_toArray, List.getElem?_cons_succ, List.getElem?_cons_zero]; with_reducible rfl) | (simp only [List.getElem?_toArray, List.getElem?_cons_zero]; with_reducible rfl))); (focus (intro _ _ h; cases h)); (focus rfl); (focus (intro w' hJ; skip; go_simp <;> with_reducible rfl)); simp only [Act.put, List.setIfInBounds_toArray, List.set_cons_zero, List.set_cons_succ]))
  refine ChainL.nil ?_
  refine wp_store_row 23 _ _ rfl (w.heap.size + 1) #[.int .i64 rx, .int .i64 ry] rfl rfl 23 #[.int .i64 0, .int .i64 0] (HZ5.out.below I6) dtInfo rfl (by simp [Value.oneCell']) ?_
  simp only [Act.put]
  go_wp2
  exact bodyPost_ret (results_cell_row Try.results18 _ _ (w.heap.size + 1) 23 #[.int .i64 rx, .int .i64 ry] (0, 0) _ (by rfl) (show Blk _ _ _ _ from blk_row (HZ5.out.below I6) _) Try.underlying23 rfl dtInfo) rfl ⟨rfl, below_setRow (HB5.out.trans (I6.mono HB5.out.size)) (by omega) _⟩
theorem rat_any (c : Bw) (i n : Int) (h : mayW c = true) (i0 : 0 ≤ i) (i1 : i ≤ n) (n1 : 1 ≤ n) (n2 : n ≤ 512) (w : World) :
    Calls Try.prog 18 #[bwV c, .int .i64 i, .int .i64 n] w fun e w' => e = .returned (.agg #[.int .i64 (atW c i n).1, .int .i64 (atW c i n).2]) ∧ Below w.heap.size w w' := by
  obtain ⟨k, xa, ya, xb, yb, xc, yc, xd, yd⟩ := c
  unfold bwV atW at1
  dsimp only
  rcases kinds k with rfl | rfl | rfl | ⟨h1, h2, h3⟩
  · simp [mayW, plc] at h
    have C := rat_1 xa ya xb yb xc yc xd yd (farD_of h.1).1 (farD_of h.1).2 (farD_of h.2).1 (farD_of h.2).2 i n (n - i) rfl i0 (by omega) n1 n2 w
    simp only [Int.zero_mul, Int.add_zero] at C
    simpa using C
  · simp [mayW, plc] at h
    have C := rat_2 xa ya xb yb xc yc xd yd (farD_of h.1).1 (farD_of h.1).2 (farD_of h.2.1).1 (farD_of h.2.1).2 (farD_of h.2.2).1 (farD_of h.2.2).2 i n (n - i) rfl i0 (by omega) n1 n2 w
    simp only [Int.zero_mul, Int.add_zero] at C
    simpa using C
  · simp [mayW, plc] at h
    have C := rat_3 xa ya xb yb xc yc xd yd (farD_of h.1).1 (farD_of h.1).2 (farD_of h.2.1).1 (farD_of h.2.1).2 (farD_of h.2.2.1).1 (farD_of h.2.2.1).2 (farD_of h.2.2.2).1 (farD_of h.2.2.2).2 i n (n - i) rfl i0 (by omega) n1 n2 w
    simpa using C
  · exfalso; unfold mayW at h; rw [plc_0 (c := ⟨k, xa, ya, xb, yb, xc, yc, xd, yd⟩) h1 h2 h3] at h; cases h
end Go.Proofs.Ytngfillgndhfbaa
