/- CurveBends: how far any bow bends, and how many pieces it has, are as the document says; of a bow that may not be both are 0; for every bow. -/
import Derived.Test.YtngfillgndhfbaaCCv8

namespace Go.Proofs.Ytngfillgndhfbaa.curveBends
open Go Go.ChangeShapes Go.WideShapes Go.ChangeAt Go.RowKit
set_option linter.unusedVariables false
set_option linter.unusedSimpArgs false

set_option maxRecDepth 100000 in
set_option maxHeartbeats 4000000 in
theorem walk_true (c : Bw) (w : World) (hm : mayW c = true) : Calls Try.prog 3 #[bwV c] w fun e w' => e = .returned (.bool true) ∧ Below w.heap.size w w' := by
  have CB := fun W => cbend_any c W
  have CP := fun W => cpcs_any c W
  have CM := fun W => cmay_any c W
  have CRM := fun W => rcmay_any c W
  have CT := fun W => cturn_any c W
  have CRT := fun W => rcturn_any c W
  have CL := fun W => lives20 W
  have CRB := fun W => rbend_any c hm W
  have CRP := fun W => rpcs_any c hm W
  rw [hm] at CM CRM
  clear hm
  generalize trn c = tc at *
  have NB := fun W => neBw_run tc.k tc.xa tc.ya tc.xb tc.yb tc.xc tc.yc tc.xd tc.yd W
  have NG := fun x y W => neBw_guard #[.int .i64 tc.k, .int .i64 tc.xa, .int .i64 tc.ya, .int .i64 tc.xb, .int .i64 tc.yb, .int .i64 tc.xc, .int .i64 tc.yc, .int .i64 tc.xd, .int .i64 tc.yd] #[.int .i64 tc.k, .int .i64 tc.xa, .int .i64 tc.ya, .int .i64 tc.xb, .int .i64 tc.yb, .int .i64 tc.xc, .int .i64 tc.yc, .int .i64 tc.xd, .int .i64 tc.yd] x y W
  generalize bnW c = bn at *
  generalize pcW c = pn at *
  obtain ⟨k, xa, ya, xb, yb, xc, yc, xd, yd⟩ := c
  simp only [bwV] at *
  have KB := Blk.new w 25 #[.int .i64 k, .int .i64 xa, .int .i64 ya, .int .i64 xb, .int .i64 yb, .int .i64 xc, .int .i64 yc, .int .i64 xd, .int .i64 yd]
  have B0 := below_a1 w (.cells #[.int .i64 k, .int .i64 xa, .int .i64 ya, .int .i64 xb, .int .i64 yb, .int .i64 xc, .int .i64 yc, .int .i64 xd, .int .i64 yd] 25)
  obtain ⟨W0, hW0⟩ : ∃ W0, W0 = w.alloc (.cells #[.int .i64 k, .int .i64 xa, .int .i64 ya, .int .i64 xb, .int .i64 yb, .int .i64 xc, .int .i64 yc, .int .i64 xd, .int .i64 yd] 25) := ⟨_, rfl⟩
  rw [← hW0] at KB B0
  have HLD := Lib.hid (fun (V : World) (hV : Below W0.heap.size W0 V) => load_blk (P := Try.prog) (ty := 25) (KB.below hV) Try.underlying25 rfl bwInfo)
  have HKB := Lib.hid KB
  have HB0 := Lib.hid B0
  have HW0 := Lib.hid hW0
  clear KB B0 hW0

  go_enter Try.func3, Try.ntmps3
  go_wp2
  rw [← HW0.out]
  have hI : Below W0.heap.size W0 W0.drew := (Below.refl _ _).drew
  refine wp_region_chain (fun V => Below W0.heap.size W0 V) [(0, false), (2, false), (1, true), (3, true), (4, false), (5, false)] (by kernel_rfl) (by kernel_rfl) hI ?_
  repeat (first
    | (refine ChainL.skip (o := ?_) ?_ ?_ ?_; rotate_left; (focus (first | (simp only [List.getElem?_toArray, List.getElem?_cons_succ, List.getElem?_cons_zero]; with_reducible rfl) | (simp only [List.getElem?_toArray, List.getElem?_cons_zero]; with_reducible rfl))); (focus rfl); simp only [Act.put, List.setIfInBounds_toArray, List.set_cons_zero, List.set_cons_succ])
    | (refine ChainL.val (o := ?_) (v := ?_) ?_ ?_ ?_ ?_ ?_; rotate_left 2; (focus (first | (simp only [List.getElem?_toArray, List.getElem?_cons_succ, List.getElem?_cons_zero]; with_reducible rfl) | (simp only [List.getElem?_toArray, List.getElem?_cons_zero]; with_reducible rfl))); (focus (intro _ _ h; cases h)); (focus rfl); (focus (intro w' hJ; have LD := HLD.out _ hJ; first | (have H := fun ρ o x => @exec_load _ ρ o _ _ x _ _ LD; refine H _ _ ?_ ?_ ?_; rotate_left; (focus rfl); (focus rfl)) | (go_simp <;> with_reducible rfl))); simp only [Act.put, List.setIfInBounds_toArray, List.set_cons_zero, List.set_cons_succ]))
  refine ChainL.call (o := ?_) (f := ?_) (args := ?_) ?_ ?_ ?_ ?_
  rotate_left 3
  (focus (first | (simp only [List.getElem?_toArray, List.getElem?_cons_succ, List.getElem?_cons_zero]; with_reducible rfl) | (simp only [List.getElem?_toArray, List.getElem?_cons_zero]; with_reducible rfl)))
  (focus rfl)
  (focus (go_simp; (constructor <;> with_reducible rfl)))
  with_reducible refine (CB _).mono ?_
  rintro e wc1 ⟨rfl, bc1⟩
  have hI1 := hI.trans (bc1.mono hI.size)
  refine ⟨_, rfl, hI1, ?_⟩
  simp only [Act.put, List.setIfInBounds_toArray, List.set_cons_zero, List.set_cons_succ]
  refine ChainL.call (o := ?_) (f := ?_) (args := ?_) ?_ ?_ ?_ ?_
  rotate_left 3
  (focus (first | (simp only [List.getElem?_toArray, List.getElem?_cons_succ, List.getElem?_cons_zero]; with_reducible rfl) | (simp only [List.getElem?_toArray, List.getElem?_cons_zero]; with_reducible rfl)))
  (focus rfl)
  (focus (go_simp; (constructor <;> with_reducible rfl)))
  with_reducible refine (CP _).mono ?_
  rintro e wc2 ⟨rfl, bc2⟩
  have hI2 := hI1.trans (bc2.mono hI1.size)
  refine ⟨_, rfl, hI2, ?_⟩
  simp only [Act.put, List.setIfInBounds_toArray, List.set_cons_zero, List.set_cons_succ]
  repeat (first
    | (refine ChainL.skip (o := ?_) ?_ ?_ ?_; rotate_left; (focus (first | (simp only [List.getElem?_toArray, List.getElem?_cons_succ, List.getElem?_cons_zero]; with_reducible rfl) | (simp only [List.getElem?_toArray, List.getElem?_cons_zero]; with_reducible rfl))); (focus rfl); simp only [Act.put, List.setIfInBounds_toArray, List.set_cons_zero, List.set_cons_succ])
    | (refine ChainL.val (o := ?_) (v := ?_) ?_ ?_ ?_ ?_ ?_; rotate_left 2; (focus (first | (simp only [List.getElem?_toArray, List.getElem?_cons_succ, List.getElem?_cons_zero]; with_reducible rfl) | (simp only [List.getElem?_toArray, List.getElem?_cons_zero]; with_reducible rfl))); (focus (intro _ _ h; cases h)); (focus rfl); (focus (intro w' hJ; have LD := HLD.out _ hJ; first | (have H := fun ρ o x => @exec_load _ ρ o _ _ x _ _ LD; refine H _ _ ?_ ?_ ?_; rotate_left; (focus rfl); (focus rfl)) | (go_simp <;> with_reducible rfl))); simp only [Act.put, List.setIfInBounds_toArray, List.set_cons_zero, List.set_cons_succ]))
  refine ChainL.nil ?_
  go_wp2
  have hG := hI2.drew
  refine wp_region_chain (fun V => Below W0.heap.size W0 V) [(0, true), (1, false), (2, false), (3, false), (5, false), (4, true), (6, true), (7, false), (8, false), (9, false), (10, false), (12, false), (11, true), (13, true), (14, false), (15, false)] (by kernel_rfl) (by kernel_rfl) hG ?_
  refine ChainL.call (o := ?_) (f := ?_) (args := ?_) ?_ ?_ ?_ ?_
  rotate_left 3
  (focus (first | (simp only [List.getElem?_toArray, List.getElem?_cons_succ, List.getElem?_cons_zero]; with_reducible rfl) | (simp only [List.getElem?_toArray, List.getElem?_cons_zero]; with_reducible rfl)))
  (focus rfl)
  (focus (go_simp; (constructor <;> with_reducible rfl)))
  with_reducible refine (CL _).mono ?_
  rintro e wc1 ⟨rfl, bc1⟩
  have hG1 := hG.trans (bc1.mono hG.size)
  refine ⟨_, rfl, hG1, ?_⟩
  simp only [Act.put, List.setIfInBounds_toArray, List.set_cons_zero, List.set_cons_succ]
  repeat (first
    | (refine ChainL.skip (o := ?_) ?_ ?_ ?_; rotate_left; (focus (first | (simp only [List.getElem?_toArray, List.getElem?_cons_succ, List.getElem?_cons_zero]; with_reducible rfl) | (simp only [List.getElem?_toArray, List.getElem?_cons_zero]; with_reducible rfl))); (focus rfl); simp only [Act.put, List.setIfInBounds_toArray, List.set_cons_zero, List.set_cons_succ])
    | (refine ChainL.val (o := ?_) (v := ?_) ?_ ?_ ?_ ?_ ?_; rotate_left 2; (focus (first | (simp only [List.getElem?_toArray, List.getElem?_cons_succ, List.getElem?_cons_zero]; with_reducible rfl) | (simp only [List.getElem?_toArray, List.getElem?_cons_zero]; with_reducible rfl))); (focus (intro _ _ h; cases h)); (focus rfl); (focus (intro w' hJ; have LD := HLD.out _ hJ; have nb := NB; have ng := NG; first | (have H := fun ρ o x => @exec_load _ ρ o _ _ x _ _ LD; refine H _ _ ?_ ?_ ?_; rotate_left; (focus rfl); (focus rfl)) | (go_simp <;> with_reducible rfl))); simp only [Act.put, List.setIfInBounds_toArray, List.set_cons_zero, List.set_cons_succ]))
  refine ChainL.call (o := ?_) (f := ?_) (args := ?_) ?_ ?_ ?_ ?_
  rotate_left 3
  (focus (first | (simp only [List.getElem?_toArray, List.getElem?_cons_succ, List.getElem?_cons_zero]; with_reducible rfl) | (simp only [List.getElem?_toArray, List.getElem?_cons_zero]; with_reducible rfl)))
  (focus rfl)
  (focus (go_simp; (constructor <;> with_reducible rfl)))
  with_reducible refine (CM _).mono ?_
  rintro e wc2 ⟨rfl, bc2⟩
  have hG2 := hG1.trans (bc2.mono hG1.size)
  refine ⟨_, rfl, hG2, ?_⟩
  simp only [Act.put, List.setIfInBounds_toArray, List.set_cons_zero, List.set_cons_succ]
  refine ChainL.call (o := ?_) (f := ?_) (args := ?_) ?_ ?_ ?_ ?_
  rotate_left 3
  (focus (first | (simp only [List.getElem?_toArray, List.getElem?_cons_succ, List.getElem?_cons_zero]; with_reducible rfl) | (simp only [List.getElem?_toArray, List.getElem?_cons_zero]; with_reducible rfl)))
  (focus rfl)
  (focus (go_simp; (constructor <;> with_reducible rfl)))
  with_reducible refine (CRM _).mono ?_
  rintro e wc3 ⟨rfl, bc3⟩
  have hG3 := hG2.trans (bc3.mono hG2.size)
  refine ⟨_, rfl, hG3, ?_⟩
  simp only [Act.put, List.setIfInBounds_toArray, List.set_cons_zero, List.set_cons_succ]
  repeat (first
    | (refine ChainL.skip (o := ?_) ?_ ?_ ?_; rotate_left; (focus (first | (simp only [List.getElem?_toArray, List.getElem?_cons_succ, List.getElem?_cons_zero]; with_reducible rfl) | (simp only [List.getElem?_toArray, List.getElem?_cons_zero]; with_reducible rfl))); (focus rfl); simp only [Act.put, List.setIfInBounds_toArray, List.set_cons_zero, List.set_cons_succ])
    | (refine ChainL.val (o := ?_) (v := ?_) ?_ ?_ ?_ ?_ ?_; rotate_left 2; (focus (first | (simp only [List.getElem?_toArray, List.getElem?_cons_succ, List.getElem?_cons_zero]; with_reducible rfl) | (simp only [List.getElem?_toArray, List.getElem?_cons_zero]; with_reducible rfl))); (focus (intro _ _ h; cases h)); (focus rfl); (focus (intro w' hJ; have LD := HLD.out _ hJ; have nb := NB; have ng := NG; first | (have H := fun ρ o x => @exec_load _ ρ o _ _ x _ _ LD; refine H _ _ ?_ ?_ ?_; rotate_left; (focus rfl); (focus rfl)) | (go_simp <;> with_reducible rfl))); simp only [Act.put, List.setIfInBounds_toArray, List.set_cons_zero, List.set_cons_succ]))
  refine ChainL.call (o := ?_) (f := ?_) (args := ?_) ?_ ?_ ?_ ?_
  rotate_left 3
  (focus (first | (simp only [List.getElem?_toArray, List.getElem?_cons_succ, List.getElem?_cons_zero]; with_reducible rfl) | (simp only [List.getElem?_toArray, List.getElem?_cons_zero]; with_reducible rfl)))
  (focus rfl)
  (focus (go_simp; (constructor <;> with_reducible rfl)))
  with_reducible refine (CT _).mono ?_
  rintro e wc4 ⟨rfl, bc4⟩
  have hG4 := hG3.trans (bc4.mono hG3.size)
  refine ⟨_, rfl, hG4, ?_⟩
  simp only [Act.put, List.setIfInBounds_toArray, List.set_cons_zero, List.set_cons_succ]
  refine ChainL.call (o := ?_) (f := ?_) (args := ?_) ?_ ?_ ?_ ?_
  rotate_left 3
  (focus (first | (simp only [List.getElem?_toArray, List.getElem?_cons_succ, List.getElem?_cons_zero]; with_reducible rfl) | (simp only [List.getElem?_toArray, List.getElem?_cons_zero]; with_reducible rfl)))
  (focus rfl)
  (focus (go_simp; (constructor <;> with_reducible rfl)))
  with_reducible refine (CRT _).mono ?_
  rintro e wc5 ⟨rfl, bc5⟩
  have hG5 := hG4.trans (bc5.mono hG4.size)
  refine ⟨_, rfl, hG5, ?_⟩
  simp only [Act.put, List.setIfInBounds_toArray, List.set_cons_zero, List.set_cons_succ]
  repeat (first
    | (refine ChainL.skip (o := ?_) ?_ ?_ ?_; rotate_left; (focus (first | (simp only [List.getElem?_toArray, List.getElem?_cons_succ, List.getElem?_cons_zero]; with_reducible rfl) | (simp only [List.getElem?_toArray, List.getElem?_cons_zero]; with_reducible rfl))); (focus rfl); simp only [Act.put, List.setIfInBounds_toArray, List.set_cons_zero, List.set_cons_succ])
    | (refine ChainL.val (o := ?_) (v := ?_) ?_ ?_ ?_ ?_ ?_; rotate_left 2; (focus (first | (simp only [List.getElem?_toArray, List.getElem?_cons_succ, List.getElem?_cons_zero]; with_reducible rfl) | (simp only [List.getElem?_toArray, List.getElem?_cons_zero]; with_reducible rfl))); (focus (intro _ _ h; cases h)); (focus rfl); (focus (intro w' hJ; have LD := HLD.out _ hJ; have nb := NB; have ng := NG; first | (have H := fun ρ o x => @exec_load _ ρ o _ _ x _ _ LD; refine H _ _ ?_ ?_ ?_; rotate_left; (focus rfl); (focus rfl)) | (go_simp <;> with_reducible rfl))); simp only [Act.put, List.setIfInBounds_toArray, List.set_cons_zero, List.set_cons_succ]))
  refine ChainL.nil ?_
  have hK := hG5
  have KV := HKB.out.below hK
  have kc := KV.lt; have k0 := KV.cell 0; have k1 := KV.cell 1; have k2 := KV.cell 2; have k3 := KV.cell 3; have k4 := KV.cell 4; have k5 := KV.cell 5; have k6 := KV.cell 6; have k7 := KV.cell 7; have k8 := KV.cell 8; simp only [bwL, List.getElem?_toArray, List.getElem?_cons_succ, List.getElem?_cons_zero] at k0 k1 k2 k3 k4 k5 k6 k7 k8
  go_wp2_with (first | (go_at_call 12; ((with_reducible refine (CRM _).mono ?_); rintro e w' ⟨rfl, b1⟩; have hK := Below.trans hK (b1.mono hK.size); have KV := HKB.out.below hK; have kc := KV.lt; have k0 := KV.cell 0; have k1 := KV.cell 1; have k2 := KV.cell 2; have k3 := KV.cell 3; have k4 := KV.cell 4; have k5 := KV.cell 5; have k6 := KV.cell 6; have k7 := KV.cell 7; have k8 := KV.cell 8; simp only [bwL, List.getElem?_toArray, List.getElem?_cons_succ, List.getElem?_cons_zero] at k0 k1 k2 k3 k4 k5 k6 k7 k8)) | (go_at_call 15; ((with_reducible refine (CRB _).mono ?_); rintro e w' ⟨rfl, b1⟩; have hK := Below.trans hK (b1.mono hK.size); have KV := HKB.out.below hK; have kc := KV.lt; have k0 := KV.cell 0; have k1 := KV.cell 1; have k2 := KV.cell 2; have k3 := KV.cell 3; have k4 := KV.cell 4; have k5 := KV.cell 5; have k6 := KV.cell 6; have k7 := KV.cell 7; have k8 := KV.cell 8; simp only [bwL, List.getElem?_toArray, List.getElem?_cons_succ, List.getElem?_cons_zero] at k0 k1 k2 k3 k4 k5 k6 k7 k8)) | (go_at_call 16; ((with_reducible refine (CRP _).mono ?_); rintro e w' ⟨rfl, b1⟩; have hK := Below.trans hK (b1.mono hK.size); have KV := HKB.out.below hK; have kc := KV.lt; have k0 := KV.cell 0; have k1 := KV.cell 1; have k2 := KV.cell 2; have k3 := KV.cell 3; have k4 := KV.cell 4; have k5 := KV.cell 5; have k6 := KV.cell 6; have k7 := KV.cell 7; have k8 := KV.cell 8; simp only [bwL, List.getElem?_toArray, List.getElem?_cons_succ, List.getElem?_cons_zero] at k0 k1 k2 k3 k4 k5 k6 k7 k8)))
  go_ret
  exact ⟨rfl, HB0.out.trans (hK.mono HB0.out.size)⟩
set_option maxRecDepth 100000 in
set_option maxHeartbeats 4000000 in
theorem walk_false (c : Bw) (w : World) (hm : mayW c = false) : Calls Try.prog 3 #[bwV c] w fun e w' => e = .returned (.bool true) ∧ Below w.heap.size w w' := by
  have CB := fun W => cbend_any c W
  have CP := fun W => cpcs_any c W
  have CM := fun W => cmay_any c W
  have CRM := fun W => rcmay_any c W
  have CT := fun W => cturn_any c W
  have CRT := fun W => rcturn_any c W
  have CL := fun W => lives20 W
  rw [show bnW c = 0 by unfold bnW; rw [hm]; rfl] at CB
  rw [show pcW c = 0 by unfold pcW; rw [hm]; rfl] at CP
  rw [hm] at CM CRM
  clear hm
  generalize trn c = tc at *
  have NB := fun W => neBw_run tc.k tc.xa tc.ya tc.xb tc.yb tc.xc tc.yc tc.xd tc.yd W
  have NG := fun x y W => neBw_guard #[.int .i64 tc.k, .int .i64 tc.xa, .int .i64 tc.ya, .int .i64 tc.xb, .int .i64 tc.yb, .int .i64 tc.xc, .int .i64 tc.yc, .int .i64 tc.xd, .int .i64 tc.yd] #[.int .i64 tc.k, .int .i64 tc.xa, .int .i64 tc.ya, .int .i64 tc.xb, .int .i64 tc.yb, .int .i64 tc.xc, .int .i64 tc.yc, .int .i64 tc.xd, .int .i64 tc.yd] x y W

  obtain ⟨k, xa, ya, xb, yb, xc, yc, xd, yd⟩ := c
  simp only [bwV] at *
  have KB := Blk.new w 25 #[.int .i64 k, .int .i64 xa, .int .i64 ya, .int .i64 xb, .int .i64 yb, .int .i64 xc, .int .i64 yc, .int .i64 xd, .int .i64 yd]
  have B0 := below_a1 w (.cells #[.int .i64 k, .int .i64 xa, .int .i64 ya, .int .i64 xb, .int .i64 yb, .int .i64 xc, .int .i64 yc, .int .i64 xd, .int .i64 yd] 25)
  obtain ⟨W0, hW0⟩ : ∃ W0, W0 = w.alloc (.cells #[.int .i64 k, .int .i64 xa, .int .i64 ya, .int .i64 xb, .int .i64 yb, .int .i64 xc, .int .i64 yc, .int .i64 xd, .int .i64 yd] 25) := ⟨_, rfl⟩
  rw [← hW0] at KB B0
  have HLD := Lib.hid (fun (V : World) (hV : Below W0.heap.size W0 V) => load_blk (P := Try.prog) (ty := 25) (KB.below hV) Try.underlying25 rfl bwInfo)
  have HKB := Lib.hid KB
  have HB0 := Lib.hid B0
  have HW0 := Lib.hid hW0
  clear KB B0 hW0

  go_enter Try.func3, Try.ntmps3
  go_wp2
  rw [← HW0.out]
  have hI : Below W0.heap.size W0 W0.drew := (Below.refl _ _).drew
  refine wp_region_chain (fun V => Below W0.heap.size W0 V) [(0, false), (2, false), (1, true), (3, true), (4, false), (5, false)] (by kernel_rfl) (by kernel_rfl) hI ?_
  repeat (first
    | (refine ChainL.skip (o := ?_) ?_ ?_ ?_; rotate_left; (focus (first | (simp only [List.getElem?_toArray, List.getElem?_cons_succ, List.getElem?_cons_zero]; with_reducible rfl) | (simp only [List.getElem?_toArray, List.getElem?_cons_zero]; with_reducible rfl))); (focus rfl); simp only [Act.put, List.setIfInBounds_toArray, List.set_cons_zero, List.set_cons_succ])
    | (refine ChainL.val (o := ?_) (v := ?_) ?_ ?_ ?_ ?_ ?_; rotate_left 2; (focus (first | (simp only [List.getElem?_toArray, List.getElem?_cons_succ, List.getElem?_cons_zero]; with_reducible rfl) | (simp only [List.getElem?_toArray, List.getElem?_cons_zero]; with_reducible rfl))); (focus (intro _ _ h; cases h)); (focus rfl); (focus (intro w' hJ; have LD := HLD.out _ hJ; first | (have H := fun ρ o x => @exec_load _ ρ o _ _ x _ _ LD; refine H _ _ ?_ ?_ ?_; rotate_left; (focus rfl); (focus rfl)) | (go_simp <;> with_reducible rfl))); simp only [Act.put, List.setIfInBounds_toArray, List.set_cons_zero, List.set_cons_succ]))
  refine ChainL.call (o := ?_) (f := ?_) (args := ?_) ?_ ?_ ?_ ?_
  rotate_left 3
  (focus (first | (simp only [List.getElem?_toArray, List.getElem?_cons_succ, List.getElem?_cons_zero]; with_reducible rfl) | (simp only [List.getElem?_toArray, List.getElem?_cons_zero]; with_reducible rfl)))
  (focus rfl)
  (focus (go_simp; (constructor <;> with_reducible rfl)))
  with_reducible refine (CB _).mono ?_
  rintro e wc1 ⟨rfl, bc1⟩
  have hI1 := hI.trans (bc1.mono hI.size)
  refine ⟨_, rfl, hI1, ?_⟩
  simp only [Act.put, List.setIfInBounds_toArray, List.set_cons_zero, List.set_cons_succ]
  refine ChainL.call (o := ?_) (f := ?_) (args := ?_) ?_ ?_ ?_ ?_
  rotate_left 3
  (focus (first | (simp only [List.getElem?_toArray, List.getElem?_cons_succ, List.getElem?_cons_zero]; with_reducible rfl) | (simp only [List.getElem?_toArray, List.getElem?_cons_zero]; with_reducible rfl)))
  (focus rfl)
  (focus (go_simp; (constructor <;> with_reducible rfl)))
  with_reducible refine (CP _).mono ?_
  rintro e wc2 ⟨rfl, bc2⟩
  have hI2 := hI1.trans (bc2.mono hI1.size)
  refine ⟨_, rfl, hI2, ?_⟩
  simp only [Act.put, List.setIfInBounds_toArray, List.set_cons_zero, List.set_cons_succ]
  repeat (first
    | (refine ChainL.skip (o := ?_) ?_ ?_ ?_; rotate_left; (focus (first | (simp only [List.getElem?_toArray, List.getElem?_cons_succ, List.getElem?_cons_zero]; with_reducible rfl) | (simp only [List.getElem?_toArray, List.getElem?_cons_zero]; with_reducible rfl))); (focus rfl); simp only [Act.put, List.setIfInBounds_toArray, List.set_cons_zero, List.set_cons_succ])
    | (refine ChainL.val (o := ?_) (v := ?_) ?_ ?_ ?_ ?_ ?_; rotate_left 2; (focus (first | (simp only [List.getElem?_toArray, List.getElem?_cons_succ, List.getElem?_cons_zero]; with_reducible rfl) | (simp only [List.getElem?_toArray, List.getElem?_cons_zero]; with_reducible rfl))); (focus (intro _ _ h; cases h)); (focus rfl); (focus (intro w' hJ; have LD := HLD.out _ hJ; first | (have H := fun ρ o x => @exec_load _ ρ o _ _ x _ _ LD; refine H _ _ ?_ ?_ ?_; rotate_left; (focus rfl); (focus rfl)) | (go_simp <;> with_reducible rfl))); simp only [Act.put, List.setIfInBounds_toArray, List.set_cons_zero, List.set_cons_succ]))
  refine ChainL.nil ?_
  go_wp2
  have hG := hI2.drew
  refine wp_region_chain (fun V => Below W0.heap.size W0 V) [(0, true), (1, false), (2, false), (3, false), (5, false), (4, true), (6, true), (7, false), (8, false), (9, false), (10, false), (12, false), (11, true), (13, true), (14, false), (15, false)] (by kernel_rfl) (by kernel_rfl) hG ?_
  refine ChainL.call (o := ?_) (f := ?_) (args := ?_) ?_ ?_ ?_ ?_
  rotate_left 3
  (focus (first | (simp only [List.getElem?_toArray, List.getElem?_cons_succ, List.getElem?_cons_zero]; with_reducible rfl) | (simp only [List.getElem?_toArray, List.getElem?_cons_zero]; with_reducible rfl)))
  (focus rfl)
  (focus (go_simp; (constructor <;> with_reducible rfl)))
  with_reducible refine (CL _).mono ?_
  rintro e wc1 ⟨rfl, bc1⟩
  have hG1 := hG.trans (bc1.mono hG.size)
  refine ⟨_, rfl, hG1, ?_⟩
  simp only [Act.put, List.setIfInBounds_toArray, List.set_cons_zero, List.set_cons_succ]
  repeat (first
    | (refine ChainL.skip (o := ?_) ?_ ?_ ?_; rotate_left; (focus (first | (simp only [List.getElem?_toArray, List.getElem?_cons_succ, List.getElem?_cons_zero]; with_reducible rfl) | (simp only [List.getElem?_toArray, List.getElem?_cons_zero]; with_reducible rfl))); (focus rfl); simp only [Act.put, List.setIfInBounds_toArray, List.set_cons_zero, List.set_cons_succ])
    | (refine ChainL.val (o := ?_) (v := ?_) ?_ ?_ ?_ ?_ ?_; rotate_left 2; (focus (first | (simp only [List.getElem?_toArray, List.getElem?_cons_succ, List.getElem?_cons_zero]; with_reducible rfl) | (simp only [List.getElem?_toArray, List.getElem?_cons_zero]; with_reducible rfl))); (focus (intro _ _ h; cases h)); (focus rfl); (focus (intro w' hJ; have LD := HLD.out _ hJ; have nb := NB; have ng := NG; first | (have H := fun ρ o x => @exec_load _ ρ o _ _ x _ _ LD; refine H _ _ ?_ ?_ ?_; rotate_left; (focus rfl); (focus rfl)) | (go_simp <;> with_reducible rfl))); simp only [Act.put, List.setIfInBounds_toArray, List.set_cons_zero, List.set_cons_succ]))
  refine ChainL.call (o := ?_) (f := ?_) (args := ?_) ?_ ?_ ?_ ?_
  rotate_left 3
  (focus (first | (simp only [List.getElem?_toArray, List.getElem?_cons_succ, List.getElem?_cons_zero]; with_reducible rfl) | (simp only [List.getElem?_toArray, List.getElem?_cons_zero]; with_reducible rfl)))
  (focus rfl)
  (focus (go_simp; (constructor <;> with_reducible rfl)))
  with_reducible refine (CM _).mono ?_
  rintro e wc2 ⟨rfl, bc2⟩
  have hG2 := hG1.trans (bc2.mono hG1.size)
  refine ⟨_, rfl, hG2, ?_⟩
  simp only [Act.put, List.setIfInBounds_toArray, List.set_cons_zero, List.set_cons_succ]
  refine ChainL.call (o := ?_) (f := ?_) (args := ?_) ?_ ?_ ?_ ?_
  rotate_left 3
  (focus (first | (simp only [List.getElem?_toArray, List.getElem?_cons_succ, List.getElem?_cons_zero]; with_reducible rfl) | (simp only [List.getElem?_toArray, List.getElem?_cons_zero]; with_reducible rfl)))
  (focus rfl)
  (focus (go_simp; (constructor <;> with_reducible rfl)))
  with_reducible refine (CRM _).mono ?_
  rintro e wc3 ⟨rfl, bc3⟩
  have hG3 := hG2.trans (bc3.mono hG2.size)
  refine ⟨_, rfl, hG3, ?_⟩
  simp only [Act.put, List.setIfInBounds_toArray, List.set_cons_zero, List.set_cons_succ]
  repeat (first
    | (refine ChainL.skip (o := ?_) ?_ ?_ ?_; rotate_left; (focus (first | (simp only [List.getElem?_toArray, List.getElem?_cons_succ, List.getElem?_cons_zero]; with_reducible rfl) | (simp only [List.getElem?_toArray, List.getElem?_cons_zero]; with_reducible rfl))); (focus rfl); simp only [Act.put, List.setIfInBounds_toArray, List.set_cons_zero, List.set_cons_succ])
    | (refine ChainL.val (o := ?_) (v := ?_) ?_ ?_ ?_ ?_ ?_; rotate_left 2; (focus (first | (simp only [List.getElem?_toArray, List.getElem?_cons_succ, List.getElem?_cons_zero]; with_reducible rfl) | (simp only [List.getElem?_toArray, List.getElem?_cons_zero]; with_reducible rfl))); (focus (intro _ _ h; cases h)); (focus rfl); (focus (intro w' hJ; have LD := HLD.out _ hJ; have nb := NB; have ng := NG; first | (have H := fun ρ o x => @exec_load _ ρ o _ _ x _ _ LD; refine H _ _ ?_ ?_ ?_; rotate_left; (focus rfl); (focus rfl)) | (go_simp <;> with_reducible rfl))); simp only [Act.put, List.setIfInBounds_toArray, List.set_cons_zero, List.set_cons_succ]))
  refine ChainL.call (o := ?_) (f := ?_) (args := ?_) ?_ ?_ ?_ ?_
  rotate_left 3
  (focus (first | (simp only [List.getElem?_toArray, List.getElem?_cons_succ, List.getElem?_cons_zero]; with_reducible rfl) | (simp only [List.getElem?_toArray, List.getElem?_cons_zero]; with_reducible rfl)))
  (focus rfl)
  (focus (go_simp; (constructor <;> with_reducible rfl)))
  with_reducible refine (CT _).mono ?_
  rintro e wc4 ⟨rfl, bc4⟩
  have hG4 := hG3.trans (bc4.mono hG3.size)
  refine ⟨_, rfl, hG4, ?_⟩
  simp only [Act.put, List.setIfInBounds_toArray, List.set_cons_zero, List.set_cons_succ]
  refine ChainL.call (o := ?_) (f := ?_) (args := ?_) ?_ ?_ ?_ ?_
  rotate_left 3
  (focus (first | (simp only [List.getElem?_toArray, List.getElem?_cons_succ, List.getElem?_cons_zero]; with_reducible rfl) | (simp only [List.getElem?_toArray, List.getElem?_cons_zero]; with_reducible rfl)))
  (focus rfl)
  (focus (go_simp; (constructor <;> with_reducible rfl)))
  with_reducible refine (CRT _).mono ?_
  rintro e wc5 ⟨rfl, bc5⟩
  have hG5 := hG4.trans (bc5.mono hG4.size)
  refine ⟨_, rfl, hG5, ?_⟩
  simp only [Act.put, List.setIfInBounds_toArray, List.set_cons_zero, List.set_cons_succ]
  repeat (first
    | (refine ChainL.skip (o := ?_) ?_ ?_ ?_; rotate_left; (focus (first | (simp only [List.getElem?_toArray, List.getElem?_cons_succ, List.getElem?_cons_zero]; with_reducible rfl) | (simp only [List.getElem?_toArray, List.getElem?_cons_zero]; with_reducible rfl))); (focus rfl); simp only [Act.put, List.setIfInBounds_toArray, List.set_cons_zero, List.set_cons_succ])
    | (refine ChainL.val (o := ?_) (v := ?_) ?_ ?_ ?_ ?_ ?_; rotate_left 2; (focus (first | (simp only [List.getElem?_toArray, List.getElem?_cons_succ, List.getElem?_cons_zero]; with_reducible rfl) | (simp only [List.getElem?_toArray, List.getElem?_cons_zero]; with_reducible rfl))); (focus (intro _ _ h; cases h)); (focus rfl); (focus (intro w' hJ; have LD := HLD.out _ hJ; have nb := NB; have ng := NG; first | (have H := fun ρ o x => @exec_load _ ρ o _ _ x _ _ LD; refine H _ _ ?_ ?_ ?_; rotate_left; (focus rfl); (focus rfl)) | (go_simp <;> with_reducible rfl))); simp only [Act.put, List.setIfInBounds_toArray, List.set_cons_zero, List.set_cons_succ]))
  refine ChainL.nil ?_
  have hK := hG5
  have KV := HKB.out.below hK
  have kc := KV.lt; have k0 := KV.cell 0; have k1 := KV.cell 1; have k2 := KV.cell 2; have k3 := KV.cell 3; have k4 := KV.cell 4; have k5 := KV.cell 5; have k6 := KV.cell 6; have k7 := KV.cell 7; have k8 := KV.cell 8; simp only [bwL, List.getElem?_toArray, List.getElem?_cons_succ, List.getElem?_cons_zero] at k0 k1 k2 k3 k4 k5 k6 k7 k8
  go_wp2_with (first | (go_at_call 12; ((with_reducible refine (CRM _).mono ?_); rintro e w' ⟨rfl, b1⟩; have hK := Below.trans hK (b1.mono hK.size); have KV := HKB.out.below hK; have kc := KV.lt; have k0 := KV.cell 0; have k1 := KV.cell 1; have k2 := KV.cell 2; have k3 := KV.cell 3; have k4 := KV.cell 4; have k5 := KV.cell 5; have k6 := KV.cell 6; have k7 := KV.cell 7; have k8 := KV.cell 8; simp only [bwL, List.getElem?_toArray, List.getElem?_cons_succ, List.getElem?_cons_zero] at k0 k1 k2 k3 k4 k5 k6 k7 k8)))
  go_ret
  exact ⟨rfl, HB0.out.trans (hK.mono HB0.out.size)⟩
theorem walk (c : Bw) (w : World) : Calls Try.prog 3 #[bwV c] w fun e w' => e = .returned (.bool true) ∧ Below w.heap.size w w' := by
  cases hm : mayW c
  · exact walk_false c w hm
  · exact walk_true c w hm

set_option linter.unusedVariables false in
set_option maxRecDepth 100000 in
theorem lifted (os : Os) (started : os.Started) (H : Type) (enc : TypeId × Value → H) :
    ReturnsInHanded {} Try.checked os 3 .any (Rows.curveBendsSpec.pre6 enc Try.prog Try.f3 Rows.curveBendsRow.domain false) (Rows.curveBendsSpec.post enc Try.prog Try.f3 false true false false) := by
  refine returnsInHanded_of_change (C := Try.checked) Try.own started (by kernel_rfl) Try.func3
    (ChangeSpec.witness6 (enc := enc) (C := Try.checked) false ⟨#[], #[.agg #[.int .i64 0, .int .i64 0, .int .i64 0, .int .i64 0, .int .i64 0, .int .i64 0, .int .i64 0, .int .i64 0, .int .i64 0]], []⟩ 8 (by kernel_rfl) (by kernel_rfl) (by kernel_rfl) (by kernel_rfl)) ?_
  intro W base args ds gs before hval0 hW hcnd _
  have hval : ∀ (j : Nat) t v, Try.f3.params[j]? = some t → args[j]? = some v → Value.okWide Try.prog W .any base t v := hval0
  have hW' := hW
  obtain ⟨p, q, hA0, hV, rfl, hfz, hnd⟩ := hW
  have hA : DataW.TrodAll enc Try.prog W 0 (fun _ => true) true Try.f3.params.toList args.toList ds p := hA0
  rw [Try.params3] at hA hval
  obtain ⟨v0, vs0, d0, ds0, p0, q0, hargs, rfl, rfl, h0, r0⟩ := trodAll_cons hA
  obtain ⟨rfl, rfl, rfl⟩ := trodAll_nil r0
  obtain rfl : args = #[v0] := by cases args; simp_all
  obtain ⟨rfl, rfl⟩ := trodVars_none hV
  obtain ⟨c0, rfl⟩ := open_bow (hval 0 25 v0 rfl rfl) h0
  clear hA0 hval0
  simp only [List.append_nil] at hW'
  refine (walk c0 W).mono fun e W' ⟨he, hg⟩ => ?_
  subst he
  exact ⟨_, rfl, law_post Try.laidOut rfl Try.underlying4 (by kernel_rfl) rfl rfl rfl rfl hW' hg⟩

theorem over : Rows.curveBendsRow.holds Try.pinned (OpenSpec.ofChange Rows.curveBendsSpec) :=
  OpenClaim.holds_of_wide 3 Try.f3 rfl rfl rfl rfl rfl rfl rfl ⟨rfl, rfl, rfl, rfl, rfl⟩ rfl rfl rfl rfl rfl (by kernel_rfl) Try.func3 (by kernel_rfl)
    (of_decide_eq_true (by kernel_rfl)) (by unfold Func.isWrapper; first | (rw [if_pos (by decide +kernel)]; kernel_rfl) | (rw [if_neg (by decide +kernel)]; exact ⟨rfl, rfl⟩))
    (fun os started H enc _ => lifted os started H enc)

theorem proved : Rows.CurveBendsSaid :=
  over

end Go.Proofs.Ytngfillgndhfbaa.curveBends
