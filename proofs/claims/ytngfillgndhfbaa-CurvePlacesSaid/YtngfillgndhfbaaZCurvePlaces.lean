/- CurvePlaces: the place of any bow at any part is as the document says, at 0 and at the end it is the ends; what may not be asked is refused; for every bow and every two ints. -/
import Derived.Test.YtngfillgndhfbaaCCv8

namespace Go.Proofs.Ytngfillgndhfbaa.curvePlaces
open Go Go.ChangeShapes Go.WideShapes Go.ChangeAt Go.RowKit
set_option linter.unusedVariables false
set_option linter.unusedSimpArgs false

set_option maxRecDepth 100000 in
set_option maxHeartbeats 4000000 in
theorem good (c : Bw) (i n : Int) (w : World) (hm : mayW c = true) (n1 : 1 ≤ n) (n2 : n ≤ 512) (i0 : 0 ≤ i) (i1 : i ≤ n) : Calls Try.prog 4 #[bwV c, .int .i64 i, .int .i64 n] w fun e w' => e = .returned (.bool true) ∧ Below w.heap.size w w' := by
  have CA := fun W => cat_ok c i n hm n1 n2 i0 i1 W
  have CA0 := fun W => cat_ok c 0 n hm n1 n2 (by omega) (by omega) W
  have CAn := fun W => cat_ok c n n hm n1 n2 (by omega) (by omega) W
  have CRA := fun W => rat_any c i n hm i0 i1 n1 n2 W
  rw [(atW_0 c n n1).1, (atW_0 c n n1).2] at CA0
  rw [(atW_n c n n1).1, (atW_n c n n1).2] at CAn
  have CRM := fun W => rcmay_any c W
  have CL := fun W => lives20 W
  rw [hm] at CRM
  generalize (atW c i n).1 = rx at *
  generalize (atW c i n).2 = ry at *
  have d0 : decide (n < 1) = false := by simp; omega
  have d1 : decide (n > 512) = false := by simp; omega
  have d2 : decide (i < 0) = false := by simp; omega
  have d3 : decide (i > n) = false := by simp; omega
  have E1 := fun W => eqD_run rx ry rx ry W
  have E2 := fun W => eqD_run c.xa c.ya c.xa c.ya W
  have E3 := fun W => eqD_run c.xd c.yd c.xd c.yd W
  rw [show (rx == rx && ry == ry) = true by simp] at E1
  rw [show (c.xa == c.xa && c.ya == c.ya) = true by simp] at E2
  rw [show (c.xd == c.xd && c.yd == c.yd) = true by simp] at E3
  have G1 := fun x y W => eqD_guard rx ry rx ry x y W
  have G2 := fun x y W => eqD_guard c.xa c.ya c.xa c.ya x y W
  have G3 := fun x y W => eqD_guard c.xd c.yd c.xd c.yd x y W
  clear hm n1 n2 i0 i1
  simp only [bwV] at *
  have B0 := below_a1 w (.cells #[.int .i64 c.k, .int .i64 c.xa, .int .i64 c.ya, .int .i64 c.xb, .int .i64 c.yb, .int .i64 c.xc, .int .i64 c.yc, .int .i64 c.xd, .int .i64 c.yd] 25)
  have KB := Blk.new w 25 #[.int .i64 c.k, .int .i64 c.xa, .int .i64 c.ya, .int .i64 c.xb, .int .i64 c.yb, .int .i64 c.xc, .int .i64 c.yc, .int .i64 c.xd, .int .i64 c.yd]
  have HB0 := Lib.hid B0
  have HKB := Lib.hid KB
  clear B0 KB
  go_enter Try.func4, Try.ntmps4
  go_wp2_with (first | (go_at_call 17; ((with_reducible refine (CA _).mono ?_); rintro e w1 ⟨rfl, b1⟩; have HB1 := Lib.hid (HB0.out.trans (b1.mono HB0.out.size)); have HK1 := Lib.hid (HKB.out.below b1); have HA := Lib.hid (below_a1 w1 (.cells #[.int .i64 rx, .int .i64 ry] 23)); have HD1 := Lib.hid (Blk.new w1 23 #[.int .i64 rx, .int .i64 ry]); clear CA)) | (go_at_call 10; ((with_reducible refine (CL _).mono ?_); rintro e w2 ⟨rfl, b2⟩; have KV := (HK1.out.below HA.out).below b2; have kc := KV.lt; have k0 := KV.cell 0; have k1 := KV.cell 1; have k2 := KV.cell 2; have k3 := KV.cell 3; have k4 := KV.cell 4; have k5 := KV.cell 5; have k6 := KV.cell 6; have k7 := KV.cell 7; have k8 := KV.cell 8; simp only [bwL, List.getElem?_toArray, List.getElem?_cons_succ, List.getElem?_cons_zero] at k0 k1 k2 k3 k4 k5 k6 k7 k8; have hK := HB1.out.trans ((HA.out.trans (b2.mono HA.out.size)).mono HB1.out.size); have HD2 := Lib.hid (HD1.out.below b2); have HK2 := Lib.hid KV; clear HB1 KV)) | (go_at_call 12; ((with_reducible refine (CRM _).mono ?_); rintro e w3 ⟨rfl, b3⟩; have hK := hK.trans (b3.mono hK.size); have HD3 := Lib.hid (HD2.out.below b3); have KV := HK2.out.below b3; have kc := KV.lt; have k0 := KV.cell 0; have k1 := KV.cell 1; have k2 := KV.cell 2; have k3 := KV.cell 3; have k4 := KV.cell 4; have k5 := KV.cell 5; have k6 := KV.cell 6; have k7 := KV.cell 7; have k8 := KV.cell 8; simp only [bwL, List.getElem?_toArray, List.getElem?_cons_succ, List.getElem?_cons_zero] at k0 k1 k2 k3 k4 k5 k6 k7 k8; have HK3 := Lib.hid KV; clear KV)) | (go_at_call 17; ((with_reducible refine (CA0 _).mono ?_); rintro e w4 ⟨rfl, b4⟩; have hK := hK.trans (b4.mono hK.size); have HD4 := Lib.hid (HD3.out.below b4); have KV := HK3.out.below b4; have kc := KV.lt; have k0 := KV.cell 0; have k1 := KV.cell 1; have k2 := KV.cell 2; have k3 := KV.cell 3; have k4 := KV.cell 4; have k5 := KV.cell 5; have k6 := KV.cell 6; have k7 := KV.cell 7; have k8 := KV.cell 8; simp only [bwL, List.getElem?_toArray, List.getElem?_cons_succ, List.getElem?_cons_zero] at k0 k1 k2 k3 k4 k5 k6 k7 k8; have HK4 := Lib.hid KV; clear KV; have HA4 := Lib.hid (below_a1 w4 (.cells #[.int .i64 c.xa, .int .i64 c.ya] 23)); have HE4 := Lib.hid (Blk.new w4 23 #[.int .i64 c.xa, .int .i64 c.ya]); clear CA0)) | (go_at_call 17; ((with_reducible refine (CAn _).mono ?_); rintro e w5 ⟨rfl, b5⟩; have hK := hK.trans ((HA4.out.trans (b5.mono HA4.out.size)).mono hK.size); have HD5 := Lib.hid ((HD4.out.below HA4.out).below b5); have KV := (HK4.out.below HA4.out).below b5; have HK5 := Lib.hid KV; have HE5 := Lib.hid (HE4.out.below b5); have HA5 := Lib.hid (below_a1 w5 (.cells #[.int .i64 c.xd, .int .i64 c.yd] 23)); have HF5 := Lib.hid (Blk.new w5 23 #[.int .i64 c.xd, .int .i64 c.yd]); clear CAn KV)))
  obtain ⟨W5, hW5⟩ : ∃ W5, W5 = w5.alloc (.cells #[.int .i64 c.xd, .int .i64 c.yd] 23) := ⟨_, rfl⟩
  rw [← hW5]
  rw [← hW5] at HA5 HF5
  have HK6 := Lib.hid (HK5.out.below HA5.out)
  have HD6 := Lib.hid (HD5.out.below HA5.out)
  have HE6 := Lib.hid (HE5.out.below HA5.out)
  have hK := hK.trans (HA5.out.mono hK.size)
  clear k0 k1 k2 k3 k4 k5 k6 k7 k8 kc b1 b2 b3 b4 b5 hW5 HD1 HD2 HD3 HD4 HD5 HE4 HE5
  have HLD := Lib.hid (fun (V : World) (hV : Below W5.heap.size W5 V) => And.intro (load_blk (P := Try.prog) (ty := 25) (HK6.out.below hV) Try.underlying25 rfl bwInfo) (And.intro (load_blk (P := Try.prog) (ty := 23) (HD6.out.below hV) Try.underlying23 rfl dtInfo) (And.intro (load_blk (P := Try.prog) (ty := 23) (HE6.out.below hV) Try.underlying23 rfl dtInfo) (And.intro (load_blk (P := Try.prog) (ty := 23) (HF5.out.below hV) Try.underlying23 rfl dtInfo) (And.intro (True.intro) (And.intro (True.intro) (And.intro (E1 V) (And.intro (E2 V) (And.intro (E3 V) (And.intro (fun x y => G1 x y V) (And.intro (fun x y => G2 x y V) (And.intro (fun x y => G3 x y V) (And.intro ((HK6.out.below hV).cell 1) (And.intro ((HK6.out.below hV).cell 2) (And.intro ((HK6.out.below hV).cell 7) (And.intro ((HK6.out.below hV).cell 8) (HK6.out.below hV).lt))))))))))))))))
  have hG : Below W5.heap.size W5 W5.drew := (Below.refl _ _).drew
  refine wp_region_chain (fun V => Below W5.heap.size W5 V) [(0, false), (1, false), (2, false), (3, false), (4, false), (5, false), (6, false), (7, true), (8, false), (9, false), (10, false), (11, false), (12, false), (13, false), (14, false), (15, false), (16, false), (17, false), (18, false), (19, false), (20, false), (21, false), (22, false), (23, false), (24, false), (25, false), (26, false), (27, false), (28, false), (29, false), (30, false)] (by kernel_rfl) (by kernel_rfl) hG ?_
  repeat (first
    | (refine ChainL.skip (o := ?_) ?_ ?_ ?_; rotate_left; (focus (first | (simp only [List.getElem?_toArray, List.getElem?_cons_succ, List.getElem?_cons_zero]; with_reducible rfl) | (simp only [List.getElem?_toArray, List.getElem?_cons_zero]; with_reducible rfl))); (focus rfl); simp only [Act.put, List.setIfInBounds_toArray, List.set_cons_zero, List.set_cons_succ])
    | (refine ChainL.val (o := ?_) (v := ?_) ?_ ?_ ?_ ?_ ?_; rotate_left 2; (focus (first | (simp only [List.getElem?_toArray, List.getElem?_cons_succ, List.getElem?_cons_zero]; with_reducible rfl) | (simp only [List.getElem?_toArray, List.getElem?_cons_zero]; with_reducible rfl))); (focus (intro _ _ h; cases h)); (focus rfl); (focus (intro w' hJ; obtain ⟨LB, L7, L9, L11, LA, LD4, E1, E2, E3, G1, G2, G3, f1, f2, f3, f4, fl⟩ := HLD.out _ hJ; first | (have H := fun ρ o x => @exec_load _ ρ o _ _ x _ _ LB; refine H _ _ ?_ ?_ ?_; rotate_left; (focus rfl); (focus rfl)) | (have H := fun ρ o x => @exec_load _ ρ o _ _ x _ _ L7; refine H _ _ ?_ ?_ ?_; rotate_left; (focus rfl); (focus rfl)) | (have H := fun ρ o x => @exec_load _ ρ o _ _ x _ _ L9; refine H _ _ ?_ ?_ ?_; rotate_left; (focus rfl); (focus rfl)) | (have H := fun ρ o x => @exec_load _ ρ o _ _ x _ _ L11; refine H _ _ ?_ ?_ ?_; rotate_left; (focus rfl); (focus rfl)) | (go_simp <;> with_reducible rfl))); simp only [Act.put, List.setIfInBounds_toArray, List.set_cons_zero, List.set_cons_succ]))
  refine ChainL.call (o := ?_) (f := ?_) (args := ?_) ?_ ?_ ?_ ?_
  rotate_left 3
  (focus (first | (simp only [List.getElem?_toArray, List.getElem?_cons_succ, List.getElem?_cons_zero]; with_reducible rfl) | (simp only [List.getElem?_toArray, List.getElem?_cons_zero]; with_reducible rfl)))
  (focus rfl)
  (focus (go_simp; (constructor <;> with_reducible rfl)))
  with_reducible refine (CRA _).mono ?_
  rintro e wc1 ⟨rfl, bc1⟩
  have hG1 := hG.trans (bc1.mono hG.size)
  refine ⟨_, rfl, hG1, ?_⟩
  simp only [Act.put, List.setIfInBounds_toArray, List.set_cons_zero, List.set_cons_succ]
  repeat (first
    | (refine ChainL.skip (o := ?_) ?_ ?_ ?_; rotate_left; (focus (first | (simp only [List.getElem?_toArray, List.getElem?_cons_succ, List.getElem?_cons_zero]; with_reducible rfl) | (simp only [List.getElem?_toArray, List.getElem?_cons_zero]; with_reducible rfl))); (focus rfl); simp only [Act.put, List.setIfInBounds_toArray, List.set_cons_zero, List.set_cons_succ])
    | (refine ChainL.val (o := ?_) (v := ?_) ?_ ?_ ?_ ?_ ?_; rotate_left 2; (focus (first | (simp only [List.getElem?_toArray, List.getElem?_cons_succ, List.getElem?_cons_zero]; with_reducible rfl) | (simp only [List.getElem?_toArray, List.getElem?_cons_zero]; with_reducible rfl))); (focus (intro _ _ h; cases h)); (focus rfl); (focus (intro w' hJ; obtain ⟨LB, L7, L9, L11, LA, LD4, E1, E2, E3, G1, G2, G3, f1, f2, f3, f4, fl⟩ := HLD.out _ hJ; first | (have H := fun ρ o x => @exec_load _ ρ o _ _ x _ _ LB; refine H _ _ ?_ ?_ ?_; rotate_left; (focus rfl); (focus rfl)) | (have H := fun ρ o x => @exec_load _ ρ o _ _ x _ _ L7; refine H _ _ ?_ ?_ ?_; rotate_left; (focus rfl); (focus rfl)) | (have H := fun ρ o x => @exec_load _ ρ o _ _ x _ _ L9; refine H _ _ ?_ ?_ ?_; rotate_left; (focus rfl); (focus rfl)) | (have H := fun ρ o x => @exec_load _ ρ o _ _ x _ _ L11; refine H _ _ ?_ ?_ ?_; rotate_left; (focus rfl); (focus rfl)) | (go_simp <;> with_reducible rfl))); simp only [Act.put, List.setIfInBounds_toArray, List.set_cons_zero, List.set_cons_succ]))
  refine ChainL.nil ?_
  go_wp2
  go_ret
  exact ⟨rfl, hK.trans (hG1.mono hK.size)⟩
set_option maxRecDepth 100000 in
set_option maxHeartbeats 4000000 in
theorem bad_0 (c : Bw) (i n : Int) (w : World) (hm : mayW c = false) (ho : atOk c i n = false)  : Calls Try.prog 4 #[bwV c, .int .i64 i, .int .i64 n] w fun e w' => e = .returned (.bool true) ∧ Below w.heap.size w w' := by
  have CA := fun W => cat_no c i n ho W
  have CRM := fun W => rcmay_any c W
  have CL := fun W => lives20 W
  rw [hm] at CRM
  clear hm ho
  have E1 := fun W => eqD_run 0 0 0 0 W
  have G1 := fun x y W => eqD_guard 0 0 0 0 x y W
  simp only [bwV] at *
  have B0 := below_a1 w (.cells #[.int .i64 c.k, .int .i64 c.xa, .int .i64 c.ya, .int .i64 c.xb, .int .i64 c.yb, .int .i64 c.xc, .int .i64 c.yc, .int .i64 c.xd, .int .i64 c.yd] 25)
  have KB := Blk.new w 25 #[.int .i64 c.k, .int .i64 c.xa, .int .i64 c.ya, .int .i64 c.xb, .int .i64 c.yb, .int .i64 c.xc, .int .i64 c.yc, .int .i64 c.xd, .int .i64 c.yd]
  have HB0 := Lib.hid B0
  have HKB := Lib.hid KB
  clear B0 KB
  go_enter Try.func4, Try.ntmps4
  go_wp2_with (first | (go_at_call 17; ((with_reducible refine (CA _).mono ?_); rintro e w1 ⟨rfl, b1⟩; have HB1 := Lib.hid (HB0.out.trans (b1.mono HB0.out.size)); have HK1 := Lib.hid (HKB.out.below b1); have HA := Lib.hid (below_a1 w1 (.cells #[.int .i64 0, .int .i64 0] 23)); have HD1 := Lib.hid (Blk.new w1 23 #[.int .i64 0, .int .i64 0]))) | (go_at_call 10; ((with_reducible refine (CL _).mono ?_); rintro e w2 ⟨rfl, b2⟩; have KV := (HK1.out.below HA.out).below b2; have kc := KV.lt; have k0 := KV.cell 0; have k1 := KV.cell 1; have k2 := KV.cell 2; have k3 := KV.cell 3; have k4 := KV.cell 4; have k5 := KV.cell 5; have k6 := KV.cell 6; have k7 := KV.cell 7; have k8 := KV.cell 8; simp only [bwL, List.getElem?_toArray, List.getElem?_cons_succ, List.getElem?_cons_zero] at k0 k1 k2 k3 k4 k5 k6 k7 k8; have hK := HB1.out.trans ((HA.out.trans (b2.mono HA.out.size)).mono HB1.out.size); have HD2 := Lib.hid (HD1.out.below b2); clear HB1)) | (go_at_call 12; ((with_reducible refine (CRM _).mono ?_); rintro e w3 ⟨rfl, b3⟩; have hK := hK.trans (b3.mono hK.size); have D3 := HD2.out.below b3; have y0 := D3.cell 0; have y1 := D3.cell 1; have yl := D3.lt; simp only [List.getElem?_toArray, List.getElem?_cons_succ, List.getElem?_cons_zero] at y0 y1; clear D3)))
  go_ret
  exact ⟨rfl, hK⟩
set_option maxRecDepth 100000 in
set_option maxHeartbeats 4000000 in
theorem bad_1 (c : Bw) (i n : Int) (w : World) (hm : mayW c = true) (ho : atOk c i n = false) (d0 : decide (n < 1) = true) : Calls Try.prog 4 #[bwV c, .int .i64 i, .int .i64 n] w fun e w' => e = .returned (.bool true) ∧ Below w.heap.size w w' := by
  have CA := fun W => cat_no c i n ho W
  have CRM := fun W => rcmay_any c W
  have CL := fun W => lives20 W
  rw [hm] at CRM
  clear hm ho
  have E1 := fun W => eqD_run 0 0 0 0 W
  have G1 := fun x y W => eqD_guard 0 0 0 0 x y W
  simp only [bwV] at *
  have B0 := below_a1 w (.cells #[.int .i64 c.k, .int .i64 c.xa, .int .i64 c.ya, .int .i64 c.xb, .int .i64 c.yb, .int .i64 c.xc, .int .i64 c.yc, .int .i64 c.xd, .int .i64 c.yd] 25)
  have KB := Blk.new w 25 #[.int .i64 c.k, .int .i64 c.xa, .int .i64 c.ya, .int .i64 c.xb, .int .i64 c.yb, .int .i64 c.xc, .int .i64 c.yc, .int .i64 c.xd, .int .i64 c.yd]
  have HB0 := Lib.hid B0
  have HKB := Lib.hid KB
  clear B0 KB
  go_enter Try.func4, Try.ntmps4
  go_wp2_with (first | (go_at_call 17; ((with_reducible refine (CA _).mono ?_); rintro e w1 ⟨rfl, b1⟩; have HB1 := Lib.hid (HB0.out.trans (b1.mono HB0.out.size)); have HK1 := Lib.hid (HKB.out.below b1); have HA := Lib.hid (below_a1 w1 (.cells #[.int .i64 0, .int .i64 0] 23)); have HD1 := Lib.hid (Blk.new w1 23 #[.int .i64 0, .int .i64 0]))) | (go_at_call 10; ((with_reducible refine (CL _).mono ?_); rintro e w2 ⟨rfl, b2⟩; have KV := (HK1.out.below HA.out).below b2; have kc := KV.lt; have k0 := KV.cell 0; have k1 := KV.cell 1; have k2 := KV.cell 2; have k3 := KV.cell 3; have k4 := KV.cell 4; have k5 := KV.cell 5; have k6 := KV.cell 6; have k7 := KV.cell 7; have k8 := KV.cell 8; simp only [bwL, List.getElem?_toArray, List.getElem?_cons_succ, List.getElem?_cons_zero] at k0 k1 k2 k3 k4 k5 k6 k7 k8; have hK := HB1.out.trans ((HA.out.trans (b2.mono HA.out.size)).mono HB1.out.size); have HD2 := Lib.hid (HD1.out.below b2); clear HB1)) | (go_at_call 12; ((with_reducible refine (CRM _).mono ?_); rintro e w3 ⟨rfl, b3⟩; have hK := hK.trans (b3.mono hK.size); have D3 := HD2.out.below b3; have y0 := D3.cell 0; have y1 := D3.cell 1; have yl := D3.lt; simp only [List.getElem?_toArray, List.getElem?_cons_succ, List.getElem?_cons_zero] at y0 y1; clear D3)))
  go_ret
  exact ⟨rfl, hK⟩
set_option maxRecDepth 100000 in
set_option maxHeartbeats 4000000 in
theorem bad_2 (c : Bw) (i n : Int) (w : World) (hm : mayW c = true) (ho : atOk c i n = false) (d0 : decide (n < 1) = false) (d1 : decide (n > 512) = true) : Calls Try.prog 4 #[bwV c, .int .i64 i, .int .i64 n] w fun e w' => e = .returned (.bool true) ∧ Below w.heap.size w w' := by
  have CA := fun W => cat_no c i n ho W
  have CRM := fun W => rcmay_any c W
  have CL := fun W => lives20 W
  rw [hm] at CRM
  clear hm ho
  have E1 := fun W => eqD_run 0 0 0 0 W
  have G1 := fun x y W => eqD_guard 0 0 0 0 x y W
  simp only [bwV] at *
  have B0 := below_a1 w (.cells #[.int .i64 c.k, .int .i64 c.xa, .int .i64 c.ya, .int .i64 c.xb, .int .i64 c.yb, .int .i64 c.xc, .int .i64 c.yc, .int .i64 c.xd, .int .i64 c.yd] 25)
  have KB := Blk.new w 25 #[.int .i64 c.k, .int .i64 c.xa, .int .i64 c.ya, .int .i64 c.xb, .int .i64 c.yb, .int .i64 c.xc, .int .i64 c.yc, .int .i64 c.xd, .int .i64 c.yd]
  have HB0 := Lib.hid B0
  have HKB := Lib.hid KB
  clear B0 KB
  go_enter Try.func4, Try.ntmps4
  go_wp2_with (first | (go_at_call 17; ((with_reducible refine (CA _).mono ?_); rintro e w1 ⟨rfl, b1⟩; have HB1 := Lib.hid (HB0.out.trans (b1.mono HB0.out.size)); have HK1 := Lib.hid (HKB.out.below b1); have HA := Lib.hid (below_a1 w1 (.cells #[.int .i64 0, .int .i64 0] 23)); have HD1 := Lib.hid (Blk.new w1 23 #[.int .i64 0, .int .i64 0]))) | (go_at_call 10; ((with_reducible refine (CL _).mono ?_); rintro e w2 ⟨rfl, b2⟩; have KV := (HK1.out.below HA.out).below b2; have kc := KV.lt; have k0 := KV.cell 0; have k1 := KV.cell 1; have k2 := KV.cell 2; have k3 := KV.cell 3; have k4 := KV.cell 4; have k5 := KV.cell 5; have k6 := KV.cell 6; have k7 := KV.cell 7; have k8 := KV.cell 8; simp only [bwL, List.getElem?_toArray, List.getElem?_cons_succ, List.getElem?_cons_zero] at k0 k1 k2 k3 k4 k5 k6 k7 k8; have hK := HB1.out.trans ((HA.out.trans (b2.mono HA.out.size)).mono HB1.out.size); have HD2 := Lib.hid (HD1.out.below b2); clear HB1)) | (go_at_call 12; ((with_reducible refine (CRM _).mono ?_); rintro e w3 ⟨rfl, b3⟩; have hK := hK.trans (b3.mono hK.size); have D3 := HD2.out.below b3; have y0 := D3.cell 0; have y1 := D3.cell 1; have yl := D3.lt; simp only [List.getElem?_toArray, List.getElem?_cons_succ, List.getElem?_cons_zero] at y0 y1; clear D3)))
  go_ret
  exact ⟨rfl, hK⟩
set_option maxRecDepth 100000 in
set_option maxHeartbeats 4000000 in
theorem bad_3 (c : Bw) (i n : Int) (w : World) (hm : mayW c = true) (ho : atOk c i n = false) (d0 : decide (n < 1) = false) (d1 : decide (n > 512) = false) (d2 : decide (i < 0) = true) : Calls Try.prog 4 #[bwV c, .int .i64 i, .int .i64 n] w fun e w' => e = .returned (.bool true) ∧ Below w.heap.size w w' := by
  have CA := fun W => cat_no c i n ho W
  have CRM := fun W => rcmay_any c W
  have CL := fun W => lives20 W
  rw [hm] at CRM
  clear hm ho
  have E1 := fun W => eqD_run 0 0 0 0 W
  have G1 := fun x y W => eqD_guard 0 0 0 0 x y W
  simp only [bwV] at *
  have B0 := below_a1 w (.cells #[.int .i64 c.k, .int .i64 c.xa, .int .i64 c.ya, .int .i64 c.xb, .int .i64 c.yb, .int .i64 c.xc, .int .i64 c.yc, .int .i64 c.xd, .int .i64 c.yd] 25)
  have KB := Blk.new w 25 #[.int .i64 c.k, .int .i64 c.xa, .int .i64 c.ya, .int .i64 c.xb, .int .i64 c.yb, .int .i64 c.xc, .int .i64 c.yc, .int .i64 c.xd, .int .i64 c.yd]
  have HB0 := Lib.hid B0
  have HKB := Lib.hid KB
  clear B0 KB
  go_enter Try.func4, Try.ntmps4
  go_wp2_with (first | (go_at_call 17; ((with_reducible refine (CA _).mono ?_); rintro e w1 ⟨rfl, b1⟩; have HB1 := Lib.hid (HB0.out.trans (b1.mono HB0.out.size)); have HK1 := Lib.hid (HKB.out.below b1); have HA := Lib.hid (below_a1 w1 (.cells #[.int .i64 0, .int .i64 0] 23)); have HD1 := Lib.hid (Blk.new w1 23 #[.int .i64 0, .int .i64 0]))) | (go_at_call 10; ((with_reducible refine (CL _).mono ?_); rintro e w2 ⟨rfl, b2⟩; have KV := (HK1.out.below HA.out).below b2; have kc := KV.lt; have k0 := KV.cell 0; have k1 := KV.cell 1; have k2 := KV.cell 2; have k3 := KV.cell 3; have k4 := KV.cell 4; have k5 := KV.cell 5; have k6 := KV.cell 6; have k7 := KV.cell 7; have k8 := KV.cell 8; simp only [bwL, List.getElem?_toArray, List.getElem?_cons_succ, List.getElem?_cons_zero] at k0 k1 k2 k3 k4 k5 k6 k7 k8; have hK := HB1.out.trans ((HA.out.trans (b2.mono HA.out.size)).mono HB1.out.size); have HD2 := Lib.hid (HD1.out.below b2); clear HB1)) | (go_at_call 12; ((with_reducible refine (CRM _).mono ?_); rintro e w3 ⟨rfl, b3⟩; have hK := hK.trans (b3.mono hK.size); have D3 := HD2.out.below b3; have y0 := D3.cell 0; have y1 := D3.cell 1; have yl := D3.lt; simp only [List.getElem?_toArray, List.getElem?_cons_succ, List.getElem?_cons_zero] at y0 y1; clear D3)))
  go_ret
  exact ⟨rfl, hK⟩
set_option maxRecDepth 100000 in
set_option maxHeartbeats 4000000 in
theorem bad_4 (c : Bw) (i n : Int) (w : World) (hm : mayW c = true) (ho : atOk c i n = false) (d0 : decide (n < 1) = false) (d1 : decide (n > 512) = false) (d2 : decide (i < 0) = false) (d3 : decide (i > n) = true) : Calls Try.prog 4 #[bwV c, .int .i64 i, .int .i64 n] w fun e w' => e = .returned (.bool true) ∧ Below w.heap.size w w' := by
  have CA := fun W => cat_no c i n ho W
  have CRM := fun W => rcmay_any c W
  have CL := fun W => lives20 W
  rw [hm] at CRM
  clear hm ho
  have E1 := fun W => eqD_run 0 0 0 0 W
  have G1 := fun x y W => eqD_guard 0 0 0 0 x y W
  simp only [bwV] at *
  have B0 := below_a1 w (.cells #[.int .i64 c.k, .int .i64 c.xa, .int .i64 c.ya, .int .i64 c.xb, .int .i64 c.yb, .int .i64 c.xc, .int .i64 c.yc, .int .i64 c.xd, .int .i64 c.yd] 25)
  have KB := Blk.new w 25 #[.int .i64 c.k, .int .i64 c.xa, .int .i64 c.ya, .int .i64 c.xb, .int .i64 c.yb, .int .i64 c.xc, .int .i64 c.yc, .int .i64 c.xd, .int .i64 c.yd]
  have HB0 := Lib.hid B0
  have HKB := Lib.hid KB
  clear B0 KB
  go_enter Try.func4, Try.ntmps4
  go_wp2_with (first | (go_at_call 17; ((with_reducible refine (CA _).mono ?_); rintro e w1 ⟨rfl, b1⟩; have HB1 := Lib.hid (HB0.out.trans (b1.mono HB0.out.size)); have HK1 := Lib.hid (HKB.out.below b1); have HA := Lib.hid (below_a1 w1 (.cells #[.int .i64 0, .int .i64 0] 23)); have HD1 := Lib.hid (Blk.new w1 23 #[.int .i64 0, .int .i64 0]))) | (go_at_call 10; ((with_reducible refine (CL _).mono ?_); rintro e w2 ⟨rfl, b2⟩; have KV := (HK1.out.below HA.out).below b2; have kc := KV.lt; have k0 := KV.cell 0; have k1 := KV.cell 1; have k2 := KV.cell 2; have k3 := KV.cell 3; have k4 := KV.cell 4; have k5 := KV.cell 5; have k6 := KV.cell 6; have k7 := KV.cell 7; have k8 := KV.cell 8; simp only [bwL, List.getElem?_toArray, List.getElem?_cons_succ, List.getElem?_cons_zero] at k0 k1 k2 k3 k4 k5 k6 k7 k8; have hK := HB1.out.trans ((HA.out.trans (b2.mono HA.out.size)).mono HB1.out.size); have HD2 := Lib.hid (HD1.out.below b2); clear HB1)) | (go_at_call 12; ((with_reducible refine (CRM _).mono ?_); rintro e w3 ⟨rfl, b3⟩; have hK := hK.trans (b3.mono hK.size); have D3 := HD2.out.below b3; have y0 := D3.cell 0; have y1 := D3.cell 1; have yl := D3.lt; simp only [List.getElem?_toArray, List.getElem?_cons_succ, List.getElem?_cons_zero] at y0 y1; clear D3)))
  go_ret
  exact ⟨rfl, hK⟩
theorem walk (c : Bw) (i : Int) (_ : (Lit.int .i64 i).wf = true) (n : Int) (_ : (Lit.int .i64 n).wf = true) (w : World) : Calls Try.prog 4 #[bwV c, .int .i64 i, .int .i64 n] w fun e w' => e = .returned (.bool true) ∧ Below w.heap.size w w' := by
  cases ho : atOk c i n
  · cases hm : mayW c
    · exact bad_0 c i n w hm ho
    · by_cases h1 : n < 1
      · exact bad_1 c i n w hm ho (by simpa using h1)
      · by_cases h2 : n > 512
        · exact bad_2 c i n w hm ho (by simpa using h1) (by simpa using h2)
        · by_cases h3 : i < 0
          · exact bad_3 c i n w hm ho (by simpa using h1) (by simpa using h2) (by simpa using h3)
          · by_cases h4 : i > n
            · exact bad_4 c i n w hm ho (by simpa using h1) (by simpa using h2) (by simpa using h3) (by simpa using h4)
            · exfalso
              unfold atOk at ho
              rw [hm] at ho
              simp at ho
              omega
  · unfold atOk at ho
    simp only [Bool.and_eq_true, decide_eq_true_eq] at ho
    obtain ⟨⟨⟨⟨h1, h2⟩, h3⟩, h4⟩, h5⟩ := ho
    exact good c i n w h1 h2 h3 h4 h5

set_option linter.unusedVariables false in
set_option maxRecDepth 100000 in
theorem lifted (os : Os) (started : os.Started) (H : Type) (enc : TypeId × Value → H) :
    ReturnsInHanded {} Try.checked os 4 .any (Rows.curvePlacesSpec.pre6 enc Try.prog Try.f4 Rows.curvePlacesRow.domain false) (Rows.curvePlacesSpec.post enc Try.prog Try.f4 false true false false) := by
  refine returnsInHanded_of_change (C := Try.checked) Try.own started (by kernel_rfl) Try.func4
    (ChangeSpec.witness6 (enc := enc) (C := Try.checked) false ⟨#[], #[.agg #[.int .i64 0, .int .i64 0, .int .i64 0, .int .i64 0, .int .i64 0, .int .i64 0, .int .i64 0, .int .i64 0, .int .i64 0], .int .i64 0, .int .i64 0], []⟩ 8 (by kernel_rfl) (by kernel_rfl) (by kernel_rfl) (by kernel_rfl)) ?_
  intro W base args ds gs before hval0 hW hcnd _
  have hval : ∀ (j : Nat) t v, Try.f4.params[j]? = some t → args[j]? = some v → Value.okWide Try.prog W .any base t v := hval0
  have hW' := hW
  obtain ⟨p, q, hA0, hV, rfl, hfz, hnd⟩ := hW
  have hA : DataW.TrodAll enc Try.prog W 0 (fun _ => true) true Try.f4.params.toList args.toList ds p := hA0
  rw [Try.params4] at hA hval
  obtain ⟨v0, vs0, d0, ds0, p0, q0, hargs, rfl, rfl, h0, r0⟩ := trodAll_cons hA
  obtain ⟨v1, vs1, d1, ds1, p1, q1, rfl, rfl, rfl, h1, r1⟩ := trodAll_cons r0
  obtain ⟨v2, vs2, d2, ds2, p2, q2, rfl, rfl, rfl, h2, r2⟩ := trodAll_cons r1
  obtain ⟨rfl, rfl, rfl⟩ := trodAll_nil r2
  obtain rfl : args = #[v0, v1, v2] := by cases args; simp_all
  obtain ⟨rfl, rfl⟩ := trodVars_none hV
  obtain ⟨c0, rfl⟩ := open_bow (hval 0 25 v0 rfl rfl) h0
  obtain ⟨a1, rfl, rfl, rfl, w1⟩ := open_int Try.underlying3 (hval 1 3 v1 rfl rfl) h1
  obtain ⟨a2, rfl, rfl, rfl, w2⟩ := open_int Try.underlying3 (hval 2 3 v2 rfl rfl) h2
  clear hA0 hval0
  simp only [List.append_nil] at hW'
  refine (walk c0 a1 w1 a2 w2 W).mono fun e W' ⟨he, hg⟩ => ?_
  subst he
  exact ⟨_, rfl, law_post Try.laidOut rfl Try.underlying4 (by kernel_rfl) rfl rfl rfl rfl hW' hg⟩

theorem over : Rows.curvePlacesRow.holds Try.pinned (OpenSpec.ofChange Rows.curvePlacesSpec) :=
  OpenClaim.holds_of_wide 4 Try.f4 rfl rfl rfl rfl rfl rfl rfl ⟨rfl, rfl, rfl, rfl, rfl⟩ rfl rfl rfl rfl rfl (by kernel_rfl) Try.func4 (by kernel_rfl)
    (of_decide_eq_true (by kernel_rfl)) (by unfold Func.isWrapper; first | (rw [if_pos (by decide +kernel)]; kernel_rfl) | (rw [if_neg (by decide +kernel)]; exact ⟨rfl, rfl⟩))
    (fun os started H enc _ => lifted os started H enc)

theorem proved : Rows.CurvePlacesSaid :=
  over

end Go.Proofs.Ytngfillgndhfbaa.curvePlaces
