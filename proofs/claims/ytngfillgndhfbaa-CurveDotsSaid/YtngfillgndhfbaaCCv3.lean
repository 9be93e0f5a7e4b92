/- Part 4 of the proof: CvC, CvD, CvY. -/
import Derived.Test.YtngfillgndhfbaaCCv2

namespace Go.Proofs.Ytngfillgndhfbaa
open Go Go.RowKit
set_option linter.unusedVariables false
set_option linter.unusedSimpArgs false


def m3 (m u v : Int) : Int := if v > (if u > m then u else m) then v else (if u > m then u else m)
theorem m3_eq (m u v : Int) : m3 m u v = max (max m u) v := by
  unfold m3
  split <;> split <;> omega
theorem run_max3 (m u v : Int) (w : World) : (Builtin.max_ #[3, 3, 3] 3 #[.int .i64 m, .int .i64 u, .int .i64 v]).run Try.prog w = .ok (.int .i64 (m3 m u v)) w := rfl
theorem far_no {L : List Dt} (h : ∀ d ∈ L, farD d = false) : (!L.any farD) = true := by
  rw [List.any_eq_false.2 (fun d hd => by simp [h d hd])]; rfl
theorem farD_no {x y : Int} (h : -1048576 ≤ x ∧ x ≤ 1048576) (g : -1048576 ≤ y ∧ y ≤ 1048576) : farD (x, y) = false := by
  unfold farD farB; simp; omega
def lenOf : Value → Nat
  | .slice _ n _ => n
  | _ => 0
set_option maxRecDepth 100000 in
set_option maxHeartbeats 2000000 in
theorem bendc_1 (xa ya xb yb xc yc xd yd : Int) (hxa : -1048576 ≤ xa ∧ xa ≤ 1048576) (hya : -1048576 ≤ ya ∧ ya ≤ 1048576) (hxd : -1048576 ≤ xd ∧ xd ≤ 1048576) (hyd : -1048576 ≤ yd ∧ yd ≤ 1048576) (w : World) : Calls Try.prog 8 #[.agg #[.int .i64 1, .int .i64 xa, .int .i64 ya, .int .i64 xb, .int .i64 yb, .int .i64 xc, .int .i64 yc, .int .i64 xd, .int .i64 yd]] w fun e w' => e = .returned (.int .i64 0) ∧ Below w.heap.size w w' := by
  have CP := fun W => places_1 xa ya xb yb xc yc xd yd W
  have CM := fun W => may_1 xa ya xb yb xc yc xd yd W
  rw [far_no (L := [(xa, ya), (xd, yd)]) (by simp; exact ⟨farD_no hxa hya, farD_no hxd hyd⟩)] at CM
  go_enter Try.func8, Try.ntmps8
  go_wp2_with (first | (go_at_call 11; ((with_reducible refine (CM _).mono ?_); rintro e w1 ⟨rfl, b1⟩; have B1 := (below_a1 w (.cells #[.int .i64 1, .int .i64 xa, .int .i64 ya, .int .i64 xb, .int .i64 yb, .int .i64 xc, .int .i64 yc, .int .i64 xd, .int .i64 yd] 25)).trans (b1.mono (below_a1 w _).size); have KB := (Blk.new w 25 #[.int .i64 1, .int .i64 xa, .int .i64 ya, .int .i64 xb, .int .i64 yb, .int .i64 xc, .int .i64 yc, .int .i64 xd, .int .i64 yd]).below b1; have kc := KB.lt; have k0 := KB.cell 0; have k1 := KB.cell 1; have k2 := KB.cell 2; have k3 := KB.cell 3; have k4 := KB.cell 4; have k5 := KB.cell 5; have k6 := KB.cell 6; have k7 := KB.cell 7; have k8 := KB.cell 8)) | (go_at_call 22; ((with_reducible refine (CP _).mono ?_); rintro e w2 ⟨b, rfl, K2, hb2, b2⟩; have B2 := B1.trans (b2.mono B1.size); clear k0 k1 k2 k3 k4 k5 k6 k7 k8 kc KB CM CP b1)))
  have HB2 := Lib.hid B2
  have HK2 := Lib.hid K2
  clear b2 B1 B2 K2 hb2
  go_loopw [3, 4] (fun l m wr => Below w2.heap.size w2 wr ∧ ((l = .slice (some ⟨b, 0, none⟩) 2 2 ∧ m = .int .i64 0))) (fun l _ _ => lenOf l)
  case atStart => exact ⟨Below.refl _ _, ⟨rfl, rfl⟩⟩
  case round =>
  obtain ⟨hbr, hst⟩ := hrel
  have KR := HK2.out.below hbr
  have HBR := Lib.hid hbr
  clear hbr
  rcases hst with ⟨rfl, rfl⟩
  · clear KR hxa hya hxd hyd
    go_wp2
    go_ret
    exact ⟨rfl, HB2.out.trans (HBR.out.mono HB2.out.size)⟩
set_option maxRecDepth 100000 in
set_option maxHeartbeats 2000000 in
theorem bendc_2 (xa ya xb yb xc yc xd yd : Int) (hxa : -1048576 ≤ xa ∧ xa ≤ 1048576) (hya : -1048576 ≤ ya ∧ ya ≤ 1048576) (hxb : -1048576 ≤ xb ∧ xb ≤ 1048576) (hyb : -1048576 ≤ yb ∧ yb ≤ 1048576) (hxd : -1048576 ≤ xd ∧ xd ≤ 1048576) (hyd : -1048576 ≤ yd ∧ yd ≤ 1048576) (w : World) : Calls Try.prog 8 #[.agg #[.int .i64 2, .int .i64 xa, .int .i64 ya, .int .i64 xb, .int .i64 yb, .int .i64 xc, .int .i64 yc, .int .i64 xd, .int .i64 yd]] w fun e w' => e = .returned (.int .i64 (m3 0 (bnd xa xb xd) (bnd ya yb yd))) ∧ Below w.heap.size w w' := by
  have CP := fun W => places_2 xa ya xb yb xc yc xd yd W
  have CM := fun W => may_2 xa ya xb yb xc yc xd yd W
  rw [far_no (L := [(xa, ya), (xb, yb), (xd, yd)]) (by simp; exact ⟨farD_no hxa hya, farD_no hxb hyb, farD_no hxd hyd⟩)] at CM
  go_enter Try.func8, Try.ntmps8
  go_wp2_with (first | (go_at_call 11; ((with_reducible refine (CM _).mono ?_); rintro e w1 ⟨rfl, b1⟩; have B1 := (below_a1 w (.cells #[.int .i64 2, .int .i64 xa, .int .i64 ya, .int .i64 xb, .int .i64 yb, .int .i64 xc, .int .i64 yc, .int .i64 xd, .int .i64 yd] 25)).trans (b1.mono (below_a1 w _).size); have KB := (Blk.new w 25 #[.int .i64 2, .int .i64 xa, .int .i64 ya, .int .i64 xb, .int .i64 yb, .int .i64 xc, .int .i64 yc, .int .i64 xd, .int .i64 yd]).below b1; have kc := KB.lt; have k0 := KB.cell 0; have k1 := KB.cell 1; have k2 := KB.cell 2; have k3 := KB.cell 3; have k4 := KB.cell 4; have k5 := KB.cell 5; have k6 := KB.cell 6; have k7 := KB.cell 7; have k8 := KB.cell 8)) | (go_at_call 22; ((with_reducible refine (CP _).mono ?_); rintro e w2 ⟨b, rfl, K2, hb2, b2⟩; have B2 := B1.trans (b2.mono B1.size); clear k0 k1 k2 k3 k4 k5 k6 k7 k8 kc KB CM CP b1)))
  have HB2 := Lib.hid B2
  have HK2 := Lib.hid K2
  clear b2 B1 B2 K2 hb2
  go_loopw [3, 4] (fun l m wr => Below w2.heap.size w2 wr ∧ ((l = .slice (some ⟨b, 0, none⟩) 3 3 ∧ m = .int .i64 0) ∨ (l = .slice (some ⟨b, 2, none⟩) 2 2 ∧ m = .int .i64 (m3 0 (bnd xa xb xd) (bnd ya yb yd))))) (fun l _ _ => lenOf l)
  case atStart => exact ⟨Below.refl _ _, .inl ⟨rfl, rfl⟩⟩
  case round =>
  obtain ⟨hbr, hst⟩ := hrel
  have KR := HK2.out.below hbr
  have HBR := Lib.hid hbr
  clear hbr
  rcases hst with ⟨rfl, rfl⟩ | ⟨rfl, rfl⟩
  · have HD : ∀ V, Below wr.heap.size wr V → V.cell? ⟨b, 0, none⟩ = some (.int .i64 xa) ∧ V.cell? ⟨b, 1, none⟩ = some (.int .i64 ya) ∧ V.cell? ⟨b, 2, none⟩ = some (.int .i64 xb) ∧ V.cell? ⟨b, 3, none⟩ = some (.int .i64 yb) ∧ V.cell? ⟨b, 4, none⟩ = some (.int .i64 xd) ∧ V.cell? ⟨b, 5, none⟩ = some (.int .i64 yd) ∧ b < V.heap.size := fun V hV => ⟨(KR.below hV).cell 0, (KR.below hV).cell 1, (KR.below hV).cell 2, (KR.below hV).cell 3, (KR.below hV).cell 4, (KR.below hV).cell 5, (KR.below hV).lt⟩
    have CX := fun W => bend_any xa xb xd W hxa hxb hxd
    have CY := fun W => bend_any ya yb yd W hya hyb hyd
    have RM := run_max3 0 (bnd xa xb xd) (bnd ya yb yd)
    have HKR := Lib.hid KR
    clear hxa hya hxb hyb hxd hyd KR
    go_wp2
    have hI : Below wr.heap.size wr wr.drew := (Below.refl _ _).drew
    refine wp_region_chain (fun V => Below wr.heap.size wr V) [(0, false), (1, false), (2, false), (3, false), (4, false), (5, false), (6, false), (7, false), (8, false), (9, false), (10, false), (11, false), (12, false), (14, false), (15, false), (16, false), (17, false), (18, false), (19, false), (20, false), (21, false), (22, false), (23, false), (24, false), (25, false), (13, true), (26, true), (27, false), (28, false)] (by kernel_rfl) (by kernel_rfl) hI ?_
    repeat (first
      | (refine ChainL.skip (o := ?_) ?_ ?_ ?_; rotate_left; (focus (first | (simp only [List.getElem?_toArray, List.getElem?_cons_succ, List.getElem?_cons_zero]; with_reducible rfl) | (simp only [List.getElem?_toArray, List.getElem?_cons_zero]; with_reducible rfl))); (focus rfl); simp only [Act.put, List.setIfInBounds_toArray, List.set_cons_zero, List.set_cons_succ])
      | (refine ChainL.val (o := ?_) (v := ?_) ?_ ?_ ?_ ?_ ?_; rotate_left 2; (focus (first | (simp only [List.getElem?_toArray, List.getElem?_cons_succ, List.getElem?_cons_zero]; with_reducible rfl) | (simp only [List.getElem?_toArray, List.getElem?_cons_zero]; with_reducible rfl))); (focus (intro _ _ h; cases h)); (focus rfl); (focus (intro w' hJ; obtain ⟨y0, y1, y2, y3, y4, y5, yl⟩ := HD _ hJ; go_simp <;> with_reducible rfl)); simp only [Act.put, List.setIfInBounds_toArray, List.set_cons_zero, List.set_cons_succ]))
    refine ChainL.call (o := ?_) (f := ?_) (args := ?_) ?_ ?_ ?_ ?_
    rotate_left 3
    (focus (first | (simp only [List.getElem?_toArray, List.getElem?_cons_succ, List.getElem?_cons_zero]; with_reducible rfl) | (simp only [List.getElem?_toArray, List.getElem?_cons_zero]; with_reducible rfl)))
    (focus rfl)
    (focus (go_simp; (constructor <;> with_reducible rfl)))
    with_reducible refine (CX _).mono ?_
    rintro e w5 ⟨rfl, rfl⟩
    refine ⟨_, rfl, hI, ?_⟩
    simp only [Act.put, List.setIfInBounds_toArray, List.set_cons_zero, List.set_cons_succ]
    refine ChainL.call (o := ?_) (f := ?_) (args := ?_) ?_ ?_ ?_ ?_
    rotate_left 3
    (focus (first | (simp only [List.getElem?_toArray, List.getElem?_cons_succ, List.getElem?_cons_zero]; with_reducible rfl) | (simp only [List.getElem?_toArray, List.getElem?_cons_zero]; with_reducible rfl)))
    (focus rfl)
    (focus (go_simp; (constructor <;> with_reducible rfl)))
    with_reducible refine (CY _).mono ?_
    rintro e w5 ⟨rfl, rfl⟩
    refine ⟨_, rfl, hI, ?_⟩
    simp only [Act.put, List.setIfInBounds_toArray, List.set_cons_zero, List.set_cons_succ]
    repeat (first
      | (refine ChainL.skip (o := ?_) ?_ ?_ ?_; rotate_left; (focus (first | (simp only [List.getElem?_toArray, List.getElem?_cons_succ, List.getElem?_cons_zero]; with_reducible rfl) | (simp only [List.getElem?_toArray, List.getElem?_cons_zero]; with_reducible rfl))); (focus rfl); simp only [Act.put, List.setIfInBounds_toArray, List.set_cons_zero, List.set_cons_succ])
      | (refine ChainL.val (o := ?_) (v := ?_) ?_ ?_ ?_ ?_ ?_; rotate_left 2; (focus (first | (simp only [List.getElem?_toArray, List.getElem?_cons_succ, List.getElem?_cons_zero]; with_reducible rfl) | (simp only [List.getElem?_toArray, List.getElem?_cons_zero]; with_reducible rfl))); (focus (intro _ _ h; cases h)); (focus rfl); (focus (intro w' hJ; obtain ⟨y0, y1, y2, y3, y4, y5, yl⟩ := HD _ hJ; go_simp <;> with_reducible rfl)); simp only [Act.put, List.setIfInBounds_toArray, List.set_cons_zero, List.set_cons_succ]))
    refine ChainL.nil ?_
    go_wp2
    go_roundw
    case rel => exact ⟨HBR.out.drew, .inr (⟨rfl, rfl⟩)⟩
    case measure => simp [lenOf]
  · clear KR hxa hya hxb hyb hxd hyd
    go_wp2
    go_ret
    exact ⟨rfl, HB2.out.trans (HBR.out.mono HB2.out.size)⟩
set_option maxRecDepth 100000 in
set_option maxHeartbeats 2000000 in
theorem bendc_3 (xa ya xb yb xc yc xd yd : Int) (hxa : -1048576 ≤ xa ∧ xa ≤ 1048576) (hya : -1048576 ≤ ya ∧ ya ≤ 1048576) (hxb : -1048576 ≤ xb ∧ xb ≤ 1048576) (hyb : -1048576 ≤ yb ∧ yb ≤ 1048576) (hxc : -1048576 ≤ xc ∧ xc ≤ 1048576) (hyc : -1048576 ≤ yc ∧ yc ≤ 1048576) (hxd : -1048576 ≤ xd ∧ xd ≤ 1048576) (hyd : -1048576 ≤ yd ∧ yd ≤ 1048576) (w : World) : Calls Try.prog 8 #[.agg #[.int .i64 3, .int .i64 xa, .int .i64 ya, .int .i64 xb, .int .i64 yb, .int .i64 xc, .int .i64 yc, .int .i64 xd, .int .i64 yd]] w fun e w' => e = .returned (.int .i64 (m3 (m3 0 (bnd xa xb xc) (bnd ya yb yc)) (bnd xb xc xd) (bnd yb yc yd))) ∧ Below w.heap.size w w' := by
  have CP := fun W => places_3 xa ya xb yb xc yc xd yd W
  have CM := fun W => may_3 xa ya xb yb xc yc xd yd W
  rw [far_no (L := [(xa, ya), (xb, yb), (xc, yc), (xd, yd)]) (by simp; exact ⟨farD_no hxa hya, farD_no hxb hyb, farD_no hxc hyc, farD_no hxd hyd⟩)] at CM
  go_enter Try.func8, Try.ntmps8
  go_wp2_with (first | (go_at_call 11; ((with_reducible refine (CM _).mono ?_); rintro e w1 ⟨rfl, b1⟩; have B1 := (below_a1 w (.cells #[.int .i64 3, .int .i64 xa, .int .i64 ya, .int .i64 xb, .int .i64 yb, .int .i64 xc, .int .i64 yc, .int .i64 xd, .int .i64 yd] 25)).trans (b1.mono (below_a1 w _).size); have KB := (Blk.new w 25 #[.int .i64 3, .int .i64 xa, .int .i64 ya, .int .i64 xb, .int .i64 yb, .int .i64 xc, .int .i64 yc, .int .i64 xd, .int .i64 yd]).below b1; have kc := KB.lt; have k0 := KB.cell 0; have k1 := KB.cell 1; have k2 := KB.cell 2; have k3 := KB.cell 3; have k4 := KB.cell 4; have k5 := KB.cell 5; have k6 := KB.cell 6; have k7 := KB.cell 7; have k8 := KB.cell 8)) | (go_at_call 22; ((with_reducible refine (CP _).mono ?_); rintro e w2 ⟨b, rfl, K2, hb2, b2⟩; have B2 := B1.trans (b2.mono B1.size); clear k0 k1 k2 k3 k4 k5 k6 k7 k8 kc KB CM CP b1)))
  have HB2 := Lib.hid B2
  have HK2 := Lib.hid K2
  clear b2 B1 B2 K2 hb2
  go_loopw [3, 4] (fun l m wr => Below w2.heap.size w2 wr ∧ ((l = .slice (some ⟨b, 0, none⟩) 4 4 ∧ m = .int .i64 0) ∨ (l = .slice (some ⟨b, 2, none⟩) 3 3 ∧ m = .int .i64 (m3 0 (bnd xa xb xc) (bnd ya yb yc))) ∨ (l = .slice (some ⟨b, 4, none⟩) 2 2 ∧ m = .int .i64 (m3 (m3 0 (bnd xa xb xc) (bnd ya yb yc)) (bnd xb xc xd) (bnd yb yc yd))))) (fun l _ _ => lenOf l)
  case atStart => exact ⟨Below.refl _ _, .inl ⟨rfl, rfl⟩⟩
  case round =>
  obtain ⟨hbr, hst⟩ := hrel
  have KR := HK2.out.below hbr
  have HBR := Lib.hid hbr
  clear hbr
  rcases hst with ⟨rfl, rfl⟩ | ⟨rfl, rfl⟩ | ⟨rfl, rfl⟩
  · have HD : ∀ V, Below wr.heap.size wr V → V.cell? ⟨b, 0, none⟩ = some (.int .i64 xa) ∧ V.cell? ⟨b, 1, none⟩ = some (.int .i64 ya) ∧ V.cell? ⟨b, 2, none⟩ = some (.int .i64 xb) ∧ V.cell? ⟨b, 3, none⟩ = some (.int .i64 yb) ∧ V.cell? ⟨b, 4, none⟩ = some (.int .i64 xc) ∧ V.cell? ⟨b, 5, none⟩ = some (.int .i64 yc) ∧ V.cell? ⟨b, 6, none⟩ = some (.int .i64 xd) ∧ V.cell? ⟨b, 7, none⟩ = some (.int .i64 yd) ∧ b < V.heap.size := fun V hV => ⟨(KR.below hV).cell 0, (KR.below hV).cell 1, (KR.below hV).cell 2, (KR.below hV).cell 3, (KR.below hV).cell 4, (KR.below hV).cell 5, (KR.below hV).cell 6, (KR.below hV).cell 7, (KR.below hV).lt⟩
    have CX := fun W => bend_any xa xb xc W hxa hxb hxc
    have CY := fun W => bend_any ya yb yc W hya hyb hyc
    have RM := run_max3 0 (bnd xa xb xc) (bnd ya yb yc)
    have HKR := Lib.hid KR
    clear hxa hya hxb hyb hxc hyc hxd hyd KR
    go_wp2
    have hI : Below wr.heap.size wr wr.drew := (Below.refl _ _).drew
    refine wp_region_chain (fun V => Below wr.heap.size wr V) [(0, false), (1, false), (2, false), (3, false), (4, false), (5, false), (6, false), (7, false), (8, false), (9, false), (10, false), (11, false), (12, false), (14, false), (15, false), (16, false), (17, false), (18, false), (19, false), (20, false), (21, false), (22, false), (23, false), (24, false), (25, false), (13, true), (26, true), (27, false), (28, false)] (by kernel_rfl) (by kernel_rfl) hI ?_
    repeat (first
      | (refine ChainL.skip (o := ?_) ?_ ?_ ?_; rotate_left; (focus (first | (simp only [List.getElem?_toArray, List.getElem?_cons_succ, List.getElem?_cons_zero]; with_reducible rfl) | (simp only [List.getElem?_toArray, List.getElem?_cons_zero]; with_reducible rfl))); (focus rfl); simp only [Act.put, List.setIfInBounds_toArray, List.set_cons_zero, List.set_cons_succ])
      | (refine ChainL.val (o := ?_) (v := ?_) ?_ ?_ ?_ ?_ ?_; rotate_left 2; (focus (first | (simp only [List.getElem?_toArray, List.getElem?_cons_succ, List.getElem?_cons_zero]; with_reducible rfl) | (simp only [List.getElem?_toArray, List.getElem?_cons_zero]; with_reducible rfl))); (focus (intro _ _ h; cases h)); (focus rfl); (focus (intro w' hJ; obtain ⟨y0, y1, y2, y3, y4, y5, y6, y7, yl⟩ := HD _ hJ; go_simp <;> with_reducible rfl)); simp only [Act.put, List.setIfInBounds_toArray, List.set_cons_zero, List.set_cons_succ]))
    refine ChainL.call (o := ?_) (f := ?_) (args := ?_) ?_ ?_ ?_ ?_
    rotate_left 3
    (focus (first | (simp only [List.getElem?_toArray, List.getElem?_cons_succ, List.getElem?_cons_zero]; with_reducible rfl) | (simp only [List.getElem?_toArray, List.getElem?_cons_zero]; with_reducible rfl)))
    (focus rfl)
    (focus (go_simp; (constructor <;> with_reducible rfl)))
    with_reducible refine (CX _).mono ?_
    rintro e w5 ⟨rfl, rfl⟩
    refine ⟨_, rfl, hI, ?_⟩
    simp only [Act.put, List.setIfInBounds_toArray, List.set_cons_zero, List.set_cons_succ]
    refine ChainL.call (o := ?_) (f := ?_) (args := ?_) ?_ ?_ ?_ ?_
    rotate_left 3
    (focus (first | (simp only [List.getElem?_toArray, List.getElem?_cons_succ, List.getElem?_cons_zero]; with_reducible rfl) | (simp only [List.getElem?_toArray, List.getElem?_cons_zero]; with_reducible rfl)))
    (focus rfl)
    (focus (go_simp; (constructor <;> with_reducible rfl)))
    with_reducible refine (CY _).mono ?_
    rintro e w5 ⟨rfl, rfl⟩
    refine ⟨_, rfl, hI, ?_⟩
    simp only [Act.put, List.setIfInBounds_toArray, List.set_cons_zero, List.set_cons_succ]
    repeat (first
      | (refine ChainL.skip (o := ?_) ?_ ?_ ?_; rotate_left; (focus (first | (simp only [List.getElem?_toArray, List.getElem?_cons_succ, List.getElem?_cons_zero]; with_reducible rfl) | (simp only [List.getElem?_toArray, List.getElem?_cons_zero]; with_reducible rfl))); (focus rfl); simp only [Act.put, List.setIfInBounds_toArray, List.set_cons_zero, List.set_cons_succ])
      | (refine ChainL.val (o := ?_) (v := ?_) ?_ ?_ ?_ ?_ ?_; rotate_left 2; (focus (first | (simp only [List.getElem?_toArray, List.getElem?_cons_succ, List.getElem?_cons_zero]; with_reducible rfl) | (simp only [List.getElem?_toArray, List.getElem?_cons_zero]; with_reducible rfl))); (focus (intro _ _ h; cases h)); (focus rfl); (focus (intro w' hJ; obtain ⟨y0, y1, y2, y3, y4, y5, y6, y7, yl⟩ := HD _ hJ; go_simp <;> with_reducible rfl)); simp only [Act.put, List.setIfInBounds_toArray, List.set_cons_zero, List.set_cons_succ]))
    refine ChainL.nil ?_
    go_wp2
    go_roundw
    case rel => exact ⟨HBR.out.drew, .inr (.inl ⟨rfl, rfl⟩)⟩
    case measure => simp [lenOf]
  · have HD : ∀ V, Below wr.heap.size wr V → V.cell? ⟨b, 0, none⟩ = some (.int .i64 xa) ∧ V.cell? ⟨b, 1, none⟩ = some (.int .i64 ya) ∧ V.cell? ⟨b, 2, none⟩ = some (.int .i64 xb) ∧ V.cell? ⟨b, 3, none⟩ = some (.int .i64 yb) ∧ V.cell? ⟨b, 4, none⟩ = some (.int .i64 xc) ∧ V.cell? ⟨b, 5, none⟩ = some (.int .i64 yc) ∧ V.cell? ⟨b, 6, none⟩ = some (.int .i64 xd) ∧ V.cell? ⟨b, 7, none⟩ = some (.int .i64 yd) ∧ b < V.heap.size := fun V hV => ⟨(KR.below hV).cell 0, (KR.below hV).cell 1, (KR.below hV).cell 2, (KR.below hV).cell 3, (KR.below hV).cell 4, (KR.below hV).cell 5, (KR.below hV).cell 6, (KR.below hV).cell 7, (KR.below hV).lt⟩
    have CX := fun W => bend_any xb xc xd W hxb hxc hxd
    have CY := fun W => bend_any yb yc yd W hyb hyc hyd
    have RM := run_max3 (m3 0 (bnd xa xb xc) (bnd ya yb yc)) (bnd xb xc xd) (bnd yb yc yd)
    have HKR := Lib.hid KR
    clear hxa hya hxb hyb hxc hyc hxd hyd KR
    go_wp2
    have hI : Below wr.heap.size wr wr.drew := (Below.refl _ _).drew
    refine wp_region_chain (fun V => Below wr.heap.size wr V) [(0, false), (1, false), (2, false), (3, false), (4, false), (5, false), (6, false), (7, false), (8, false), (9, false), (10, false), (11, false), (12, false), (14, false), (15, false), (16, false), (17, false), (18, false), (19, false), (20, false), (21, false), (22, false), (23, false), (24, false), (25, false), (13, true), (26, true), (27, false), (28, false)] (by kernel_rfl) (by kernel_rfl) hI ?_
    repeat (first
      | (refine ChainL.skip (o := ?_) ?_ ?_ ?_; rotate_left; (focus (first | (simp only [List.getElem?_toArray, List.getElem?_cons_succ, List.getElem?_cons_zero]; with_reducible rfl) | (simp only [List.getElem?_toArray, List.getElem?_cons_zero]; with_reducible rfl))); (focus rfl); simp only [Act.put, List.setIfInBounds_toArray, List.set_cons_zero, List.set_cons_succ])
      | (refine ChainL.val (o := ?_) (v := ?_) ?_ ?_ ?_ ?_ ?_; rotate_left 2; (focus (first | (simp only [List.getElem?_toArray, List.getElem?_cons_succ, List.getElem?_cons_zero]; with_reducible rfl) | (simp only [List.getElem?_toArray, List.getElem?_cons_zero]; with_reducible rfl))); (focus (intro _ _ h; cases h)); (focus rfl); (focus (intro w' hJ; obtain ⟨y0, y1, y2, y3, y4, y5, y6, y7, yl⟩ := HD _ hJ; go_simp <;> with_reducible rfl)); simp only [Act.put, List.setIfInBounds_toArray, List.set_cons_zero, List.set_cons_succ]))
    refine ChainL.call (o := ?_) (f := ?_) (args := ?_) ?_ ?_ ?_ ?_
    rotate_left 3
    (focus (first | (simp only [List.getElem?_toArray, List.getElem?_cons_succ, List.getElem?_cons_zero]; with_reducible rfl) | (simp only [List.getElem?_toArray, List.getElem?_cons_zero]; with_reducible rfl)))
    (focus rfl)
    (focus (go_simp; (constructor <;> with_reducible rfl)))
    with_reducible refine (CX _).mono ?_
    rintro e w5 ⟨rfl, rfl⟩
    refine ⟨_, rfl, hI, ?_⟩
    simp only [Act.put, List.setIfInBounds_toArray, List.set_cons_zero, List.set_cons_succ]
    refine ChainL.call (o := ?_) (f := ?_) (args := ?_) ?_ ?_ ?_ ?_
    rotate_left 3
    (focus (first | (simp only [List.getElem?_toArray, List.getElem?_cons_succ, List.getElem?_cons_zero]; with_reducible rfl) | (simp only [List.getElem?_toArray, List.getElem?_cons_zero]; with_reducible rfl)))
    (focus rfl)
    (focus (go_simp; (constructor <;> with_reducible rfl)))
    with_reducible refine (CY _).mono ?_
    rintro e w5 ⟨rfl, rfl⟩
    refine ⟨_, rfl, hI, ?_⟩
    simp only [Act.put, List.setIfInBounds_toArray, List.set_cons_zero, List.set_cons_succ]
    repeat (first
      | (refine ChainL.skip (o := ?_) ?_ ?_ ?_; rotate_left; (focus (first | (simp only [List.getElem?_toArray, List.getElem?_cons_succ, List.getElem?_cons_zero]; with_reducible rfl) | (simp only [List.getElem?_toArray, List.getElem?_cons_zero]; with_reducible rfl))); (focus rfl); simp only [Act.put, List.setIfInBounds_toArray, List.set_cons_zero, List.set_cons_succ])
      | (refine ChainL.val (o := ?_) (v := ?_) ?_ ?_ ?_ ?_ ?_; rotate_left 2; (focus (first | (simp only [List.getElem?_toArray, List.getElem?_cons_succ, List.getElem?_cons_zero]; with_reducible rfl) | (simp only [List.getElem?_toArray, List.getElem?_cons_zero]; with_reducible rfl))); (focus (intro _ _ h; cases h)); (focus rfl); (focus (intro w' hJ; obtain ⟨y0, y1, y2, y3, y4, y5, y6, y7, yl⟩ := HD _ hJ; go_simp <;> with_reducible rfl)); simp only [Act.put, List.setIfInBounds_toArray, List.set_cons_zero, List.set_cons_succ]))
    refine ChainL.nil ?_
    go_wp2
    go_roundw
    case rel => exact ⟨HBR.out.drew, .inr (.inr (⟨rfl, rfl⟩))⟩
    case measure => simp [lenOf]
  · clear KR hxa hya hxb hyb hxc hyc hxd hyd
    go_wp2
    go_ret
    exact ⟨rfl, HB2.out.trans (HBR.out.mono HB2.out.size)⟩
set_option maxRecDepth 100000 in
theorem bendc_no (c : Bw) (h : mayW c = false) (w : World) : Calls Try.prog 8 #[bwV c] w fun e w' => e = .returned (.int .i64 0) ∧ Below w.heap.size w w' := by
  have CM := fun W => cmay_any c W
  rw [h] at CM
  clear h
  unfold bwV at *
  go_enter Try.func8, Try.ntmps8
  go_wp2_with (first | (go_at_call 11; ((with_reducible refine (CM _).mono ?_); rintro e w1 ⟨rfl, b1⟩; have B1 := (below_a1 w (.cells (bwL c).toArray 25)).trans (b1.mono (below_a1 w _).size))))
  go_ret
  exact ⟨rfl, B1⟩
/-- How far a bow bends. -/
def bnW (c : Bw) : Int := if mayW c = true then (if c.k = 2 then m3 0 (bnd c.xa c.xb c.xd) (bnd c.ya c.yb c.yd) else if c.k = 3 then m3 (m3 0 (bnd c.xa c.xb c.xc) (bnd c.ya c.yb c.yc)) (bnd c.xb c.xc c.xd) (bnd c.yb c.yc c.yd) else 0) else 0
theorem farD_of {x y : Int} (h : farD (x, y) = false) : (-1048576 ≤ x ∧ x ≤ 1048576) ∧ (-1048576 ≤ y ∧ y ≤ 1048576) := by
  unfold farD at h
  simp only [Bool.or_eq_false_iff] at h
  exact ⟨farB_ok h.1, farB_ok h.2⟩
theorem cbend_any (c : Bw) (w : World) : Calls Try.prog 8 #[bwV c] w fun e w' => e = .returned (.int .i64 (bnW c)) ∧ Below w.heap.size w w' := by
  unfold bnW
  by_cases hm : mayW c = true
  · rw [if_pos hm]
    obtain ⟨k, xa, ya, xb, yb, xc, yc, xd, yd⟩ := c
    unfold bwV
    dsimp only
    rcases kinds k with rfl | rfl | rfl | ⟨h1, h2, h3⟩
    · rw [if_neg (by decide), if_neg (by decide)]
      simp [mayW, plc] at hm
      exact bendc_1 xa ya xb yb xc yc xd yd (farD_of hm.1).1 (farD_of hm.1).2 (farD_of hm.2).1 (farD_of hm.2).2 w
    · rw [if_pos rfl]
      simp [mayW, plc] at hm
      exact bendc_2 xa ya xb yb xc yc xd yd (farD_of hm.1).1 (farD_of hm.1).2 (farD_of hm.2.1).1 (farD_of hm.2.1).2 (farD_of hm.2.2).1 (farD_of hm.2.2).2 w
    · rw [if_neg (by decide), if_pos rfl]
      simp [mayW, plc] at hm
      exact bendc_3 xa ya xb yb xc yc xd yd (farD_of hm.1).1 (farD_of hm.1).2 (farD_of hm.2.1).1 (farD_of hm.2.1).2 (farD_of hm.2.2.1).1 (farD_of hm.2.2.1).2 (farD_of hm.2.2.2).1 (farD_of hm.2.2.2).2 w
    · exfalso; unfold mayW at hm; rw [plc_0 (c := ⟨k, xa, ya, xb, yb, xc, yc, xd, yd⟩) h1 h2 h3] at hm; cases hm
  · rw [if_neg hm]
    exact bendc_no c (by simpa using hm) w
end Go.Proofs.Ytngfillgndhfbaa

namespace Go.Proofs.Ytngfillgndhfbaa
open Go Go.RowKit
set_option linter.unusedVariables false
set_option linter.unusedSimpArgs false


/-- The least n from k on for which d is at most 8 n n; at most 256. -/
def pcsG (d : Int) : Nat → Int → Int
  | 0, n => n
  | f + 1, n => if n < 256 ∧ 8 * n * n < d then pcsG d f (n + 1) else n
def pcs (d : Int) : Int := pcsG d 255 1
def need (c : Bw) : Int := if c.k = 3 then bnW c * 3 else bnW c
def pcW (c : Bw) : Int := if mayW c = true then pcs (need c) else 0
theorem bnd_le {a b d : Int} (ha : -1048576 ≤ a ∧ a ≤ 1048576) (hb : -1048576 ≤ b ∧ b ≤ 1048576) (hd : -1048576 ≤ d ∧ d ≤ 1048576) : 0 ≤ bnd a b d ∧ bnd a b d ≤ 4194304 := by unfold bnd; omega
theorem bnW_le (c : Bw) : 0 ≤ bnW c ∧ bnW c ≤ 4194304 := by
  unfold bnW
  by_cases hm : mayW c = true
  · rw [if_pos hm]
    obtain ⟨k, xa, ya, xb, yb, xc, yc, xd, yd⟩ := c
    dsimp only
    rcases kinds k with rfl | rfl | rfl | ⟨h1, h2, h3⟩
    · rw [if_neg (by decide), if_neg (by decide)]; omega
    · rw [if_pos rfl]
      simp [mayW, plc] at hm
      have u := bnd_le (farD_of hm.1).1 (farD_of hm.2.1).1 (farD_of hm.2.2).1
      have v := bnd_le (farD_of hm.1).2 (farD_of hm.2.1).2 (farD_of hm.2.2).2
      rw [m3_eq]; omega
    · rw [if_neg (by decide), if_pos rfl]
      simp [mayW, plc] at hm
      have u := bnd_le (farD_of hm.1).1 (farD_of hm.2.1).1 (farD_of hm.2.2.1).1
      have v := bnd_le (farD_of hm.1).2 (farD_of hm.2.1).2 (farD_of hm.2.2.1).2
      have u2 := bnd_le (farD_of hm.2.1).1 (farD_of hm.2.2.1).1 (farD_of hm.2.2.2).1
      have v2 := bnd_le (farD_of hm.2.1).2 (farD_of hm.2.2.1).2 (farD_of hm.2.2.2).2
      rw [m3_eq, m3_eq]; omega
    · rw [if_neg (by simpa using h2), if_neg (by simpa using h3)]; omega
  · rw [if_neg hm]; omega
theorem sq_le {k : Int} (h0 : 0 ≤ k) (h1 : k ≤ 512) : 0 ≤ 8 * k * k ∧ 8 * k * k ≤ 2097152 := by
  have a := Int.mul_le_mul (a := 8 * k) (b := k) (c := 4096) (d := 512) (by omega) h1 h0 (by omega)
  have b := Int.mul_nonneg (a := 8 * k) (b := k) (by omega) h0
  omega
theorem pcsG_go {d : Int} {k : Nat} (h : k < 256) (hd : 8 * (k : Int) * k < d) : pcsG d (256 - k) k = pcsG d (256 - (k + 1)) ((k + 1 : Nat) : Int) := by
  rw [show 256 - k = (256 - (k + 1)) + 1 by omega]
  conv => lhs; unfold pcsG
  rw [if_pos ⟨by omega, hd⟩]
  norm_cast
theorem pcsG_end {d : Int} {k : Nat} (h : k < 256) (hd : ¬ 8 * (k : Int) * k < d) : pcsG d (256 - k) k = k := by
  rw [show 256 - k = (256 - (k + 1)) + 1 by omega]
  unfold pcsG
  rw [if_neg (fun h => hd h.2)]

set_option maxRecDepth 100000 in
set_option maxHeartbeats 1000000 in
theorem cpcs_no (c : Bw) (h : mayW c = false) (w : World) : Calls Try.prog 9 #[bwV c] w fun e w' => e = .returned (.int .i64 0) ∧ Below w.heap.size w w' := by
  have CM := fun W => cmay_any c W
  rw [h] at CM
  clear h
  unfold bwV at *
  go_enter Try.func9, Try.ntmps9
  go_wp2_with (first | (go_at_call 11; ((with_reducible refine (CM _).mono ?_); rintro e w1 ⟨rfl, b1⟩; have B1 := (below_a1 w (.cells (bwL c).toArray 25)).trans (b1.mono (below_a1 w _).size))))
  go_ret
  exact ⟨rfl, B1⟩
set_option maxRecDepth 100000 in
set_option maxHeartbeats 1000000 in
theorem cpcs_3 (c : Bw) (h : mayW c = true) (h3 : (c.k == 3) = true) (w : World) : Calls Try.prog 9 #[bwV c] w fun e w' => e = .returned (.int .i64 (pcs (bnW c * 3))) ∧ Below w.heap.size w w' := by
  have CM := fun W => cmay_any c W
  have CB := fun W => cbend_any c W
  have BL := bnW_le c
  rw [h] at CM
  clear h
  unfold bwV at *
  unfold pcs
  generalize bnW c = d at *
  obtain ⟨l1, l2⟩ := BL
  obtain ⟨r, hr⟩ : ∃ r, r = pcsG (d * 3) 255 1 := ⟨_, rfl⟩
  have HR := Lib.hid hr
  rw [← hr]
  clear hr
  go_enter Try.func9, Try.ntmps9
  go_wp2_with (first | (go_at_call 11; ((with_reducible refine (CM _).mono ?_); rintro e w1 ⟨rfl, b1⟩; have B1 := (below_a1 w (.cells (bwL c).toArray 25)).trans (b1.mono (below_a1 w _).size); have KB := (Blk.new w 25 (bwL c).toArray).below b1; have kc := KB.lt; have k0 := KB.cell 0; have k1 := KB.cell 1; have k2 := KB.cell 2; have k3 := KB.cell 3; have k4 := KB.cell 4; have k5 := KB.cell 5; have k6 := KB.cell 6; have k7 := KB.cell 7; have k8 := KB.cell 8; simp only [bwL, List.getElem?_toArray, List.getElem?_cons_succ, List.getElem?_cons_zero] at k0 k1 k2 k3 k4 k5 k6 k7 k8)) | (go_at_call 8; ((with_reducible refine (CB _).mono ?_); rintro e w2 ⟨rfl, b2⟩; have B2 := B1.trans (b2.mono B1.size); have KC := KB.below b2; have kd := KC.lt; have q0 := KC.cell 0; simp only [bwL, List.getElem?_toArray, List.getElem?_cons_succ, List.getElem?_cons_zero] at q0)))
  obtain ⟨d3, hd3⟩ : ∃ d3, d3 = d * 3 := ⟨_, rfl⟩
  go_loop [4] (fun n => ∃ k : Nat, 1 ≤ k ∧ k ≤ 256 ∧ n = .int .i64 k ∧ Hid (pcsG (d * 3) (256 - k) k = r)) (fun n => 256 - (intOf n).toNat)
  case atStart => exact ⟨1, by omega, by omega, rfl, Lib.hid HR.out.symm⟩
  case round =>
    obtain ⟨k, hk1, hk2, rfl, HK⟩ := hrel
    have hs := sq_le (k := k) (by omega) (by omega)
    obtain ⟨s1, s2⟩ := hs
    by_cases hk : k < 256
    · have d1 : decide ((k : Int) < 256) = true := by simp; omega
      by_cases hd : 8 * (k : Int) * k < d * 3
      · have d2 : decide (d * 3 > 8 * (k : Int) * k) = true := by simpa using hd
        have HN := Lib.hid (pcsG_go hk hd)
        clear hd
        go_wp2
        go_round
        case rel => exact ⟨k + 1, by omega, by omega, by go_num, Lib.hid (HN.out.symm.trans HK.out)⟩
        case measure => simp [intOf]; omega
      · have d2 : decide (d * 3 > 8 * (k : Int) * k) = false := by simpa using hd
        have HN := Lib.hid (pcsG_end hk hd)
        clear hd
        go_wp2
        go_ret
        exact ⟨ret_int (HN.out.symm.trans HK.out), B2⟩
    · have d1 : decide ((k : Int) < 256) = false := by simp; omega
      have hk : k = 256 := by omega
      have HN := Lib.hid HK.out
      clear HK
      subst hk
      go_wp2
      go_ret
      exact ⟨ret_int HN.out, B2⟩
set_option maxRecDepth 100000 in
set_option maxHeartbeats 1000000 in
theorem cpcs_n (c : Bw) (h : mayW c = true) (h3 : (c.k == 3) = false) (w : World) : Calls Try.prog 9 #[bwV c] w fun e w' => e = .returned (.int .i64 (pcs (bnW c))) ∧ Below w.heap.size w w' := by
  have CM := fun W => cmay_any c W
  have CB := fun W => cbend_any c W
  have BL := bnW_le c
  rw [h] at CM
  clear h
  unfold bwV at *
  unfold pcs
  generalize bnW c = d at *
  obtain ⟨l1, l2⟩ := BL
  obtain ⟨r, hr⟩ : ∃ r, r = pcsG d 255 1 := ⟨_, rfl⟩
  have HR := Lib.hid hr
  rw [← hr]
  clear hr
  go_enter Try.func9, Try.ntmps9
  go_wp2_with (first | (go_at_call 11; ((with_reducible refine (CM _).mono ?_); rintro e w1 ⟨rfl, b1⟩; have B1 := (below_a1 w (.cells (bwL c).toArray 25)).trans (b1.mono (below_a1 w _).size); have KB := (Blk.new w 25 (bwL c).toArray).below b1; have kc := KB.lt; have k0 := KB.cell 0; have k1 := KB.cell 1; have k2 := KB.cell 2; have k3 := KB.cell 3; have k4 := KB.cell 4; have k5 := KB.cell 5; have k6 := KB.cell 6; have k7 := KB.cell 7; have k8 := KB.cell 8; simp only [bwL, List.getElem?_toArray, List.getElem?_cons_succ, List.getElem?_cons_zero] at k0 k1 k2 k3 k4 k5 k6 k7 k8)) | (go_at_call 8; ((with_reducible refine (CB _).mono ?_); rintro e w2 ⟨rfl, b2⟩; have B2 := B1.trans (b2.mono B1.size); have KC := KB.below b2; have kd := KC.lt; have q0 := KC.cell 0; simp only [bwL, List.getElem?_toArray, List.getElem?_cons_succ, List.getElem?_cons_zero] at q0)))
  skip
  go_loop [4] (fun n => ∃ k : Nat, 1 ≤ k ∧ k ≤ 256 ∧ n = .int .i64 k ∧ Hid (pcsG d (256 - k) k = r)) (fun n => 256 - (intOf n).toNat)
  case atStart => exact ⟨1, by omega, by omega, rfl, Lib.hid HR.out.symm⟩
  case round =>
    obtain ⟨k, hk1, hk2, rfl, HK⟩ := hrel
    have hs := sq_le (k := k) (by omega) (by omega)
    obtain ⟨s1, s2⟩ := hs
    by_cases hk : k < 256
    · have d1 : decide ((k : Int) < 256) = true := by simp; omega
      by_cases hd : 8 * (k : Int) * k < d
      · have d2 : decide (d > 8 * (k : Int) * k) = true := by simpa using hd
        have HN := Lib.hid (pcsG_go hk hd)
        clear hd
        go_wp2
        go_round
        case rel => exact ⟨k + 1, by omega, by omega, by go_num, Lib.hid (HN.out.symm.trans HK.out)⟩
        case measure => simp [intOf]; omega
      · have d2 : decide (d > 8 * (k : Int) * k) = false := by simpa using hd
        have HN := Lib.hid (pcsG_end hk hd)
        clear hd
        go_wp2
        go_ret
        exact ⟨ret_int (HN.out.symm.trans HK.out), B2⟩
    · have d1 : decide ((k : Int) < 256) = false := by simp; omega
      have hk : k = 256 := by omega
      have HN := Lib.hid HK.out
      clear HK
      subst hk
      go_wp2
      go_ret
      exact ⟨ret_int HN.out, B2⟩
theorem cpcs_any (c : Bw) (w : World) : Calls Try.prog 9 #[bwV c] w fun e w' => e = .returned (.int .i64 (pcW c)) ∧ Below w.heap.size w w' := by
  unfold pcW need
  by_cases hm : mayW c = true
  · rw [if_pos hm]
    by_cases h3 : c.k = 3
    · rw [if_pos h3]; exact cpcs_3 c hm (by simpa using h3) w
    · rw [if_neg h3]; exact cpcs_n c hm (by simpa using h3) w
  · rw [if_neg hm]; exact cpcs_no c (by simpa using hm) w
theorem pcsG_in (d : Int) : ∀ (f : Nat) (n : Int), 1 ≤ n → n + f ≤ 256 → n ≤ pcsG d f n ∧ pcsG d f n ≤ n + f
  | 0, n, h, _ => by unfold pcsG; omega
  | f + 1, n, h, h2 => by
    unfold pcsG
    split
    · have := pcsG_in d f (n + 1) (by omega) (by omega); omega
    · omega
theorem pcs_in (d : Int) : 1 ≤ pcs d ∧ pcs d ≤ 256 := by have := pcsG_in d 255 1 (by omega) (by omega); unfold pcs; omega
end Go.Proofs.Ytngfillgndhfbaa

namespace Go.Proofs.Ytngfillgndhfbaa
open Go Go.RowKit
set_option linter.unusedVariables false
set_option linter.unusedSimpArgs false


theorem dtInfo : (Try.prog.info? 23).map (·.size) = some 2 := by kernel_rfl
theorem bwInfo : (Try.prog.info? 25).map (·.size) = some 9 := by kernel_rfl
def dpx (L : List Dt) (i n : Int) (m : Nat) : Int := near (dp (w4g (wts (n - i) i m)) (gx L) (m + 1)) (al (w4g (wts (n - i) i m)) (m + 1))
def dpy (L : List Dt) (i n : Int) (m : Nat) : Int := near (dp (w4g (wts (n - i) i m)) (gy L) (m + 1)) (al (w4g (wts (n - i) i m)) (m + 1))
set_option maxRecDepth 100000 in
set_option maxHeartbeats 2000000 in
theorem at_any (m : Nat) (B : Nat) (A : Option Addr) (c : Nat) (L : List Dt) (i n : Int) (w : World) (hB : B ≤ w.heap.size) (hL : Lists w B A (L.flatMap dtL)) (hlen : L.length = m + 1) (hm : m ≤ 3) (hf : L.any farD = false) (i0 : 0 ≤ i) (hin : i ≤ n) (hn : n ≤ 512) (h1 : 1 ≤ al (w4g (wts (n - i) i m)) (m + 1)) :
    Calls Try.prog 31 #[.slice A (m + 1 : Nat) c, .int .i64 i, .int .i64 n] w fun e w' => e = .returned (.agg #[.int .i64 (dpx L i n m), .int .i64 (dpy L i n m)]) ∧ Below w.heap.size w w' := by
  have CW := fun W => weights_any m i n W hm i0 hin hn
  have hv := wts_le (k := n - i) (i := i) (by omega) (by omega) i0 (by omega) m hm
  have HL := Lib.hid hL
  have CX := Lib.hid (fun (W : World) (hb : Below w.heap.size w W) => weighed_x (wts (n - i) i m) B A c L W (Nat.le_trans hB hb.size) (HL.out.below (hb.mono hB)) (by omega) hv hf (by rw [hlen]; exact h1))
  have CY := Lib.hid (fun (W : World) (hb : Below w.heap.size w W) => weighed_y (wts (n - i) i m) B A c L W (Nat.le_trans hB hb.size) (HL.out.below (hb.mono hB)) (by omega) hv hf (by rw [hlen]; exact h1))
  rw [hlen] at CX CY
  unfold dpx dpy
  generalize near (dp (w4g (wts (n - i) i m)) (gx L) (m + 1)) (al (w4g (wts (n - i) i m)) (m + 1)) = rx at *
  generalize near (dp (w4g (wts (n - i) i m)) (gy L) (m + 1)) (al (w4g (wts (n - i) i m)) (m + 1)) = ry at *
  generalize wts (n - i) i m = v at *
  have KZ := Blk.new w 23 #[.int .i64 0, .int .i64 0]
  have B0 := below_a1 w (.cells #[.int .i64 0, .int .i64 0] 23)
  have em : wrap64 (((m + 1 : Nat) : Int) - 1) = (m : Int) := by simp [wrap64]; omega
  have HEM := Lib.hid em
  clear hL hf h1 hv hlen em hB
  obtain ⟨v0, v1, v2, v3⟩ := v
  simp only [w4L] at CW CX CY
  have em := HEM.out
  go_enter Try.func31, Try.ntmps31
  go_wp2_with (first | (go_at_call 36; ((with_reducible refine (CW _).mono ?_); rintro e w1 ⟨rfl, b1⟩; have KZ := KZ.below b1; have B1 := B0.trans (b1.mono B0.size); have KA := Blk.new w1 49 #[.int .i64 0, .int .i64 0, .int .i64 0, .int .i64 0])) | (refine wpList_store_row rfl 49 (.tmp 7) (.tmp 13) (by with_reducible rfl) w1.heap.size #[.int .i64 v0, .int .i64 v1, .int .i64 v2, .int .i64 v3] (by rfl) (by rfl) 49 #[.int .i64 0, .int .i64 0, .int .i64 0, .int .i64 0] (by exact KA) wInfo rfl (by simp [Value.oneCell']) ?_))
  have KA2 := blk_row KA #[.int .i64 v0, .int .i64 v1, .int .i64 v2, .int .i64 v3]
  have BS := below_setRow (below_a1 w1 (.cells #[.int .i64 0, .int .i64 0, .int .i64 0, .int .i64 0] 49)) (Nat.le_refl _) #[.int .i64 v0, .int .i64 v1, .int .i64 v2, .int .i64 v3]
  obtain ⟨W2, hW2⟩ : ∃ W2, W2 = (w1.alloc (.cells #[.int .i64 0, .int .i64 0, .int .i64 0, .int .i64 0] 49)).setRow w1.heap.size #[.int .i64 v0, .int .i64 v1, .int .i64 v2, .int .i64 v3] := ⟨_, rfl⟩
  rw [← hW2] at KA2 BS
  rw [← hW2]
  have KZ2 := KZ.below BS
  have B2 := B1.trans (BS.mono B1.size)
  have HLD := Lib.hid (fun (V : World) (hV : Below W2.heap.size W2 V) => load_blk (P := Try.prog) (ty := 49) (KA2.below hV) Try.underlying49 rfl wInfo)
  have HW2 := Lib.hid hW2
  have HKZ := Lib.hid KZ2
  have HB2 := Lib.hid B2
  clear hW2 KA KA2 KZ KZ2 BS B1 B2 b1 B0
  have hI : Below W2.heap.size W2 W2.drew := (Below.refl _ _).drew
  refine wp_region_chain_last (fun V => Below W2.heap.size W2 V) [(0, false), (1, false), (3, false), (4, false), (2, true), (5, true), (6, false)] _ _ (by rfl) (by rfl) (by kernel_rfl) (by kernel_rfl) hI ?_
  repeat (first
    | (refine ChainL.skip (o := ?_) ?_ ?_ ?_; rotate_left; (focus (first | (simp only [List.getElem?_toArray, List.getElem?_cons_succ, List.getElem?_cons_zero]; with_reducible rfl) | (simp only [List.getElem?_toArray, List.getElem?_cons_zero]; with_reducible rfl))); (focus rfl); simp only [Act.put, List.setIfInBounds_toArray, List.set_cons_zero, List.set_cons_succ])
    | (refine ChainL.val (o := ?_) (v := ?_) ?_ ?_ ?_ ?_ ?_; rotate_left 2; (focus (first | (simp only [List.getElem?_toArray, List.getElem?_cons_succ, List.getElem?_cons_zero]; with_reducible rfl) | (simp only [List.getElem?_toArray, List.getElem?_cons_zero]; with_reducible rfl))); (focus (intro _ _ h; cases h)); (focus rfl); (focus (intro w' hJ; have LD := HLD.out _ hJ; first | (have H := fun ρ o x => @exec_load _ ρ o _ _ x _ _ LD; refine H _ _ ?_ ?_ ?_; rotate_left; (focus rfl); (focus rfl)) | (go_simp <;> with_reducible rfl))); simp only [Act.put, List.setIfInBounds_toArray, List.set_cons_zero, List.set_cons_succ]))
  refine ChainL.call (o := ?_) (f := ?_) (args := ?_) ?_ ?_ ?_ ?_
  rotate_left 3
  (focus (first | (simp only [List.getElem?_toArray, List.getElem?_cons_succ, List.getElem?_cons_zero]; with_reducible rfl) | (simp only [List.getElem?_toArray, List.getElem?_cons_zero]; with_reducible rfl)))
  (focus rfl)
  (focus (go_simp; (constructor <;> with_reducible rfl)))
  with_reducible refine (CX.out _ (HB2.out.trans (hI.mono HB2.out.size))).mono ?_
  rintro e w5 ⟨rfl, b5⟩
  have I5 := hI.trans (b5.mono hI.size)
  refine ⟨_, rfl, I5, ?_⟩
  simp only [Act.put, List.setIfInBounds_toArray, List.set_cons_zero, List.set_cons_succ]
  refine ChainL.call (o := ?_) (f := ?_) (args := ?_) ?_ ?_ ?_ ?_
  rotate_left 3
  (focus (first | (simp only [List.getElem?_toArray, List.getElem?_cons_succ, List.getElem?_cons_zero]; with_reducible rfl) | (simp only [List.getElem?_toArray, List.getElem?_cons_zero]; with_reducible rfl)))
  (focus rfl)
  (focus (go_simp; (constructor <;> with_reducible rfl)))
  with_reducible refine (CY.out _ (HB2.out.trans (I5.mono HB2.out.size))).mono ?_
  rintro e w6 ⟨rfl, b6⟩
  have I6 := I5.trans (b6.mono I5.size)
  refine ⟨_, rfl, I6, ?_⟩
  simp only [Act.put, List.setIfInBounds_toArray, List.set_cons_zero, List.set_cons_succ]
  repeat (first
    | (refine ChainL.skip (o := ?_) ?_ ?_ ?_; rotate_left; (focus (first | (simp only [List.getElem?_toArray, List.getElem?_cons_succ, List.getElem?_cons_zero]; with_reducible rfl) | (simp only [List.getElem?_toArray, List.getElem?_cons_zero]; with_reducible rfl))); (focus rfl); simp only [Act.put, List.setIfInBounds_toArray, List.set_cons_zero, List.set_cons_succ])
    | (refine ChainL.val (o := ?_) (v := ?_) ?_ ?_ ?_ ?_ ?_; rotate_left 2; (focus (first | (simp only [List.getElem?_toArray, List.getElem?_cons_succ, List.getElem?_cons_zero]; with_reducible rfl) | (simp only [List.getElem?_toArray, List.getElem?_cons_zero]; with_reducible rfl))); (focus (intro _ _ h; cases h)); (focus rfl); (focus (intro w' hJ; skip; go_simp <;> with_reducible rfl)); simp only [Act.put, List.setIfInBounds_toArray, List.set_cons_zero, List.set_cons_succ]))
  refine ChainL.nil ?_
  refine wp_store_row 23 _ _ rfl w.heap.size #[.int .i64 rx, .int .i64 ry] rfl rfl 23 #[.int .i64 0, .int .i64 0] (HKZ.out.below I6) dtInfo rfl (by simp [Value.oneCell']) ?_
  simp only [Act.put]
  go_wp2
  exact bodyPost_ret (results_cell_row Try.results31 _ _ w.heap.size 23 #[.int .i64 rx, .int .i64 ry] (0, 0) _ (by rfl) (show Blk _ _ _ _ from blk_row (HKZ.out.below I6) _) Try.underlying23 rfl dtInfo) rfl ⟨rfl, below_setRow (HB2.out.trans (I6.mono HB2.out.size)) (Nat.le_refl _) _⟩

/-- One number of a place at i of n. -/
def at1 (kd k i n a b c d : Int) : Int := if kd = 2 then near (k * k * a + 2 * i * k * b + i * i * d) (n * n) else if kd = 3 then near (k * k * k * a + 3 * i * k * k * b + 3 * i * i * k * c + i * i * i * d) (n * n * n) else near (k * a + i * d) n
def atW (c : Bw) (i n : Int) : Dt := (at1 c.k (n - i) i n c.xa c.xb c.xc c.xd, at1 c.k (n - i) i n c.ya c.yb c.yc c.yd)
theorem al1 (k i : Int) : al (w4g (wts k i 1)) 2 = k + i := by simp [al, w4g, wts, stp]
theorem al2 (k i : Int) : al (w4g (wts k i 2)) 3 = (k + i) * (k + i) := by simp [al, w4g, wts, stp]; grind
theorem al3 (k i : Int) : al (w4g (wts k i 3)) 4 = (k + i) * (k + i) * (k + i) := by simp [al, w4g, wts, stp]; grind
theorem dp1 (k i : Int) (g : Nat → Int) : dp (w4g (wts k i 1)) g 2 = k * g 0 + i * g 1 := by simp [dp, w4g, wts, stp]
theorem dp2 (k i : Int) (g : Nat → Int) : dp (w4g (wts k i 2)) g 3 = k * k * g 0 + 2 * i * k * g 1 + i * i * g 2 := by simp [dp, w4g, wts, stp]; grind
theorem dp3 (k i : Int) (g : Nat → Int) : dp (w4g (wts k i 3)) g 4 = k * k * k * g 0 + 3 * i * k * k * g 1 + 3 * i * i * k * g 2 + i * i * i * g 3 := by simp [dp, w4g, wts, stp]; grind
theorem plc_at {c : Bw} {m : Nat} (h : (plc c).length = m + 1) (i n : Int) : (dpx (plc c) i n m, dpy (plc c) i n m) = atW c i n := by
  obtain ⟨k, xa, ya, xb, yb, xc, yc, xd, yd⟩ := c
  unfold atW at1 dpx dpy
  rcases kinds k with rfl | rfl | rfl | ⟨h1, h2, h3⟩
  · obtain rfl : m = 1 := by simp [plc] at h; omega
    simp [plc]
    rw [al1, dp1, dp1, Int.sub_add_cancel]
    exact ⟨rfl, rfl⟩
  · obtain rfl : m = 2 := by simp [plc] at h; omega
    simp [plc]
    rw [al2, dp2, dp2, Int.sub_add_cancel]
    exact ⟨rfl, rfl⟩
  · obtain rfl : m = 3 := by simp [plc] at h; omega
    simp [plc]
    rw [al3, dp3, dp3, Int.sub_add_cancel]
    exact ⟨rfl, rfl⟩
  · rw [plc_0 (c := ⟨k, xa, ya, xb, yb, xc, yc, xd, yd⟩) h1 h2 h3] at h
    simp at h
theorem al_pos {m : Nat} (hm : 1 ≤ m ∧ m ≤ 3) {i n : Int} (h : 1 ≤ n) : 1 ≤ al (w4g (wts (n - i) i m)) (m + 1) := by
  have s := Int.mul_le_mul (a := 1) (b := 1) (c := n) (d := n) h h (by omega) (by omega)
  have s3 := Int.mul_le_mul (a := 1) (b := 1) (c := n * n) (d := n) (by omega) h (by omega) (by omega)
  match m, hm with
  | 1, _ => rw [al1]; omega
  | 2, _ => rw [al2, Int.sub_add_cancel]; omega
  | 3, _ => rw [al3, Int.sub_add_cancel]; omega
/-- How many places a bow has, less one. -/
theorem plc_len {c : Bw} (h : mayW c = true) : ∃ m, (plc c).length = m + 1 ∧ 1 ≤ m ∧ m ≤ 3 := by
  obtain ⟨k, xa, ya, xb, yb, xc, yc, xd, yd⟩ := c
  rcases kinds k with rfl | rfl | rfl | ⟨h1, h2, h3⟩
  · exact ⟨1, rfl, by omega, by omega⟩
  · exact ⟨2, rfl, by omega, by omega⟩
  · exact ⟨3, rfl, by omega, by omega⟩
  · exfalso; unfold mayW at h; rw [plc_0 (c := ⟨k, xa, ya, xb, yb, xc, yc, xd, yd⟩) h1 h2 h3] at h; cases h
/-- The places of a bow that may be. -/
theorem cplaces_any (c : Bw) (h : mayW c = true) (w : World) : Calls Try.prog 22 #[bwV c] w fun e w' => ∃ b, e = .returned (.slice (some ⟨b, 0, none⟩) (plc c).length (plc c).length) ∧ Lists w' w'.heap.size (some ⟨b, 0, none⟩) ((plc c).flatMap dtL) ∧ Below w.heap.size w w' := by
  obtain ⟨k, xa, ya, xb, yb, xc, yc, xd, yd⟩ := c
  unfold bwV
  dsimp only
  rcases kinds k with rfl | rfl | rfl | ⟨h1, h2, h3⟩
  · refine (places_1 xa ya xb yb xc yc xd yd w).mono ?_
    rintro e w1 ⟨b, rfl, K, hb, b1⟩
    exact ⟨b, rfl, (lists_blkD K).more K.lt, b1⟩
  · refine (places_2 xa ya xb yb xc yc xd yd w).mono ?_
    rintro e w1 ⟨b, rfl, K, hb, b1⟩
    exact ⟨b, rfl, (lists_blkD K).more K.lt, b1⟩
  · refine (places_3 xa ya xb yb xc yc xd yd w).mono ?_
    rintro e w1 ⟨b, rfl, K, hb, b1⟩
    exact ⟨b, rfl, (lists_blkD K).more K.lt, b1⟩
  · exfalso; unfold mayW at h; rw [plc_0 (c := ⟨k, xa, ya, xb, yb, xc, yc, xd, yd⟩) h1 h2 h3] at h; cases h
theorem any_of_may {c : Bw} (h : mayW c = true) : (plc c).any farD = false := by
  unfold mayW at h
  rw [Bool.and_eq_true] at h
  simpa using h.2

/-- At i of n: refused, or a place. -/
def atOk (c : Bw) (i n : Int) : Bool := mayW c && decide (1 ≤ n) && decide (n ≤ 512) && decide (0 ≤ i) && decide (i ≤ n)
set_option maxRecDepth 100000 in
set_option maxHeartbeats 1000000 in
theorem cat_ok (c : Bw) (i n : Int) (h : mayW c = true) (n1 : 1 ≤ n) (n2 : n ≤ 512) (i0 : 0 ≤ i) (i1 : i ≤ n) (w : World) : Calls Try.prog 17 #[bwV c, .int .i64 i, .int .i64 n] w fun e w' => e = .returned (.tuple #[.agg #[.int .i64 (atW c i n).1, .int .i64 (atW c i n).2], .int .i64 0]) ∧ Below w.heap.size w w' := by
  have CM := fun W => cmay_any c W
  have CP := fun W => cplaces_any c h W
  obtain ⟨m, hl, m1, m3⟩ := plc_len h
  have HA := Lib.hid (fun (W : World) b (hL : Lists W W.heap.size (some ⟨b, 0, none⟩) ((plc c).flatMap dtL)) => at_any m W.heap.size (some ⟨b, 0, none⟩) (plc c).length (plc c) i n W (Nat.le_refl _) hL hl m3 (any_of_may h) i0 i1 n2 (al_pos ⟨m1, m3⟩ n1))
  have hxy := plc_at hl i n
  have ex : dpx (plc c) i n m = (atW c i n).1 := congrArg Prod.fst hxy
  have ey : dpy (plc c) i n m = (atW c i n).2 := congrArg Prod.snd hxy
  rw [ex, ey] at HA
  rw [hl] at CP HA
  rw [h] at CM
  clear hxy ex ey h hl m1 m3
  generalize (atW c i n).1 = rx at *
  generalize (atW c i n).2 = ry at *
  have B0 := below_a1 w (.cells (bwL c).toArray 25)
  have B1 := B0.alloc B0.size (.cells #[.int .i64 0, .int .i64 0] 23)
  have KB := (Blk.new w 25 (bwL c).toArray).below (below_a1 _ (.cells #[.int .i64 0, .int .i64 0] 23))
  have KZ := Blk.new (w.alloc (.cells (bwL c).toArray 25)) 23 #[.int .i64 0, .int .i64 0]
  rw [World.size_alloc] at KZ
  have d1 : decide (n < 1) = false := by simp; omega
  have d2 : decide (n > 512) = false := by simp; omega
  have d3 : decide (i < 0) = false := by simp; omega
  have d4 : decide (i > n) = false := by simp; omega
  have HKZ := Lib.hid KZ
  have HB1 := Lib.hid B1
  have HKB := Lib.hid KB
  clear B0 B1 KZ KB
  unfold bwV at *
  go_enter Try.func17, Try.ntmps17
  go_wp2_with (first | (go_at_call 11; ((with_reducible refine (CM _).mono ?_); rintro e w1 ⟨rfl, b1⟩; have KZ1 := HKZ.out.below b1; have KB1 := HKB.out.below b1; have kc := KB1.lt; have k0 := KB1.cell 0; have k1 := KB1.cell 1; have k2 := KB1.cell 2; have k3 := KB1.cell 3; have k4 := KB1.cell 4; have k5 := KB1.cell 5; have k6 := KB1.cell 6; have k7 := KB1.cell 7; have k8 := KB1.cell 8; simp only [bwL, List.getElem?_toArray, List.getElem?_cons_succ, List.getElem?_cons_zero] at k0 k1 k2 k3 k4 k5 k6 k7 k8; have HB2 := Lib.hid (HB1.out.trans (b1.mono HB1.out.size)); have HKZ1 := Lib.hid KZ1; clear KZ1 KB1)) | (go_at_call 22; ((with_reducible refine (CP _).mono ?_); rintro e w2 ⟨b, rfl, hL2, b2⟩; have CA := HA.out _ b hL2; have HB3 := Lib.hid (HB2.out.trans (b2.mono HB2.out.size)); have HKZ2 := Lib.hid (HKZ1.out.below b2); clear hL2)) | (go_at_call 31; ((with_reducible refine (CA).mono ?_); rintro e w3 ⟨rfl, b3⟩; have HB4 := Lib.hid (HB3.out.trans (b3.mono HB3.out.size)); have HKZ3 := Lib.hid (HKZ2.out.below b3))) | (refine wpList_store_row rfl 23 (.tmp 6) (.tmp 33) (by with_reducible rfl) (w.heap.size + 1) #[.int .i64 rx, .int .i64 ry] (by rfl) (by rfl) 23 #[.int .i64 0, .int .i64 0] (by exact HKZ3.out) dtInfo rfl (by simp [Value.oneCell']) ?_))
  exact bodyPost_ret (results_row_tmp Try.results17 _ _ (w.heap.size + 1) 23 #[.int .i64 rx, .int .i64 ry] (0, 0) _ (.int .i64 0) (by rfl) (by rfl) (show Blk _ _ _ _ from blk_row HKZ3.out _) Try.underlying23 rfl dtInfo) rfl ⟨rfl, below_setRow HB4.out (by simp) _⟩
set_option maxRecDepth 100000 in
set_option maxHeartbeats 1000000 in
theorem cat_no0 (c : Bw) (i n : Int) (h : mayW c = false)  (w : World) : Calls Try.prog 17 #[bwV c, .int .i64 i, .int .i64 n] w fun e w' => e = .returned (.tuple #[.agg #[.int .i64 0, .int .i64 0], .int .i64 1]) ∧ Below w.heap.size w w' := by
  have CM := fun W => cmay_any c W
  rw [h] at CM
  clear h
  have B0 := below_a1 w (.cells (bwL c).toArray 25)
  have B1 := B0.alloc B0.size (.cells #[.int .i64 0, .int .i64 0] 23)
  have KZ := Blk.new (w.alloc (.cells (bwL c).toArray 25)) 23 #[.int .i64 0, .int .i64 0]
  rw [World.size_alloc] at KZ
  have HKZ := Lib.hid KZ
  have HB1 := Lib.hid B1
  clear B0 B1 KZ
  unfold bwV at *
  go_enter Try.func17, Try.ntmps17
  go_wp2_with (first | (go_at_call 11; ((with_reducible refine (CM _).mono ?_); rintro e w1 ⟨rfl, b1⟩; have HB2 := Lib.hid (HB1.out.trans (b1.mono HB1.out.size)); have HKZ1 := Lib.hid (HKZ.out.below b1))) | (refine wpList_store_row rfl 23 (.tmp 6) (.tmp 28) (by with_reducible rfl) (w.heap.size + 1) #[.int .i64 0, .int .i64 0] (by rfl) (by rfl) 23 #[.int .i64 0, .int .i64 0] (by exact HKZ1.out) dtInfo rfl (by simp [Value.oneCell']) ?_))
  exact bodyPost_ret (results_row_tmp Try.results17 _ _ (w.heap.size + 1) 23 #[.int .i64 0, .int .i64 0] (0, 0) _ (.int .i64 1) (by rfl) (by rfl) (show Blk _ _ _ _ from blk_row HKZ1.out _) Try.underlying23 rfl dtInfo) rfl ⟨rfl, below_setRow HB2.out (by simp) _⟩
set_option maxRecDepth 100000 in
set_option maxHeartbeats 1000000 in
theorem cat_no1 (c : Bw) (i n : Int) (h : mayW c = true) (d1 : decide (n < 1) = true) (w : World) : Calls Try.prog 17 #[bwV c, .int .i64 i, .int .i64 n] w fun e w' => e = .returned (.tuple #[.agg #[.int .i64 0, .int .i64 0], .int .i64 1]) ∧ Below w.heap.size w w' := by
  have CM := fun W => cmay_any c W
  rw [h] at CM
  clear h
  have B0 := below_a1 w (.cells (bwL c).toArray 25)
  have B1 := B0.alloc B0.size (.cells #[.int .i64 0, .int .i64 0] 23)
  have KZ := Blk.new (w.alloc (.cells (bwL c).toArray 25)) 23 #[.int .i64 0, .int .i64 0]
  rw [World.size_alloc] at KZ
  have HKZ := Lib.hid KZ
  have HB1 := Lib.hid B1
  clear B0 B1 KZ
  unfold bwV at *
  go_enter Try.func17, Try.ntmps17
  go_wp2_with (first | (go_at_call 11; ((with_reducible refine (CM _).mono ?_); rintro e w1 ⟨rfl, b1⟩; have HB2 := Lib.hid (HB1.out.trans (b1.mono HB1.out.size)); have HKZ1 := Lib.hid (HKZ.out.below b1))) | (refine wpList_store_row rfl 23 (.tmp 6) (.tmp 28) (by with_reducible rfl) (w.heap.size + 1) #[.int .i64 0, .int .i64 0] (by rfl) (by rfl) 23 #[.int .i64 0, .int .i64 0] (by exact HKZ1.out) dtInfo rfl (by simp [Value.oneCell']) ?_))
  exact bodyPost_ret (results_row_tmp Try.results17 _ _ (w.heap.size + 1) 23 #[.int .i64 0, .int .i64 0] (0, 0) _ (.int .i64 1) (by rfl) (by rfl) (show Blk _ _ _ _ from blk_row HKZ1.out _) Try.underlying23 rfl dtInfo) rfl ⟨rfl, below_setRow HB2.out (by simp) _⟩
set_option maxRecDepth 100000 in
set_option maxHeartbeats 1000000 in
theorem cat_no2 (c : Bw) (i n : Int) (h : mayW c = true) (d1 : decide (n < 1) = false) (d2 : decide (n > 512) = true) (w : World) : Calls Try.prog 17 #[bwV c, .int .i64 i, .int .i64 n] w fun e w' => e = .returned (.tuple #[.agg #[.int .i64 0, .int .i64 0], .int .i64 1]) ∧ Below w.heap.size w w' := by
  have CM := fun W => cmay_any c W
  rw [h] at CM
  clear h
  have B0 := below_a1 w (.cells (bwL c).toArray 25)
  have B1 := B0.alloc B0.size (.cells #[.int .i64 0, .int .i64 0] 23)
  have KZ := Blk.new (w.alloc (.cells (bwL c).toArray 25)) 23 #[.int .i64 0, .int .i64 0]
  rw [World.size_alloc] at KZ
  have HKZ := Lib.hid KZ
  have HB1 := Lib.hid B1
  clear B0 B1 KZ
  unfold bwV at *
  go_enter Try.func17, Try.ntmps17
  go_wp2_with (first | (go_at_call 11; ((with_reducible refine (CM _).mono ?_); rintro e w1 ⟨rfl, b1⟩; have HB2 := Lib.hid (HB1.out.trans (b1.mono HB1.out.size)); have HKZ1 := Lib.hid (HKZ.out.below b1))) | (refine wpList_store_row rfl 23 (.tmp 6) (.tmp 28) (by with_reducible rfl) (w.heap.size + 1) #[.int .i64 0, .int .i64 0] (by rfl) (by rfl) 23 #[.int .i64 0, .int .i64 0] (by exact HKZ1.out) dtInfo rfl (by simp [Value.oneCell']) ?_))
  exact bodyPost_ret (results_row_tmp Try.results17 _ _ (w.heap.size + 1) 23 #[.int .i64 0, .int .i64 0] (0, 0) _ (.int .i64 1) (by rfl) (by rfl) (show Blk _ _ _ _ from blk_row HKZ1.out _) Try.underlying23 rfl dtInfo) rfl ⟨rfl, below_setRow HB2.out (by simp) _⟩
set_option maxRecDepth 100000 in
set_option maxHeartbeats 1000000 in
theorem cat_no3 (c : Bw) (i n : Int) (h : mayW c = true) (d1 : decide (n < 1) = false) (d2 : decide (n > 512) = false) (d3 : decide (i < 0) = true) (w : World) : Calls Try.prog 17 #[bwV c, .int .i64 i, .int .i64 n] w fun e w' => e = .returned (.tuple #[.agg #[.int .i64 0, .int .i64 0], .int .i64 1]) ∧ Below w.heap.size w w' := by
  have CM := fun W => cmay_any c W
  rw [h] at CM
  clear h
  have B0 := below_a1 w (.cells (bwL c).toArray 25)
  have B1 := B0.alloc B0.size (.cells #[.int .i64 0, .int .i64 0] 23)
  have KZ := Blk.new (w.alloc (.cells (bwL c).toArray 25)) 23 #[.int .i64 0, .int .i64 0]
  rw [World.size_alloc] at KZ
  have HKZ := Lib.hid KZ
  have HB1 := Lib.hid B1
  clear B0 B1 KZ
  unfold bwV at *
  go_enter Try.func17, Try.ntmps17
  go_wp2_with (first | (go_at_call 11; ((with_reducible refine (CM _).mono ?_); rintro e w1 ⟨rfl, b1⟩; have HB2 := Lib.hid (HB1.out.trans (b1.mono HB1.out.size)); have HKZ1 := Lib.hid (HKZ.out.below b1))) | (refine wpList_store_row rfl 23 (.tmp 6) (.tmp 28) (by with_reducible rfl) (w.heap.size + 1) #[.int .i64 0, .int .i64 0] (by rfl) (by rfl) 23 #[.int .i64 0, .int .i64 0] (by exact HKZ1.out) dtInfo rfl (by simp [Value.oneCell']) ?_))
  exact bodyPost_ret (results_row_tmp Try.results17 _ _ (w.heap.size + 1) 23 #[.int .i64 0, .int .i64 0] (0, 0) _ (.int .i64 1) (by rfl) (by rfl) (show Blk _ _ _ _ from blk_row HKZ1.out _) Try.underlying23 rfl dtInfo) rfl ⟨rfl, below_setRow HB2.out (by simp) _⟩
set_option maxRecDepth 100000 in
set_option maxHeartbeats 1000000 in
theorem cat_no4 (c : Bw) (i n : Int) (h : mayW c = true) (d1 : decide (n < 1) = false) (d2 : decide (n > 512) = false) (d3 : decide (i < 0) = false) (d4 : decide (i > n) = true) (w : World) : Calls Try.prog 17 #[bwV c, .int .i64 i, .int .i64 n] w fun e w' => e = .returned (.tuple #[.agg #[.int .i64 0, .int .i64 0], .int .i64 1]) ∧ Below w.heap.size w w' := by
  have CM := fun W => cmay_any c W
  rw [h] at CM
  clear h
  have B0 := below_a1 w (.cells (bwL c).toArray 25)
  have B1 := B0.alloc B0.size (.cells #[.int .i64 0, .int .i64 0] 23)
  have KZ := Blk.new (w.alloc (.cells (bwL c).toArray 25)) 23 #[.int .i64 0, .int .i64 0]
  rw [World.size_alloc] at KZ
  have HKZ := Lib.hid KZ
  have HB1 := Lib.hid B1
  clear B0 B1 KZ
  unfold bwV at *
  go_enter Try.func17, Try.ntmps17
  go_wp2_with (first | (go_at_call 11; ((with_reducible refine (CM _).mono ?_); rintro e w1 ⟨rfl, b1⟩; have HB2 := Lib.hid (HB1.out.trans (b1.mono HB1.out.size)); have HKZ1 := Lib.hid (HKZ.out.below b1))) | (refine wpList_store_row rfl 23 (.tmp 6) (.tmp 28) (by with_reducible rfl) (w.heap.size + 1) #[.int .i64 0, .int .i64 0] (by rfl) (by rfl) 23 #[.int .i64 0, .int .i64 0] (by exact HKZ1.out) dtInfo rfl (by simp [Value.oneCell']) ?_))
  exact bodyPost_ret (results_row_tmp Try.results17 _ _ (w.heap.size + 1) 23 #[.int .i64 0, .int .i64 0] (0, 0) _ (.int .i64 1) (by rfl) (by rfl) (show Blk _ _ _ _ from blk_row HKZ1.out _) Try.underlying23 rfl dtInfo) rfl ⟨rfl, below_setRow HB2.out (by simp) _⟩
theorem cat_no (c : Bw) (i n : Int) (h : atOk c i n = false) (w : World) : Calls Try.prog 17 #[bwV c, .int .i64 i, .int .i64 n] w fun e w' => e = .returned (.tuple #[.agg #[.int .i64 0, .int .i64 0], .int .i64 1]) ∧ Below w.heap.size w w' := by
  cases hm : mayW c
  · exact cat_no0 c i n hm w
  · by_cases h1 : n < 1
    · exact cat_no1 c i n hm (by simpa using h1) w
    · by_cases h2 : n > 512
      · exact cat_no2 c i n hm (by simpa using h1) (by simpa using h2) w
      · by_cases h3 : i < 0
        · exact cat_no3 c i n hm (by simpa using h1) (by simpa using h2) (by simpa using h3) w
        · by_cases h4 : i > n
          · exact cat_no4 c i n hm (by simpa using h1) (by simpa using h2) (by simpa using h3) (by simpa using h4) w
          · exfalso
            unfold atOk at h
            rw [hm] at h
            simp at h
            omega
end Go.Proofs.Ytngfillgndhfbaa
