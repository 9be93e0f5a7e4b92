/- Part 7 of the proof: CvF, Law, Law4, OpenInts, CvO. -/
import Derived.Test.YtngfillgndhfbaaRows
import Derived.ProofKit
import Derived.OpenShut
import Derived.Carry
import Derived.Lib.SmallJoins
import Derived.ChangeSlices
import Derived.Test.YtngfillgndhfbaaCCv5

namespace Go.Proofs.Ytngfillgndhfbaa
open Go Go.RowKit
set_option linter.unusedVariables false
set_option linter.unusedSimpArgs false

set_option maxRecDepth 100000 in
set_option maxHeartbeats 1000000 in
theorem rbend_2 (xa ya xb yb xc yc xd yd : Int) (hxa : -1048576 ≤ xa ∧ xa ≤ 1048576) (hya : -1048576 ≤ ya ∧ ya ≤ 1048576) (hxb : -1048576 ≤ xb ∧ xb ≤ 1048576) (hyb : -1048576 ≤ yb ∧ yb ≤ 1048576) (hxd : -1048576 ≤ xd ∧ xd ≤ 1048576) (hyd : -1048576 ≤ yd ∧ yd ≤ 1048576) (w : World) : Calls Try.prog 15 #[.agg #[.int .i64 2, .int .i64 xa, .int .i64 ya, .int .i64 xb, .int .i64 yb, .int .i64 xc, .int .i64 yc, .int .i64 xd, .int .i64 yd]] w fun e w' => e = .returned (.int .i64 (max (bnd xa xb xd) (bnd ya yb yd))) ∧ Below w.heap.size w w' := by
  have B0 := below_a1 w (.cells #[.int .i64 2, .int .i64 xa, .int .i64 ya, .int .i64 xb, .int .i64 yb, .int .i64 xc, .int .i64 yc, .int .i64 xd, .int .i64 yd] 25)
  have KB := Blk.new w 25 #[.int .i64 2, .int .i64 xa, .int .i64 ya, .int .i64 xb, .int .i64 yb, .int .i64 xc, .int .i64 yc, .int .i64 xd, .int .i64 yd]
  have C := fun W => rsecond_any xa ya xb yb xd yd hxa hya hxb hyb hxd hyd W
  go_enter Try.func15, Try.ntmps15
  go_wp2_with (first | (go_at_call 29; ((with_reducible refine (C _).mono ?_); rintro e w1 ⟨rfl, b1⟩)))
  go_ret
  exact ⟨rfl, B0.trans (b1.mono B0.size)⟩
set_option maxRecDepth 100000 in
theorem rbend_n (k : Int) (xa ya xb yb xc yc xd yd : Int) (w : World) (h2 : (k == 2) = false) (h3 : (k == 3) = false) : Calls Try.prog 15 #[.agg #[.int .i64 k, .int .i64 xa, .int .i64 ya, .int .i64 xb, .int .i64 yb, .int .i64 xc, .int .i64 yc, .int .i64 xd, .int .i64 yd]] w fun e w' => e = .returned (.int .i64 0) ∧ Below w.heap.size w w' := by
  go_enter Try.func15, Try.ntmps15
  go_wp2
  go_ret
  exact ⟨rfl, below_a1 _ _⟩
set_option maxRecDepth 100000 in
set_option maxHeartbeats 2000000 in
theorem rbend_3 (xa ya xb yb xc yc xd yd : Int) (hxa : -1048576 ≤ xa ∧ xa ≤ 1048576) (hya : -1048576 ≤ ya ∧ ya ≤ 1048576) (hxb : -1048576 ≤ xb ∧ xb ≤ 1048576) (hyb : -1048576 ≤ yb ∧ yb ≤ 1048576) (hxc : -1048576 ≤ xc ∧ xc ≤ 1048576) (hyc : -1048576 ≤ yc ∧ yc ≤ 1048576) (hxd : -1048576 ≤ xd ∧ xd ≤ 1048576) (hyd : -1048576 ≤ yd ∧ yd ≤ 1048576) (w : World) : Calls Try.prog 15 #[.agg #[.int .i64 3, .int .i64 xa, .int .i64 ya, .int .i64 xb, .int .i64 yb, .int .i64 xc, .int .i64 yc, .int .i64 xd, .int .i64 yd]] w fun e w' => e = .returned (.int .i64 (max (max (bnd xa xb xc) (bnd ya yb yc)) (max (bnd xb xc xd) (bnd yb yc yd)))) ∧ Below w.heap.size w w' := by
  have B0 := below_a1 w (.cells #[.int .i64 3, .int .i64 xa, .int .i64 ya, .int .i64 xb, .int .i64 yb, .int .i64 xc, .int .i64 yc, .int .i64 xd, .int .i64 yd] 25)
  have KB := Blk.new w 25 #[.int .i64 3, .int .i64 xa, .int .i64 ya, .int .i64 xb, .int .i64 yb, .int .i64 xc, .int .i64 yc, .int .i64 xd, .int .i64 yd]
  have C1 := fun W => rsecond_any xa ya xb yb xc yc hxa hya hxb hyb hxc hyc W
  have C2 := fun W => rsecond_any xb yb xc yc xd yd hxb hyb hxc hyc hxd hyd W
  have C3 := fun W => rmost_any (max (bnd xa xb xc) (bnd ya yb yc)) (max (bnd xb xc xd) (bnd yb yc yd)) W
  clear hxa hya hxb hyb hxc hyc hxd hyd
  obtain ⟨W0, hW0⟩ : ∃ W0, W0 = w.alloc (.cells #[.int .i64 3, .int .i64 xa, .int .i64 ya, .int .i64 xb, .int .i64 yb, .int .i64 xc, .int .i64 yc, .int .i64 xd, .int .i64 yd] 25) := ⟨_, rfl⟩
  rw [← hW0] at B0 KB
  have HD : ∀ V, Below W0.heap.size W0 V → V.cell? ⟨w.heap.size, 0, none⟩ = some (.int .i64 3) ∧ V.cell? ⟨w.heap.size, 1, none⟩ = some (.int .i64 xa) ∧ V.cell? ⟨w.heap.size, 2, none⟩ = some (.int .i64 ya) ∧ V.cell? ⟨w.heap.size, 3, none⟩ = some (.int .i64 xb) ∧ V.cell? ⟨w.heap.size, 4, none⟩ = some (.int .i64 yb) ∧ V.cell? ⟨w.heap.size, 5, none⟩ = some (.int .i64 xc) ∧ V.cell? ⟨w.heap.size, 6, none⟩ = some (.int .i64 yc) ∧ V.cell? ⟨w.heap.size, 7, none⟩ = some (.int .i64 xd) ∧ V.cell? ⟨w.heap.size, 8, none⟩ = some (.int .i64 yd) ∧ w.heap.size < V.heap.size := fun V hV => ⟨(KB.below hV).cell 0, (KB.below hV).cell 1, (KB.below hV).cell 2, (KB.below hV).cell 3, (KB.below hV).cell 4, (KB.below hV).cell 5, (KB.below hV).cell 6, (KB.below hV).cell 7, (KB.below hV).cell 8, (KB.below hV).lt⟩
  have HW0 := Lib.hid hW0
  clear hW0 KB
  generalize max (bnd xa xb xc) (bnd ya yb yc) = m1 at *
  generalize max (bnd xb xc xd) (bnd yb yc yd) = m2 at *
  obtain ⟨m, hm⟩ : ∃ m, m = max m1 m2 := ⟨_, rfl⟩
  rw [← hm] at C3 ⊢
  clear hm
  go_enter Try.func15, Try.ntmps15
  go_wp2
  rw [← HW0.out]
  have hI : Below W0.heap.size W0 W0.drew := (Below.refl _ _).drew
  refine wp_region_chain (fun V => Below W0.heap.size W0 V) [(0, false), (1, false), (2, false), (3, false), (4, false), (5, false), (7, false), (8, false), (9, false), (10, false), (11, false), (12, false), (6, true), (13, true), (14, true), (15, false)] (by kernel_rfl) (by kernel_rfl) hI ?_
  repeat (first
    | (refine ChainL.skip (o := ?_) ?_ ?_ ?_; rotate_left; (focus (first | (simp only [List.getElem?_toArray, List.getElem?_cons_succ, List.getElem?_cons_zero]; with_reducible rfl) | (simp only [List.getElem?_toArray, List.getElem?_cons_zero]; with_reducible rfl))); (focus rfl); simp only [Act.put, List.setIfInBounds_toArray, List.set_cons_zero, List.set_cons_succ])
    | (refine ChainL.val (o := ?_) (v := ?_) ?_ ?_ ?_ ?_ ?_; rotate_left 2; (focus (first | (simp only [List.getElem?_toArray, List.getElem?_cons_succ, List.getElem?_cons_zero]; with_reducible rfl) | (simp only [List.getElem?_toArray, List.getElem?_cons_zero]; with_reducible rfl))); (focus (intro _ _ h; cases h)); (focus rfl); (focus (intro w' hJ; obtain ⟨y0, y1, y2, y3, y4, y5, y6, y7, y8, yl⟩ := HD _ hJ; go_simp <;> with_reducible rfl)); simp only [Act.put, List.setIfInBounds_toArray, List.set_cons_zero, List.set_cons_succ]))
  refine ChainL.call (o := ?_) (f := ?_) (args := ?_) ?_ ?_ ?_ ?_
  rotate_left 3
  (focus (first | (simp only [List.getElem?_toArray, List.getElem?_cons_succ, List.getElem?_cons_zero]; with_reducible rfl) | (simp only [List.getElem?_toArray, List.getElem?_cons_zero]; with_reducible rfl)))
  (focus rfl)
  (focus (go_simp; (constructor <;> with_reducible rfl)))
  with_reducible refine (C1 _).mono ?_
  rintro e w5 ⟨rfl, b5⟩
  have I5 := hI.trans (b5.mono hI.size)
  refine ⟨_, rfl, I5, ?_⟩
  simp only [Act.put, List.setIfInBounds_toArray, List.set_cons_zero, List.set_cons_succ]
  refine ChainL.call (o := ?_) (f := ?_) (args := ?_) ?_ ?_ ?_ ?_
  rotate_left 3
  (focus (first | (simp only [List.getElem?_toArray, List.getElem?_cons_succ, List.getElem?_cons_zero]; with_reducible rfl) | (simp only [List.getElem?_toArray, List.getElem?_cons_zero]; with_reducible rfl)))
  (focus rfl)
  (focus (go_simp; (constructor <;> with_reducible rfl)))
  with_reducible refine (C2 _).mono ?_
  rintro e w6 ⟨rfl, b6⟩
  have I6 := I5.trans (b6.mono I5.size)
  refine ⟨_, rfl, I6, ?_⟩
  simp only [Act.put, List.setIfInBounds_toArray, List.set_cons_zero, List.set_cons_succ]
  refine ChainL.call (o := ?_) (f := ?_) (args := ?_) ?_ ?_ ?_ ?_
  rotate_left 3
  (focus (first | (simp only [List.getElem?_toArray, List.getElem?_cons_succ, List.getElem?_cons_zero]; with_reducible rfl) | (simp only [List.getElem?_toArray, List.getElem?_cons_zero]; with_reducible rfl)))
  (focus rfl)
  (focus (go_simp; (constructor <;> with_reducible rfl)))
  with_reducible refine (C3 _).mono ?_
  rintro e w7 ⟨rfl, rfl⟩
  refine ⟨_, rfl, I6, ?_⟩
  simp only [Act.put, List.setIfInBounds_toArray, List.set_cons_zero, List.set_cons_succ]
  repeat (first
    | (refine ChainL.skip (o := ?_) ?_ ?_ ?_; rotate_left; (focus (first | (simp only [List.getElem?_toArray, List.getElem?_cons_succ, List.getElem?_cons_zero]; with_reducible rfl) | (simp only [List.getElem?_toArray, List.getElem?_cons_zero]; with_reducible rfl))); (focus rfl); simp only [Act.put, List.setIfInBounds_toArray, List.set_cons_zero, List.set_cons_succ])
    | (refine ChainL.val (o := ?_) (v := ?_) ?_ ?_ ?_ ?_ ?_; rotate_left 2; (focus (first | (simp only [List.getElem?_toArray, List.getElem?_cons_succ, List.getElem?_cons_zero]; with_reducible rfl) | (simp only [List.getElem?_toArray, List.getElem?_cons_zero]; with_reducible rfl))); (focus (intro _ _ h; cases h)); (focus rfl); (focus (intro w' hJ; skip; go_simp <;> with_reducible rfl)); simp only [Act.put, List.setIfInBounds_toArray, List.set_cons_zero, List.set_cons_succ]))
  refine ChainL.nil ?_
  go_wp2
  go_ret
  exact ⟨rfl, B0.trans (I6.mono B0.size)⟩
theorem bnd_0 (a b d : Int) : 0 ≤ bnd a b d := by unfold bnd; omega
theorem rbend_any (c : Bw) (h : mayW c = true) (w : World) : Calls Try.prog 15 #[bwV c] w fun e w' => e = .returned (.int .i64 (bnW c)) ∧ Below w.heap.size w w' := by
  unfold bnW
  rw [if_pos h]
  obtain ⟨k, xa, ya, xb, yb, xc, yc, xd, yd⟩ := c
  unfold bwV
  dsimp only
  rcases kinds k with rfl | rfl | rfl | ⟨h1, h2, h3⟩
  · rw [if_neg (by decide), if_neg (by decide)]
    exact rbend_n 1 xa ya xb yb xc yc xd yd w rfl rfl
  · rw [if_pos rfl, m3_eq]
    simp [mayW, plc] at h
    have := bnd_0 xa xb xd
    rw [show max (max 0 (bnd xa xb xd)) (bnd ya yb yd) = max (bnd xa xb xd) (bnd ya yb yd) by omega]
    exact rbend_2 xa ya xb yb xc yc xd yd (farD_of h.1).1 (farD_of h.1).2 (farD_of h.2.1).1 (farD_of h.2.1).2 (farD_of h.2.2).1 (farD_of h.2.2).2 w
  · rw [if_neg (by decide), if_pos rfl, m3_eq, m3_eq]
    simp [mayW, plc] at h
    have := bnd_0 xa xb xc
    rw [show max (max (max (max 0 (bnd xa xb xc)) (bnd ya yb yc)) (bnd xb xc xd)) (bnd yb yc yd) = max (max (bnd xa xb xc) (bnd ya yb yc)) (max (bnd xb xc xd) (bnd yb yc yd)) by omega]
    exact rbend_3 xa ya xb yb xc yc xd yd (farD_of h.1).1 (farD_of h.1).2 (farD_of h.2.1).1 (farD_of h.2.1).2 (farD_of h.2.2.1).1 (farD_of h.2.2.1).2 (farD_of h.2.2.2).1 (farD_of h.2.2.2).2 w
  · rw [if_neg (by simpa using h2), if_neg (by simpa using h3)]
    exact rbend_n k xa ya xb yb xc yc xd yd w h2 h3
def needR (c : Bw) : Int := if c.k = 3 then 3 * bnW c else bnW c
theorem needR_eq (c : Bw) : needR c = need c := by unfold needR need; split <;> omega
set_option maxRecDepth 100000 in
set_option maxHeartbeats 1000000 in
theorem rneed_3 (c : Bw) (h : mayW c = true) (h3 : (c.k == 3) = true) (w : World) : Calls Try.prog 20 #[bwV c] w fun e w' => e = .returned (.int .i64 (3 * bnW c)) ∧ Below w.heap.size w w' := by
  have CB := fun W => rbend_any c h W
  have BL := bnW_le c
  have B0 := below_a1 w (.cells (bwL c).toArray 25)
  clear h
  unfold bwV at *
  generalize bnW c = d at *
  obtain ⟨l1, l2⟩ := BL
  go_enter Try.func20, Try.ntmps20
  go_wp2_with (first | (go_at_call 15; ((with_reducible refine (CB _).mono ?_); rintro e w1 ⟨rfl, b1⟩)))
  go_ret
  exact ⟨rfl, B0.trans (b1.mono B0.size)⟩
set_option maxRecDepth 100000 in
set_option maxHeartbeats 1000000 in
theorem rneed_n (c : Bw) (h : mayW c = true) (h3 : (c.k == 3) = false) (w : World) : Calls Try.prog 20 #[bwV c] w fun e w' => e = .returned (.int .i64 (bnW c)) ∧ Below w.heap.size w w' := by
  have CB := fun W => rbend_any c h W
  have BL := bnW_le c
  have B0 := below_a1 w (.cells (bwL c).toArray 25)
  clear h
  unfold bwV at *
  generalize bnW c = d at *
  obtain ⟨l1, l2⟩ := BL
  go_enter Try.func20, Try.ntmps20
  go_wp2_with (first | (go_at_call 15; ((with_reducible refine (CB _).mono ?_); rintro e w1 ⟨rfl, b1⟩)))
  go_ret
  exact ⟨rfl, B0.trans (b1.mono B0.size)⟩
theorem rneed_any (c : Bw) (h : mayW c = true) (w : World) : Calls Try.prog 20 #[bwV c] w fun e w' => e = .returned (.int .i64 (needR c)) ∧ Below w.heap.size w w' := by
  unfold needR
  by_cases h3 : c.k = 3
  · rw [if_pos h3]; exact rneed_3 c h (by simpa using h3) w
  · rw [if_neg h3]; exact rneed_n c h (by simpa using h3) w
set_option maxRecDepth 100000 in
set_option maxHeartbeats 1000000 in
theorem rpcs_any (c : Bw) (h : mayW c = true) (w : World) : Calls Try.prog 16 #[bwV c] w fun e w' => e = .returned (.int .i64 (pcW c)) ∧ Below w.heap.size w w' := by
  have CN := fun W => rneed_any c h W
  have B0 := below_a1 w (.cells (bwL c).toArray 25)
  have KB := Blk.new w 25 (bwL c).toArray
  unfold pcW
  rw [if_pos h, ← needR_eq]
  clear h
  unfold bwV at *
  unfold pcs
  generalize needR c = d at *
  obtain ⟨r, hr⟩ : ∃ r, r = pcsG d 255 1 := ⟨_, rfl⟩
  have HR := Lib.hid hr
  rw [← hr]
  have HK := Lib.hid KB
  clear hr KB
  go_enter Try.func16, Try.ntmps16
  go_wp2
  go_loopw [3] (fun n wr => ∃ k : Nat, 1 ≤ k ∧ k ≤ 256 ∧ n = .int .i64 k ∧ Hid (pcsG d (256 - k) k = r) ∧ Below w.heap.size w wr ∧ Blk wr w.heap.size 25 (bwL c).toArray) (fun n _ => 256 - (intOf n).toNat)
  case atStart => exact ⟨1, by omega, by omega, rfl, Lib.hid HR.out.symm, B0, HK.out⟩
  case round =>
    obtain ⟨k, hk1, hk2, rfl, HKr, hb, KB⟩ := hrel
    have HB := Lib.hid hb
    have kc := KB.lt
    have k0 := KB.cell 0
    have k1 := KB.cell 1
    have k2 := KB.cell 2
    have k3 := KB.cell 3
    have k4 := KB.cell 4
    have k5 := KB.cell 5
    have k6 := KB.cell 6
    have k7 := KB.cell 7
    have k8 := KB.cell 8
    simp only [bwL, List.getElem?_toArray, List.getElem?_cons_succ, List.getElem?_cons_zero] at k0 k1 k2 k3 k4 k5 k6 k7 k8
    have HKB := Lib.hid KB
    clear hb KB HK
    have hs := sq_le (k := k) (by omega) (by omega)
    obtain ⟨s1, s2⟩ := hs
    by_cases hk : k < 256
    · have d1 : decide ((k : Int) < 256) = true := by simp; omega
      by_cases hd : 8 * (k : Int) * k < d
      · have d2 : decide (d > 8 * (k : Int) * k) = true := by simpa using hd
        have HN := Lib.hid (pcsG_go hk hd)
        clear hd
        go_wp2_with (first | (go_at_call 20; ((with_reducible refine (CN _).mono ?_); rintro e w1 ⟨rfl, b1⟩)))
        go_roundw
        case rel => exact ⟨k + 1, by omega, by omega, by go_num, Lib.hid (HN.out.symm.trans HKr.out), HB.out.trans (b1.mono HB.out.size), HKB.out.below b1⟩
        case measure => simp [intOf]; omega
      · have d2 : decide (d > 8 * (k : Int) * k) = false := by simpa using hd
        have HN := Lib.hid (pcsG_end hk hd)
        clear hd
        go_wp2_with (first | (go_at_call 20; ((with_reducible refine (CN _).mono ?_); rintro e w1 ⟨rfl, b1⟩)))
        go_ret
        exact ⟨ret_int (HN.out.symm.trans HKr.out), HB.out.trans (b1.mono HB.out.size)⟩
    · have d1 : decide ((k : Int) < 256) = false := by simp; omega
      have hk : k = 256 := by omega
      have HN := Lib.hid HKr.out
      clear HKr
      subst hk
      go_wp2
      go_ret
      exact ⟨ret_int HN.out, HB.out⟩
end Go.Proofs.Ytngfillgndhfbaa

namespace Go.Proofs.Ytngfillgndhfbaa
open Go.ChangeShapes Go.WideShapes Go.ChangeAt Go.RowKit

section
variable {H : Type} {enc : TypeId × Value → H} {P : Program}

theorem args_stay (hl : laidOutB P = true) {W W' : World} (hb : Below W.heap.size W W') :
    ∀ {ts : List TypeId} {vs : List Value} {ds : List (DataW H)} {ps : List MemPlace}, (ts.all fun t => P.readableRec t && decide (t < P.types.size)) = true →
      DataW.TrodAll enc P W 0 (fun _ => true) true ts vs ds ps → (∀ x ∈ ps, x.block < W.heap.size) → DataW.TrodAll enc P W' 0 (fun b => decide (b < W.heap.size)) true ts vs ds ps
  | [], vs, ds, ps, _, h, _ => by
    obtain ⟨rfl, rfl, rfl⟩ := trodAll_nil h
    exact h
  | t :: ts, vs, ds, ps, hr, h, hp => by
    obtain ⟨v, vs', d, ds', p, q, rfl, rfl, rfl, h1, h2⟩ := trodAll_cons h
    rw [List.all_cons, Bool.and_eq_true, Bool.and_eq_true, decide_eq_true_eq] at hr
    exact trodAll_cons_mk (Below.trod hl hr.1.1 hr.1.2 h1 hb fun x hx => hp x (List.mem_append_left _ hx)) (args_stay hl hb hr.2 h2 fun x hx => hp x (List.mem_append_right _ hx))

theorem law_post {f : Func} {s : ChangeSpec} {T : TypeId} {W W' : World} {args : Array Value} {ds : List (DataW H)} {before : List MemPlace} (hl : laidOutB P = true)
    (hr : f.resultTypes = #[T]) (hT : P.underlying T = some .bool) (hrd : (f.params.toList.all fun t => P.readableRec t && decide (t < P.types.size)) = true) (hv : s.vars = [])
    (h1 : (s.fn H ds).results = [.lit (.bool true)]) (h2 : (s.fn H ds).args = ds) (h3 : (s.fn H ds).vars = [])
    (hW : DataW.Whole enc P f.params.toList s.vars false W args.toList ds [] before) (hb : Below W.heap.size W W') :
    s.post enc P f false true false false W args (.bool true) W' := by
  have hlt : ∀ p ∈ before, p.block < W.heap.size := fun p hp => hW.lt p hp
  obtain ⟨p, q, hA, hV, rfl, _, _⟩ := id hW
  rw [hv] at hV
  have hq : q = [] := by simpa [DataW.TrodVars] using hV
  subst hq
  rw [List.append_nil] at hlt
  refine ⟨ds, [], _, [], p, [], hW, ?_, ?_, ?_, ?_, fun h => nomatch h⟩
  · rw [hr, List.append_nil, h1]; exact trodAll_mk1 (shut_bool hT true)
  · rw [List.append_nil, h2]; exact args_stay hl hb hrd hA hlt
  · rw [List.append_nil, h3, hv]; rfl
  · exact World.keptBut_mono (fun x hx => ⟨by simpa using hx, .inr (.inl hx)⟩) (hb.frame (· ∈ p))
end

theorem Try.own : ownKnob Try.prog.godebug = none := by kernel_rfl
theorem Try.laidOut : laidOutB Try.prog = true := by kernel_rfl

end Go.Proofs.Ytngfillgndhfbaa

namespace Go.Proofs.Ytngfillgndhfbaa
open Go.ChangeShapes Go.WideShapes Go.ChangeAt Go.RowKit Go.Deep

section
variable {H : Type} {enc : TypeId × Value → H} {P : Program}
theorem open_four {w : World} {t : TypeId} {f0 f1 f2 f3 : Field} {base : Nat} {spare : Nat → Bool} {held : Bool} {r : Reach} {b0 : Nat} {v : Value} {d : DataW H} {p : List MemPlace}
    (hs : P.underlying t = some (.struct #[f0, f1, f2, f3])) (hone : oneCellFields P #[f0, f1, f2, f3] = true) (hC : P.cellsOf t = 4)
    (u0 : P.underlying f0.type = some (.int .i64)) (u1 : P.underlying f1.type = some (.int .i64)) (u2 : P.underlying f2.type = some (.int .i64)) (u3 : P.underlying f3.type = some (.int .i64))
    (hv : Value.okWide P w r b0 t v) (h : DataW.Trod enc P w base spare held t v d p) :
    ∃ a b c e : Int, v = .agg #[.int .i64 a, .int .i64 b, .int .i64 c, .int .i64 e] ∧ (Lit.int .i64 a).wf = true ∧ (Lit.int .i64 b).wf = true ∧ (Lit.int .i64 c).wf = true ∧ (Lit.int .i64 e).wf = true := by
  obtain ⟨v0, v1, v2, v3, y0, y1, y2, y3, n, rfl, _, _, h0, h1, h2, h3⟩ := Joins.open_agg4 hs hone hC hv h
  obtain ⟨a, e0, _, wa⟩ := DataW.trod_int u0 h0
  obtain ⟨b, e1, _, wb⟩ := DataW.trod_int u1 h1
  obtain ⟨c, e2, _, wc⟩ := DataW.trod_int u2 h2
  obtain ⟨e, e3, _, we⟩ := DataW.trod_int u3 h3
  simp at e0 e1 e2 e3
  subst e0 e1 e2 e3
  exact ⟨a, b, c, e, rfl, wa, wb, wc, we⟩
end


end Go.Proofs.Ytngfillgndhfbaa

namespace Go.Proofs.Ytngfillgndhfbaa
open Go.ChangeShapes Go.WideShapes Go.ChangeAt Go.RowKit

section
variable {H : Type} {enc : TypeId × Value → H} {P : Program}
theorem open_list_int {w : World} {t e : TypeId} {base : Nat} {spare : Nat → Bool} {held : Bool} {r : Reach} {b0 : Nat} {v : Value} {d : DataW H} {p : List MemPlace}
    (hs : P.underlying t = some (.slice e)) (he : P.underlying e = some (.int .i64)) (hC : P.cellsOf e = 1)
    (hv : Value.okWide P w r b0 t v) (h : DataW.Trod enc P w base spare held t v d p) :
    ∃ (A : Option Addr) (n c : Nat) (zs : List Int), v = .slice A n c ∧ zs.length = n ∧ n ≤ c ∧ c ≤ maxLen ∧ Lists w w.heap.size A (intCells zs) ∧ ∀ z ∈ zs, (Lit.int .i64 z).wf = true := by
  obtain ⟨a0, len, cap, rfl⟩ := okWide_slice hs hv
  obtain ⟨fuel, hf⟩ := h
  rcases open_ints hs he hC hf with ⟨hcs, _⟩ | ⟨a, len', cap', zs, hcs, _, hl, hm, hz, _, hcell, hwf⟩
  · simp [Value.cells] at hcs
    obtain ⟨rfl, rfl, rfl⟩ := hcs
    exact ⟨none, 0, 0, [], rfl, rfl, Nat.le_refl _, Nat.zero_le _, Lists.empty _ _ _, fun z hz => by cases hz⟩
  · simp [Value.cells] at hcs
    obtain ⟨rfl, rfl, rfl⟩ := hcs
    have hlen : len ≤ zs.length := by split at hz <;> omega
    have hc : ∀ j u, (intCells (zs.take len))[j]? = some u → w.cell? (a.add j) = some u := fun j u hu => by
      have hj : j < (zs.take len).length := by
        rcases Nat.lt_or_ge j (zs.take len).length with h | h
        · exact h
        · rw [List.getElem?_eq_none (by rw [intCells_len]; exact h)] at hu; cases hu
      rw [intCells_get _ _ hj] at hu
      have hj2 : j < len := by simp at hj; omega
      have hh := hcell j (by omega)
      cases hu
      rw [hh]
      simp [List.getD, hj2]
    refine ⟨some a, len, cap, zs.take len, rfl, by simp; omega, hl, hm, ⟨fun ha => (nomatch ha), fun a' ha => ?_, fun a' ha hx => ?_⟩, fun z hz' => hwf z (List.mem_of_mem_take hz')⟩
    · cases ha; exact hc
    · cases ha
      have h0 : 0 < (intCells (zs.take len)).length := by
        rcases Nat.eq_zero_or_pos (intCells (zs.take len)).length with h | h
        · exact absurd (List.eq_nil_of_length_eq_zero h) hx
        · exact h
      have := hc 0 _ (List.getElem?_eq_getElem h0)
      rcases Nat.lt_or_ge a.block w.heap.size with h | h
      · exact h
      · have e0 : (a.add 0) = a := by simp [Addr.add]
        rw [e0] at this
        unfold World.cell? at this
        rw [Array.getElem?_eq_none h] at this
        cases this
end

end Go.Proofs.Ytngfillgndhfbaa

namespace Go.Proofs.Ytngfillgndhfbaa
open Go.ChangeShapes Go.WideShapes Go.ChangeAt Go.RowKit

theorem cellsIB : Try.prog.cellsOf 3 = 1 := by kernel_rfl
theorem cellsDB : Try.prog.cellsOf 23 = 2 := by kernel_rfl
theorem cellsBB : Try.prog.cellsOf 25 = 9 := by kernel_rfl
theorem array_9B {α : Type} {cs : Array α} (h : cs.size = 9) : ∃ c0 c1 c2 c3 c4 c5 c6 c7 c8, cs = #[c0, c1, c2, c3, c4, c5, c6, c7, c8] := by
  obtain ⟨l⟩ := cs
  match l, h with
  | [c0, c1, c2, c3, c4, c5, c6, c7, c8], _ => exact ⟨c0, c1, c2, c3, c4, c5, c6, c7, c8, rfl⟩
section
variable {H : Type} {enc : TypeId × Value → H}
set_option maxRecDepth 100000 in
theorem open_dot {w : World} {base fuel : Nat} {spare : Nat → Bool} {held : Bool} {c0 c1 : Value} {x : DataW H × List MemPlace}
    (h : DataW.trod enc Try.prog w base spare held fuel 23 [c0, c1] = some x) : ∃ a b : Int, c0 = .int .i64 a ∧ c1 = .int .i64 b := by
  obtain ⟨zs, m, _, _, _, hlen2, hb⟩ := DataW.trod_struct Try.underlying23 h
  match zs, hlen2 with
  | [z0, z1], _ =>
    have k0 := hb 0 _ rfl
    have k1 := hb 1 _ rfl
    simp [cellsIB] at k0 k1
    obtain ⟨a1, e1, _⟩ := DataW.trod_int Try.underlying3 k0
    obtain ⟨a2, e2, _⟩ := DataW.trod_int Try.underlying3 k1
    simp at e1 e2
    exact ⟨a1, a2, e1, e2⟩
set_option maxRecDepth 100000 in
theorem open_bow {w : World} {base : Nat} {spare : Nat → Bool} {held : Bool} {r : Reach} {b0 : Nat} {v : Value} {d : DataW H} {p : List MemPlace}
    (hv : Value.okWide Try.prog w r b0 25 v) (h : DataW.Trod enc Try.prog w base spare held 25 v d p) :
    ∃ c : Bw, v = bwV c := by
  obtain ⟨cs, rfl, hsz⟩ := okWide_struct Try.underlying25 hv
  obtain ⟨c0, c1, c2, c3, c4, c5, c6, c7, c8, rfl⟩ := array_9B (hsz.trans cellsBB)
  obtain ⟨fuel, hf⟩ := h
  obtain ⟨ys, n, _, _, _, hlen, hg⟩ := DataW.trod_struct Try.underlying25 hf
  match ys, hlen with
  | [y0, y1, y2, y3, y4], _ =>
    have g0 := hg 0 _ rfl
    have g1 := hg 1 _ rfl
    have g2 := hg 2 _ rfl
    have g3 := hg 3 _ rfl
    have g4 := hg 4 _ rfl
    simp [Value.cells, cellsIB, cellsDB] at g0 g1 g2 g3 g4
    obtain ⟨a0, e0, _⟩ := DataW.trod_int Try.underlying3 g0
    obtain ⟨a1, a2, e1, e2⟩ := open_dot g1
    obtain ⟨a3, a4, e3, e4⟩ := open_dot g2
    obtain ⟨a5, a6, e5, e6⟩ := open_dot g3
    obtain ⟨a7, a8, e7, e8⟩ := open_dot g4
    simp at e0
    subst e0 e1 e2 e3 e4 e5 e6 e7 e8
    exact ⟨⟨a0, a1, a2, a3, a4, a5, a6, a7, a8⟩, rfl⟩
end
end Go.Proofs.Ytngfillgndhfbaa
