/- Part 14 of the proof: CnW, CnX. -/
import Derived.Test.YtlbbigehjdnjmaaM2CanvasDoes

namespace Go.Proofs.Ytlbbigehjdnjmaa
open Go Go.RowKit
set_option linter.unusedVariables false
set_option linter.unusedSimpArgs false

set_option maxRecDepth 100000 in
set_option maxHeartbeats 2000000 in
theorem do_fo (q g qr gr wd ht n mc : Nat) (E : List Value) (kd : Int) (A D : Q) (Am : Option Addr) (x y cc : Int) (w : World) (h : CnV w q g wd ht E) (hr : RCn w qr gr wd ht E) (hne : q ≠ qr ∧ q ≠ gr ∧ g ≠ qr ∧ g ≠ gr) (hk : kd = 2) (hm : mayQ D = false) :
    Calls Try.prog 14 #[.pointer (some ⟨q, 0, none⟩), .pointer (some ⟨qr, 0, none⟩), .agg #[.int .i64 kd, .int .i64 A.x0, .int .i64 A.y0, .int .i64 A.x1, .int .i64 A.y1, .slice Am n mc, .int .i64 D.x0, .int .i64 D.y0, .int .i64 D.x1, .int .i64 D.y1, .int .i64 x, .int .i64 y, .int .i64 cc]] w fun e w' => e = .returned (.bool true) ∧ CnV w' q g wd ht (E) ∧ RCn w' qr gr wd ht (E) ∧ Only w w' [g, gr] := by
  have e1 := fun W => eqB_run 0 0 0 0 0 0 0 0 W
  have e2 := fun x y W => eqB_guard 0 0 0 0 0 0 0 0 x y W
  rw [show eq4 0 0 0 0 0 0 0 0 = true from rfl] at e1
  have d1 : (kd == 2) = true := by simpa using hk
  clear hk
  have CF := fun W => cnfill_over q D cc hm W
  have CM := fun W => rmayQ_any D W
  rw [hm] at CM
  have B : Below w.heap.size w (w.alloc (.cells #[.int .i64 kd, .int .i64 A.x0, .int .i64 A.y0, .int .i64 A.x1, .int .i64 A.y1, .slice Am n mc, .int .i64 D.x0, .int .i64 D.y0, .int .i64 D.x1, .int .i64 D.y1, .int .i64 x, .int .i64 y, .int .i64 cc] 37)) := below_a1 _ _
  have K := Blk.new w 37 #[.int .i64 kd, .int .i64 A.x0, .int .i64 A.y0, .int .i64 A.x1, .int .i64 A.y1, .slice Am n mc, .int .i64 D.x0, .int .i64 D.y0, .int .i64 D.x1, .int .i64 D.y1, .int .i64 x, .int .i64 y, .int .i64 cc]
  have HH := Lib.hid h
  have HR := Lib.hid hr
  have X := h.below (below_a1 w (.cells #[.int .i64 kd, .int .i64 A.x0, .int .i64 A.y0, .int .i64 A.x1, .int .i64 A.y1, .slice Am n mc, .int .i64 D.x0, .int .i64 D.y0, .int .i64 D.x1, .int .i64 D.y1, .int .i64 x, .int .i64 y, .int .i64 cc] 37))
  have Y := hr.below (below_a1 w (.cells #[.int .i64 kd, .int .i64 A.x0, .int .i64 A.y0, .int .i64 A.x1, .int .i64 A.y1, .slice Am n mc, .int .i64 D.x0, .int .i64 D.y0, .int .i64 D.x1, .int .i64 D.y1, .int .i64 x, .int .i64 y, .int .i64 cc] 37))
  have lq := h.blk.lt
  have lg := h.row.lt
  have lqr := hr.blk.lt
  have lgr := hr.row.lt
  have t0 := K.cell 0; have t1 := K.cell 1; have t2 := K.cell 2; have t3 := K.cell 3; have t4 := K.cell 4; have t5 := K.cell 5; have t6 := K.cell 6; have t7 := K.cell 7; have t8 := K.cell 8; have t9 := K.cell 9; have t10 := K.cell 10; have t11 := K.cell 11; have t12 := K.cell 12; have tl := K.lt; simp only [List.getElem?_toArray, List.getElem?_cons_succ, List.getElem?_cons_zero] at t0 t1 t2 t3 t4 t5 t6 t7 t8 t9 t10 t11 t12
  clear h hr
  go_enter Try.func14, Try.ntmps14
  go_wp2_with (first | (go_at_call 23; ((with_reducible refine (CF _).mono ?_); rintro e w1 ⟨rfl, b1⟩; have J := Blk.new w1 32 #[.int .i64 0, .int .i64 0, .int .i64 0, .int .i64 0]; have HJ := Lib.hid J; have J := blk_row J #[.int .i64 0, .int .i64 0, .int .i64 0, .int .i64 0]; have b4 : Below w1.heap.size w1 ((w1.alloc (.cells #[.int .i64 0, .int .i64 0, .int .i64 0, .int .i64 0] 32)).setRow w1.heap.size #[.int .i64 0, .int .i64 0, .int .i64 0, .int .i64 0]) := below_setRow (below_a1 w1 _) (Nat.le_refl _) _; have K := (K.below b1).below b4; have t0 := K.cell 0; have t1 := K.cell 1; have t2 := K.cell 2; have t3 := K.cell 3; have t4 := K.cell 4; have t5 := K.cell 5; have t6 := K.cell 6; have t7 := K.cell 7; have t8 := K.cell 8; have t9 := K.cell 9; have t10 := K.cell 10; have t11 := K.cell 11; have t12 := K.cell 12; have tl := K.lt; simp only [List.getElem?_toArray, List.getElem?_cons_succ, List.getElem?_cons_zero] at t0 t1 t2 t3 t4 t5 t6 t7 t8 t9 t10 t11 t12; have B := (B.trans (b1.mono B.size)).trans (b4.mono (B.trans (b1.mono B.size)).size); have j0 := J.cell 0; have j1 := J.cell 1; have j2 := J.cell 2; have j3 := J.cell 3; have jl := J.lt; simp only [List.getElem?_toArray, List.getElem?_cons_succ, List.getElem?_cons_zero] at j0 j1 j2 j3)) | (refine wpList_store_row rfl 32 (.tmp 7) (.tmp 22) (by with_reducible rfl) w1.heap.size #[.int .i64 0, .int .i64 0, .int .i64 0, .int .i64 0] (by rfl) (by rfl) 32 #[.int .i64 0, .int .i64 0, .int .i64 0, .int .i64 0] (by exact HJ.out) (by kernel_rfl) rfl (by simp [Value.oneCell']) ?_))
  go_wp2_with (first | (go_at_call 31; ((with_reducible refine (CM _).mono ?_); rintro e w9 ⟨rfl, b9⟩; have K := K.below b9; have J := J.below b9; have B := B.trans (b9.mono B.size); have t0 := K.cell 0; have t1 := K.cell 1; have t2 := K.cell 2; have t3 := K.cell 3; have t4 := K.cell 4; have t5 := K.cell 5; have t6 := K.cell 6; have t7 := K.cell 7; have t8 := K.cell 8; have t9 := K.cell 9; have t10 := K.cell 10; have t11 := K.cell 11; have t12 := K.cell 12; have tl := K.lt; simp only [List.getElem?_toArray, List.getElem?_cons_succ, List.getElem?_cons_zero] at t0 t1 t2 t3 t4 t5 t6 t7 t8 t9 t10 t11 t12; have j0 := J.cell 0; have j1 := J.cell 1; have j2 := J.cell 2; have j3 := J.cell 3; have jl := J.lt; simp only [List.getElem?_toArray, List.getElem?_cons_succ, List.getElem?_cons_zero] at j0 j1 j2 j3)))
  go_ret
  exact ⟨rfl, HH.out.below B, HR.out.below B, Only.of_below B _⟩
set_option maxRecDepth 100000 in
set_option maxHeartbeats 2000000 in
theorem do_fa (q g qr gr wd ht n mc : Nat) (E : List Value) (kd : Int) (A D : Q) (Am : Option Addr) (x y cc : Int) (w : World) (h : CnV w q g wd ht E) (hr : RCn w qr gr wd ht E) (hne : q ≠ qr ∧ q ≠ gr ∧ g ≠ qr ∧ g ≠ gr) (hk : kd = 2) (hm : mayQ D = true) (hc : inZ 0 255 cc = false) :
    Calls Try.prog 14 #[.pointer (some ⟨q, 0, none⟩), .pointer (some ⟨qr, 0, none⟩), .agg #[.int .i64 kd, .int .i64 A.x0, .int .i64 A.y0, .int .i64 A.x1, .int .i64 A.y1, .slice Am n mc, .int .i64 D.x0, .int .i64 D.y0, .int .i64 D.x1, .int .i64 D.y1, .int .i64 x, .int .i64 y, .int .i64 cc]] w fun e w' => e = .returned (.bool true) ∧ CnV w' q g wd ht (E) ∧ RCn w' qr gr wd ht (E) ∧ Only w w' [g, gr] := by
  have e1 := fun W => eqB_run 0 0 0 0 0 0 0 0 W
  have e2 := fun x y W => eqB_guard 0 0 0 0 0 0 0 0 x y W
  rw [show eq4 0 0 0 0 0 0 0 0 = true from rfl] at e1
  have d1 : (kd == 2) = true := by simpa using hk
  clear hk
  have CF := fun W => cnfill_arg q D cc hm hc W
  have CM := fun W => rmayQ_any D W
  rw [hm] at CM
  have CI := fun W => ris_any cc W
  rw [hc] at CI
  have B : Below w.heap.size w (w.alloc (.cells #[.int .i64 kd, .int .i64 A.x0, .int .i64 A.y0, .int .i64 A.x1, .int .i64 A.y1, .slice Am n mc, .int .i64 D.x0, .int .i64 D.y0, .int .i64 D.x1, .int .i64 D.y1, .int .i64 x, .int .i64 y, .int .i64 cc] 37)) := below_a1 _ _
  have K := Blk.new w 37 #[.int .i64 kd, .int .i64 A.x0, .int .i64 A.y0, .int .i64 A.x1, .int .i64 A.y1, .slice Am n mc, .int .i64 D.x0, .int .i64 D.y0, .int .i64 D.x1, .int .i64 D.y1, .int .i64 x, .int .i64 y, .int .i64 cc]
  have HH := Lib.hid h
  have HR := Lib.hid hr
  have X := h.below (below_a1 w (.cells #[.int .i64 kd, .int .i64 A.x0, .int .i64 A.y0, .int .i64 A.x1, .int .i64 A.y1, .slice Am n mc, .int .i64 D.x0, .int .i64 D.y0, .int .i64 D.x1, .int .i64 D.y1, .int .i64 x, .int .i64 y, .int .i64 cc] 37))
  have Y := hr.below (below_a1 w (.cells #[.int .i64 kd, .int .i64 A.x0, .int .i64 A.y0, .int .i64 A.x1, .int .i64 A.y1, .slice Am n mc, .int .i64 D.x0, .int .i64 D.y0, .int .i64 D.x1, .int .i64 D.y1, .int .i64 x, .int .i64 y, .int .i64 cc] 37))
  have lq := h.blk.lt
  have lg := h.row.lt
  have lqr := hr.blk.lt
  have lgr := hr.row.lt
  have t0 := K.cell 0; have t1 := K.cell 1; have t2 := K.cell 2; have t3 := K.cell 3; have t4 := K.cell 4; have t5 := K.cell 5; have t6 := K.cell 6; have t7 := K.cell 7; have t8 := K.cell 8; have t9 := K.cell 9; have t10 := K.cell 10; have t11 := K.cell 11; have t12 := K.cell 12; have tl := K.lt; simp only [List.getElem?_toArray, List.getElem?_cons_succ, List.getElem?_cons_zero] at t0 t1 t2 t3 t4 t5 t6 t7 t8 t9 t10 t11 t12
  clear h hr
  go_enter Try.func14, Try.ntmps14
  go_wp2_with (first | (go_at_call 23; ((with_reducible refine (CF _).mono ?_); rintro e w1 ⟨rfl, b1⟩; have J := Blk.new w1 32 #[.int .i64 0, .int .i64 0, .int .i64 0, .int .i64 0]; have HJ := Lib.hid J; have J := blk_row J #[.int .i64 0, .int .i64 0, .int .i64 0, .int .i64 0]; have b4 : Below w1.heap.size w1 ((w1.alloc (.cells #[.int .i64 0, .int .i64 0, .int .i64 0, .int .i64 0] 32)).setRow w1.heap.size #[.int .i64 0, .int .i64 0, .int .i64 0, .int .i64 0]) := below_setRow (below_a1 w1 _) (Nat.le_refl _) _; have K := (K.below b1).below b4; have t0 := K.cell 0; have t1 := K.cell 1; have t2 := K.cell 2; have t3 := K.cell 3; have t4 := K.cell 4; have t5 := K.cell 5; have t6 := K.cell 6; have t7 := K.cell 7; have t8 := K.cell 8; have t9 := K.cell 9; have t10 := K.cell 10; have t11 := K.cell 11; have t12 := K.cell 12; have tl := K.lt; simp only [List.getElem?_toArray, List.getElem?_cons_succ, List.getElem?_cons_zero] at t0 t1 t2 t3 t4 t5 t6 t7 t8 t9 t10 t11 t12; have B := (B.trans (b1.mono B.size)).trans (b4.mono (B.trans (b1.mono B.size)).size); have j0 := J.cell 0; have j1 := J.cell 1; have j2 := J.cell 2; have j3 := J.cell 3; have jl := J.lt; simp only [List.getElem?_toArray, List.getElem?_cons_succ, List.getElem?_cons_zero] at j0 j1 j2 j3)) | (refine wpList_store_row rfl 32 (.tmp 7) (.tmp 22) (by with_reducible rfl) w1.heap.size #[.int .i64 0, .int .i64 0, .int .i64 0, .int .i64 0] (by rfl) (by rfl) 32 #[.int .i64 0, .int .i64 0, .int .i64 0, .int .i64 0] (by exact HJ.out) (by kernel_rfl) rfl (by simp [Value.oneCell']) ?_))
  go_wp2_with (first | (go_at_call 31; ((with_reducible refine (CM _).mono ?_); rintro e w9 ⟨rfl, b9⟩; have K := K.below b9; have J := J.below b9; have B := B.trans (b9.mono B.size); have t0 := K.cell 0; have t1 := K.cell 1; have t2 := K.cell 2; have t3 := K.cell 3; have t4 := K.cell 4; have t5 := K.cell 5; have t6 := K.cell 6; have t7 := K.cell 7; have t8 := K.cell 8; have t9 := K.cell 9; have t10 := K.cell 10; have t11 := K.cell 11; have t12 := K.cell 12; have tl := K.lt; simp only [List.getElem?_toArray, List.getElem?_cons_succ, List.getElem?_cons_zero] at t0 t1 t2 t3 t4 t5 t6 t7 t8 t9 t10 t11 t12; have j0 := J.cell 0; have j1 := J.cell 1; have j2 := J.cell 2; have j3 := J.cell 3; have jl := J.lt; simp only [List.getElem?_toArray, List.getElem?_cons_succ, List.getElem?_cons_zero] at j0 j1 j2 j3)) | (go_at_call 21; ((with_reducible refine (CI _).mono ?_); rintro e w9 ⟨rfl, rfl⟩)))
  go_ret
  exact ⟨rfl, HH.out.below B, HR.out.below B, Only.of_below B _⟩
set_option maxRecDepth 100000 in
set_option maxHeartbeats 2000000 in
theorem do_bm (q g qr gr wd ht n mc : Nat) (E : List Value) (kd : Int) (A D : Q) (Am : Option Addr) (x y cc : Int) (w : World) (h : CnV w q g wd ht E) (hr : RCn w qr gr wd ht E) (hne : q ≠ qr ∧ q ≠ gr ∧ g ≠ qr ∧ g ≠ gr) (hk : (kd == 2) = false) (hm : chkB A n = false) :
    Calls Try.prog 14 #[.pointer (some ⟨q, 0, none⟩), .pointer (some ⟨qr, 0, none⟩), .agg #[.int .i64 kd, .int .i64 A.x0, .int .i64 A.y0, .int .i64 A.x1, .int .i64 A.y1, .slice Am n mc, .int .i64 D.x0, .int .i64 D.y0, .int .i64 D.x1, .int .i64 D.y1, .int .i64 x, .int .i64 y, .int .i64 cc]] w fun e w' => e = .returned (.bool true) ∧ CnV w' q g wd ht (E) ∧ RCn w' qr gr wd ht (E) ∧ Only w w' [g, gr] := by
  have e1 := fun W => eqB_run 0 0 0 0 0 0 0 0 W
  have e2 := fun x y W => eqB_guard 0 0 0 0 0 0 0 0 x y W
  rw [show eq4 0 0 0 0 0 0 0 0 = true from rfl] at e1
  have CF := fun W => cnblend_mask q A Am n mc x y cc hm W
  have CC := fun W => rckmask_any A Am n mc W
  rw [show chkC A n = 220 by unfold chkC; rw [hm]; rfl] at CC
  have B : Below w.heap.size w (w.alloc (.cells #[.int .i64 kd, .int .i64 A.x0, .int .i64 A.y0, .int .i64 A.x1, .int .i64 A.y1, .slice Am n mc, .int .i64 D.x0, .int .i64 D.y0, .int .i64 D.x1, .int .i64 D.y1, .int .i64 x, .int .i64 y, .int .i64 cc] 37)) := below_a1 _ _
  have K := Blk.new w 37 #[.int .i64 kd, .int .i64 A.x0, .int .i64 A.y0, .int .i64 A.x1, .int .i64 A.y1, .slice Am n mc, .int .i64 D.x0, .int .i64 D.y0, .int .i64 D.x1, .int .i64 D.y1, .int .i64 x, .int .i64 y, .int .i64 cc]
  have HH := Lib.hid h
  have HR := Lib.hid hr
  have X := h.below (below_a1 w (.cells #[.int .i64 kd, .int .i64 A.x0, .int .i64 A.y0, .int .i64 A.x1, .int .i64 A.y1, .slice Am n mc, .int .i64 D.x0, .int .i64 D.y0, .int .i64 D.x1, .int .i64 D.y1, .int .i64 x, .int .i64 y, .int .i64 cc] 37))
  have Y := hr.below (below_a1 w (.cells #[.int .i64 kd, .int .i64 A.x0, .int .i64 A.y0, .int .i64 A.x1, .int .i64 A.y1, .slice Am n mc, .int .i64 D.x0, .int .i64 D.y0, .int .i64 D.x1, .int .i64 D.y1, .int .i64 x, .int .i64 y, .int .i64 cc] 37))
  have lq := h.blk.lt
  have lg := h.row.lt
  have lqr := hr.blk.lt
  have lgr := hr.row.lt
  have t0 := K.cell 0; have t1 := K.cell 1; have t2 := K.cell 2; have t3 := K.cell 3; have t4 := K.cell 4; have t5 := K.cell 5; have t6 := K.cell 6; have t7 := K.cell 7; have t8 := K.cell 8; have t9 := K.cell 9; have t10 := K.cell 10; have t11 := K.cell 11; have t12 := K.cell 12; have tl := K.lt; simp only [List.getElem?_toArray, List.getElem?_cons_succ, List.getElem?_cons_zero] at t0 t1 t2 t3 t4 t5 t6 t7 t8 t9 t10 t11 t12
  clear h hr
  go_enter Try.func14, Try.ntmps14
  go_wp2_with (first | (go_at_call 18; ((with_reducible refine (CF _).mono ?_); rintro e w1 ⟨rfl, b1⟩; have J := Blk.new w1 32 #[.int .i64 0, .int .i64 0, .int .i64 0, .int .i64 0]; have HJ := Lib.hid J; have J := blk_row J #[.int .i64 0, .int .i64 0, .int .i64 0, .int .i64 0]; have b4 : Below w1.heap.size w1 ((w1.alloc (.cells #[.int .i64 0, .int .i64 0, .int .i64 0, .int .i64 0] 32)).setRow w1.heap.size #[.int .i64 0, .int .i64 0, .int .i64 0, .int .i64 0]) := below_setRow (below_a1 w1 _) (Nat.le_refl _) _; have K := (K.below b1).below b4; have t0 := K.cell 0; have t1 := K.cell 1; have t2 := K.cell 2; have t3 := K.cell 3; have t4 := K.cell 4; have t5 := K.cell 5; have t6 := K.cell 6; have t7 := K.cell 7; have t8 := K.cell 8; have t9 := K.cell 9; have t10 := K.cell 10; have t11 := K.cell 11; have t12 := K.cell 12; have tl := K.lt; simp only [List.getElem?_toArray, List.getElem?_cons_succ, List.getElem?_cons_zero] at t0 t1 t2 t3 t4 t5 t6 t7 t8 t9 t10 t11 t12; have B := (B.trans (b1.mono B.size)).trans (b4.mono (B.trans (b1.mono B.size)).size); have j0 := J.cell 0; have j1 := J.cell 1; have j2 := J.cell 2; have j3 := J.cell 3; have jl := J.lt; simp only [List.getElem?_toArray, List.getElem?_cons_succ, List.getElem?_cons_zero] at j0 j1 j2 j3)) | (refine wpList_store_row rfl 32 (.tmp 9) (.tmp 69) (by with_reducible rfl) w1.heap.size #[.int .i64 0, .int .i64 0, .int .i64 0, .int .i64 0] (by rfl) (by rfl) 32 #[.int .i64 0, .int .i64 0, .int .i64 0, .int .i64 0] (by exact HJ.out) (by kernel_rfl) rfl (by simp [Value.oneCell']) ?_))
  go_wp2_with (first | (go_at_call 25; ((with_reducible refine (CC _).mono ?_); rintro e w9 ⟨rfl, b9⟩; have K := K.below b9; have J := J.below b9; have B := B.trans (b9.mono B.size); have t0 := K.cell 0; have t1 := K.cell 1; have t2 := K.cell 2; have t3 := K.cell 3; have t4 := K.cell 4; have t5 := K.cell 5; have t6 := K.cell 6; have t7 := K.cell 7; have t8 := K.cell 8; have t9 := K.cell 9; have t10 := K.cell 10; have t11 := K.cell 11; have t12 := K.cell 12; have tl := K.lt; simp only [List.getElem?_toArray, List.getElem?_cons_succ, List.getElem?_cons_zero] at t0 t1 t2 t3 t4 t5 t6 t7 t8 t9 t10 t11 t12; have j0 := J.cell 0; have j1 := J.cell 1; have j2 := J.cell 2; have j3 := J.cell 3; have jl := J.lt; simp only [List.getElem?_toArray, List.getElem?_cons_succ, List.getElem?_cons_zero] at j0 j1 j2 j3)))
  go_ret
  exact ⟨rfl, HH.out.below B, HR.out.below B, Only.of_below B _⟩
set_option maxRecDepth 100000 in
set_option maxHeartbeats 2000000 in
theorem do_ba (q g qr gr wd ht n mc : Nat) (E : List Value) (kd : Int) (A D : Q) (Am : Option Addr) (x y cc : Int) (w : World) (h : CnV w q g wd ht E) (hr : RCn w qr gr wd ht E) (hne : q ≠ qr ∧ q ≠ gr ∧ g ≠ qr ∧ g ≠ gr) (hk : (kd == 2) = false) (hm : chkB A n = true) (hc : inZ 0 255 cc = false) :
    Calls Try.prog 14 #[.pointer (some ⟨q, 0, none⟩), .pointer (some ⟨qr, 0, none⟩), .agg #[.int .i64 kd, .int .i64 A.x0, .int .i64 A.y0, .int .i64 A.x1, .int .i64 A.y1, .slice Am n mc, .int .i64 D.x0, .int .i64 D.y0, .int .i64 D.x1, .int .i64 D.y1, .int .i64 x, .int .i64 y, .int .i64 cc]] w fun e w' => e = .returned (.bool true) ∧ CnV w' q g wd ht (E) ∧ RCn w' qr gr wd ht (E) ∧ Only w w' [g, gr] := by
  have e1 := fun W => eqB_run 0 0 0 0 0 0 0 0 W
  have e2 := fun x y W => eqB_guard 0 0 0 0 0 0 0 0 x y W
  rw [show eq4 0 0 0 0 0 0 0 0 = true from rfl] at e1
  have CF := fun W => cnblend_arg q A Am n mc x y cc hm hc W
  have CC := fun W => rckmask_any A Am n mc W
  rw [show chkC A n = 0 by unfold chkC; rw [hm]; rfl] at CC
  have CI := fun W => ris_any cc W
  rw [hc] at CI
  have B : Below w.heap.size w (w.alloc (.cells #[.int .i64 kd, .int .i64 A.x0, .int .i64 A.y0, .int .i64 A.x1, .int .i64 A.y1, .slice Am n mc, .int .i64 D.x0, .int .i64 D.y0, .int .i64 D.x1, .int .i64 D.y1, .int .i64 x, .int .i64 y, .int .i64 cc] 37)) := below_a1 _ _
  have K := Blk.new w 37 #[.int .i64 kd, .int .i64 A.x0, .int .i64 A.y0, .int .i64 A.x1, .int .i64 A.y1, .slice Am n mc, .int .i64 D.x0, .int .i64 D.y0, .int .i64 D.x1, .int .i64 D.y1, .int .i64 x, .int .i64 y, .int .i64 cc]
  have HH := Lib.hid h
  have HR := Lib.hid hr
  have X := h.below (below_a1 w (.cells #[.int .i64 kd, .int .i64 A.x0, .int .i64 A.y0, .int .i64 A.x1, .int .i64 A.y1, .slice Am n mc, .int .i64 D.x0, .int .i64 D.y0, .int .i64 D.x1, .int .i64 D.y1, .int .i64 x, .int .i64 y, .int .i64 cc] 37))
  have Y := hr.below (below_a1 w (.cells #[.int .i64 kd, .int .i64 A.x0, .int .i64 A.y0, .int .i64 A.x1, .int .i64 A.y1, .slice Am n mc, .int .i64 D.x0, .int .i64 D.y0, .int .i64 D.x1, .int .i64 D.y1, .int .i64 x, .int .i64 y, .int .i64 cc] 37))
  have lq := h.blk.lt
  have lg := h.row.lt
  have lqr := hr.blk.lt
  have lgr := hr.row.lt
  have t0 := K.cell 0; have t1 := K.cell 1; have t2 := K.cell 2; have t3 := K.cell 3; have t4 := K.cell 4; have t5 := K.cell 5; have t6 := K.cell 6; have t7 := K.cell 7; have t8 := K.cell 8; have t9 := K.cell 9; have t10 := K.cell 10; have t11 := K.cell 11; have t12 := K.cell 12; have tl := K.lt; simp only [List.getElem?_toArray, List.getElem?_cons_succ, List.getElem?_cons_zero] at t0 t1 t2 t3 t4 t5 t6 t7 t8 t9 t10 t11 t12
  clear h hr
  go_enter Try.func14, Try.ntmps14
  go_wp2_with (first | (go_at_call 18; ((with_reducible refine (CF _).mono ?_); rintro e w1 ⟨rfl, b1⟩; have J := Blk.new w1 32 #[.int .i64 0, .int .i64 0, .int .i64 0, .int .i64 0]; have HJ := Lib.hid J; have J := blk_row J #[.int .i64 0, .int .i64 0, .int .i64 0, .int .i64 0]; have b4 : Below w1.heap.size w1 ((w1.alloc (.cells #[.int .i64 0, .int .i64 0, .int .i64 0, .int .i64 0] 32)).setRow w1.heap.size #[.int .i64 0, .int .i64 0, .int .i64 0, .int .i64 0]) := below_setRow (below_a1 w1 _) (Nat.le_refl _) _; have K := (K.below b1).below b4; have t0 := K.cell 0; have t1 := K.cell 1; have t2 := K.cell 2; have t3 := K.cell 3; have t4 := K.cell 4; have t5 := K.cell 5; have t6 := K.cell 6; have t7 := K.cell 7; have t8 := K.cell 8; have t9 := K.cell 9; have t10 := K.cell 10; have t11 := K.cell 11; have t12 := K.cell 12; have tl := K.lt; simp only [List.getElem?_toArray, List.getElem?_cons_succ, List.getElem?_cons_zero] at t0 t1 t2 t3 t4 t5 t6 t7 t8 t9 t10 t11 t12; have B := (B.trans (b1.mono B.size)).trans (b4.mono (B.trans (b1.mono B.size)).size); have j0 := J.cell 0; have j1 := J.cell 1; have j2 := J.cell 2; have j3 := J.cell 3; have jl := J.lt; simp only [List.getElem?_toArray, List.getElem?_cons_succ, List.getElem?_cons_zero] at j0 j1 j2 j3)) | (refine wpList_store_row rfl 32 (.tmp 9) (.tmp 69) (by with_reducible rfl) w1.heap.size #[.int .i64 0, .int .i64 0, .int .i64 0, .int .i64 0] (by rfl) (by rfl) 32 #[.int .i64 0, .int .i64 0, .int .i64 0, .int .i64 0] (by exact HJ.out) (by kernel_rfl) rfl (by simp [Value.oneCell']) ?_))
  go_wp2_with (first | (go_at_call 25; ((with_reducible refine (CC _).mono ?_); rintro e w9 ⟨rfl, b9⟩; have K := K.below b9; have J := J.below b9; have B := B.trans (b9.mono B.size); have t0 := K.cell 0; have t1 := K.cell 1; have t2 := K.cell 2; have t3 := K.cell 3; have t4 := K.cell 4; have t5 := K.cell 5; have t6 := K.cell 6; have t7 := K.cell 7; have t8 := K.cell 8; have t9 := K.cell 9; have t10 := K.cell 10; have t11 := K.cell 11; have t12 := K.cell 12; have tl := K.lt; simp only [List.getElem?_toArray, List.getElem?_cons_succ, List.getElem?_cons_zero] at t0 t1 t2 t3 t4 t5 t6 t7 t8 t9 t10 t11 t12; have j0 := J.cell 0; have j1 := J.cell 1; have j2 := J.cell 2; have j3 := J.cell 3; have jl := J.lt; simp only [List.getElem?_toArray, List.getElem?_cons_succ, List.getElem?_cons_zero] at j0 j1 j2 j3)) | (go_at_call 21; ((with_reducible refine (CI _).mono ?_); rintro e w9 ⟨rfl, rfl⟩)))
  go_ret
  exact ⟨rfl, HH.out.below B, HR.out.below B, Only.of_below B _⟩
set_option maxRecDepth 100000 in
set_option maxHeartbeats 2000000 in
theorem do_bx (q g qr gr wd ht n mc : Nat) (E : List Value) (kd : Int) (A D : Q) (Am : Option Addr) (x y cc : Int) (w : World) (h : CnV w q g wd ht E) (hr : RCn w qr gr wd ht E) (hne : q ≠ qr ∧ q ≠ gr ∧ g ≠ qr ∧ g ≠ gr) (hk : (kd == 2) = false) (hm : chkB A n = true) (hc : inZ 0 255 cc = true) (hxy : (inZ (-1048576) 1048576 x && inZ (-1048576) 1048576 y) = false) (hx : inZ (-1048576) 1048576 x = false) :
    Calls Try.prog 14 #[.pointer (some ⟨q, 0, none⟩), .pointer (some ⟨qr, 0, none⟩), .agg #[.int .i64 kd, .int .i64 A.x0, .int .i64 A.y0, .int .i64 A.x1, .int .i64 A.y1, .slice Am n mc, .int .i64 D.x0, .int .i64 D.y0, .int .i64 D.x1, .int .i64 D.y1, .int .i64 x, .int .i64 y, .int .i64 cc]] w fun e w' => e = .returned (.bool true) ∧ CnV w' q g wd ht (E) ∧ RCn w' qr gr wd ht (E) ∧ Only w w' [g, gr] := by
  have e1 := fun W => eqB_run 0 0 0 0 0 0 0 0 W
  have e2 := fun x y W => eqB_guard 0 0 0 0 0 0 0 0 x y W
  rw [show eq4 0 0 0 0 0 0 0 0 = true from rfl] at e1
  have CF := fun W => cnblend_over q A Am n mc x y cc hm hc hxy W
  have CC := fun W => rckmask_any A Am n mc W
  rw [show chkC A n = 0 by unfold chkC; rw [hm]; rfl] at CC
  have CI := fun W => ris_any cc W
  rw [hc] at CI
  have CX := fun W => rfar_any x W
  have CY := fun W => rfar_any y W
  rw [hx] at CX
  have B : Below w.heap.size w (w.alloc (.cells #[.int .i64 kd, .int .i64 A.x0, .int .i64 A.y0, .int .i64 A.x1, .int .i64 A.y1, .slice Am n mc, .int .i64 D.x0, .int .i64 D.y0, .int .i64 D.x1, .int .i64 D.y1, .int .i64 x, .int .i64 y, .int .i64 cc] 37)) := below_a1 _ _
  have K := Blk.new w 37 #[.int .i64 kd, .int .i64 A.x0, .int .i64 A.y0, .int .i64 A.x1, .int .i64 A.y1, .slice Am n mc, .int .i64 D.x0, .int .i64 D.y0, .int .i64 D.x1, .int .i64 D.y1, .int .i64 x, .int .i64 y, .int .i64 cc]
  have HH := Lib.hid h
  have HR := Lib.hid hr
  have X := h.below (below_a1 w (.cells #[.int .i64 kd, .int .i64 A.x0, .int .i64 A.y0, .int .i64 A.x1, .int .i64 A.y1, .slice Am n mc, .int .i64 D.x0, .int .i64 D.y0, .int .i64 D.x1, .int .i64 D.y1, .int .i64 x, .int .i64 y, .int .i64 cc] 37))
  have Y := hr.below (below_a1 w (.cells #[.int .i64 kd, .int .i64 A.x0, .int .i64 A.y0, .int .i64 A.x1, .int .i64 A.y1, .slice Am n mc, .int .i64 D.x0, .int .i64 D.y0, .int .i64 D.x1, .int .i64 D.y1, .int .i64 x, .int .i64 y, .int .i64 cc] 37))
  have lq := h.blk.lt
  have lg := h.row.lt
  have lqr := hr.blk.lt
  have lgr := hr.row.lt
  have t0 := K.cell 0; have t1 := K.cell 1; have t2 := K.cell 2; have t3 := K.cell 3; have t4 := K.cell 4; have t5 := K.cell 5; have t6 := K.cell 6; have t7 := K.cell 7; have t8 := K.cell 8; have t9 := K.cell 9; have t10 := K.cell 10; have t11 := K.cell 11; have t12 := K.cell 12; have tl := K.lt; simp only [List.getElem?_toArray, List.getElem?_cons_succ, List.getElem?_cons_zero] at t0 t1 t2 t3 t4 t5 t6 t7 t8 t9 t10 t11 t12
  clear h hr
  go_enter Try.func14, Try.ntmps14
  go_wp2_with (first | (go_at_call 18; ((with_reducible refine (CF _).mono ?_); rintro e w1 ⟨rfl, b1⟩; have J := Blk.new w1 32 #[.int .i64 0, .int .i64 0, .int .i64 0, .int .i64 0]; have HJ := Lib.hid J; have J := blk_row J #[.int .i64 0, .int .i64 0, .int .i64 0, .int .i64 0]; have b4 : Below w1.heap.size w1 ((w1.alloc (.cells #[.int .i64 0, .int .i64 0, .int .i64 0, .int .i64 0] 32)).setRow w1.heap.size #[.int .i64 0, .int .i64 0, .int .i64 0, .int .i64 0]) := below_setRow (below_a1 w1 _) (Nat.le_refl _) _; have K := (K.below b1).below b4; have t0 := K.cell 0; have t1 := K.cell 1; have t2 := K.cell 2; have t3 := K.cell 3; have t4 := K.cell 4; have t5 := K.cell 5; have t6 := K.cell 6; have t7 := K.cell 7; have t8 := K.cell 8; have t9 := K.cell 9; have t10 := K.cell 10; have t11 := K.cell 11; have t12 := K.cell 12; have tl := K.lt; simp only [List.getElem?_toArray, List.getElem?_cons_succ, List.getElem?_cons_zero] at t0 t1 t2 t3 t4 t5 t6 t7 t8 t9 t10 t11 t12; have B := (B.trans (b1.mono B.size)).trans (b4.mono (B.trans (b1.mono B.size)).size); have j0 := J.cell 0; have j1 := J.cell 1; have j2 := J.cell 2; have j3 := J.cell 3; have jl := J.lt; simp only [List.getElem?_toArray, List.getElem?_cons_succ, List.getElem?_cons_zero] at j0 j1 j2 j3)) | (refine wpList_store_row rfl 32 (.tmp 9) (.tmp 69) (by with_reducible rfl) w1.heap.size #[.int .i64 0, .int .i64 0, .int .i64 0, .int .i64 0] (by rfl) (by rfl) 32 #[.int .i64 0, .int .i64 0, .int .i64 0, .int .i64 0] (by exact HJ.out) (by kernel_rfl) rfl (by simp [Value.oneCell']) ?_))
  go_wp2_with (first | (go_at_call 25; ((with_reducible refine (CC _).mono ?_); rintro e w9 ⟨rfl, b9⟩; have K := K.below b9; have J := J.below b9; have B := B.trans (b9.mono B.size); have t0 := K.cell 0; have t1 := K.cell 1; have t2 := K.cell 2; have t3 := K.cell 3; have t4 := K.cell 4; have t5 := K.cell 5; have t6 := K.cell 6; have t7 := K.cell 7; have t8 := K.cell 8; have t9 := K.cell 9; have t10 := K.cell 10; have t11 := K.cell 11; have t12 := K.cell 12; have tl := K.lt; simp only [List.getElem?_toArray, List.getElem?_cons_succ, List.getElem?_cons_zero] at t0 t1 t2 t3 t4 t5 t6 t7 t8 t9 t10 t11 t12; have j0 := J.cell 0; have j1 := J.cell 1; have j2 := J.cell 2; have j3 := J.cell 3; have jl := J.lt; simp only [List.getElem?_toArray, List.getElem?_cons_succ, List.getElem?_cons_zero] at j0 j1 j2 j3)) | (go_at_call 21; ((with_reducible refine (CI _).mono ?_); rintro e w9 ⟨rfl, rfl⟩)) | (go_at_call 33; ((with_reducible refine (CX _).mono ?_); rintro e w9 ⟨rfl, rfl⟩)))
  go_ret
  exact ⟨rfl, HH.out.below B, HR.out.below B, Only.of_below B _⟩
set_option maxRecDepth 100000 in
set_option maxHeartbeats 2000000 in
theorem do_by (q g qr gr wd ht n mc : Nat) (E : List Value) (kd : Int) (A D : Q) (Am : Option Addr) (x y cc : Int) (w : World) (h : CnV w q g wd ht E) (hr : RCn w qr gr wd ht E) (hne : q ≠ qr ∧ q ≠ gr ∧ g ≠ qr ∧ g ≠ gr) (hk : (kd == 2) = false) (hm : chkB A n = true) (hc : inZ 0 255 cc = true) (hxy : (inZ (-1048576) 1048576 x && inZ (-1048576) 1048576 y) = false) (hx : inZ (-1048576) 1048576 x = true) (hy : inZ (-1048576) 1048576 y = false) :
    Calls Try.prog 14 #[.pointer (some ⟨q, 0, none⟩), .pointer (some ⟨qr, 0, none⟩), .agg #[.int .i64 kd, .int .i64 A.x0, .int .i64 A.y0, .int .i64 A.x1, .int .i64 A.y1, .slice Am n mc, .int .i64 D.x0, .int .i64 D.y0, .int .i64 D.x1, .int .i64 D.y1, .int .i64 x, .int .i64 y, .int .i64 cc]] w fun e w' => e = .returned (.bool true) ∧ CnV w' q g wd ht (E) ∧ RCn w' qr gr wd ht (E) ∧ Only w w' [g, gr] := by
  have e1 := fun W => eqB_run 0 0 0 0 0 0 0 0 W
  have e2 := fun x y W => eqB_guard 0 0 0 0 0 0 0 0 x y W
  rw [show eq4 0 0 0 0 0 0 0 0 = true from rfl] at e1
  have CF := fun W => cnblend_over q A Am n mc x y cc hm hc hxy W
  have CC := fun W => rckmask_any A Am n mc W
  rw [show chkC A n = 0 by unfold chkC; rw [hm]; rfl] at CC
  have CI := fun W => ris_any cc W
  rw [hc] at CI
  have CX := fun W => rfar_any x W
  have CY := fun W => rfar_any y W
  rw [hx] at CX
  rw [hy] at CY
  have B : Below w.heap.size w (w.alloc (.cells #[.int .i64 kd, .int .i64 A.x0, .int .i64 A.y0, .int .i64 A.x1, .int .i64 A.y1, .slice Am n mc, .int .i64 D.x0, .int .i64 D.y0, .int .i64 D.x1, .int .i64 D.y1, .int .i64 x, .int .i64 y, .int .i64 cc] 37)) := below_a1 _ _
  have K := Blk.new w 37 #[.int .i64 kd, .int .i64 A.x0, .int .i64 A.y0, .int .i64 A.x1, .int .i64 A.y1, .slice Am n mc, .int .i64 D.x0, .int .i64 D.y0, .int .i64 D.x1, .int .i64 D.y1, .int .i64 x, .int .i64 y, .int .i64 cc]
  have HH := Lib.hid h
  have HR := Lib.hid hr
  have X := h.below (below_a1 w (.cells #[.int .i64 kd, .int .i64 A.x0, .int .i64 A.y0, .int .i64 A.x1, .int .i64 A.y1, .slice Am n mc, .int .i64 D.x0, .int .i64 D.y0, .int .i64 D.x1, .int .i64 D.y1, .int .i64 x, .int .i64 y, .int .i64 cc] 37))
  have Y := hr.below (below_a1 w (.cells #[.int .i64 kd, .int .i64 A.x0, .int .i64 A.y0, .int .i64 A.x1, .int .i64 A.y1, .slice Am n mc, .int .i64 D.x0, .int .i64 D.y0, .int .i64 D.x1, .int .i64 D.y1, .int .i64 x, .int .i64 y, .int .i64 cc] 37))
  have lq := h.blk.lt
  have lg := h.row.lt
  have lqr := hr.blk.lt
  have lgr := hr.row.lt
  have t0 := K.cell 0; have t1 := K.cell 1; have t2 := K.cell 2; have t3 := K.cell 3; have t4 := K.cell 4; have t5 := K.cell 5; have t6 := K.cell 6; have t7 := K.cell 7; have t8 := K.cell 8; have t9 := K.cell 9; have t10 := K.cell 10; have t11 := K.cell 11; have t12 := K.cell 12; have tl := K.lt; simp only [List.getElem?_toArray, List.getElem?_cons_succ, List.getElem?_cons_zero] at t0 t1 t2 t3 t4 t5 t6 t7 t8 t9 t10 t11 t12
  clear h hr
  go_enter Try.func14, Try.ntmps14
  go_wp2_with (first | (go_at_call 18; ((with_reducible refine (CF _).mono ?_); rintro e w1 ⟨rfl, b1⟩; have J := Blk.new w1 32 #[.int .i64 0, .int .i64 0, .int .i64 0, .int .i64 0]; have HJ := Lib.hid J; have J := blk_row J #[.int .i64 0, .int .i64 0, .int .i64 0, .int .i64 0]; have b4 : Below w1.heap.size w1 ((w1.alloc (.cells #[.int .i64 0, .int .i64 0, .int .i64 0, .int .i64 0] 32)).setRow w1.heap.size #[.int .i64 0, .int .i64 0, .int .i64 0, .int .i64 0]) := below_setRow (below_a1 w1 _) (Nat.le_refl _) _; have K := (K.below b1).below b4; have t0 := K.cell 0; have t1 := K.cell 1; have t2 := K.cell 2; have t3 := K.cell 3; have t4 := K.cell 4; have t5 := K.cell 5; have t6 := K.cell 6; have t7 := K.cell 7; have t8 := K.cell 8; have t9 := K.cell 9; have t10 := K.cell 10; have t11 := K.cell 11; have t12 := K.cell 12; have tl := K.lt; simp only [List.getElem?_toArray, List.getElem?_cons_succ, List.getElem?_cons_zero] at t0 t1 t2 t3 t4 t5 t6 t7 t8 t9 t10 t11 t12; have B := (B.trans (b1.mono B.size)).trans (b4.mono (B.trans (b1.mono B.size)).size); have j0 := J.cell 0; have j1 := J.cell 1; have j2 := J.cell 2; have j3 := J.cell 3; have jl := J.lt; simp only [List.getElem?_toArray, List.getElem?_cons_succ, List.getElem?_cons_zero] at j0 j1 j2 j3)) | (refine wpList_store_row rfl 32 (.tmp 9) (.tmp 69) (by with_reducible rfl) w1.heap.size #[.int .i64 0, .int .i64 0, .int .i64 0, .int .i64 0] (by rfl) (by rfl) 32 #[.int .i64 0, .int .i64 0, .int .i64 0, .int .i64 0] (by exact HJ.out) (by kernel_rfl) rfl (by simp [Value.oneCell']) ?_))
  go_wp2_with (first | (go_at_call 25; ((with_reducible refine (CC _).mono ?_); rintro e w9 ⟨rfl, b9⟩; have K := K.below b9; have J := J.below b9; have B := B.trans (b9.mono B.size); have t0 := K.cell 0; have t1 := K.cell 1; have t2 := K.cell 2; have t3 := K.cell 3; have t4 := K.cell 4; have t5 := K.cell 5; have t6 := K.cell 6; have t7 := K.cell 7; have t8 := K.cell 8; have t9 := K.cell 9; have t10 := K.cell 10; have t11 := K.cell 11; have t12 := K.cell 12; have tl := K.lt; simp only [List.getElem?_toArray, List.getElem?_cons_succ, List.getElem?_cons_zero] at t0 t1 t2 t3 t4 t5 t6 t7 t8 t9 t10 t11 t12; have j0 := J.cell 0; have j1 := J.cell 1; have j2 := J.cell 2; have j3 := J.cell 3; have jl := J.lt; simp only [List.getElem?_toArray, List.getElem?_cons_succ, List.getElem?_cons_zero] at j0 j1 j2 j3)) | (go_at_call 21; ((with_reducible refine (CI _).mono ?_); rintro e w9 ⟨rfl, rfl⟩)) | (go_at_call 33; ((with_reducible refine (CX _).mono ?_); rintro e w9 ⟨rfl, rfl⟩)) | (go_at_call 33; ((with_reducible refine (CY _).mono ?_); rintro e w9 ⟨rfl, rfl⟩)))
  go_ret
  exact ⟨rfl, HH.out.below B, HR.out.below B, Only.of_below B _⟩
end Go.Proofs.Ytlbbigehjdnjmaa

namespace Go.Proofs.Ytlbbigehjdnjmaa
open Go Go.RowKit
set_option linter.unusedVariables false
set_option linter.unusedSimpArgs false

theorem eq4_self (a b c d : Int) : eq4 a b c d a b c d = true := by simp [eq4]
set_option maxRecDepth 100000 in
set_option maxHeartbeats 4000000 in
theorem do_fk (q g qr gr wd ht n mc : Nat) (E : List Value) (kd : Int) (A D : Q) (Am : Option Addr) (x y cc : Int)  (w : World) (h : CnV w q g wd ht E) (hr : RCn w qr gr wd ht E) (hne : q ≠ qr ∧ q ≠ gr ∧ g ≠ qr ∧ g ≠ gr) (hk : kd = 2) (hm : mayQ D = true) (hc : inZ 0 255 cc = true) :
    Calls Try.prog 14 #[.pointer (some ⟨q, 0, none⟩), .pointer (some ⟨qr, 0, none⟩), .agg #[.int .i64 kd, .int .i64 A.x0, .int .i64 A.y0, .int .i64 A.x1, .int .i64 A.y1, .slice Am n mc, .int .i64 D.x0, .int .i64 D.y0, .int .i64 D.x1, .int .i64 D.y1, .int .i64 x, .int .i64 y, .int .i64 cc]] w fun e w' => e = .returned (.bool true) ∧ CnV w' q g wd ht (cnputE wd ht D (fun _ => pntF cc) E) ∧ RCn w' qr gr wd ht (cnputE wd ht D (fun _ => pntF cc) E) ∧ Only w w' [g, gr] := by
  have d1 : (kd == 2) = true := by simpa using hk
  clear hk
  have CF := fun (W : World) (hW : CnV W q g wd ht E) => cnfill_ok q g wd ht E D cc W hW hm hc
  have CR := fun (W : World) (hW : RCn W qr gr wd ht E) => rcfill_any qr gr wd ht E D cc W hW hc
  have CM := fun W => rmayQ_any D W
  rw [hm] at CM
  have CI := fun W => ris_any cc W
  rw [hc] at CI
  generalize meetC wd ht D = R at *
  generalize cnputE wd ht D (fun _ => pntF cc) E = F2 at *
  have e1 := fun W => eqB_run R.x0 R.y0 R.x1 R.y1 R.x0 R.y0 R.x1 R.y1 W
  have e2 := fun x y W => eqB_guard R.x0 R.y0 R.x1 R.y1 R.x0 R.y0 R.x1 R.y1 x y W
  rw [eq4_self] at e1
  have e3 : ∀ W, (binOp .eql 32 (.agg #[.int .i64 R.x0, .int .i64 R.y0, .int .i64 R.x1, .int .i64 R.y1]) (.agg (qV R))).run Try.prog W = .ok (.bool true) W := e1
  have e4 : ∀ (x y : Operand) W, (eqGuard .eql 32 x y (.agg #[.int .i64 R.x0, .int .i64 R.y0, .int .i64 R.x1, .int .i64 R.y1]) (.agg (qV R))).run Try.prog W = .ok () W := e2
  have B : Below w.heap.size w (w.alloc (.cells #[.int .i64 kd, .int .i64 A.x0, .int .i64 A.y0, .int .i64 A.x1, .int .i64 A.y1, .slice Am n mc, .int .i64 D.x0, .int .i64 D.y0, .int .i64 D.x1, .int .i64 D.y1, .int .i64 x, .int .i64 y, .int .i64 cc] 37)) := below_a1 _ _
  have K := Blk.new w 37 #[.int .i64 kd, .int .i64 A.x0, .int .i64 A.y0, .int .i64 A.x1, .int .i64 A.y1, .slice Am n mc, .int .i64 D.x0, .int .i64 D.y0, .int .i64 D.x1, .int .i64 D.y1, .int .i64 x, .int .i64 y, .int .i64 cc]
  have HH := Lib.hid h
  have HR := Lib.hid hr
  have X := h.below (below_a1 w (.cells #[.int .i64 kd, .int .i64 A.x0, .int .i64 A.y0, .int .i64 A.x1, .int .i64 A.y1, .slice Am n mc, .int .i64 D.x0, .int .i64 D.y0, .int .i64 D.x1, .int .i64 D.y1, .int .i64 x, .int .i64 y, .int .i64 cc] 37))
  have Y := hr.below (below_a1 w (.cells #[.int .i64 kd, .int .i64 A.x0, .int .i64 A.y0, .int .i64 A.x1, .int .i64 A.y1, .slice Am n mc, .int .i64 D.x0, .int .i64 D.y0, .int .i64 D.x1, .int .i64 D.y1, .int .i64 x, .int .i64 y, .int .i64 cc] 37))
  have lq := h.blk.lt
  have lg := h.row.lt
  have lqr := hr.blk.lt
  have lgr := hr.row.lt
  have t0 := K.cell 0; have t1 := K.cell 1; have t2 := K.cell 2; have t3 := K.cell 3; have t4 := K.cell 4; have t5 := K.cell 5; have t6 := K.cell 6; have t7 := K.cell 7; have t8 := K.cell 8; have t9 := K.cell 9; have t10 := K.cell 10; have t11 := K.cell 11; have t12 := K.cell 12; have tl := K.lt; simp only [List.getElem?_toArray, List.getElem?_cons_succ, List.getElem?_cons_zero] at t0 t1 t2 t3 t4 t5 t6 t7 t8 t9 t10 t11 t12
  go_enter Try.func14, Try.ntmps14
  go_wp2_with (first | (go_at_call 23; ((with_reducible refine (CF _ X).mono ?_); rintro e w1 ⟨rfl, X1, o1⟩; have J := Blk.new w1 32 #[.int .i64 0, .int .i64 0, .int .i64 0, .int .i64 0]; have HJ := Lib.hid J; have J := blk_row J (qV R); have b4 : Below w1.heap.size w1 ((w1.alloc (.cells #[.int .i64 0, .int .i64 0, .int .i64 0, .int .i64 0] 32)).setRow w1.heap.size (qV R)) := below_setRow (below_a1 w1 _) (Nat.le_refl _) _; have zz := o1.size; simp only [World.size_alloc] at zz; have K := (K.only o1 (by simp; omega)).below b4; have t0 := K.cell 0; have t1 := K.cell 1; have t2 := K.cell 2; have t3 := K.cell 3; have t4 := K.cell 4; have t5 := K.cell 5; have t6 := K.cell 6; have t7 := K.cell 7; have t8 := K.cell 8; have t9 := K.cell 9; have t10 := K.cell 10; have t11 := K.cell 11; have t12 := K.cell 12; have tl := K.lt; simp only [List.getElem?_toArray, List.getElem?_cons_succ, List.getElem?_cons_zero] at t0 t1 t2 t3 t4 t5 t6 t7 t8 t9 t10 t11 t12; have Y := (Y.only o1 (by simp; omega) (by simp; omega)).below b4; have X := X1.below b4; have o2 : Only w ((w1.alloc (.cells #[.int .i64 0, .int .i64 0, .int .i64 0, .int .i64 0] 32)).setRow w1.heap.size (qV R)) [g] := ((Only.of_below B [g]).trans o1 (fun b hb => .inl hb)).then_below b4; have j0 := (J.cell 0).trans (show (qV R)[0]? = some (.int .i64 R.x0) from rfl); have j1 := (J.cell 1).trans (show (qV R)[1]? = some (.int .i64 R.y0) from rfl); have j2 := (J.cell 2).trans (show (qV R)[2]? = some (.int .i64 R.x1) from rfl); have j3 := (J.cell 3).trans (show (qV R)[3]? = some (.int .i64 R.y1) from rfl); have jl := J.lt)) | (refine wpList_store_row rfl 32 (.tmp 7) (.tmp 22) (by with_reducible rfl) w1.heap.size (qV R) (by rfl) (by rfl) 32 #[.int .i64 0, .int .i64 0, .int .i64 0, .int .i64 0] (by exact HJ.out) (bxInfoF R) rfl (by simp [qV, Value.oneCell']) ?_))
  go_wp2_with (first | (go_at_call 31; ((with_reducible refine (CM _).mono ?_); rintro e w2 ⟨rfl, b9⟩; have K := K.below b9; have J := J.below b9; have X := X.below b9; have Y := Y.below b9; have o2 := o2.then_below b9; have t0 := K.cell 0; have t1 := K.cell 1; have t2 := K.cell 2; have t3 := K.cell 3; have t4 := K.cell 4; have t5 := K.cell 5; have t6 := K.cell 6; have t7 := K.cell 7; have t8 := K.cell 8; have t9 := K.cell 9; have t10 := K.cell 10; have t11 := K.cell 11; have t12 := K.cell 12; have tl := K.lt; simp only [List.getElem?_toArray, List.getElem?_cons_succ, List.getElem?_cons_zero] at t0 t1 t2 t3 t4 t5 t6 t7 t8 t9 t10 t11 t12; have j0 := (J.cell 0).trans (show (qV R)[0]? = some (.int .i64 R.x0) from rfl); have j1 := (J.cell 1).trans (show (qV R)[1]? = some (.int .i64 R.y0) from rfl); have j2 := (J.cell 2).trans (show (qV R)[2]? = some (.int .i64 R.x1) from rfl); have j3 := (J.cell 3).trans (show (qV R)[3]? = some (.int .i64 R.y1) from rfl); have jl := J.lt)) | (go_at_call 21; ((with_reducible refine (CI _).mono ?_); rintro e w9 ⟨rfl, rfl⟩)))
  have nK : w.heap.size ∉ [gr] := by simp; omega
  have nJ : w1.heap.size ∉ [gr] := by have := Y.row.lt; simp; omega
  have HDJ := Lib.hid (fun (U : World) (hU : Only w2 U [gr]) => And.intro ((only_cell hU (p := ⟨w.heap.size, 6, none⟩) tl nK).trans t6) (And.intro ((only_cell hU (p := ⟨w.heap.size, 7, none⟩) tl nK).trans t7) (And.intro ((only_cell hU (p := ⟨w.heap.size, 8, none⟩) tl nK).trans t8) (And.intro ((only_cell hU (p := ⟨w.heap.size, 9, none⟩) tl nK).trans t9) (And.intro ((only_cell hU (p := ⟨w.heap.size, 12, none⟩) tl nK).trans t12) (And.intro (Nat.lt_of_lt_of_le tl hU.size) (And.intro ((only_cell hU (p := ⟨w1.heap.size, 0, none⟩) jl nJ).trans j0) (And.intro ((only_cell hU (p := ⟨w1.heap.size, 1, none⟩) jl nJ).trans j1) (And.intro ((only_cell hU (p := ⟨w1.heap.size, 2, none⟩) jl nJ).trans j2) (And.intro ((only_cell hU (p := ⟨w1.heap.size, 3, none⟩) jl nJ).trans j3) (Nat.lt_of_lt_of_le jl hU.size)))))))))))
  have HX := Lib.hid X
  have HO2 := Lib.hid o2
  have hI : Only w2 w2.drew [gr] := (Only.refl _ _).drew
  have CRF := CR _ (Y.below (show Below w2.heap.size w2 w2.drew from (Below.refl _ _).drew))
  have HCRF := Lib.hid CRF
  clear t0 t1 t2 t3 t4 t5 t6 t7 t8 t9 t10 t11 t12 tl j0 j1 j2 j3 jl CRF
  refine wp_region_chain (fun U => Only w2 U [gr]) [(0, false), (1, false), (2, false), (3, false), (4, false), (5, false), (6, false), (7, false), (8, false), (9, true), (10, false), (11, false), (12, false)] (by kernel_rfl) (by kernel_rfl) hI ?_
  repeat (first
    | (refine ChainL.skip (o := ?_) ?_ ?_ ?_; rotate_left; (focus (first | (simp only [List.getElem?_toArray, List.getElem?_cons_succ, List.getElem?_cons_zero]; with_reducible rfl) | (simp only [List.getElem?_toArray, List.getElem?_cons_zero]; with_reducible rfl))); (focus rfl); simp only [Act.put, List.setIfInBounds_toArray, List.set_cons_zero, List.set_cons_succ])
    | (refine ChainL.val (o := ?_) (v := ?_) ?_ ?_ ?_ ?_ ?_; rotate_left 2; (focus (first | (simp only [List.getElem?_toArray, List.getElem?_cons_succ, List.getElem?_cons_zero]; with_reducible rfl) | (simp only [List.getElem?_toArray, List.getElem?_cons_zero]; with_reducible rfl))); (focus (intro _ _ h; cases h)); (focus rfl); (focus (intro w' hJ; obtain ⟨u6, u7, u8, u9, u12, ul, v0, v1, v2, v3, vl⟩ := HDJ.out _ hJ; have x1 := e3; have x2 := e4; go_simp <;> with_reducible rfl)); simp only [Act.put, List.setIfInBounds_toArray, List.set_cons_zero, List.set_cons_succ]))
  refine ChainL.call (o := ?_) (f := ?_) (args := ?_) ?_ ?_ ?_ ?_
  rotate_left 3
  (focus (first | (simp only [List.getElem?_toArray, List.getElem?_cons_succ, List.getElem?_cons_zero]; with_reducible rfl) | (simp only [List.getElem?_toArray, List.getElem?_cons_zero]; with_reducible rfl)))
  (focus rfl)
  (focus (go_simp; (constructor <;> with_reducible rfl)))
  with_reducible refine (HCRF.out).mono ?_
  rintro e wz ⟨rfl, Y9, o9⟩; have hI9 := hI.trans o9 (fun b hb => .inl hb); refine ⟨_, rfl, hI9, ?_⟩
  simp only [Act.put, List.setIfInBounds_toArray, List.set_cons_zero, List.set_cons_succ]
  repeat (first
    | (refine ChainL.skip (o := ?_) ?_ ?_ ?_; rotate_left; (focus (first | (simp only [List.getElem?_toArray, List.getElem?_cons_succ, List.getElem?_cons_zero]; with_reducible rfl) | (simp only [List.getElem?_toArray, List.getElem?_cons_zero]; with_reducible rfl))); (focus rfl); simp only [Act.put, List.setIfInBounds_toArray, List.set_cons_zero, List.set_cons_succ])
    | (refine ChainL.val (o := ?_) (v := ?_) ?_ ?_ ?_ ?_ ?_; rotate_left 2; (focus (first | (simp only [List.getElem?_toArray, List.getElem?_cons_succ, List.getElem?_cons_zero]; with_reducible rfl) | (simp only [List.getElem?_toArray, List.getElem?_cons_zero]; with_reducible rfl))); (focus (intro _ _ h; cases h)); (focus rfl); (focus (intro w' hJ; obtain ⟨u6, u7, u8, u9, u12, ul, v0, v1, v2, v3, vl⟩ := HDJ.out _ hJ; have x1 := e3; have x2 := e4; go_simp <;> with_reducible rfl)); simp only [Act.put, List.setIfInBounds_toArray, List.set_cons_zero, List.set_cons_succ]))
  refine ChainL.nil ?_
  go_wp2
  go_ret
  exact ⟨rfl, HX.out.only hI9 (by simp; exact hne.2.1) (by simp; exact hne.2.2.2), Y9, (HO2.out.more (fun b hb => .inl (by simp at hb; simp [hb]))).trans hI9 (fun b hb => .inl (by simp at hb; simp [hb]))⟩
set_option maxRecDepth 100000 in
set_option maxHeartbeats 4000000 in
theorem do_bk (q g qr gr wd ht n mc : Nat) (E : List Value) (kd : Int) (A D : Q) (Am : Option Addr) (x y cc : Int) (M : List Value) (w : World) (h : CnV w q g wd ht E) (hr : RCn w qr gr wd ht E) (hne : q ≠ qr ∧ q ≠ gr ∧ g ≠ qr ∧ g ≠ gr) (hk : (kd == 2) = false) (hl : Lists w w.heap.size Am M) (hM8 : Bytes8 M) (hmc : M.length ≤ mc) (hn : n = M.length) (hm : chkB A n = true) (hc : inZ 0 255 cc = true) (hxy : (inZ (-1048576) 1048576 x && inZ (-1048576) 1048576 y) = true) (hsep : ∀ a, Am = some a → M ≠ [] → a.block ≠ g ∧ a.block ≠ gr) :
    Calls Try.prog 14 #[.pointer (some ⟨q, 0, none⟩), .pointer (some ⟨qr, 0, none⟩), .agg #[.int .i64 kd, .int .i64 A.x0, .int .i64 A.y0, .int .i64 A.x1, .int .i64 A.y1, .slice Am n mc, .int .i64 D.x0, .int .i64 D.y0, .int .i64 D.x1, .int .i64 D.y1, .int .i64 x, .int .i64 y, .int .i64 cc]] w fun e w' => e = .returned (.bool true) ∧ CnV w' q g wd ht (blnE wd ht A M x y cc E) ∧ RCn w' qr gr wd ht (blnE wd ht A M x y cc E) ∧ Only w w' [g, gr] := by
  have CF := fun (W : World) (hW : CnV W q g wd ht E) (hb : Below w.heap.size w W) => cnblend_ok q g wd ht mc E A Am M x y cc W hW ((hl.below hb).more hb.size) hM8 hmc (hn ▸ hm) hxy hc (fun a ha h0 => (hsep a ha h0).1)
  have CR := fun (W : World) (hW : RCn W qr gr wd ht E) (hL : Lists W W.heap.size Am M) => rcblend_any qr gr wd ht mc E A Am M x y cc W hW hL hM8 hmc (hn ▸ hm) hxy hc (fun a ha h0 => (hsep a ha h0).2)
  have HLL : ∀ (W : World), Only w W [g] → Lists W W.heap.size Am M := fun W o => (lists_only hl (Nat.le_refl _) o (fun a ha h0 => by simp; exact (hsep a ha h0).1)).more o.size
  rw [← hn] at CF CR
  have CC := fun W => rckmask_any A Am n mc W
  rw [show chkC A n = 0 by unfold chkC; rw [hm]; rfl] at CC
  have CI := fun W => ris_any cc W
  rw [hc] at CI
  have CX := fun W => rfar_any x W
  have CY := fun W => rfar_any y W
  rw [Bool.and_eq_true] at hxy
  rw [hxy.1] at CX
  rw [hxy.2] at CY
  generalize meetC wd ht (shS A x y) = R at *
  generalize blnE wd ht A M x y cc E = F2 at *
  clear hxy hsep hM8 hmc hn hm hc hl
  have e1 := fun W => eqB_run R.x0 R.y0 R.x1 R.y1 R.x0 R.y0 R.x1 R.y1 W
  have e2 := fun x y W => eqB_guard R.x0 R.y0 R.x1 R.y1 R.x0 R.y0 R.x1 R.y1 x y W
  rw [eq4_self] at e1
  have e3 : ∀ W, (binOp .eql 32 (.agg #[.int .i64 R.x0, .int .i64 R.y0, .int .i64 R.x1, .int .i64 R.y1]) (.agg (qV R))).run Try.prog W = .ok (.bool true) W := e1
  have e4 : ∀ (x y : Operand) W, (eqGuard .eql 32 x y (.agg #[.int .i64 R.x0, .int .i64 R.y0, .int .i64 R.x1, .int .i64 R.y1]) (.agg (qV R))).run Try.prog W = .ok () W := e2
  have B : Below w.heap.size w (w.alloc (.cells #[.int .i64 kd, .int .i64 A.x0, .int .i64 A.y0, .int .i64 A.x1, .int .i64 A.y1, .slice Am n mc, .int .i64 D.x0, .int .i64 D.y0, .int .i64 D.x1, .int .i64 D.y1, .int .i64 x, .int .i64 y, .int .i64 cc] 37)) := below_a1 _ _
  have K := Blk.new w 37 #[.int .i64 kd, .int .i64 A.x0, .int .i64 A.y0, .int .i64 A.x1, .int .i64 A.y1, .slice Am n mc, .int .i64 D.x0, .int .i64 D.y0, .int .i64 D.x1, .int .i64 D.y1, .int .i64 x, .int .i64 y, .int .i64 cc]
  have HH := Lib.hid h
  have HR := Lib.hid hr
  have X := h.below (below_a1 w (.cells #[.int .i64 kd, .int .i64 A.x0, .int .i64 A.y0, .int .i64 A.x1, .int .i64 A.y1, .slice Am n mc, .int .i64 D.x0, .int .i64 D.y0, .int .i64 D.x1, .int .i64 D.y1, .int .i64 x, .int .i64 y, .int .i64 cc] 37))
  have Y := hr.below (below_a1 w (.cells #[.int .i64 kd, .int .i64 A.x0, .int .i64 A.y0, .int .i64 A.x1, .int .i64 A.y1, .slice Am n mc, .int .i64 D.x0, .int .i64 D.y0, .int .i64 D.x1, .int .i64 D.y1, .int .i64 x, .int .i64 y, .int .i64 cc] 37))
  have lq := h.blk.lt
  have lg := h.row.lt
  have lqr := hr.blk.lt
  have lgr := hr.row.lt
  have t0 := K.cell 0; have t1 := K.cell 1; have t2 := K.cell 2; have t3 := K.cell 3; have t4 := K.cell 4; have t5 := K.cell 5; have t6 := K.cell 6; have t7 := K.cell 7; have t8 := K.cell 8; have t9 := K.cell 9; have t10 := K.cell 10; have t11 := K.cell 11; have t12 := K.cell 12; have tl := K.lt; simp only [List.getElem?_toArray, List.getElem?_cons_succ, List.getElem?_cons_zero] at t0 t1 t2 t3 t4 t5 t6 t7 t8 t9 t10 t11 t12
  go_enter Try.func14, Try.ntmps14
  go_wp2_with (first | (go_at_call 18; ((with_reducible refine (CF _ X B).mono ?_); rintro e w1 ⟨rfl, X1, o1⟩; have J := Blk.new w1 32 #[.int .i64 0, .int .i64 0, .int .i64 0, .int .i64 0]; have HJ := Lib.hid J; have J := blk_row J (qV R); have b4 : Below w1.heap.size w1 ((w1.alloc (.cells #[.int .i64 0, .int .i64 0, .int .i64 0, .int .i64 0] 32)).setRow w1.heap.size (qV R)) := below_setRow (below_a1 w1 _) (Nat.le_refl _) _; have zz := o1.size; simp only [World.size_alloc] at zz; have K := (K.only o1 (by simp; omega)).below b4; have t0 := K.cell 0; have t1 := K.cell 1; have t2 := K.cell 2; have t3 := K.cell 3; have t4 := K.cell 4; have t5 := K.cell 5; have t6 := K.cell 6; have t7 := K.cell 7; have t8 := K.cell 8; have t9 := K.cell 9; have t10 := K.cell 10; have t11 := K.cell 11; have t12 := K.cell 12; have tl := K.lt; simp only [List.getElem?_toArray, List.getElem?_cons_succ, List.getElem?_cons_zero] at t0 t1 t2 t3 t4 t5 t6 t7 t8 t9 t10 t11 t12; have Y := (Y.only o1 (by simp; omega) (by simp; omega)).below b4; have X := X1.below b4; have o2 : Only w ((w1.alloc (.cells #[.int .i64 0, .int .i64 0, .int .i64 0, .int .i64 0] 32)).setRow w1.heap.size (qV R)) [g] := ((Only.of_below B [g]).trans o1 (fun b hb => .inl hb)).then_below b4; have j0 := (J.cell 0).trans (show (qV R)[0]? = some (.int .i64 R.x0) from rfl); have j1 := (J.cell 1).trans (show (qV R)[1]? = some (.int .i64 R.y0) from rfl); have j2 := (J.cell 2).trans (show (qV R)[2]? = some (.int .i64 R.x1) from rfl); have j3 := (J.cell 3).trans (show (qV R)[3]? = some (.int .i64 R.y1) from rfl); have jl := J.lt)) | (refine wpList_store_row rfl 32 (.tmp 9) (.tmp 69) (by with_reducible rfl) w1.heap.size (qV R) (by rfl) (by rfl) 32 #[.int .i64 0, .int .i64 0, .int .i64 0, .int .i64 0] (by exact HJ.out) (bxInfoF R) rfl (by simp [qV, Value.oneCell']) ?_))
  go_wp2_with (first | (go_at_call 25; ((with_reducible refine (CC _).mono ?_); rintro e w2 ⟨rfl, b9⟩; have K := K.below b9; have J := J.below b9; have X := X.below b9; have Y := Y.below b9; have o2 := o2.then_below b9; have t0 := K.cell 0; have t1 := K.cell 1; have t2 := K.cell 2; have t3 := K.cell 3; have t4 := K.cell 4; have t5 := K.cell 5; have t6 := K.cell 6; have t7 := K.cell 7; have t8 := K.cell 8; have t9 := K.cell 9; have t10 := K.cell 10; have t11 := K.cell 11; have t12 := K.cell 12; have tl := K.lt; simp only [List.getElem?_toArray, List.getElem?_cons_succ, List.getElem?_cons_zero] at t0 t1 t2 t3 t4 t5 t6 t7 t8 t9 t10 t11 t12; have j0 := (J.cell 0).trans (show (qV R)[0]? = some (.int .i64 R.x0) from rfl); have j1 := (J.cell 1).trans (show (qV R)[1]? = some (.int .i64 R.y0) from rfl); have j2 := (J.cell 2).trans (show (qV R)[2]? = some (.int .i64 R.x1) from rfl); have j3 := (J.cell 3).trans (show (qV R)[3]? = some (.int .i64 R.y1) from rfl); have jl := J.lt)) | (go_at_call 21; ((with_reducible refine (CI _).mono ?_); rintro e w9 ⟨rfl, rfl⟩)) | (go_at_call 33; ((with_reducible refine (CX _).mono ?_); rintro e w9 ⟨rfl, rfl⟩)) | (go_at_call 33; ((with_reducible refine (CY _).mono ?_); rintro e w9 ⟨rfl, rfl⟩)))
  have nK : w.heap.size ∉ [gr] := by simp; omega
  have nJ : w1.heap.size ∉ [gr] := by have := Y.row.lt; simp; omega
  have HDJ := Lib.hid (fun (U : World) (hU : Only w2 U [gr]) => And.intro ((only_cell hU (p := ⟨w.heap.size, 1, none⟩) tl nK).trans t1) (And.intro ((only_cell hU (p := ⟨w.heap.size, 2, none⟩) tl nK).trans t2) (And.intro ((only_cell hU (p := ⟨w.heap.size, 3, none⟩) tl nK).trans t3) (And.intro ((only_cell hU (p := ⟨w.heap.size, 4, none⟩) tl nK).trans t4) (And.intro ((only_cell hU (p := ⟨w.heap.size, 5, none⟩) tl nK).trans t5) (And.intro ((only_cell hU (p := ⟨w.heap.size, 10, none⟩) tl nK).trans t10) (And.intro ((only_cell hU (p := ⟨w.heap.size, 11, none⟩) tl nK).trans t11) (And.intro ((only_cell hU (p := ⟨w.heap.size, 12, none⟩) tl nK).trans t12) (And.intro (Nat.lt_of_lt_of_le tl hU.size) (And.intro ((only_cell hU (p := ⟨w1.heap.size, 0, none⟩) jl nJ).trans j0) (And.intro ((only_cell hU (p := ⟨w1.heap.size, 1, none⟩) jl nJ).trans j1) (And.intro ((only_cell hU (p := ⟨w1.heap.size, 2, none⟩) jl nJ).trans j2) (And.intro ((only_cell hU (p := ⟨w1.heap.size, 3, none⟩) jl nJ).trans j3) (Nat.lt_of_lt_of_le jl hU.size))))))))))))))
  have HX := Lib.hid X
  have HO2 := Lib.hid o2
  have hI : Only w2 w2.drew [gr] := (Only.refl _ _).drew
  have CRF := CR _ (Y.below (show Below w2.heap.size w2 w2.drew from (Below.refl _ _).drew)) (HLL _ o2.drew)
  have HCRF := Lib.hid CRF
  clear t0 t1 t2 t3 t4 t5 t6 t7 t8 t9 t10 t11 t12 tl j0 j1 j2 j3 jl CRF
  refine wp_region_chain (fun U => Only w2 U [gr]) [(0, false), (1, false), (2, false), (3, false), (4, false), (5, false), (6, false), (7, false), (8, false), (9, false), (10, false), (11, false), (12, false), (13, true), (14, false), (15, false), (16, false)] (by kernel_rfl) (by kernel_rfl) hI ?_
  repeat (first
    | (refine ChainL.skip (o := ?_) ?_ ?_ ?_; rotate_left; (focus (first | (simp only [List.getElem?_toArray, List.getElem?_cons_succ, List.getElem?_cons_zero]; with_reducible rfl) | (simp only [List.getElem?_toArray, List.getElem?_cons_zero]; with_reducible rfl))); (focus rfl); simp only [Act.put, List.setIfInBounds_toArray, List.set_cons_zero, List.set_cons_succ])
    | (refine ChainL.val (o := ?_) (v := ?_) ?_ ?_ ?_ ?_ ?_; rotate_left 2; (focus (first | (simp only [List.getElem?_toArray, List.getElem?_cons_succ, List.getElem?_cons_zero]; with_reducible rfl) | (simp only [List.getElem?_toArray, List.getElem?_cons_zero]; with_reducible rfl))); (focus (intro _ _ h; cases h)); (focus rfl); (focus (intro w' hJ; obtain ⟨u1, u2, u3, u4, u5, u10, u11, u12, ul, v0, v1, v2, v3, vl⟩ := HDJ.out _ hJ; have x1 := e3; have x2 := e4; go_simp <;> with_reducible rfl)); simp only [Act.put, List.setIfInBounds_toArray, List.set_cons_zero, List.set_cons_succ]))
  refine ChainL.call (o := ?_) (f := ?_) (args := ?_) ?_ ?_ ?_ ?_
  rotate_left 3
  (focus (first | (simp only [List.getElem?_toArray, List.getElem?_cons_succ, List.getElem?_cons_zero]; with_reducible rfl) | (simp only [List.getElem?_toArray, List.getElem?_cons_zero]; with_reducible rfl)))
  (focus rfl)
  (focus (go_simp; (constructor <;> with_reducible rfl)))
  with_reducible refine (HCRF.out).mono ?_
  rintro e wz ⟨rfl, Y9, o9⟩; have hI9 := hI.trans o9 (fun b hb => .inl hb); refine ⟨_, rfl, hI9, ?_⟩
  simp only [Act.put, List.setIfInBounds_toArray, List.set_cons_zero, List.set_cons_succ]
  repeat (first
    | (refine ChainL.skip (o := ?_) ?_ ?_ ?_; rotate_left; (focus (first | (simp only [List.getElem?_toArray, List.getElem?_cons_succ, List.getElem?_cons_zero]; with_reducible rfl) | (simp only [List.getElem?_toArray, List.getElem?_cons_zero]; with_reducible rfl))); (focus rfl); simp only [Act.put, List.setIfInBounds_toArray, List.set_cons_zero, List.set_cons_succ])
    | (refine ChainL.val (o := ?_) (v := ?_) ?_ ?_ ?_ ?_ ?_; rotate_left 2; (focus (first | (simp only [List.getElem?_toArray, List.getElem?_cons_succ, List.getElem?_cons_zero]; with_reducible rfl) | (simp only [List.getElem?_toArray, List.getElem?_cons_zero]; with_reducible rfl))); (focus (intro _ _ h; cases h)); (focus rfl); (focus (intro w' hJ; obtain ⟨u1, u2, u3, u4, u5, u10, u11, u12, ul, v0, v1, v2, v3, vl⟩ := HDJ.out _ hJ; have x1 := e3; have x2 := e4; go_simp <;> with_reducible rfl)); simp only [Act.put, List.setIfInBounds_toArray, List.set_cons_zero, List.set_cons_succ]))
  refine ChainL.nil ?_
  go_wp2
  go_ret
  exact ⟨rfl, HX.out.only hI9 (by simp; exact hne.2.1) (by simp; exact hne.2.2.2), Y9, (HO2.out.more (fun b hb => .inl (by simp at hb; simp [hb]))).trans hI9 (fun b hb => .inl (by simp at hb; simp [hb]))⟩
/-- What a call leaves of a canvas. -/
def doE (wd ht : Nat) (kd : Int) (A : Q) (M : List Value) (D : Q) (x y cc : Int) (E : List Value) : List Value := if (kd == 2) = true then (if mayQ D = true ∧ inZ 0 255 cc = true then cnputE wd ht D (fun _ => pntF cc) E else E) else blAll wd ht A M x y cc E
theorem do_any (q g qr gr wd ht mc : Nat) (E : List Value) (kd : Int) (A D : Q) (Am : Option Addr) (M : List Value) (x y cc : Int) (w : World) (h : CnV w q g wd ht E) (hr : RCn w qr gr wd ht E) (hne : q ≠ qr ∧ q ≠ gr ∧ g ≠ qr ∧ g ≠ gr) (hl : Lists w w.heap.size Am M) (hM8 : Bytes8 M) (hmc : M.length ≤ mc) (hsep : ∀ a, Am = some a → M ≠ [] → a.block ≠ g ∧ a.block ≠ gr) :
    Calls Try.prog 14 #[.pointer (some ⟨q, 0, none⟩), .pointer (some ⟨qr, 0, none⟩), .agg #[.int .i64 kd, .int .i64 A.x0, .int .i64 A.y0, .int .i64 A.x1, .int .i64 A.y1, .slice Am M.length mc, .int .i64 D.x0, .int .i64 D.y0, .int .i64 D.x1, .int .i64 D.y1, .int .i64 x, .int .i64 y, .int .i64 cc]] w fun e w' => e = .returned (.bool true) ∧ CnV w' q g wd ht (doE wd ht kd A M D x y cc E) ∧ RCn w' qr gr wd ht (doE wd ht kd A M D x y cc E) ∧ Only w w' [g, gr] := by
  unfold doE
  cases hk : kd == 2
  · rw [if_neg (by simp)]
    unfold blAll
    cases hm : chkB A M.length
    · rw [if_neg (by unfold blCode; rw [if_pos hm]; decide)]
      exact do_bm q g qr gr wd ht M.length mc E kd A D Am x y cc w h hr hne hk hm
    · cases hc : inZ 0 255 cc
      · rw [if_neg (by unfold blCode; rw [if_neg (by simp [hm]), if_pos hc]; decide)]
        exact do_ba q g qr gr wd ht M.length mc E kd A D Am x y cc w h hr hne hk hm hc
      · cases hxy : (inZ (-1048576) 1048576 x && inZ (-1048576) 1048576 y)
        · rw [if_neg (by unfold blCode; rw [if_neg (by simp [hm]), if_neg (by simp [hc]), if_pos hxy]; decide)]
          cases hx : inZ (-1048576) 1048576 x
          · exact do_bx q g qr gr wd ht M.length mc E kd A D Am x y cc w h hr hne hk hm hc hxy hx
          · exact do_by q g qr gr wd ht M.length mc E kd A D Am x y cc w h hr hne hk hm hc hxy hx (by rw [hx] at hxy; simpa using hxy)
        · rw [if_pos (by unfold blCode; rw [if_neg (by simp [hm]), if_neg (by simp [hc]), if_neg (by simp [hxy])])]
          exact do_bk q g qr gr wd ht M.length mc E kd A D Am x y cc M w h hr hne hk hl hM8 hmc rfl hm hc hxy hsep
  · have hk2 : kd = 2 := by simpa using hk
    rw [if_pos rfl]
    cases hm : mayQ D
    · rw [if_neg (by simp)]
      exact do_fo q g qr gr wd ht M.length mc E kd A D Am x y cc w h hr hne hk2 hm
    · cases hc : inZ 0 255 cc
      · rw [if_neg (by simp)]
        exact do_fa q g qr gr wd ht M.length mc E kd A D Am x y cc w h hr hne hk2 hm hc
      · rw [if_pos ⟨rfl, rfl⟩]
        exact do_fk q g qr gr wd ht M.length mc E kd A D Am x y cc w h hr hne hk2 hm hc
end Go.Proofs.Ytlbbigehjdnjmaa
