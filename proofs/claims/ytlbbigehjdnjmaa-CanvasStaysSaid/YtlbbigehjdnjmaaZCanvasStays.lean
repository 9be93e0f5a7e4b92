/- CanvasStays: pixels outside the box that Blend tells stay as they were, and those that a byte 0 of the mask is put onto; for every canvas of 200 by 200 pixels at most and every call. -/
import Derived.Test.YtlbbigehjdnjmaaCCn9

namespace Go.Proofs.Ytlbbigehjdnjmaa.canvasStays
open Go Go.ChangeShapes Go.WideShapes Go.ChangeAt Go.RowKit
set_option linter.unusedVariables false
set_option linter.unusedSimpArgs false

variable {W : World}
set_option maxRecDepth 100000 in
theorem out_0 (a b : Int) (kd : Int) (A : Q) (Am : Option Addr) (mc : Nat) (E : List Value) (B0 : Q) (x y cc : Int) (k : E.length ≤ mc) (m : mc ≤ 9223372036854775807) (l : Lists W W.heap.size Am E) (s : Bytes8 E) (h0 : a < 1) : Calls Try.prog 4 #[.int .i64 a, .int .i64 b, .agg #[.int .i64 kd, .int .i64 A.x0, .int .i64 A.y0, .int .i64 A.x1, .int .i64 A.y1, .slice Am E.length mc, .int .i64 B0.x0, .int .i64 B0.y0, .int .i64 B0.x1, .int .i64 B0.y1, .int .i64 x, .int .i64 y, .int .i64 cc]] W fun e w' => e = .returned (.bool true) ∧ Below W.heap.size W w' := by
  have CL := fun W => lives26 W
  generalize E.length = n at *
  have B : Below W.heap.size W (W.alloc (.cells #[.int .i64 kd, .int .i64 A.x0, .int .i64 A.y0, .int .i64 A.x1, .int .i64 A.y1, .slice Am n mc, .int .i64 B0.x0, .int .i64 B0.y0, .int .i64 B0.x1, .int .i64 B0.y1, .int .i64 x, .int .i64 y, .int .i64 cc] 37)) := below_a1 _ _
  have K := Blk.new W 37 #[.int .i64 kd, .int .i64 A.x0, .int .i64 A.y0, .int .i64 A.x1, .int .i64 A.y1, .slice Am n mc, .int .i64 B0.x0, .int .i64 B0.y0, .int .i64 B0.x1, .int .i64 B0.y1, .int .i64 x, .int .i64 y, .int .i64 cc]
  have t0 := K.cell 0; have t1 := K.cell 1; have t2 := K.cell 2; have t3 := K.cell 3; have t4 := K.cell 4; have t5 := K.cell 5; have t6 := K.cell 6; have t7 := K.cell 7; have t8 := K.cell 8; have t9 := K.cell 9; have t10 := K.cell 10; have t11 := K.cell 11; have t12 := K.cell 12; have tl := K.lt; simp only [List.getElem?_toArray, List.getElem?_cons_succ, List.getElem?_cons_zero] at t0 t1 t2 t3 t4 t5 t6 t7 t8 t9 t10 t11 t12
  clear k l s
  go_enter Try.func4, Try.ntmps4
  go_wp2_with (go_at_call 9; ((with_reducible refine (CL _).mono ?_); rintro e w2 ⟨rfl, b2⟩))
  go_ret
  exact ⟨rfl, B.trans (b2.mono B.size)⟩
set_option maxRecDepth 100000 in
theorem out_1 (a b : Int) (kd : Int) (A : Q) (Am : Option Addr) (mc : Nat) (E : List Value) (B0 : Q) (x y cc : Int) (k : E.length ≤ mc) (m : mc ≤ 9223372036854775807) (l : Lists W W.heap.size Am E) (s : Bytes8 E) (h0 : 1 ≤ a) (h1 : 200 < a) : Calls Try.prog 4 #[.int .i64 a, .int .i64 b, .agg #[.int .i64 kd, .int .i64 A.x0, .int .i64 A.y0, .int .i64 A.x1, .int .i64 A.y1, .slice Am E.length mc, .int .i64 B0.x0, .int .i64 B0.y0, .int .i64 B0.x1, .int .i64 B0.y1, .int .i64 x, .int .i64 y, .int .i64 cc]] W fun e w' => e = .returned (.bool true) ∧ Below W.heap.size W w' := by
  have CL := fun W => lives26 W
  generalize E.length = n at *
  have B : Below W.heap.size W (W.alloc (.cells #[.int .i64 kd, .int .i64 A.x0, .int .i64 A.y0, .int .i64 A.x1, .int .i64 A.y1, .slice Am n mc, .int .i64 B0.x0, .int .i64 B0.y0, .int .i64 B0.x1, .int .i64 B0.y1, .int .i64 x, .int .i64 y, .int .i64 cc] 37)) := below_a1 _ _
  have K := Blk.new W 37 #[.int .i64 kd, .int .i64 A.x0, .int .i64 A.y0, .int .i64 A.x1, .int .i64 A.y1, .slice Am n mc, .int .i64 B0.x0, .int .i64 B0.y0, .int .i64 B0.x1, .int .i64 B0.y1, .int .i64 x, .int .i64 y, .int .i64 cc]
  have t0 := K.cell 0; have t1 := K.cell 1; have t2 := K.cell 2; have t3 := K.cell 3; have t4 := K.cell 4; have t5 := K.cell 5; have t6 := K.cell 6; have t7 := K.cell 7; have t8 := K.cell 8; have t9 := K.cell 9; have t10 := K.cell 10; have t11 := K.cell 11; have t12 := K.cell 12; have tl := K.lt; simp only [List.getElem?_toArray, List.getElem?_cons_succ, List.getElem?_cons_zero] at t0 t1 t2 t3 t4 t5 t6 t7 t8 t9 t10 t11 t12
  clear k l s
  go_enter Try.func4, Try.ntmps4
  go_wp2_with (go_at_call 9; ((with_reducible refine (CL _).mono ?_); rintro e w2 ⟨rfl, b2⟩))
  go_ret
  exact ⟨rfl, B.trans (b2.mono B.size)⟩
set_option maxRecDepth 100000 in
theorem out_2 (a b : Int) (kd : Int) (A : Q) (Am : Option Addr) (mc : Nat) (E : List Value) (B0 : Q) (x y cc : Int) (k : E.length ≤ mc) (m : mc ≤ 9223372036854775807) (l : Lists W W.heap.size Am E) (s : Bytes8 E) (h0 : 1 ≤ a) (h1 : a ≤ 200) (h2 : b < 1) : Calls Try.prog 4 #[.int .i64 a, .int .i64 b, .agg #[.int .i64 kd, .int .i64 A.x0, .int .i64 A.y0, .int .i64 A.x1, .int .i64 A.y1, .slice Am E.length mc, .int .i64 B0.x0, .int .i64 B0.y0, .int .i64 B0.x1, .int .i64 B0.y1, .int .i64 x, .int .i64 y, .int .i64 cc]] W fun e w' => e = .returned (.bool true) ∧ Below W.heap.size W w' := by
  have CL := fun W => lives26 W
  generalize E.length = n at *
  have B : Below W.heap.size W (W.alloc (.cells #[.int .i64 kd, .int .i64 A.x0, .int .i64 A.y0, .int .i64 A.x1, .int .i64 A.y1, .slice Am n mc, .int .i64 B0.x0, .int .i64 B0.y0, .int .i64 B0.x1, .int .i64 B0.y1, .int .i64 x, .int .i64 y, .int .i64 cc] 37)) := below_a1 _ _
  have K := Blk.new W 37 #[.int .i64 kd, .int .i64 A.x0, .int .i64 A.y0, .int .i64 A.x1, .int .i64 A.y1, .slice Am n mc, .int .i64 B0.x0, .int .i64 B0.y0, .int .i64 B0.x1, .int .i64 B0.y1, .int .i64 x, .int .i64 y, .int .i64 cc]
  have t0 := K.cell 0; have t1 := K.cell 1; have t2 := K.cell 2; have t3 := K.cell 3; have t4 := K.cell 4; have t5 := K.cell 5; have t6 := K.cell 6; have t7 := K.cell 7; have t8 := K.cell 8; have t9 := K.cell 9; have t10 := K.cell 10; have t11 := K.cell 11; have t12 := K.cell 12; have tl := K.lt; simp only [List.getElem?_toArray, List.getElem?_cons_succ, List.getElem?_cons_zero] at t0 t1 t2 t3 t4 t5 t6 t7 t8 t9 t10 t11 t12
  clear k l s
  go_enter Try.func4, Try.ntmps4
  go_wp2_with (go_at_call 9; ((with_reducible refine (CL _).mono ?_); rintro e w2 ⟨rfl, b2⟩))
  go_ret
  exact ⟨rfl, B.trans (b2.mono B.size)⟩
set_option maxRecDepth 100000 in
theorem out_3 (a b : Int) (kd : Int) (A : Q) (Am : Option Addr) (mc : Nat) (E : List Value) (B0 : Q) (x y cc : Int) (k : E.length ≤ mc) (m : mc ≤ 9223372036854775807) (l : Lists W W.heap.size Am E) (s : Bytes8 E) (h0 : 1 ≤ a) (h1 : a ≤ 200) (h2 : 1 ≤ b) (h3 : 200 < b) : Calls Try.prog 4 #[.int .i64 a, .int .i64 b, .agg #[.int .i64 kd, .int .i64 A.x0, .int .i64 A.y0, .int .i64 A.x1, .int .i64 A.y1, .slice Am E.length mc, .int .i64 B0.x0, .int .i64 B0.y0, .int .i64 B0.x1, .int .i64 B0.y1, .int .i64 x, .int .i64 y, .int .i64 cc]] W fun e w' => e = .returned (.bool true) ∧ Below W.heap.size W w' := by
  have CL := fun W => lives26 W
  generalize E.length = n at *
  have B : Below W.heap.size W (W.alloc (.cells #[.int .i64 kd, .int .i64 A.x0, .int .i64 A.y0, .int .i64 A.x1, .int .i64 A.y1, .slice Am n mc, .int .i64 B0.x0, .int .i64 B0.y0, .int .i64 B0.x1, .int .i64 B0.y1, .int .i64 x, .int .i64 y, .int .i64 cc] 37)) := below_a1 _ _
  have K := Blk.new W 37 #[.int .i64 kd, .int .i64 A.x0, .int .i64 A.y0, .int .i64 A.x1, .int .i64 A.y1, .slice Am n mc, .int .i64 B0.x0, .int .i64 B0.y0, .int .i64 B0.x1, .int .i64 B0.y1, .int .i64 x, .int .i64 y, .int .i64 cc]
  have t0 := K.cell 0; have t1 := K.cell 1; have t2 := K.cell 2; have t3 := K.cell 3; have t4 := K.cell 4; have t5 := K.cell 5; have t6 := K.cell 6; have t7 := K.cell 7; have t8 := K.cell 8; have t9 := K.cell 9; have t10 := K.cell 10; have t11 := K.cell 11; have t12 := K.cell 12; have tl := K.lt; simp only [List.getElem?_toArray, List.getElem?_cons_succ, List.getElem?_cons_zero] at t0 t1 t2 t3 t4 t5 t6 t7 t8 t9 t10 t11 t12
  clear k l s
  go_enter Try.func4, Try.ntmps4
  go_wp2_with (go_at_call 9; ((with_reducible refine (CL _).mono ?_); rintro e w2 ⟨rfl, b2⟩))
  go_ret
  exact ⟨rfl, B.trans (b2.mono B.size)⟩
set_option maxRecDepth 100000 in
theorem out_4 (a b : Int) (kd : Int) (A : Q) (Am : Option Addr) (mc : Nat) (E : List Value) (B0 : Q) (x y cc : Int) (k : E.length ≤ mc) (m : mc ≤ 9223372036854775807) (l : Lists W W.heap.size Am E) (s : Bytes8 E) (h0 : 1 ≤ a) (h1 : a ≤ 200) (h2 : 1 ≤ b) (h3 : b ≤ 200) (h4 : 16384 < E.length) : Calls Try.prog 4 #[.int .i64 a, .int .i64 b, .agg #[.int .i64 kd, .int .i64 A.x0, .int .i64 A.y0, .int .i64 A.x1, .int .i64 A.y1, .slice Am E.length mc, .int .i64 B0.x0, .int .i64 B0.y0, .int .i64 B0.x1, .int .i64 B0.y1, .int .i64 x, .int .i64 y, .int .i64 cc]] W fun e w' => e = .returned (.bool true) ∧ Below W.heap.size W w' := by
  have CL := fun W => lives26 W
  generalize E.length = n at *
  have B : Below W.heap.size W (W.alloc (.cells #[.int .i64 kd, .int .i64 A.x0, .int .i64 A.y0, .int .i64 A.x1, .int .i64 A.y1, .slice Am n mc, .int .i64 B0.x0, .int .i64 B0.y0, .int .i64 B0.x1, .int .i64 B0.y1, .int .i64 x, .int .i64 y, .int .i64 cc] 37)) := below_a1 _ _
  have K := Blk.new W 37 #[.int .i64 kd, .int .i64 A.x0, .int .i64 A.y0, .int .i64 A.x1, .int .i64 A.y1, .slice Am n mc, .int .i64 B0.x0, .int .i64 B0.y0, .int .i64 B0.x1, .int .i64 B0.y1, .int .i64 x, .int .i64 y, .int .i64 cc]
  have t0 := K.cell 0; have t1 := K.cell 1; have t2 := K.cell 2; have t3 := K.cell 3; have t4 := K.cell 4; have t5 := K.cell 5; have t6 := K.cell 6; have t7 := K.cell 7; have t8 := K.cell 8; have t9 := K.cell 9; have t10 := K.cell 10; have t11 := K.cell 11; have t12 := K.cell 12; have tl := K.lt; simp only [List.getElem?_toArray, List.getElem?_cons_succ, List.getElem?_cons_zero] at t0 t1 t2 t3 t4 t5 t6 t7 t8 t9 t10 t11 t12
  clear k l s
  go_enter Try.func4, Try.ntmps4
  go_wp2_with (go_at_call 9; ((with_reducible refine (CL _).mono ?_); rintro e w2 ⟨rfl, b2⟩))
  go_ret
  exact ⟨rfl, B.trans (b2.mono B.size)⟩

theorem inQ_no {R : Q} {x y : Int} (h : inQ R x y = false) : x < R.x0 ∨ (R.x0 ≤ x ∧ R.x1 ≤ x) ∨ (R.x0 ≤ x ∧ x < R.x1 ∧ y < R.y0) ∨ (R.x0 ≤ x ∧ x < R.x1 ∧ R.y0 ≤ y ∧ R.y1 ≤ y) := by
  rcases Int.lt_or_le x R.x0 with h0 | h0
  · exact .inl h0
  · rcases Int.lt_or_le x R.x1 with h1 | h1
    · rcases Int.lt_or_le y R.y0 with h2 | h2
      · exact .inr (.inr (.inl ⟨h0, h1, h2⟩))
      · rcases Int.lt_or_le y R.y1 with h3 | h3
        · exfalso
          unfold inQ at h
          rw [decide_eq_true h0, decide_eq_true h1, decide_eq_true h2, decide_eq_true h3] at h
          cases h
        · exact .inr (.inr (.inr ⟨h0, h1, h2, h3⟩))
    · exact .inr (.inl ⟨h0, h1⟩)
theorem inQ_yes {R : Q} {x y : Int} (h : inQ R x y = true) : R.x0 ≤ x ∧ x < R.x1 ∧ R.y0 ≤ y ∧ y < R.y1 := by
  simp only [inQ, Bool.and_eq_true, decide_eq_true_eq] at h
  exact ⟨h.1.1.1, h.1.1.2, h.1.2, h.2⟩
theorem mix77 {c : Int} : mixZ 77 c 0 = 77 := by unfold mixZ; omega
/-- What a pixel is behind it. -/
def PxOk (wd ht : Nat) (R A : Q) (M : List Value) (X Y : Int) (E1 : List Value) : Prop := ∀ x y : Nat, x < wd → y < ht → (inQ R x y = false → atC wd ht E1 x y = 77) ∧ (inQ R x y = true → chkB A M.length = true ∧ inQ A (x - X) (y - Y) = true ∧ wrap64 ((x : Int) - X) = (x : Int) - X ∧ wrap64 ((y : Int) - Y) = (y : Int) - Y ∧ (ub (M.getD (ixM A (x - X) (y - Y)) (.int .u8 0)) = 0 → atC wd ht E1 x y = 77))
theorem px_ok (wd ht : Nat) (hd : 1 ≤ wd ∧ 1 ≤ ht) (hd2 : wd ≤ 200 ∧ ht ≤ 200) (A : Q) (M : List Value) (X Y c : Int) : PxOk wd ht (blBox wd ht A M.length X Y c) A M X Y (blAll wd ht A M X Y c (oneE (wd * ht) 77)) := by
  intro x y hx hy
  have hk := idx_lt hx hy
  have h1 := bl_get wd ht A M X Y c (oneE (wd * ht) 77) hd x y hx hy
  have h2 : (oneE (wd * ht) 77)[y * wd + x]? = some (.int .u8 77) := by unfold oneE; rw [List.getElem?_replicate, if_pos hk]
  rw [h2, Option.map_some] at h1
  have h3 : atC wd ht (blAll wd ht A M X Y c (oneE (wd * ht) 77)) x y = ub (if inQ (blBox wd ht A M.length X Y c) x y = true then .int .u8 (mixZ (ub (.int .u8 77)) c (ub (M.getD (ixM A (x - X) (y - Y)) (.int .u8 0)))) else .int .u8 77) := by
    unfold atC
    rw [if_pos (by omega), Int.toNat_natCast, Int.toNat_natCast, List.getD_eq_getElem?_getD, h1, Option.getD_some]
  rw [h3]
  refine ⟨fun h => by rw [h]; rfl, fun h => ?_⟩
  rw [if_pos h]
  by_cases hz : blCode A M.length X Y c = 0
  · obtain ⟨h4, h5, h6⟩ := blCode_zero hz
    unfold blBox at h
    rw [if_pos hz, inQ_meet _ hd hx hy] at h
    have he : emptyQ A = false := by
      cases he : emptyQ A
      · rfl
      · unfold shS at h
        rw [he, if_pos rfl, inQ_zero] at h
        cases h
    have hs : shS A X Y = shiftQ A X Y := by unfold shS; rw [he]; rfl
    rw [hs] at h
    rw [Bool.and_eq_true] at h6
    have h7 := inB_in h6.1
    have h8 := inB_in h6.2
    refine ⟨h4, ?_, by unfold wrap64; omega, by unfold wrap64; omega, fun h9 => by rw [h9]; exact mix77⟩
    rw [← inQ_shift]
    exact h
  · unfold blBox at h
    rw [if_neg hz, inQ_zero] at h
    cases h
set_option maxRecDepth 100000 in
set_option maxHeartbeats 4000000 in
theorem in_z (wd ht : Nat) (hd : 1 ≤ wd ∧ 1 ≤ ht) (hd2 : wd ≤ 200 ∧ ht ≤ 200) (kd : Int) (A : Q) (Am : Option Addr) (mc : Nat) (E : List Value) (B0 : Q) (x y cc : Int) (k : E.length ≤ mc) (m : mc ≤ 9223372036854775807) (l : Lists W W.heap.size Am E) (s : Bytes8 E) (hn : E.length ≤ 16384) (hz : blCode A E.length x y cc = 0) : Calls Try.prog 4 #[.int .i64 (wd : Nat), .int .i64 (ht : Nat), .agg #[.int .i64 kd, .int .i64 A.x0, .int .i64 A.y0, .int .i64 A.x1, .int .i64 A.y1, .slice Am E.length mc, .int .i64 B0.x0, .int .i64 B0.y0, .int .i64 B0.x1, .int .i64 B0.y1, .int .i64 x, .int .i64 y, .int .i64 cc]] W fun e w' => e = .returned (.bool true) ∧ Below W.heap.size W w' := by
  have CL := fun W => lives26 W
  have CBL := fun q g (V : World) (hX : CnV V q g wd ht (oneE (wd * ht) 77)) (hB : Below W.heap.size W V) (hg : W.heap.size < g) => cnblend_all q g wd ht mc (oneE (wd * ht) 77) A Am E x y cc V hX ((l.below hB).more hB.size) s k (fun a ha hn => by have := l.lt a ha hn; omega)
  have hmay : mayCn wd ht 77 = true := by unfold mayCn inZ; simp; omega
  have px := px_ok wd ht hd hd2 A E x y cc
  rw [hz] at CBL
  
  
  have HPX := Lib.hid px
  clear px
  
  generalize blBox wd ht A E.length x y cc = R at *
  generalize blAll wd ht A E x y cc (oneE (wd * ht) 77) = E1 at *
  have HS := Lib.hid (And.intro l s)
  obtain ⟨n, hnn⟩ : ∃ n, n = E.length := ⟨_, rfl⟩
  rw [← hnn] at CBL hn ⊢
  have HNN := Lib.hid hnn
  clear hz l s k hnn
  have B : Below W.heap.size W (W.alloc (.cells #[.int .i64 kd, .int .i64 A.x0, .int .i64 A.y0, .int .i64 A.x1, .int .i64 A.y1, .slice Am n mc, .int .i64 B0.x0, .int .i64 B0.y0, .int .i64 B0.x1, .int .i64 B0.y1, .int .i64 x, .int .i64 y, .int .i64 cc] 37)) := below_a1 _ _
  have K := Blk.new W 37 #[.int .i64 kd, .int .i64 A.x0, .int .i64 A.y0, .int .i64 A.x1, .int .i64 A.y1, .slice Am n mc, .int .i64 B0.x0, .int .i64 B0.y0, .int .i64 B0.x1, .int .i64 B0.y1, .int .i64 x, .int .i64 y, .int .i64 cc]
  have t0 := K.cell 0; have t1 := K.cell 1; have t2 := K.cell 2; have t3 := K.cell 3; have t4 := K.cell 4; have t5 := K.cell 5; have t6 := K.cell 6; have t7 := K.cell 7; have t8 := K.cell 8; have t9 := K.cell 9; have t10 := K.cell 10; have t11 := K.cell 11; have t12 := K.cell 12; have tl := K.lt; simp only [List.getElem?_toArray, List.getElem?_cons_succ, List.getElem?_cons_zero] at t0 t1 t2 t3 t4 t5 t6 t7 t8 t9 t10 t11 t12
  go_enter Try.func4, Try.ntmps4
  go_wp2_with (first | (go_at_call 10; ((with_reducible refine (cnnew_ok wd ht 77 _ hmay).mono ?_); rintro e w1 ⟨q, g, rfl, X1, hq, hg, b1⟩; have B := B.trans (b1.mono B.size); have K := K.below b1; have t0 := K.cell 0; have t1 := K.cell 1; have t2 := K.cell 2; have t3 := K.cell 3; have t4 := K.cell 4; have t5 := K.cell 5; have t6 := K.cell 6; have t7 := K.cell 7; have t8 := K.cell 8; have t9 := K.cell 9; have t10 := K.cell 10; have t11 := K.cell 11; have t12 := K.cell 12; have tl := K.lt; simp only [List.getElem?_toArray, List.getElem?_cons_succ, List.getElem?_cons_zero] at t0 t1 t2 t3 t4 t5 t6 t7 t8 t9 t10 t11 t12)) | (go_at_call 9; ((with_reducible refine (CL _).mono ?_); rintro e w2 ⟨rfl, b2⟩; have B := B.trans (b2.mono B.size); have K := K.below b2; have t0 := K.cell 0; have t1 := K.cell 1; have t2 := K.cell 2; have t3 := K.cell 3; have t4 := K.cell 4; have t5 := K.cell 5; have t6 := K.cell 6; have t7 := K.cell 7; have t8 := K.cell 8; have t9 := K.cell 9; have t10 := K.cell 10; have t11 := K.cell 11; have t12 := K.cell 12; have tl := K.lt; simp only [List.getElem?_toArray, List.getElem?_cons_succ, List.getElem?_cons_zero] at t0 t1 t2 t3 t4 t5 t6 t7 t8 t9 t10 t11 t12; have X2 := X1.below b2; have HX2 := Lib.hid X2; have HB2 := Lib.hid B)) | (go_at_call 18; ((with_reducible refine (CBL q g w2 X2 B (by have := X1.row.lt; omega)).mono ?_); rintro e w3 ⟨rfl, X3, o3⟩; have B3 := HB2.out.trans (o3.to_below HB2.out.size (by simp; have := hg; omega)); have K := K.only o3 (by simp; have := hg; simp only [World.size_alloc] at this; omega); have hlt5 := K.lt; have J := Blk.new w3 32 #[.int .i64 0, .int .i64 0, .int .i64 0, .int .i64 0]; have HJ := Lib.hid J; have J := blk_row J (qV R); have HJ1 := Lib.hid J; have b4 : Below w3.heap.size w3 ((w3.alloc (.cells #[.int .i64 0, .int .i64 0, .int .i64 0, .int .i64 0] 32)).setRow w3.heap.size (qV R)) := below_setRow (below_a1 w3 _) (Nat.le_refl _) _; have K := K.below b4; have t0 := K.cell 0; have t1 := K.cell 1; have t2 := K.cell 2; have t3 := K.cell 3; have t4 := K.cell 4; have t5 := K.cell 5; have t6 := K.cell 6; have t7 := K.cell 7; have t8 := K.cell 8; have t9 := K.cell 9; have t10 := K.cell 10; have t11 := K.cell 11; have t12 := K.cell 12; have tl := K.lt; simp only [List.getElem?_toArray, List.getElem?_cons_succ, List.getElem?_cons_zero] at t0 t1 t2 t3 t4 t5 t6 t7 t8 t9 t10 t11 t12; have X4 := X3.below b4; have B4 := B3.trans (b4.mono B3.size); have HX4 := Lib.hid X4; have HB4 := Lib.hid B4; have HK4 := Lib.hid K; have HJ4 := Lib.hid J; have hp9 : w3.heap.size ≤ w3.heap.size := Nat.le_refl _)) | (refine wpList_store_row rfl 32 (.tmp 9) (.tmp 63) (by with_reducible rfl) w3.heap.size (qV R) (by rfl) (by rfl) 32 #[.int .i64 0, .int .i64 0, .int .i64 0, .int .i64 0] (by exact HJ.out) (bxInfoF R) rfl (by simp [qV, Value.oneCell']) ?_))
  have HX := HX4
  have HB := HB4
  have HK := HK4
  have HJ := HJ4
  obtain ⟨V, hV⟩ : ∃ V, V = ((w3.alloc (.cells #[.int .i64 0, .int .i64 0, .int .i64 0, .int .i64 0] 32)).setRow w3.heap.size (qV R)) := ⟨_, rfl⟩
  rw [← hV] at HX HB HK HJ ⊢
  clear hV
  go_wp2
  go_loopw [11, 12, 13] (fun yy _ _ wr => ∃ j : Nat, j ≤ ht ∧ yy = .int .i64 (j : Nat) ∧ Below V.heap.size V wr) (fun yy _ _ _ => ht - (intOf yy).toNat)
  case atStart => exact ⟨0, Nat.zero_le _, rfl, Below.refl _ _⟩
  case round =>
    obtain ⟨j, hj, rfl, hbj⟩ := hrel
    have HBj := Lib.hid hbj
    clear hbj
    by_cases hjl : j < ht
    · go_wp2
      go_loopw [12, 13] (fun xx _ wr2 => ∃ i : Nat, i ≤ wd ∧ xx = .int .i64 (i : Nat) ∧ Below V.heap.size V wr2) (fun xx _ _ => wd - (intOf xx).toNat)
      case atStart => exact ⟨0, Nat.zero_le _, rfl, HBj.out⟩
      case round =>
        obtain ⟨i, hi, rfl, hbi⟩ := hrel
        by_cases hil : i < wd
        · have HBi := Lib.hid hbi
          have K := HK.out.below hbi; have J := HJ.out.below hbi; have t0 := K.cell 0; have t1 := K.cell 1; have t2 := K.cell 2; have t3 := K.cell 3; have t4 := K.cell 4; have t5 := K.cell 5; have t6 := K.cell 6; have t7 := K.cell 7; have t8 := K.cell 8; have t9 := K.cell 9; have t10 := K.cell 10; have t11 := K.cell 11; have t12 := K.cell 12; have tl := K.lt; simp only [List.getElem?_toArray, List.getElem?_cons_succ, List.getElem?_cons_zero] at t0 t1 t2 t3 t4 t5 t6 t7 t8 t9 t10 t11 t12; have j0 : wr.cell? ⟨w3.heap.size, 0, none⟩ = some (.int .i64 R.x0) := (J.cell 0).trans rfl; have j1 : wr.cell? ⟨w3.heap.size, 1, none⟩ = some (.int .i64 R.y0) := (J.cell 1).trans rfl; have j2 : wr.cell? ⟨w3.heap.size, 2, none⟩ = some (.int .i64 R.x1) := (J.cell 2).trans rfl; have j3 : wr.cell? ⟨w3.heap.size, 3, none⟩ = some (.int .i64 R.y1) := (J.cell 3).trans rfl; have jl := J.lt
          have b8 := Below.refl wr.heap.size wr
          clear hbi K J
          cases hq : inQ R i j
          · have CA : ∀ (U : World) (hU : CnV U q g wd ht E1), Calls Try.prog 16 #[.pointer (some ⟨q, 0, none⟩), .int .i64 (i : Nat), .int .i64 (j : Nat)] U fun e w' => e = .returned (.int .i64 77) ∧ Below U.heap.size U w' := fun U hU => by have := cnat_any q g wd ht E1 (i : Nat) (j : Nat) U hU; rw [(HPX.out i j hil hjl).1 hq] at this; exact this
            have hcs := inQ_no hq
            clear hq
            rcases hcs with g1 | ⟨g1, g2⟩ | ⟨g1, g2, g3⟩ | ⟨g1, g2, g3, g4⟩
            · go_wp2_with (first | (go_at_call 16; ((with_reducible refine (CA _ (HX.out.below (HBi.out.trans (b8.mono HBi.out.size)))).mono ?_); rintro e w9 ⟨rfl, b9⟩; have b8 := b8.trans (b9.mono b8.size))))
              go_roundw
              case rel => exact ⟨i + 1, by omega, by go_num, HBi.out.trans (b8.mono HBi.out.size)⟩
              case measure => simp [intOf]; omega
            · go_wp2_with (first | (go_at_call 16; ((with_reducible refine (CA _ (HX.out.below (HBi.out.trans (b8.mono HBi.out.size)))).mono ?_); rintro e w9 ⟨rfl, b9⟩; have b8 := b8.trans (b9.mono b8.size))))
              go_roundw
              case rel => exact ⟨i + 1, by omega, by go_num, HBi.out.trans (b8.mono HBi.out.size)⟩
              case measure => simp [intOf]; omega
            · go_wp2_with (first | (go_at_call 16; ((with_reducible refine (CA _ (HX.out.below (HBi.out.trans (b8.mono HBi.out.size)))).mono ?_); rintro e w9 ⟨rfl, b9⟩; have b8 := b8.trans (b9.mono b8.size))))
              go_roundw
              case rel => exact ⟨i + 1, by omega, by go_num, HBi.out.trans (b8.mono HBi.out.size)⟩
              case measure => simp [intOf]; omega
            · go_wp2_with (first | (go_at_call 16; ((with_reducible refine (CA _ (HX.out.below (HBi.out.trans (b8.mono HBi.out.size)))).mono ?_); rintro e w9 ⟨rfl, b9⟩; have b8 := b8.trans (b9.mono b8.size))))
              go_roundw
              case rel => exact ⟨i + 1, by omega, by go_num, HBi.out.trans (b8.mono HBi.out.size)⟩
              case measure => simp [intOf]; omega
          · obtain ⟨hk, hin, e1, e2, hv⟩ := (HPX.out i j hil hjl).2 hq
            have hcs := inQ_yes hq
            obtain ⟨g1, g2, g3, g4⟩ := hcs
            have CR := fun (U : World) (hU : Below W.heap.size W U) => rat23_any A Am mc E (i - x) (j - y) U ((HS.out.1.below hU).more hU.size) HS.out.2 hk hin
            rw [← HNN.out] at CR
            by_cases hu : ub (E.getD (ixM A (i - x) (j - y)) (.int .u8 0)) = 0
            · rw [hu] at CR
              have CA : ∀ (U : World) (hU : CnV U q g wd ht E1), Calls Try.prog 16 #[.pointer (some ⟨q, 0, none⟩), .int .i64 (i : Nat), .int .i64 (j : Nat)] U fun e w' => e = .returned (.int .i64 77) ∧ Below U.heap.size U w' := fun U hU => by have := cnat_any q g wd ht E1 (i : Nat) (j : Nat) U hU; rw [hv hu] at this; exact this
              clear hk hin hv hq hu
              go_wp2_with (first | (go_at_call 16; ((with_reducible refine (CA _ (HX.out.below (HBi.out.trans (b8.mono HBi.out.size)))).mono ?_); rintro e w9 ⟨rfl, b9⟩; have b8 := b8.trans (b9.mono b8.size))) | (go_at_call 19; ((with_reducible refine (CR _ (HB.out.trans ((HBi.out.trans (b8.mono HBi.out.size)).mono HB.out.size))).mono ?_); rintro e w9 ⟨rfl, b9⟩; have b8 := b8.trans (b9.mono b8.size))))
              go_roundw
              case rel => exact ⟨i + 1, by omega, by go_num, HBi.out.trans (b8.mono HBi.out.size)⟩
              case measure => simp [intOf]; omega
            · have d1 : (ub (E.getD (ixM A (i - x) (j - y)) (.int .u8 0)) == 0) = false := by simpa using hu
              generalize ub (E.getD (ixM A (i - x) (j - y)) (.int .u8 0)) = u at *
              clear hk hin hv hq hu
              go_wp2_with (first | (go_at_call 19; ((with_reducible refine (CR _ (HB.out.trans ((HBi.out.trans (b8.mono HBi.out.size)).mono HB.out.size))).mono ?_); rintro e w9 ⟨rfl, b9⟩; have b8 := b8.trans (b9.mono b8.size))))
              go_roundw
              case rel => exact ⟨i + 1, by omega, by go_num, HBi.out.trans (b8.mono HBi.out.size)⟩
              case measure => simp [intOf]; omega
        · obtain rfl : i = wd := by omega
          have HBi := Lib.hid hbi
          clear hbi
          go_wp2
          go_roundw
          case rel => exact ⟨j + 1, by omega, by go_num, HBi.out⟩
          case measure => simp [intOf]; omega
    · obtain rfl : j = ht := by omega
      go_wp2
      go_ret
      exact ⟨rfl, HB.out.trans (HBj.out.mono HB.out.size)⟩
set_option maxRecDepth 100000 in
set_option maxHeartbeats 4000000 in
theorem in_n (wd ht : Nat) (hd : 1 ≤ wd ∧ 1 ≤ ht) (hd2 : wd ≤ 200 ∧ ht ≤ 200) (kd : Int) (A : Q) (Am : Option Addr) (mc : Nat) (E : List Value) (B0 : Q) (x y cc : Int) (k : E.length ≤ mc) (m : mc ≤ 9223372036854775807) (l : Lists W W.heap.size Am E) (s : Bytes8 E) (hn : E.length ≤ 16384) (hz : blCode A E.length x y cc ≠ 0) : Calls Try.prog 4 #[.int .i64 (wd : Nat), .int .i64 (ht : Nat), .agg #[.int .i64 kd, .int .i64 A.x0, .int .i64 A.y0, .int .i64 A.x1, .int .i64 A.y1, .slice Am E.length mc, .int .i64 B0.x0, .int .i64 B0.y0, .int .i64 B0.x1, .int .i64 B0.y1, .int .i64 x, .int .i64 y, .int .i64 cc]] W fun e w' => e = .returned (.bool true) ∧ Below W.heap.size W w' := by
  have CL := fun W => lives26 W
  have CBL := fun q g (V : World) (hX : CnV V q g wd ht (oneE (wd * ht) 77)) (hB : Below W.heap.size W V) (hg : W.heap.size < g) => cnblend_all q g wd ht mc (oneE (wd * ht) 77) A Am E x y cc V hX ((l.below hB).more hB.size) s k (fun a ha hn => by have := l.lt a ha hn; omega)
  have hmay : mayCn wd ht 77 = true := by unfold mayCn inZ; simp; omega
  have px := px_ok wd ht hd hd2 A E x y cc
  have cdn : (blCode A E.length x y cc != 0) = true := by simpa using hz
  have hR0 : blBox wd ht A E.length x y cc = zeroQ := by unfold blBox; rw [if_neg hz]
  rw [hR0] at px; clear hR0
  have HPX := Lib.hid px
  clear px
  generalize blCode A E.length x y cc = cd at *
  generalize blBox wd ht A E.length x y cc = R at *
  generalize blAll wd ht A E x y cc (oneE (wd * ht) 77) = E1 at *
  have HS := Lib.hid (And.intro l s)
  obtain ⟨n, hnn⟩ : ∃ n, n = E.length := ⟨_, rfl⟩
  rw [← hnn] at CBL hn ⊢
  have HNN := Lib.hid hnn
  clear hz l s k hnn
  have B : Below W.heap.size W (W.alloc (.cells #[.int .i64 kd, .int .i64 A.x0, .int .i64 A.y0, .int .i64 A.x1, .int .i64 A.y1, .slice Am n mc, .int .i64 B0.x0, .int .i64 B0.y0, .int .i64 B0.x1, .int .i64 B0.y1, .int .i64 x, .int .i64 y, .int .i64 cc] 37)) := below_a1 _ _
  have K := Blk.new W 37 #[.int .i64 kd, .int .i64 A.x0, .int .i64 A.y0, .int .i64 A.x1, .int .i64 A.y1, .slice Am n mc, .int .i64 B0.x0, .int .i64 B0.y0, .int .i64 B0.x1, .int .i64 B0.y1, .int .i64 x, .int .i64 y, .int .i64 cc]
  have t0 := K.cell 0; have t1 := K.cell 1; have t2 := K.cell 2; have t3 := K.cell 3; have t4 := K.cell 4; have t5 := K.cell 5; have t6 := K.cell 6; have t7 := K.cell 7; have t8 := K.cell 8; have t9 := K.cell 9; have t10 := K.cell 10; have t11 := K.cell 11; have t12 := K.cell 12; have tl := K.lt; simp only [List.getElem?_toArray, List.getElem?_cons_succ, List.getElem?_cons_zero] at t0 t1 t2 t3 t4 t5 t6 t7 t8 t9 t10 t11 t12
  go_enter Try.func4, Try.ntmps4
  go_wp2_with (first | (go_at_call 10; ((with_reducible refine (cnnew_ok wd ht 77 _ hmay).mono ?_); rintro e w1 ⟨q, g, rfl, X1, hq, hg, b1⟩; have B := B.trans (b1.mono B.size); have K := K.below b1; have t0 := K.cell 0; have t1 := K.cell 1; have t2 := K.cell 2; have t3 := K.cell 3; have t4 := K.cell 4; have t5 := K.cell 5; have t6 := K.cell 6; have t7 := K.cell 7; have t8 := K.cell 8; have t9 := K.cell 9; have t10 := K.cell 10; have t11 := K.cell 11; have t12 := K.cell 12; have tl := K.lt; simp only [List.getElem?_toArray, List.getElem?_cons_succ, List.getElem?_cons_zero] at t0 t1 t2 t3 t4 t5 t6 t7 t8 t9 t10 t11 t12)) | (go_at_call 9; ((with_reducible refine (CL _).mono ?_); rintro e w2 ⟨rfl, b2⟩; have B := B.trans (b2.mono B.size); have K := K.below b2; have t0 := K.cell 0; have t1 := K.cell 1; have t2 := K.cell 2; have t3 := K.cell 3; have t4 := K.cell 4; have t5 := K.cell 5; have t6 := K.cell 6; have t7 := K.cell 7; have t8 := K.cell 8; have t9 := K.cell 9; have t10 := K.cell 10; have t11 := K.cell 11; have t12 := K.cell 12; have tl := K.lt; simp only [List.getElem?_toArray, List.getElem?_cons_succ, List.getElem?_cons_zero] at t0 t1 t2 t3 t4 t5 t6 t7 t8 t9 t10 t11 t12; have X2 := X1.below b2; have HX2 := Lib.hid X2; have HB2 := Lib.hid B)) | (go_at_call 18; ((with_reducible refine (CBL q g w2 X2 B (by have := X1.row.lt; omega)).mono ?_); rintro e w3 ⟨rfl, X3, o3⟩; have B3 := HB2.out.trans (o3.to_below HB2.out.size (by simp; have := hg; omega)); have K := K.only o3 (by simp; have := hg; simp only [World.size_alloc] at this; omega); have hlt5 := K.lt; have J := Blk.new w3 32 #[.int .i64 0, .int .i64 0, .int .i64 0, .int .i64 0]; have HJ := Lib.hid J; have J := blk_row J (qV R); have HJ1 := Lib.hid J; have b4 : Below w3.heap.size w3 ((w3.alloc (.cells #[.int .i64 0, .int .i64 0, .int .i64 0, .int .i64 0] 32)).setRow w3.heap.size (qV R)) := below_setRow (below_a1 w3 _) (Nat.le_refl _) _; have K := K.below b4; have t0 := K.cell 0; have t1 := K.cell 1; have t2 := K.cell 2; have t3 := K.cell 3; have t4 := K.cell 4; have t5 := K.cell 5; have t6 := K.cell 6; have t7 := K.cell 7; have t8 := K.cell 8; have t9 := K.cell 9; have t10 := K.cell 10; have t11 := K.cell 11; have t12 := K.cell 12; have tl := K.lt; simp only [List.getElem?_toArray, List.getElem?_cons_succ, List.getElem?_cons_zero] at t0 t1 t2 t3 t4 t5 t6 t7 t8 t9 t10 t11 t12; have X4 := X3.below b4; have B4 := B3.trans (b4.mono B3.size); have HX4 := Lib.hid X4; have HB4 := Lib.hid B4; have HK4 := Lib.hid K; have HJ4 := Lib.hid J; have hp9 : w3.heap.size ≤ w3.heap.size := Nat.le_refl _)) | (refine wpList_store_row rfl 32 (.tmp 9) (.tmp 63) (by with_reducible rfl) w3.heap.size (qV R) (by rfl) (by rfl) 32 #[.int .i64 0, .int .i64 0, .int .i64 0, .int .i64 0] (by exact HJ.out) (bxInfoF R) rfl (by simp [qV, Value.oneCell']) ?_) | (refine wpList_store_row rfl 32 (.tmp 9) (.tmp 67) (by with_reducible rfl) w3.heap.size #[.int .i64 0, .int .i64 0, .int .i64 0, .int .i64 0] (by rfl) (by rfl) 32 (qV R) (by exact HJ1.out) (by kernel_rfl) rfl (by simp [Value.oneCell']) ?_))
  have o5 := only_row (g := w3.heap.size) (Only.refl ((w3.alloc (.cells #[.int .i64 0, .int .i64 0, .int .i64 0, .int .i64 0] 32)).setRow w3.heap.size (qV R)) [w3.heap.size]) (.inl (by simp)) #[.int .i64 0, .int .i64 0, .int .i64 0, .int .i64 0]
  have HX := Lib.hid (HX4.out.only o5 (by simp; have := X3.blk.lt; omega) (by simp; have := X3.row.lt; omega))
  have HK := Lib.hid (HK4.out.only o5 (by simp; omega))
  have HJ := Lib.hid (blk_row HJ4.out #[.int .i64 0, .int .i64 0, .int .i64 0, .int .i64 0])
  have HB := Lib.hid (below_setRow (g := w3.heap.size) HB4.out B3.size #[.int .i64 0, .int .i64 0, .int .i64 0, .int .i64 0])
  obtain ⟨V, hV⟩ : ∃ V, V = (((w3.alloc (.cells #[.int .i64 0, .int .i64 0, .int .i64 0, .int .i64 0] 32)).setRow w3.heap.size (qV R)).setRow w3.heap.size #[.int .i64 0, .int .i64 0, .int .i64 0, .int .i64 0]) := ⟨_, rfl⟩
  rw [← hV] at HX HB HK HJ ⊢
  clear hV o5
  go_wp2
  go_loopw [11, 12, 13] (fun yy _ _ wr => ∃ j : Nat, j ≤ ht ∧ yy = .int .i64 (j : Nat) ∧ Below V.heap.size V wr) (fun yy _ _ _ => ht - (intOf yy).toNat)
  case atStart => exact ⟨0, Nat.zero_le _, rfl, Below.refl _ _⟩
  case round =>
    obtain ⟨j, hj, rfl, hbj⟩ := hrel
    have HBj := Lib.hid hbj
    clear hbj
    by_cases hjl : j < ht
    · go_wp2
      go_loopw [12, 13] (fun xx _ wr2 => ∃ i : Nat, i ≤ wd ∧ xx = .int .i64 (i : Nat) ∧ Below V.heap.size V wr2) (fun xx _ _ => wd - (intOf xx).toNat)
      case atStart => exact ⟨0, Nat.zero_le _, rfl, HBj.out⟩
      case round =>
        obtain ⟨i, hi, rfl, hbi⟩ := hrel
        by_cases hil : i < wd
        · have HBi := Lib.hid hbi
          have K := HK.out.below hbi; have J := HJ.out.below hbi; have t0 := K.cell 0; have t1 := K.cell 1; have t2 := K.cell 2; have t3 := K.cell 3; have t4 := K.cell 4; have t5 := K.cell 5; have t6 := K.cell 6; have t7 := K.cell 7; have t8 := K.cell 8; have t9 := K.cell 9; have t10 := K.cell 10; have t11 := K.cell 11; have t12 := K.cell 12; have tl := K.lt; simp only [List.getElem?_toArray, List.getElem?_cons_succ, List.getElem?_cons_zero] at t0 t1 t2 t3 t4 t5 t6 t7 t8 t9 t10 t11 t12; have j0 : wr.cell? ⟨w3.heap.size, 0, none⟩ = some (.int .i64 0) := (J.cell 0).trans rfl; have j1 : wr.cell? ⟨w3.heap.size, 1, none⟩ = some (.int .i64 0) := (J.cell 1).trans rfl; have j2 : wr.cell? ⟨w3.heap.size, 2, none⟩ = some (.int .i64 0) := (J.cell 2).trans rfl; have j3 : wr.cell? ⟨w3.heap.size, 3, none⟩ = some (.int .i64 0) := (J.cell 3).trans rfl; have jl := J.lt
          have b8 := Below.refl wr.heap.size wr
          clear hbi K J
          have hq : inQ zeroQ i j = false := inQ_zero i j
          have CA : ∀ (U : World) (hU : CnV U q g wd ht E1), Calls Try.prog 16 #[.pointer (some ⟨q, 0, none⟩), .int .i64 (i : Nat), .int .i64 (j : Nat)] U fun e w' => e = .returned (.int .i64 77) ∧ Below U.heap.size U w' := fun U hU => by have := cnat_any q g wd ht E1 (i : Nat) (j : Nat) U hU; rw [(HPX.out i j hil hjl).1 hq] at this; exact this
          clear hq
          have g1 : (0 : Int) ≤ (i : Int) := by omega
          have g2 : ¬ (i : Int) < 0 := by omega
          go_wp2_with (first | (go_at_call 16; ((with_reducible refine (CA _ (HX.out.below (HBi.out.trans (b8.mono HBi.out.size)))).mono ?_); rintro e w9 ⟨rfl, b9⟩; have b8 := b8.trans (b9.mono b8.size))))
          go_roundw
          case rel => exact ⟨i + 1, by omega, by go_num, HBi.out.trans (b8.mono HBi.out.size)⟩
          case measure => simp [intOf]; omega
        · obtain rfl : i = wd := by omega
          have HBi := Lib.hid hbi
          clear hbi
          go_wp2
          go_roundw
          case rel => exact ⟨j + 1, by omega, by go_num, HBi.out⟩
          case measure => simp [intOf]; omega
    · obtain rfl : j = ht := by omega
      go_wp2
      go_ret
      exact ⟨rfl, HB.out.trans (HBj.out.mono HB.out.size)⟩
theorem walk (a : Int) (_ : (Lit.int .i64 a).wf = true) (b : Int) (_ : (Lit.int .i64 b).wf = true) (kd : Int) (A : Q) (Am : Option Addr) (mc : Nat) (E : List Value) (B0 : Q) (x y cc : Int) (k : E.length ≤ mc) (m : mc ≤ 9223372036854775807) (l : Lists W W.heap.size Am E) (s : Bytes8 E) : Calls Try.prog 4 #[.int .i64 a, .int .i64 b, .agg #[.int .i64 kd, .int .i64 A.x0, .int .i64 A.y0, .int .i64 A.x1, .int .i64 A.y1, .slice Am E.length mc, .int .i64 B0.x0, .int .i64 B0.y0, .int .i64 B0.x1, .int .i64 B0.y1, .int .i64 x, .int .i64 y, .int .i64 cc]] W fun e w' => e = .returned (.bool true) ∧ Below W.heap.size W w' := by
  by_cases h0 : a < 1
  · exact out_0 a b kd A Am mc E B0 x y cc k m l s h0
  · by_cases h1 : 200 < a
    · exact out_1 a b kd A Am mc E B0 x y cc k m l s (by omega) h1
    · by_cases h2 : b < 1
      · exact out_2 a b kd A Am mc E B0 x y cc k m l s (by omega) (by omega) h2
      · by_cases h3 : 200 < b
        · exact out_3 a b kd A Am mc E B0 x y cc k m l s (by omega) (by omega) (by omega) h3
        · by_cases h4 : 16384 < E.length
          · exact out_4 a b kd A Am mc E B0 x y cc k m l s (by omega) (by omega) (by omega) (by omega) h4
          · obtain ⟨wd, rfl⟩ : ∃ wd : Nat, a = wd := ⟨a.toNat, by omega⟩
            obtain ⟨ht, rfl⟩ : ∃ ht : Nat, b = ht := ⟨b.toNat, by omega⟩
            by_cases hz : blCode A E.length x y cc = 0
            · exact in_z wd ht (by omega) (by omega) kd A Am mc E B0 x y cc k m l s (by omega) hz
            · exact in_n wd ht (by omega) (by omega) kd A Am mc E B0 x y cc k m l s (by omega) hz

set_option linter.unusedVariables false in
set_option maxRecDepth 100000 in
theorem lifted (os : Os) (started : os.Started) (H : Type) (enc : TypeId × Value → H) :
    ReturnsInHanded {} Try.checked os 4 .any (Rows.canvasStaysSpec.pre6 enc Try.prog Try.f4 Rows.canvasStaysRow.domain false) (Rows.canvasStaysSpec.post enc Try.prog Try.f4 false true false false) := by
  refine returnsInHanded_of_change (C := Try.checked) Try.own started (by kernel_rfl) Try.func4
    (ChangeSpec.witness6 (enc := enc) (C := Try.checked) false ⟨#[], #[.int .i64 0, .int .i64 0, .agg #[.int .i64 0, .int .i64 0, .int .i64 0, .int .i64 0, .int .i64 0, .slice none 0 0, .int .i64 0, .int .i64 0, .int .i64 0, .int .i64 0, .int .i64 0, .int .i64 0, .int .i64 0]], []⟩ 8 (by kernel_rfl) (by kernel_rfl) (by kernel_rfl) (by kernel_rfl)) ?_
  intro W base args ds gs before hval0 hW hcnd _
  have hval : ∀ (j : Nat) t v, Try.f4.params[j]? = some t → args[j]? = some v → Value.okWide Try.prog W .any base t v := hval0
  have hW' := hW
  obtain ⟨p, q, hA0, hV, rfl, hfz, hnd⟩ := hW
  have hA : DataW.TrodAll enc Try.prog W 0 (fun _ => true) true Try.f4.params.toList args.toList ds p := hA0
  rw [Try.params4] at hA hval
  obtain ⟨v0, vs0, d0, ds0, p0, q0, hargs, rfl, rfl, h0, r0⟩ := trodAll_cons hA
  obtain ⟨v1, vs1, d1, ds1, p1, q1, rfl, rfl, rfl, h1, r1⟩ := trodAll_cons r0
  obtain ⟨v2, vs2, d2, ds2, p2, q2, rfl, rfl, rfl, h2, r2⟩ := trodAll_cons r1
  obtain ⟨rfl, rfl, rfl⟩ := trodAll_nil r2
  obtain rfl : args = #[v0, v1, v2] := by cases args; simp_all
  obtain ⟨rfl, rfl⟩ := trodVars_none hV
  obtain ⟨a0, rfl, rfl, rfl, w0⟩ := open_int Try.underlying3 (hval 0 3 v0 rfl rfl) h0
  obtain ⟨a1, rfl, rfl, rfl, w1⟩ := open_int Try.underlying3 (hval 1 3 v1 rfl rfl) h1
  obtain ⟨kd2, A2, Am2, mc2, E2, B2, x2, y2, cc2, rfl, k2, m2, l2, s2⟩ := open_call (hval 2 37 v2 rfl rfl) h2
  clear hA0 hval0
  simp only [List.append_nil] at hW'
  refine (walk (W := W) a0 w0 a1 w1 kd2 A2 Am2 mc2 E2 B2 x2 y2 cc2 k2 m2 l2 s2).mono fun e W' ⟨he, hg⟩ => ?_
  subst he
  exact ⟨_, rfl, law_post Try.laidOut rfl Try.underlying4 (by kernel_rfl) rfl rfl rfl rfl hW' hg⟩

theorem over : Rows.canvasStaysRow.holds Try.pinned (OpenSpec.ofChange Rows.canvasStaysSpec) :=
  OpenClaim.holds_of_wide 4 Try.f4 rfl rfl rfl rfl rfl rfl rfl ⟨rfl, rfl, rfl, rfl, rfl⟩ rfl rfl rfl rfl rfl (by kernel_rfl) Try.func4 (by kernel_rfl)
    (of_decide_eq_true (by kernel_rfl)) (by unfold Func.isWrapper; first | (rw [if_pos (by decide +kernel)]; kernel_rfl) | (rw [if_neg (by decide +kernel)]; exact ⟨rfl, rfl⟩))
    (fun os started H enc _ => lifted os started H enc)

theorem proved : Rows.CanvasStaysSaid :=
  over

end Go.Proofs.Ytlbbigehjdnjmaa.canvasStays
