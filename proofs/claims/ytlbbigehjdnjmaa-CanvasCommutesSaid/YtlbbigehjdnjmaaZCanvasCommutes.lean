/- CanvasCommutes: two masks that have no pixel in common may be put in any order; for every canvas of 100 by 100 pixels at most and every two calls. -/
import Derived.Test.YtlbbigehjdnjmaaCCn9

namespace Go.Proofs.Ytlbbigehjdnjmaa.canvasCommutes
open Go Go.ChangeShapes Go.WideShapes Go.ChangeAt Go.RowKit
set_option linter.unusedVariables false
set_option linter.unusedSimpArgs false

variable {W : World}
set_option maxRecDepth 100000 in
set_option maxHeartbeats 1000000 in
theorem out_0 (a b : Int) (kd0 : Int) (A0 : Q) (Am0 : Option Addr) (mc0 : Nat) (E0 : List Value) (D0 : Q) (x0 y0 cc0 : Int) (k0 : E0.length ≤ mc0) (m0 : mc0 ≤ 9223372036854775807) (l0 : Lists W W.heap.size Am0 E0) (s0 : Bytes8 E0) (kd1 : Int) (A1 : Q) (Am1 : Option Addr) (mc1 : Nat) (E1 : List Value) (D1 : Q) (x1 y1 cc1 : Int) (k1 : E1.length ≤ mc1) (m1 : mc1 ≤ 9223372036854775807) (l1 : Lists W W.heap.size Am1 E1) (s1 : Bytes8 E1) (h0 : a < 1) : Calls Try.prog 7 #[.int .i64 a, .int .i64 b, .agg #[.int .i64 kd0, .int .i64 A0.x0, .int .i64 A0.y0, .int .i64 A0.x1, .int .i64 A0.y1, .slice Am0 E0.length mc0, .int .i64 D0.x0, .int .i64 D0.y0, .int .i64 D0.x1, .int .i64 D0.y1, .int .i64 x0, .int .i64 y0, .int .i64 cc0], .agg #[.int .i64 kd1, .int .i64 A1.x0, .int .i64 A1.y0, .int .i64 A1.x1, .int .i64 A1.y1, .slice Am1 E1.length mc1, .int .i64 D1.x0, .int .i64 D1.y0, .int .i64 D1.x1, .int .i64 D1.y1, .int .i64 x1, .int .i64 y1, .int .i64 cc1]] W fun e w' => e = .returned (.bool true) ∧ Below W.heap.size W w' := by
  have CL := fun W => lives26 W
  generalize E0.length = n0 at *
  generalize E1.length = n1 at *
  have B : Below W.heap.size W ((W.alloc (.cells #[.int .i64 kd0, .int .i64 A0.x0, .int .i64 A0.y0, .int .i64 A0.x1, .int .i64 A0.y1, .slice Am0 n0 mc0, .int .i64 D0.x0, .int .i64 D0.y0, .int .i64 D0.x1, .int .i64 D0.y1, .int .i64 x0, .int .i64 y0, .int .i64 cc0] 37)).alloc (.cells #[.int .i64 kd1, .int .i64 A1.x0, .int .i64 A1.y0, .int .i64 A1.x1, .int .i64 A1.y1, .slice Am1 n1 mc1, .int .i64 D1.x0, .int .i64 D1.y0, .int .i64 D1.x1, .int .i64 D1.y1, .int .i64 x1, .int .i64 y1, .int .i64 cc1] 37)) := below_a2 _ _ _
  have Ka := (Blk.new W 37 #[.int .i64 kd0, .int .i64 A0.x0, .int .i64 A0.y0, .int .i64 A0.x1, .int .i64 A0.y1, .slice Am0 n0 mc0, .int .i64 D0.x0, .int .i64 D0.y0, .int .i64 D0.x1, .int .i64 D0.y1, .int .i64 x0, .int .i64 y0, .int .i64 cc0]).below (below_a1 _ (.cells #[.int .i64 kd1, .int .i64 A1.x0, .int .i64 A1.y0, .int .i64 A1.x1, .int .i64 A1.y1, .slice Am1 n1 mc1, .int .i64 D1.x0, .int .i64 D1.y0, .int .i64 D1.x1, .int .i64 D1.y1, .int .i64 x1, .int .i64 y1, .int .i64 cc1] 37))
  have Kb := Blk.new (W.alloc (.cells #[.int .i64 kd0, .int .i64 A0.x0, .int .i64 A0.y0, .int .i64 A0.x1, .int .i64 A0.y1, .slice Am0 n0 mc0, .int .i64 D0.x0, .int .i64 D0.y0, .int .i64 D0.x1, .int .i64 D0.y1, .int .i64 x0, .int .i64 y0, .int .i64 cc0] 37)) 37 #[.int .i64 kd1, .int .i64 A1.x0, .int .i64 A1.y0, .int .i64 A1.x1, .int .i64 A1.y1, .slice Am1 n1 mc1, .int .i64 D1.x0, .int .i64 D1.y0, .int .i64 D1.x1, .int .i64 D1.y1, .int .i64 x1, .int .i64 y1, .int .i64 cc1]
  rw [World.size_alloc] at Kb
  have a0 := Ka.cell 0; have a1 := Ka.cell 1; have a2 := Ka.cell 2; have a3 := Ka.cell 3; have a4 := Ka.cell 4; have a5 := Ka.cell 5; have a6 := Ka.cell 6; have a7 := Ka.cell 7; have a8 := Ka.cell 8; have a9 := Ka.cell 9; have a10 := Ka.cell 10; have a11 := Ka.cell 11; have a12 := Ka.cell 12; have al := Ka.lt; simp only [List.getElem?_toArray, List.getElem?_cons_succ, List.getElem?_cons_zero] at a0 a1 a2 a3 a4 a5 a6 a7 a8 a9 a10 a11 a12; have b0 := Kb.cell 0; have b1 := Kb.cell 1; have b2 := Kb.cell 2; have b3 := Kb.cell 3; have b4 := Kb.cell 4; have b5 := Kb.cell 5; have b6 := Kb.cell 6; have b7 := Kb.cell 7; have b8 := Kb.cell 8; have b9 := Kb.cell 9; have b10 := Kb.cell 10; have b11 := Kb.cell 11; have b12 := Kb.cell 12; have bl := Kb.lt; simp only [List.getElem?_toArray, List.getElem?_cons_succ, List.getElem?_cons_zero] at b0 b1 b2 b3 b4 b5 b6 b7 b8 b9 b10 b11 b12
  clear k0 l0 s0 k1 l1 s1
  go_enter Try.func7, Try.ntmps7
  go_wp2_with (go_at_call 9; ((with_reducible refine (CL _).mono ?_); rintro e w3 ⟨rfl, b3⟩))
  go_ret
  exact ⟨rfl, B.trans (b3.mono B.size)⟩
set_option maxRecDepth 100000 in
set_option maxHeartbeats 1000000 in
theorem out_1 (a b : Int) (kd0 : Int) (A0 : Q) (Am0 : Option Addr) (mc0 : Nat) (E0 : List Value) (D0 : Q) (x0 y0 cc0 : Int) (k0 : E0.length ≤ mc0) (m0 : mc0 ≤ 9223372036854775807) (l0 : Lists W W.heap.size Am0 E0) (s0 : Bytes8 E0) (kd1 : Int) (A1 : Q) (Am1 : Option Addr) (mc1 : Nat) (E1 : List Value) (D1 : Q) (x1 y1 cc1 : Int) (k1 : E1.length ≤ mc1) (m1 : mc1 ≤ 9223372036854775807) (l1 : Lists W W.heap.size Am1 E1) (s1 : Bytes8 E1) (h0 : 1 ≤ a) (h1 : 100 < a) : Calls Try.prog 7 #[.int .i64 a, .int .i64 b, .agg #[.int .i64 kd0, .int .i64 A0.x0, .int .i64 A0.y0, .int .i64 A0.x1, .int .i64 A0.y1, .slice Am0 E0.length mc0, .int .i64 D0.x0, .int .i64 D0.y0, .int .i64 D0.x1, .int .i64 D0.y1, .int .i64 x0, .int .i64 y0, .int .i64 cc0], .agg #[.int .i64 kd1, .int .i64 A1.x0, .int .i64 A1.y0, .int .i64 A1.x1, .int .i64 A1.y1, .slice Am1 E1.length mc1, .int .i64 D1.x0, .int .i64 D1.y0, .int .i64 D1.x1, .int .i64 D1.y1, .int .i64 x1, .int .i64 y1, .int .i64 cc1]] W fun e w' => e = .returned (.bool true) ∧ Below W.heap.size W w' := by
  have CL := fun W => lives26 W
  generalize E0.length = n0 at *
  generalize E1.length = n1 at *
  have B : Below W.heap.size W ((W.alloc (.cells #[.int .i64 kd0, .int .i64 A0.x0, .int .i64 A0.y0, .int .i64 A0.x1, .int .i64 A0.y1, .slice Am0 n0 mc0, .int .i64 D0.x0, .int .i64 D0.y0, .int .i64 D0.x1, .int .i64 D0.y1, .int .i64 x0, .int .i64 y0, .int .i64 cc0] 37)).alloc (.cells #[.int .i64 kd1, .int .i64 A1.x0, .int .i64 A1.y0, .int .i64 A1.x1, .int .i64 A1.y1, .slice Am1 n1 mc1, .int .i64 D1.x0, .int .i64 D1.y0, .int .i64 D1.x1, .int .i64 D1.y1, .int .i64 x1, .int .i64 y1, .int .i64 cc1] 37)) := below_a2 _ _ _
  have Ka := (Blk.new W 37 #[.int .i64 kd0, .int .i64 A0.x0, .int .i64 A0.y0, .int .i64 A0.x1, .int .i64 A0.y1, .slice Am0 n0 mc0, .int .i64 D0.x0, .int .i64 D0.y0, .int .i64 D0.x1, .int .i64 D0.y1, .int .i64 x0, .int .i64 y0, .int .i64 cc0]).below (below_a1 _ (.cells #[.int .i64 kd1, .int .i64 A1.x0, .int .i64 A1.y0, .int .i64 A1.x1, .int .i64 A1.y1, .slice Am1 n1 mc1, .int .i64 D1.x0, .int .i64 D1.y0, .int .i64 D1.x1, .int .i64 D1.y1, .int .i64 x1, .int .i64 y1, .int .i64 cc1] 37))
  have Kb := Blk.new (W.alloc (.cells #[.int .i64 kd0, .int .i64 A0.x0, .int .i64 A0.y0, .int .i64 A0.x1, .int .i64 A0.y1, .slice Am0 n0 mc0, .int .i64 D0.x0, .int .i64 D0.y0, .int .i64 D0.x1, .int .i64 D0.y1, .int .i64 x0, .int .i64 y0, .int .i64 cc0] 37)) 37 #[.int .i64 kd1, .int .i64 A1.x0, .int .i64 A1.y0, .int .i64 A1.x1, .int .i64 A1.y1, .slice Am1 n1 mc1, .int .i64 D1.x0, .int .i64 D1.y0, .int .i64 D1.x1, .int .i64 D1.y1, .int .i64 x1, .int .i64 y1, .int .i64 cc1]
  rw [World.size_alloc] at Kb
  have a0 := Ka.cell 0; have a1 := Ka.cell 1; have a2 := Ka.cell 2; have a3 := Ka.cell 3; have a4 := Ka.cell 4; have a5 := Ka.cell 5; have a6 := Ka.cell 6; have a7 := Ka.cell 7; have a8 := Ka.cell 8; have a9 := Ka.cell 9; have a10 := Ka.cell 10; have a11 := Ka.cell 11; have a12 := Ka.cell 12; have al := Ka.lt; simp only [List.getElem?_toArray, List.getElem?_cons_succ, List.getElem?_cons_zero] at a0 a1 a2 a3 a4 a5 a6 a7 a8 a9 a10 a11 a12; have b0 := Kb.cell 0; have b1 := Kb.cell 1; have b2 := Kb.cell 2; have b3 := Kb.cell 3; have b4 := Kb.cell 4; have b5 := Kb.cell 5; have b6 := Kb.cell 6; have b7 := Kb.cell 7; have b8 := Kb.cell 8; have b9 := Kb.cell 9; have b10 := Kb.cell 10; have b11 := Kb.cell 11; have b12 := Kb.cell 12; have bl := Kb.lt; simp only [List.getElem?_toArray, List.getElem?_cons_succ, List.getElem?_cons_zero] at b0 b1 b2 b3 b4 b5 b6 b7 b8 b9 b10 b11 b12
  clear k0 l0 s0 k1 l1 s1
  go_enter Try.func7, Try.ntmps7
  go_wp2_with (go_at_call 9; ((with_reducible refine (CL _).mono ?_); rintro e w3 ⟨rfl, b3⟩))
  go_ret
  exact ⟨rfl, B.trans (b3.mono B.size)⟩
set_option maxRecDepth 100000 in
set_option maxHeartbeats 1000000 in
theorem out_2 (a b : Int) (kd0 : Int) (A0 : Q) (Am0 : Option Addr) (mc0 : Nat) (E0 : List Value) (D0 : Q) (x0 y0 cc0 : Int) (k0 : E0.length ≤ mc0) (m0 : mc0 ≤ 9223372036854775807) (l0 : Lists W W.heap.size Am0 E0) (s0 : Bytes8 E0) (kd1 : Int) (A1 : Q) (Am1 : Option Addr) (mc1 : Nat) (E1 : List Value) (D1 : Q) (x1 y1 cc1 : Int) (k1 : E1.length ≤ mc1) (m1 : mc1 ≤ 9223372036854775807) (l1 : Lists W W.heap.size Am1 E1) (s1 : Bytes8 E1) (h0 : 1 ≤ a) (h1 : a ≤ 100) (h2 : b < 1) : Calls Try.prog 7 #[.int .i64 a, .int .i64 b, .agg #[.int .i64 kd0, .int .i64 A0.x0, .int .i64 A0.y0, .int .i64 A0.x1, .int .i64 A0.y1, .slice Am0 E0.length mc0, .int .i64 D0.x0, .int .i64 D0.y0, .int .i64 D0.x1, .int .i64 D0.y1, .int .i64 x0, .int .i64 y0, .int .i64 cc0], .agg #[.int .i64 kd1, .int .i64 A1.x0, .int .i64 A1.y0, .int .i64 A1.x1, .int .i64 A1.y1, .slice Am1 E1.length mc1, .int .i64 D1.x0, .int .i64 D1.y0, .int .i64 D1.x1, .int .i64 D1.y1, .int .i64 x1, .int .i64 y1, .int .i64 cc1]] W fun e w' => e = .returned (.bool true) ∧ Below W.heap.size W w' := by
  have CL := fun W => lives26 W
  generalize E0.length = n0 at *
  generalize E1.length = n1 at *
  have B : Below W.heap.size W ((W.alloc (.cells #[.int .i64 kd0, .int .i64 A0.x0, .int .i64 A0.y0, .int .i64 A0.x1, .int .i64 A0.y1, .slice Am0 n0 mc0, .int .i64 D0.x0, .int .i64 D0.y0, .int .i64 D0.x1, .int .i64 D0.y1, .int .i64 x0, .int .i64 y0, .int .i64 cc0] 37)).alloc (.cells #[.int .i64 kd1, .int .i64 A1.x0, .int .i64 A1.y0, .int .i64 A1.x1, .int .i64 A1.y1, .slice Am1 n1 mc1, .int .i64 D1.x0, .int .i64 D1.y0, .int .i64 D1.x1, .int .i64 D1.y1, .int .i64 x1, .int .i64 y1, .int .i64 cc1] 37)) := below_a2 _ _ _
  have Ka := (Blk.new W 37 #[.int .i64 kd0, .int .i64 A0.x0, .int .i64 A0.y0, .int .i64 A0.x1, .int .i64 A0.y1, .slice Am0 n0 mc0, .int .i64 D0.x0, .int .i64 D0.y0, .int .i64 D0.x1, .int .i64 D0.y1, .int .i64 x0, .int .i64 y0, .int .i64 cc0]).below (below_a1 _ (.cells #[.int .i64 kd1, .int .i64 A1.x0, .int .i64 A1.y0, .int .i64 A1.x1, .int .i64 A1.y1, .slice Am1 n1 mc1, .int .i64 D1.x0, .int .i64 D1.y0, .int .i64 D1.x1, .int .i64 D1.y1, .int .i64 x1, .int .i64 y1, .int .i64 cc1] 37))
  have Kb := Blk.new (W.alloc (.cells #[.int .i64 kd0, .int .i64 A0.x0, .int .i64 A0.y0, .int .i64 A0.x1, .int .i64 A0.y1, .slice Am0 n0 mc0, .int .i64 D0.x0, .int .i64 D0.y0, .int .i64 D0.x1, .int .i64 D0.y1, .int .i64 x0, .int .i64 y0, .int .i64 cc0] 37)) 37 #[.int .i64 kd1, .int .i64 A1.x0, .int .i64 A1.y0, .int .i64 A1.x1, .int .i64 A1.y1, .slice Am1 n1 mc1, .int .i64 D1.x0, .int .i64 D1.y0, .int .i64 D1.x1, .int .i64 D1.y1, .int .i64 x1, .int .i64 y1, .int .i64 cc1]
  rw [World.size_alloc] at Kb
  have a0 := Ka.cell 0; have a1 := Ka.cell 1; have a2 := Ka.cell 2; have a3 := Ka.cell 3; have a4 := Ka.cell 4; have a5 := Ka.cell 5; have a6 := Ka.cell 6; have a7 := Ka.cell 7; have a8 := Ka.cell 8; have a9 := Ka.cell 9; have a10 := Ka.cell 10; have a11 := Ka.cell 11; have a12 := Ka.cell 12; have al := Ka.lt; simp only [List.getElem?_toArray, List.getElem?_cons_succ, List.getElem?_cons_zero] at a0 a1 a2 a3 a4 a5 a6 a7 a8 a9 a10 a11 a12; have b0 := Kb.cell 0; have b1 := Kb.cell 1; have b2 := Kb.cell 2; have b3 := Kb.cell 3; have b4 := Kb.cell 4; have b5 := Kb.cell 5; have b6 := Kb.cell 6; have b7 := Kb.cell 7; have b8 := Kb.cell 8; have b9 := Kb.cell 9; have b10 := Kb.cell 10; have b11 := Kb.cell 11; have b12 := Kb.cell 12; have bl := Kb.lt; simp only [List.getElem?_toArray, List.getElem?_cons_succ, List.getElem?_cons_zero] at b0 b1 b2 b3 b4 b5 b6 b7 b8 b9 b10 b11 b12
  clear k0 l0 s0 k1 l1 s1
  go_enter Try.func7, Try.ntmps7
  go_wp2_with (go_at_call 9; ((with_reducible refine (CL _).mono ?_); rintro e w3 ⟨rfl, b3⟩))
  go_ret
  exact ⟨rfl, B.trans (b3.mono B.size)⟩
set_option maxRecDepth 100000 in
set_option maxHeartbeats 1000000 in
theorem out_3 (a b : Int) (kd0 : Int) (A0 : Q) (Am0 : Option Addr) (mc0 : Nat) (E0 : List Value) (D0 : Q) (x0 y0 cc0 : Int) (k0 : E0.length ≤ mc0) (m0 : mc0 ≤ 9223372036854775807) (l0 : Lists W W.heap.size Am0 E0) (s0 : Bytes8 E0) (kd1 : Int) (A1 : Q) (Am1 : Option Addr) (mc1 : Nat) (E1 : List Value) (D1 : Q) (x1 y1 cc1 : Int) (k1 : E1.length ≤ mc1) (m1 : mc1 ≤ 9223372036854775807) (l1 : Lists W W.heap.size Am1 E1) (s1 : Bytes8 E1) (h0 : 1 ≤ a) (h1 : a ≤ 100) (h2 : 1 ≤ b) (h3 : 100 < b) : Calls Try.prog 7 #[.int .i64 a, .int .i64 b, .agg #[.int .i64 kd0, .int .i64 A0.x0, .int .i64 A0.y0, .int .i64 A0.x1, .int .i64 A0.y1, .slice Am0 E0.length mc0, .int .i64 D0.x0, .int .i64 D0.y0, .int .i64 D0.x1, .int .i64 D0.y1, .int .i64 x0, .int .i64 y0, .int .i64 cc0], .agg #[.int .i64 kd1, .int .i64 A1.x0, .int .i64 A1.y0, .int .i64 A1.x1, .int .i64 A1.y1, .slice Am1 E1.length mc1, .int .i64 D1.x0, .int .i64 D1.y0, .int .i64 D1.x1, .int .i64 D1.y1, .int .i64 x1, .int .i64 y1, .int .i64 cc1]] W fun e w' => e = .returned (.bool true) ∧ Below W.heap.size W w' := by
  have CL := fun W => lives26 W
  generalize E0.length = n0 at *
  generalize E1.length = n1 at *
  have B : Below W.heap.size W ((W.alloc (.cells #[.int .i64 kd0, .int .i64 A0.x0, .int .i64 A0.y0, .int .i64 A0.x1, .int .i64 A0.y1, .slice Am0 n0 mc0, .int .i64 D0.x0, .int .i64 D0.y0, .int .i64 D0.x1, .int .i64 D0.y1, .int .i64 x0, .int .i64 y0, .int .i64 cc0] 37)).alloc (.cells #[.int .i64 kd1, .int .i64 A1.x0, .int .i64 A1.y0, .int .i64 A1.x1, .int .i64 A1.y1, .slice Am1 n1 mc1, .int .i64 D1.x0, .int .i64 D1.y0, .int .i64 D1.x1, .int .i64 D1.y1, .int .i64 x1, .int .i64 y1, .int .i64 cc1] 37)) := below_a2 _ _ _
  have Ka := (Blk.new W 37 #[.int .i64 kd0, .int .i64 A0.x0, .int .i64 A0.y0, .int .i64 A0.x1, .int .i64 A0.y1, .slice Am0 n0 mc0, .int .i64 D0.x0, .int .i64 D0.y0, .int .i64 D0.x1, .int .i64 D0.y1, .int .i64 x0, .int .i64 y0, .int .i64 cc0]).below (below_a1 _ (.cells #[.int .i64 kd1, .int .i64 A1.x0, .int .i64 A1.y0, .int .i64 A1.x1, .int .i64 A1.y1, .slice Am1 n1 mc1, .int .i64 D1.x0, .int .i64 D1.y0, .int .i64 D1.x1, .int .i64 D1.y1, .int .i64 x1, .int .i64 y1, .int .i64 cc1] 37))
  have Kb := Blk.new (W.alloc (.cells #[.int .i64 kd0, .int .i64 A0.x0, .int .i64 A0.y0, .int .i64 A0.x1, .int .i64 A0.y1, .slice Am0 n0 mc0, .int .i64 D0.x0, .int .i64 D0.y0, .int .i64 D0.x1, .int .i64 D0.y1, .int .i64 x0, .int .i64 y0, .int .i64 cc0] 37)) 37 #[.int .i64 kd1, .int .i64 A1.x0, .int .i64 A1.y0, .int .i64 A1.x1, .int .i64 A1.y1, .slice Am1 n1 mc1, .int .i64 D1.x0, .int .i64 D1.y0, .int .i64 D1.x1, .int .i64 D1.y1, .int .i64 x1, .int .i64 y1, .int .i64 cc1]
  rw [World.size_alloc] at Kb
  have a0 := Ka.cell 0; have a1 := Ka.cell 1; have a2 := Ka.cell 2; have a3 := Ka.cell 3; have a4 := Ka.cell 4; have a5 := Ka.cell 5; have a6 := Ka.cell 6; have a7 := Ka.cell 7; have a8 := Ka.cell 8; have a9 := Ka.cell 9; have a10 := Ka.cell 10; have a11 := Ka.cell 11; have a12 := Ka.cell 12; have al := Ka.lt; simp only [List.getElem?_toArray, List.getElem?_cons_succ, List.getElem?_cons_zero] at a0 a1 a2 a3 a4 a5 a6 a7 a8 a9 a10 a11 a12; have b0 := Kb.cell 0; have b1 := Kb.cell 1; have b2 := Kb.cell 2; have b3 := Kb.cell 3; have b4 := Kb.cell 4; have b5 := Kb.cell 5; have b6 := Kb.cell 6; have b7 := Kb.cell 7; have b8 := Kb.cell 8; have b9 := Kb.cell 9; have b10 := Kb.cell 10; have b11 := Kb.cell 11; have b12 := Kb.cell 12; have bl := Kb.lt; simp only [List.getElem?_toArray, List.getElem?_cons_succ, List.getElem?_cons_zero] at b0 b1 b2 b3 b4 b5 b6 b7 b8 b9 b10 b11 b12
  clear k0 l0 s0 k1 l1 s1
  go_enter Try.func7, Try.ntmps7
  go_wp2_with (go_at_call 9; ((with_reducible refine (CL _).mono ?_); rintro e w3 ⟨rfl, b3⟩))
  go_ret
  exact ⟨rfl, B.trans (b3.mono B.size)⟩
set_option maxRecDepth 100000 in
set_option maxHeartbeats 1000000 in
theorem out_4 (a b : Int) (kd0 : Int) (A0 : Q) (Am0 : Option Addr) (mc0 : Nat) (E0 : List Value) (D0 : Q) (x0 y0 cc0 : Int) (k0 : E0.length ≤ mc0) (m0 : mc0 ≤ 9223372036854775807) (l0 : Lists W W.heap.size Am0 E0) (s0 : Bytes8 E0) (kd1 : Int) (A1 : Q) (Am1 : Option Addr) (mc1 : Nat) (E1 : List Value) (D1 : Q) (x1 y1 cc1 : Int) (k1 : E1.length ≤ mc1) (m1 : mc1 ≤ 9223372036854775807) (l1 : Lists W W.heap.size Am1 E1) (s1 : Bytes8 E1) (h0 : 1 ≤ a) (h1 : a ≤ 100) (h2 : 1 ≤ b) (h3 : b ≤ 100) (h4 : 16384 < E0.length) : Calls Try.prog 7 #[.int .i64 a, .int .i64 b, .agg #[.int .i64 kd0, .int .i64 A0.x0, .int .i64 A0.y0, .int .i64 A0.x1, .int .i64 A0.y1, .slice Am0 E0.length mc0, .int .i64 D0.x0, .int .i64 D0.y0, .int .i64 D0.x1, .int .i64 D0.y1, .int .i64 x0, .int .i64 y0, .int .i64 cc0], .agg #[.int .i64 kd1, .int .i64 A1.x0, .int .i64 A1.y0, .int .i64 A1.x1, .int .i64 A1.y1, .slice Am1 E1.length mc1, .int .i64 D1.x0, .int .i64 D1.y0, .int .i64 D1.x1, .int .i64 D1.y1, .int .i64 x1, .int .i64 y1, .int .i64 cc1]] W fun e w' => e = .returned (.bool true) ∧ Below W.heap.size W w' := by
  have CL := fun W => lives26 W
  generalize E0.length = n0 at *
  generalize E1.length = n1 at *
  have B : Below W.heap.size W ((W.alloc (.cells #[.int .i64 kd0, .int .i64 A0.x0, .int .i64 A0.y0, .int .i64 A0.x1, .int .i64 A0.y1, .slice Am0 n0 mc0, .int .i64 D0.x0, .int .i64 D0.y0, .int .i64 D0.x1, .int .i64 D0.y1, .int .i64 x0, .int .i64 y0, .int .i64 cc0] 37)).alloc (.cells #[.int .i64 kd1, .int .i64 A1.x0, .int .i64 A1.y0, .int .i64 A1.x1, .int .i64 A1.y1, .slice Am1 n1 mc1, .int .i64 D1.x0, .int .i64 D1.y0, .int .i64 D1.x1, .int .i64 D1.y1, .int .i64 x1, .int .i64 y1, .int .i64 cc1] 37)) := below_a2 _ _ _
  have Ka := (Blk.new W 37 #[.int .i64 kd0, .int .i64 A0.x0, .int .i64 A0.y0, .int .i64 A0.x1, .int .i64 A0.y1, .slice Am0 n0 mc0, .int .i64 D0.x0, .int .i64 D0.y0, .int .i64 D0.x1, .int .i64 D0.y1, .int .i64 x0, .int .i64 y0, .int .i64 cc0]).below (below_a1 _ (.cells #[.int .i64 kd1, .int .i64 A1.x0, .int .i64 A1.y0, .int .i64 A1.x1, .int .i64 A1.y1, .slice Am1 n1 mc1, .int .i64 D1.x0, .int .i64 D1.y0, .int .i64 D1.x1, .int .i64 D1.y1, .int .i64 x1, .int .i64 y1, .int .i64 cc1] 37))
  have Kb := Blk.new (W.alloc (.cells #[.int .i64 kd0, .int .i64 A0.x0, .int .i64 A0.y0, .int .i64 A0.x1, .int .i64 A0.y1, .slice Am0 n0 mc0, .int .i64 D0.x0, .int .i64 D0.y0, .int .i64 D0.x1, .int .i64 D0.y1, .int .i64 x0, .int .i64 y0, .int .i64 cc0] 37)) 37 #[.int .i64 kd1, .int .i64 A1.x0, .int .i64 A1.y0, .int .i64 A1.x1, .int .i64 A1.y1, .slice Am1 n1 mc1, .int .i64 D1.x0, .int .i64 D1.y0, .int .i64 D1.x1, .int .i64 D1.y1, .int .i64 x1, .int .i64 y1, .int .i64 cc1]
  rw [World.size_alloc] at Kb
  have a0 := Ka.cell 0; have a1 := Ka.cell 1; have a2 := Ka.cell 2; have a3 := Ka.cell 3; have a4 := Ka.cell 4; have a5 := Ka.cell 5; have a6 := Ka.cell 6; have a7 := Ka.cell 7; have a8 := Ka.cell 8; have a9 := Ka.cell 9; have a10 := Ka.cell 10; have a11 := Ka.cell 11; have a12 := Ka.cell 12; have al := Ka.lt; simp only [List.getElem?_toArray, List.getElem?_cons_succ, List.getElem?_cons_zero] at a0 a1 a2 a3 a4 a5 a6 a7 a8 a9 a10 a11 a12; have b0 := Kb.cell 0; have b1 := Kb.cell 1; have b2 := Kb.cell 2; have b3 := Kb.cell 3; have b4 := Kb.cell 4; have b5 := Kb.cell 5; have b6 := Kb.cell 6; have b7 := Kb.cell 7; have b8 := Kb.cell 8; have b9 := Kb.cell 9; have b10 := Kb.cell 10; have b11 := Kb.cell 11; have b12 := Kb.cell 12; have bl := Kb.lt; simp only [List.getElem?_toArray, List.getElem?_cons_succ, List.getElem?_cons_zero] at b0 b1 b2 b3 b4 b5 b6 b7 b8 b9 b10 b11 b12
  clear k0 l0 s0 k1 l1 s1
  go_enter Try.func7, Try.ntmps7
  go_wp2_with (go_at_call 9; ((with_reducible refine (CL _).mono ?_); rintro e w3 ⟨rfl, b3⟩))
  go_ret
  exact ⟨rfl, B.trans (b3.mono B.size)⟩
set_option maxRecDepth 100000 in
set_option maxHeartbeats 1000000 in
theorem out_5 (a b : Int) (kd0 : Int) (A0 : Q) (Am0 : Option Addr) (mc0 : Nat) (E0 : List Value) (D0 : Q) (x0 y0 cc0 : Int) (k0 : E0.length ≤ mc0) (m0 : mc0 ≤ 9223372036854775807) (l0 : Lists W W.heap.size Am0 E0) (s0 : Bytes8 E0) (kd1 : Int) (A1 : Q) (Am1 : Option Addr) (mc1 : Nat) (E1 : List Value) (D1 : Q) (x1 y1 cc1 : Int) (k1 : E1.length ≤ mc1) (m1 : mc1 ≤ 9223372036854775807) (l1 : Lists W W.heap.size Am1 E1) (s1 : Bytes8 E1) (h0 : 1 ≤ a) (h1 : a ≤ 100) (h2 : 1 ≤ b) (h3 : b ≤ 100) (h4 : E0.length ≤ 16384) (h5 : 16384 < E1.length) : Calls Try.prog 7 #[.int .i64 a, .int .i64 b, .agg #[.int .i64 kd0, .int .i64 A0.x0, .int .i64 A0.y0, .int .i64 A0.x1, .int .i64 A0.y1, .slice Am0 E0.length mc0, .int .i64 D0.x0, .int .i64 D0.y0, .int .i64 D0.x1, .int .i64 D0.y1, .int .i64 x0, .int .i64 y0, .int .i64 cc0], .agg #[.int .i64 kd1, .int .i64 A1.x0, .int .i64 A1.y0, .int .i64 A1.x1, .int .i64 A1.y1, .slice Am1 E1.length mc1, .int .i64 D1.x0, .int .i64 D1.y0, .int .i64 D1.x1, .int .i64 D1.y1, .int .i64 x1, .int .i64 y1, .int .i64 cc1]] W fun e w' => e = .returned (.bool true) ∧ Below W.heap.size W w' := by
  have CL := fun W => lives26 W
  generalize E0.length = n0 at *
  generalize E1.length = n1 at *
  have B : Below W.heap.size W ((W.alloc (.cells #[.int .i64 kd0, .int .i64 A0.x0, .int .i64 A0.y0, .int .i64 A0.x1, .int .i64 A0.y1, .slice Am0 n0 mc0, .int .i64 D0.x0, .int .i64 D0.y0, .int .i64 D0.x1, .int .i64 D0.y1, .int .i64 x0, .int .i64 y0, .int .i64 cc0] 37)).alloc (.cells #[.int .i64 kd1, .int .i64 A1.x0, .int .i64 A1.y0, .int .i64 A1.x1, .int .i64 A1.y1, .slice Am1 n1 mc1, .int .i64 D1.x0, .int .i64 D1.y0, .int .i64 D1.x1, .int .i64 D1.y1, .int .i64 x1, .int .i64 y1, .int .i64 cc1] 37)) := below_a2 _ _ _
  have Ka := (Blk.new W 37 #[.int .i64 kd0, .int .i64 A0.x0, .int .i64 A0.y0, .int .i64 A0.x1, .int .i64 A0.y1, .slice Am0 n0 mc0, .int .i64 D0.x0, .int .i64 D0.y0, .int .i64 D0.x1, .int .i64 D0.y1, .int .i64 x0, .int .i64 y0, .int .i64 cc0]).below (below_a1 _ (.cells #[.int .i64 kd1, .int .i64 A1.x0, .int .i64 A1.y0, .int .i64 A1.x1, .int .i64 A1.y1, .slice Am1 n1 mc1, .int .i64 D1.x0, .int .i64 D1.y0, .int .i64 D1.x1, .int .i64 D1.y1, .int .i64 x1, .int .i64 y1, .int .i64 cc1] 37))
  have Kb := Blk.new (W.alloc (.cells #[.int .i64 kd0, .int .i64 A0.x0, .int .i64 A0.y0, .int .i64 A0.x1, .int .i64 A0.y1, .slice Am0 n0 mc0, .int .i64 D0.x0, .int .i64 D0.y0, .int .i64 D0.x1, .int .i64 D0.y1, .int .i64 x0, .int .i64 y0, .int .i64 cc0] 37)) 37 #[.int .i64 kd1, .int .i64 A1.x0, .int .i64 A1.y0, .int .i64 A1.x1, .int .i64 A1.y1, .slice Am1 n1 mc1, .int .i64 D1.x0, .int .i64 D1.y0, .int .i64 D1.x1, .int .i64 D1.y1, .int .i64 x1, .int .i64 y1, .int .i64 cc1]
  rw [World.size_alloc] at Kb
  have a0 := Ka.cell 0; have a1 := Ka.cell 1; have a2 := Ka.cell 2; have a3 := Ka.cell 3; have a4 := Ka.cell 4; have a5 := Ka.cell 5; have a6 := Ka.cell 6; have a7 := Ka.cell 7; have a8 := Ka.cell 8; have a9 := Ka.cell 9; have a10 := Ka.cell 10; have a11 := Ka.cell 11; have a12 := Ka.cell 12; have al := Ka.lt; simp only [List.getElem?_toArray, List.getElem?_cons_succ, List.getElem?_cons_zero] at a0 a1 a2 a3 a4 a5 a6 a7 a8 a9 a10 a11 a12; have b0 := Kb.cell 0; have b1 := Kb.cell 1; have b2 := Kb.cell 2; have b3 := Kb.cell 3; have b4 := Kb.cell 4; have b5 := Kb.cell 5; have b6 := Kb.cell 6; have b7 := Kb.cell 7; have b8 := Kb.cell 8; have b9 := Kb.cell 9; have b10 := Kb.cell 10; have b11 := Kb.cell 11; have b12 := Kb.cell 12; have bl := Kb.lt; simp only [List.getElem?_toArray, List.getElem?_cons_succ, List.getElem?_cons_zero] at b0 b1 b2 b3 b4 b5 b6 b7 b8 b9 b10 b11 b12
  clear k0 l0 s0 k1 l1 s1
  go_enter Try.func7, Try.ntmps7
  go_wp2_with (go_at_call 9; ((with_reducible refine (CL _).mono ?_); rintro e w3 ⟨rfl, b3⟩))
  go_ret
  exact ⟨rfl, B.trans (b3.mono B.size)⟩
theorem eq4_refl (a b c d : Int) : eq4 a b c d a b c d = true := by simp [eq4]
theorem apart {P R : Q} (h : zerB (meetR P R) = true) (x y : Int) : ¬ (inQ P x y = true ∧ inQ R x y = true) := by
  rintro ⟨h1, h2⟩
  simp only [inQ, Bool.and_eq_true, decide_eq_true_eq] at h1 h2
  unfold meetR plainQ at h
  by_cases he : emptyQ (meetQ P R) = true
  · have he' : min P.x1 R.x1 ≤ max P.x0 R.x0 ∨ min P.y1 R.y1 ≤ max P.y0 R.y0 := by
      unfold emptyQ meetQ at he
      rw [Bool.or_eq_true, decide_eq_true_eq, decide_eq_true_eq] at he
      exact he
    rcases he' with h3 | h3
    · have := Int.lt_min.2 ⟨h1.1.1.2, h2.1.1.2⟩
      have := Int.max_le.2 ⟨h1.1.1.1, h2.1.1.1⟩
      omega
    · have := Int.lt_min.2 ⟨h1.2, h2.2⟩
      have := Int.max_le.2 ⟨h1.1.2, h2.1.2⟩
      omega
  · rw [if_neg he] at h
    have h5 := not_zero (meetQ P R) (by simpa using he)
    unfold zerB at h
    rw [h5] at h
    cases h
theorem px_ext {wd ht : Nat} {L M : List Value} (hw : 1 ≤ wd) (hl : L.length = wd * ht) (hm : M.length = wd * ht) (h : ∀ x y : Nat, x < wd → y < ht → L[y * wd + x]? = M[y * wd + x]?) : L = M := by
  apply List.ext_getElem?
  intro k
  by_cases hk : k < wd * ht
  · have e := Nat.div_add_mod k wd
    rw [Nat.mul_comm] at e
    have := h (k % wd) (k / wd) (Nat.mod_lt k (by omega)) (Nat.div_lt_of_lt_mul hk)
    rw [e] at this
    exact this
  · rw [List.getElem?_eq_none (by omega), List.getElem?_eq_none (by omega)]
theorem swap (wd ht : Nat) (hd : 1 ≤ wd ∧ 1 ≤ ht) (A0 A1 : Q) (M0 M1 : List Value) (X0 Y0 c0 X1 Y1 c1 : Int) (E : List Value) (hE : E.length = wd * ht) (h : zerB (meetR (blBox wd ht A0 M0.length X0 Y0 c0) (blBox wd ht A1 M1.length X1 Y1 c1)) = true) :
    blAll wd ht A1 M1 X1 Y1 c1 (blAll wd ht A0 M0 X0 Y0 c0 E) = blAll wd ht A0 M0 X0 Y0 c0 (blAll wd ht A1 M1 X1 Y1 c1 E) := by
  refine px_ext hd.1 (by rw [bl_len, bl_len, hE]) (by rw [bl_len, bl_len, hE]) fun x y hx hy => ?_
  rw [bl_get wd ht A1 M1 X1 Y1 c1 _ hd x y hx hy, bl_get wd ht A0 M0 X0 Y0 c0 E hd x y hx hy, bl_get wd ht A0 M0 X0 Y0 c0 _ hd x y hx hy, bl_get wd ht A1 M1 X1 Y1 c1 E hd x y hx hy]
  have hap := apart h x y
  cases E[y * wd + x]? with
  | none => rfl
  | some d =>
    simp only [Option.map_some]
    by_cases h0 : inQ (blBox wd ht A0 M0.length X0 Y0 c0) x y = true
    · have h1 : ¬ inQ (blBox wd ht A1 M1.length X1 Y1 c1) x y = true := fun h1 => hap ⟨h0, h1⟩
      simp only [if_pos h0, if_neg h1]
    · simp only [if_neg h0]
theorem one_b8 {n : Nat} {c : Int} (hc : inZ 0 255 c = true) : Bytes8 (oneE n c) := fun u hu => by
  unfold oneE at hu
  rw [List.eq_of_mem_replicate hu]
  exact in_b8 hc
set_option maxRecDepth 100000 in
set_option maxHeartbeats 8000000 in
theorem in_z (wd ht : Nat) (hd : 1 ≤ wd ∧ 1 ≤ ht) (hd2 : wd ≤ 100 ∧ ht ≤ 100) (kd0 : Int) (A0 : Q) (Am0 : Option Addr) (mc0 : Nat) (E0 : List Value) (D0 : Q) (x0 y0 cc0 : Int) (k0 : E0.length ≤ mc0) (m0 : mc0 ≤ 9223372036854775807) (l0 : Lists W W.heap.size Am0 E0) (s0 : Bytes8 E0) (kd1 : Int) (A1 : Q) (Am1 : Option Addr) (mc1 : Nat) (E1 : List Value) (D1 : Q) (x1 y1 cc1 : Int) (k1 : E1.length ≤ mc1) (m1 : mc1 ≤ 9223372036854775807) (l1 : Lists W W.heap.size Am1 E1) (s1 : Bytes8 E1) (hn0 : E0.length ≤ 16384) (hn1 : E1.length ≤ 16384) (hz : zerB (meetR (blBox wd ht A0 E0.length x0 y0 cc0) (blBox wd ht A1 E1.length x1 y1 cc1)) = true) : Calls Try.prog 7 #[.int .i64 (wd : Nat), .int .i64 (ht : Nat), .agg #[.int .i64 kd0, .int .i64 A0.x0, .int .i64 A0.y0, .int .i64 A0.x1, .int .i64 A0.y1, .slice Am0 E0.length mc0, .int .i64 D0.x0, .int .i64 D0.y0, .int .i64 D0.x1, .int .i64 D0.y1, .int .i64 x0, .int .i64 y0, .int .i64 cc0], .agg #[.int .i64 kd1, .int .i64 A1.x0, .int .i64 A1.y0, .int .i64 A1.x1, .int .i64 A1.y1, .slice Am1 E1.length mc1, .int .i64 D1.x0, .int .i64 D1.y0, .int .i64 D1.x1, .int .i64 D1.y1, .int .i64 x1, .int .i64 y1, .int .i64 cc1]] W fun e w' => e = .returned (.bool true) ∧ Below W.heap.size W w' := by
  have CL := fun W => lives26 W
  have hmay : mayCn wd ht 90 = true := by unfold mayCn inZ; simp; omega
  have CB0 := fun q g E (V : World) (hX : CnV V q g wd ht E) (hB : Below W.heap.size W V) (hg : W.heap.size + 1 < g) => cnblend_all q g wd ht mc0 E A0 Am0 E0 x0 y0 cc0 V hX ((l0.below hB).more hB.size) s0 k0 (fun a ha hn => by have := l0.lt a ha hn; omega)
  have CB1 := fun q g E (V : World) (hX : CnV V q g wd ht E) (hB : Below W.heap.size W V) (hg : W.heap.size + 1 < g) => cnblend_all q g wd ht mc1 E A1 Am1 E1 x1 y1 cc1 V hX ((l1.below hB).more hB.size) s1 k1 (fun a ha hn => by have := l1.lt a ha hn; omega)
  have hsw := swap wd ht hd A0 A1 E0 E1 x0 y0 cc0 x1 y1 cc1 (oneE (wd * ht) 90) (by simp [oneE]) hz
  have HSW := Lib.hid hsw
  clear hsw
  generalize blCode A0 E0.length x0 y0 cc0 = cd0 at *
  generalize blCode A1 E1.length x1 y1 cc1 = cd1 at *
  generalize blBox wd ht A0 E0.length x0 y0 cc0 = P at *
  generalize blBox wd ht A1 E1.length x1 y1 cc1 = R at *
  generalize blAll wd ht A0 E0 x0 y0 cc0 = FA at *
  generalize blAll wd ht A1 E1 x1 y1 cc1 = FB at *
  generalize E0.length = n0 at *
  generalize E1.length = n1 at *
  have r1 := fun w => neB_run P.x0 P.y0 P.x1 P.y1 P.x0 P.y0 P.x1 P.y1 w
  have r2 := fun x y w => neB_guard P.x0 P.y0 P.x1 P.y1 P.x0 P.y0 P.x1 P.y1 x y w
  have r3 := fun w => neB_run R.x0 R.y0 R.x1 R.y1 R.x0 R.y0 R.x1 R.y1 w
  have r4 := fun x y w => neB_guard R.x0 R.y0 R.x1 R.y1 R.x0 R.y0 R.x1 R.y1 x y w
  have r5 := fun w => neB_run (meetR P R).x0 (meetR P R).y0 (meetR P R).x1 (meetR P R).y1 0 0 0 0 w
  have r6 := fun x y w => neB_guard (meetR P R).x0 (meetR P R).y0 (meetR P R).x1 (meetR P R).y1 0 0 0 0 x y w
  rw [eq4_refl] at r1 r3
  rw [show eq4 (meetR P R).x0 (meetR P R).y0 (meetR P R).x1 (meetR P R).y1 0 0 0 0 = true from hz] at r5
  clear hz l0 s0 k0 l1 s1 k1
  have B : Below W.heap.size W ((W.alloc (.cells #[.int .i64 kd0, .int .i64 A0.x0, .int .i64 A0.y0, .int .i64 A0.x1, .int .i64 A0.y1, .slice Am0 n0 mc0, .int .i64 D0.x0, .int .i64 D0.y0, .int .i64 D0.x1, .int .i64 D0.y1, .int .i64 x0, .int .i64 y0, .int .i64 cc0] 37)).alloc (.cells #[.int .i64 kd1, .int .i64 A1.x0, .int .i64 A1.y0, .int .i64 A1.x1, .int .i64 A1.y1, .slice Am1 n1 mc1, .int .i64 D1.x0, .int .i64 D1.y0, .int .i64 D1.x1, .int .i64 D1.y1, .int .i64 x1, .int .i64 y1, .int .i64 cc1] 37)) := below_a2 _ _ _
  have Ka := (Blk.new W 37 #[.int .i64 kd0, .int .i64 A0.x0, .int .i64 A0.y0, .int .i64 A0.x1, .int .i64 A0.y1, .slice Am0 n0 mc0, .int .i64 D0.x0, .int .i64 D0.y0, .int .i64 D0.x1, .int .i64 D0.y1, .int .i64 x0, .int .i64 y0, .int .i64 cc0]).below (below_a1 _ (.cells #[.int .i64 kd1, .int .i64 A1.x0, .int .i64 A1.y0, .int .i64 A1.x1, .int .i64 A1.y1, .slice Am1 n1 mc1, .int .i64 D1.x0, .int .i64 D1.y0, .int .i64 D1.x1, .int .i64 D1.y1, .int .i64 x1, .int .i64 y1, .int .i64 cc1] 37))
  have Kb := Blk.new (W.alloc (.cells #[.int .i64 kd0, .int .i64 A0.x0, .int .i64 A0.y0, .int .i64 A0.x1, .int .i64 A0.y1, .slice Am0 n0 mc0, .int .i64 D0.x0, .int .i64 D0.y0, .int .i64 D0.x1, .int .i64 D0.y1, .int .i64 x0, .int .i64 y0, .int .i64 cc0] 37)) 37 #[.int .i64 kd1, .int .i64 A1.x0, .int .i64 A1.y0, .int .i64 A1.x1, .int .i64 A1.y1, .slice Am1 n1 mc1, .int .i64 D1.x0, .int .i64 D1.y0, .int .i64 D1.x1, .int .i64 D1.y1, .int .i64 x1, .int .i64 y1, .int .i64 cc1]
  rw [World.size_alloc] at Kb
  have a0 := Ka.cell 0; have a1 := Ka.cell 1; have a2 := Ka.cell 2; have a3 := Ka.cell 3; have a4 := Ka.cell 4; have a5 := Ka.cell 5; have a6 := Ka.cell 6; have a7 := Ka.cell 7; have a8 := Ka.cell 8; have a9 := Ka.cell 9; have a10 := Ka.cell 10; have a11 := Ka.cell 11; have a12 := Ka.cell 12; have al := Ka.lt; simp only [List.getElem?_toArray, List.getElem?_cons_succ, List.getElem?_cons_zero] at a0 a1 a2 a3 a4 a5 a6 a7 a8 a9 a10 a11 a12; have b0 := Kb.cell 0; have b1 := Kb.cell 1; have b2 := Kb.cell 2; have b3 := Kb.cell 3; have b4 := Kb.cell 4; have b5 := Kb.cell 5; have b6 := Kb.cell 6; have b7 := Kb.cell 7; have b8 := Kb.cell 8; have b9 := Kb.cell 9; have b10 := Kb.cell 10; have b11 := Kb.cell 11; have b12 := Kb.cell 12; have bl := Kb.lt; simp only [List.getElem?_toArray, List.getElem?_cons_succ, List.getElem?_cons_zero] at b0 b1 b2 b3 b4 b5 b6 b7 b8 b9 b10 b11 b12
  go_enter Try.func7, Try.ntmps7
  go_wp2_with (first | (go_at_call 10; ((with_reducible refine (cnnew_ok wd ht 90 _ hmay).mono ?_); rintro e w1 ⟨q0, g0, rfl, X0, hq0, hg0, b1⟩; have B := B.trans (b1.mono B.size); simp only [World.size_alloc] at hq0 hg0; have L1 := X0.row.lt; have M1 := X0.blk.lt; have Ka := Ka.below b1; have Kb := Kb.below b1; have a0 := Ka.cell 0; have a1 := Ka.cell 1; have a2 := Ka.cell 2; have a3 := Ka.cell 3; have a4 := Ka.cell 4; have a5 := Ka.cell 5; have a6 := Ka.cell 6; have a7 := Ka.cell 7; have a8 := Ka.cell 8; have a9 := Ka.cell 9; have a10 := Ka.cell 10; have a11 := Ka.cell 11; have a12 := Ka.cell 12; have al := Ka.lt; simp only [List.getElem?_toArray, List.getElem?_cons_succ, List.getElem?_cons_zero] at a0 a1 a2 a3 a4 a5 a6 a7 a8 a9 a10 a11 a12; have b0 := Kb.cell 0; have b1 := Kb.cell 1; have b2 := Kb.cell 2; have b3 := Kb.cell 3; have b4 := Kb.cell 4; have b5 := Kb.cell 5; have b6 := Kb.cell 6; have b7 := Kb.cell 7; have b8 := Kb.cell 8; have b9 := Kb.cell 9; have b10 := Kb.cell 10; have b11 := Kb.cell 11; have b12 := Kb.cell 12; have bl := Kb.lt; simp only [List.getElem?_toArray, List.getElem?_cons_succ, List.getElem?_cons_zero] at b0 b1 b2 b3 b4 b5 b6 b7 b8 b9 b10 b11 b12)) | (go_at_call 10; ((with_reducible refine (cnnew_ok wd ht 90 w1 hmay).mono ?_); rintro e w2 ⟨q1, g1, rfl, X1, hq1, hg1, b2⟩; have B := B.trans (b2.mono B.size); have X0 := X0.below b2; have L2 := X1.row.lt; have M2 := X1.blk.lt; have Ka := Ka.below b2; have Kb := Kb.below b2; have a0 := Ka.cell 0; have a1 := Ka.cell 1; have a2 := Ka.cell 2; have a3 := Ka.cell 3; have a4 := Ka.cell 4; have a5 := Ka.cell 5; have a6 := Ka.cell 6; have a7 := Ka.cell 7; have a8 := Ka.cell 8; have a9 := Ka.cell 9; have a10 := Ka.cell 10; have a11 := Ka.cell 11; have a12 := Ka.cell 12; have al := Ka.lt; simp only [List.getElem?_toArray, List.getElem?_cons_succ, List.getElem?_cons_zero] at a0 a1 a2 a3 a4 a5 a6 a7 a8 a9 a10 a11 a12; have b0 := Kb.cell 0; have b1 := Kb.cell 1; have b2 := Kb.cell 2; have b3 := Kb.cell 3; have b4 := Kb.cell 4; have b5 := Kb.cell 5; have b6 := Kb.cell 6; have b7 := Kb.cell 7; have b8 := Kb.cell 8; have b9 := Kb.cell 9; have b10 := Kb.cell 10; have b11 := Kb.cell 11; have b12 := Kb.cell 12; have bl := Kb.lt; simp only [List.getElem?_toArray, List.getElem?_cons_succ, List.getElem?_cons_zero] at b0 b1 b2 b3 b4 b5 b6 b7 b8 b9 b10 b11 b12)) | (go_at_call 9; ((with_reducible refine (CL _).mono ?_); rintro e w3 ⟨rfl, b3⟩; have B := B.trans (b3.mono B.size); have X0 := X0.below b3; have X1 := X1.below b3; have L3 := X1.row.lt; have M3 := X1.blk.lt; have Ka := Ka.below b3; have Kb := Kb.below b3; have a0 := Ka.cell 0; have a1 := Ka.cell 1; have a2 := Ka.cell 2; have a3 := Ka.cell 3; have a4 := Ka.cell 4; have a5 := Ka.cell 5; have a6 := Ka.cell 6; have a7 := Ka.cell 7; have a8 := Ka.cell 8; have a9 := Ka.cell 9; have a10 := Ka.cell 10; have a11 := Ka.cell 11; have a12 := Ka.cell 12; have al := Ka.lt; simp only [List.getElem?_toArray, List.getElem?_cons_succ, List.getElem?_cons_zero] at a0 a1 a2 a3 a4 a5 a6 a7 a8 a9 a10 a11 a12; have b0 := Kb.cell 0; have b1 := Kb.cell 1; have b2 := Kb.cell 2; have b3 := Kb.cell 3; have b4 := Kb.cell 4; have b5 := Kb.cell 5; have b6 := Kb.cell 6; have b7 := Kb.cell 7; have b8 := Kb.cell 8; have b9 := Kb.cell 9; have b10 := Kb.cell 10; have b11 := Kb.cell 11; have b12 := Kb.cell 12; have bl := Kb.lt; simp only [List.getElem?_toArray, List.getElem?_cons_succ, List.getElem?_cons_zero] at b0 b1 b2 b3 b4 b5 b6 b7 b8 b9 b10 b11 b12)) | (go_at_call 18; ((with_reducible refine (CB0 q0 g0 _ _ X0 B (by omega)).mono ?_); rintro e w4 ⟨rfl, Y4, o4⟩; have zz4 := o4.size; have B := B.trans (o4.to_below B.size (by simp; omega)); have c4 : Below w4.heap.size w4 ((w4.alloc (.cells #[.int .i64 0, .int .i64 0, .int .i64 0, .int .i64 0] 32)).setRow w4.heap.size (qV P)) := below_setRow (below_a1 w4 _) (Nat.le_refl _) _; have hz4 := c4.size; have Ka := Ka.only o4 (by simp; omega); have Kb := Kb.only o4 (by simp; omega); have L4 := Y4.row.lt; have M4 := Y4.blk.lt; have X1 := (X1.only o4 (by simp; omega) (by simp; omega)).below c4; have X0 := Y4.below c4; have J4 := Blk.new w4 32 #[.int .i64 0, .int .i64 0, .int .i64 0, .int .i64 0]; have HJ4 := Lib.hid J4; have J4 := blk_row J4 (qV P); have jl4 := J4.lt; have Ka := Ka.below c4; have Kb := Kb.below c4; have a0 := Ka.cell 0; have a1 := Ka.cell 1; have a2 := Ka.cell 2; have a3 := Ka.cell 3; have a4 := Ka.cell 4; have a5 := Ka.cell 5; have a6 := Ka.cell 6; have a7 := Ka.cell 7; have a8 := Ka.cell 8; have a9 := Ka.cell 9; have a10 := Ka.cell 10; have a11 := Ka.cell 11; have a12 := Ka.cell 12; have al := Ka.lt; simp only [List.getElem?_toArray, List.getElem?_cons_succ, List.getElem?_cons_zero] at a0 a1 a2 a3 a4 a5 a6 a7 a8 a9 a10 a11 a12; have b0 := Kb.cell 0; have b1 := Kb.cell 1; have b2 := Kb.cell 2; have b3 := Kb.cell 3; have b4 := Kb.cell 4; have b5 := Kb.cell 5; have b6 := Kb.cell 6; have b7 := Kb.cell 7; have b8 := Kb.cell 8; have b9 := Kb.cell 9; have b10 := Kb.cell 10; have b11 := Kb.cell 11; have b12 := Kb.cell 12; have bl := Kb.lt; simp only [List.getElem?_toArray, List.getElem?_cons_succ, List.getElem?_cons_zero] at b0 b1 b2 b3 b4 b5 b6 b7 b8 b9 b10 b11 b12; have B := B.trans (c4.mono B.size))) | (refine wpList_store_row rfl 32 (.tmp 13) (.tmp 91) (by with_reducible rfl) w4.heap.size (qV P) (by rfl) (by rfl) 32 #[.int .i64 0, .int .i64 0, .int .i64 0, .int .i64 0] (by exact HJ4.out) (bxInfoF P) rfl (by simp [qV, Value.oneCell']) ?_))
  go_wp2_with (first | (go_at_call 18; ((with_reducible refine (CB1 q0 g0 _ _ X0 B (by omega)).mono ?_); rintro e w5 ⟨rfl, Y5, o5⟩; have zz5 := o5.size; have B := B.trans (o5.to_below B.size (by simp; omega)); have c5 : Below w5.heap.size w5 ((w5.alloc (.cells #[.int .i64 0, .int .i64 0, .int .i64 0, .int .i64 0] 32)).setRow w5.heap.size (qV R)) := below_setRow (below_a1 w5 _) (Nat.le_refl _) _; have hz5 := c5.size; have Ka := Ka.only o5 (by simp; omega); have Kb := Kb.only o5 (by simp; omega); have J4 := (J4.only o5 (by simp; omega)).below c5; have L5 := Y5.row.lt; have M5 := Y5.blk.lt; have X1 := (X1.only o5 (by simp; omega) (by simp; omega)).below c5; have X0 := Y5.below c5; have J5 := Blk.new w5 32 #[.int .i64 0, .int .i64 0, .int .i64 0, .int .i64 0]; have HJ5 := Lib.hid J5; have J5 := blk_row J5 (qV R); have jl5 := J5.lt; have Ka := Ka.below c5; have Kb := Kb.below c5; have a0 := Ka.cell 0; have a1 := Ka.cell 1; have a2 := Ka.cell 2; have a3 := Ka.cell 3; have a4 := Ka.cell 4; have a5 := Ka.cell 5; have a6 := Ka.cell 6; have a7 := Ka.cell 7; have a8 := Ka.cell 8; have a9 := Ka.cell 9; have a10 := Ka.cell 10; have a11 := Ka.cell 11; have a12 := Ka.cell 12; have al := Ka.lt; simp only [List.getElem?_toArray, List.getElem?_cons_succ, List.getElem?_cons_zero] at a0 a1 a2 a3 a4 a5 a6 a7 a8 a9 a10 a11 a12; have b0 := Kb.cell 0; have b1 := Kb.cell 1; have b2 := Kb.cell 2; have b3 := Kb.cell 3; have b4 := Kb.cell 4; have b5 := Kb.cell 5; have b6 := Kb.cell 6; have b7 := Kb.cell 7; have b8 := Kb.cell 8; have b9 := Kb.cell 9; have b10 := Kb.cell 10; have b11 := Kb.cell 11; have b12 := Kb.cell 12; have bl := Kb.lt; simp only [List.getElem?_toArray, List.getElem?_cons_succ, List.getElem?_cons_zero] at b0 b1 b2 b3 b4 b5 b6 b7 b8 b9 b10 b11 b12; have B := B.trans (c5.mono B.size))) | (refine wpList_store_row rfl 32 (.tmp 15) (.tmp 104) (by with_reducible rfl) w5.heap.size (qV R) (by rfl) (by rfl) 32 #[.int .i64 0, .int .i64 0, .int .i64 0, .int .i64 0] (by exact HJ5.out) (bxInfoF R) rfl (by simp [qV, Value.oneCell']) ?_))
  go_wp2_with (first | (go_at_call 18; ((with_reducible refine (CB1 q1 g1 _ _ X1 B (by omega)).mono ?_); rintro e w6 ⟨rfl, Y6, o6⟩; have zz6 := o6.size; have B := B.trans (o6.to_below B.size (by simp; omega)); have c6 : Below w6.heap.size w6 ((w6.alloc (.cells #[.int .i64 0, .int .i64 0, .int .i64 0, .int .i64 0] 32)).setRow w6.heap.size (qV R)) := below_setRow (below_a1 w6 _) (Nat.le_refl _) _; have hz6 := c6.size; have Ka := Ka.only o6 (by simp; omega); have Kb := Kb.only o6 (by simp; omega); have J4 := (J4.only o6 (by simp; omega)).below c6; have J5 := (J5.only o6 (by simp; omega)).below c6; have L6 := Y6.row.lt; have M6 := Y6.blk.lt; have X0 := (X0.only o6 (by simp; omega) (by simp; omega)).below c6; have X1 := Y6.below c6; have J6 := Blk.new w6 32 #[.int .i64 0, .int .i64 0, .int .i64 0, .int .i64 0]; have HJ6 := Lib.hid J6; have J6 := blk_row J6 (qV R); have jl6 := J6.lt; have Ka := Ka.below c6; have Kb := Kb.below c6; have a0 := Ka.cell 0; have a1 := Ka.cell 1; have a2 := Ka.cell 2; have a3 := Ka.cell 3; have a4 := Ka.cell 4; have a5 := Ka.cell 5; have a6 := Ka.cell 6; have a7 := Ka.cell 7; have a8 := Ka.cell 8; have a9 := Ka.cell 9; have a10 := Ka.cell 10; have a11 := Ka.cell 11; have a12 := Ka.cell 12; have al := Ka.lt; simp only [List.getElem?_toArray, List.getElem?_cons_succ, List.getElem?_cons_zero] at a0 a1 a2 a3 a4 a5 a6 a7 a8 a9 a10 a11 a12; have b0 := Kb.cell 0; have b1 := Kb.cell 1; have b2 := Kb.cell 2; have b3 := Kb.cell 3; have b4 := Kb.cell 4; have b5 := Kb.cell 5; have b6 := Kb.cell 6; have b7 := Kb.cell 7; have b8 := Kb.cell 8; have b9 := Kb.cell 9; have b10 := Kb.cell 10; have b11 := Kb.cell 11; have b12 := Kb.cell 12; have bl := Kb.lt; simp only [List.getElem?_toArray, List.getElem?_cons_succ, List.getElem?_cons_zero] at b0 b1 b2 b3 b4 b5 b6 b7 b8 b9 b10 b11 b12; have B := B.trans (c6.mono B.size))) | (refine wpList_store_row rfl 32 (.tmp 17) (.tmp 117) (by with_reducible rfl) w6.heap.size (qV R) (by rfl) (by rfl) 32 #[.int .i64 0, .int .i64 0, .int .i64 0, .int .i64 0] (by exact HJ6.out) (bxInfoF R) rfl (by simp [qV, Value.oneCell']) ?_))
  go_wp2_with (first | (go_at_call 18; ((with_reducible refine (CB0 q1 g1 _ _ X1 B (by omega)).mono ?_); rintro e w7 ⟨rfl, Y7, o7⟩; have zz7 := o7.size; have B := B.trans (o7.to_below B.size (by simp; omega)); have c7 : Below w7.heap.size w7 ((w7.alloc (.cells #[.int .i64 0, .int .i64 0, .int .i64 0, .int .i64 0] 32)).setRow w7.heap.size (qV P)) := below_setRow (below_a1 w7 _) (Nat.le_refl _) _; have hz7 := c7.size; have Ka := Ka.only o7 (by simp; omega); have Kb := Kb.only o7 (by simp; omega); have J4 := (J4.only o7 (by simp; omega)).below c7; have J5 := (J5.only o7 (by simp; omega)).below c7; have J6 := (J6.only o7 (by simp; omega)).below c7; have L7 := Y7.row.lt; have M7 := Y7.blk.lt; have X0 := (X0.only o7 (by simp; omega) (by simp; omega)).below c7; have X1 := Y7.below c7; have J7 := Blk.new w7 32 #[.int .i64 0, .int .i64 0, .int .i64 0, .int .i64 0]; have HJ7 := Lib.hid J7; have J7 := blk_row J7 (qV P); have jl7 := J7.lt; have Ka := Ka.below c7; have Kb := Kb.below c7; have a0 := Ka.cell 0; have a1 := Ka.cell 1; have a2 := Ka.cell 2; have a3 := Ka.cell 3; have a4 := Ka.cell 4; have a5 := Ka.cell 5; have a6 := Ka.cell 6; have a7 := Ka.cell 7; have a8 := Ka.cell 8; have a9 := Ka.cell 9; have a10 := Ka.cell 10; have a11 := Ka.cell 11; have a12 := Ka.cell 12; have al := Ka.lt; simp only [List.getElem?_toArray, List.getElem?_cons_succ, List.getElem?_cons_zero] at a0 a1 a2 a3 a4 a5 a6 a7 a8 a9 a10 a11 a12; have b0 := Kb.cell 0; have b1 := Kb.cell 1; have b2 := Kb.cell 2; have b3 := Kb.cell 3; have b4 := Kb.cell 4; have b5 := Kb.cell 5; have b6 := Kb.cell 6; have b7 := Kb.cell 7; have b8 := Kb.cell 8; have b9 := Kb.cell 9; have b10 := Kb.cell 10; have b11 := Kb.cell 11; have b12 := Kb.cell 12; have bl := Kb.lt; simp only [List.getElem?_toArray, List.getElem?_cons_succ, List.getElem?_cons_zero] at b0 b1 b2 b3 b4 b5 b6 b7 b8 b9 b10 b11 b12; have B := B.trans (c7.mono B.size); have j40 := (J4.cell 0).trans (show (qV P)[0]? = some (.int .i64 P.x0) from rfl); have j41 := (J4.cell 1).trans (show (qV P)[1]? = some (.int .i64 P.y0) from rfl); have j42 := (J4.cell 2).trans (show (qV P)[2]? = some (.int .i64 P.x1) from rfl); have j43 := (J4.cell 3).trans (show (qV P)[3]? = some (.int .i64 P.y1) from rfl); have j50 := (J5.cell 0).trans (show (qV R)[0]? = some (.int .i64 R.x0) from rfl); have j51 := (J5.cell 1).trans (show (qV R)[1]? = some (.int .i64 R.y0) from rfl); have j52 := (J5.cell 2).trans (show (qV R)[2]? = some (.int .i64 R.x1) from rfl); have j53 := (J5.cell 3).trans (show (qV R)[3]? = some (.int .i64 R.y1) from rfl); have j60 := (J6.cell 0).trans (show (qV R)[0]? = some (.int .i64 R.x0) from rfl); have j61 := (J6.cell 1).trans (show (qV R)[1]? = some (.int .i64 R.y0) from rfl); have j62 := (J6.cell 2).trans (show (qV R)[2]? = some (.int .i64 R.x1) from rfl); have j63 := (J6.cell 3).trans (show (qV R)[3]? = some (.int .i64 R.y1) from rfl); have j70 := (J7.cell 0).trans (show (qV P)[0]? = some (.int .i64 P.x0) from rfl); have j71 := (J7.cell 1).trans (show (qV P)[1]? = some (.int .i64 P.y0) from rfl); have j72 := (J7.cell 2).trans (show (qV P)[2]? = some (.int .i64 P.x1) from rfl); have j73 := (J7.cell 3).trans (show (qV P)[3]? = some (.int .i64 P.y1) from rfl); have jl4 := J4.lt; have jl5 := J5.lt; have jl6 := J6.lt; have jl7 := J7.lt)) | (refine wpList_store_row rfl 32 (.tmp 19) (.tmp 130) (by with_reducible rfl) w7.heap.size (qV P) (by rfl) (by rfl) 32 #[.int .i64 0, .int .i64 0, .int .i64 0, .int .i64 0] (by exact HJ7.out) (bxInfoF P) rfl (by simp [qV, Value.oneCell']) ?_) | (go_at_call 24; ((with_reducible refine (rmeet_any P R _).mono ?_); rintro e w8 ⟨rfl, b8⟩; have B := B.trans (b8.mono B.size); have X0 := X0.below b8; have X1 := X1.below b8)))
  have HB := Lib.hid B
  obtain ⟨n, hn⟩ : ∃ n, n = wd * ht := ⟨_, rfl⟩
  have hlA : (FB (FA (oneE (wd * ht) 90))).length = n := by rw [X0.len, hn]
  have h8A := X0.b8
  have CY0 := fun V (hV : Below w8.heap.size w8 V) => cnbytes_any q0 g0 wd ht n _ V (X0.below hV) hn
  have CY1 := fun V (hV : Below w8.heap.size w8 V) => cnbytes_any q1 g1 wd ht n _ V (X1.below hV) hn
  rw [← HSW.out] at CY1
  clear hn
  have CK : ∀ U, Calls Try.prog 25 #[.agg #[.int .i64 0, .int .i64 0, .int .i64 0, .int .i64 0, .slice none 0 0]] U fun e w' => e = .returned (.int .i64 0) ∧ Below U.heap.size U w' := fun U => rckmask_any zeroQ none 0 0 U
  have hI : Below w8.heap.size w8 w8.drew := (Below.refl _ _).drew
  refine wp_region_mix (fun V => Below w8.heap.size w8 V) (Mx.qs [0, 3] (.one 1 (.two 2 4 (.one 4 (.one 5 (Mx.qs [6, 7, 8] (.one 9 (Mx.qs [10, 11, 12] .leaf))))) (.two 2 5 (.one 5 (Mx.qs [6, 7, 8] (.one 9 (Mx.qs [10, 11, 12] .leaf)))) (.one 2 (Mx.qs [6, 7, 8] (.one 9 (Mx.qs [10, 11, 12] .leaf)))))))) (by kernel_rfl) (by kernel_rfl) hI ?_
  simp only [Mx.qs]
  repeat (first
    | (refine MixL.skip (o := ?_) ?_ ?_ ?_; rotate_left; (focus (first | (simp only [List.getElem?_toArray, List.getElem?_cons_succ, List.getElem?_cons_zero]; with_reducible rfl) | (simp only [List.getElem?_toArray, List.getElem?_cons_zero]; with_reducible rfl))); (focus rfl); simp only [Act.put, List.setIfInBounds_toArray, List.set_cons_zero, List.set_cons_succ])
    | (refine MixL.val (o := ?_) (v := ?_) ?_ ?_ ?_ ?_ ?_; rotate_left 2; (focus (first | (simp only [List.getElem?_toArray, List.getElem?_cons_succ, List.getElem?_cons_zero]; with_reducible rfl) | (simp only [List.getElem?_toArray, List.getElem?_cons_zero]; with_reducible rfl))); (focus (intro _ _ h; cases h)); (focus rfl); (focus (intro w' hJ; skip; go_simp <;> with_reducible rfl)); simp only [Act.put, List.setIfInBounds_toArray, List.set_cons_zero, List.set_cons_succ]))
  refine MixL.call (o := ?_) (f := ?_) (args := ?_) ?_ ?_ ?_ ?_
  rotate_left 3
  (focus (first | (simp only [List.getElem?_toArray, List.getElem?_cons_succ, List.getElem?_cons_zero]; with_reducible rfl) | (simp only [List.getElem?_toArray, List.getElem?_cons_zero]; with_reducible rfl)))
  (focus rfl)
  (focus (go_simp; (constructor <;> with_reducible rfl)))
  with_reducible refine (CY0 _ hI).mono ?_
  rintro e w9 ⟨rfl, K9, b9⟩; have hI9 := hI.trans (b9.mono hI.size); refine ⟨_, rfl, hI9, ?_⟩
  simp only [Act.put, List.setIfInBounds_toArray, List.set_cons_zero, List.set_cons_succ]
  refine MixL.both ?_ ?_
  · have q1 := conv_lists (n := n) (c := n) (A := some ⟨w8.heap.size, 0, none⟩) (w := w9) (B := w9.heap.size) (E := FB (FA (oneE (wd * ht) 90))) (lists_of_blk K9) hlA h8A
    refine MixL.does (o := ?_) (v := ?_) (w1 := ?_) ?_ ?_ ?_ ?_ ?_
    rotate_left 3
    (focus (first | (simp only [List.getElem?_toArray, List.getElem?_cons_succ, List.getElem?_cons_zero]; with_reducible rfl) | (simp only [List.getElem?_toArray, List.getElem?_cons_zero]; with_reducible rfl)))
    (focus rfl)
    (focus (go_simp; (constructor <;> with_reducible rfl)))
    (focus (exact hI9))
    simp only [Act.put, List.setIfInBounds_toArray, List.set_cons_zero, List.set_cons_succ]
    clear q1
    refine MixL.call (o := ?_) (f := ?_) (args := ?_) ?_ ?_ ?_ ?_
    rotate_left 3
    (focus (first | (simp only [List.getElem?_toArray, List.getElem?_cons_succ, List.getElem?_cons_zero]; with_reducible rfl) | (simp only [List.getElem?_toArray, List.getElem?_cons_zero]; with_reducible rfl)))
    (focus rfl)
    (focus (go_simp; (constructor <;> with_reducible rfl)))
    with_reducible refine (CY1 _ hI9).mono ?_
    rintro e w10 ⟨rfl, K10, b10⟩; have hI10 := hI9.trans (b10.mono hI9.size); refine ⟨_, rfl, hI10, ?_⟩
    simp only [Act.put, List.setIfInBounds_toArray, List.set_cons_zero, List.set_cons_succ]
    have q2 := conv_lists (n := n) (c := n) (A := some ⟨w9.heap.size, 0, none⟩) (w := w10) (B := w10.heap.size) (E := FB (FA (oneE (wd * ht) 90))) (lists_of_blk K10) hlA h8A
    refine MixL.does (o := ?_) (v := ?_) (w1 := ?_) ?_ ?_ ?_ ?_ ?_
    rotate_left 3
    (focus (first | (simp only [List.getElem?_toArray, List.getElem?_cons_succ, List.getElem?_cons_zero]; with_reducible rfl) | (simp only [List.getElem?_toArray, List.getElem?_cons_zero]; with_reducible rfl)))
    (focus rfl)
    (focus (go_simp; (constructor <;> with_reducible rfl)))
    (focus (exact hI10))
    simp only [Act.put, List.setIfInBounds_toArray, List.set_cons_zero, List.set_cons_succ]
    clear q2
    repeat (first
      | (refine MixL.skip (o := ?_) ?_ ?_ ?_; rotate_left; (focus (first | (simp only [List.getElem?_toArray, List.getElem?_cons_succ, List.getElem?_cons_zero]; with_reducible rfl) | (simp only [List.getElem?_toArray, List.getElem?_cons_zero]; with_reducible rfl))); (focus rfl); simp only [Act.put, List.setIfInBounds_toArray, List.set_cons_zero, List.set_cons_succ])
      | (refine MixL.val (o := ?_) (v := ?_) ?_ ?_ ?_ ?_ ?_; rotate_left 2; (focus (first | (simp only [List.getElem?_toArray, List.getElem?_cons_succ, List.getElem?_cons_zero]; with_reducible rfl) | (simp only [List.getElem?_toArray, List.getElem?_cons_zero]; with_reducible rfl))); (focus (intro _ _ h; cases h)); (focus rfl); (focus (intro w' hJ; skip; go_simp <;> with_reducible rfl)); simp only [Act.put, List.setIfInBounds_toArray, List.set_cons_zero, List.set_cons_succ]))
    refine MixL.call (o := ?_) (f := ?_) (args := ?_) ?_ ?_ ?_ ?_
    rotate_left 3
    (focus (first | (simp only [List.getElem?_toArray, List.getElem?_cons_succ, List.getElem?_cons_zero]; with_reducible rfl) | (simp only [List.getElem?_toArray, List.getElem?_cons_zero]; with_reducible rfl)))
    (focus rfl)
    (focus (go_simp; (constructor <;> with_reducible rfl)))
    with_reducible refine (CK _).mono ?_
    rintro e w11 ⟨rfl, b11⟩; have hIz := hI10.trans (b11.mono hI10.size); refine ⟨_, rfl, hIz, ?_⟩
    simp only [Act.put, List.setIfInBounds_toArray, List.set_cons_zero, List.set_cons_succ]
    repeat (first
      | (refine MixL.skip (o := ?_) ?_ ?_ ?_; rotate_left; (focus (first | (simp only [List.getElem?_toArray, List.getElem?_cons_succ, List.getElem?_cons_zero]; with_reducible rfl) | (simp only [List.getElem?_toArray, List.getElem?_cons_zero]; with_reducible rfl))); (focus rfl); simp only [Act.put, List.setIfInBounds_toArray, List.set_cons_zero, List.set_cons_succ])
      | (refine MixL.val (o := ?_) (v := ?_) ?_ ?_ ?_ ?_ ?_; rotate_left 2; (focus (first | (simp only [List.getElem?_toArray, List.getElem?_cons_succ, List.getElem?_cons_zero]; with_reducible rfl) | (simp only [List.getElem?_toArray, List.getElem?_cons_zero]; with_reducible rfl))); (focus (intro _ _ h; cases h)); (focus rfl); (focus (intro w' hJ; skip; go_simp <;> with_reducible rfl)); simp only [Act.put, List.setIfInBounds_toArray, List.set_cons_zero, List.set_cons_succ]))
    refine MixL.nil ?_
    go_wp2
    go_ret
    exact ⟨rfl, HB.out.trans (hIz.mono HB.out.size)⟩
  · refine MixL.call (o := ?_) (f := ?_) (args := ?_) ?_ ?_ ?_ ?_
    rotate_left 3
    (focus (first | (simp only [List.getElem?_toArray, List.getElem?_cons_succ, List.getElem?_cons_zero]; with_reducible rfl) | (simp only [List.getElem?_toArray, List.getElem?_cons_zero]; with_reducible rfl)))
    (focus rfl)
    (focus (go_simp; (constructor <;> with_reducible rfl)))
    with_reducible refine (CY1 _ hI9).mono ?_
    rintro e w10 ⟨rfl, K10, b10⟩; have hI10 := hI9.trans (b10.mono hI9.size); refine ⟨_, rfl, hI10, ?_⟩
    simp only [Act.put, List.setIfInBounds_toArray, List.set_cons_zero, List.set_cons_succ]
    refine MixL.both ?_ ?_
    · have q1 := conv_lists (n := n) (c := n) (A := some ⟨w8.heap.size, 0, none⟩) (w := w10) (B := w10.heap.size) (E := FB (FA (oneE (wd * ht) 90))) (lists_of_blk (K9.below b10)) hlA h8A
      refine MixL.does (o := ?_) (v := ?_) (w1 := ?_) ?_ ?_ ?_ ?_ ?_
      rotate_left 3
      (focus (first | (simp only [List.getElem?_toArray, List.getElem?_cons_succ, List.getElem?_cons_zero]; with_reducible rfl) | (simp only [List.getElem?_toArray, List.getElem?_cons_zero]; with_reducible rfl)))
      (focus rfl)
      (focus (go_simp; (constructor <;> with_reducible rfl)))
      (focus (exact hI10))
      simp only [Act.put, List.setIfInBounds_toArray, List.set_cons_zero, List.set_cons_succ]
      clear q1
      have q2 := conv_lists (n := n) (c := n) (A := some ⟨w9.heap.size, 0, none⟩) (w := w10) (B := w10.heap.size) (E := FB (FA (oneE (wd * ht) 90))) (lists_of_blk K10) hlA h8A
      refine MixL.does (o := ?_) (v := ?_) (w1 := ?_) ?_ ?_ ?_ ?_ ?_
      rotate_left 3
      (focus (first | (simp only [List.getElem?_toArray, List.getElem?_cons_succ, List.getElem?_cons_zero]; with_reducible rfl) | (simp only [List.getElem?_toArray, List.getElem?_cons_zero]; with_reducible rfl)))
      (focus rfl)
      (focus (go_simp; (constructor <;> with_reducible rfl)))
      (focus (exact hI10))
      simp only [Act.put, List.setIfInBounds_toArray, List.set_cons_zero, List.set_cons_succ]
      clear q2
      repeat (first
        | (refine MixL.skip (o := ?_) ?_ ?_ ?_; rotate_left; (focus (first | (simp only [List.getElem?_toArray, List.getElem?_cons_succ, List.getElem?_cons_zero]; with_reducible rfl) | (simp only [List.getElem?_toArray, List.getElem?_cons_zero]; with_reducible rfl))); (focus rfl); simp only [Act.put, List.setIfInBounds_toArray, List.set_cons_zero, List.set_cons_succ])
        | (refine MixL.val (o := ?_) (v := ?_) ?_ ?_ ?_ ?_ ?_; rotate_left 2; (focus (first | (simp only [List.getElem?_toArray, List.getElem?_cons_succ, List.getElem?_cons_zero]; with_reducible rfl) | (simp only [List.getElem?_toArray, List.getElem?_cons_zero]; with_reducible rfl))); (focus (intro _ _ h; cases h)); (focus rfl); (focus (intro w' hJ; skip; go_simp <;> with_reducible rfl)); simp only [Act.put, List.setIfInBounds_toArray, List.set_cons_zero, List.set_cons_succ]))
      refine MixL.call (o := ?_) (f := ?_) (args := ?_) ?_ ?_ ?_ ?_
      rotate_left 3
      (focus (first | (simp only [List.getElem?_toArray, List.getElem?_cons_succ, List.getElem?_cons_zero]; with_reducible rfl) | (simp only [List.getElem?_toArray, List.getElem?_cons_zero]; with_reducible rfl)))
      (focus rfl)
      (focus (go_simp; (constructor <;> with_reducible rfl)))
      with_reducible refine (CK _).mono ?_
      rintro e w11 ⟨rfl, b11⟩; have hIz := hI10.trans (b11.mono hI10.size); refine ⟨_, rfl, hIz, ?_⟩
      simp only [Act.put, List.setIfInBounds_toArray, List.set_cons_zero, List.set_cons_succ]
      repeat (first
        | (refine MixL.skip (o := ?_) ?_ ?_ ?_; rotate_left; (focus (first | (simp only [List.getElem?_toArray, List.getElem?_cons_succ, List.getElem?_cons_zero]; with_reducible rfl) | (simp only [List.getElem?_toArray, List.getElem?_cons_zero]; with_reducible rfl))); (focus rfl); simp only [Act.put, List.setIfInBounds_toArray, List.set_cons_zero, List.set_cons_succ])
        | (refine MixL.val (o := ?_) (v := ?_) ?_ ?_ ?_ ?_ ?_; rotate_left 2; (focus (first | (simp only [List.getElem?_toArray, List.getElem?_cons_succ, List.getElem?_cons_zero]; with_reducible rfl) | (simp only [List.getElem?_toArray, List.getElem?_cons_zero]; with_reducible rfl))); (focus (intro _ _ h; cases h)); (focus rfl); (focus (intro w' hJ; skip; go_simp <;> with_reducible rfl)); simp only [Act.put, List.setIfInBounds_toArray, List.set_cons_zero, List.set_cons_succ]))
      refine MixL.nil ?_
      go_wp2
      go_ret
      exact ⟨rfl, HB.out.trans (hIz.mono HB.out.size)⟩
    · have q2 := conv_lists (n := n) (c := n) (A := some ⟨w9.heap.size, 0, none⟩) (w := w10) (B := w10.heap.size) (E := FB (FA (oneE (wd * ht) 90))) (lists_of_blk K10) hlA h8A
      refine MixL.does (o := ?_) (v := ?_) (w1 := ?_) ?_ ?_ ?_ ?_ ?_
      rotate_left 3
      (focus (first | (simp only [List.getElem?_toArray, List.getElem?_cons_succ, List.getElem?_cons_zero]; with_reducible rfl) | (simp only [List.getElem?_toArray, List.getElem?_cons_zero]; with_reducible rfl)))
      (focus rfl)
      (focus (go_simp; (constructor <;> with_reducible rfl)))
      (focus (exact hI10))
      simp only [Act.put, List.setIfInBounds_toArray, List.set_cons_zero, List.set_cons_succ]
      clear q2
      have q1 := conv_lists (n := n) (c := n) (A := some ⟨w8.heap.size, 0, none⟩) (w := w10) (B := w10.heap.size) (E := FB (FA (oneE (wd * ht) 90))) (lists_of_blk (K9.below b10)) hlA h8A
      refine MixL.does (o := ?_) (v := ?_) (w1 := ?_) ?_ ?_ ?_ ?_ ?_
      rotate_left 3
      (focus (first | (simp only [List.getElem?_toArray, List.getElem?_cons_succ, List.getElem?_cons_zero]; with_reducible rfl) | (simp only [List.getElem?_toArray, List.getElem?_cons_zero]; with_reducible rfl)))
      (focus rfl)
      (focus (go_simp; (constructor <;> with_reducible rfl)))
      (focus (exact hI10))
      simp only [Act.put, List.setIfInBounds_toArray, List.set_cons_zero, List.set_cons_succ]
      clear q1
      repeat (first
        | (refine MixL.skip (o := ?_) ?_ ?_ ?_; rotate_left; (focus (first | (simp only [List.getElem?_toArray, List.getElem?_cons_succ, List.getElem?_cons_zero]; with_reducible rfl) | (simp only [List.getElem?_toArray, List.getElem?_cons_zero]; with_reducible rfl))); (focus rfl); simp only [Act.put, List.setIfInBounds_toArray, List.set_cons_zero, List.set_cons_succ])
        | (refine MixL.val (o := ?_) (v := ?_) ?_ ?_ ?_ ?_ ?_; rotate_left 2; (focus (first | (simp only [List.getElem?_toArray, List.getElem?_cons_succ, List.getElem?_cons_zero]; with_reducible rfl) | (simp only [List.getElem?_toArray, List.getElem?_cons_zero]; with_reducible rfl))); (focus (intro _ _ h; cases h)); (focus rfl); (focus (intro w' hJ; skip; go_simp <;> with_reducible rfl)); simp only [Act.put, List.setIfInBounds_toArray, List.set_cons_zero, List.set_cons_succ]))
      refine MixL.call (o := ?_) (f := ?_) (args := ?_) ?_ ?_ ?_ ?_
      rotate_left 3
      (focus (first | (simp only [List.getElem?_toArray, List.getElem?_cons_succ, List.getElem?_cons_zero]; with_reducible rfl) | (simp only [List.getElem?_toArray, List.getElem?_cons_zero]; with_reducible rfl)))
      (focus rfl)
      (focus (go_simp; (constructor <;> with_reducible rfl)))
      with_reducible refine (CK _).mono ?_
      rintro e w11 ⟨rfl, b11⟩; have hIz := hI10.trans (b11.mono hI10.size); refine ⟨_, rfl, hIz, ?_⟩
      simp only [Act.put, List.setIfInBounds_toArray, List.set_cons_zero, List.set_cons_succ]
      repeat (first
        | (refine MixL.skip (o := ?_) ?_ ?_ ?_; rotate_left; (focus (first | (simp only [List.getElem?_toArray, List.getElem?_cons_succ, List.getElem?_cons_zero]; with_reducible rfl) | (simp only [List.getElem?_toArray, List.getElem?_cons_zero]; with_reducible rfl))); (focus rfl); simp only [Act.put, List.setIfInBounds_toArray, List.set_cons_zero, List.set_cons_succ])
        | (refine MixL.val (o := ?_) (v := ?_) ?_ ?_ ?_ ?_ ?_; rotate_left 2; (focus (first | (simp only [List.getElem?_toArray, List.getElem?_cons_succ, List.getElem?_cons_zero]; with_reducible rfl) | (simp only [List.getElem?_toArray, List.getElem?_cons_zero]; with_reducible rfl))); (focus (intro _ _ h; cases h)); (focus rfl); (focus (intro w' hJ; skip; go_simp <;> with_reducible rfl)); simp only [Act.put, List.setIfInBounds_toArray, List.set_cons_zero, List.set_cons_succ]))
      refine MixL.nil ?_
      go_wp2
      go_ret
      exact ⟨rfl, HB.out.trans (hIz.mono HB.out.size)⟩
set_option maxRecDepth 100000 in
set_option maxHeartbeats 8000000 in
theorem in_n (wd ht : Nat) (hd : 1 ≤ wd ∧ 1 ≤ ht) (hd2 : wd ≤ 100 ∧ ht ≤ 100) (kd0 : Int) (A0 : Q) (Am0 : Option Addr) (mc0 : Nat) (E0 : List Value) (D0 : Q) (x0 y0 cc0 : Int) (k0 : E0.length ≤ mc0) (m0 : mc0 ≤ 9223372036854775807) (l0 : Lists W W.heap.size Am0 E0) (s0 : Bytes8 E0) (kd1 : Int) (A1 : Q) (Am1 : Option Addr) (mc1 : Nat) (E1 : List Value) (D1 : Q) (x1 y1 cc1 : Int) (k1 : E1.length ≤ mc1) (m1 : mc1 ≤ 9223372036854775807) (l1 : Lists W W.heap.size Am1 E1) (s1 : Bytes8 E1) (hn0 : E0.length ≤ 16384) (hn1 : E1.length ≤ 16384) (hz : zerB (meetR (blBox wd ht A0 E0.length x0 y0 cc0) (blBox wd ht A1 E1.length x1 y1 cc1)) = false) : Calls Try.prog 7 #[.int .i64 (wd : Nat), .int .i64 (ht : Nat), .agg #[.int .i64 kd0, .int .i64 A0.x0, .int .i64 A0.y0, .int .i64 A0.x1, .int .i64 A0.y1, .slice Am0 E0.length mc0, .int .i64 D0.x0, .int .i64 D0.y0, .int .i64 D0.x1, .int .i64 D0.y1, .int .i64 x0, .int .i64 y0, .int .i64 cc0], .agg #[.int .i64 kd1, .int .i64 A1.x0, .int .i64 A1.y0, .int .i64 A1.x1, .int .i64 A1.y1, .slice Am1 E1.length mc1, .int .i64 D1.x0, .int .i64 D1.y0, .int .i64 D1.x1, .int .i64 D1.y1, .int .i64 x1, .int .i64 y1, .int .i64 cc1]] W fun e w' => e = .returned (.bool true) ∧ Below W.heap.size W w' := by
  have CL := fun W => lives26 W
  have hmay : mayCn wd ht 90 = true := by unfold mayCn inZ; simp; omega
  have CB0 := fun q g E (V : World) (hX : CnV V q g wd ht E) (hB : Below W.heap.size W V) (hg : W.heap.size + 1 < g) => cnblend_all q g wd ht mc0 E A0 Am0 E0 x0 y0 cc0 V hX ((l0.below hB).more hB.size) s0 k0 (fun a ha hn => by have := l0.lt a ha hn; omega)
  have CB1 := fun q g E (V : World) (hX : CnV V q g wd ht E) (hB : Below W.heap.size W V) (hg : W.heap.size + 1 < g) => cnblend_all q g wd ht mc1 E A1 Am1 E1 x1 y1 cc1 V hX ((l1.below hB).more hB.size) s1 k1 (fun a ha hn => by have := l1.lt a ha hn; omega)
  
  
  
  generalize blCode A0 E0.length x0 y0 cc0 = cd0 at *
  generalize blCode A1 E1.length x1 y1 cc1 = cd1 at *
  generalize blBox wd ht A0 E0.length x0 y0 cc0 = P at *
  generalize blBox wd ht A1 E1.length x1 y1 cc1 = R at *
  generalize blAll wd ht A0 E0 x0 y0 cc0 = FA at *
  generalize blAll wd ht A1 E1 x1 y1 cc1 = FB at *
  generalize E0.length = n0 at *
  generalize E1.length = n1 at *
  have r1 := fun w => neB_run P.x0 P.y0 P.x1 P.y1 P.x0 P.y0 P.x1 P.y1 w
  have r2 := fun x y w => neB_guard P.x0 P.y0 P.x1 P.y1 P.x0 P.y0 P.x1 P.y1 x y w
  have r3 := fun w => neB_run R.x0 R.y0 R.x1 R.y1 R.x0 R.y0 R.x1 R.y1 w
  have r4 := fun x y w => neB_guard R.x0 R.y0 R.x1 R.y1 R.x0 R.y0 R.x1 R.y1 x y w
  have r5 := fun w => neB_run (meetR P R).x0 (meetR P R).y0 (meetR P R).x1 (meetR P R).y1 0 0 0 0 w
  have r6 := fun x y w => neB_guard (meetR P R).x0 (meetR P R).y0 (meetR P R).x1 (meetR P R).y1 0 0 0 0 x y w
  rw [eq4_refl] at r1 r3
  rw [show eq4 (meetR P R).x0 (meetR P R).y0 (meetR P R).x1 (meetR P R).y1 0 0 0 0 = false from hz] at r5
  clear hz l0 s0 k0 l1 s1 k1
  have B : Below W.heap.size W ((W.alloc (.cells #[.int .i64 kd0, .int .i64 A0.x0, .int .i64 A0.y0, .int .i64 A0.x1, .int .i64 A0.y1, .slice Am0 n0 mc0, .int .i64 D0.x0, .int .i64 D0.y0, .int .i64 D0.x1, .int .i64 D0.y1, .int .i64 x0, .int .i64 y0, .int .i64 cc0] 37)).alloc (.cells #[.int .i64 kd1, .int .i64 A1.x0, .int .i64 A1.y0, .int .i64 A1.x1, .int .i64 A1.y1, .slice Am1 n1 mc1, .int .i64 D1.x0, .int .i64 D1.y0, .int .i64 D1.x1, .int .i64 D1.y1, .int .i64 x1, .int .i64 y1, .int .i64 cc1] 37)) := below_a2 _ _ _
  have Ka := (Blk.new W 37 #[.int .i64 kd0, .int .i64 A0.x0, .int .i64 A0.y0, .int .i64 A0.x1, .int .i64 A0.y1, .slice Am0 n0 mc0, .int .i64 D0.x0, .int .i64 D0.y0, .int .i64 D0.x1, .int .i64 D0.y1, .int .i64 x0, .int .i64 y0, .int .i64 cc0]).below (below_a1 _ (.cells #[.int .i64 kd1, .int .i64 A1.x0, .int .i64 A1.y0, .int .i64 A1.x1, .int .i64 A1.y1, .slice Am1 n1 mc1, .int .i64 D1.x0, .int .i64 D1.y0, .int .i64 D1.x1, .int .i64 D1.y1, .int .i64 x1, .int .i64 y1, .int .i64 cc1] 37))
  have Kb := Blk.new (W.alloc (.cells #[.int .i64 kd0, .int .i64 A0.x0, .int .i64 A0.y0, .int .i64 A0.x1, .int .i64 A0.y1, .slice Am0 n0 mc0, .int .i64 D0.x0, .int .i64 D0.y0, .int .i64 D0.x1, .int .i64 D0.y1, .int .i64 x0, .int .i64 y0, .int .i64 cc0] 37)) 37 #[.int .i64 kd1, .int .i64 A1.x0, .int .i64 A1.y0, .int .i64 A1.x1, .int .i64 A1.y1, .slice Am1 n1 mc1, .int .i64 D1.x0, .int .i64 D1.y0, .int .i64 D1.x1, .int .i64 D1.y1, .int .i64 x1, .int .i64 y1, .int .i64 cc1]
  rw [World.size_alloc] at Kb
  have a0 := Ka.cell 0; have a1 := Ka.cell 1; have a2 := Ka.cell 2; have a3 := Ka.cell 3; have a4 := Ka.cell 4; have a5 := Ka.cell 5; have a6 := Ka.cell 6; have a7 := Ka.cell 7; have a8 := Ka.cell 8; have a9 := Ka.cell 9; have a10 := Ka.cell 10; have a11 := Ka.cell 11; have a12 := Ka.cell 12; have al := Ka.lt; simp only [List.getElem?_toArray, List.getElem?_cons_succ, List.getElem?_cons_zero] at a0 a1 a2 a3 a4 a5 a6 a7 a8 a9 a10 a11 a12; have b0 := Kb.cell 0; have b1 := Kb.cell 1; have b2 := Kb.cell 2; have b3 := Kb.cell 3; have b4 := Kb.cell 4; have b5 := Kb.cell 5; have b6 := Kb.cell 6; have b7 := Kb.cell 7; have b8 := Kb.cell 8; have b9 := Kb.cell 9; have b10 := Kb.cell 10; have b11 := Kb.cell 11; have b12 := Kb.cell 12; have bl := Kb.lt; simp only [List.getElem?_toArray, List.getElem?_cons_succ, List.getElem?_cons_zero] at b0 b1 b2 b3 b4 b5 b6 b7 b8 b9 b10 b11 b12
  go_enter Try.func7, Try.ntmps7
  go_wp2_with (first | (go_at_call 10; ((with_reducible refine (cnnew_ok wd ht 90 _ hmay).mono ?_); rintro e w1 ⟨q0, g0, rfl, X0, hq0, hg0, b1⟩; have B := B.trans (b1.mono B.size); simp only [World.size_alloc] at hq0 hg0; have L1 := X0.row.lt; have M1 := X0.blk.lt; have Ka := Ka.below b1; have Kb := Kb.below b1; have a0 := Ka.cell 0; have a1 := Ka.cell 1; have a2 := Ka.cell 2; have a3 := Ka.cell 3; have a4 := Ka.cell 4; have a5 := Ka.cell 5; have a6 := Ka.cell 6; have a7 := Ka.cell 7; have a8 := Ka.cell 8; have a9 := Ka.cell 9; have a10 := Ka.cell 10; have a11 := Ka.cell 11; have a12 := Ka.cell 12; have al := Ka.lt; simp only [List.getElem?_toArray, List.getElem?_cons_succ, List.getElem?_cons_zero] at a0 a1 a2 a3 a4 a5 a6 a7 a8 a9 a10 a11 a12; have b0 := Kb.cell 0; have b1 := Kb.cell 1; have b2 := Kb.cell 2; have b3 := Kb.cell 3; have b4 := Kb.cell 4; have b5 := Kb.cell 5; have b6 := Kb.cell 6; have b7 := Kb.cell 7; have b8 := Kb.cell 8; have b9 := Kb.cell 9; have b10 := Kb.cell 10; have b11 := Kb.cell 11; have b12 := Kb.cell 12; have bl := Kb.lt; simp only [List.getElem?_toArray, List.getElem?_cons_succ, List.getElem?_cons_zero] at b0 b1 b2 b3 b4 b5 b6 b7 b8 b9 b10 b11 b12)) | (go_at_call 10; ((with_reducible refine (cnnew_ok wd ht 90 w1 hmay).mono ?_); rintro e w2 ⟨q1, g1, rfl, X1, hq1, hg1, b2⟩; have B := B.trans (b2.mono B.size); have X0 := X0.below b2; have L2 := X1.row.lt; have M2 := X1.blk.lt; have Ka := Ka.below b2; have Kb := Kb.below b2; have a0 := Ka.cell 0; have a1 := Ka.cell 1; have a2 := Ka.cell 2; have a3 := Ka.cell 3; have a4 := Ka.cell 4; have a5 := Ka.cell 5; have a6 := Ka.cell 6; have a7 := Ka.cell 7; have a8 := Ka.cell 8; have a9 := Ka.cell 9; have a10 := Ka.cell 10; have a11 := Ka.cell 11; have a12 := Ka.cell 12; have al := Ka.lt; simp only [List.getElem?_toArray, List.getElem?_cons_succ, List.getElem?_cons_zero] at a0 a1 a2 a3 a4 a5 a6 a7 a8 a9 a10 a11 a12; have b0 := Kb.cell 0; have b1 := Kb.cell 1; have b2 := Kb.cell 2; have b3 := Kb.cell 3; have b4 := Kb.cell 4; have b5 := Kb.cell 5; have b6 := Kb.cell 6; have b7 := Kb.cell 7; have b8 := Kb.cell 8; have b9 := Kb.cell 9; have b10 := Kb.cell 10; have b11 := Kb.cell 11; have b12 := Kb.cell 12; have bl := Kb.lt; simp only [List.getElem?_toArray, List.getElem?_cons_succ, List.getElem?_cons_zero] at b0 b1 b2 b3 b4 b5 b6 b7 b8 b9 b10 b11 b12)) | (go_at_call 9; ((with_reducible refine (CL _).mono ?_); rintro e w3 ⟨rfl, b3⟩; have B := B.trans (b3.mono B.size); have X0 := X0.below b3; have X1 := X1.below b3; have L3 := X1.row.lt; have M3 := X1.blk.lt; have Ka := Ka.below b3; have Kb := Kb.below b3; have a0 := Ka.cell 0; have a1 := Ka.cell 1; have a2 := Ka.cell 2; have a3 := Ka.cell 3; have a4 := Ka.cell 4; have a5 := Ka.cell 5; have a6 := Ka.cell 6; have a7 := Ka.cell 7; have a8 := Ka.cell 8; have a9 := Ka.cell 9; have a10 := Ka.cell 10; have a11 := Ka.cell 11; have a12 := Ka.cell 12; have al := Ka.lt; simp only [List.getElem?_toArray, List.getElem?_cons_succ, List.getElem?_cons_zero] at a0 a1 a2 a3 a4 a5 a6 a7 a8 a9 a10 a11 a12; have b0 := Kb.cell 0; have b1 := Kb.cell 1; have b2 := Kb.cell 2; have b3 := Kb.cell 3; have b4 := Kb.cell 4; have b5 := Kb.cell 5; have b6 := Kb.cell 6; have b7 := Kb.cell 7; have b8 := Kb.cell 8; have b9 := Kb.cell 9; have b10 := Kb.cell 10; have b11 := Kb.cell 11; have b12 := Kb.cell 12; have bl := Kb.lt; simp only [List.getElem?_toArray, List.getElem?_cons_succ, List.getElem?_cons_zero] at b0 b1 b2 b3 b4 b5 b6 b7 b8 b9 b10 b11 b12)) | (go_at_call 18; ((with_reducible refine (CB0 q0 g0 _ _ X0 B (by omega)).mono ?_); rintro e w4 ⟨rfl, Y4, o4⟩; have zz4 := o4.size; have B := B.trans (o4.to_below B.size (by simp; omega)); have c4 : Below w4.heap.size w4 ((w4.alloc (.cells #[.int .i64 0, .int .i64 0, .int .i64 0, .int .i64 0] 32)).setRow w4.heap.size (qV P)) := below_setRow (below_a1 w4 _) (Nat.le_refl _) _; have hz4 := c4.size; have Ka := Ka.only o4 (by simp; omega); have Kb := Kb.only o4 (by simp; omega); have L4 := Y4.row.lt; have M4 := Y4.blk.lt; have X1 := (X1.only o4 (by simp; omega) (by simp; omega)).below c4; have X0 := Y4.below c4; have J4 := Blk.new w4 32 #[.int .i64 0, .int .i64 0, .int .i64 0, .int .i64 0]; have HJ4 := Lib.hid J4; have J4 := blk_row J4 (qV P); have jl4 := J4.lt; have Ka := Ka.below c4; have Kb := Kb.below c4; have a0 := Ka.cell 0; have a1 := Ka.cell 1; have a2 := Ka.cell 2; have a3 := Ka.cell 3; have a4 := Ka.cell 4; have a5 := Ka.cell 5; have a6 := Ka.cell 6; have a7 := Ka.cell 7; have a8 := Ka.cell 8; have a9 := Ka.cell 9; have a10 := Ka.cell 10; have a11 := Ka.cell 11; have a12 := Ka.cell 12; have al := Ka.lt; simp only [List.getElem?_toArray, List.getElem?_cons_succ, List.getElem?_cons_zero] at a0 a1 a2 a3 a4 a5 a6 a7 a8 a9 a10 a11 a12; have b0 := Kb.cell 0; have b1 := Kb.cell 1; have b2 := Kb.cell 2; have b3 := Kb.cell 3; have b4 := Kb.cell 4; have b5 := Kb.cell 5; have b6 := Kb.cell 6; have b7 := Kb.cell 7; have b8 := Kb.cell 8; have b9 := Kb.cell 9; have b10 := Kb.cell 10; have b11 := Kb.cell 11; have b12 := Kb.cell 12; have bl := Kb.lt; simp only [List.getElem?_toArray, List.getElem?_cons_succ, List.getElem?_cons_zero] at b0 b1 b2 b3 b4 b5 b6 b7 b8 b9 b10 b11 b12; have B := B.trans (c4.mono B.size))) | (refine wpList_store_row rfl 32 (.tmp 13) (.tmp 91) (by with_reducible rfl) w4.heap.size (qV P) (by rfl) (by rfl) 32 #[.int .i64 0, .int .i64 0, .int .i64 0, .int .i64 0] (by exact HJ4.out) (bxInfoF P) rfl (by simp [qV, Value.oneCell']) ?_))
  go_wp2_with (first | (go_at_call 18; ((with_reducible refine (CB1 q0 g0 _ _ X0 B (by omega)).mono ?_); rintro e w5 ⟨rfl, Y5, o5⟩; have zz5 := o5.size; have B := B.trans (o5.to_below B.size (by simp; omega)); have c5 : Below w5.heap.size w5 ((w5.alloc (.cells #[.int .i64 0, .int .i64 0, .int .i64 0, .int .i64 0] 32)).setRow w5.heap.size (qV R)) := below_setRow (below_a1 w5 _) (Nat.le_refl _) _; have hz5 := c5.size; have Ka := Ka.only o5 (by simp; omega); have Kb := Kb.only o5 (by simp; omega); have J4 := (J4.only o5 (by simp; omega)).below c5; have L5 := Y5.row.lt; have M5 := Y5.blk.lt; have X1 := (X1.only o5 (by simp; omega) (by simp; omega)).below c5; have X0 := Y5.below c5; have J5 := Blk.new w5 32 #[.int .i64 0, .int .i64 0, .int .i64 0, .int .i64 0]; have HJ5 := Lib.hid J5; have J5 := blk_row J5 (qV R); have jl5 := J5.lt; have Ka := Ka.below c5; have Kb := Kb.below c5; have a0 := Ka.cell 0; have a1 := Ka.cell 1; have a2 := Ka.cell 2; have a3 := Ka.cell 3; have a4 := Ka.cell 4; have a5 := Ka.cell 5; have a6 := Ka.cell 6; have a7 := Ka.cell 7; have a8 := Ka.cell 8; have a9 := Ka.cell 9; have a10 := Ka.cell 10; have a11 := Ka.cell 11; have a12 := Ka.cell 12; have al := Ka.lt; simp only [List.getElem?_toArray, List.getElem?_cons_succ, List.getElem?_cons_zero] at a0 a1 a2 a3 a4 a5 a6 a7 a8 a9 a10 a11 a12; have b0 := Kb.cell 0; have b1 := Kb.cell 1; have b2 := Kb.cell 2; have b3 := Kb.cell 3; have b4 := Kb.cell 4; have b5 := Kb.cell 5; have b6 := Kb.cell 6; have b7 := Kb.cell 7; have b8 := Kb.cell 8; have b9 := Kb.cell 9; have b10 := Kb.cell 10; have b11 := Kb.cell 11; have b12 := Kb.cell 12; have bl := Kb.lt; simp only [List.getElem?_toArray, List.getElem?_cons_succ, List.getElem?_cons_zero] at b0 b1 b2 b3 b4 b5 b6 b7 b8 b9 b10 b11 b12; have B := B.trans (c5.mono B.size))) | (refine wpList_store_row rfl 32 (.tmp 15) (.tmp 104) (by with_reducible rfl) w5.heap.size (qV R) (by rfl) (by rfl) 32 #[.int .i64 0, .int .i64 0, .int .i64 0, .int .i64 0] (by exact HJ5.out) (bxInfoF R) rfl (by simp [qV, Value.oneCell']) ?_))
  go_wp2_with (first | (go_at_call 18; ((with_reducible refine (CB1 q1 g1 _ _ X1 B (by omega)).mono ?_); rintro e w6 ⟨rfl, Y6, o6⟩; have zz6 := o6.size; have B := B.trans (o6.to_below B.size (by simp; omega)); have c6 : Below w6.heap.size w6 ((w6.alloc (.cells #[.int .i64 0, .int .i64 0, .int .i64 0, .int .i64 0] 32)).setRow w6.heap.size (qV R)) := below_setRow (below_a1 w6 _) (Nat.le_refl _) _; have hz6 := c6.size; have Ka := Ka.only o6 (by simp; omega); have Kb := Kb.only o6 (by simp; omega); have J4 := (J4.only o6 (by simp; omega)).below c6; have J5 := (J5.only o6 (by simp; omega)).below c6; have L6 := Y6.row.lt; have M6 := Y6.blk.lt; have X0 := (X0.only o6 (by simp; omega) (by simp; omega)).below c6; have X1 := Y6.below c6; have J6 := Blk.new w6 32 #[.int .i64 0, .int .i64 0, .int .i64 0, .int .i64 0]; have HJ6 := Lib.hid J6; have J6 := blk_row J6 (qV R); have jl6 := J6.lt; have Ka := Ka.below c6; have Kb := Kb.below c6; have a0 := Ka.cell 0; have a1 := Ka.cell 1; have a2 := Ka.cell 2; have a3 := Ka.cell 3; have a4 := Ka.cell 4; have a5 := Ka.cell 5; have a6 := Ka.cell 6; have a7 := Ka.cell 7; have a8 := Ka.cell 8; have a9 := Ka.cell 9; have a10 := Ka.cell 10; have a11 := Ka.cell 11; have a12 := Ka.cell 12; have al := Ka.lt; simp only [List.getElem?_toArray, List.getElem?_cons_succ, List.getElem?_cons_zero] at a0 a1 a2 a3 a4 a5 a6 a7 a8 a9 a10 a11 a12; have b0 := Kb.cell 0; have b1 := Kb.cell 1; have b2 := Kb.cell 2; have b3 := Kb.cell 3; have b4 := Kb.cell 4; have b5 := Kb.cell 5; have b6 := Kb.cell 6; have b7 := Kb.cell 7; have b8 := Kb.cell 8; have b9 := Kb.cell 9; have b10 := Kb.cell 10; have b11 := Kb.cell 11; have b12 := Kb.cell 12; have bl := Kb.lt; simp only [List.getElem?_toArray, List.getElem?_cons_succ, List.getElem?_cons_zero] at b0 b1 b2 b3 b4 b5 b6 b7 b8 b9 b10 b11 b12; have B := B.trans (c6.mono B.size))) | (refine wpList_store_row rfl 32 (.tmp 17) (.tmp 117) (by with_reducible rfl) w6.heap.size (qV R) (by rfl) (by rfl) 32 #[.int .i64 0, .int .i64 0, .int .i64 0, .int .i64 0] (by exact HJ6.out) (bxInfoF R) rfl (by simp [qV, Value.oneCell']) ?_))
  go_wp2_with (first | (go_at_call 18; ((with_reducible refine (CB0 q1 g1 _ _ X1 B (by omega)).mono ?_); rintro e w7 ⟨rfl, Y7, o7⟩; have zz7 := o7.size; have B := B.trans (o7.to_below B.size (by simp; omega)); have c7 : Below w7.heap.size w7 ((w7.alloc (.cells #[.int .i64 0, .int .i64 0, .int .i64 0, .int .i64 0] 32)).setRow w7.heap.size (qV P)) := below_setRow (below_a1 w7 _) (Nat.le_refl _) _; have hz7 := c7.size; have Ka := Ka.only o7 (by simp; omega); have Kb := Kb.only o7 (by simp; omega); have J4 := (J4.only o7 (by simp; omega)).below c7; have J5 := (J5.only o7 (by simp; omega)).below c7; have J6 := (J6.only o7 (by simp; omega)).below c7; have L7 := Y7.row.lt; have M7 := Y7.blk.lt; have X0 := (X0.only o7 (by simp; omega) (by simp; omega)).below c7; have X1 := Y7.below c7; have J7 := Blk.new w7 32 #[.int .i64 0, .int .i64 0, .int .i64 0, .int .i64 0]; have HJ7 := Lib.hid J7; have J7 := blk_row J7 (qV P); have jl7 := J7.lt; have Ka := Ka.below c7; have Kb := Kb.below c7; have a0 := Ka.cell 0; have a1 := Ka.cell 1; have a2 := Ka.cell 2; have a3 := Ka.cell 3; have a4 := Ka.cell 4; have a5 := Ka.cell 5; have a6 := Ka.cell 6; have a7 := Ka.cell 7; have a8 := Ka.cell 8; have a9 := Ka.cell 9; have a10 := Ka.cell 10; have a11 := Ka.cell 11; have a12 := Ka.cell 12; have al := Ka.lt; simp only [List.getElem?_toArray, List.getElem?_cons_succ, List.getElem?_cons_zero] at a0 a1 a2 a3 a4 a5 a6 a7 a8 a9 a10 a11 a12; have b0 := Kb.cell 0; have b1 := Kb.cell 1; have b2 := Kb.cell 2; have b3 := Kb.cell 3; have b4 := Kb.cell 4; have b5 := Kb.cell 5; have b6 := Kb.cell 6; have b7 := Kb.cell 7; have b8 := Kb.cell 8; have b9 := Kb.cell 9; have b10 := Kb.cell 10; have b11 := Kb.cell 11; have b12 := Kb.cell 12; have bl := Kb.lt; simp only [List.getElem?_toArray, List.getElem?_cons_succ, List.getElem?_cons_zero] at b0 b1 b2 b3 b4 b5 b6 b7 b8 b9 b10 b11 b12; have B := B.trans (c7.mono B.size); have j40 := (J4.cell 0).trans (show (qV P)[0]? = some (.int .i64 P.x0) from rfl); have j41 := (J4.cell 1).trans (show (qV P)[1]? = some (.int .i64 P.y0) from rfl); have j42 := (J4.cell 2).trans (show (qV P)[2]? = some (.int .i64 P.x1) from rfl); have j43 := (J4.cell 3).trans (show (qV P)[3]? = some (.int .i64 P.y1) from rfl); have j50 := (J5.cell 0).trans (show (qV R)[0]? = some (.int .i64 R.x0) from rfl); have j51 := (J5.cell 1).trans (show (qV R)[1]? = some (.int .i64 R.y0) from rfl); have j52 := (J5.cell 2).trans (show (qV R)[2]? = some (.int .i64 R.x1) from rfl); have j53 := (J5.cell 3).trans (show (qV R)[3]? = some (.int .i64 R.y1) from rfl); have j60 := (J6.cell 0).trans (show (qV R)[0]? = some (.int .i64 R.x0) from rfl); have j61 := (J6.cell 1).trans (show (qV R)[1]? = some (.int .i64 R.y0) from rfl); have j62 := (J6.cell 2).trans (show (qV R)[2]? = some (.int .i64 R.x1) from rfl); have j63 := (J6.cell 3).trans (show (qV R)[3]? = some (.int .i64 R.y1) from rfl); have j70 := (J7.cell 0).trans (show (qV P)[0]? = some (.int .i64 P.x0) from rfl); have j71 := (J7.cell 1).trans (show (qV P)[1]? = some (.int .i64 P.y0) from rfl); have j72 := (J7.cell 2).trans (show (qV P)[2]? = some (.int .i64 P.x1) from rfl); have j73 := (J7.cell 3).trans (show (qV P)[3]? = some (.int .i64 P.y1) from rfl); have jl4 := J4.lt; have jl5 := J5.lt; have jl6 := J6.lt; have jl7 := J7.lt)) | (refine wpList_store_row rfl 32 (.tmp 19) (.tmp 130) (by with_reducible rfl) w7.heap.size (qV P) (by rfl) (by rfl) 32 #[.int .i64 0, .int .i64 0, .int .i64 0, .int .i64 0] (by exact HJ7.out) (bxInfoF P) rfl (by simp [qV, Value.oneCell']) ?_) | (go_at_call 24; ((with_reducible refine (rmeet_any P R _).mono ?_); rintro e w8 ⟨rfl, b8⟩; have B := B.trans (b8.mono B.size); have X0 := X0.below b8; have X1 := X1.below b8)))
  go_ret
  exact ⟨rfl, B⟩
theorem walk (a : Int) (_ : (Lit.int .i64 a).wf = true) (b : Int) (_ : (Lit.int .i64 b).wf = true) (kd0 : Int) (A0 : Q) (Am0 : Option Addr) (mc0 : Nat) (E0 : List Value) (D0 : Q) (x0 y0 cc0 : Int) (k0 : E0.length ≤ mc0) (m0 : mc0 ≤ 9223372036854775807) (l0 : Lists W W.heap.size Am0 E0) (s0 : Bytes8 E0) (kd1 : Int) (A1 : Q) (Am1 : Option Addr) (mc1 : Nat) (E1 : List Value) (D1 : Q) (x1 y1 cc1 : Int) (k1 : E1.length ≤ mc1) (m1 : mc1 ≤ 9223372036854775807) (l1 : Lists W W.heap.size Am1 E1) (s1 : Bytes8 E1) : Calls Try.prog 7 #[.int .i64 a, .int .i64 b, .agg #[.int .i64 kd0, .int .i64 A0.x0, .int .i64 A0.y0, .int .i64 A0.x1, .int .i64 A0.y1, .slice Am0 E0.length mc0, .int .i64 D0.x0, .int .i64 D0.y0, .int .i64 D0.x1, .int .i64 D0.y1, .int .i64 x0, .int .i64 y0, .int .i64 cc0], .agg #[.int .i64 kd1, .int .i64 A1.x0, .int .i64 A1.y0, .int .i64 A1.x1, .int .i64 A1.y1, .slice Am1 E1.length mc1, .int .i64 D1.x0, .int .i64 D1.y0, .int .i64 D1.x1, .int .i64 D1.y1, .int .i64 x1, .int .i64 y1, .int .i64 cc1]] W fun e w' => e = .returned (.bool true) ∧ Below W.heap.size W w' := by
  by_cases h0 : a < 1
  · exact out_0 a b kd0 A0 Am0 mc0 E0 D0 x0 y0 cc0 k0 m0 l0 s0 kd1 A1 Am1 mc1 E1 D1 x1 y1 cc1 k1 m1 l1 s1 h0
  · by_cases h1 : 100 < a
    · exact out_1 a b kd0 A0 Am0 mc0 E0 D0 x0 y0 cc0 k0 m0 l0 s0 kd1 A1 Am1 mc1 E1 D1 x1 y1 cc1 k1 m1 l1 s1 (by omega) h1
    · by_cases h2 : b < 1
      · exact out_2 a b kd0 A0 Am0 mc0 E0 D0 x0 y0 cc0 k0 m0 l0 s0 kd1 A1 Am1 mc1 E1 D1 x1 y1 cc1 k1 m1 l1 s1 (by omega) (by omega) h2
      · by_cases h3 : 100 < b
        · exact out_3 a b kd0 A0 Am0 mc0 E0 D0 x0 y0 cc0 k0 m0 l0 s0 kd1 A1 Am1 mc1 E1 D1 x1 y1 cc1 k1 m1 l1 s1 (by omega) (by omega) (by omega) h3
        · by_cases h4 : 16384 < E0.length
          · exact out_4 a b kd0 A0 Am0 mc0 E0 D0 x0 y0 cc0 k0 m0 l0 s0 kd1 A1 Am1 mc1 E1 D1 x1 y1 cc1 k1 m1 l1 s1 (by omega) (by omega) (by omega) (by omega) h4
          · by_cases h5 : 16384 < E1.length
            · exact out_5 a b kd0 A0 Am0 mc0 E0 D0 x0 y0 cc0 k0 m0 l0 s0 kd1 A1 Am1 mc1 E1 D1 x1 y1 cc1 k1 m1 l1 s1 (by omega) (by omega) (by omega) (by omega) (by omega) h5
            · obtain ⟨wd, rfl⟩ : ∃ wd : Nat, a = wd := ⟨a.toNat, by omega⟩
              obtain ⟨ht, rfl⟩ : ∃ ht : Nat, b = ht := ⟨b.toNat, by omega⟩
              cases hz : zerB (meetR (blBox wd ht A0 E0.length x0 y0 cc0) (blBox wd ht A1 E1.length x1 y1 cc1))
              · exact in_n wd ht (by omega) (by omega) kd0 A0 Am0 mc0 E0 D0 x0 y0 cc0 k0 m0 l0 s0 kd1 A1 Am1 mc1 E1 D1 x1 y1 cc1 k1 m1 l1 s1 (by omega) (by omega) hz
              · exact in_z wd ht (by omega) (by omega) kd0 A0 Am0 mc0 E0 D0 x0 y0 cc0 k0 m0 l0 s0 kd1 A1 Am1 mc1 E1 D1 x1 y1 cc1 k1 m1 l1 s1 (by omega) (by omega) hz

set_option linter.unusedVariables false in
set_option maxRecDepth 100000 in
theorem lifted (os : Os) (started : os.Started) (H : Type) (enc : TypeId × Value → H) :
    ReturnsInHanded {} Try.checked os 7 .any (Rows.canvasCommutesSpec.pre6 enc Try.prog Try.f7 Rows.canvasCommutesRow.domain false) (Rows.canvasCommutesSpec.post enc Try.prog Try.f7 false true false false) := by
  refine returnsInHanded_of_change (C := Try.checked) Try.own started (by kernel_rfl) Try.func7
    (ChangeSpec.witness6 (enc := enc) (C := Try.checked) false ⟨#[], #[.int .i64 0, .int .i64 0, .agg #[.int .i64 0, .int .i64 0, .int .i64 0, .int .i64 0, .int .i64 0, .slice none 0 0, .int .i64 0, .int .i64 0, .int .i64 0, .int .i64 0, .int .i64 0, .int .i64 0, .int .i64 0], .agg #[.int .i64 0, .int .i64 0, .int .i64 0, .int .i64 0, .int .i64 0, .slice none 0 0, .int .i64 0, .int .i64 0, .int .i64 0, .int .i64 0, .int .i64 0, .int .i64 0, .int .i64 0]], []⟩ 8 (by kernel_rfl) (by kernel_rfl) (by kernel_rfl) (by kernel_rfl)) ?_
  intro W base args ds gs before hval0 hW hcnd _
  have hval : ∀ (j : Nat) t v, Try.f7.params[j]? = some t → args[j]? = some v → Value.okWide Try.prog W .any base t v := hval0
  have hW' := hW
  obtain ⟨p, q, hA0, hV, rfl, hfz, hnd⟩ := hW
  have hA : DataW.TrodAll enc Try.prog W 0 (fun _ => true) true Try.f7.params.toList args.toList ds p := hA0
  rw [Try.params7] at hA hval
  obtain ⟨v0, vs0, d0, ds0, p0, q0, hargs, rfl, rfl, h0, r0⟩ := trodAll_cons hA
  obtain ⟨v1, vs1, d1, ds1, p1, q1, rfl, rfl, rfl, h1, r1⟩ := trodAll_cons r0
  obtain ⟨v2, vs2, d2, ds2, p2, q2, rfl, rfl, rfl, h2, r2⟩ := trodAll_cons r1
  obtain ⟨v3, vs3, d3, ds3, p3, q3, rfl, rfl, rfl, h3, r3⟩ := trodAll_cons r2
  obtain ⟨rfl, rfl, rfl⟩ := trodAll_nil r3
  obtain rfl : args = #[v0, v1, v2, v3] := by cases args; simp_all
  obtain ⟨rfl, rfl⟩ := trodVars_none hV
  obtain ⟨a0, rfl, rfl, rfl, w0⟩ := open_int Try.underlying3 (hval 0 3 v0 rfl rfl) h0
  obtain ⟨a1, rfl, rfl, rfl, w1⟩ := open_int Try.underlying3 (hval 1 3 v1 rfl rfl) h1
  obtain ⟨kd2, A2, Am2, mc2, E2, B2, x2, y2, cc2, rfl, k2, m2, l2, s2⟩ := open_call (hval 2 37 v2 rfl rfl) h2
  obtain ⟨kd3, A3, Am3, mc3, E3, B3, x3, y3, cc3, rfl, k3, m3, l3, s3⟩ := open_call (hval 3 37 v3 rfl rfl) h3
  clear hA0 hval0
  simp only [List.append_nil] at hW'
  refine (walk (W := W) a0 w0 a1 w1 kd2 A2 Am2 mc2 E2 B2 x2 y2 cc2 k2 m2 l2 s2 kd3 A3 Am3 mc3 E3 B3 x3 y3 cc3 k3 m3 l3 s3).mono fun e W' ⟨he, hg⟩ => ?_
  subst he
  exact ⟨_, rfl, law_post Try.laidOut rfl Try.underlying4 (by kernel_rfl) rfl rfl rfl rfl hW' hg⟩

theorem over : Rows.canvasCommutesRow.holds Try.pinned (OpenSpec.ofChange Rows.canvasCommutesSpec) :=
  OpenClaim.holds_of_wide 7 Try.f7 rfl rfl rfl rfl rfl rfl rfl ⟨rfl, rfl, rfl, rfl, rfl⟩ rfl rfl rfl rfl rfl (by kernel_rfl) Try.func7 (by kernel_rfl)
    (of_decide_eq_true (by kernel_rfl)) (by unfold Func.isWrapper; first | (rw [if_pos (by decide +kernel)]; kernel_rfl) | (rw [if_neg (by decide +kernel)]; exact ⟨rfl, rfl⟩))
    (fun os started H enc _ => lifted os started H enc)

theorem proved : Rows.CanvasCommutesSaid :=
  over

end Go.Proofs.Ytlbbigehjdnjmaa.canvasCommutes
