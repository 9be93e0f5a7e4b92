/- Part 14 of the proof: CmW. -/
import Derived.Test.YtekailhghjideaaCCm12

namespace Go.Proofs.Ytekailhghjideaa
open Go Go.RowKit
set_option linter.unusedVariables false
set_option linter.unusedSimpArgs false

set_option maxRecDepth 100000 in
theorem rword_any (x : Int) (w : World) : Calls Try.prog 38 #[.int .i64 x] w fun e w' => e = .returned (.bool (inB 0 65535 x)) ∧ w = w' := by
  by_cases h1 : 0 ≤ x <;> by_cases h2 : x ≤ 65535
  all_goals
    have d1 : decide (x ≥ 0) = decide (0 ≤ x) := rfl
    have e : inB 0 65535 x = (decide (0 ≤ x) && decide (x ≤ 65535)) := rfl
    have E := Lib.hid e
    clear e
    go_enter Try.func38, Try.ntmps38
    go_wp2
    go_ret
    refine ⟨?_, rfl⟩
    rw [E.out]
    simp only [Ending.returned.injEq, Value.bool.injEq]
    first | (simp [h1, h2]; done) | (simp [h1, h2]; omega)

set_option maxRecDepth 100000 in
theorem rsig_any (x : Int) (w : World) : Calls Try.prog 40 #[.int .i64 x] w fun e w' => e = .returned (.bool (inB (-32768) 32767 x)) ∧ w = w' := by
  by_cases h1 : (-32768) ≤ x <;> by_cases h2 : x ≤ 32767
  all_goals
    have d1 : decide (x ≥ (-32768)) = decide ((-32768) ≤ x) := rfl
    have e : inB (-32768) 32767 x = (decide ((-32768) ≤ x) && decide (x ≤ 32767)) := rfl
    have E := Lib.hid e
    clear e
    go_enter Try.func40, Try.ntmps40
    go_wp2
    go_ret
    refine ⟨?_, rfl⟩
    rw [E.out]
    simp only [Ending.returned.injEq, Value.bool.injEq]
    first | (simp [h1, h2]; done) | (simp [h1, h2]; omega)

set_option maxRecDepth 100000 in
set_option maxHeartbeats 1000000 in
theorem plain_any (g x y : Int) (w : World) : Calls Try.prog 15 #[.int .i64 g, .int .i64 x, .int .i64 y] w fun e w' => e = .returned (.agg (prL (g, one14, false, x, y, false, 0, 0)).toArray) ∧ Below w.heap.size w w' := by
  have CO := fun W => aone_any W
  simp only [mtV, one14] at CO
  go_enter Try.func15, Try.ntmps15
  have K0 := Blk.new w 36 #[.int .i64 0, .int .i64 0, .int .i64 0, .int .i64 0, .int .i64 0, .bool false, .int .i64 0, .int .i64 0, .bool false, .int .i64 0, .int .i64 0]
  have B0 : Below w.heap.size w (w.alloc (.cells #[.int .i64 0, .int .i64 0, .int .i64 0, .int .i64 0, .int .i64 0, .bool false, .int .i64 0, .int .i64 0, .bool false, .int .i64 0, .int .i64 0] 36)) := (Below.refl _ _).alloc (Nat.le_refl _) _
  go_wp2_with (first | (go_at_call 41; ((with_reducible refine (CO _).mono ?_); rintro e w1 ⟨rfl, b1⟩; have B1 := B0.trans (b1.mono (by simp)); have K1 := K0.below b1)) | (refine wpList_store_row rfl 36 (.tmp 6) (.tmp 11) (by with_reducible rfl) w.heap.size (prL (g, one14, false, x, y, false, 0, 0)).toArray (by rfl) (by rfl) 36 #[.int .i64 0, .int .i64 0, .int .i64 0, .int .i64 0, .int .i64 0, .bool false, .int .i64 0, .int .i64 0, .bool false, .int .i64 0, .int .i64 0] (by exact K1) prSize rfl (by simp [prL, Value.oneCell']) ?_))
  exact bodyPost_ret (results_cell_row Try.results15 _ _ w.heap.size 36 (prL (g, one14, false, x, y, false, 0, 0)).toArray (0, 0) _ (by rfl) (show Blk _ _ _ _ from blk_row K1 _) Try.underlying36 rfl prSize) rfl ⟨rfl, below_setRow B1 (Nat.le_refl _) _⟩
set_option maxRecDepth 100000 in
set_option maxHeartbeats 1000000 in
theorem rmay_t0 (g a b c d x y p q : Int) (t : Bool) (w : World) (h0 : inB 0 65535 g = false) :
    Calls Try.prog 14 #[.agg #[.int .i64 g, .int .i64 a, .int .i64 b, .int .i64 c, .int .i64 d, .bool true, .int .i64 x, .int .i64 y, .bool t, .int .i64 p, .int .i64 q]] w fun e w' => e = .returned (.bool false) ∧ Below w.heap.size w w' := by
  have B0 : Below w.heap.size w (w.alloc (.cells #[.int .i64 g, .int .i64 a, .int .i64 b, .int .i64 c, .int .i64 d, .bool true, .int .i64 x, .int .i64 y, .bool t, .int .i64 p, .int .i64 q] 36)) := (Below.refl _ _).alloc (Nat.le_refl _) _
  have KP := Blk.new w 36 #[.int .i64 g, .int .i64 a, .int .i64 b, .int .i64 c, .int .i64 d, .bool true, .int .i64 x, .int .i64 y, .bool t, .int .i64 p, .int .i64 q]
  have C0 := fun W => rword_any g W
  rw [h0] at C0
  clear h0
  go_enter Try.func14, Try.ntmps14
  go_wp2_with (first | (go_at_call 38; ((with_reducible refine (C0 _).mono ?_); rintro e w' ⟨rfl, rfl⟩)))
  go_ret
  exact ⟨rfl, B0⟩
set_option maxRecDepth 100000 in
set_option maxHeartbeats 1000000 in
theorem rmay_t1 (g a b c d x y p q : Int) (t : Bool) (w : World) (h0 : inB 0 65535 g = true) (h1 : fitM a b c d = false) :
    Calls Try.prog 14 #[.agg #[.int .i64 g, .int .i64 a, .int .i64 b, .int .i64 c, .int .i64 d, .bool true, .int .i64 x, .int .i64 y, .bool t, .int .i64 p, .int .i64 q]] w fun e w' => e = .returned (.bool false) ∧ Below w.heap.size w w' := by
  have B0 : Below w.heap.size w (w.alloc (.cells #[.int .i64 g, .int .i64 a, .int .i64 b, .int .i64 c, .int .i64 d, .bool true, .int .i64 x, .int .i64 y, .bool t, .int .i64 p, .int .i64 q] 36)) := (Below.refl _ _).alloc (Nat.le_refl _) _
  have KP := Blk.new w 36 #[.int .i64 g, .int .i64 a, .int .i64 b, .int .i64 c, .int .i64 d, .bool true, .int .i64 x, .int .i64 y, .bool t, .int .i64 p, .int .i64 q]
  have C0 := fun W => rword_any g W
  rw [h0] at C0
  have C1 := fun W => rmayM_any a b c d W
  rw [h1] at C1
  clear h0 h1
  go_enter Try.func14, Try.ntmps14
  go_wp2_with (first | (go_at_call 38; ((with_reducible refine (C0 _).mono ?_); rintro e w' ⟨rfl, rfl⟩)) | (go_at_call 39; ((with_reducible refine (C1 _).mono ?_); rintro e w2 ⟨rfl, b2⟩; have B0 := B0.trans (b2.mono B0.size); have KP := KP.below b2; have c0 := KP.cell 0; have c1 := KP.cell 1; have c2 := KP.cell 2; have c3 := KP.cell 3; have c4 := KP.cell 4; have c5 := KP.cell 5; have c6 := KP.cell 6; have c7 := KP.cell 7; have c8 := KP.cell 8; have c9 := KP.cell 9; have c10 := KP.cell 10; have hkl := KP.lt; simp only [List.getElem?_toArray, List.getElem?_cons_zero, List.getElem?_cons_succ] at c0 c1 c2 c3 c4 c5 c6 c7 c8 c9 c10)))
  go_ret
  exact ⟨rfl, B0⟩
set_option maxRecDepth 100000 in
set_option maxHeartbeats 1000000 in
theorem rmay_t2 (g a b c d x y p q : Int) (t : Bool) (w : World) (h0 : inB 0 65535 g = true) (h1 : fitM a b c d = true) (h2 : inB 0 65535 p = false) :
    Calls Try.prog 14 #[.agg #[.int .i64 g, .int .i64 a, .int .i64 b, .int .i64 c, .int .i64 d, .bool true, .int .i64 x, .int .i64 y, .bool t, .int .i64 p, .int .i64 q]] w fun e w' => e = .returned (.bool false) ∧ Below w.heap.size w w' := by
  have B0 : Below w.heap.size w (w.alloc (.cells #[.int .i64 g, .int .i64 a, .int .i64 b, .int .i64 c, .int .i64 d, .bool true, .int .i64 x, .int .i64 y, .bool t, .int .i64 p, .int .i64 q] 36)) := (Below.refl _ _).alloc (Nat.le_refl _) _
  have KP := Blk.new w 36 #[.int .i64 g, .int .i64 a, .int .i64 b, .int .i64 c, .int .i64 d, .bool true, .int .i64 x, .int .i64 y, .bool t, .int .i64 p, .int .i64 q]
  have C0 := fun W => rword_any g W
  rw [h0] at C0
  have C1 := fun W => rmayM_any a b c d W
  rw [h1] at C1
  have C2 := fun W => rword_any p W
  rw [h2] at C2
  clear h0 h1 h2
  go_enter Try.func14, Try.ntmps14
  go_wp2_with (first | (go_at_call 38; ((with_reducible refine (C0 _).mono ?_); rintro e w' ⟨rfl, rfl⟩)) | (go_at_call 39; ((with_reducible refine (C1 _).mono ?_); rintro e w2 ⟨rfl, b2⟩; have B0 := B0.trans (b2.mono B0.size); have KP := KP.below b2; have c0 := KP.cell 0; have c1 := KP.cell 1; have c2 := KP.cell 2; have c3 := KP.cell 3; have c4 := KP.cell 4; have c5 := KP.cell 5; have c6 := KP.cell 6; have c7 := KP.cell 7; have c8 := KP.cell 8; have c9 := KP.cell 9; have c10 := KP.cell 10; have hkl := KP.lt; simp only [List.getElem?_toArray, List.getElem?_cons_zero, List.getElem?_cons_succ] at c0 c1 c2 c3 c4 c5 c6 c7 c8 c9 c10)) | (go_at_call 38; ((with_reducible refine (C2 _).mono ?_); rintro e w' ⟨rfl, rfl⟩)))
  go_ret
  exact ⟨rfl, B0⟩
set_option maxRecDepth 100000 in
set_option maxHeartbeats 1000000 in
theorem rmay_t3 (g a b c d x y p q : Int) (t : Bool) (w : World) (h0 : inB 0 65535 g = true) (h1 : fitM a b c d = true) (h2 : inB 0 65535 p = true) (h3 : inB 0 65535 q = false) :
    Calls Try.prog 14 #[.agg #[.int .i64 g, .int .i64 a, .int .i64 b, .int .i64 c, .int .i64 d, .bool true, .int .i64 x, .int .i64 y, .bool t, .int .i64 p, .int .i64 q]] w fun e w' => e = .returned (.bool false) ∧ Below w.heap.size w w' := by
  have B0 : Below w.heap.size w (w.alloc (.cells #[.int .i64 g, .int .i64 a, .int .i64 b, .int .i64 c, .int .i64 d, .bool true, .int .i64 x, .int .i64 y, .bool t, .int .i64 p, .int .i64 q] 36)) := (Below.refl _ _).alloc (Nat.le_refl _) _
  have KP := Blk.new w 36 #[.int .i64 g, .int .i64 a, .int .i64 b, .int .i64 c, .int .i64 d, .bool true, .int .i64 x, .int .i64 y, .bool t, .int .i64 p, .int .i64 q]
  have C0 := fun W => rword_any g W
  rw [h0] at C0
  have C1 := fun W => rmayM_any a b c d W
  rw [h1] at C1
  have C2 := fun W => rword_any p W
  rw [h2] at C2
  have C3 := fun W => rword_any q W
  rw [h3] at C3
  clear h0 h1 h2 h3
  go_enter Try.func14, Try.ntmps14
  go_wp2_with (first | (go_at_call 38; ((with_reducible refine (C0 _).mono ?_); rintro e w' ⟨rfl, rfl⟩)) | (go_at_call 39; ((with_reducible refine (C1 _).mono ?_); rintro e w2 ⟨rfl, b2⟩; have B0 := B0.trans (b2.mono B0.size); have KP := KP.below b2; have c0 := KP.cell 0; have c1 := KP.cell 1; have c2 := KP.cell 2; have c3 := KP.cell 3; have c4 := KP.cell 4; have c5 := KP.cell 5; have c6 := KP.cell 6; have c7 := KP.cell 7; have c8 := KP.cell 8; have c9 := KP.cell 9; have c10 := KP.cell 10; have hkl := KP.lt; simp only [List.getElem?_toArray, List.getElem?_cons_zero, List.getElem?_cons_succ] at c0 c1 c2 c3 c4 c5 c6 c7 c8 c9 c10)) | (go_at_call 38; ((with_reducible refine (C2 _).mono ?_); rintro e w' ⟨rfl, rfl⟩)) | (go_at_call 38; ((with_reducible refine (C3 _).mono ?_); rintro e w' ⟨rfl, rfl⟩)))
  go_ret
  exact ⟨rfl, B0⟩
set_option maxRecDepth 100000 in
set_option maxHeartbeats 1000000 in
theorem rmay_t4 (g a b c d x y p q : Int) (t : Bool) (w : World) (h0 : inB 0 65535 g = true) (h1 : fitM a b c d = true) (h2 : inB 0 65535 p = true) (h3 : inB 0 65535 q = true) (h4 : (x == 0) = false) :
    Calls Try.prog 14 #[.agg #[.int .i64 g, .int .i64 a, .int .i64 b, .int .i64 c, .int .i64 d, .bool true, .int .i64 x, .int .i64 y, .bool t, .int .i64 p, .int .i64 q]] w fun e w' => e = .returned (.bool false) ∧ Below w.heap.size w w' := by
  have B0 : Below w.heap.size w (w.alloc (.cells #[.int .i64 g, .int .i64 a, .int .i64 b, .int .i64 c, .int .i64 d, .bool true, .int .i64 x, .int .i64 y, .bool t, .int .i64 p, .int .i64 q] 36)) := (Below.refl _ _).alloc (Nat.le_refl _) _
  have KP := Blk.new w 36 #[.int .i64 g, .int .i64 a, .int .i64 b, .int .i64 c, .int .i64 d, .bool true, .int .i64 x, .int .i64 y, .bool t, .int .i64 p, .int .i64 q]
  have C0 := fun W => rword_any g W
  rw [h0] at C0
  have C1 := fun W => rmayM_any a b c d W
  rw [h1] at C1
  have C2 := fun W => rword_any p W
  rw [h2] at C2
  have C3 := fun W => rword_any q W
  rw [h3] at C3
  have d4 : ¬ x = 0 := by simpa using h4
  clear h0 h1 h2 h3 h4
  go_enter Try.func14, Try.ntmps14
  go_wp2_with (first | (go_at_call 38; ((with_reducible refine (C0 _).mono ?_); rintro e w' ⟨rfl, rfl⟩)) | (go_at_call 39; ((with_reducible refine (C1 _).mono ?_); rintro e w2 ⟨rfl, b2⟩; have B0 := B0.trans (b2.mono B0.size); have KP := KP.below b2; have c0 := KP.cell 0; have c1 := KP.cell 1; have c2 := KP.cell 2; have c3 := KP.cell 3; have c4 := KP.cell 4; have c5 := KP.cell 5; have c6 := KP.cell 6; have c7 := KP.cell 7; have c8 := KP.cell 8; have c9 := KP.cell 9; have c10 := KP.cell 10; have hkl := KP.lt; simp only [List.getElem?_toArray, List.getElem?_cons_zero, List.getElem?_cons_succ] at c0 c1 c2 c3 c4 c5 c6 c7 c8 c9 c10)) | (go_at_call 38; ((with_reducible refine (C2 _).mono ?_); rintro e w' ⟨rfl, rfl⟩)) | (go_at_call 38; ((with_reducible refine (C3 _).mono ?_); rintro e w' ⟨rfl, rfl⟩)))
  go_ret
  exact ⟨rfl, B0⟩
set_option maxRecDepth 100000 in
set_option maxHeartbeats 1000000 in
theorem rmay_t5 (g a b c d y p q : Int) (t : Bool) (w : World) (h0 : inB 0 65535 g = true) (h1 : fitM a b c d = true) (h2 : inB 0 65535 p = true) (h3 : inB 0 65535 q = true) (h5 : (y == 0) = false) :
    Calls Try.prog 14 #[.agg #[.int .i64 g, .int .i64 a, .int .i64 b, .int .i64 c, .int .i64 d, .bool true, .int .i64 0, .int .i64 y, .bool t, .int .i64 p, .int .i64 q]] w fun e w' => e = .returned (.bool false) ∧ Below w.heap.size w w' := by
  have B0 : Below w.heap.size w (w.alloc (.cells #[.int .i64 g, .int .i64 a, .int .i64 b, .int .i64 c, .int .i64 d, .bool true, .int .i64 0, .int .i64 y, .bool t, .int .i64 p, .int .i64 q] 36)) := (Below.refl _ _).alloc (Nat.le_refl _) _
  have KP := Blk.new w 36 #[.int .i64 g, .int .i64 a, .int .i64 b, .int .i64 c, .int .i64 d, .bool true, .int .i64 0, .int .i64 y, .bool t, .int .i64 p, .int .i64 q]
  have C0 := fun W => rword_any g W
  rw [h0] at C0
  have C1 := fun W => rmayM_any a b c d W
  rw [h1] at C1
  have C2 := fun W => rword_any p W
  rw [h2] at C2
  have C3 := fun W => rword_any q W
  rw [h3] at C3
  have d5 : ¬ y = 0 := by simpa using h5
  clear h0 h1 h2 h3 h5
  go_enter Try.func14, Try.ntmps14
  go_wp2_with (first | (go_at_call 38; ((with_reducible refine (C0 _).mono ?_); rintro e w' ⟨rfl, rfl⟩)) | (go_at_call 39; ((with_reducible refine (C1 _).mono ?_); rintro e w2 ⟨rfl, b2⟩; have B0 := B0.trans (b2.mono B0.size); have KP := KP.below b2; have c0 := KP.cell 0; have c1 := KP.cell 1; have c2 := KP.cell 2; have c3 := KP.cell 3; have c4 := KP.cell 4; have c5 := KP.cell 5; have c6 := KP.cell 6; have c7 := KP.cell 7; have c8 := KP.cell 8; have c9 := KP.cell 9; have c10 := KP.cell 10; have hkl := KP.lt; simp only [List.getElem?_toArray, List.getElem?_cons_zero, List.getElem?_cons_succ] at c0 c1 c2 c3 c4 c5 c6 c7 c8 c9 c10)) | (go_at_call 38; ((with_reducible refine (C2 _).mono ?_); rintro e w' ⟨rfl, rfl⟩)) | (go_at_call 38; ((with_reducible refine (C3 _).mono ?_); rintro e w' ⟨rfl, rfl⟩)))
  go_ret
  exact ⟨rfl, B0⟩
set_option maxRecDepth 100000 in
set_option maxHeartbeats 1000000 in
theorem rmay_t6 (g a b c d p q : Int) (t : Bool) (w : World) (h0 : inB 0 65535 g = true) (h1 : fitM a b c d = true) (h2 : inB 0 65535 p = true) (h3 : inB 0 65535 q = true) :
    Calls Try.prog 14 #[.agg #[.int .i64 g, .int .i64 a, .int .i64 b, .int .i64 c, .int .i64 d, .bool true, .int .i64 0, .int .i64 0, .bool t, .int .i64 p, .int .i64 q]] w fun e w' => e = .returned (.bool (!t)) ∧ Below w.heap.size w w' := by
  have B0 : Below w.heap.size w (w.alloc (.cells #[.int .i64 g, .int .i64 a, .int .i64 b, .int .i64 c, .int .i64 d, .bool true, .int .i64 0, .int .i64 0, .bool t, .int .i64 p, .int .i64 q] 36)) := (Below.refl _ _).alloc (Nat.le_refl _) _
  have KP := Blk.new w 36 #[.int .i64 g, .int .i64 a, .int .i64 b, .int .i64 c, .int .i64 d, .bool true, .int .i64 0, .int .i64 0, .bool t, .int .i64 p, .int .i64 q]
  have C0 := fun W => rword_any g W
  rw [h0] at C0
  have C1 := fun W => rmayM_any a b c d W
  rw [h1] at C1
  have C2 := fun W => rword_any p W
  rw [h2] at C2
  have C3 := fun W => rword_any q W
  rw [h3] at C3
  clear h0 h1 h2 h3
  go_enter Try.func14, Try.ntmps14
  go_wp2_with (first | (go_at_call 38; ((with_reducible refine (C0 _).mono ?_); rintro e w' ⟨rfl, rfl⟩)) | (go_at_call 39; ((with_reducible refine (C1 _).mono ?_); rintro e w2 ⟨rfl, b2⟩; have B0 := B0.trans (b2.mono B0.size); have KP := KP.below b2; have c0 := KP.cell 0; have c1 := KP.cell 1; have c2 := KP.cell 2; have c3 := KP.cell 3; have c4 := KP.cell 4; have c5 := KP.cell 5; have c6 := KP.cell 6; have c7 := KP.cell 7; have c8 := KP.cell 8; have c9 := KP.cell 9; have c10 := KP.cell 10; have hkl := KP.lt; simp only [List.getElem?_toArray, List.getElem?_cons_zero, List.getElem?_cons_succ] at c0 c1 c2 c3 c4 c5 c6 c7 c8 c9 c10)) | (go_at_call 38; ((with_reducible refine (C2 _).mono ?_); rintro e w' ⟨rfl, rfl⟩)) | (go_at_call 38; ((with_reducible refine (C3 _).mono ?_); rintro e w' ⟨rfl, rfl⟩)))
  go_ret
  exact ⟨by simp, B0⟩

set_option maxRecDepth 100000 in
set_option maxHeartbeats 1000000 in
theorem rmay_f0 (g a b c d x y p q : Int) (t : Bool) (w : World) (h0 : inB 0 65535 g = false) :
    Calls Try.prog 14 #[.agg #[.int .i64 g, .int .i64 a, .int .i64 b, .int .i64 c, .int .i64 d, .bool false, .int .i64 x, .int .i64 y, .bool t, .int .i64 p, .int .i64 q]] w fun e w' => e = .returned (.bool false) ∧ Below w.heap.size w w' := by
  have B0 : Below w.heap.size w (w.alloc (.cells #[.int .i64 g, .int .i64 a, .int .i64 b, .int .i64 c, .int .i64 d, .bool false, .int .i64 x, .int .i64 y, .bool t, .int .i64 p, .int .i64 q] 36)) := (Below.refl _ _).alloc (Nat.le_refl _) _
  have KP := Blk.new w 36 #[.int .i64 g, .int .i64 a, .int .i64 b, .int .i64 c, .int .i64 d, .bool false, .int .i64 x, .int .i64 y, .bool t, .int .i64 p, .int .i64 q]
  have C0 := fun W => rword_any g W
  rw [h0] at C0
  clear h0
  go_enter Try.func14, Try.ntmps14
  go_wp2_with (first | (go_at_call 38; ((with_reducible refine (C0 _).mono ?_); rintro e w' ⟨rfl, rfl⟩)))
  go_ret
  exact ⟨rfl, B0⟩
set_option maxRecDepth 100000 in
set_option maxHeartbeats 1000000 in
theorem rmay_f1 (g a b c d x y p q : Int) (t : Bool) (w : World) (h0 : inB 0 65535 g = true) (h1 : fitM a b c d = false) :
    Calls Try.prog 14 #[.agg #[.int .i64 g, .int .i64 a, .int .i64 b, .int .i64 c, .int .i64 d, .bool false, .int .i64 x, .int .i64 y, .bool t, .int .i64 p, .int .i64 q]] w fun e w' => e = .returned (.bool false) ∧ Below w.heap.size w w' := by
  have B0 : Below w.heap.size w (w.alloc (.cells #[.int .i64 g, .int .i64 a, .int .i64 b, .int .i64 c, .int .i64 d, .bool false, .int .i64 x, .int .i64 y, .bool t, .int .i64 p, .int .i64 q] 36)) := (Below.refl _ _).alloc (Nat.le_refl _) _
  have KP := Blk.new w 36 #[.int .i64 g, .int .i64 a, .int .i64 b, .int .i64 c, .int .i64 d, .bool false, .int .i64 x, .int .i64 y, .bool t, .int .i64 p, .int .i64 q]
  have C0 := fun W => rword_any g W
  rw [h0] at C0
  have C1 := fun W => rmayM_any a b c d W
  rw [h1] at C1
  clear h0 h1
  go_enter Try.func14, Try.ntmps14
  go_wp2_with (first | (go_at_call 38; ((with_reducible refine (C0 _).mono ?_); rintro e w' ⟨rfl, rfl⟩)) | (go_at_call 39; ((with_reducible refine (C1 _).mono ?_); rintro e w2 ⟨rfl, b2⟩; have B0 := B0.trans (b2.mono B0.size); have KP := KP.below b2; have c0 := KP.cell 0; have c1 := KP.cell 1; have c2 := KP.cell 2; have c3 := KP.cell 3; have c4 := KP.cell 4; have c5 := KP.cell 5; have c6 := KP.cell 6; have c7 := KP.cell 7; have c8 := KP.cell 8; have c9 := KP.cell 9; have c10 := KP.cell 10; have hkl := KP.lt; simp only [List.getElem?_toArray, List.getElem?_cons_zero, List.getElem?_cons_succ] at c0 c1 c2 c3 c4 c5 c6 c7 c8 c9 c10)))
  go_ret
  exact ⟨rfl, B0⟩
set_option maxRecDepth 100000 in
set_option maxHeartbeats 1000000 in
theorem rmay_f2 (g a b c d x y p q : Int) (t : Bool) (w : World) (h0 : inB 0 65535 g = true) (h1 : fitM a b c d = true) (h2 : inB (-32768) 32767 x = false) :
    Calls Try.prog 14 #[.agg #[.int .i64 g, .int .i64 a, .int .i64 b, .int .i64 c, .int .i64 d, .bool false, .int .i64 x, .int .i64 y, .bool t, .int .i64 p, .int .i64 q]] w fun e w' => e = .returned (.bool false) ∧ Below w.heap.size w w' := by
  have B0 : Below w.heap.size w (w.alloc (.cells #[.int .i64 g, .int .i64 a, .int .i64 b, .int .i64 c, .int .i64 d, .bool false, .int .i64 x, .int .i64 y, .bool t, .int .i64 p, .int .i64 q] 36)) := (Below.refl _ _).alloc (Nat.le_refl _) _
  have KP := Blk.new w 36 #[.int .i64 g, .int .i64 a, .int .i64 b, .int .i64 c, .int .i64 d, .bool false, .int .i64 x, .int .i64 y, .bool t, .int .i64 p, .int .i64 q]
  have C0 := fun W => rword_any g W
  rw [h0] at C0
  have C1 := fun W => rmayM_any a b c d W
  rw [h1] at C1
  have C2 := fun W => rsig_any x W
  rw [h2] at C2
  clear h0 h1 h2
  go_enter Try.func14, Try.ntmps14
  go_wp2_with (first | (go_at_call 38; ((with_reducible refine (C0 _).mono ?_); rintro e w' ⟨rfl, rfl⟩)) | (go_at_call 39; ((with_reducible refine (C1 _).mono ?_); rintro e w2 ⟨rfl, b2⟩; have B0 := B0.trans (b2.mono B0.size); have KP := KP.below b2; have c0 := KP.cell 0; have c1 := KP.cell 1; have c2 := KP.cell 2; have c3 := KP.cell 3; have c4 := KP.cell 4; have c5 := KP.cell 5; have c6 := KP.cell 6; have c7 := KP.cell 7; have c8 := KP.cell 8; have c9 := KP.cell 9; have c10 := KP.cell 10; have hkl := KP.lt; simp only [List.getElem?_toArray, List.getElem?_cons_zero, List.getElem?_cons_succ] at c0 c1 c2 c3 c4 c5 c6 c7 c8 c9 c10)) | (go_at_call 40; ((with_reducible refine (C2 _).mono ?_); rintro e w' ⟨rfl, rfl⟩)))
  go_ret
  exact ⟨rfl, B0⟩
set_option maxRecDepth 100000 in
set_option maxHeartbeats 1000000 in
theorem rmay_f3 (g a b c d x y p q : Int) (t : Bool) (w : World) (h0 : inB 0 65535 g = true) (h1 : fitM a b c d = true) (h2 : inB (-32768) 32767 x = true) (h3 : inB (-32768) 32767 y = false) :
    Calls Try.prog 14 #[.agg #[.int .i64 g, .int .i64 a, .int .i64 b, .int .i64 c, .int .i64 d, .bool false, .int .i64 x, .int .i64 y, .bool t, .int .i64 p, .int .i64 q]] w fun e w' => e = .returned (.bool false) ∧ Below w.heap.size w w' := by
  have B0 : Below w.heap.size w (w.alloc (.cells #[.int .i64 g, .int .i64 a, .int .i64 b, .int .i64 c, .int .i64 d, .bool false, .int .i64 x, .int .i64 y, .bool t, .int .i64 p, .int .i64 q] 36)) := (Below.refl _ _).alloc (Nat.le_refl _) _
  have KP := Blk.new w 36 #[.int .i64 g, .int .i64 a, .int .i64 b, .int .i64 c, .int .i64 d, .bool false, .int .i64 x, .int .i64 y, .bool t, .int .i64 p, .int .i64 q]
  have C0 := fun W => rword_any g W
  rw [h0] at C0
  have C1 := fun W => rmayM_any a b c d W
  rw [h1] at C1
  have C2 := fun W => rsig_any x W
  rw [h2] at C2
  have C3 := fun W => rsig_any y W
  rw [h3] at C3
  clear h0 h1 h2 h3
  go_enter Try.func14, Try.ntmps14
  go_wp2_with (first | (go_at_call 38; ((with_reducible refine (C0 _).mono ?_); rintro e w' ⟨rfl, rfl⟩)) | (go_at_call 39; ((with_reducible refine (C1 _).mono ?_); rintro e w2 ⟨rfl, b2⟩; have B0 := B0.trans (b2.mono B0.size); have KP := KP.below b2; have c0 := KP.cell 0; have c1 := KP.cell 1; have c2 := KP.cell 2; have c3 := KP.cell 3; have c4 := KP.cell 4; have c5 := KP.cell 5; have c6 := KP.cell 6; have c7 := KP.cell 7; have c8 := KP.cell 8; have c9 := KP.cell 9; have c10 := KP.cell 10; have hkl := KP.lt; simp only [List.getElem?_toArray, List.getElem?_cons_zero, List.getElem?_cons_succ] at c0 c1 c2 c3 c4 c5 c6 c7 c8 c9 c10)) | (go_at_call 40; ((with_reducible refine (C2 _).mono ?_); rintro e w' ⟨rfl, rfl⟩)) | (go_at_call 40; ((with_reducible refine (C3 _).mono ?_); rintro e w' ⟨rfl, rfl⟩)))
  go_ret
  exact ⟨rfl, B0⟩
set_option maxRecDepth 100000 in
set_option maxHeartbeats 1000000 in
theorem rmay_f4 (g a b c d x y p q : Int) (t : Bool) (w : World) (h0 : inB 0 65535 g = true) (h1 : fitM a b c d = true) (h2 : inB (-32768) 32767 x = true) (h3 : inB (-32768) 32767 y = true) (h4 : (p == 0) = false) :
    Calls Try.prog 14 #[.agg #[.int .i64 g, .int .i64 a, .int .i64 b, .int .i64 c, .int .i64 d, .bool false, .int .i64 x, .int .i64 y, .bool t, .int .i64 p, .int .i64 q]] w fun e w' => e = .returned (.bool false) ∧ Below w.heap.size w w' := by
  have B0 : Below w.heap.size w (w.alloc (.cells #[.int .i64 g, .int .i64 a, .int .i64 b, .int .i64 c, .int .i64 d, .bool false, .int .i64 x, .int .i64 y, .bool t, .int .i64 p, .int .i64 q] 36)) := (Below.refl _ _).alloc (Nat.le_refl _) _
  have KP := Blk.new w 36 #[.int .i64 g, .int .i64 a, .int .i64 b, .int .i64 c, .int .i64 d, .bool false, .int .i64 x, .int .i64 y, .bool t, .int .i64 p, .int .i64 q]
  have C0 := fun W => rword_any g W
  rw [h0] at C0
  have C1 := fun W => rmayM_any a b c d W
  rw [h1] at C1
  have C2 := fun W => rsig_any x W
  rw [h2] at C2
  have C3 := fun W => rsig_any y W
  rw [h3] at C3
  have d4 : ¬ p = 0 := by simpa using h4
  clear h0 h1 h2 h3 h4
  go_enter Try.func14, Try.ntmps14
  go_wp2_with (first | (go_at_call 38; ((with_reducible refine (C0 _).mono ?_); rintro e w' ⟨rfl, rfl⟩)) | (go_at_call 39; ((with_reducible refine (C1 _).mono ?_); rintro e w2 ⟨rfl, b2⟩; have B0 := B0.trans (b2.mono B0.size); have KP := KP.below b2; have c0 := KP.cell 0; have c1 := KP.cell 1; have c2 := KP.cell 2; have c3 := KP.cell 3; have c4 := KP.cell 4; have c5 := KP.cell 5; have c6 := KP.cell 6; have c7 := KP.cell 7; have c8 := KP.cell 8; have c9 := KP.cell 9; have c10 := KP.cell 10; have hkl := KP.lt; simp only [List.getElem?_toArray, List.getElem?_cons_zero, List.getElem?_cons_succ] at c0 c1 c2 c3 c4 c5 c6 c7 c8 c9 c10)) | (go_at_call 40; ((with_reducible refine (C2 _).mono ?_); rintro e w' ⟨rfl, rfl⟩)) | (go_at_call 40; ((with_reducible refine (C3 _).mono ?_); rintro e w' ⟨rfl, rfl⟩)))
  go_ret
  exact ⟨rfl, B0⟩
set_option maxRecDepth 100000 in
set_option maxHeartbeats 1000000 in
theorem rmay_f5 (g a b c d x y q : Int) (t : Bool) (w : World) (h0 : inB 0 65535 g = true) (h1 : fitM a b c d = true) (h2 : inB (-32768) 32767 x = true) (h3 : inB (-32768) 32767 y = true) :
    Calls Try.prog 14 #[.agg #[.int .i64 g, .int .i64 a, .int .i64 b, .int .i64 c, .int .i64 d, .bool false, .int .i64 x, .int .i64 y, .bool t, .int .i64 0, .int .i64 q]] w fun e w' => e = .returned (.bool (q == 0)) ∧ Below w.heap.size w w' := by
  have B0 : Below w.heap.size w (w.alloc (.cells #[.int .i64 g, .int .i64 a, .int .i64 b, .int .i64 c, .int .i64 d, .bool false, .int .i64 x, .int .i64 y, .bool t, .int .i64 0, .int .i64 q] 36)) := (Below.refl _ _).alloc (Nat.le_refl _) _
  have KP := Blk.new w 36 #[.int .i64 g, .int .i64 a, .int .i64 b, .int .i64 c, .int .i64 d, .bool false, .int .i64 x, .int .i64 y, .bool t, .int .i64 0, .int .i64 q]
  have C0 := fun W => rword_any g W
  rw [h0] at C0
  have C1 := fun W => rmayM_any a b c d W
  rw [h1] at C1
  have C2 := fun W => rsig_any x W
  rw [h2] at C2
  have C3 := fun W => rsig_any y W
  rw [h3] at C3
  clear h0 h1 h2 h3
  go_enter Try.func14, Try.ntmps14
  go_wp2_with (first | (go_at_call 38; ((with_reducible refine (C0 _).mono ?_); rintro e w' ⟨rfl, rfl⟩)) | (go_at_call 39; ((with_reducible refine (C1 _).mono ?_); rintro e w2 ⟨rfl, b2⟩; have B0 := B0.trans (b2.mono B0.size); have KP := KP.below b2; have c0 := KP.cell 0; have c1 := KP.cell 1; have c2 := KP.cell 2; have c3 := KP.cell 3; have c4 := KP.cell 4; have c5 := KP.cell 5; have c6 := KP.cell 6; have c7 := KP.cell 7; have c8 := KP.cell 8; have c9 := KP.cell 9; have c10 := KP.cell 10; have hkl := KP.lt; simp only [List.getElem?_toArray, List.getElem?_cons_zero, List.getElem?_cons_succ] at c0 c1 c2 c3 c4 c5 c6 c7 c8 c9 c10)) | (go_at_call 40; ((with_reducible refine (C2 _).mono ?_); rintro e w' ⟨rfl, rfl⟩)) | (go_at_call 40; ((with_reducible refine (C3 _).mono ?_); rintro e w' ⟨rfl, rfl⟩)))
  go_ret
  exact ⟨by simp, B0⟩

theorem rmay_any (P : Prt) (w : World) : Calls Try.prog 14 #[.agg (prL P).toArray] w fun e w' => e = .returned (.bool (mayP P)) ∧ Below w.heap.size w w' := by
  obtain ⟨g, ⟨a, b, c, d⟩, m, x, y, t, p, q⟩ := P
  unfold mayP
  simp only [prL]
  cases m
  · cases h0 : inB 0 65535 g
    · exact rmay_f0 g a b c d x y p q t w h0
    · cases h1 : fitM a b c d
      · exact rmay_f1 g a b c d x y p q t w h0 h1
      · cases h2 : inB (-32768) 32767 x
        · exact (rmay_f2 g a b c d x y p q t w h0 h1 h2).mono fun e w' k => ⟨by rw [k.1]; simp, k.2⟩
        · cases h3 : inB (-32768) 32767 y
          · exact (rmay_f3 g a b c d x y p q t w h0 h1 h2 h3).mono fun e w' k => ⟨by rw [k.1]; simp, k.2⟩
          · by_cases h4 : p = 0
            · subst h4
              exact (rmay_f5 g a b c d x y q t w h0 h1 h2 h3).mono fun e w' k => ⟨by rw [k.1]; simp, k.2⟩
            · exact (rmay_f4 g a b c d x y p q t w h0 h1 h2 h3 (by simpa using h4)).mono fun e w' k => ⟨by rw [k.1]; simp [h4], k.2⟩
  · cases h0 : inB 0 65535 g
    · exact rmay_t0 g a b c d x y p q t w h0
    · cases h1 : fitM a b c d
      · exact rmay_t1 g a b c d x y p q t w h0 h1
      · cases h2 : inB 0 65535 p
        · exact (rmay_t2 g a b c d x y p q t w h0 h1 h2).mono fun e w' k => ⟨by rw [k.1]; simp, k.2⟩
        · cases h3 : inB 0 65535 q
          · exact (rmay_t3 g a b c d x y p q t w h0 h1 h2 h3).mono fun e w' k => ⟨by rw [k.1]; simp, k.2⟩
          · by_cases h4 : x = 0
            · subst h4
              by_cases h5 : y = 0
              · subst h5
                exact (rmay_t6 g a b c d p q t w h0 h1 h2 h3).mono fun e w' k => ⟨by rw [k.1]; simp, k.2⟩
              · exact (rmay_t5 g a b c d y p q t w h0 h1 h2 h3 (by simpa using h5)).mono fun e w' k => ⟨by rw [k.1]; simp [h5], k.2⟩
            · exact (rmay_t4 g a b c d x y p q t w h0 h1 h2 h3 (by simpa using h4)).mono fun e w' k => ⟨by rw [k.1]; simp [h4], k.2⟩
end Go.Proofs.Ytekailhghjideaa
