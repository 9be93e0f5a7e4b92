/- Part 8 of the proof: CnF, CnH. -/
import Derived.Test.YtlbbigehjdnjmaaCCn6

namespace Go.Proofs.Ytlbbigehjdnjmaa
open Go Go.RowKit
set_option linter.unusedVariables false
set_option linter.unusedSimpArgs false

/-- May a mask be? -/
def chkB (A : Q) (n : Nat) : Bool := msB A && decide (areaQ A = (n : Int))
def chkC (A : Q) (n : Nat) : Int := if chkB A n then 0 else 220
set_option maxRecDepth 100000 in
theorem check_no (A : Q) (Am : Option Addr) (n c : Nat) (h : msB A = false) (w : World) : Calls Try.prog 36 #[.agg #[.int .i64 A.x0, .int .i64 A.y0, .int .i64 A.x1, .int .i64 A.y1, .slice Am n c]] w fun e w' => e = .returned (.int .i64 220) ∧ Below w.heap.size w w' := by
  have B : Below w.heap.size w (w.alloc (.cells #[.int .i64 A.x0, .int .i64 A.y0, .int .i64 A.x1, .int .i64 A.y1, .slice Am n c] 35)) := below_a1 _ _
  have K := Blk.new w 35 #[.int .i64 A.x0, .int .i64 A.y0, .int .i64 A.x1, .int .i64 A.y1, .slice Am n c]
  have CS := fun W => rsize_any A W
  rw [h] at CS
  simp only [Bool.false_eq_true, if_false] at CS
  clear h
  go_enter Try.func36, Try.ntmps36
  go_wp2_with (first | (go_at_call 50; ((with_reducible refine (CS _).mono ?_); rintro e w1 ⟨rfl, b1⟩; have B := B.trans (b1.mono B.size); have K := K.below b1; have k0 := K.cell 0; have k1 := K.cell 1; have k2 := K.cell 2; have k3 := K.cell 3; have k4 := K.cell 4; have kl := K.lt; simp only [List.getElem?_toArray, List.getElem?_cons_succ, List.getElem?_cons_zero] at k0 k1 k2 k3 k4)))
  go_ret
  exact ⟨rfl, B⟩
set_option maxRecDepth 100000 in
theorem check_len (A : Q) (Am : Option Addr) (n c : Nat) (h : msB A = true) (hn : areaQ A ≠ (n : Int)) (w : World) : Calls Try.prog 36 #[.agg #[.int .i64 A.x0, .int .i64 A.y0, .int .i64 A.x1, .int .i64 A.y1, .slice Am n c]] w fun e w' => e = .returned (.int .i64 220) ∧ Below w.heap.size w w' := by
  have B : Below w.heap.size w (w.alloc (.cells #[.int .i64 A.x0, .int .i64 A.y0, .int .i64 A.x1, .int .i64 A.y1, .slice Am n c] 35)) := below_a1 _ _
  have K := Blk.new w 35 #[.int .i64 A.x0, .int .i64 A.y0, .int .i64 A.x1, .int .i64 A.y1, .slice Am n c]
  have CS := fun W => rsize_any A W
  rw [h] at CS
  simp only [if_true] at CS
  clear h
  have d1 : (areaQ A != (n : Int)) = true := by simpa using hn
  generalize areaQ A = ar at *
  go_enter Try.func36, Try.ntmps36
  go_wp2_with (first | (go_at_call 50; ((with_reducible refine (CS _).mono ?_); rintro e w1 ⟨rfl, b1⟩; have B := B.trans (b1.mono B.size); have K := K.below b1; have k0 := K.cell 0; have k1 := K.cell 1; have k2 := K.cell 2; have k3 := K.cell 3; have k4 := K.cell 4; have kl := K.lt; simp only [List.getElem?_toArray, List.getElem?_cons_succ, List.getElem?_cons_zero] at k0 k1 k2 k3 k4)))
  go_ret
  exact ⟨rfl, B⟩
set_option maxRecDepth 100000 in
theorem check_ok (A : Q) (Am : Option Addr) (n c : Nat) (h : msB A = true) (hn : areaQ A = (n : Int)) (w : World) : Calls Try.prog 36 #[.agg #[.int .i64 A.x0, .int .i64 A.y0, .int .i64 A.x1, .int .i64 A.y1, .slice Am n c]] w fun e w' => e = .returned (.int .i64 0) ∧ Below w.heap.size w w' := by
  have B : Below w.heap.size w (w.alloc (.cells #[.int .i64 A.x0, .int .i64 A.y0, .int .i64 A.x1, .int .i64 A.y1, .slice Am n c] 35)) := below_a1 _ _
  have K := Blk.new w 35 #[.int .i64 A.x0, .int .i64 A.y0, .int .i64 A.x1, .int .i64 A.y1, .slice Am n c]
  have CS := fun W => rsize_any A W
  rw [h] at CS
  simp only [if_true] at CS
  clear h
  rw [hn] at CS
  clear hn
  go_enter Try.func36, Try.ntmps36
  go_wp2_with (first | (go_at_call 50; ((with_reducible refine (CS _).mono ?_); rintro e w1 ⟨rfl, b1⟩; have B := B.trans (b1.mono B.size); have K := K.below b1; have k0 := K.cell 0; have k1 := K.cell 1; have k2 := K.cell 2; have k3 := K.cell 3; have k4 := K.cell 4; have kl := K.lt; simp only [List.getElem?_toArray, List.getElem?_cons_succ, List.getElem?_cons_zero] at k0 k1 k2 k3 k4)))
  go_ret
  exact ⟨rfl, B⟩
theorem ckmask_any (A : Q) (Am : Option Addr) (n c : Nat) (w : World) : Calls Try.prog 36 #[.agg #[.int .i64 A.x0, .int .i64 A.y0, .int .i64 A.x1, .int .i64 A.y1, .slice Am n c]] w fun e w' => e = .returned (.int .i64 (chkC A n)) ∧ Below w.heap.size w w' := by
  unfold chkC chkB
  cases h : msB A
  · exact check_no A Am n c h w
  · by_cases hn : areaQ A = (n : Int)
    · rw [if_pos (by simp [hn])]; exact check_ok A Am n c h hn w
    · rw [if_neg (by simp [hn])]; exact check_len A Am n c h hn w
set_option maxRecDepth 100000 in
theorem rmb_may (A : Q) (hm : mayQ A = false) (w : World) : Calls Try.prog 46 #[.agg #[.int .i64 A.x0, .int .i64 A.y0, .int .i64 A.x1, .int .i64 A.y1]] w fun e w' => e = .returned (.int .i64 1) ∧ Below w.heap.size w w' := by
  have B : Below w.heap.size w (w.alloc (.cells #[.int .i64 A.x0, .int .i64 A.y0, .int .i64 A.x1, .int .i64 A.y1] 32)) := below_a1 _ _
  have K := Blk.new w 32 #[.int .i64 A.x0, .int .i64 A.y0, .int .i64 A.x1, .int .i64 A.y1]
  have CM := fun W => rmayQ_any A W
  have CE := fun W => rempty_any A W
  rw [hm] at CM
  clear hm CE
  go_enter Try.func46, Try.ntmps46
  go_wp2_with (first | (go_at_call 31; ((with_reducible refine (CM _).mono ?_); rintro e w1 ⟨rfl, b1⟩; have B := B.trans (b1.mono B.size); have K := K.below b1; have k0 := K.cell 0; have k1 := K.cell 1; have k2 := K.cell 2; have k3 := K.cell 3; have kl := K.lt; simp only [List.getElem?_toArray, List.getElem?_cons_succ, List.getElem?_cons_zero] at k0 k1 k2 k3)) | (go_at_call 55; ((with_reducible refine (CE _).mono ?_); rintro e w1 ⟨rfl, b1⟩; have B := B.trans (b1.mono B.size); have K := K.below b1; have k0 := K.cell 0; have k1 := K.cell 1; have k2 := K.cell 2; have k3 := K.cell 3; have kl := K.lt; simp only [List.getElem?_toArray, List.getElem?_cons_succ, List.getElem?_cons_zero] at k0 k1 k2 k3)))
  go_ret
  exact ⟨rfl, B⟩
set_option maxRecDepth 100000 in
theorem rmb_empty (A : Q) (hm : mayQ A = true) (he : emptyQ A = true) (w : World) : Calls Try.prog 46 #[.agg #[.int .i64 A.x0, .int .i64 A.y0, .int .i64 A.x1, .int .i64 A.y1]] w fun e w' => e = .returned (.int .i64 1) ∧ Below w.heap.size w w' := by
  have B : Below w.heap.size w (w.alloc (.cells #[.int .i64 A.x0, .int .i64 A.y0, .int .i64 A.x1, .int .i64 A.y1] 32)) := below_a1 _ _
  have K := Blk.new w 32 #[.int .i64 A.x0, .int .i64 A.y0, .int .i64 A.x1, .int .i64 A.y1]
  have CM := fun W => rmayQ_any A W
  have CE := fun W => rempty_any A W
  rw [hm] at CM
  rw [he] at CE
  clear hm he
  go_enter Try.func46, Try.ntmps46
  go_wp2_with (first | (go_at_call 31; ((with_reducible refine (CM _).mono ?_); rintro e w1 ⟨rfl, b1⟩; have B := B.trans (b1.mono B.size); have K := K.below b1; have k0 := K.cell 0; have k1 := K.cell 1; have k2 := K.cell 2; have k3 := K.cell 3; have kl := K.lt; simp only [List.getElem?_toArray, List.getElem?_cons_succ, List.getElem?_cons_zero] at k0 k1 k2 k3)) | (go_at_call 55; ((with_reducible refine (CE _).mono ?_); rintro e w1 ⟨rfl, b1⟩; have B := B.trans (b1.mono B.size); have K := K.below b1; have k0 := K.cell 0; have k1 := K.cell 1; have k2 := K.cell 2; have k3 := K.cell 3; have kl := K.lt; simp only [List.getElem?_toArray, List.getElem?_cons_succ, List.getElem?_cons_zero] at k0 k1 k2 k3)))
  go_ret
  exact ⟨rfl, B⟩
set_option maxRecDepth 100000 in
theorem rmb_x0 (A : Q) (hm : mayQ A = true) (he : emptyQ A = false) (g0 : A.x0 < -16384) (w : World) : Calls Try.prog 46 #[.agg #[.int .i64 A.x0, .int .i64 A.y0, .int .i64 A.x1, .int .i64 A.y1]] w fun e w' => e = .returned (.int .i64 220) ∧ Below w.heap.size w w' := by
  have B : Below w.heap.size w (w.alloc (.cells #[.int .i64 A.x0, .int .i64 A.y0, .int .i64 A.x1, .int .i64 A.y1] 32)) := below_a1 _ _
  have K := Blk.new w 32 #[.int .i64 A.x0, .int .i64 A.y0, .int .i64 A.x1, .int .i64 A.y1]
  have CM := fun W => rmayQ_any A W
  have CE := fun W => rempty_any A W
  rw [hm] at CM
  rw [he] at CE
  clear hm he
  go_enter Try.func46, Try.ntmps46
  go_wp2_with (first | (go_at_call 31; ((with_reducible refine (CM _).mono ?_); rintro e w1 ⟨rfl, b1⟩; have B := B.trans (b1.mono B.size); have K := K.below b1; have k0 := K.cell 0; have k1 := K.cell 1; have k2 := K.cell 2; have k3 := K.cell 3; have kl := K.lt; simp only [List.getElem?_toArray, List.getElem?_cons_succ, List.getElem?_cons_zero] at k0 k1 k2 k3)) | (go_at_call 55; ((with_reducible refine (CE _).mono ?_); rintro e w1 ⟨rfl, b1⟩; have B := B.trans (b1.mono B.size); have K := K.below b1; have k0 := K.cell 0; have k1 := K.cell 1; have k2 := K.cell 2; have k3 := K.cell 3; have kl := K.lt; simp only [List.getElem?_toArray, List.getElem?_cons_succ, List.getElem?_cons_zero] at k0 k1 k2 k3)))
  go_ret
  exact ⟨rfl, B⟩
set_option maxRecDepth 100000 in
theorem rmb_y0 (A : Q) (hm : mayQ A = true) (he : emptyQ A = false) (g0 : -16384 ≤ A.x0) (g1 : A.y0 < -16384) (w : World) : Calls Try.prog 46 #[.agg #[.int .i64 A.x0, .int .i64 A.y0, .int .i64 A.x1, .int .i64 A.y1]] w fun e w' => e = .returned (.int .i64 220) ∧ Below w.heap.size w w' := by
  have B : Below w.heap.size w (w.alloc (.cells #[.int .i64 A.x0, .int .i64 A.y0, .int .i64 A.x1, .int .i64 A.y1] 32)) := below_a1 _ _
  have K := Blk.new w 32 #[.int .i64 A.x0, .int .i64 A.y0, .int .i64 A.x1, .int .i64 A.y1]
  have CM := fun W => rmayQ_any A W
  have CE := fun W => rempty_any A W
  rw [hm] at CM
  rw [he] at CE
  clear hm he
  go_enter Try.func46, Try.ntmps46
  go_wp2_with (first | (go_at_call 31; ((with_reducible refine (CM _).mono ?_); rintro e w1 ⟨rfl, b1⟩; have B := B.trans (b1.mono B.size); have K := K.below b1; have k0 := K.cell 0; have k1 := K.cell 1; have k2 := K.cell 2; have k3 := K.cell 3; have kl := K.lt; simp only [List.getElem?_toArray, List.getElem?_cons_succ, List.getElem?_cons_zero] at k0 k1 k2 k3)) | (go_at_call 55; ((with_reducible refine (CE _).mono ?_); rintro e w1 ⟨rfl, b1⟩; have B := B.trans (b1.mono B.size); have K := K.below b1; have k0 := K.cell 0; have k1 := K.cell 1; have k2 := K.cell 2; have k3 := K.cell 3; have kl := K.lt; simp only [List.getElem?_toArray, List.getElem?_cons_succ, List.getElem?_cons_zero] at k0 k1 k2 k3)))
  go_ret
  exact ⟨rfl, B⟩
set_option maxRecDepth 100000 in
theorem rmb_x1 (A : Q) (hm : mayQ A = true) (he : emptyQ A = false) (g0 : -16384 ≤ A.x0) (g1 : -16384 ≤ A.y0) (g2 : 16384 < A.x1) (w : World) : Calls Try.prog 46 #[.agg #[.int .i64 A.x0, .int .i64 A.y0, .int .i64 A.x1, .int .i64 A.y1]] w fun e w' => e = .returned (.int .i64 220) ∧ Below w.heap.size w w' := by
  have B : Below w.heap.size w (w.alloc (.cells #[.int .i64 A.x0, .int .i64 A.y0, .int .i64 A.x1, .int .i64 A.y1] 32)) := below_a1 _ _
  have K := Blk.new w 32 #[.int .i64 A.x0, .int .i64 A.y0, .int .i64 A.x1, .int .i64 A.y1]
  have CM := fun W => rmayQ_any A W
  have CE := fun W => rempty_any A W
  rw [hm] at CM
  rw [he] at CE
  clear hm he
  go_enter Try.func46, Try.ntmps46
  go_wp2_with (first | (go_at_call 31; ((with_reducible refine (CM _).mono ?_); rintro e w1 ⟨rfl, b1⟩; have B := B.trans (b1.mono B.size); have K := K.below b1; have k0 := K.cell 0; have k1 := K.cell 1; have k2 := K.cell 2; have k3 := K.cell 3; have kl := K.lt; simp only [List.getElem?_toArray, List.getElem?_cons_succ, List.getElem?_cons_zero] at k0 k1 k2 k3)) | (go_at_call 55; ((with_reducible refine (CE _).mono ?_); rintro e w1 ⟨rfl, b1⟩; have B := B.trans (b1.mono B.size); have K := K.below b1; have k0 := K.cell 0; have k1 := K.cell 1; have k2 := K.cell 2; have k3 := K.cell 3; have kl := K.lt; simp only [List.getElem?_toArray, List.getElem?_cons_succ, List.getElem?_cons_zero] at k0 k1 k2 k3)))
  go_ret
  exact ⟨rfl, B⟩
set_option maxRecDepth 100000 in
theorem rmb_y1 (A : Q) (hm : mayQ A = true) (he : emptyQ A = false) (g0 : -16384 ≤ A.x0) (g1 : -16384 ≤ A.y0) (g2 : A.x1 ≤ 16384) (g3 : 16384 < A.y1) (w : World) : Calls Try.prog 46 #[.agg #[.int .i64 A.x0, .int .i64 A.y0, .int .i64 A.x1, .int .i64 A.y1]] w fun e w' => e = .returned (.int .i64 220) ∧ Below w.heap.size w w' := by
  have B : Below w.heap.size w (w.alloc (.cells #[.int .i64 A.x0, .int .i64 A.y0, .int .i64 A.x1, .int .i64 A.y1] 32)) := below_a1 _ _
  have K := Blk.new w 32 #[.int .i64 A.x0, .int .i64 A.y0, .int .i64 A.x1, .int .i64 A.y1]
  have CM := fun W => rmayQ_any A W
  have CE := fun W => rempty_any A W
  rw [hm] at CM
  rw [he] at CE
  clear hm he
  go_enter Try.func46, Try.ntmps46
  go_wp2_with (first | (go_at_call 31; ((with_reducible refine (CM _).mono ?_); rintro e w1 ⟨rfl, b1⟩; have B := B.trans (b1.mono B.size); have K := K.below b1; have k0 := K.cell 0; have k1 := K.cell 1; have k2 := K.cell 2; have k3 := K.cell 3; have kl := K.lt; simp only [List.getElem?_toArray, List.getElem?_cons_succ, List.getElem?_cons_zero] at k0 k1 k2 k3)) | (go_at_call 55; ((with_reducible refine (CE _).mono ?_); rintro e w1 ⟨rfl, b1⟩; have B := B.trans (b1.mono B.size); have K := K.below b1; have k0 := K.cell 0; have k1 := K.cell 1; have k2 := K.cell 2; have k3 := K.cell 3; have kl := K.lt; simp only [List.getElem?_toArray, List.getElem?_cons_succ, List.getElem?_cons_zero] at k0 k1 k2 k3)))
  go_ret
  exact ⟨rfl, B⟩
set_option maxRecDepth 100000 in
theorem rmb_great (A : Q) (h4 : in4 A = true) (he : emptyQ A = false) (hg : 4194304 < (A.x1 - A.x0) * (A.y1 - A.y0)) (w : World) : Calls Try.prog 46 #[.agg #[.int .i64 A.x0, .int .i64 A.y0, .int .i64 A.x1, .int .i64 A.y1]] w fun e w' => e = .returned (.int .i64 220) ∧ Below w.heap.size w w' := by
  have B : Below w.heap.size w (w.alloc (.cells #[.int .i64 A.x0, .int .i64 A.y0, .int .i64 A.x1, .int .i64 A.y1] 32)) := below_a1 _ _
  have K := Blk.new w 32 #[.int .i64 A.x0, .int .i64 A.y0, .int .i64 A.x1, .int .i64 A.y1]
  have CM := fun W => rmayQ_any A W
  have CE := fun W => rempty_any A W
  obtain ⟨p1, p2, p3, p4, p5, p6⟩ := prod4 h4 he
  have g := in4_lims h4
  obtain ⟨⟨g0, _⟩, ⟨g1, _⟩, ⟨_, g2⟩, ⟨_, g3⟩⟩ := g
  have s1 : wrap64 (A.x1 - A.x0) = A.x1 - A.x0 := by unfold wrap64; omega
  have s2 : wrap64 (A.y1 - A.y0) = A.y1 - A.y0 := by unfold wrap64; omega
  have s3 : wrap64 ((A.x1 - A.x0) * (A.y1 - A.y0)) = (A.x1 - A.x0) * (A.y1 - A.y0) := by unfold wrap64; omega
  rw [in4_may h4] at CM
  rw [he] at CE
  clear he h4 p1 p2 p3 p4
  go_enter Try.func46, Try.ntmps46
  go_wp2_with (first | (go_at_call 31; ((with_reducible refine (CM _).mono ?_); rintro e w1 ⟨rfl, b1⟩; have B := B.trans (b1.mono B.size); have K := K.below b1; have k0 := K.cell 0; have k1 := K.cell 1; have k2 := K.cell 2; have k3 := K.cell 3; have kl := K.lt; simp only [List.getElem?_toArray, List.getElem?_cons_succ, List.getElem?_cons_zero] at k0 k1 k2 k3)) | (go_at_call 55; ((with_reducible refine (CE _).mono ?_); rintro e w1 ⟨rfl, b1⟩; have B := B.trans (b1.mono B.size); have K := K.below b1; have k0 := K.cell 0; have k1 := K.cell 1; have k2 := K.cell 2; have k3 := K.cell 3; have kl := K.lt; simp only [List.getElem?_toArray, List.getElem?_cons_succ, List.getElem?_cons_zero] at k0 k1 k2 k3)))
  go_ret
  exact ⟨rfl, B⟩
set_option maxRecDepth 100000 in
theorem rmb_ok (A : Q) (h4 : in4 A = true) (he : emptyQ A = false) (hg : (A.x1 - A.x0) * (A.y1 - A.y0) ≤ 4194304) (w : World) : Calls Try.prog 46 #[.agg #[.int .i64 A.x0, .int .i64 A.y0, .int .i64 A.x1, .int .i64 A.y1]] w fun e w' => e = .returned (.int .i64 0) ∧ Below w.heap.size w w' := by
  have B : Below w.heap.size w (w.alloc (.cells #[.int .i64 A.x0, .int .i64 A.y0, .int .i64 A.x1, .int .i64 A.y1] 32)) := below_a1 _ _
  have K := Blk.new w 32 #[.int .i64 A.x0, .int .i64 A.y0, .int .i64 A.x1, .int .i64 A.y1]
  have CM := fun W => rmayQ_any A W
  have CE := fun W => rempty_any A W
  obtain ⟨p1, p2, p3, p4, p5, p6⟩ := prod4 h4 he
  have g := in4_lims h4
  obtain ⟨⟨g0, _⟩, ⟨g1, _⟩, ⟨_, g2⟩, ⟨_, g3⟩⟩ := g
  have s1 : wrap64 (A.x1 - A.x0) = A.x1 - A.x0 := by unfold wrap64; omega
  have s2 : wrap64 (A.y1 - A.y0) = A.y1 - A.y0 := by unfold wrap64; omega
  have s3 : wrap64 ((A.x1 - A.x0) * (A.y1 - A.y0)) = (A.x1 - A.x0) * (A.y1 - A.y0) := by unfold wrap64; omega
  rw [in4_may h4] at CM
  rw [he] at CE
  clear he h4 p1 p2 p3 p4
  go_enter Try.func46, Try.ntmps46
  go_wp2_with (first | (go_at_call 31; ((with_reducible refine (CM _).mono ?_); rintro e w1 ⟨rfl, b1⟩; have B := B.trans (b1.mono B.size); have K := K.below b1; have k0 := K.cell 0; have k1 := K.cell 1; have k2 := K.cell 2; have k3 := K.cell 3; have kl := K.lt; simp only [List.getElem?_toArray, List.getElem?_cons_succ, List.getElem?_cons_zero] at k0 k1 k2 k3)) | (go_at_call 55; ((with_reducible refine (CE _).mono ?_); rintro e w1 ⟨rfl, b1⟩; have B := B.trans (b1.mono B.size); have K := K.below b1; have k0 := K.cell 0; have k1 := K.cell 1; have k2 := K.cell 2; have k3 := K.cell 3; have kl := K.lt; simp only [List.getElem?_toArray, List.getElem?_cons_succ, List.getElem?_cons_zero] at k0 k1 k2 k3)))
  go_ret
  exact ⟨rfl, B⟩
def rmbC (A : Q) : Int := if mayQ A = false ∨ emptyQ A = true then 1 else if in4 A = true ∧ (A.x1 - A.x0) * (A.y1 - A.y0) ≤ 4194304 then 0 else 220
theorem rmb_any (A : Q) (w : World) : Calls Try.prog 46 #[.agg #[.int .i64 A.x0, .int .i64 A.y0, .int .i64 A.x1, .int .i64 A.y1]] w fun e w' => e = .returned (.int .i64 (rmbC A)) ∧ Below w.heap.size w w' := by
  unfold rmbC
  cases hm : mayQ A
  · rw [if_pos (by simp)]; exact rmb_may A hm w
  · cases he : emptyQ A
    · rw [if_neg (by simp)]
      cases h4 : in4 A
      · rw [if_neg (by simp)]
        have h := empty_lims he
        have h4' : ¬ ((-16384 ≤ A.x0 ∧ A.x0 ≤ 16384) ∧ (-16384 ≤ A.y0 ∧ A.y0 ≤ 16384) ∧ (-16384 ≤ A.x1 ∧ A.x1 ≤ 16384) ∧ (-16384 ≤ A.y1 ∧ A.y1 ≤ 16384)) := by
          rintro ⟨⟨a1, a2⟩, ⟨a3, a4⟩, ⟨a5, a6⟩, ⟨a7, a8⟩⟩
          unfold in4 inZ at h4
          simp [a1, a2, a3, a4, a5, a6, a7, a8] at h4
        by_cases g0 : A.x0 < -16384
        · exact rmb_x0 A hm he g0 w
        · by_cases g1 : A.y0 < -16384
          · exact rmb_y0 A hm he (by omega) g1 w
          · by_cases g2 : 16384 < A.x1
            · exact rmb_x1 A hm he (by omega) (by omega) g2 w
            · exact rmb_y1 A hm he (by omega) (by omega) (by omega) (by omega) w
      · by_cases hg : (A.x1 - A.x0) * (A.y1 - A.y0) ≤ 4194304
        · rw [if_pos ⟨rfl, hg⟩]; exact rmb_ok A h4 he hg w
        · rw [if_neg (by simp; omega)]; exact rmb_great A h4 he (by omega) w
    · rw [if_pos (by simp)]; exact rmb_empty A hm he w
set_option maxRecDepth 100000 in
set_option maxHeartbeats 2000000 in
theorem rcheck_zero (A : Q) (Am : Option Addr) (n c : Nat) (hz : zerB A = true) (hn : n = 0) (w : World) : Calls Try.prog 25 #[.agg #[.int .i64 A.x0, .int .i64 A.y0, .int .i64 A.x1, .int .i64 A.y1, .slice Am n c]] w fun e w' => e = .returned (.int .i64 0) ∧ Below w.heap.size w w' := by
  have B0 : Below w.heap.size w ((w.alloc (.cells #[.int .i64 A.x0, .int .i64 A.y0, .int .i64 A.x1, .int .i64 A.y1, .slice Am n c] 35)).alloc (.cells #[.int .i64 0, .int .i64 0, .int .i64 0, .int .i64 0] 32)) := below_a2 _ _ _
  have K0 := (Blk.new w 35 #[.int .i64 A.x0, .int .i64 A.y0, .int .i64 A.x1, .int .i64 A.y1, .slice Am n c]).below (below_a1 _ (.cells #[.int .i64 0, .int .i64 0, .int .i64 0, .int .i64 0] 32))
  have J0 := Blk.new (w.alloc (.cells #[.int .i64 A.x0, .int .i64 A.y0, .int .i64 A.x1, .int .i64 A.y1, .slice Am n c] 35)) 32 #[.int .i64 0, .int .i64 0, .int .i64 0, .int .i64 0]
  rw [World.size_alloc] at J0
  have HJ := Lib.hid (blk_row J0 #[.int .i64 A.x0, .int .i64 A.y0, .int .i64 A.x1, .int .i64 A.y1])
  have o := only_row (g := w.heap.size + 1) (Only.refl ((w.alloc (.cells #[.int .i64 A.x0, .int .i64 A.y0, .int .i64 A.x1, .int .i64 A.y1, .slice Am n c] 35)).alloc (.cells #[.int .i64 0, .int .i64 0, .int .i64 0, .int .i64 0] 32)) [w.heap.size + 1]) (.inl (by simp)) #[.int .i64 A.x0, .int .i64 A.y0, .int .i64 A.x1, .int .i64 A.y1]
  have HK := Lib.hid (K0.only o (by simp))
  have HB := Lib.hid (below_setRow (g := w.heap.size + 1) B0 (Nat.le_succ _) #[.int .i64 A.x0, .int .i64 A.y0, .int .i64 A.x1, .int .i64 A.y1])
  have B := HB.out
  have q1 := fun w => eqB_run A.x0 A.y0 A.x1 A.y1 0 0 0 0 w
  have q2 := fun x y w => eqB_guard A.x0 A.y0 A.x1 A.y1 0 0 0 0 x y w
  have CR := fun W => rmb_any A W
  rw [show eq4 A.x0 A.y0 A.x1 A.y1 0 0 0 0 = true from hz] at q1
  subst hn
  clear hz
  have HJ0 := Lib.hid J0
  have K := HK.out; have J := HJ.out; have k0 := K.cell 0; have k1 := K.cell 1; have k2 := K.cell 2; have k3 := K.cell 3; have k4 := K.cell 4; have kl := K.lt; simp only [List.getElem?_toArray, List.getElem?_cons_succ, List.getElem?_cons_zero] at k0 k1 k2 k3 k4; have j0 := J.cell 0; have j1 := J.cell 1; have j2 := J.cell 2; have j3 := J.cell 3; have jl := J.lt; simp only [List.getElem?_toArray, List.getElem?_cons_succ, List.getElem?_cons_zero] at j0 j1 j2 j3
  clear K0 B0 o K J J0
  go_enter Try.func25, Try.ntmps25
  go_wp2_with (refine wpList_store_row rfl 32 (.tmp 3) (.tmp 5) (by with_reducible rfl) (w.heap.size + 1) #[.int .i64 A.x0, .int .i64 A.y0, .int .i64 A.x1, .int .i64 A.y1] (by rfl) (by rfl) 32 #[.int .i64 0, .int .i64 0, .int .i64 0, .int .i64 0] (by exact HJ0.out) (by kernel_rfl) rfl (by simp [Value.oneCell']) ?_)

  go_ret
  exact ⟨rfl, B⟩
set_option maxRecDepth 100000 in
set_option maxHeartbeats 2000000 in
theorem rcheck_zerono (A : Q) (Am : Option Addr) (n c : Nat) (hz : zerB A = true) (hn : n ≠ 0) (w : World) : Calls Try.prog 25 #[.agg #[.int .i64 A.x0, .int .i64 A.y0, .int .i64 A.x1, .int .i64 A.y1, .slice Am n c]] w fun e w' => e = .returned (.int .i64 220) ∧ Below w.heap.size w w' := by
  have B0 : Below w.heap.size w ((w.alloc (.cells #[.int .i64 A.x0, .int .i64 A.y0, .int .i64 A.x1, .int .i64 A.y1, .slice Am n c] 35)).alloc (.cells #[.int .i64 0, .int .i64 0, .int .i64 0, .int .i64 0] 32)) := below_a2 _ _ _
  have K0 := (Blk.new w 35 #[.int .i64 A.x0, .int .i64 A.y0, .int .i64 A.x1, .int .i64 A.y1, .slice Am n c]).below (below_a1 _ (.cells #[.int .i64 0, .int .i64 0, .int .i64 0, .int .i64 0] 32))
  have J0 := Blk.new (w.alloc (.cells #[.int .i64 A.x0, .int .i64 A.y0, .int .i64 A.x1, .int .i64 A.y1, .slice Am n c] 35)) 32 #[.int .i64 0, .int .i64 0, .int .i64 0, .int .i64 0]
  rw [World.size_alloc] at J0
  have HJ := Lib.hid (blk_row J0 #[.int .i64 A.x0, .int .i64 A.y0, .int .i64 A.x1, .int .i64 A.y1])
  have o := only_row (g := w.heap.size + 1) (Only.refl ((w.alloc (.cells #[.int .i64 A.x0, .int .i64 A.y0, .int .i64 A.x1, .int .i64 A.y1, .slice Am n c] 35)).alloc (.cells #[.int .i64 0, .int .i64 0, .int .i64 0, .int .i64 0] 32)) [w.heap.size + 1]) (.inl (by simp)) #[.int .i64 A.x0, .int .i64 A.y0, .int .i64 A.x1, .int .i64 A.y1]
  have HK := Lib.hid (K0.only o (by simp))
  have HB := Lib.hid (below_setRow (g := w.heap.size + 1) B0 (Nat.le_succ _) #[.int .i64 A.x0, .int .i64 A.y0, .int .i64 A.x1, .int .i64 A.y1])
  have B := HB.out
  have q1 := fun w => eqB_run A.x0 A.y0 A.x1 A.y1 0 0 0 0 w
  have q2 := fun x y w => eqB_guard A.x0 A.y0 A.x1 A.y1 0 0 0 0 x y w
  have CR := fun W => rmb_any A W
  rw [show eq4 A.x0 A.y0 A.x1 A.y1 0 0 0 0 = true from hz] at q1
  have d1 : ((n : Int) == 0) = false := by simpa using hn
  clear hz hn
  have HJ0 := Lib.hid J0
  have K := HK.out; have J := HJ.out; have k0 := K.cell 0; have k1 := K.cell 1; have k2 := K.cell 2; have k3 := K.cell 3; have k4 := K.cell 4; have kl := K.lt; simp only [List.getElem?_toArray, List.getElem?_cons_succ, List.getElem?_cons_zero] at k0 k1 k2 k3 k4; have j0 := J.cell 0; have j1 := J.cell 1; have j2 := J.cell 2; have j3 := J.cell 3; have jl := J.lt; simp only [List.getElem?_toArray, List.getElem?_cons_succ, List.getElem?_cons_zero] at j0 j1 j2 j3
  clear K0 B0 o K J J0
  go_enter Try.func25, Try.ntmps25
  go_wp2_with (refine wpList_store_row rfl 32 (.tmp 3) (.tmp 5) (by with_reducible rfl) (w.heap.size + 1) #[.int .i64 A.x0, .int .i64 A.y0, .int .i64 A.x1, .int .i64 A.y1] (by rfl) (by rfl) 32 #[.int .i64 0, .int .i64 0, .int .i64 0, .int .i64 0] (by exact HJ0.out) (by kernel_rfl) rfl (by simp [Value.oneCell']) ?_)

  go_ret
  exact ⟨rfl, B⟩
set_option maxRecDepth 100000 in
set_option maxHeartbeats 2000000 in
theorem rcheck_no1 (A : Q) (Am : Option Addr) (n c : Nat) (hz : zerB A = false) (hr : rmbC A = 1) (w : World) : Calls Try.prog 25 #[.agg #[.int .i64 A.x0, .int .i64 A.y0, .int .i64 A.x1, .int .i64 A.y1, .slice Am n c]] w fun e w' => e = .returned (.int .i64 220) ∧ Below w.heap.size w w' := by
  have B0 : Below w.heap.size w ((w.alloc (.cells #[.int .i64 A.x0, .int .i64 A.y0, .int .i64 A.x1, .int .i64 A.y1, .slice Am n c] 35)).alloc (.cells #[.int .i64 0, .int .i64 0, .int .i64 0, .int .i64 0] 32)) := below_a2 _ _ _
  have K0 := (Blk.new w 35 #[.int .i64 A.x0, .int .i64 A.y0, .int .i64 A.x1, .int .i64 A.y1, .slice Am n c]).below (below_a1 _ (.cells #[.int .i64 0, .int .i64 0, .int .i64 0, .int .i64 0] 32))
  have J0 := Blk.new (w.alloc (.cells #[.int .i64 A.x0, .int .i64 A.y0, .int .i64 A.x1, .int .i64 A.y1, .slice Am n c] 35)) 32 #[.int .i64 0, .int .i64 0, .int .i64 0, .int .i64 0]
  rw [World.size_alloc] at J0
  have HJ := Lib.hid (blk_row J0 #[.int .i64 A.x0, .int .i64 A.y0, .int .i64 A.x1, .int .i64 A.y1])
  have o := only_row (g := w.heap.size + 1) (Only.refl ((w.alloc (.cells #[.int .i64 A.x0, .int .i64 A.y0, .int .i64 A.x1, .int .i64 A.y1, .slice Am n c] 35)).alloc (.cells #[.int .i64 0, .int .i64 0, .int .i64 0, .int .i64 0] 32)) [w.heap.size + 1]) (.inl (by simp)) #[.int .i64 A.x0, .int .i64 A.y0, .int .i64 A.x1, .int .i64 A.y1]
  have HK := Lib.hid (K0.only o (by simp))
  have HB := Lib.hid (below_setRow (g := w.heap.size + 1) B0 (Nat.le_succ _) #[.int .i64 A.x0, .int .i64 A.y0, .int .i64 A.x1, .int .i64 A.y1])
  have B := HB.out
  have q1 := fun w => eqB_run A.x0 A.y0 A.x1 A.y1 0 0 0 0 w
  have q2 := fun x y w => eqB_guard A.x0 A.y0 A.x1 A.y1 0 0 0 0 x y w
  have CR := fun W => rmb_any A W
  rw [show eq4 A.x0 A.y0 A.x1 A.y1 0 0 0 0 = false from hz] at q1
  rw [hr] at CR
  clear hz hr
  have HJ0 := Lib.hid J0
  have K := HK.out; have J := HJ.out; have k0 := K.cell 0; have k1 := K.cell 1; have k2 := K.cell 2; have k3 := K.cell 3; have k4 := K.cell 4; have kl := K.lt; simp only [List.getElem?_toArray, List.getElem?_cons_succ, List.getElem?_cons_zero] at k0 k1 k2 k3 k4; have j0 := J.cell 0; have j1 := J.cell 1; have j2 := J.cell 2; have j3 := J.cell 3; have jl := J.lt; simp only [List.getElem?_toArray, List.getElem?_cons_succ, List.getElem?_cons_zero] at j0 j1 j2 j3
  clear K0 B0 o K J J0
  go_enter Try.func25, Try.ntmps25
  go_wp2_with (refine wpList_store_row rfl 32 (.tmp 3) (.tmp 5) (by with_reducible rfl) (w.heap.size + 1) #[.int .i64 A.x0, .int .i64 A.y0, .int .i64 A.x1, .int .i64 A.y1] (by rfl) (by rfl) 32 #[.int .i64 0, .int .i64 0, .int .i64 0, .int .i64 0] (by exact HJ0.out) (by kernel_rfl) rfl (by simp [Value.oneCell']) ?_)
  (go_at_call 46; ((with_reducible refine (CR _).mono ?_); rintro e w1 ⟨rfl, b1⟩; have B := HB.out.trans (b1.mono HB.out.size); have K := HK.out.below b1; have J := HJ.out.below b1; have k0 := K.cell 0; have k1 := K.cell 1; have k2 := K.cell 2; have k3 := K.cell 3; have k4 := K.cell 4; have kl := K.lt; simp only [List.getElem?_toArray, List.getElem?_cons_succ, List.getElem?_cons_zero] at k0 k1 k2 k3 k4; have j0 := J.cell 0; have j1 := J.cell 1; have j2 := J.cell 2; have j3 := J.cell 3; have jl := J.lt; simp only [List.getElem?_toArray, List.getElem?_cons_succ, List.getElem?_cons_zero] at j0 j1 j2 j3))
  go_wp2
  go_ret
  exact ⟨rfl, B⟩
set_option maxRecDepth 100000 in
set_option maxHeartbeats 2000000 in
theorem rcheck_no220 (A : Q) (Am : Option Addr) (n c : Nat) (hz : zerB A = false) (hr : rmbC A = 220) (w : World) : Calls Try.prog 25 #[.agg #[.int .i64 A.x0, .int .i64 A.y0, .int .i64 A.x1, .int .i64 A.y1, .slice Am n c]] w fun e w' => e = .returned (.int .i64 220) ∧ Below w.heap.size w w' := by
  have B0 : Below w.heap.size w ((w.alloc (.cells #[.int .i64 A.x0, .int .i64 A.y0, .int .i64 A.x1, .int .i64 A.y1, .slice Am n c] 35)).alloc (.cells #[.int .i64 0, .int .i64 0, .int .i64 0, .int .i64 0] 32)) := below_a2 _ _ _
  have K0 := (Blk.new w 35 #[.int .i64 A.x0, .int .i64 A.y0, .int .i64 A.x1, .int .i64 A.y1, .slice Am n c]).below (below_a1 _ (.cells #[.int .i64 0, .int .i64 0, .int .i64 0, .int .i64 0] 32))
  have J0 := Blk.new (w.alloc (.cells #[.int .i64 A.x0, .int .i64 A.y0, .int .i64 A.x1, .int .i64 A.y1, .slice Am n c] 35)) 32 #[.int .i64 0, .int .i64 0, .int .i64 0, .int .i64 0]
  rw [World.size_alloc] at J0
  have HJ := Lib.hid (blk_row J0 #[.int .i64 A.x0, .int .i64 A.y0, .int .i64 A.x1, .int .i64 A.y1])
  have o := only_row (g := w.heap.size + 1) (Only.refl ((w.alloc (.cells #[.int .i64 A.x0, .int .i64 A.y0, .int .i64 A.x1, .int .i64 A.y1, .slice Am n c] 35)).alloc (.cells #[.int .i64 0, .int .i64 0, .int .i64 0, .int .i64 0] 32)) [w.heap.size + 1]) (.inl (by simp)) #[.int .i64 A.x0, .int .i64 A.y0, .int .i64 A.x1, .int .i64 A.y1]
  have HK := Lib.hid (K0.only o (by simp))
  have HB := Lib.hid (below_setRow (g := w.heap.size + 1) B0 (Nat.le_succ _) #[.int .i64 A.x0, .int .i64 A.y0, .int .i64 A.x1, .int .i64 A.y1])
  have B := HB.out
  have q1 := fun w => eqB_run A.x0 A.y0 A.x1 A.y1 0 0 0 0 w
  have q2 := fun x y w => eqB_guard A.x0 A.y0 A.x1 A.y1 0 0 0 0 x y w
  have CR := fun W => rmb_any A W
  rw [show eq4 A.x0 A.y0 A.x1 A.y1 0 0 0 0 = false from hz] at q1
  rw [hr] at CR
  clear hz hr
  have HJ0 := Lib.hid J0
  have K := HK.out; have J := HJ.out; have k0 := K.cell 0; have k1 := K.cell 1; have k2 := K.cell 2; have k3 := K.cell 3; have k4 := K.cell 4; have kl := K.lt; simp only [List.getElem?_toArray, List.getElem?_cons_succ, List.getElem?_cons_zero] at k0 k1 k2 k3 k4; have j0 := J.cell 0; have j1 := J.cell 1; have j2 := J.cell 2; have j3 := J.cell 3; have jl := J.lt; simp only [List.getElem?_toArray, List.getElem?_cons_succ, List.getElem?_cons_zero] at j0 j1 j2 j3
  clear K0 B0 o K J J0
  go_enter Try.func25, Try.ntmps25
  go_wp2_with (refine wpList_store_row rfl 32 (.tmp 3) (.tmp 5) (by with_reducible rfl) (w.heap.size + 1) #[.int .i64 A.x0, .int .i64 A.y0, .int .i64 A.x1, .int .i64 A.y1] (by rfl) (by rfl) 32 #[.int .i64 0, .int .i64 0, .int .i64 0, .int .i64 0] (by exact HJ0.out) (by kernel_rfl) rfl (by simp [Value.oneCell']) ?_)
  (go_at_call 46; ((with_reducible refine (CR _).mono ?_); rintro e w1 ⟨rfl, b1⟩; have B := HB.out.trans (b1.mono HB.out.size); have K := HK.out.below b1; have J := HJ.out.below b1; have k0 := K.cell 0; have k1 := K.cell 1; have k2 := K.cell 2; have k3 := K.cell 3; have k4 := K.cell 4; have kl := K.lt; simp only [List.getElem?_toArray, List.getElem?_cons_succ, List.getElem?_cons_zero] at k0 k1 k2 k3 k4; have j0 := J.cell 0; have j1 := J.cell 1; have j2 := J.cell 2; have j3 := J.cell 3; have jl := J.lt; simp only [List.getElem?_toArray, List.getElem?_cons_succ, List.getElem?_cons_zero] at j0 j1 j2 j3))
  go_wp2
  go_ret
  exact ⟨rfl, B⟩
set_option maxRecDepth 100000 in
set_option maxHeartbeats 2000000 in
theorem rcheck_len (A : Q) (Am : Option Addr) (n c : Nat) (h4 : in4 A = true) (he : emptyQ A = false) (hr : rmbC A = 0) (hn : (A.x1 - A.x0) * (A.y1 - A.y0) ≠ (n : Int)) (w : World) : Calls Try.prog 25 #[.agg #[.int .i64 A.x0, .int .i64 A.y0, .int .i64 A.x1, .int .i64 A.y1, .slice Am n c]] w fun e w' => e = .returned (.int .i64 220) ∧ Below w.heap.size w w' := by
  have B0 : Below w.heap.size w ((w.alloc (.cells #[.int .i64 A.x0, .int .i64 A.y0, .int .i64 A.x1, .int .i64 A.y1, .slice Am n c] 35)).alloc (.cells #[.int .i64 0, .int .i64 0, .int .i64 0, .int .i64 0] 32)) := below_a2 _ _ _
  have K0 := (Blk.new w 35 #[.int .i64 A.x0, .int .i64 A.y0, .int .i64 A.x1, .int .i64 A.y1, .slice Am n c]).below (below_a1 _ (.cells #[.int .i64 0, .int .i64 0, .int .i64 0, .int .i64 0] 32))
  have J0 := Blk.new (w.alloc (.cells #[.int .i64 A.x0, .int .i64 A.y0, .int .i64 A.x1, .int .i64 A.y1, .slice Am n c] 35)) 32 #[.int .i64 0, .int .i64 0, .int .i64 0, .int .i64 0]
  rw [World.size_alloc] at J0
  have HJ := Lib.hid (blk_row J0 #[.int .i64 A.x0, .int .i64 A.y0, .int .i64 A.x1, .int .i64 A.y1])
  have o := only_row (g := w.heap.size + 1) (Only.refl ((w.alloc (.cells #[.int .i64 A.x0, .int .i64 A.y0, .int .i64 A.x1, .int .i64 A.y1, .slice Am n c] 35)).alloc (.cells #[.int .i64 0, .int .i64 0, .int .i64 0, .int .i64 0] 32)) [w.heap.size + 1]) (.inl (by simp)) #[.int .i64 A.x0, .int .i64 A.y0, .int .i64 A.x1, .int .i64 A.y1]
  have HK := Lib.hid (K0.only o (by simp))
  have HB := Lib.hid (below_setRow (g := w.heap.size + 1) B0 (Nat.le_succ _) #[.int .i64 A.x0, .int .i64 A.y0, .int .i64 A.x1, .int .i64 A.y1])
  have B := HB.out
  have q1 := fun w => eqB_run A.x0 A.y0 A.x1 A.y1 0 0 0 0 w
  have q2 := fun x y w => eqB_guard A.x0 A.y0 A.x1 A.y1 0 0 0 0 x y w
  have CR := fun W => rmb_any A W
  obtain ⟨p1, p2, p3, p4, p5, p6⟩ := prod4 h4 he
  have g := in4_lims h4
  obtain ⟨⟨g0, _⟩, ⟨g1, _⟩, ⟨_, g2⟩, ⟨_, g3⟩⟩ := g
  have s1 : wrap64 (A.x1 - A.x0) = A.x1 - A.x0 := by unfold wrap64; omega
  have s2 : wrap64 (A.y1 - A.y0) = A.y1 - A.y0 := by unfold wrap64; omega
  have s3 : wrap64 ((A.x1 - A.x0) * (A.y1 - A.y0)) = (A.x1 - A.x0) * (A.y1 - A.y0) := by unfold wrap64; omega
  rw [show eq4 A.x0 A.y0 A.x1 A.y1 0 0 0 0 = false from not_zero A he] at q1
  rw [hr] at CR
  clear he h4 p1 p2 p3 p4 g0 g1 g2 g3 hr
  have d1 : ((n : Int) != (A.x1 - A.x0) * (A.y1 - A.y0)) = true := by simpa using Ne.symm hn
  have HJ0 := Lib.hid J0
  have K := HK.out; have J := HJ.out; have k0 := K.cell 0; have k1 := K.cell 1; have k2 := K.cell 2; have k3 := K.cell 3; have k4 := K.cell 4; have kl := K.lt; simp only [List.getElem?_toArray, List.getElem?_cons_succ, List.getElem?_cons_zero] at k0 k1 k2 k3 k4; have j0 := J.cell 0; have j1 := J.cell 1; have j2 := J.cell 2; have j3 := J.cell 3; have jl := J.lt; simp only [List.getElem?_toArray, List.getElem?_cons_succ, List.getElem?_cons_zero] at j0 j1 j2 j3
  clear K0 B0 o K J J0
  go_enter Try.func25, Try.ntmps25
  go_wp2_with (refine wpList_store_row rfl 32 (.tmp 3) (.tmp 5) (by with_reducible rfl) (w.heap.size + 1) #[.int .i64 A.x0, .int .i64 A.y0, .int .i64 A.x1, .int .i64 A.y1] (by rfl) (by rfl) 32 #[.int .i64 0, .int .i64 0, .int .i64 0, .int .i64 0] (by exact HJ0.out) (by kernel_rfl) rfl (by simp [Value.oneCell']) ?_)
  (go_at_call 46; ((with_reducible refine (CR _).mono ?_); rintro e w1 ⟨rfl, b1⟩; have B := HB.out.trans (b1.mono HB.out.size); have K := HK.out.below b1; have J := HJ.out.below b1; have k0 := K.cell 0; have k1 := K.cell 1; have k2 := K.cell 2; have k3 := K.cell 3; have k4 := K.cell 4; have kl := K.lt; simp only [List.getElem?_toArray, List.getElem?_cons_succ, List.getElem?_cons_zero] at k0 k1 k2 k3 k4; have j0 := J.cell 0; have j1 := J.cell 1; have j2 := J.cell 2; have j3 := J.cell 3; have jl := J.lt; simp only [List.getElem?_toArray, List.getElem?_cons_succ, List.getElem?_cons_zero] at j0 j1 j2 j3))
  go_wp2
  go_ret
  exact ⟨rfl, B⟩
set_option maxRecDepth 100000 in
set_option maxHeartbeats 2000000 in
theorem rcheck_ok (A : Q) (Am : Option Addr) (n c : Nat) (h4 : in4 A = true) (he : emptyQ A = false) (hr : rmbC A = 0) (hn : (A.x1 - A.x0) * (A.y1 - A.y0) = (n : Int)) (w : World) : Calls Try.prog 25 #[.agg #[.int .i64 A.x0, .int .i64 A.y0, .int .i64 A.x1, .int .i64 A.y1, .slice Am n c]] w fun e w' => e = .returned (.int .i64 0) ∧ Below w.heap.size w w' := by
  have B0 : Below w.heap.size w ((w.alloc (.cells #[.int .i64 A.x0, .int .i64 A.y0, .int .i64 A.x1, .int .i64 A.y1, .slice Am n c] 35)).alloc (.cells #[.int .i64 0, .int .i64 0, .int .i64 0, .int .i64 0] 32)) := below_a2 _ _ _
  have K0 := (Blk.new w 35 #[.int .i64 A.x0, .int .i64 A.y0, .int .i64 A.x1, .int .i64 A.y1, .slice Am n c]).below (below_a1 _ (.cells #[.int .i64 0, .int .i64 0, .int .i64 0, .int .i64 0] 32))
  have J0 := Blk.new (w.alloc (.cells #[.int .i64 A.x0, .int .i64 A.y0, .int .i64 A.x1, .int .i64 A.y1, .slice Am n c] 35)) 32 #[.int .i64 0, .int .i64 0, .int .i64 0, .int .i64 0]
  rw [World.size_alloc] at J0
  have HJ := Lib.hid (blk_row J0 #[.int .i64 A.x0, .int .i64 A.y0, .int .i64 A.x1, .int .i64 A.y1])
  have o := only_row (g := w.heap.size + 1) (Only.refl ((w.alloc (.cells #[.int .i64 A.x0, .int .i64 A.y0, .int .i64 A.x1, .int .i64 A.y1, .slice Am n c] 35)).alloc (.cells #[.int .i64 0, .int .i64 0, .int .i64 0, .int .i64 0] 32)) [w.heap.size + 1]) (.inl (by simp)) #[.int .i64 A.x0, .int .i64 A.y0, .int .i64 A.x1, .int .i64 A.y1]
  have HK := Lib.hid (K0.only o (by simp))
  have HB := Lib.hid (below_setRow (g := w.heap.size + 1) B0 (Nat.le_succ _) #[.int .i64 A.x0, .int .i64 A.y0, .int .i64 A.x1, .int .i64 A.y1])
  have B := HB.out
  have q1 := fun w => eqB_run A.x0 A.y0 A.x1 A.y1 0 0 0 0 w
  have q2 := fun x y w => eqB_guard A.x0 A.y0 A.x1 A.y1 0 0 0 0 x y w
  have CR := fun W => rmb_any A W
  obtain ⟨p1, p2, p3, p4, p5, p6⟩ := prod4 h4 he
  have g := in4_lims h4
  obtain ⟨⟨g0, _⟩, ⟨g1, _⟩, ⟨_, g2⟩, ⟨_, g3⟩⟩ := g
  have s1 : wrap64 (A.x1 - A.x0) = A.x1 - A.x0 := by unfold wrap64; omega
  have s2 : wrap64 (A.y1 - A.y0) = A.y1 - A.y0 := by unfold wrap64; omega
  have s3 : wrap64 ((A.x1 - A.x0) * (A.y1 - A.y0)) = (A.x1 - A.x0) * (A.y1 - A.y0) := by unfold wrap64; omega
  rw [show eq4 A.x0 A.y0 A.x1 A.y1 0 0 0 0 = false from not_zero A he] at q1
  rw [hr] at CR
  clear he h4 p1 p2 p3 p4 g0 g1 g2 g3 hr
  rw [hn] at s3
  have d1 : ((n : Int) != (A.x1 - A.x0) * (A.y1 - A.y0)) = false := by simpa using hn.symm
  have HJ0 := Lib.hid J0
  have K := HK.out; have J := HJ.out; have k0 := K.cell 0; have k1 := K.cell 1; have k2 := K.cell 2; have k3 := K.cell 3; have k4 := K.cell 4; have kl := K.lt; simp only [List.getElem?_toArray, List.getElem?_cons_succ, List.getElem?_cons_zero] at k0 k1 k2 k3 k4; have j0 := J.cell 0; have j1 := J.cell 1; have j2 := J.cell 2; have j3 := J.cell 3; have jl := J.lt; simp only [List.getElem?_toArray, List.getElem?_cons_succ, List.getElem?_cons_zero] at j0 j1 j2 j3
  clear K0 B0 o K J J0
  go_enter Try.func25, Try.ntmps25
  go_wp2_with (refine wpList_store_row rfl 32 (.tmp 3) (.tmp 5) (by with_reducible rfl) (w.heap.size + 1) #[.int .i64 A.x0, .int .i64 A.y0, .int .i64 A.x1, .int .i64 A.y1] (by rfl) (by rfl) 32 #[.int .i64 0, .int .i64 0, .int .i64 0, .int .i64 0] (by exact HJ0.out) (by kernel_rfl) rfl (by simp [Value.oneCell']) ?_)
  (go_at_call 46; ((with_reducible refine (CR _).mono ?_); rintro e w1 ⟨rfl, b1⟩; have B := HB.out.trans (b1.mono HB.out.size); have K := HK.out.below b1; have J := HJ.out.below b1; have k0 := K.cell 0; have k1 := K.cell 1; have k2 := K.cell 2; have k3 := K.cell 3; have k4 := K.cell 4; have kl := K.lt; simp only [List.getElem?_toArray, List.getElem?_cons_succ, List.getElem?_cons_zero] at k0 k1 k2 k3 k4; have j0 := J.cell 0; have j1 := J.cell 1; have j2 := J.cell 2; have j3 := J.cell 3; have jl := J.lt; simp only [List.getElem?_toArray, List.getElem?_cons_succ, List.getElem?_cons_zero] at j0 j1 j2 j3))
  go_wp2
  go_ret
  exact ⟨rfl, B⟩
theorem zerB_eq {A : Q} (h : zerB A = true) : A = zeroQ := by
  obtain ⟨a, b, c, d⟩ := A
  unfold zerB eq4 at h
  simp at h
  obtain ⟨⟨⟨rfl, rfl⟩, rfl⟩, rfl⟩ := h
  rfl
theorem rckmask_any (A : Q) (Am : Option Addr) (n c : Nat) (w : World) : Calls Try.prog 25 #[.agg #[.int .i64 A.x0, .int .i64 A.y0, .int .i64 A.x1, .int .i64 A.y1, .slice Am n c]] w fun e w' => e = .returned (.int .i64 (chkC A n)) ∧ Below w.heap.size w w' := by
  cases hz : zerB A
  · cases he : emptyQ A
    · cases h4 : in4 A
      · rw [show chkC A n = 220 by unfold chkC chkB msB; simp [h4]]
        by_cases hm : mayQ A = true
        · exact rcheck_no220 A Am n c hz (by unfold rmbC; rw [if_neg (by simp [hm, he]), if_neg (by simp [h4])]) w
        · exact rcheck_no1 A Am n c hz (by unfold rmbC; rw [if_pos (by simp [hm])]) w
      · by_cases hg : (A.x1 - A.x0) * (A.y1 - A.y0) ≤ 4194304
        · have hr : rmbC A = 0 := by unfold rmbC; rw [if_neg (by simp [in4_may h4, he]), if_pos ⟨h4, hg⟩]
          by_cases hn : (A.x1 - A.x0) * (A.y1 - A.y0) = (n : Int)
          · rw [show chkC A n = 0 by unfold chkC chkB msB areaQ; simp [h4, he, hn]; omega]
            exact rcheck_ok A Am n c h4 he hr hn w
          · rw [show chkC A n = 220 by unfold chkC chkB msB areaQ; simp [h4, he, hg, hn]]
            exact rcheck_len A Am n c h4 he hr hn w
        · have hr : rmbC A = 220 := by unfold rmbC; rw [if_neg (by simp [in4_may h4, he]), if_neg (by simp [hg])]
          rw [show chkC A n = 220 by unfold chkC chkB msB areaQ; simp [h4, he, hg]]
          exact rcheck_no220 A Am n c hz hr w
    · rw [show chkC A n = 220 by unfold chkC chkB msB; simp [he, hz]]
      exact rcheck_no1 A Am n c hz (by unfold rmbC; simp [he]) w
  · have hA := zerB_eq hz
    have ha : areaQ A = 0 := by rw [hA]; rfl
    have hm : msB A = true := by rw [hA]; rfl
    by_cases hn : n = 0
    · rw [show chkC A n = 0 by unfold chkC chkB; simp [hm, ha, hn]]
      exact rcheck_zero A Am n c hz hn w
    · rw [show chkC A n = 220 by unfold chkC chkB; simp [hm, ha]; omega]
      exact rcheck_zerono A Am n c hz hn w
end Go.Proofs.Ytlbbigehjdnjmaa

namespace Go.Proofs.Ytlbbigehjdnjmaa
open Go Go.RowKit
set_option linter.unusedVariables false
set_option linter.unusedSimpArgs false

/-- All pixels of one colour. -/
def oneE (n : Nat) (c : Int) : List Value := List.replicate n (.int .u8 c)
theorem zrs_b8 (n : Nat) : Bytes8 (zrs n) := fun u hu => by rw [List.eq_of_mem_replicate hu]; exact ⟨0, by decide, rfl⟩
theorem rows_one (wd ht : Nat) (c : Int) : rowsR wd 0 wd 0 (fun _ => pntF c) (ht - 0) (zrs (wd * ht)) = oneE (wd * ht) c := by
  apply List.ext_getElem?
  intro k
  rw [rowsR_get wd 0 wd 0 _ _ (Nat.le_refl _)]
  unfold zrs oneE
  rw [List.getElem?_replicate, List.getElem?_replicate]
  by_cases hk : k < wd * ht
  · have hw : 0 < wd := by rcases Nat.eq_zero_or_pos wd with h | h; rw [h] at hk; omega; exact h
    have h1 := Nat.mod_lt k hw
    have h2 : k / wd < ht := Nat.div_lt_of_lt_mul hk
    rw [if_pos hk, if_pos hk, Option.map_some, if_pos ⟨⟨Nat.zero_le _, by simpa using h2⟩, Nat.zero_le _, h1⟩]
    rfl
  · rw [if_neg hk, if_neg hk]; rfl
theorem within_2 (lo hi : Int) (b : Nat) (x y : Int) (w : World) (h : Blk w b 3 #[.int .i64 x, .int .i64 y]) :
    Calls Try.prog 26 #[.int .i64 lo, .int .i64 hi, .slice (some ⟨b, 0, none⟩) 2 2] w fun e w' => e = .returned (.bool (inZ lo hi x && inZ lo hi y)) ∧ w = w' := by
  have := within_blk lo hi b 2 [x, y] w rfl (by decide) h
  rw [show [x, y].all (inZ lo hi) = (inZ lo hi x && inZ lo hi y) by simp] at this
  exact this
theorem mayByte_1 (b : Nat) (c : Int) (w : World) (h : Blk w b 3 #[.int .i64 c]) :
    Calls Try.prog 27 #[.slice (some ⟨b, 0, none⟩) 1 1] w fun e w' => e = .returned (.bool (inZ 0 255 c)) ∧ w = w' := by
  have := mayByte_blk b 1 [c] w rfl (by decide) h
  rw [show [c].all (inZ 0 255) = inZ 0 255 c by simp] at this
  exact this
set_option maxRecDepth 100000 in
theorem cnnew_no (x y c : Int) (w : World) (h : mayCn x y c = false) : Calls Try.prog 10 #[.int .i64 x, .int .i64 y, .int .i64 c] w fun e w' => e = .returned (.tuple #[.pointer none, .int .i64 1]) ∧ Below w.heap.size w w' := by
  have K1 := Blk.new w 3 #[.int .i64 c]
  have CW := within_2 1 4096 (w.heap.size + 1) x y ((w.alloc (.cells #[.int .i64 c] 3)).alloc (.cells #[.int .i64 x, .int .i64 y] 3)) (by have := Blk.new (w.alloc (.cells #[.int .i64 c] 3)) 3 #[.int .i64 x, .int .i64 y]; rw [World.size_alloc] at this; exact this)
  have CB := mayByte_1 (w.heap.size + 1 + 1) c (((w.alloc (.cells #[.int .i64 c] 3)).alloc (.cells #[.int .i64 x, .int .i64 y] 3)).alloc (.cells #[.int .i64 c] 3)) (by have := Blk.new ((w.alloc (.cells #[.int .i64 c] 3)).alloc (.cells #[.int .i64 x, .int .i64 y] 3)) 3 #[.int .i64 c]; rw [World.size_alloc, World.size_alloc] at this; exact this)
  have k0 : ((w.alloc (.cells #[.int .i64 c] 3)).alloc (.cells #[.int .i64 x, .int .i64 y] 3)).cell? ⟨w.heap.size, 0, none⟩ = some (.int .i64 c) := ((below_a1 (w.alloc (.cells #[.int .i64 c] 3)) _).cell (p := ⟨w.heap.size, 0, none⟩) (by simp)).trans ((K1.cell 0).trans rfl)
  unfold mayCn at h
  cases hxy : inZ 1 4096 x && inZ 1 4096 y
  · rw [hxy] at CW
    clear h hxy CB
    go_enter Try.func10, Try.ntmps10
    go_wp2_with (first | (go_at_call 26; ((with_reducible refine (CW).mono ?_); rintro e w' ⟨rfl, rfl⟩)))
    exact bodyPost_ret (results_tmp2 rfl _ _ _) rfl ⟨rfl, below_a2 _ _ _⟩
  · rw [hxy] at CW h
    rw [Bool.true_and] at h
    rw [h] at CB
    clear h hxy
    go_enter Try.func10, Try.ntmps10
    go_wp2_with (first | (go_at_call 26; ((with_reducible refine (CW).mono ?_); rintro e w' ⟨rfl, rfl⟩)) | (go_at_call 27; ((with_reducible refine (CB).mono ?_); rintro e w' ⟨rfl, rfl⟩)))
    exact bodyPost_ret (results_tmp2 rfl _ _ _) rfl ⟨rfl, below_a3 _ _ _ _⟩
/-- A canvas was made. -/
def MadeCn (w : World) (wd ht : Nat) (E : List Value) (e : Ending) (w' : World) : Prop := ∃ q g, e = .returned (.tuple #[.pointer (some ⟨q, 0, none⟩), .int .i64 0]) ∧ CnV w' q g wd ht E ∧ w.heap.size ≤ q ∧ w.heap.size ≤ g ∧ Below w.heap.size w w'
set_option maxRecDepth 100000 in
set_option maxHeartbeats 1000000 in
theorem cnnew_ok (wd ht : Nat) (c : Int) (w : World) (h : mayCn wd ht c = true) : Calls Try.prog 10 #[.int .i64 (wd : Nat), .int .i64 (ht : Nat), .int .i64 c] w (MadeCn w wd ht (oneE (wd * ht) c)) := by
  have K1 := Blk.new w 3 #[.int .i64 c]
  have CW := within_2 1 4096 (w.heap.size + 1) (wd : Nat) (ht : Nat) ((w.alloc (.cells #[.int .i64 c] 3)).alloc (.cells #[.int .i64 (wd : Nat), .int .i64 (ht : Nat)] 3)) (by have := Blk.new (w.alloc (.cells #[.int .i64 c] 3)) 3 #[.int .i64 (wd : Nat), .int .i64 (ht : Nat)]; rw [World.size_alloc] at this; exact this)
  have CB := mayByte_1 (w.heap.size + 1 + 1) c (((w.alloc (.cells #[.int .i64 c] 3)).alloc (.cells #[.int .i64 (wd : Nat), .int .i64 (ht : Nat)] 3)).alloc (.cells #[.int .i64 c] 3)) (by have := Blk.new ((w.alloc (.cells #[.int .i64 c] 3)).alloc (.cells #[.int .i64 (wd : Nat), .int .i64 (ht : Nat)] 3)) 3 #[.int .i64 c]; rw [World.size_alloc, World.size_alloc] at this; exact this)
  have k0 : ((w.alloc (.cells #[.int .i64 c] 3)).alloc (.cells #[.int .i64 (wd : Nat), .int .i64 (ht : Nat)] 3)).cell? ⟨w.heap.size, 0, none⟩ = some (.int .i64 c) := ((below_a1 (w.alloc (.cells #[.int .i64 c] 3)) _).cell (p := ⟨w.heap.size, 0, none⟩) (by simp)).trans ((K1.cell 0).trans rfl)
  unfold mayCn at h
  simp only [Bool.and_eq_true] at h
  obtain ⟨⟨hx, hy⟩, hc⟩ := h
  rw [hx, hy] at CW
  rw [hc] at CB
  have dx := inB_in hx
  have dy := inB_in hy
  have hsq := Nat.mul_le_mul (show wd ≤ 4096 by omega) (show ht ≤ 4096 by omega)
  obtain ⟨n, hn⟩ : ∃ n, n = wd * ht := ⟨_, rfl⟩
  have MK := fun W => make_cn n (by omega) W
  have E1 := Lib.hid (show wrap64 ((wd : Int) * (ht : Int)) = (n : Int) from by rw [w64mul wd ht (by omega), hn])
  have hC : CnV (((((w.alloc (.cells #[.int .i64 c] 3)).alloc (.cells #[.int .i64 (wd : Nat), .int .i64 (ht : Nat)] 3)).alloc (.cells #[.int .i64 c] 3)).alloc (.cells (zrs n).toArray 5)).alloc (.cells #[.int .i64 0, .int .i64 0, .int .i64 (wd : Nat), .int .i64 (ht : Nat), .slice (some ⟨w.heap.size + 1 + 1 + 1, 0, none⟩) n n] 63)) (w.heap.size + 1 + 1 + 1 + 1) (w.heap.size + 1 + 1 + 1) wd ht (zrs n) := by
    have r1 := Blk.new ((((w.alloc (.cells #[.int .i64 c] 3)).alloc (.cells #[.int .i64 (wd : Nat), .int .i64 (ht : Nat)] 3)).alloc (.cells #[.int .i64 c] 3)).alloc (.cells (zrs n).toArray 5)) 63 #[.int .i64 0, .int .i64 0, .int .i64 (wd : Nat), .int .i64 (ht : Nat), .slice (some ⟨w.heap.size + 1 + 1 + 1, 0, none⟩) n n]
    have r2 := (Blk.new (((w.alloc (.cells #[.int .i64 c] 3)).alloc (.cells #[.int .i64 (wd : Nat), .int .i64 (ht : Nat)] 3)).alloc (.cells #[.int .i64 c] 3)) 5 (zrs n).toArray).below (below_a1 _ (.cells #[.int .i64 0, .int .i64 0, .int .i64 (wd : Nat), .int .i64 (ht : Nat), .slice (some ⟨w.heap.size + 1 + 1 + 1, 0, none⟩) n n] 63))
    simp only [World.size_alloc] at r1 r2
    exact ⟨by rw [← hn]; exact r1, r2, by simp [zrs, hn], zrs_b8 n, ⟨⟨by omega, by omega⟩, by omega, by omega⟩⟩
  have hP : Blk (((((w.alloc (.cells #[.int .i64 c] 3)).alloc (.cells #[.int .i64 (wd : Nat), .int .i64 (ht : Nat)] 3)).alloc (.cells #[.int .i64 c] 3)).alloc (.cells (zrs n).toArray 5)).alloc (.cells #[.int .i64 0, .int .i64 0, .int .i64 (wd : Nat), .int .i64 (ht : Nat), .slice (some ⟨w.heap.size + 1 + 1 + 1, 0, none⟩) n n] 63)) w.heap.size 3 #[.int .i64 c] := ((((K1.below (below_a1 _ _)).below (below_a1 _ _)).below (below_a1 _ _)).below (below_a1 _ _))
  have hmB : mayQ ⟨0, 0, wd, ht⟩ = true := by simp [mayQ, mayB]; first | done | omega
  have CE := cneach_any (w.heap.size + 1 + 1 + 1 + 1) (w.heap.size + 1 + 1 + 1) wd ht (zrs n) ⟨0, 0, wd, ht⟩ 29 #[.pointer (some ⟨w.heap.size, 0, none⟩)] (fun _ => pntF c) 0 0 wd ht (fun V => Blk V w.heap.size 3 #[.int .i64 c]) (((((w.alloc (.cells #[.int .i64 c] 3)).alloc (.cells #[.int .i64 (wd : Nat), .int .i64 (ht : Nat)] 3)).alloc (.cells #[.int .i64 c] 3)).alloc (.cells (zrs n).toArray 5)).alloc (.cells #[.int .i64 0, .int .i64 0, .int .i64 (wd : Nat), .int .i64 (ht : Nat), .slice (some ⟨w.heap.size + 1 + 1 + 1, 0, none⟩) n n] 63)) (fun _ _ => rfl) hC hmB
    (by unfold meetR plainQ; rw [if_neg (by simp [emptyQ, meetQ]; first | done | omega)]; simp [meetQ]; first | done | omega) (by omega) (by omega) hP (fun V V' hV o => hV.only o (by simp; omega)) (fun y _ hy => new1_row w.heap.size (w.heap.size + 1 + 1 + 1) wd ht 0 wd y c (by omega) (by omega) hy (by omega) hc) (pnt_keep c wd 0 wd 0 ht hc)
  rw [hn, rows_one, ← hn] at CE
  rw [← hn]
  have B1 := below_a1 w (.cells #[.int .i64 c] 3)
  have B2 := B1.alloc B1.size (.cells #[.int .i64 (wd : Nat), .int .i64 (ht : Nat)] 3)
  have B3 := B2.alloc B2.size (.cells #[.int .i64 c] 3)
  have B4 := B3.alloc B3.size (.cells (zrs n).toArray 5)
  have HB := Lib.hid (B4.alloc B4.size (.cells #[.int .i64 0, .int .i64 0, .int .i64 (wd : Nat), .int .i64 (ht : Nat), .slice (some ⟨w.heap.size + 1 + 1 + 1, 0, none⟩) n n] 63))
  have rb := hC.blk
  have a0 := rb.cell 0; have a1 := rb.cell 1; have a2 := rb.cell 2; have a3 := rb.cell 3; have a4 := rb.cell 4; have al := rb.lt; simp only [List.getElem?_toArray, List.getElem?_cons_succ, List.getElem?_cons_zero] at a0 a1 a2 a3 a4
  clear B1 B2 B3 B4 rb hC hP hmB K1 hx hy hc dx dy hsq hn
  have e1 := E1.out
  go_enter Try.func10, Try.ntmps10
  go_wp2_with (first | (go_at_call 26; ((with_reducible refine (CW).mono ?_); rintro e w' ⟨rfl, rfl⟩)) | (go_at_call 27; ((with_reducible refine (CB).mono ?_); rintro e w' ⟨rfl, rfl⟩)) | (go_at_call 28; ((with_reducible refine (CE).mono ?_); rintro e w' ⟨rfl, h1, h2⟩)))
  refine bodyPost_ret (results_tmp2 rfl _ _ _) rfl ⟨_, _, rfl, h1, by omega, by omega, HB.out.trans (h2.to_below (HB.out.size) (by simp; omega))⟩
end Go.Proofs.Ytlbbigehjdnjmaa
