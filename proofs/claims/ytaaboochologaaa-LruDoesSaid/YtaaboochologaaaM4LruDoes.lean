/- Part 5 of the proof: CnF, LrE. -/
import Derived.Test.YtaaboochologaaaM3LruDoes

namespace Go.Proofs.Ytaaboochologaaa
open Go Go.RowKit
set_option linter.unusedVariables false
set_option linter.unusedSimpArgs false

/-- May a mask be? -/
def chkB (A : Q) (n : Nat) : Bool := msB A && decide (areaQ A = (n : Int))
def chkC (A : Q) (n : Nat) : Int := if chkB A n then 0 else 220
set_option maxRecDepth 100000 in
theorem check_no (A : Q) (Am : Option Addr) (n c : Nat) (h : msB A = false) (w : World) : Calls Try.prog 35 #[.agg #[.int .i64 A.x0, .int .i64 A.y0, .int .i64 A.x1, .int .i64 A.y1, .slice Am n c]] w fun e w' => e = .returned (.int .i64 220) ∧ Below w.heap.size w w' := by
  have B : Below w.heap.size w (w.alloc (.cells #[.int .i64 A.x0, .int .i64 A.y0, .int .i64 A.x1, .int .i64 A.y1, .slice Am n c] 37)) := below_a1 _ _
  have K := Blk.new w 37 #[.int .i64 A.x0, .int .i64 A.y0, .int .i64 A.x1, .int .i64 A.y1, .slice Am n c]
  have CS := fun W => rsize_any A W
  rw [h] at CS
  simp only [Bool.false_eq_true, if_false] at CS
  clear h
  go_enter Try.func35, Try.ntmps35
  go_wp2_with (first | (go_at_call 44; ((with_reducible refine (CS _).mono ?_); rintro e w1 ⟨rfl, b1⟩; have B := B.trans (b1.mono B.size); have K := K.below b1; have k0 := K.cell 0; have k1 := K.cell 1; have k2 := K.cell 2; have k3 := K.cell 3; have k4 := K.cell 4; have kl := K.lt; simp only [List.getElem?_toArray, List.getElem?_cons_succ, List.getElem?_cons_zero] at k0 k1 k2 k3 k4)))
  go_ret
  exact ⟨rfl, B⟩
set_option maxRecDepth 100000 in
theorem check_len (A : Q) (Am : Option Addr) (n c : Nat) (h : msB A = true) (hn : areaQ A ≠ (n : Int)) (w : World) : Calls Try.prog 35 #[.agg #[.int .i64 A.x0, .int .i64 A.y0, .int .i64 A.x1, .int .i64 A.y1, .slice Am n c]] w fun e w' => e = .returned (.int .i64 220) ∧ Below w.heap.size w w' := by
  have B : Below w.heap.size w (w.alloc (.cells #[.int .i64 A.x0, .int .i64 A.y0, .int .i64 A.x1, .int .i64 A.y1, .slice Am n c] 37)) := below_a1 _ _
  have K := Blk.new w 37 #[.int .i64 A.x0, .int .i64 A.y0, .int .i64 A.x1, .int .i64 A.y1, .slice Am n c]
  have CS := fun W => rsize_any A W
  rw [h] at CS
  simp only [if_true] at CS
  clear h
  have d1 : (areaQ A != (n : Int)) = true := by simpa using hn
  generalize areaQ A = ar at *
  go_enter Try.func35, Try.ntmps35
  go_wp2_with (first | (go_at_call 44; ((with_reducible refine (CS _).mono ?_); rintro e w1 ⟨rfl, b1⟩; have B := B.trans (b1.mono B.size); have K := K.below b1; have k0 := K.cell 0; have k1 := K.cell 1; have k2 := K.cell 2; have k3 := K.cell 3; have k4 := K.cell 4; have kl := K.lt; simp only [List.getElem?_toArray, List.getElem?_cons_succ, List.getElem?_cons_zero] at k0 k1 k2 k3 k4)))
  go_ret
  exact ⟨rfl, B⟩
set_option maxRecDepth 100000 in
theorem check_ok (A : Q) (Am : Option Addr) (n c : Nat) (h : msB A = true) (hn : areaQ A = (n : Int)) (w : World) : Calls Try.prog 35 #[.agg #[.int .i64 A.x0, .int .i64 A.y0, .int .i64 A.x1, .int .i64 A.y1, .slice Am n c]] w fun e w' => e = .returned (.int .i64 0) ∧ Below w.heap.size w w' := by
  have B : Below w.heap.size w (w.alloc (.cells #[.int .i64 A.x0, .int .i64 A.y0, .int .i64 A.x1, .int .i64 A.y1, .slice Am n c] 37)) := below_a1 _ _
  have K := Blk.new w 37 #[.int .i64 A.x0, .int .i64 A.y0, .int .i64 A.x1, .int .i64 A.y1, .slice Am n c]
  have CS := fun W => rsize_any A W
  rw [h] at CS
  simp only [if_true] at CS
  clear h
  rw [hn] at CS
  clear hn
  go_enter Try.func35, Try.ntmps35
  go_wp2_with (first | (go_at_call 44; ((with_reducible refine (CS _).mono ?_); rintro e w1 ⟨rfl, b1⟩; have B := B.trans (b1.mono B.size); have K := K.below b1; have k0 := K.cell 0; have k1 := K.cell 1; have k2 := K.cell 2; have k3 := K.cell 3; have k4 := K.cell 4; have kl := K.lt; simp only [List.getElem?_toArray, List.getElem?_cons_succ, List.getElem?_cons_zero] at k0 k1 k2 k3 k4)))
  go_ret
  exact ⟨rfl, B⟩
theorem ckmask_any (A : Q) (Am : Option Addr) (n c : Nat) (w : World) : Calls Try.prog 35 #[.agg #[.int .i64 A.x0, .int .i64 A.y0, .int .i64 A.x1, .int .i64 A.y1, .slice Am n c]] w fun e w' => e = .returned (.int .i64 (chkC A n)) ∧ Below w.heap.size w w' := by
  unfold chkC chkB
  cases h : msB A
  · exact check_no A Am n c h w
  · by_cases hn : areaQ A = (n : Int)
    · rw [if_pos (by simp [hn])]; exact check_ok A Am n c h hn w
    · rw [if_neg (by simp [hn])]; exact check_len A Am n c h hn w
set_option maxRecDepth 100000 in
theorem rmb_may (A : Q) (hm : mayQ A = false) (w : World) : Calls Try.prog 34 #[.agg #[.int .i64 A.x0, .int .i64 A.y0, .int .i64 A.x1, .int .i64 A.y1]] w fun e w' => e = .returned (.int .i64 1) ∧ Below w.heap.size w w' := by
  have B : Below w.heap.size w (w.alloc (.cells #[.int .i64 A.x0, .int .i64 A.y0, .int .i64 A.x1, .int .i64 A.y1] 34)) := below_a1 _ _
  have K := Blk.new w 34 #[.int .i64 A.x0, .int .i64 A.y0, .int .i64 A.x1, .int .i64 A.y1]
  have CM := fun W => rmayQ_any A W
  have CE := fun W => rempty_any A W
  rw [hm] at CM
  clear hm CE
  go_enter Try.func34, Try.ntmps34
  go_wp2_with (first | (go_at_call 42; ((with_reducible refine (CM _).mono ?_); rintro e w1 ⟨rfl, b1⟩; have B := B.trans (b1.mono B.size); have K := K.below b1; have k0 := K.cell 0; have k1 := K.cell 1; have k2 := K.cell 2; have k3 := K.cell 3; have kl := K.lt; simp only [List.getElem?_toArray, List.getElem?_cons_succ, List.getElem?_cons_zero] at k0 k1 k2 k3)) | (go_at_call 43; ((with_reducible refine (CE _).mono ?_); rintro e w1 ⟨rfl, b1⟩; have B := B.trans (b1.mono B.size); have K := K.below b1; have k0 := K.cell 0; have k1 := K.cell 1; have k2 := K.cell 2; have k3 := K.cell 3; have kl := K.lt; simp only [List.getElem?_toArray, List.getElem?_cons_succ, List.getElem?_cons_zero] at k0 k1 k2 k3)))
  go_ret
  exact ⟨rfl, B⟩
set_option maxRecDepth 100000 in
theorem rmb_empty (A : Q) (hm : mayQ A = true) (he : emptyQ A = true) (w : World) : Calls Try.prog 34 #[.agg #[.int .i64 A.x0, .int .i64 A.y0, .int .i64 A.x1, .int .i64 A.y1]] w fun e w' => e = .returned (.int .i64 1) ∧ Below w.heap.size w w' := by
  have B : Below w.heap.size w (w.alloc (.cells #[.int .i64 A.x0, .int .i64 A.y0, .int .i64 A.x1, .int .i64 A.y1] 34)) := below_a1 _ _
  have K := Blk.new w 34 #[.int .i64 A.x0, .int .i64 A.y0, .int .i64 A.x1, .int .i64 A.y1]
  have CM := fun W => rmayQ_any A W
  have CE := fun W => rempty_any A W
  rw [hm] at CM
  rw [he] at CE
  clear hm he
  go_enter Try.func34, Try.ntmps34
  go_wp2_with (first | (go_at_call 42; ((with_reducible refine (CM _).mono ?_); rintro e w1 ⟨rfl, b1⟩; have B := B.trans (b1.mono B.size); have K := K.below b1; have k0 := K.cell 0; have k1 := K.cell 1; have k2 := K.cell 2; have k3 := K.cell 3; have kl := K.lt; simp only [List.getElem?_toArray, List.getElem?_cons_succ, List.getElem?_cons_zero] at k0 k1 k2 k3)) | (go_at_call 43; ((with_reducible refine (CE _).mono ?_); rintro e w1 ⟨rfl, b1⟩; have B := B.trans (b1.mono B.size); have K := K.below b1; have k0 := K.cell 0; have k1 := K.cell 1; have k2 := K.cell 2; have k3 := K.cell 3; have kl := K.lt; simp only [List.getElem?_toArray, List.getElem?_cons_succ, List.getElem?_cons_zero] at k0 k1 k2 k3)))
  go_ret
  exact ⟨rfl, B⟩
set_option maxRecDepth 100000 in
theorem rmb_x0 (A : Q) (hm : mayQ A = true) (he : emptyQ A = false) (g0 : A.x0 < -16384) (w : World) : Calls Try.prog 34 #[.agg #[.int .i64 A.x0, .int .i64 A.y0, .int .i64 A.x1, .int .i64 A.y1]] w fun e w' => e = .returned (.int .i64 220) ∧ Below w.heap.size w w' := by
  have B : Below w.heap.size w (w.alloc (.cells #[.int .i64 A.x0, .int .i64 A.y0, .int .i64 A.x1, .int .i64 A.y1] 34)) := below_a1 _ _
  have K := Blk.new w 34 #[.int .i64 A.x0, .int .i64 A.y0, .int .i64 A.x1, .int .i64 A.y1]
  have CM := fun W => rmayQ_any A W
  have CE := fun W => rempty_any A W
  rw [hm] at CM
  rw [he] at CE
  clear hm he
  go_enter Try.func34, Try.ntmps34
  go_wp2_with (first | (go_at_call 42; ((with_reducible refine (CM _).mono ?_); rintro e w1 ⟨rfl, b1⟩; have B := B.trans (b1.mono B.size); have K := K.below b1; have k0 := K.cell 0; have k1 := K.cell 1; have k2 := K.cell 2; have k3 := K.cell 3; have kl := K.lt; simp only [List.getElem?_toArray, List.getElem?_cons_succ, List.getElem?_cons_zero] at k0 k1 k2 k3)) | (go_at_call 43; ((with_reducible refine (CE _).mono ?_); rintro e w1 ⟨rfl, b1⟩; have B := B.trans (b1.mono B.size); have K := K.below b1; have k0 := K.cell 0; have k1 := K.cell 1; have k2 := K.cell 2; have k3 := K.cell 3; have kl := K.lt; simp only [List.getElem?_toArray, List.getElem?_cons_succ, List.getElem?_cons_zero] at k0 k1 k2 k3)))
  go_ret
  exact ⟨rfl, B⟩
set_option maxRecDepth 100000 in
theorem rmb_y0 (A : Q) (hm : mayQ A = true) (he : emptyQ A = false) (g0 : -16384 ≤ A.x0) (g1 : A.y0 < -16384) (w : World) : Calls Try.prog 34 #[.agg #[.int .i64 A.x0, .int .i64 A.y0, .int .i64 A.x1, .int .i64 A.y1]] w fun e w' => e = .returned (.int .i64 220) ∧ Below w.heap.size w w' := by
  have B : Below w.heap.size w (w.alloc (.cells #[.int .i64 A.x0, .int .i64 A.y0, .int .i64 A.x1, .int .i64 A.y1] 34)) := below_a1 _ _
  have K := Blk.new w 34 #[.int .i64 A.x0, .int .i64 A.y0, .int .i64 A.x1, .int .i64 A.y1]
  have CM := fun W => rmayQ_any A W
  have CE := fun W => rempty_any A W
  rw [hm] at CM
  rw [he] at CE
  clear hm he
  go_enter Try.func34, Try.ntmps34
  go_wp2_with (first | (go_at_call 42; ((with_reducible refine (CM _).mono ?_); rintro e w1 ⟨rfl, b1⟩; have B := B.trans (b1.mono B.size); have K := K.below b1; have k0 := K.cell 0; have k1 := K.cell 1; have k2 := K.cell 2; have k3 := K.cell 3; have kl := K.lt; simp only [List.getElem?_toArray, List.getElem?_cons_succ, List.getElem?_cons_zero] at k0 k1 k2 k3)) | (go_at_call 43; ((with_reducible refine (CE _).mono ?_); rintro e w1 ⟨rfl, b1⟩; have B := B.trans (b1.mono B.size); have K := K.below b1; have k0 := K.cell 0; have k1 := K.cell 1; have k2 := K.cell 2; have k3 := K.cell 3; have kl := K.lt; simp only [List.getElem?_toArray, List.getElem?_cons_succ, List.getElem?_cons_zero] at k0 k1 k2 k3)))
  go_ret
  exact ⟨rfl, B⟩
set_option maxRecDepth 100000 in
theorem rmb_x1 (A : Q) (hm : mayQ A = true) (he : emptyQ A = false) (g0 : -16384 ≤ A.x0) (g1 : -16384 ≤ A.y0) (g2 : 16384 < A.x1) (w : World) : Calls Try.prog 34 #[.agg #[.int .i64 A.x0, .int .i64 A.y0, .int .i64 A.x1, .int .i64 A.y1]] w fun e w' => e = .returned (.int .i64 220) ∧ Below w.heap.size w w' := by
  have B : Below w.heap.size w (w.alloc (.cells #[.int .i64 A.x0, .int .i64 A.y0, .int .i64 A.x1, .int .i64 A.y1] 34)) := below_a1 _ _
  have K := Blk.new w 34 #[.int .i64 A.x0, .int .i64 A.y0, .int .i64 A.x1, .int .i64 A.y1]
  have CM := fun W => rmayQ_any A W
  have CE := fun W => rempty_any A W
  rw [hm] at CM
  rw [he] at CE
  clear hm he
  go_enter Try.func34, Try.ntmps34
  go_wp2_with (first | (go_at_call 42; ((with_reducible refine (CM _).mono ?_); rintro e w1 ⟨rfl, b1⟩; have B := B.trans (b1.mono B.size); have K := K.below b1; have k0 := K.cell 0; have k1 := K.cell 1; have k2 := K.cell 2; have k3 := K.cell 3; have kl := K.lt; simp only [List.getElem?_toArray, List.getElem?_cons_succ, List.getElem?_cons_zero] at k0 k1 k2 k3)) | (go_at_call 43; ((with_reducible refine (CE _).mono ?_); rintro e w1 ⟨rfl, b1⟩; have B := B.trans (b1.mono B.size); have K := K.below b1; have k0 := K.cell 0; have k1 := K.cell 1; have k2 := K.cell 2; have k3 := K.cell 3; have kl := K.lt; simp only [List.getElem?_toArray, List.getElem?_cons_succ, List.getElem?_cons_zero] at k0 k1 k2 k3)))
  go_ret
  exact ⟨rfl, B⟩
set_option maxRecDepth 100000 in
theorem rmb_y1 (A : Q) (hm : mayQ A = true) (he : emptyQ A = false) (g0 : -16384 ≤ A.x0) (g1 : -16384 ≤ A.y0) (g2 : A.x1 ≤ 16384) (g3 : 16384 < A.y1) (w : World) : Calls Try.prog 34 #[.agg #[.int .i64 A.x0, .int .i64 A.y0, .int .i64 A.x1, .int .i64 A.y1]] w fun e w' => e = .returned (.int .i64 220) ∧ Below w.heap.size w w' := by
  have B : Below w.heap.size w (w.alloc (.cells #[.int .i64 A.x0, .int .i64 A.y0, .int .i64 A.x1, .int .i64 A.y1] 34)) := below_a1 _ _
  have K := Blk.new w 34 #[.int .i64 A.x0, .int .i64 A.y0, .int .i64 A.x1, .int .i64 A.y1]
  have CM := fun W => rmayQ_any A W
  have CE := fun W => rempty_any A W
  rw [hm] at CM
  rw [he] at CE
  clear hm he
  go_enter Try.func34, Try.ntmps34
  go_wp2_with (first | (go_at_call 42; ((with_reducible refine (CM _).mono ?_); rintro e w1 ⟨rfl, b1⟩; have B := B.trans (b1.mono B.size); have K := K.below b1; have k0 := K.cell 0; have k1 := K.cell 1; have k2 := K.cell 2; have k3 := K.cell 3; have kl := K.lt; simp only [List.getElem?_toArray, List.getElem?_cons_succ, List.getElem?_cons_zero] at k0 k1 k2 k3)) | (go_at_call 43; ((with_reducible refine (CE _).mono ?_); rintro e w1 ⟨rfl, b1⟩; have B := B.trans (b1.mono B.size); have K := K.below b1; have k0 := K.cell 0; have k1 := K.cell 1; have k2 := K.cell 2; have k3 := K.cell 3; have kl := K.lt; simp only [List.getElem?_toArray, List.getElem?_cons_succ, List.getElem?_cons_zero] at k0 k1 k2 k3)))
  go_ret
  exact ⟨rfl, B⟩
set_option maxRecDepth 100000 in
theorem rmb_great (A : Q) (h4 : in4 A = true) (he : emptyQ A = false) (hg : 4194304 < (A.x1 - A.x0) * (A.y1 - A.y0)) (w : World) : Calls Try.prog 34 #[.agg #[.int .i64 A.x0, .int .i64 A.y0, .int .i64 A.x1, .int .i64 A.y1]] w fun e w' => e = .returned (.int .i64 220) ∧ Below w.heap.size w w' := by
  have B : Below w.heap.size w (w.alloc (.cells #[.int .i64 A.x0, .int .i64 A.y0, .int .i64 A.x1, .int .i64 A.y1] 34)) := below_a1 _ _
  have K := Blk.new w 34 #[.int .i64 A.x0, .int .i64 A.y0, .int .i64 A.x1, .int .i64 A.y1]
  have CM := fun W => rmayQ_any A W
  have CE := fun W => rempty_any A W
  obtain ⟨p1, p2, p3, p4, p5, p6⟩ := prod4 h4 he
  have g := in4_lims h4
  obtain ⟨⟨g0, _⟩, ⟨g1, _⟩, ⟨_, g2⟩, ⟨_, g3⟩⟩ := g
  have s1 : wrap64 (A.x1 - A.x0) = A.x1 - A.x0 := by unfold wrap64; omega
  have s2 : wrap64 (A.y1 - A.y0) = A.y1 - A.y0 := by unfold wrap64; omega
  have s3 : wrap64 ((A.x1 - A.x0) * (A.y1 - A.y0)) = (A.x1 - A.x0) * (A.y1 - A.y0) := by unfold wrap64; omega
  rw [in4_may h4] at CM
  rw [he] at CE
  clear he h4 p1 p2 p3 p4
  go_enter Try.func34, Try.ntmps34
  go_wp2_with (first | (go_at_call 42; ((with_reducible refine (CM _).mono ?_); rintro e w1 ⟨rfl, b1⟩; have B := B.trans (b1.mono B.size); have K := K.below b1; have k0 := K.cell 0; have k1 := K.cell 1; have k2 := K.cell 2; have k3 := K.cell 3; have kl := K.lt; simp only [List.getElem?_toArray, List.getElem?_cons_succ, List.getElem?_cons_zero] at k0 k1 k2 k3)) | (go_at_call 43; ((with_reducible refine (CE _).mono ?_); rintro e w1 ⟨rfl, b1⟩; have B := B.trans (b1.mono B.size); have K := K.below b1; have k0 := K.cell 0; have k1 := K.cell 1; have k2 := K.cell 2; have k3 := K.cell 3; have kl := K.lt; simp only [List.getElem?_toArray, List.getElem?_cons_succ, List.getElem?_cons_zero] at k0 k1 k2 k3)))
  go_ret
  exact ⟨rfl, B⟩
set_option maxRecDepth 100000 in
theorem rmb_ok (A : Q) (h4 : in4 A = true) (he : emptyQ A = false) (hg : (A.x1 - A.x0) * (A.y1 - A.y0) ≤ 4194304) (w : World) : Calls Try.prog 34 #[.agg #[.int .i64 A.x0, .int .i64 A.y0, .int .i64 A.x1, .int .i64 A.y1]] w fun e w' => e = .returned (.int .i64 0) ∧ Below w.heap.size w w' := by
  have B : Below w.heap.size w (w.alloc (.cells #[.int .i64 A.x0, .int .i64 A.y0, .int .i64 A.x1, .int .i64 A.y1] 34)) := below_a1 _ _
  have K := Blk.new w 34 #[.int .i64 A.x0, .int .i64 A.y0, .int .i64 A.x1, .int .i64 A.y1]
  have CM := fun W => rmayQ_any A W
  have CE := fun W => rempty_any A W
  obtain ⟨p1, p2, p3, p4, p5, p6⟩ := prod4 h4 he
  have g := in4_lims h4
  obtain ⟨⟨g0, _⟩, ⟨g1, _⟩, ⟨_, g2⟩, ⟨_, g3⟩⟩ := g
  have s1 : wrap64 (A.x1 - A.x0) = A.x1 - A.x0 := by unfold wrap64; omega
  have s2 : wrap64 (A.y1 - A.y0) = A.y1 - A.y0 := by unfold wrap64; omega
  have s3 : wrap64 ((A.x1 - A.x0) * (A.y1 - A.y0)) = (A.x1 - A.x0) * (A.y1 - A.y0) := by unfold wrap64; omega
  rw [in4_may h4] at CM
  rw [he] at CE
  clear he h4 p1 p2 p3 p4
  go_enter Try.func34, Try.ntmps34
  go_wp2_with (first | (go_at_call 42; ((with_reducible refine (CM _).mono ?_); rintro e w1 ⟨rfl, b1⟩; have B := B.trans (b1.mono B.size); have K := K.below b1; have k0 := K.cell 0; have k1 := K.cell 1; have k2 := K.cell 2; have k3 := K.cell 3; have kl := K.lt; simp only [List.getElem?_toArray, List.getElem?_cons_succ, List.getElem?_cons_zero] at k0 k1 k2 k3)) | (go_at_call 43; ((with_reducible refine (CE _).mono ?_); rintro e w1 ⟨rfl, b1⟩; have B := B.trans (b1.mono B.size); have K := K.below b1; have k0 := K.cell 0; have k1 := K.cell 1; have k2 := K.cell 2; have k3 := K.cell 3; have kl := K.lt; simp only [List.getElem?_toArray, List.getElem?_cons_succ, List.getElem?_cons_zero] at k0 k1 k2 k3)))
  go_ret
  exact ⟨rfl, B⟩
def rmbC (A : Q) : Int := if mayQ A = false ∨ emptyQ A = true then 1 else if in4 A = true ∧ (A.x1 - A.x0) * (A.y1 - A.y0) ≤ 4194304 then 0 else 220
theorem rmb_any (A : Q) (w : World) : Calls Try.prog 34 #[.agg #[.int .i64 A.x0, .int .i64 A.y0, .int .i64 A.x1, .int .i64 A.y1]] w fun e w' => e = .returned (.int .i64 (rmbC A)) ∧ Below w.heap.size w w' := by
  unfold rmbC
  cases hm : mayQ A
  · rw [if_pos (by simp)]; exact rmb_may A hm w
  · cases he : emptyQ A
    · rw [if_neg (by simp)]
      cases h4 : in4 A
      · rw [if_neg (by simp)]
        have h := empty_lims he
        have h4' : ¬ ((-16384 ≤ A.x0 ∧ A.x0 ≤ 16384) ∧ (-16384 ≤ A.y0 ∧ A.y0 ≤ 16384) ∧ (-16384 ≤ A.x1 ∧ A.x1 ≤ 16384) ∧ (-16384 ≤ A.y1 ∧ A.y1 ≤ 16384)) := by
          rintro ⟨⟨a1, a2⟩, ⟨a3, a4⟩, ⟨a5, a6⟩, ⟨a7, a8⟩⟩
          unfold in4 inZ at h4
          simp [a1, a2, a3, a4, a5, a6, a7, a8] at h4
        by_cases g0 : A.x0 < -16384
        · exact rmb_x0 A hm he g0 w
        · by_cases g1 : A.y0 < -16384
          · exact rmb_y0 A hm he (by omega) g1 w
          · by_cases g2 : 16384 < A.x1
            · exact rmb_x1 A hm he (by omega) (by omega) g2 w
            · exact rmb_y1 A hm he (by omega) (by omega) (by omega) (by omega) w
      · by_cases hg : (A.x1 - A.x0) * (A.y1 - A.y0) ≤ 4194304
        · rw [if_pos ⟨rfl, hg⟩]; exact rmb_ok A h4 he hg w
        · rw [if_neg (by simp; omega)]; exact rmb_great A h4 he (by omega) w
    · rw [if_pos (by simp)]; exact rmb_empty A hm he w
set_option maxRecDepth 100000 in
set_option maxHeartbeats 2000000 in
theorem rcheck_zero (A : Q) (Am : Option Addr) (n c : Nat) (hz : zerB A = true) (hn : n = 0) (w : World) : Calls Try.prog 15 #[.agg #[.int .i64 A.x0, .int .i64 A.y0, .int .i64 A.x1, .int .i64 A.y1, .slice Am n c]] w fun e w' => e = .returned (.int .i64 0) ∧ Below w.heap.size w w' := by
  have B0 : Below w.heap.size w ((w.alloc (.cells #[.int .i64 A.x0, .int .i64 A.y0, .int .i64 A.x1, .int .i64 A.y1, .slice Am n c] 37)).alloc (.cells #[.int .i64 0, .int .i64 0, .int .i64 0, .int .i64 0] 34)) := below_a2 _ _ _
  have K0 := (Blk.new w 37 #[.int .i64 A.x0, .int .i64 A.y0, .int .i64 A.x1, .int .i64 A.y1, .slice Am n c]).below (below_a1 _ (.cells #[.int .i64 0, .int .i64 0, .int .i64 0, .int .i64 0] 34))
  have J0 := Blk.new (w.alloc (.cells #[.int .i64 A.x0, .int .i64 A.y0, .int .i64 A.x1, .int .i64 A.y1, .slice Am n c] 37)) 34 #[.int .i64 0, .int .i64 0, .int .i64 0, .int .i64 0]
  rw [World.size_alloc] at J0
  have HJ := Lib.hid (blk_row J0 #[.int .i64 A.x0, .int .i64 A.y0, .int .i64 A.x1, .int .i64 A.y1])
  have o := only_row (g := w.heap.size + 1) (Only.refl ((w.alloc (.cells #[.int .i64 A.x0, .int .i64 A.y0, .int .i64 A.x1, .int .i64 A.y1, .slice Am n c] 37)).alloc (.cells #[.int .i64 0, .int .i64 0, .int .i64 0, .int .i64 0] 34)) [w.heap.size + 1]) (.inl (by simp)) #[.int .i64 A.x0, .int .i64 A.y0, .int .i64 A.x1, .int .i64 A.y1]
  have HK := Lib.hid (K0.only o (by simp))
  have HB := Lib.hid (below_setRow (g := w.heap.size + 1) B0 (Nat.le_succ _) #[.int .i64 A.x0, .int .i64 A.y0, .int .i64 A.x1, .int .i64 A.y1])
  have B := HB.out
  have q1 := fun w => eqB_run A.x0 A.y0 A.x1 A.y1 0 0 0 0 w
  have q2 := fun x y w => eqB_guard A.x0 A.y0 A.x1 A.y1 0 0 0 0 x y w
  have CR := fun W => rmb_any A W
  rw [show eq4 A.x0 A.y0 A.x1 A.y1 0 0 0 0 = true from hz] at q1
  subst hn
  clear hz
  have HJ0 := Lib.hid J0
  have K := HK.out; have J := HJ.out; have k0 := K.cell 0; have k1 := K.cell 1; have k2 := K.cell 2; have k3 := K.cell 3; have k4 := K.cell 4; have kl := K.lt; simp only [List.getElem?_toArray, List.getElem?_cons_succ, List.getElem?_cons_zero] at k0 k1 k2 k3 k4; have j0 := J.cell 0; have j1 := J.cell 1; have j2 := J.cell 2; have j3 := J.cell 3; have jl := J.lt; simp only [List.getElem?_toArray, List.getElem?_cons_succ, List.getElem?_cons_zero] at j0 j1 j2 j3
  clear K0 B0 o K J J0
  go_enter Try.func15, Try.ntmps15
  go_wp2_with (refine wpList_store_row rfl 34 (.tmp 3) (.tmp 5) (by with_reducible rfl) (w.heap.size + 1) #[.int .i64 A.x0, .int .i64 A.y0, .int .i64 A.x1, .int .i64 A.y1] (by rfl) (by rfl) 34 #[.int .i64 0, .int .i64 0, .int .i64 0, .int .i64 0] (by exact HJ0.out) (by kernel_rfl) rfl (by simp [Value.oneCell']) ?_)

  go_ret
  exact ⟨rfl, B⟩
set_option maxRecDepth 100000 in
set_option maxHeartbeats 2000000 in
theorem rcheck_zerono (A : Q) (Am : Option Addr) (n c : Nat) (hz : zerB A = true) (hn : n ≠ 0) (w : World) : Calls Try.prog 15 #[.agg #[.int .i64 A.x0, .int .i64 A.y0, .int .i64 A.x1, .int .i64 A.y1, .slice Am n c]] w fun e w' => e = .returned (.int .i64 220) ∧ Below w.heap.size w w' := by
  have B0 : Below w.heap.size w ((w.alloc (.cells #[.int .i64 A.x0, .int .i64 A.y0, .int .i64 A.x1, .int .i64 A.y1, .slice Am n c] 37)).alloc (.cells #[.int .i64 0, .int .i64 0, .int .i64 0, .int .i64 0] 34)) := below_a2 _ _ _
  have K0 := (Blk.new w 37 #[.int .i64 A.x0, .int .i64 A.y0, .int .i64 A.x1, .int .i64 A.y1, .slice Am n c]).below (below_a1 _ (.cells #[.int .i64 0, .int .i64 0, .int .i64 0, .int .i64 0] 34))
  have J0 := Blk.new (w.alloc (.cells #[.int .i64 A.x0, .int .i64 A.y0, .int .i64 A.x1, .int .i64 A.y1, .slice Am n c] 37)) 34 #[.int .i64 0, .int .i64 0, .int .i64 0, .int .i64 0]
  rw [World.size_alloc] at J0
  have HJ := Lib.hid (blk_row J0 #[.int .i64 A.x0, .int .i64 A.y0, .int .i64 A.x1, .int .i64 A.y1])
  have o := only_row (g := w.heap.size + 1) (Only.refl ((w.alloc (.cells #[.int .i64 A.x0, .int .i64 A.y0, .int .i64 A.x1, .int .i64 A.y1, .slice Am n c] 37)).alloc (.cells #[.int .i64 0, .int .i64 0, .int .i64 0, .int .i64 0] 34)) [w.heap.size + 1]) (.inl (by simp)) #[.int .i64 A.x0, .int .i64 A.y0, .int .i64 A.x1, .int .i64 A.y1]
  have HK := Lib.hid (K0.only o (by simp))
  have HB := Lib.hid (below_setRow (g := w.heap.size + 1) B0 (Nat.le_succ _) #[.int .i64 A.x0, .int .i64 A.y0, .int .i64 A.x1, .int .i64 A.y1])
  have B := HB.out
  have q1 := fun w => eqB_run A.x0 A.y0 A.x1 A.y1 0 0 0 0 w
  have q2 := fun x y w => eqB_guard A.x0 A.y0 A.x1 A.y1 0 0 0 0 x y w
  have CR := fun W => rmb_any A W
  rw [show eq4 A.x0 A.y0 A.x1 A.y1 0 0 0 0 = true from hz] at q1
  have d1 : ((n : Int) == 0) = false := by simpa using hn
  clear hz hn
  have HJ0 := Lib.hid J0
  have K := HK.out; have J := HJ.out; have k0 := K.cell 0; have k1 := K.cell 1; have k2 := K.cell 2; have k3 := K.cell 3; have k4 := K.cell 4; have kl := K.lt; simp only [List.getElem?_toArray, List.getElem?_cons_succ, List.getElem?_cons_zero] at k0 k1 k2 k3 k4; have j0 := J.cell 0; have j1 := J.cell 1; have j2 := J.cell 2; have j3 := J.cell 3; have jl := J.lt; simp only [List.getElem?_toArray, List.getElem?_cons_succ, List.getElem?_cons_zero] at j0 j1 j2 j3
  clear K0 B0 o K J J0
  go_enter Try.func15, Try.ntmps15
  go_wp2_with (refine wpList_store_row rfl 34 (.tmp 3) (.tmp 5) (by with_reducible rfl) (w.heap.size + 1) #[.int .i64 A.x0, .int .i64 A.y0, .int .i64 A.x1, .int .i64 A.y1] (by rfl) (by rfl) 34 #[.int .i64 0, .int .i64 0, .int .i64 0, .int .i64 0] (by exact HJ0.out) (by kernel_rfl) rfl (by simp [Value.oneCell']) ?_)

  go_ret
  exact ⟨rfl, B⟩
set_option maxRecDepth 100000 in
set_option maxHeartbeats 2000000 in
theorem rcheck_no1 (A : Q) (Am : Option Addr) (n c : Nat) (hz : zerB A = false) (hr : rmbC A = 1) (w : World) : Calls Try.prog 15 #[.agg #[.int .i64 A.x0, .int .i64 A.y0, .int .i64 A.x1, .int .i64 A.y1, .slice Am n c]] w fun e w' => e = .returned (.int .i64 220) ∧ Below w.heap.size w w' := by
  have B0 : Below w.heap.size w ((w.alloc (.cells #[.int .i64 A.x0, .int .i64 A.y0, .int .i64 A.x1, .int .i64 A.y1, .slice Am n c] 37)).alloc (.cells #[.int .i64 0, .int .i64 0, .int .i64 0, .int .i64 0] 34)) := below_a2 _ _ _
  have K0 := (Blk.new w 37 #[.int .i64 A.x0, .int .i64 A.y0, .int .i64 A.x1, .int .i64 A.y1, .slice Am n c]).below (below_a1 _ (.cells #[.int .i64 0, .int .i64 0, .int .i64 0, .int .i64 0] 34))
  have J0 := Blk.new (w.alloc (.cells #[.int .i64 A.x0, .int .i64 A.y0, .int .i64 A.x1, .int .i64 A.y1, .slice Am n c] 37)) 34 #[.int .i64 0, .int .i64 0, .int .i64 0, .int .i64 0]
  rw [World.size_alloc] at J0
  have HJ := Lib.hid (blk_row J0 #[.int .i64 A.x0, .int .i64 A.y0, .int .i64 A.x1, .int .i64 A.y1])
  have o := only_row (g := w.heap.size + 1) (Only.refl ((w.alloc (.cells #[.int .i64 A.x0, .int .i64 A.y0, .int .i64 A.x1, .int .i64 A.y1, .slice Am n c] 37)).alloc (.cells #[.int .i64 0, .int .i64 0, .int .i64 0, .int .i64 0] 34)) [w.heap.size + 1]) (.inl (by simp)) #[.int .i64 A.x0, .int .i64 A.y0, .int .i64 A.x1, .int .i64 A.y1]
  have HK := Lib.hid (K0.only o (by simp))
  have HB := Lib.hid (below_setRow (g := w.heap.size + 1) B0 (Nat.le_succ _) #[.int .i64 A.x0, .int .i64 A.y0, .int .i64 A.x1, .int .i64 A.y1])
  have B := HB.out
  have q1 := fun w => eqB_run A.x0 A.y0 A.x1 A.y1 0 0 0 0 w
  have q2 := fun x y w => eqB_guard A.x0 A.y0 A.x1 A.y1 0 0 0 0 x y w
  have CR := fun W => rmb_any A W
  rw [show eq4 A.x0 A.y0 A.x1 A.y1 0 0 0 0 = false from hz] at q1
  rw [hr] at CR
  clear hz hr
  have HJ0 := Lib.hid J0
  have K := HK.out; have J := HJ.out; have k0 := K.cell 0; have k1 := K.cell 1; have k2 := K.cell 2; have k3 := K.cell 3; have k4 := K.cell 4; have kl := K.lt; simp only [List.getElem?_toArray, List.getElem?_cons_succ, List.getElem?_cons_zero] at k0 k1 k2 k3 k4; have j0 := J.cell 0; have j1 := J.cell 1; have j2 := J.cell 2; have j3 := J.cell 3; have jl := J.lt; simp only [List.getElem?_toArray, List.getElem?_cons_succ, List.getElem?_cons_zero] at j0 j1 j2 j3
  clear K0 B0 o K J J0
  go_enter Try.func15, Try.ntmps15
  go_wp2_with (refine wpList_store_row rfl 34 (.tmp 3) (.tmp 5) (by with_reducible rfl) (w.heap.size + 1) #[.int .i64 A.x0, .int .i64 A.y0, .int .i64 A.x1, .int .i64 A.y1] (by rfl) (by rfl) 34 #[.int .i64 0, .int .i64 0, .int .i64 0, .int .i64 0] (by exact HJ0.out) (by kernel_rfl) rfl (by simp [Value.oneCell']) ?_)
  (go_at_call 34; ((with_reducible refine (CR _).mono ?_); rintro e w1 ⟨rfl, b1⟩; have B := HB.out.trans (b1.mono HB.out.size); have K := HK.out.below b1; have J := HJ.out.below b1; have k0 := K.cell 0; have k1 := K.cell 1; have k2 := K.cell 2; have k3 := K.cell 3; have k4 := K.cell 4; have kl := K.lt; simp only [List.getElem?_toArray, List.getElem?_cons_succ, List.getElem?_cons_zero] at k0 k1 k2 k3 k4; have j0 := J.cell 0; have j1 := J.cell 1; have j2 := J.cell 2; have j3 := J.cell 3; have jl := J.lt; simp only [List.getElem?_toArray, List.getElem?_cons_succ, List.getElem?_cons_zero] at j0 j1 j2 j3))
  go_wp2
  go_ret
  exact ⟨rfl, B⟩
set_option maxRecDepth 100000 in
set_option maxHeartbeats 2000000 in
theorem rcheck_no220 (A : Q) (Am : Option Addr) (n c : Nat) (hz : zerB A = false) (hr : rmbC A = 220) (w : World) : Calls Try.prog 15 #[.agg #[.int .i64 A.x0, .int .i64 A.y0, .int .i64 A.x1, .int .i64 A.y1, .slice Am n c]] w fun e w' => e = .returned (.int .i64 220) ∧ Below w.heap.size w w' := by
  have B0 : Below w.heap.size w ((w.alloc (.cells #[.int .i64 A.x0, .int .i64 A.y0, .int .i64 A.x1, .int .i64 A.y1, .slice Am n c] 37)).alloc (.cells #[.int .i64 0, .int .i64 0, .int .i64 0, .int .i64 0] 34)) := below_a2 _ _ _
  have K0 := (Blk.new w 37 #[.int .i64 A.x0, .int .i64 A.y0, .int .i64 A.x1, .int .i64 A.y1, .slice Am n c]).below (below_a1 _ (.cells #[.int .i64 0, .int .i64 0, .int .i64 0, .int .i64 0] 34))
  have J0 := Blk.new (w.alloc (.cells #[.int .i64 A.x0, .int .i64 A.y0, .int .i64 A.x1, .int .i64 A.y1, .slice Am n c] 37)) 34 #[.int .i64 0, .int .i64 0, .int .i64 0, .int .i64 0]
  rw [World.size_alloc] at J0
  have HJ := Lib.hid (blk_row J0 #[.int .i64 A.x0, .int .i64 A.y0, .int .i64 A.x1, .int .i64 A.y1])
  have o := only_row (g := w.heap.size + 1) (Only.refl ((w.alloc (.cells #[.int .i64 A.x0, .int .i64 A.y0, .int .i64 A.x1, .int .i64 A.y1, .slice Am n c] 37)).alloc (.cells #[.int .i64 0, .int .i64 0, .int .i64 0, .int .i64 0] 34)) [w.heap.size + 1]) (.inl (by simp)) #[.int .i64 A.x0, .int .i64 A.y0, .int .i64 A.x1, .int .i64 A.y1]
  have HK := Lib.hid (K0.only o (by simp))
  have HB := Lib.hid (below_setRow (g := w.heap.size + 1) B0 (Nat.le_succ _) #[.int .i64 A.x0, .int .i64 A.y0, .int .i64 A.x1, .int .i64 A.y1])
  have B := HB.out
  have q1 := fun w => eqB_run A.x0 A.y0 A.x1 A.y1 0 0 0 0 w
  have q2 := fun x y w => eqB_guard A.x0 A.y0 A.x1 A.y1 0 0 0 0 x y w
  have CR := fun W => rmb_any A W
  rw [show eq4 A.x0 A.y0 A.x1 A.y1 0 0 0 0 = false from hz] at q1
  rw [hr] at CR
  clear hz hr
  have HJ0 := Lib.hid J0
  have K := HK.out; have J := HJ.out; have k0 := K.cell 0; have k1 := K.cell 1; have k2 := K.cell 2; have k3 := K.cell 3; have k4 := K.cell 4; have kl := K.lt; simp only [List.getElem?_toArray, List.getElem?_cons_succ, List.getElem?_cons_zero] at k0 k1 k2 k3 k4; have j0 := J.cell 0; have j1 := J.cell 1; have j2 := J.cell 2; have j3 := J.cell 3; have jl := J.lt; simp only [List.getElem?_toArray, List.getElem?_cons_succ, List.getElem?_cons_zero] at j0 j1 j2 j3
  clear K0 B0 o K J J0
  go_enter Try.func15, Try.ntmps15
  go_wp2_with (refine wpList_store_row rfl 34 (.tmp 3) (.tmp 5) (by with_reducible rfl) (w.heap.size + 1) #[.int .i64 A.x0, .int .i64 A.y0, .int .i64 A.x1, .int .i64 A.y1] (by rfl) (by rfl) 34 #[.int .i64 0, .int .i64 0, .int .i64 0, .int .i64 0] (by exact HJ0.out) (by kernel_rfl) rfl (by simp [Value.oneCell']) ?_)
  (go_at_call 34; ((with_reducible refine (CR _).mono ?_); rintro e w1 ⟨rfl, b1⟩; have B := HB.out.trans (b1.mono HB.out.size); have K := HK.out.below b1; have J := HJ.out.below b1; have k0 := K.cell 0; have k1 := K.cell 1; have k2 := K.cell 2; have k3 := K.cell 3; have k4 := K.cell 4; have kl := K.lt; simp only [List.getElem?_toArray, List.getElem?_cons_succ, List.getElem?_cons_zero] at k0 k1 k2 k3 k4; have j0 := J.cell 0; have j1 := J.cell 1; have j2 := J.cell 2; have j3 := J.cell 3; have jl := J.lt; simp only [List.getElem?_toArray, List.getElem?_cons_succ, List.getElem?_cons_zero] at j0 j1 j2 j3))
  go_wp2
  go_ret
  exact ⟨rfl, B⟩
set_option maxRecDepth 100000 in
set_option maxHeartbeats 2000000 in
theorem rcheck_len (A : Q) (Am : Option Addr) (n c : Nat) (h4 : in4 A = true) (he : emptyQ A = false) (hr : rmbC A = 0) (hn : (A.x1 - A.x0) * (A.y1 - A.y0) ≠ (n : Int)) (w : World) : Calls Try.prog 15 #[.agg #[.int .i64 A.x0, .int .i64 A.y0, .int .i64 A.x1, .int .i64 A.y1, .slice Am n c]] w fun e w' => e = .returned (.int .i64 220) ∧ Below w.heap.size w w' := by
  have B0 : Below w.heap.size w ((w.alloc (.cells #[.int .i64 A.x0, .int .i64 A.y0, .int .i64 A.x1, .int .i64 A.y1, .slice Am n c] 37)).alloc (.cells #[.int .i64 0, .int .i64 0, .int .i64 0, .int .i64 0] 34)) := below_a2 _ _ _
  have K0 := (Blk.new w 37 #[.int .i64 A.x0, .int .i64 A.y0, .int .i64 A.x1, .int .i64 A.y1, .slice Am n c]).below (below_a1 _ (.cells #[.int .i64 0, .int .i64 0, .int .i64 0, .int .i64 0] 34))
  have J0 := Blk.new (w.alloc (.cells #[.int .i64 A.x0, .int .i64 A.y0, .int .i64 A.x1, .int .i64 A.y1, .slice Am n c] 37)) 34 #[.int .i64 0, .int .i64 0, .int .i64 0, .int .i64 0]
  rw [World.size_alloc] at J0
  have HJ := Lib.hid (blk_row J0 #[.int .i64 A.x0, .int .i64 A.y0, .int .i64 A.x1, .int .i64 A.y1])
  have o := only_row (g := w.heap.size + 1) (Only.refl ((w.alloc (.cells #[.int .i64 A.x0, .int .i64 A.y0, .int .i64 A.x1, .int .i64 A.y1, .slice Am n c] 37)).alloc (.cells #[.int .i64 0, .int .i64 0, .int .i64 0, .int .i64 0] 34)) [w.heap.size + 1]) (.inl (by simp)) #[.int .i64 A.x0, .int .i64 A.y0, .int .i64 A.x1, .int .i64 A.y1]
  have HK := Lib.hid (K0.only o (by simp))
  have HB := Lib.hid (below_setRow (g := w.heap.size + 1) B0 (Nat.le_succ _) #[.int .i64 A.x0, .int .i64 A.y0, .int .i64 A.x1, .int .i64 A.y1])
  have B := HB.out
  have q1 := fun w => eqB_run A.x0 A.y0 A.x1 A.y1 0 0 0 0 w
  have q2 := fun x y w => eqB_guard A.x0 A.y0 A.x1 A.y1 0 0 0 0 x y w
  have CR := fun W => rmb_any A W
  obtain ⟨p1, p2, p3, p4, p5, p6⟩ := prod4 h4 he
  have g := in4_lims h4
  obtain ⟨⟨g0, _⟩, ⟨g1, _⟩, ⟨_, g2⟩, ⟨_, g3⟩⟩ := g
  have s1 : wrap64 (A.x1 - A.x0) = A.x1 - A.x0 := by unfold wrap64; omega
  have s2 : wrap64 (A.y1 - A.y0) = A.y1 - A.y0 := by unfold wrap64; omega
  have s3 : wrap64 ((A.x1 - A.x0) * (A.y1 - A.y0)) = (A.x1 - A.x0) * (A.y1 - A.y0) := by unfold wrap64; omega
  rw [show eq4 A.x0 A.y0 A.x1 A.y1 0 0 0 0 = false from not_zero A he] at q1
  rw [hr] at CR
  clear he h4 p1 p2 p3 p4 g0 g1 g2 g3 hr
  have d1 : ((n : Int) != (A.x1 - A.x0) * (A.y1 - A.y0)) = true := by simpa using Ne.symm hn
  have HJ0 := Lib.hid J0
  have K := HK.out; have J := HJ.out; have k0 := K.cell 0; have k1 := K.cell 1; have k2 := K.cell 2; have k3 := K.cell 3; have k4 := K.cell 4; have kl := K.lt; simp only [List.getElem?_toArray, List.getElem?_cons_succ, List.getElem?_cons_zero] at k0 k1 k2 k3 k4; have j0 := J.cell 0; have j1 := J.cell 1; have j2 := J.cell 2; have j3 := J.cell 3; have jl := J.lt; simp only [List.getElem?_toArray, List.getElem?_cons_succ, List.getElem?_cons_zero] at j0 j1 j2 j3
  clear K0 B0 o K J J0
  go_enter Try.func15, Try.ntmps15
  go_wp2_with (refine wpList_store_row rfl 34 (.tmp 3) (.tmp 5) (by with_reducible rfl) (w.heap.size + 1) #[.int .i64 A.x0, .int .i64 A.y0, .int .i64 A.x1, .int .i64 A.y1] (by rfl) (by rfl) 34 #[.int .i64 0, .int .i64 0, .int .i64 0, .int .i64 0] (by exact HJ0.out) (by kernel_rfl) rfl (by simp [Value.oneCell']) ?_)
  (go_at_call 34; ((with_reducible refine (CR _).mono ?_); rintro e w1 ⟨rfl, b1⟩; have B := HB.out.trans (b1.mono HB.out.size); have K := HK.out.below b1; have J := HJ.out.below b1; have k0 := K.cell 0; have k1 := K.cell 1; have k2 := K.cell 2; have k3 := K.cell 3; have k4 := K.cell 4; have kl := K.lt; simp only [List.getElem?_toArray, List.getElem?_cons_succ, List.getElem?_cons_zero] at k0 k1 k2 k3 k4; have j0 := J.cell 0; have j1 := J.cell 1; have j2 := J.cell 2; have j3 := J.cell 3; have jl := J.lt; simp only [List.getElem?_toArray, List.getElem?_cons_succ, List.getElem?_cons_zero] at j0 j1 j2 j3))
  go_wp2
  go_ret
  exact ⟨rfl, B⟩
set_option maxRecDepth 100000 in
set_option maxHeartbeats 2000000 in
theorem rcheck_ok (A : Q) (Am : Option Addr) (n c : Nat) (h4 : in4 A = true) (he : emptyQ A = false) (hr : rmbC A = 0) (hn : (A.x1 - A.x0) * (A.y1 - A.y0) = (n : Int)) (w : World) : Calls Try.prog 15 #[.agg #[.int .i64 A.x0, .int .i64 A.y0, .int .i64 A.x1, .int .i64 A.y1, .slice Am n c]] w fun e w' => e = .returned (.int .i64 0) ∧ Below w.heap.size w w' := by
  have B0 : Below w.heap.size w ((w.alloc (.cells #[.int .i64 A.x0, .int .i64 A.y0, .int .i64 A.x1, .int .i64 A.y1, .slice Am n c] 37)).alloc (.cells #[.int .i64 0, .int .i64 0, .int .i64 0, .int .i64 0] 34)) := below_a2 _ _ _
  have K0 := (Blk.new w 37 #[.int .i64 A.x0, .int .i64 A.y0, .int .i64 A.x1, .int .i64 A.y1, .slice Am n c]).below (below_a1 _ (.cells #[.int .i64 0, .int .i64 0, .int .i64 0, .int .i64 0] 34))
  have J0 := Blk.new (w.alloc (.cells #[.int .i64 A.x0, .int .i64 A.y0, .int .i64 A.x1, .int .i64 A.y1, .slice Am n c] 37)) 34 #[.int .i64 0, .int .i64 0, .int .i64 0, .int .i64 0]
  rw [World.size_alloc] at J0
  have HJ := Lib.hid (blk_row J0 #[.int .i64 A.x0, .int .i64 A.y0, .int .i64 A.x1, .int .i64 A.y1])
  have o := only_row (g := w.heap.size + 1) (Only.refl ((w.alloc (.cells #[.int .i64 A.x0, .int .i64 A.y0, .int .i64 A.x1, .int .i64 A.y1, .slice Am n c] 37)).alloc (.cells #[.int .i64 0, .int .i64 0, .int .i64 0, .int .i64 0] 34)) [w.heap.size + 1]) (.inl (by simp)) #[.int .i64 A.x0, .int .i64 A.y0, .int .i64 A.x1, .int .i64 A.y1]
  have HK := Lib.hid (K0.only o (by simp))
  have HB := Lib.hid (below_setRow (g := w.heap.size + 1) B0 (Nat.le_succ _) #[.int .i64 A.x0, .int .i64 A.y0, .int .i64 A.x1, .int .i64 A.y1])
  have B := HB.out
  have q1 := fun w => eqB_run A.x0 A.y0 A.x1 A.y1 0 0 0 0 w
  have q2 := fun x y w => eqB_guard A.x0 A.y0 A.x1 A.y1 0 0 0 0 x y w
  have CR := fun W => rmb_any A W
  obtain ⟨p1, p2, p3, p4, p5, p6⟩ := prod4 h4 he
  have g := in4_lims h4
  obtain ⟨⟨g0, _⟩, ⟨g1, _⟩, ⟨_, g2⟩, ⟨_, g3⟩⟩ := g
  have s1 : wrap64 (A.x1 - A.x0) = A.x1 - A.x0 := by unfold wrap64; omega
  have s2 : wrap64 (A.y1 - A.y0) = A.y1 - A.y0 := by unfold wrap64; omega
  have s3 : wrap64 ((A.x1 - A.x0) * (A.y1 - A.y0)) = (A.x1 - A.x0) * (A.y1 - A.y0) := by unfold wrap64; omega
  rw [show eq4 A.x0 A.y0 A.x1 A.y1 0 0 0 0 = false from not_zero A he] at q1
  rw [hr] at CR
  clear he h4 p1 p2 p3 p4 g0 g1 g2 g3 hr
  rw [hn] at s3
  have d1 : ((n : Int) != (A.x1 - A.x0) * (A.y1 - A.y0)) = false := by simpa using hn.symm
  have HJ0 := Lib.hid J0
  have K := HK.out; have J := HJ.out; have k0 := K.cell 0; have k1 := K.cell 1; have k2 := K.cell 2; have k3 := K.cell 3; have k4 := K.cell 4; have kl := K.lt; simp only [List.getElem?_toArray, List.getElem?_cons_succ, List.getElem?_cons_zero] at k0 k1 k2 k3 k4; have j0 := J.cell 0; have j1 := J.cell 1; have j2 := J.cell 2; have j3 := J.cell 3; have jl := J.lt; simp only [List.getElem?_toArray, List.getElem?_cons_succ, List.getElem?_cons_zero] at j0 j1 j2 j3
  clear K0 B0 o K J J0
  go_enter Try.func15, Try.ntmps15
  go_wp2_with (refine wpList_store_row rfl 34 (.tmp 3) (.tmp 5) (by with_reducible rfl) (w.heap.size + 1) #[.int .i64 A.x0, .int .i64 A.y0, .int .i64 A.x1, .int .i64 A.y1] (by rfl) (by rfl) 34 #[.int .i64 0, .int .i64 0, .int .i64 0, .int .i64 0] (by exact HJ0.out) (by kernel_rfl) rfl (by simp [Value.oneCell']) ?_)
  (go_at_call 34; ((with_reducible refine (CR _).mono ?_); rintro e w1 ⟨rfl, b1⟩; have B := HB.out.trans (b1.mono HB.out.size); have K := HK.out.below b1; have J := HJ.out.below b1; have k0 := K.cell 0; have k1 := K.cell 1; have k2 := K.cell 2; have k3 := K.cell 3; have k4 := K.cell 4; have kl := K.lt; simp only [List.getElem?_toArray, List.getElem?_cons_succ, List.getElem?_cons_zero] at k0 k1 k2 k3 k4; have j0 := J.cell 0; have j1 := J.cell 1; have j2 := J.cell 2; have j3 := J.cell 3; have jl := J.lt; simp only [List.getElem?_toArray, List.getElem?_cons_succ, List.getElem?_cons_zero] at j0 j1 j2 j3))
  go_wp2
  go_ret
  exact ⟨rfl, B⟩
theorem zerB_eq {A : Q} (h : zerB A = true) : A = zeroQ := by
  obtain ⟨a, b, c, d⟩ := A
  unfold zerB eq4 at h
  simp at h
  obtain ⟨⟨⟨rfl, rfl⟩, rfl⟩, rfl⟩ := h
  rfl
theorem rckmask_any (A : Q) (Am : Option Addr) (n c : Nat) (w : World) : Calls Try.prog 15 #[.agg #[.int .i64 A.x0, .int .i64 A.y0, .int .i64 A.x1, .int .i64 A.y1, .slice Am n c]] w fun e w' => e = .returned (.int .i64 (chkC A n)) ∧ Below w.heap.size w w' := by
  cases hz : zerB A
  · cases he : emptyQ A
    · cases h4 : in4 A
      · rw [show chkC A n = 220 by unfold chkC chkB msB; simp [h4]]
        by_cases hm : mayQ A = true
        · exact rcheck_no220 A Am n c hz (by unfold rmbC; rw [if_neg (by simp [hm, he]), if_neg (by simp [h4])]) w
        · exact rcheck_no1 A Am n c hz (by unfold rmbC; rw [if_pos (by simp [hm])]) w
      · by_cases hg : (A.x1 - A.x0) * (A.y1 - A.y0) ≤ 4194304
        · have hr : rmbC A = 0 := by unfold rmbC; rw [if_neg (by simp [in4_may h4, he]), if_pos ⟨h4, hg⟩]
          by_cases hn : (A.x1 - A.x0) * (A.y1 - A.y0) = (n : Int)
          · rw [show chkC A n = 0 by unfold chkC chkB msB areaQ; simp [h4, he, hn]; omega]
            exact rcheck_ok A Am n c h4 he hr hn w
          · rw [show chkC A n = 220 by unfold chkC chkB msB areaQ; simp [h4, he, hg, hn]]
            exact rcheck_len A Am n c h4 he hr hn w
        · have hr : rmbC A = 220 := by unfold rmbC; rw [if_neg (by simp [in4_may h4, he]), if_neg (by simp [hg])]
          rw [show chkC A n = 220 by unfold chkC chkB msB areaQ; simp [h4, he, hg]]
          exact rcheck_no220 A Am n c hz hr w
    · rw [show chkC A n = 220 by unfold chkC chkB msB; simp [he, hz]]
      exact rcheck_no1 A Am n c hz (by unfold rmbC; simp [he]) w
  · have hA := zerB_eq hz
    have ha : areaQ A = 0 := by rw [hA]; rfl
    have hm : msB A = true := by rw [hA]; rfl
    by_cases hn : n = 0
    · rw [show chkC A n = 0 by unfold chkC chkB; simp [hm, ha, hn]]
      exact rcheck_zero A Am n c hz hn w
    · rw [show chkC A n = 220 by unfold chkC chkB; simp [hm, ha]; omega]
      exact rcheck_zerono A Am n c hz hn w
end Go.Proofs.Ytaaboochologaaa

namespace Go.Proofs.Ytaaboochologaaa
open Go Go.RowKit
set_option linter.unusedVariables false
set_option linter.unusedSimpArgs false

theorem u8InfoL : (Try.prog.info? 5).map (fun i => (i.zero, i.size, i.bytes)) = some (some (.int .u8 0), 1, 1) := by kernel_rfl
def zrsL (n : Nat) : List Value := List.replicate n (.int .u8 0)
theorem make_lr (n : Nat) (hn : n ≤ 16777216) (w : World) : (Instr.makeSlice 35 (.int .i64 (n : Nat)) (.int .i64 (n : Nat))).run Try.prog w = .ok (.slice (some ⟨w.heap.size, 0, none⟩) n n) (w.alloc (.cells (zrsL n).toArray 5)) := by
  obtain ⟨i0, hi, hz0, hz1, hz2⟩ := info_parts u8InfoL
  have h := run_makeSlice (P := Try.prog) (w := w) 35 5 i0 (.int .u8 0) Try.underlying35 hi hz0 .i64 .i64 (n : Nat) (n : Nat) (by omega) (Int.le_refl _) (by rw [hz1, Int.toNat_natCast]; omega) (by rw [hz2]; omega) (by omega)
  rw [Int.toNat_natCast, hz1, Nat.mul_one, show (Value.int .u8 0).cells = #[.int .u8 0] from rfl] at h
  have e : madeCells #[Value.int .u8 0] n = (zrsL n).toArray := by
    unfold zrsL madeCells
    apply Array.ext
    · simp
    · intro i h1 h2
      simp [Nat.mod_one]
  rw [e] at h
  exact h
theorem lrbudget_any (x : Int) (w : World) : Calls Try.prog 24 #[.int .i64 x] w fun e w' => e = .returned (.bool (inZ 0 16777216 x)) ∧ w = w' := by
  unfold inZ
  by_cases h1 : 0 ≤ x
  · by_cases h2 : x ≤ 16777216
    · have d1 : decide (0 ≤ x) = true := by simpa using h1
      have d2 : decide (x ≤ 16777216) = true := by simpa using h2
      rw [d1, d2]
      go_enter Try.func24, Try.ntmps24
      go_wp2
      go_ret
      exact ⟨rfl, rfl⟩
    · have d1 : decide (0 ≤ x) = true := by simpa using h1
      have d2 : decide (x ≤ 16777216) = false := by simpa using h2
      rw [d1, d2]
      go_enter Try.func24, Try.ntmps24
      go_wp2
      go_ret
      exact ⟨rfl, rfl⟩
  · have d1 : decide (0 ≤ x) = false := by simpa using h1
    rw [d1]
    go_enter Try.func24, Try.ntmps24
    go_wp2
    go_ret
    exact ⟨rfl, rfl⟩
set_option maxRecDepth 100000 in
theorem lrcost_any (A : Q) (Am : Option Addr) (n c : Nat) (hn : n ≤ 4611686018427387904) (w : World) : Calls Try.prog 36 #[.agg #[.int .i64 A.x0, .int .i64 A.y0, .int .i64 A.x1, .int .i64 A.y1, .slice Am n c]] w fun e w' => e = .returned (.int .i64 (64 + (n : Int))) ∧ Below w.heap.size w w' := by
  have B : Below w.heap.size w (w.alloc (.cells #[.int .i64 A.x0, .int .i64 A.y0, .int .i64 A.x1, .int .i64 A.y1, .slice Am n c] 37)) := below_a1 _ _
  have K := Blk.new w 37 #[.int .i64 A.x0, .int .i64 A.y0, .int .i64 A.x1, .int .i64 A.y1, .slice Am n c]
  have k0 := K.cell 0; have k1 := K.cell 1; have k2 := K.cell 2; have k3 := K.cell 3; have k4 := K.cell 4; have kl := K.lt; simp only [List.getElem?_toArray, List.getElem?_cons_succ, List.getElem?_cons_zero] at k0 k1 k2 k3 k4
  have hw : wrap64 (64 + (n : Int)) = 64 + (n : Int) := by unfold wrap64; omega
  go_enter Try.func36, Try.ntmps36
  go_wp2
  go_ret
  exact ⟨rfl, B⟩
set_option maxRecDepth 100000 in
theorem lrcopy_any (A : Q) (Am : Option Addr) (n c : Nat) (M : List Value) (w : World) (hl : Lists w w.heap.size Am M) (h8 : Bytes8 M) (hn : M.length = n) (hm : n ≤ 16777216) : Calls Try.prog 33 #[.agg #[.int .i64 A.x0, .int .i64 A.y0, .int .i64 A.x1, .int .i64 A.y1, .slice Am n c]] w fun e w' => ∃ g, e = .returned (.agg #[.int .i64 A.x0, .int .i64 A.y0, .int .i64 A.x1, .int .i64 A.y1, .slice (some ⟨g, 0, none⟩) n n]) ∧ Blk w' g 5 M.toArray ∧ w.heap.size ≤ g ∧ Below w.heap.size w w' := by
  have MK := fun W => make_lr n hm W
  obtain ⟨wa, hwa⟩ : ∃ wa, wa = (w.alloc (.cells #[.int .i64 A.x0, .int .i64 A.y0, .int .i64 A.x1, .int .i64 A.y1, .slice Am n c] 37)).alloc (.cells #[.int .i64 0, .int .i64 0, .int .i64 0, .int .i64 0, .slice none 0 0] 37) := ⟨_, rfl⟩
  have Ba : Below w.heap.size w wa := hwa ▸ below_a2 _ _ _
  have sa : wa.heap.size = w.heap.size + 1 + 1 := by rw [hwa]; simp
  have K : Blk wa w.heap.size 37 #[.int .i64 A.x0, .int .i64 A.y0, .int .i64 A.x1, .int .i64 A.y1, .slice Am n c] := hwa ▸ (Blk.new w 37 #[.int .i64 A.x0, .int .i64 A.y0, .int .i64 A.x1, .int .i64 A.y1, .slice Am n c]).below (below_a1 _ _)
  have R : Blk wa (w.heap.size + 1) 37 #[.int .i64 0, .int .i64 0, .int .i64 0, .int .i64 0, .slice none 0 0] := by
    have := Blk.new (w.alloc (.cells #[.int .i64 A.x0, .int .i64 A.y0, .int .i64 A.x1, .int .i64 A.y1, .slice Am n c] 37)) 37 #[.int .i64 0, .int .i64 0, .int .i64 0, .int .i64 0, .slice none 0 0]
    rw [World.size_alloc] at this
    exact hwa ▸ this
  have hw1 : Below wa.heap.size wa (wa.alloc (.cells (zrsL n).toArray 5)) := below_a1 _ _
  have K1 := Blk.new wa 5 (zrsL n).toArray
  obtain ⟨w2, hrun, hh, ho⟩ := run_copy_only (P := Try.prog) (w := wa.alloc (.cells (zrsL n).toArray 5)) 35 35 3 5 Try.underlying35 u8One (some ⟨wa.heap.size, 0, none⟩) Am n n n c wa.heap.size 0 (zrsL n) 5 K1 M (by rw [hn]; exact (Nat.min_self n).symm) (fun h0 => ⟨rfl, by
    cases Am with
    | none => rw [hl.nil rfl] at h0; simp at h0
    | some a => exact ⟨a, rfl, fun j v hv => by
        have hlt := hl.lt a rfl (by intro e; rw [e] at h0; simp at h0)
        have b1 : Below w.heap.size w (wa.alloc (.cells (zrsL n).toArray 5)) := Ba.trans (hw1.mono Ba.size)
        exact (b1.cell (p := a.add j) (by rw [addr_add_block]; exact hlt)).trans (hl.cell a rfl j v hv)⟩⟩) (by rw [hn]; simp [zrsL]) h8.one
  have hs : splice (zrsL n) 0 M = M := by
    unfold splice
    rw [List.take_zero, List.nil_append, List.drop_eq_nil_of_le (by rw [hn]; simp [zrsL]), List.append_nil]
  rw [hs] at hh
  rw [hn] at hrun
  have hb2 : Below wa.heap.size wa w2 := hw1.trans (ho.to_below (by simp) (by simp))
  have hrun2 : ∀ ty, (Builtin.copy_ #[35, 35] ty #[.slice (some ⟨wa.heap.size, 0, none⟩) n n, .slice Am n c]).run Try.prog (wa.alloc (.cells (zrsL n).toArray 5)) = .ok (goInt n) w2 := fun ty => hrun
  have k0 := K.cell 0; have k1 := K.cell 1; have k2 := K.cell 2; have k3 := K.cell 3; have k4 := K.cell 4; have kl := K.lt; simp only [List.getElem?_toArray, List.getElem?_cons_succ, List.getElem?_cons_zero] at k0 k1 k2 k3 k4
  have kk := K.below hw1
  have m0 := kk.cell 0; have m1 := kk.cell 1; have m2 := kk.cell 2; have m3 := kk.cell 3; have m4 := kk.cell 4; have ml := kk.lt; simp only [List.getElem?_toArray, List.getElem?_cons_succ, List.getElem?_cons_zero] at m0 m1 m2 m3 m4
  have R2 := R.below hb2
  have kk2 := K.below hb2
  have l0 := kk2.cell 0; have l1 := kk2.cell 1; have l2 := kk2.cell 2; have l3 := kk2.cell 3; have l4 := kk2.cell 4; have ll := kk2.lt; simp only [List.getElem?_toArray, List.getElem?_cons_succ, List.getElem?_cons_zero] at l0 l1 l2 l3 l4
  have HR := Lib.hid R2
  have HWA := Lib.hid hwa
  have HB := Lib.hid (Ba.trans (hb2.mono Ba.size))
  have HH := Lib.hid hh
  have SA := Lib.hid sa
  clear K R K1 hw1 ho hrun hs hn hl h8 hb2 Ba kk kk2 R2 hwa sa hh
  go_enter Try.func33, Try.ntmps33
  go_upto_region 1 with fail
  rw [← HWA.out]
  go_wp2_with (refine wpList_store_row rfl 37 (.tmp 2) (.tmp 15) (by with_reducible rfl) (w.heap.size + 1) #[.int .i64 A.x0, .int .i64 A.y0, .int .i64 A.x1, .int .i64 A.y1, .slice (some ⟨wa.heap.size, 0, none⟩) n n] (by rfl) (by rfl) 37 #[.int .i64 0, .int .i64 0, .int .i64 0, .int .i64 0, .slice none 0 0] (by exact HR.out) (by kernel_rfl) rfl (by simp [Value.oneCell']) ?_)
  refine bodyPost_ret (results_cell_row Try.results33 _ _ (w.heap.size + 1) 37 #[.int .i64 A.x0, .int .i64 A.y0, .int .i64 A.x1, .int .i64 A.y1, .slice (some ⟨wa.heap.size, 0, none⟩) n n] (0, 0) _ (by rfl) (show Blk _ _ _ _ from blk_row HR.out _) Try.underlying37 rfl (by kernel_rfl)) rfl ⟨wa.heap.size, rfl, ?_, by rw [SA.out]; omega, ?_⟩
  · exact (show Blk w2 _ _ _ from HH.out).only (only_row (Only.refl w2 [w.heap.size + 1]) (.inl (by simp)) _) (by rw [SA.out]; simp)
  · have o9 := only_row (g := w.heap.size + 1) (Only.of_below HB.out []) (.inr (by omega)) #[.int .i64 A.x0, .int .i64 A.y0, .int .i64 A.x1, .int .i64 A.y1, .slice (some ⟨wa.heap.size, 0, none⟩) n n]
    exact o9.nil_below
set_option maxRecDepth 100000 in
theorem find_nil (k : Ky) (w : World) : Calls Try.prog 30 #[.pointer none, .agg #[.int .i64 k.1, .int .i64 k.2.1, .int .i64 k.2.2.1, .int .i64 k.2.2.2]] w fun e w' => e = .returned (.tuple #[.int .i64 0, .bool false]) ∧ Below w.heap.size w w' := by
  have B : Below w.heap.size w (w.alloc (.cells #[.int .i64 k.1, .int .i64 k.2.1, .int .i64 k.2.2.1, .int .i64 k.2.2.2] 39)) := below_a1 _ _
  go_enter Try.func30, Try.ntmps30
  go_wp2
  exact bodyPost_ret (results_tmp2 rfl _ _ _) rfl ⟨rfl, B⟩
set_option maxRecDepth 100000 in
theorem find_any15 (B p : Nat) (C : Cs) (k : Ky) (hk : kyW k) (w : World) (h : CaV w B p C) : Calls Try.prog 30 #[.pointer (some ⟨p, 0, none⟩), .agg #[.int .i64 k.1, .int .i64 k.2.1, .int .i64 k.2.2.1, .int .i64 k.2.2.2]] w fun e w' => e = .returned (.tuple #[.int .i64 ((C.f k).getD 0 : Nat), .bool (C.f k).isSome]) ∧ Below w.heap.size w w' := by
  have B1 : Below w.heap.size w (w.alloc (.cells #[.int .i64 k.1, .int .i64 k.2.1, .int .i64 k.2.2.1, .int .i64 k.2.2.2] 39)) := below_a1 _ _
  have K := Blk.new w 39 #[.int .i64 k.1, .int .i64 k.2.1, .int .i64 k.2.2.1, .int .i64 k.2.2.2]
  have k0 := K.cell 0; have k1 := K.cell 1; have k2 := K.cell 2; have k3 := K.cell 3; have kl := K.lt; simp only [List.getElem?_toArray, List.getElem?_cons_succ, List.getElem?_cons_zero] at k0 k1 k2 k3
  have HM := h.below B1
  obtain ⟨wa, hwa⟩ : ∃ wa, wa = w.alloc (.cells #[.int .i64 k.1, .int .i64 k.2.1, .int .i64 k.2.2.1, .int .i64 k.2.2.2] 39) := ⟨_, rfl⟩
  rw [← hwa] at HM k0 k1 k2 k3 kl B1
  have c2 := HM.blk.cell 2
  simp only [List.getElem?_toArray, List.getElem?_cons_succ, List.getElem?_cons_zero] at c2
  have hpl := HM.lt
  obtain ⟨a, ha⟩ : ∃ a, a = (C.f k).getD 0 := ⟨_, rfl⟩
  obtain ⟨b, hb⟩ : ∃ b, b = (C.f k).isSome := ⟨_, rfl⟩
  rw [← ha, ← hb]
  have HD := Lib.hid (fun (V : World) (hV : Below wa.heap.size wa V) => show V.cell? ⟨p, 2, none⟩ = some (.map (some C.mb)) ∧ (Instr.lookup 63 (.map (some C.mb)) (.agg #[.int .i64 k.1, .int .i64 k.2.1, .int .i64 k.2.2.1, .int .i64 k.2.2.2]) true).run Try.prog V = .ok (.tuple #[.int .i64 (a : Nat), .bool b]) V ∧ p < V.heap.size ∧ V.cell? ⟨w.heap.size, 0, none⟩ = some (.int .i64 k.1) ∧ V.cell? ⟨w.heap.size, 1, none⟩ = some (.int .i64 k.2.1) ∧ V.cell? ⟨w.heap.size, 2, none⟩ = some (.int .i64 k.2.2.1) ∧ V.cell? ⟨w.heap.size, 3, none⟩ = some (.int .i64 k.2.2.2) ∧ w.heap.size < V.heap.size from
    ⟨(hV.cell (p := ⟨p, 2, none⟩) hpl).trans c2, by have := (HM.map.only (Only.of_below hV []) (by simp)).look hk; rw [← ha, ← hb] at this; exact this, Nat.lt_of_lt_of_le hpl hV.size, (hV.cell (p := ⟨w.heap.size, 0, none⟩) kl).trans k0, (hV.cell (p := ⟨w.heap.size, 1, none⟩) kl).trans k1, (hV.cell (p := ⟨w.heap.size, 2, none⟩) kl).trans k2, (hV.cell (p := ⟨w.heap.size, 3, none⟩) kl).trans k3, Nat.lt_of_lt_of_le kl hV.size⟩)
  have HWA := Lib.hid hwa
  clear h HM K k0 k1 k2 k3 kl c2 hwa ha hb
  go_enter Try.func30, Try.ntmps30
  go_upto_region 3 with fail
  rw [← HWA.out]
  have hI : Below wa.heap.size wa wa.drew := (Below.refl _ _).drew
  refine wp_region_chain (fun V => Below wa.heap.size wa V) [(0, false), (1, false), (2, false), (3, false), (4, false), (5, false), (6, false), (7, false), (8, false), (9, false), (10, false)] (by kernel_rfl) (by kernel_rfl) hI ?_
  repeat (first
    | (refine ChainL.skip (o := ?_) ?_ ?_ ?_; rotate_left; (focus (first | (simp only [List.getElem?_toArray, List.getElem?_cons_succ, List.getElem?_cons_zero]; with_reducible rfl) | (simp only [List.getElem?_toArray, List.getElem?_cons_zero]; with_reducible rfl))); (focus rfl); simp only [Act.put, List.setIfInBounds_toArray, List.set_cons_zero, List.set_cons_succ])
    | (refine ChainL.val (o := ?_) (v := ?_) ?_ ?_ ?_ ?_ ?_; rotate_left 2; (focus (first | (simp only [List.getElem?_toArray, List.getElem?_cons_succ, List.getElem?_cons_zero]; with_reducible rfl) | (simp only [List.getElem?_toArray, List.getElem?_cons_zero]; with_reducible rfl))); (focus (intro _ _ h; cases h)); (focus rfl); (focus (intro w' hJ; obtain ⟨c2, lk, l1, k0, k1, k2, k3, l2⟩ := HD.out _ hJ; go_simp <;> with_reducible rfl)); simp only [Act.put, List.setIfInBounds_toArray, List.set_cons_zero, List.set_cons_succ]))
  refine ChainL.nil ?_
  go_wp2
  exact bodyPost_ret (results_tmp2 rfl _ _ _) rfl ⟨rfl, B1.trans ((hI : Below wa.heap.size wa wa.drew).mono B1.size)⟩
theorem lrlen_nil (w : World) : Calls Try.prog 21 #[.pointer none] w fun e w' => e = .returned (.int .i64 0) ∧ w = w' := by
  go_enter Try.func21, Try.ntmps21
  go_wp2
  go_ret
  exact ⟨rfl, rfl⟩
theorem lrheld_nil (w : World) : Calls Try.prog 22 #[.pointer none] w fun e w' => e = .returned (.int .i64 0) ∧ w = w' := by
  go_enter Try.func22, Try.ntmps22
  go_wp2
  go_ret
  exact ⟨rfl, rfl⟩
theorem lrlen_any (B p : Nat) (C : Cs) (w : World) (h : CaV w B p C) : Calls Try.prog 21 #[.pointer (some ⟨p, 0, none⟩)] w fun e w' => e = .returned (.int .i64 (C.n : Nat)) ∧ w = w' := by
  have c2 := h.blk.cell 2
  simp only [List.getElem?_toArray, List.getElem?_cons_succ, List.getElem?_cons_zero] at c2
  have hpl := h.lt
  have hlen := fun ty => h.map.len ty
  clear h
  go_enter Try.func21, Try.ntmps21
  go_wp2
  go_ret
  exact ⟨rfl, rfl⟩
theorem lrheld_any (B p : Nat) (C : Cs) (w : World) (h : CaV w B p C) : Calls Try.prog 22 #[.pointer (some ⟨p, 0, none⟩)] w fun e w' => e = .returned (.int .i64 C.held) ∧ w = w' := by
  have c1 := h.blk.cell 1
  simp only [List.getElem?_toArray, List.getElem?_cons_succ, List.getElem?_cons_zero] at c1
  have hpl := h.lt
  clear h
  go_enter Try.func22, Try.ntmps22
  go_wp2
  go_ret
  exact ⟨rfl, rfl⟩
end Go.Proofs.Ytaaboochologaaa
