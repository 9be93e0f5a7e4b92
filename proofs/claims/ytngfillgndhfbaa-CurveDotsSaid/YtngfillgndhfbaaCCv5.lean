/- Part 6 of the proof: CvL, CvE. -/
import Derived.Test.YtngfillgndhfbaaCCv4

namespace Go.Proofs.Ytngfillgndhfbaa
open Go Go.RowKit
set_option linter.unusedVariables false
set_option linter.unusedSimpArgs false


theorem eqD_run (a b a' b' : Int) (w : World) :
    (binOp .eql 23 (.agg #[.int .i64 a, .int .i64 b]) (.agg #[.int .i64 a', .int .i64 b'])).run Try.prog w = .ok (.bool (a == a' && b == b')) w := by
  have hS : Try.prog.underlying 23 = some (.struct (Try.prog.fieldsOf 23)) := by kernel_rfl
  have hp : Try.prog.stoodInHeld 23 = false := by kernel_rfl
  have u3 := Try.underlying3
  have a3 := Try.isAgg3
  have z3 := Try.sizeOf3
  rw [run_eql_struct, show (10000 : Nat) = 9999 + 1 from rfl, run_equalIn_agg w 9999 23 _ _ hS hp]
  simp only [Program.fieldsOf, Try.underlying23]
  go_simp
  by_cases h1 : a = a' <;> by_cases h2 : b = b' <;> simp [h1, h2]
theorem eqD_guard (a b a' b' : Int) (x y : Operand) (w : World) :
    (eqGuard .eql 23 x y (.agg #[.int .i64 a, .int .i64 b]) (.agg #[.int .i64 a', .int .i64 b'])).run Try.prog w = .ok () w :=
  run_eqGuard_agg w .eql 23 x y _ _ (by kernel_rfl)
theorem neD_run (a b a' b' : Int) (w : World) :
    (binOp .neq 23 (.agg #[.int .i64 a, .int .i64 b]) (.agg #[.int .i64 a', .int .i64 b'])).run Try.prog w = .ok (.bool (!(a == a' && b == b'))) w := by
  have hS : Try.prog.underlying 23 = some (.struct (Try.prog.fieldsOf 23)) := by kernel_rfl
  have hp : Try.prog.stoodInHeld 23 = false := by kernel_rfl
  have u3 := Try.underlying3
  have a3 := Try.isAgg3
  have z3 := Try.sizeOf3
  rw [run_neq_struct, show (10000 : Nat) = 9999 + 1 from rfl, run_equalIn_agg w 9999 23 _ _ hS hp]
  simp only [Program.fieldsOf, Try.underlying23]
  go_simp
  by_cases h1 : a = a' <;> by_cases h2 : b = b' <;> simp [h1, h2]
theorem neD_guard (a b a' b' : Int) (x y : Operand) (w : World) :
    (eqGuard .neq 23 x y (.agg #[.int .i64 a, .int .i64 b]) (.agg #[.int .i64 a', .int .i64 b'])).run Try.prog w = .ok () w :=
  run_eqGuard_agg w .neq 23 x y _ _ (by kernel_rfl)
set_option maxRecDepth 100000 in
theorem eqBw_in (n : Nat) (k xa ya xb yb xc yc xd yd : Int) (w : World) : (Op.equalIn (n + 1 + 1 + 1) 25 (.agg #[.int .i64 k, .int .i64 xa, .int .i64 ya, .int .i64 xb, .int .i64 yb, .int .i64 xc, .int .i64 yc, .int .i64 xd, .int .i64 yd]) (.agg #[.int .i64 k, .int .i64 xa, .int .i64 ya, .int .i64 xb, .int .i64 yb, .int .i64 xc, .int .i64 yc, .int .i64 xd, .int .i64 yd])).run Try.prog w = .ok true w := by
  have hS : Try.prog.underlying 25 = some (.struct (Try.prog.fieldsOf 25)) := by kernel_rfl
  have hp : Try.prog.stoodInHeld 25 = false := by kernel_rfl
  have hS2 : Try.prog.underlying 23 = some (.struct (Try.prog.fieldsOf 23)) := by kernel_rfl
  have hp2 : Try.prog.stoodInHeld 23 = false := by kernel_rfl
  have u3 := Try.underlying3
  have a3 := Try.isAgg3
  have z3 := Try.sizeOf3
  have a4 := Try.isAgg23
  have z4 := Try.sizeOf23
  rw [run_equalIn_agg w (n + 1 + 1) 25 _ _ hS hp]
  simp only [Program.fieldsOf, Try.underlying25]
  clear hS hp hS2 hp2
  go_simp
set_option maxRecDepth 100000 in
theorem neBw_run (k xa ya xb yb xc yc xd yd : Int) (w : World) :
    (binOp .neq 25 (.agg #[.int .i64 k, .int .i64 xa, .int .i64 ya, .int .i64 xb, .int .i64 yb, .int .i64 xc, .int .i64 yc, .int .i64 xd, .int .i64 yd]) (.agg #[.int .i64 k, .int .i64 xa, .int .i64 ya, .int .i64 xb, .int .i64 yb, .int .i64 xc, .int .i64 yc, .int .i64 xd, .int .i64 yd])).run Try.prog w = .ok (.bool false) w := by
  rw [run_neq_struct, show (10000 : Nat) = 9997 + 1 + 1 + 1 from rfl, eqBw_in 9997]
  rfl
theorem neBw_guard (l m : Array Value) (x y : Operand) (w : World) :
    (eqGuard .neq 25 x y (.agg l) (.agg m)).run Try.prog w = .ok () w :=
  run_eqGuard_agg w .neq 25 x y _ _ (by kernel_rfl)
theorem eqfD {P : Program} (w : World) (d : Nat) (t : TypeId) (g : Fn) (a b : Array Value) {ta tb : Array TypeId} {c : Bool} (h : P.underlying t = some (.func ta tb c)) : (Op.equalIn (d + 1) t (.func g a b) .nilFunc).run P w = .ok false w := by
  simp [Op.equalIn, run_underlying h]
theorem neqf1D {P : Program} (w : World) (t : TypeId) (g : Fn) (a b : Array Value) {ta tb : Array TypeId} {c : Bool} (h : P.underlying t = some (.func ta tb c)) : (binOp .neq t (.func g a b) .nilFunc).run P w = .ok (.bool true) w := by
  simp only [binOp]
  simp [Op.equal, Op.maxDepth, eqfD w 9999 t g a b h]
theorem eqlf1D {P : Program} (w : World) (t : TypeId) (g : Fn) (a b : Array Value) {ta tb : Array TypeId} {c : Bool} (h : P.underlying t = some (.func ta tb c)) : (binOp .eql t (.func g a b) .nilFunc).run P w = .ok (.bool false) w := by
  simp only [binOp]
  simp [Op.equal, Op.maxDepth, eqfD w 9999 t g a b h]
theorem cturn_any (c : Bw) (w : World) : Calls Try.prog 13 #[bwV c] w fun e w' => e = .returned (bwV (trn c)) ∧ Below w.heap.size w w' := by
  obtain ⟨k, xa, ya, xb, yb, xc, yc, xd, yd⟩ := c
  unfold bwV trn
  dsimp only
  by_cases h2 : k = 2
  · subst h2; rw [if_pos rfl]; exact turnc_2 xa ya xb yb xc yc xd yd w
  · by_cases h3 : k = 3
    · subst h3; rw [if_neg (by decide), if_pos rfl]; exact turnc_3 xa ya xb yb xc yc xd yd w
    · rw [if_neg h2, if_neg h3]; exact turnc_n k xa ya xb yb xc yc xd yd w (by simpa using h2) (by simpa using h3)
theorem rcturn_any (c : Bw) (w : World) : Calls Try.prog 14 #[bwV c] w fun e w' => e = .returned (bwV (trn c)) ∧ Below w.heap.size w w' := by
  obtain ⟨k, xa, ya, xb, yb, xc, yc, xd, yd⟩ := c
  unfold bwV trn
  dsimp only
  by_cases h2 : k = 2
  · subst h2; rw [if_pos rfl]; exact rturn_2 xa ya xb yb xc yc xd yd w
  · by_cases h3 : k = 3
    · subst h3; rw [if_neg (by decide), if_pos rfl]; exact rturn_3 xa ya xb yb xc yc xd yd w
    · rw [if_neg h2, if_neg h3]; exact rturn_n k xa ya xb yb xc yc xd yd w (by simpa using h2) (by simpa using h3)
set_option maxRecDepth 100000 in
theorem dots_any (c : Bw) (w : World) : Calls Try.prog 19 #[bwV c] w fun e w' => e = .returned (.func (.func 33) #[] #[.pointer (some ⟨w.heap.size, 0, none⟩)]) ∧ Blk w' w.heap.size 25 (bwL c).toArray ∧ Below w.heap.size w w' := by
  have hmf : ∀ (fn : Fn) (first cap : Array Value) (w : World), (Instr.makeFunc fn first cap).run Try.prog w = .ok (.func fn first cap) w := fun _ _ _ _ => rfl
  unfold bwV
  go_enter Try.func19, Try.ntmps19
  go_wp2
  go_ret
  exact ⟨rfl, Blk.new w 25 _, below_a1 _ _⟩
theorem bCorner : Try.prog.built 25 [(0, .int .i64 2), (2, .agg #[.int .i64 64, .int .i64 0]), (4, .agg #[.int .i64 64, .int .i64 64])] = some #[.int .i64 2, .int .i64 0, .int .i64 0, .int .i64 64, .int .i64 0, .int .i64 0, .int .i64 0, .int .i64 64, .int .i64 64] := by kernel_rfl
set_option maxRecDepth 100000 in
theorem corner_any (w : World) : Calls Try.prog 24 #[] w fun e w' => e = .returned (.agg #[.int .i64 2, .int .i64 0, .int .i64 0, .int .i64 64, .int .i64 0, .int .i64 0, .int .i64 0, .int .i64 64, .int .i64 64]) ∧ Below w.heap.size w w' := by
  have K := Blk.new w 25 #[.int .i64 0, .int .i64 0, .int .i64 0, .int .i64 0, .int .i64 0, .int .i64 0, .int .i64 0, .int .i64 0, .int .i64 0]
  have B0 := below_a1 w (.cells #[.int .i64 0, .int .i64 0, .int .i64 0, .int .i64 0, .int .i64 0, .int .i64 0, .int .i64 0, .int .i64 0, .int .i64 0] 25)
  go_enter Try.func24, Try.ntmps24
  go_wp2_with (first | (refine wpList_build_toC rfl 25 #[(0, .const (.int .i64 2)), (2, .tmp 1), (4, .tmp 2)] (by with_reducible rfl) [(0, .int .i64 2), (2, .agg #[.int .i64 64, .int .i64 0]), (4, .agg #[.int .i64 64, .int .i64 64])] (by rfl) #[.int .i64 2, .int .i64 0, .int .i64 0, .int .i64 64, .int .i64 0, .int .i64 0, .int .i64 0, .int .i64 64, .int .i64 64] bCorner ?_) | (refine wpList_store_row rfl 25 (.tmp 0) (.tmp 3) (by with_reducible rfl) w.heap.size #[.int .i64 2, .int .i64 0, .int .i64 0, .int .i64 64, .int .i64 0, .int .i64 0, .int .i64 0, .int .i64 64, .int .i64 64] (by rfl) (by rfl) 25 #[.int .i64 0, .int .i64 0, .int .i64 0, .int .i64 0, .int .i64 0, .int .i64 0, .int .i64 0, .int .i64 0, .int .i64 0] (by exact K) bwInfo rfl (by simp [Value.oneCell']) ?_))
  exact bodyPost_ret (results_cell_row Try.results24 _ _ w.heap.size 25 #[.int .i64 2, .int .i64 0, .int .i64 0, .int .i64 64, .int .i64 0, .int .i64 0, .int .i64 0, .int .i64 64, .int .i64 64] (0, 0) _ (by rfl) (show Blk _ _ _ _ from blk_row K _) Try.underlying25 rfl bwInfo) rfl ⟨rfl, below_setRow B0 (Nat.le_refl _) _⟩
theorem fldB1 (k xa ya xb yb xc yc xd yd : Int) (w : World) : (Instr.field 25 (.agg #[.int .i64 k, .int .i64 xa, .int .i64 ya, .int .i64 xb, .int .i64 yb, .int .i64 xc, .int .i64 yc, .int .i64 xd, .int .i64 yd]) 1).run Try.prog w = .ok (.agg #[.int .i64 xa, .int .i64 ya]) w := by kernel_rfl
set_option maxRecDepth 100000 in
set_option maxHeartbeats 2000000 in
theorem lives20 (w : World) : Calls Try.prog 10 #[] w fun e w' => e = .returned (.bool true) ∧ Below w.heap.size w w' := by
  have CO := fun W => corner_any W
  have CA1 := fun W => cat_ok (⟨2, 0, 0, 64, 0, 0, 0, 64, 64⟩ : Bw) 1 2 rfl (by decide) (by decide) (by decide) (by decide) W
  have CA2 := fun W => cat_no (⟨2, 0, 0, 64, 0, 0, 0, 64, 64⟩ : Bw) 3 2 rfl W
  have CM := fun W => cmay_any (⟨2, 0, 0, 64, 0, 0, 0, 64, 64⟩ : Bw) W
  have CZ := fun W => cmay_any (⟨0, 0, 0, 0, 0, 0, 0, 0, 0⟩ : Bw) W
  have CB := fun W => cbend_any (⟨2, 0, 0, 64, 0, 0, 0, 64, 64⟩ : Bw) W
  have CP := fun W => cpcs_any (⟨2, 0, 0, 64, 0, 0, 0, 64, 64⟩ : Bw) W
  have CT := fun W => cturn_any (⟨2, 0, 0, 64, 0, 0, 0, 64, 64⟩ : Bw) W
  have CD := fun W => dots_any (⟨2, 0, 0, 64, 0, 0, 0, 64, 64⟩ : Bw) W
  rw [show (atW (⟨2, 0, 0, 64, 0, 0, 0, 64, 64⟩ : Bw) 1 2).1 = 48 from by decide, show (atW (⟨2, 0, 0, 64, 0, 0, 0, 64, 64⟩ : Bw) 1 2).2 = 16 from by decide] at CA1
  rw [show mayW (⟨2, 0, 0, 64, 0, 0, 0, 64, 64⟩ : Bw) = true from rfl] at CM
  rw [show mayW (⟨0, 0, 0, 0, 0, 0, 0, 0, 0⟩ : Bw) = false from rfl] at CZ
  rw [show bnW (⟨2, 0, 0, 64, 0, 0, 0, 64, 64⟩ : Bw) = 64 from by decide] at CB
  rw [show pcW (⟨2, 0, 0, 64, 0, 0, 0, 64, 64⟩ : Bw) = 3 from by decide] at CP
  rw [show trn (⟨2, 0, 0, 64, 0, 0, 0, 64, 64⟩ : Bw) = (⟨2, 64, 64, 64, 0, 0, 0, 0, 0⟩ : Bw) from rfl] at CT
  simp only [bwV] at CA1 CA2 CM CZ CB CP CT CD
  have e1 := fun W => eqD_run 48 16 48 16 W
  have e2 := fun W => eqD_run 64 64 64 64 W
  have g1 := fun x y W => eqD_guard 48 16 48 16 x y W
  have g2 := fun x y W => eqD_guard 64 64 64 64 x y W
  have f1 := fun W => fldB1 2 64 64 64 0 0 0 0 0 W
  have n1 := fun W g a b => neqf1D (P := Try.prog) W 36 g a b Try.underlying36
  have B := Below.refl w.heap.size w
  go_enter Try.func10, Try.ntmps10
  go_wp2_with (first | (go_at_call 24; ((with_reducible refine (CO _).mono ?_); rintro e w' ⟨rfl, b1⟩; (first | (have B := Below.trans B (b1.mono B.size); try (have KD := KD.below b1; have y0 := KD.cell 0; have y1 := KD.cell 1; have yl := KD.lt)) | (have KD := (KD.below (below_a1 _ _)).below b1; have y0 := KD.cell 0; have y1 := KD.cell 1; have yl := KD.lt; have B := Below.trans (B.alloc B.size _) (b1.mono (B.alloc B.size _).size)) | (have KD := (Blk.new _ 23 #[.int .i64 48, .int .i64 16]).below b1; have y0 := KD.cell 0; have y1 := KD.cell 1; have yl := KD.lt; have B := Below.trans (B.alloc B.size _) (b1.mono (B.alloc B.size _).size))); try simp only [List.getElem?_toArray, List.getElem?_cons_succ, List.getElem?_cons_zero] at y0 y1)) | (go_at_call 17; ((with_reducible refine (CA1 _).mono ?_); rintro e w' ⟨rfl, b1⟩; (first | (have B := Below.trans B (b1.mono B.size); try (have KD := KD.below b1; have y0 := KD.cell 0; have y1 := KD.cell 1; have yl := KD.lt)) | (have KD := (KD.below (below_a1 _ _)).below b1; have y0 := KD.cell 0; have y1 := KD.cell 1; have yl := KD.lt; have B := Below.trans (B.alloc B.size _) (b1.mono (B.alloc B.size _).size)) | (have KD := (Blk.new _ 23 #[.int .i64 48, .int .i64 16]).below b1; have y0 := KD.cell 0; have y1 := KD.cell 1; have yl := KD.lt; have B := Below.trans (B.alloc B.size _) (b1.mono (B.alloc B.size _).size))); try simp only [List.getElem?_toArray, List.getElem?_cons_succ, List.getElem?_cons_zero] at y0 y1)) | (go_at_call 17; ((with_reducible refine (CA2 _).mono ?_); rintro e w' ⟨rfl, b1⟩; (first | (have B := Below.trans B (b1.mono B.size); try (have KD := KD.below b1; have y0 := KD.cell 0; have y1 := KD.cell 1; have yl := KD.lt)) | (have KD := (KD.below (below_a1 _ _)).below b1; have y0 := KD.cell 0; have y1 := KD.cell 1; have yl := KD.lt; have B := Below.trans (B.alloc B.size _) (b1.mono (B.alloc B.size _).size)) | (have KD := (Blk.new _ 23 #[.int .i64 48, .int .i64 16]).below b1; have y0 := KD.cell 0; have y1 := KD.cell 1; have yl := KD.lt; have B := Below.trans (B.alloc B.size _) (b1.mono (B.alloc B.size _).size))); try simp only [List.getElem?_toArray, List.getElem?_cons_succ, List.getElem?_cons_zero] at y0 y1)) | (go_at_call 11; ((with_reducible refine (CM _).mono ?_); rintro e w' ⟨rfl, b1⟩; (first | (have B := Below.trans B (b1.mono B.size); try (have KD := KD.below b1; have y0 := KD.cell 0; have y1 := KD.cell 1; have yl := KD.lt)) | (have KD := (KD.below (below_a1 _ _)).below b1; have y0 := KD.cell 0; have y1 := KD.cell 1; have yl := KD.lt; have B := Below.trans (B.alloc B.size _) (b1.mono (B.alloc B.size _).size)) | (have KD := (Blk.new _ 23 #[.int .i64 48, .int .i64 16]).below b1; have y0 := KD.cell 0; have y1 := KD.cell 1; have yl := KD.lt; have B := Below.trans (B.alloc B.size _) (b1.mono (B.alloc B.size _).size))); try simp only [List.getElem?_toArray, List.getElem?_cons_succ, List.getElem?_cons_zero] at y0 y1)) | (go_at_call 11; ((with_reducible refine (CZ _).mono ?_); rintro e w' ⟨rfl, b1⟩; (first | (have B := Below.trans B (b1.mono B.size); try (have KD := KD.below b1; have y0 := KD.cell 0; have y1 := KD.cell 1; have yl := KD.lt)) | (have KD := (KD.below (below_a1 _ _)).below b1; have y0 := KD.cell 0; have y1 := KD.cell 1; have yl := KD.lt; have B := Below.trans (B.alloc B.size _) (b1.mono (B.alloc B.size _).size)) | (have KD := (Blk.new _ 23 #[.int .i64 48, .int .i64 16]).below b1; have y0 := KD.cell 0; have y1 := KD.cell 1; have yl := KD.lt; have B := Below.trans (B.alloc B.size _) (b1.mono (B.alloc B.size _).size))); try simp only [List.getElem?_toArray, List.getElem?_cons_succ, List.getElem?_cons_zero] at y0 y1)) | (go_at_call 8; ((with_reducible refine (CB _).mono ?_); rintro e w' ⟨rfl, b1⟩; (first | (have B := Below.trans B (b1.mono B.size); try (have KD := KD.below b1; have y0 := KD.cell 0; have y1 := KD.cell 1; have yl := KD.lt)) | (have KD := (KD.below (below_a1 _ _)).below b1; have y0 := KD.cell 0; have y1 := KD.cell 1; have yl := KD.lt; have B := Below.trans (B.alloc B.size _) (b1.mono (B.alloc B.size _).size)) | (have KD := (Blk.new _ 23 #[.int .i64 48, .int .i64 16]).below b1; have y0 := KD.cell 0; have y1 := KD.cell 1; have yl := KD.lt; have B := Below.trans (B.alloc B.size _) (b1.mono (B.alloc B.size _).size))); try simp only [List.getElem?_toArray, List.getElem?_cons_succ, List.getElem?_cons_zero] at y0 y1)) | (go_at_call 9; ((with_reducible refine (CP _).mono ?_); rintro e w' ⟨rfl, b1⟩; (first | (have B := Below.trans B (b1.mono B.size); try (have KD := KD.below b1; have y0 := KD.cell 0; have y1 := KD.cell 1; have yl := KD.lt)) | (have KD := (KD.below (below_a1 _ _)).below b1; have y0 := KD.cell 0; have y1 := KD.cell 1; have yl := KD.lt; have B := Below.trans (B.alloc B.size _) (b1.mono (B.alloc B.size _).size)) | (have KD := (Blk.new _ 23 #[.int .i64 48, .int .i64 16]).below b1; have y0 := KD.cell 0; have y1 := KD.cell 1; have yl := KD.lt; have B := Below.trans (B.alloc B.size _) (b1.mono (B.alloc B.size _).size))); try simp only [List.getElem?_toArray, List.getElem?_cons_succ, List.getElem?_cons_zero] at y0 y1)) | (go_at_call 13; ((with_reducible refine (CT _).mono ?_); rintro e w' ⟨rfl, b1⟩; (first | (have B := Below.trans B (b1.mono B.size); try (have KD := KD.below b1; have y0 := KD.cell 0; have y1 := KD.cell 1; have yl := KD.lt)) | (have KD := (KD.below (below_a1 _ _)).below b1; have y0 := KD.cell 0; have y1 := KD.cell 1; have yl := KD.lt; have B := Below.trans (B.alloc B.size _) (b1.mono (B.alloc B.size _).size)) | (have KD := (Blk.new _ 23 #[.int .i64 48, .int .i64 16]).below b1; have y0 := KD.cell 0; have y1 := KD.cell 1; have yl := KD.lt; have B := Below.trans (B.alloc B.size _) (b1.mono (B.alloc B.size _).size))); try simp only [List.getElem?_toArray, List.getElem?_cons_succ, List.getElem?_cons_zero] at y0 y1)) | (go_at_call 19; ((with_reducible refine (CD _).mono ?_); rintro e w' ⟨rfl, _, b1⟩; (first | (have B := Below.trans B (b1.mono B.size); try (have KD := KD.below b1; have y0 := KD.cell 0; have y1 := KD.cell 1; have yl := KD.lt)) | (have KD := (KD.below (below_a1 _ _)).below b1; have y0 := KD.cell 0; have y1 := KD.cell 1; have yl := KD.lt; have B := Below.trans (B.alloc B.size _) (b1.mono (B.alloc B.size _).size)) | (have KD := (Blk.new _ 23 #[.int .i64 48, .int .i64 16]).below b1; have y0 := KD.cell 0; have y1 := KD.cell 1; have yl := KD.lt; have B := Below.trans (B.alloc B.size _) (b1.mono (B.alloc B.size _).size))); try simp only [List.getElem?_toArray, List.getElem?_cons_succ, List.getElem?_cons_zero] at y0 y1)))
  go_ret
  exact ⟨rfl, B⟩
end Go.Proofs.Ytngfillgndhfbaa

namespace Go.Proofs.Ytngfillgndhfbaa
open Go Go.RowKit
set_option linter.unusedVariables false
set_option linter.unusedSimpArgs false


theorem rsize_any (x : Int) (w : World) (h : -100000000 ≤ x ∧ x ≤ 100000000) : Calls Try.prog 35 #[.int .i64 x] w fun e w' => e = .returned (.int .i64 (max x (-x))) ∧ w = w' := by
  obtain ⟨h1, h2⟩ := h
  by_cases hx : x < 0
  · have d1 : decide (x < 0) = true := by simpa using hx
    rw [show max x (-x) = -x by omega]
    go_enter Try.func35, Try.ntmps35
    go_wp2
    go_ret
    exact ⟨rfl, rfl⟩
  · have d1 : decide (x < 0) = false := by simpa using hx
    rw [show max x (-x) = x by omega]
    go_enter Try.func35, Try.ntmps35
    go_wp2
    go_ret
    exact ⟨rfl, rfl⟩
theorem rmost_any (a b : Int) (w : World) : Calls Try.prog 30 #[.int .i64 a, .int .i64 b] w fun e w' => e = .returned (.int .i64 (max a b)) ∧ w = w' := by
  by_cases hx : a > b
  · have d1 : decide (a > b) = true := by simpa using hx
    rw [show max a b = a by omega]
    clear hx
    go_enter Try.func30, Try.ntmps30
    go_wp2
    go_ret
    exact ⟨rfl, rfl⟩
  · have d1 : decide (a > b) = false := by simpa using hx
    rw [show max a b = b by omega]
    clear hx
    go_enter Try.func30, Try.ntmps30
    go_wp2
    go_ret
    exact ⟨rfl, rfl⟩
theorem bnd_max (a b d : Int) : bnd a b d = max (a - 2 * b + d) (-(a - 2 * b + d)) := by unfold bnd; omega
set_option maxRecDepth 100000 in
set_option maxHeartbeats 1000000 in
theorem rsecond_any (xa ya xb yb xc yc : Int) (hxa : -1048576 ≤ xa ∧ xa ≤ 1048576) (hya : -1048576 ≤ ya ∧ ya ≤ 1048576) (hxb : -1048576 ≤ xb ∧ xb ≤ 1048576) (hyb : -1048576 ≤ yb ∧ yb ≤ 1048576) (hxc : -1048576 ≤ xc ∧ xc ≤ 1048576) (hyc : -1048576 ≤ yc ∧ yc ≤ 1048576) (w : World) :
    Calls Try.prog 29 #[.agg #[.int .i64 xa, .int .i64 ya], .agg #[.int .i64 xb, .int .i64 yb], .agg #[.int .i64 xc, .int .i64 yc]] w fun e w' => e = .returned (.int .i64 (max (bnd xa xb xc) (bnd ya yb yc))) ∧ Below w.heap.size w w' := by
  obtain ⟨ax1, ax2⟩ := hxa
  obtain ⟨ay1, ay2⟩ := hya
  obtain ⟨bx1, bx2⟩ := hxb
  obtain ⟨by1, by2⟩ := hyb
  obtain ⟨cx1, cx2⟩ := hxc
  obtain ⟨cy1, cy2⟩ := hyc
  rw [bnd_max xa, bnd_max ya]
  have C1 := fun W => rsize_any (xa - 2 * xb + xc) W ⟨by omega, by omega⟩
  have C2 := fun W => rsize_any (ya - 2 * yb + yc) W ⟨by omega, by omega⟩
  have C3 := fun W => rmost_any (max (xa - 2 * xb + xc) (-(xa - 2 * xb + xc))) (max (ya - 2 * yb + yc) (-(ya - 2 * yb + yc))) W
  have K1 := Blk.new w 23 #[.int .i64 xa, .int .i64 ya]
  have K2 := Blk.new (w.alloc (.cells #[.int .i64 xa, .int .i64 ya] 23)) 23 #[.int .i64 xb, .int .i64 yb]
  have K3 := Blk.new ((w.alloc (.cells #[.int .i64 xa, .int .i64 ya] 23)).alloc (.cells #[.int .i64 xb, .int .i64 yb] 23)) 23 #[.int .i64 xc, .int .i64 yc]
  simp only [World.size_alloc] at K2 K3
  obtain ⟨W0, hW0⟩ : ∃ W0, W0 = ((w.alloc (.cells #[.int .i64 xa, .int .i64 ya] 23)).alloc (.cells #[.int .i64 xb, .int .i64 yb] 23)).alloc (.cells #[.int .i64 xc, .int .i64 yc] 23) := ⟨_, rfl⟩
  have K1 := (K1.below (below_a1 _ (.cells #[.int .i64 xb, .int .i64 yb] 23))).below (below_a1 _ (.cells #[.int .i64 xc, .int .i64 yc] 23))
  have K2 := K2.below (below_a1 _ (.cells #[.int .i64 xc, .int .i64 yc] 23))
  have B0 : Below w.heap.size w W0 := by rw [hW0]; exact below_a3 _ _ _ _
  rw [← hW0] at K1 K2 K3
  have HD : ∀ V, Below W0.heap.size W0 V → (V.cell? ⟨w.heap.size, 0, none⟩ = some (.int .i64 xa) ∧ V.cell? ⟨w.heap.size, 1, none⟩ = some (.int .i64 ya) ∧ w.heap.size < V.heap.size) ∧ (V.cell? ⟨w.heap.size + 1, 0, none⟩ = some (.int .i64 xb) ∧ V.cell? ⟨w.heap.size + 1, 1, none⟩ = some (.int .i64 yb) ∧ w.heap.size + 1 < V.heap.size) ∧ (V.cell? ⟨w.heap.size + 1 + 1, 0, none⟩ = some (.int .i64 xc) ∧ V.cell? ⟨w.heap.size + 1 + 1, 1, none⟩ = some (.int .i64 yc) ∧ w.heap.size + 1 + 1 < V.heap.size) := fun V hV => ⟨⟨(K1.below hV).cell 0, (K1.below hV).cell 1, (K1.below hV).lt⟩, ⟨(K2.below hV).cell 0, (K2.below hV).cell 1, (K2.below hV).lt⟩, ⟨(K3.below hV).cell 0, (K3.below hV).cell 1, (K3.below hV).lt⟩⟩
  have HW0 := Lib.hid hW0
  clear K1 K2 K3 hW0
  have m1 : IntKind.i64.wrap (2 * xb) = 2 * xb := IntWalk.i64_in _ (by omega)
  have m2 : IntKind.i64.wrap (xa - 2 * xb) = xa - 2 * xb := IntWalk.i64_in _ (by omega)
  have m3 : IntKind.i64.wrap (xa - 2 * xb + xc) = xa - 2 * xb + xc := IntWalk.i64_in _ (by omega)
  have m4 : IntKind.i64.wrap (2 * yb) = 2 * yb := IntWalk.i64_in _ (by omega)
  have m5 : IntKind.i64.wrap (ya - 2 * yb) = ya - 2 * yb := IntWalk.i64_in _ (by omega)
  have m6 : IntKind.i64.wrap (ya - 2 * yb + yc) = ya - 2 * yb + yc := IntWalk.i64_in _ (by omega)
  go_enter Try.func29, Try.ntmps29
  go_wp2
  rw [← HW0.out]
  have hI : Below W0.heap.size W0 W0.drew := (Below.refl _ _).drew
  refine wp_region_chain (fun V => Below W0.heap.size W0 V) [(0, false), (1, false), (2, false), (3, false), (4, false), (5, false), (6, false), (7, false), (8, false), (10, false), (11, false), (12, false), (13, false), (14, false), (15, false), (16, false), (17, false), (18, false), (9, true), (19, true), (20, true), (21, false)] (by kernel_rfl) (by kernel_rfl) hI ?_
  repeat (first
    | (refine ChainL.skip (o := ?_) ?_ ?_ ?_; rotate_left; (focus (first | (simp only [List.getElem?_toArray, List.getElem?_cons_succ, List.getElem?_cons_zero]; with_reducible rfl) | (simp only [List.getElem?_toArray, List.getElem?_cons_zero]; with_reducible rfl))); (focus rfl); simp only [Act.put, List.setIfInBounds_toArray, List.set_cons_zero, List.set_cons_succ])
    | (refine ChainL.val (o := ?_) (v := ?_) ?_ ?_ ?_ ?_ ?_; rotate_left 2; (focus (first | (simp only [List.getElem?_toArray, List.getElem?_cons_succ, List.getElem?_cons_zero]; with_reducible rfl) | (simp only [List.getElem?_toArray, List.getElem?_cons_zero]; with_reducible rfl))); (focus (intro _ _ h; cases h)); (focus rfl); (focus (intro w' hJ; obtain ⟨⟨y1, y2, y3⟩, ⟨y4, y5, y6⟩, ⟨y7, y8, y9⟩⟩ := HD _ hJ; go_simp <;> with_reducible rfl)); simp only [Act.put, List.setIfInBounds_toArray, List.set_cons_zero, List.set_cons_succ]))
  refine ChainL.call (o := ?_) (f := ?_) (args := ?_) ?_ ?_ ?_ ?_
  rotate_left 3
  (focus (first | (simp only [List.getElem?_toArray, List.getElem?_cons_succ, List.getElem?_cons_zero]; with_reducible rfl) | (simp only [List.getElem?_toArray, List.getElem?_cons_zero]; with_reducible rfl)))
  (focus rfl)
  (focus (go_simp; (constructor <;> with_reducible rfl)))
  with_reducible refine (C1 _).mono ?_
  rintro e w5 ⟨rfl, rfl⟩
  refine ⟨_, rfl, hI, ?_⟩
  simp only [Act.put, List.setIfInBounds_toArray, List.set_cons_zero, List.set_cons_succ]
  refine ChainL.call (o := ?_) (f := ?_) (args := ?_) ?_ ?_ ?_ ?_
  rotate_left 3
  (focus (first | (simp only [List.getElem?_toArray, List.getElem?_cons_succ, List.getElem?_cons_zero]; with_reducible rfl) | (simp only [List.getElem?_toArray, List.getElem?_cons_zero]; with_reducible rfl)))
  (focus rfl)
  (focus (go_simp; (constructor <;> with_reducible rfl)))
  with_reducible refine (C2 _).mono ?_
  rintro e w5 ⟨rfl, rfl⟩
  refine ⟨_, rfl, hI, ?_⟩
  simp only [Act.put, List.setIfInBounds_toArray, List.set_cons_zero, List.set_cons_succ]
  refine ChainL.call (o := ?_) (f := ?_) (args := ?_) ?_ ?_ ?_ ?_
  rotate_left 3
  (focus (first | (simp only [List.getElem?_toArray, List.getElem?_cons_succ, List.getElem?_cons_zero]; with_reducible rfl) | (simp only [List.getElem?_toArray, List.getElem?_cons_zero]; with_reducible rfl)))
  (focus rfl)
  (focus (go_simp; (constructor <;> with_reducible rfl)))
  with_reducible refine (C3 _).mono ?_
  rintro e w5 ⟨rfl, rfl⟩
  refine ⟨_, rfl, hI, ?_⟩
  simp only [Act.put, List.setIfInBounds_toArray, List.set_cons_zero, List.set_cons_succ]
  repeat (first
    | (refine ChainL.skip (o := ?_) ?_ ?_ ?_; rotate_left; (focus (first | (simp only [List.getElem?_toArray, List.getElem?_cons_succ, List.getElem?_cons_zero]; with_reducible rfl) | (simp only [List.getElem?_toArray, List.getElem?_cons_zero]; with_reducible rfl))); (focus rfl); simp only [Act.put, List.setIfInBounds_toArray, List.set_cons_zero, List.set_cons_succ])
    | (refine ChainL.val (o := ?_) (v := ?_) ?_ ?_ ?_ ?_ ?_; rotate_left 2; (focus (first | (simp only [List.getElem?_toArray, List.getElem?_cons_succ, List.getElem?_cons_zero]; with_reducible rfl) | (simp only [List.getElem?_toArray, List.getElem?_cons_zero]; with_reducible rfl))); (focus (intro _ _ h; cases h)); (focus rfl); (focus (intro w' hJ; skip; go_simp <;> with_reducible rfl)); simp only [Act.put, List.setIfInBounds_toArray, List.set_cons_zero, List.set_cons_succ]))
  refine ChainL.nil ?_
  go_wp2
  go_ret
  exact ⟨ret_int (by omega), B0.drew⟩
set_option maxRecDepth 100000 in
theorem rdot_any (x y : Int) (w : World) : Calls Try.prog 28 #[.agg #[.int .i64 x, .int .i64 y]] w fun e w' => e = .returned (.bool (!farD (x, y))) ∧ Below w.heap.size w w' := by
  by_cases h1 : x ≥ -1048576
  · have d1 : decide (x ≥ -1048576) = true := by simpa using h1
    by_cases h2 : x ≤ 1048576
    · have d2 : decide (x ≤ 1048576) = true := by simpa using h2
      by_cases h3 : y ≥ -1048576
      · have d3 : decide (y ≥ -1048576) = true := by simpa using h3
        by_cases h4 : y ≤ 1048576
        · have d4 : decide (y ≤ 1048576) = true := by simpa using h4
          rw [show (!farD (x, y)) = true by simp [farD, farB]; omega]
          clear h1 h2 h3 h4
          go_enter Try.func28, Try.ntmps28
          go_wp2
          go_ret
          exact ⟨rfl, below_a1 _ _⟩
        · have d4 : decide (y ≤ 1048576) = false := by simpa using h4
          rw [show (!farD (x, y)) = false by simp [farD, farB]; omega]
          clear h1 h2 h3 h4
          go_enter Try.func28, Try.ntmps28
          go_wp2
          go_ret
          exact ⟨rfl, below_a1 _ _⟩
      · have d3 : decide (y ≥ -1048576) = false := by simpa using h3
        rw [show (!farD (x, y)) = false by simp [farD, farB]; omega]
        clear h1 h2 h3
        go_enter Try.func28, Try.ntmps28
        go_wp2
        go_ret
        exact ⟨rfl, below_a1 _ _⟩
    · have d2 : decide (x ≤ 1048576) = false := by simpa using h2
      rw [show (!farD (x, y)) = false by simp [farD, farB]; omega]
      clear h1 h2
      go_enter Try.func28, Try.ntmps28
      go_wp2
      go_ret
      exact ⟨rfl, below_a1 _ _⟩
  · have d1 : decide (x ≥ -1048576) = false := by simpa using h1
    rw [show (!farD (x, y)) = false by simp [farD, farB]; omega]
    clear h1
    go_enter Try.func28, Try.ntmps28
    go_wp2
    go_ret
    exact ⟨rfl, below_a1 _ _⟩
set_option maxRecDepth 100000 in
set_option maxHeartbeats 1000000 in
theorem rmay_1 (xa ya xb yb xc yc xd yd : Int) (w : World) : Calls Try.prog 12 #[.agg #[.int .i64 1, .int .i64 xa, .int .i64 ya, .int .i64 xb, .int .i64 yb, .int .i64 xc, .int .i64 yc, .int .i64 xd, .int .i64 yd]] w fun e w' => e = .returned (.bool (!([(xa, ya), (xd, yd)] : List Dt).any farD)) ∧ Below w.heap.size w w' := by
  have B0 := below_a1 w (.cells #[.int .i64 1, .int .i64 xa, .int .i64 ya, .int .i64 xb, .int .i64 yb, .int .i64 xc, .int .i64 yc, .int .i64 xd, .int .i64 yd] 25)
  have KB := Blk.new w 25 #[.int .i64 1, .int .i64 xa, .int .i64 ya, .int .i64 xb, .int .i64 yb, .int .i64 xc, .int .i64 yc, .int .i64 xd, .int .i64 yd]
  have Ca := fun W => rdot_any xa ya W
  have Cd := fun W => rdot_any xd yd W
  cases fa : farD (xa, ya)
  · rw [fa, show (!false) = true from rfl] at Ca
    cases fd : farD (xd, yd)
    · rw [fd, show (!false) = true from rfl] at Cd
      rw [show (!([(xa, ya), (xd, yd)] : List Dt).any farD) = true by simp only [List.any_cons, List.any_nil, fa, fd]; simp]
      clear fa fd
      go_enter Try.func12, Try.ntmps12
      go_wp2_with (first | (go_at_call 28; ((with_reducible refine (Ca _).mono ?_); rintro e w1 ⟨rfl, b1⟩; have B0 := B0.trans (b1.mono B0.size); have KB := KB.below b1; have kc := KB.lt; have k0 := KB.cell 0; have k1 := KB.cell 1; have k2 := KB.cell 2; have k3 := KB.cell 3; have k4 := KB.cell 4; have k5 := KB.cell 5; have k6 := KB.cell 6; have k7 := KB.cell 7; have k8 := KB.cell 8; clear Ca)) | (go_at_call 28; ((with_reducible refine (Cd _).mono ?_); rintro e w1 ⟨rfl, b1⟩; have B0 := B0.trans (b1.mono B0.size); have KB := KB.below b1; have kc := KB.lt; have k0 := KB.cell 0; have k1 := KB.cell 1; have k2 := KB.cell 2; have k3 := KB.cell 3; have k4 := KB.cell 4; have k5 := KB.cell 5; have k6 := KB.cell 6; have k7 := KB.cell 7; have k8 := KB.cell 8; clear Cd)))
      go_ret
      exact ⟨rfl, B0⟩
    · rw [fd, show (!true) = false from rfl] at Cd
      rw [show (!([(xa, ya), (xd, yd)] : List Dt).any farD) = false by simp only [List.any_cons, List.any_nil, fa, fd]; simp]
      clear fa fd
      go_enter Try.func12, Try.ntmps12
      go_wp2_with (first | (go_at_call 28; ((with_reducible refine (Ca _).mono ?_); rintro e w1 ⟨rfl, b1⟩; have B0 := B0.trans (b1.mono B0.size); have KB := KB.below b1; have kc := KB.lt; have k0 := KB.cell 0; have k1 := KB.cell 1; have k2 := KB.cell 2; have k3 := KB.cell 3; have k4 := KB.cell 4; have k5 := KB.cell 5; have k6 := KB.cell 6; have k7 := KB.cell 7; have k8 := KB.cell 8; clear Ca)) | (go_at_call 28; ((with_reducible refine (Cd _).mono ?_); rintro e w1 ⟨rfl, b1⟩; have B0 := B0.trans (b1.mono B0.size); have KB := KB.below b1; have kc := KB.lt; have k0 := KB.cell 0; have k1 := KB.cell 1; have k2 := KB.cell 2; have k3 := KB.cell 3; have k4 := KB.cell 4; have k5 := KB.cell 5; have k6 := KB.cell 6; have k7 := KB.cell 7; have k8 := KB.cell 8; clear Cd)))
      go_ret
      exact ⟨rfl, B0⟩
  · rw [fa, show (!true) = false from rfl] at Ca
    rw [show (!([(xa, ya), (xd, yd)] : List Dt).any farD) = false by simp only [List.any_cons, List.any_nil, fa]; simp]
    clear fa
    go_enter Try.func12, Try.ntmps12
    go_wp2_with (first | (go_at_call 28; ((with_reducible refine (Ca _).mono ?_); rintro e w1 ⟨rfl, b1⟩; have B0 := B0.trans (b1.mono B0.size); have KB := KB.below b1; have kc := KB.lt; have k0 := KB.cell 0; have k1 := KB.cell 1; have k2 := KB.cell 2; have k3 := KB.cell 3; have k4 := KB.cell 4; have k5 := KB.cell 5; have k6 := KB.cell 6; have k7 := KB.cell 7; have k8 := KB.cell 8; clear Ca)))
    go_ret
    exact ⟨rfl, B0⟩
set_option maxRecDepth 100000 in
set_option maxHeartbeats 1000000 in
theorem rmay_2 (xa ya xb yb xc yc xd yd : Int) (w : World) : Calls Try.prog 12 #[.agg #[.int .i64 2, .int .i64 xa, .int .i64 ya, .int .i64 xb, .int .i64 yb, .int .i64 xc, .int .i64 yc, .int .i64 xd, .int .i64 yd]] w fun e w' => e = .returned (.bool (!([(xa, ya), (xb, yb), (xd, yd)] : List Dt).any farD)) ∧ Below w.heap.size w w' := by
  have B0 := below_a1 w (.cells #[.int .i64 2, .int .i64 xa, .int .i64 ya, .int .i64 xb, .int .i64 yb, .int .i64 xc, .int .i64 yc, .int .i64 xd, .int .i64 yd] 25)
  have KB := Blk.new w 25 #[.int .i64 2, .int .i64 xa, .int .i64 ya, .int .i64 xb, .int .i64 yb, .int .i64 xc, .int .i64 yc, .int .i64 xd, .int .i64 yd]
  have Ca := fun W => rdot_any xa ya W
  have Cb := fun W => rdot_any xb yb W
  have Cd := fun W => rdot_any xd yd W
  cases fa : farD (xa, ya)
  · rw [fa, show (!false) = true from rfl] at Ca
    cases fb : farD (xb, yb)
    · rw [fb, show (!false) = true from rfl] at Cb
      cases fd : farD (xd, yd)
      · rw [fd, show (!false) = true from rfl] at Cd
        rw [show (!([(xa, ya), (xb, yb), (xd, yd)] : List Dt).any farD) = true by simp only [List.any_cons, List.any_nil, fa, fb, fd]; simp]
        clear fa fb fd
        go_enter Try.func12, Try.ntmps12
        go_wp2_with (first | (go_at_call 28; ((with_reducible refine (Ca _).mono ?_); rintro e w1 ⟨rfl, b1⟩; have B0 := B0.trans (b1.mono B0.size); have KB := KB.below b1; have kc := KB.lt; have k0 := KB.cell 0; have k1 := KB.cell 1; have k2 := KB.cell 2; have k3 := KB.cell 3; have k4 := KB.cell 4; have k5 := KB.cell 5; have k6 := KB.cell 6; have k7 := KB.cell 7; have k8 := KB.cell 8; clear Ca)) | (go_at_call 28; ((with_reducible refine (Cb _).mono ?_); rintro e w1 ⟨rfl, b1⟩; have B0 := B0.trans (b1.mono B0.size); have KB := KB.below b1; have kc := KB.lt; have k0 := KB.cell 0; have k1 := KB.cell 1; have k2 := KB.cell 2; have k3 := KB.cell 3; have k4 := KB.cell 4; have k5 := KB.cell 5; have k6 := KB.cell 6; have k7 := KB.cell 7; have k8 := KB.cell 8; clear Cb)) | (go_at_call 28; ((with_reducible refine (Cd _).mono ?_); rintro e w1 ⟨rfl, b1⟩; have B0 := B0.trans (b1.mono B0.size); have KB := KB.below b1; have kc := KB.lt; have k0 := KB.cell 0; have k1 := KB.cell 1; have k2 := KB.cell 2; have k3 := KB.cell 3; have k4 := KB.cell 4; have k5 := KB.cell 5; have k6 := KB.cell 6; have k7 := KB.cell 7; have k8 := KB.cell 8; clear Cd)))
        go_ret
        exact ⟨rfl, B0⟩
      · rw [fd, show (!true) = false from rfl] at Cd
        rw [show (!([(xa, ya), (xb, yb), (xd, yd)] : List Dt).any farD) = false by simp only [List.any_cons, List.any_nil, fa, fb, fd]; simp]
        clear fa fb fd
        go_enter Try.func12, Try.ntmps12
        go_wp2_with (first | (go_at_call 28; ((with_reducible refine (Ca _).mono ?_); rintro e w1 ⟨rfl, b1⟩; have B0 := B0.trans (b1.mono B0.size); have KB := KB.below b1; have kc := KB.lt; have k0 := KB.cell 0; have k1 := KB.cell 1; have k2 := KB.cell 2; have k3 := KB.cell 3; have k4 := KB.cell 4; have k5 := KB.cell 5; have k6 := KB.cell 6; have k7 := KB.cell 7; have k8 := KB.cell 8; clear Ca)) | (go_at_call 28; ((with_reducible refine (Cb _).mono ?_); rintro e w1 ⟨rfl, b1⟩; have B0 := B0.trans (b1.mono B0.size); have KB := KB.below b1; have kc := KB.lt; have k0 := KB.cell 0; have k1 := KB.cell 1; have k2 := KB.cell 2; have k3 := KB.cell 3; have k4 := KB.cell 4; have k5 := KB.cell 5; have k6 := KB.cell 6; have k7 := KB.cell 7; have k8 := KB.cell 8; clear Cb)) | (go_at_call 28; ((with_reducible refine (Cd _).mono ?_); rintro e w1 ⟨rfl, b1⟩; have B0 := B0.trans (b1.mono B0.size); have KB := KB.below b1; have kc := KB.lt; have k0 := KB.cell 0; have k1 := KB.cell 1; have k2 := KB.cell 2; have k3 := KB.cell 3; have k4 := KB.cell 4; have k5 := KB.cell 5; have k6 := KB.cell 6; have k7 := KB.cell 7; have k8 := KB.cell 8; clear Cd)))
        go_ret
        exact ⟨rfl, B0⟩
    · rw [fb, show (!true) = false from rfl] at Cb
      rw [show (!([(xa, ya), (xb, yb), (xd, yd)] : List Dt).any farD) = false by simp only [List.any_cons, List.any_nil, fa, fb]; simp]
      clear fa fb
      go_enter Try.func12, Try.ntmps12
      go_wp2_with (first | (go_at_call 28; ((with_reducible refine (Ca _).mono ?_); rintro e w1 ⟨rfl, b1⟩; have B0 := B0.trans (b1.mono B0.size); have KB := KB.below b1; have kc := KB.lt; have k0 := KB.cell 0; have k1 := KB.cell 1; have k2 := KB.cell 2; have k3 := KB.cell 3; have k4 := KB.cell 4; have k5 := KB.cell 5; have k6 := KB.cell 6; have k7 := KB.cell 7; have k8 := KB.cell 8; clear Ca)) | (go_at_call 28; ((with_reducible refine (Cb _).mono ?_); rintro e w1 ⟨rfl, b1⟩; have B0 := B0.trans (b1.mono B0.size); have KB := KB.below b1; have kc := KB.lt; have k0 := KB.cell 0; have k1 := KB.cell 1; have k2 := KB.cell 2; have k3 := KB.cell 3; have k4 := KB.cell 4; have k5 := KB.cell 5; have k6 := KB.cell 6; have k7 := KB.cell 7; have k8 := KB.cell 8; clear Cb)))
      go_ret
      exact ⟨rfl, B0⟩
  · rw [fa, show (!true) = false from rfl] at Ca
    rw [show (!([(xa, ya), (xb, yb), (xd, yd)] : List Dt).any farD) = false by simp only [List.any_cons, List.any_nil, fa]; simp]
    clear fa
    go_enter Try.func12, Try.ntmps12
    go_wp2_with (first | (go_at_call 28; ((with_reducible refine (Ca _).mono ?_); rintro e w1 ⟨rfl, b1⟩; have B0 := B0.trans (b1.mono B0.size); have KB := KB.below b1; have kc := KB.lt; have k0 := KB.cell 0; have k1 := KB.cell 1; have k2 := KB.cell 2; have k3 := KB.cell 3; have k4 := KB.cell 4; have k5 := KB.cell 5; have k6 := KB.cell 6; have k7 := KB.cell 7; have k8 := KB.cell 8; clear Ca)))
    go_ret
    exact ⟨rfl, B0⟩
set_option maxRecDepth 100000 in
set_option maxHeartbeats 1000000 in
theorem rmay_3 (xa ya xb yb xc yc xd yd : Int) (w : World) : Calls Try.prog 12 #[.agg #[.int .i64 3, .int .i64 xa, .int .i64 ya, .int .i64 xb, .int .i64 yb, .int .i64 xc, .int .i64 yc, .int .i64 xd, .int .i64 yd]] w fun e w' => e = .returned (.bool (!([(xa, ya), (xb, yb), (xc, yc), (xd, yd)] : List Dt).any farD)) ∧ Below w.heap.size w w' := by
  have B0 := below_a1 w (.cells #[.int .i64 3, .int .i64 xa, .int .i64 ya, .int .i64 xb, .int .i64 yb, .int .i64 xc, .int .i64 yc, .int .i64 xd, .int .i64 yd] 25)
  have KB := Blk.new w 25 #[.int .i64 3, .int .i64 xa, .int .i64 ya, .int .i64 xb, .int .i64 yb, .int .i64 xc, .int .i64 yc, .int .i64 xd, .int .i64 yd]
  have Ca := fun W => rdot_any xa ya W
  have Cb := fun W => rdot_any xb yb W
  have Cc := fun W => rdot_any xc yc W
  have Cd := fun W => rdot_any xd yd W
  cases fa : farD (xa, ya)
  · rw [fa, show (!false) = true from rfl] at Ca
    cases fb : farD (xb, yb)
    · rw [fb, show (!false) = true from rfl] at Cb
      cases fc : farD (xc, yc)
      · rw [fc, show (!false) = true from rfl] at Cc
        cases fd : farD (xd, yd)
        · rw [fd, show (!false) = true from rfl] at Cd
          rw [show (!([(xa, ya), (xb, yb), (xc, yc), (xd, yd)] : List Dt).any farD) = true by simp only [List.any_cons, List.any_nil, fa, fb, fc, fd]; simp]
          clear fa fb fc fd
          go_enter Try.func12, Try.ntmps12
          go_wp2_with (first | (go_at_call 28; ((with_reducible refine (Ca _).mono ?_); rintro e w1 ⟨rfl, b1⟩; have B0 := B0.trans (b1.mono B0.size); have KB := KB.below b1; have kc := KB.lt; have k0 := KB.cell 0; have k1 := KB.cell 1; have k2 := KB.cell 2; have k3 := KB.cell 3; have k4 := KB.cell 4; have k5 := KB.cell 5; have k6 := KB.cell 6; have k7 := KB.cell 7; have k8 := KB.cell 8; clear Ca)) | (go_at_call 28; ((with_reducible refine (Cb _).mono ?_); rintro e w1 ⟨rfl, b1⟩; have B0 := B0.trans (b1.mono B0.size); have KB := KB.below b1; have kc := KB.lt; have k0 := KB.cell 0; have k1 := KB.cell 1; have k2 := KB.cell 2; have k3 := KB.cell 3; have k4 := KB.cell 4; have k5 := KB.cell 5; have k6 := KB.cell 6; have k7 := KB.cell 7; have k8 := KB.cell 8; clear Cb)) | (go_at_call 28; ((with_reducible refine (Cc _).mono ?_); rintro e w1 ⟨rfl, b1⟩; have B0 := B0.trans (b1.mono B0.size); have KB := KB.below b1; have kc := KB.lt; have k0 := KB.cell 0; have k1 := KB.cell 1; have k2 := KB.cell 2; have k3 := KB.cell 3; have k4 := KB.cell 4; have k5 := KB.cell 5; have k6 := KB.cell 6; have k7 := KB.cell 7; have k8 := KB.cell 8; clear Cc)) | (go_at_call 28; ((with_reducible refine (Cd _).mono ?_); rintro e w1 ⟨rfl, b1⟩; have B0 := B0.trans (b1.mono B0.size); have KB := KB.below b1; have kc := KB.lt; have k0 := KB.cell 0; have k1 := KB.cell 1; have k2 := KB.cell 2; have k3 := KB.cell 3; have k4 := KB.cell 4; have k5 := KB.cell 5; have k6 := KB.cell 6; have k7 := KB.cell 7; have k8 := KB.cell 8; clear Cd)))
          go_ret
          exact ⟨rfl, B0⟩
        · rw [fd, show (!true) = false from rfl] at Cd
          rw [show (!([(xa, ya), (xb, yb), (xc, yc), (xd, yd)] : List Dt).any farD) = false by simp only [List.any_cons, List.any_nil, fa, fb, fc, fd]; simp]
          clear fa fb fc fd
          go_enter Try.func12, Try.ntmps12
          go_wp2_with (first | (go_at_call 28; ((with_reducible refine (Ca _).mono ?_); rintro e w1 ⟨rfl, b1⟩; have B0 := B0.trans (b1.mono B0.size); have KB := KB.below b1; have kc := KB.lt; have k0 := KB.cell 0; have k1 := KB.cell 1; have k2 := KB.cell 2; have k3 := KB.cell 3; have k4 := KB.cell 4; have k5 := KB.cell 5; have k6 := KB.cell 6; have k7 := KB.cell 7; have k8 := KB.cell 8; clear Ca)) | (go_at_call 28; ((with_reducible refine (Cb _).mono ?_); rintro e w1 ⟨rfl, b1⟩; have B0 := B0.trans (b1.mono B0.size); have KB := KB.below b1; have kc := KB.lt; have k0 := KB.cell 0; have k1 := KB.cell 1; have k2 := KB.cell 2; have k3 := KB.cell 3; have k4 := KB.cell 4; have k5 := KB.cell 5; have k6 := KB.cell 6; have k7 := KB.cell 7; have k8 := KB.cell 8; clear Cb)) | (go_at_call 28; ((with_reducible refine (Cc _).mono ?_); rintro e w1 ⟨rfl, b1⟩; have B0 := B0.trans (b1.mono B0.size); have KB := KB.below b1; have kc := KB.lt; have k0 := KB.cell 0; have k1 := KB.cell 1; have k2 := KB.cell 2; have k3 := KB.cell 3; have k4 := KB.cell 4; have k5 := KB.cell 5; have k6 := KB.cell 6; have k7 := KB.cell 7; have k8 := KB.cell 8; clear Cc)) | (go_at_call 28; ((with_reducible refine (Cd _).mono ?_); rintro e w1 ⟨rfl, b1⟩; have B0 := B0.trans (b1.mono B0.size); have KB := KB.below b1; have kc := KB.lt; have k0 := KB.cell 0; have k1 := KB.cell 1; have k2 := KB.cell 2; have k3 := KB.cell 3; have k4 := KB.cell 4; have k5 := KB.cell 5; have k6 := KB.cell 6; have k7 := KB.cell 7; have k8 := KB.cell 8; clear Cd)))
          go_ret
          exact ⟨rfl, B0⟩
      · rw [fc, show (!true) = false from rfl] at Cc
        rw [show (!([(xa, ya), (xb, yb), (xc, yc), (xd, yd)] : List Dt).any farD) = false by simp only [List.any_cons, List.any_nil, fa, fb, fc]; simp]
        clear fa fb fc
        go_enter Try.func12, Try.ntmps12
        go_wp2_with (first | (go_at_call 28; ((with_reducible refine (Ca _).mono ?_); rintro e w1 ⟨rfl, b1⟩; have B0 := B0.trans (b1.mono B0.size); have KB := KB.below b1; have kc := KB.lt; have k0 := KB.cell 0; have k1 := KB.cell 1; have k2 := KB.cell 2; have k3 := KB.cell 3; have k4 := KB.cell 4; have k5 := KB.cell 5; have k6 := KB.cell 6; have k7 := KB.cell 7; have k8 := KB.cell 8; clear Ca)) | (go_at_call 28; ((with_reducible refine (Cb _).mono ?_); rintro e w1 ⟨rfl, b1⟩; have B0 := B0.trans (b1.mono B0.size); have KB := KB.below b1; have kc := KB.lt; have k0 := KB.cell 0; have k1 := KB.cell 1; have k2 := KB.cell 2; have k3 := KB.cell 3; have k4 := KB.cell 4; have k5 := KB.cell 5; have k6 := KB.cell 6; have k7 := KB.cell 7; have k8 := KB.cell 8; clear Cb)) | (go_at_call 28; ((with_reducible refine (Cc _).mono ?_); rintro e w1 ⟨rfl, b1⟩; have B0 := B0.trans (b1.mono B0.size); have KB := KB.below b1; have kc := KB.lt; have k0 := KB.cell 0; have k1 := KB.cell 1; have k2 := KB.cell 2; have k3 := KB.cell 3; have k4 := KB.cell 4; have k5 := KB.cell 5; have k6 := KB.cell 6; have k7 := KB.cell 7; have k8 := KB.cell 8; clear Cc)))
        go_ret
        exact ⟨rfl, B0⟩
    · rw [fb, show (!true) = false from rfl] at Cb
      rw [show (!([(xa, ya), (xb, yb), (xc, yc), (xd, yd)] : List Dt).any farD) = false by simp only [List.any_cons, List.any_nil, fa, fb]; simp]
      clear fa fb
      go_enter Try.func12, Try.ntmps12
      go_wp2_with (first | (go_at_call 28; ((with_reducible refine (Ca _).mono ?_); rintro e w1 ⟨rfl, b1⟩; have B0 := B0.trans (b1.mono B0.size); have KB := KB.below b1; have kc := KB.lt; have k0 := KB.cell 0; have k1 := KB.cell 1; have k2 := KB.cell 2; have k3 := KB.cell 3; have k4 := KB.cell 4; have k5 := KB.cell 5; have k6 := KB.cell 6; have k7 := KB.cell 7; have k8 := KB.cell 8; clear Ca)) | (go_at_call 28; ((with_reducible refine (Cb _).mono ?_); rintro e w1 ⟨rfl, b1⟩; have B0 := B0.trans (b1.mono B0.size); have KB := KB.below b1; have kc := KB.lt; have k0 := KB.cell 0; have k1 := KB.cell 1; have k2 := KB.cell 2; have k3 := KB.cell 3; have k4 := KB.cell 4; have k5 := KB.cell 5; have k6 := KB.cell 6; have k7 := KB.cell 7; have k8 := KB.cell 8; clear Cb)))
      go_ret
      exact ⟨rfl, B0⟩
  · rw [fa, show (!true) = false from rfl] at Ca
    rw [show (!([(xa, ya), (xb, yb), (xc, yc), (xd, yd)] : List Dt).any farD) = false by simp only [List.any_cons, List.any_nil, fa]; simp]
    clear fa
    go_enter Try.func12, Try.ntmps12
    go_wp2_with (first | (go_at_call 28; ((with_reducible refine (Ca _).mono ?_); rintro e w1 ⟨rfl, b1⟩; have B0 := B0.trans (b1.mono B0.size); have KB := KB.below b1; have kc := KB.lt; have k0 := KB.cell 0; have k1 := KB.cell 1; have k2 := KB.cell 2; have k3 := KB.cell 3; have k4 := KB.cell 4; have k5 := KB.cell 5; have k6 := KB.cell 6; have k7 := KB.cell 7; have k8 := KB.cell 8; clear Ca)))
    go_ret
    exact ⟨rfl, B0⟩
set_option maxRecDepth 100000 in
theorem rmay_0 (k : Int) (xa ya xb yb xc yc xd yd : Int) (w : World) (h1 : (k == 1) = false) (h2 : (k == 2) = false) (h3 : (k == 3) = false) : Calls Try.prog 12 #[.agg #[.int .i64 k, .int .i64 xa, .int .i64 ya, .int .i64 xb, .int .i64 yb, .int .i64 xc, .int .i64 yc, .int .i64 xd, .int .i64 yd]] w fun e w' => e = .returned (.bool false) ∧ Below w.heap.size w w' := by
  go_enter Try.func12, Try.ntmps12
  go_wp2
  go_ret
  exact ⟨rfl, below_a1 _ _⟩
theorem rcmay_any (c : Bw) (w : World) : Calls Try.prog 12 #[bwV c] w fun e w' => e = .returned (.bool (mayW c)) ∧ Below w.heap.size w w' := by
  obtain ⟨k, xa, ya, xb, yb, xc, yc, xd, yd⟩ := c
  unfold bwV mayW
  dsimp only
  rcases kinds k with rfl | rfl | rfl | ⟨h1, h2, h3⟩
  · exact rmay_1 xa ya xb yb xc yc xd yd w
  · exact rmay_2 xa ya xb yb xc yc xd yd w
  · exact rmay_3 xa ya xb yb xc yc xd yd w
  · rw [plc_0 h1 h2 h3]; exact rmay_0 k xa ya xb yb xc yc xd yd w h1 h2 h3
end Go.Proofs.Ytngfillgndhfbaa
